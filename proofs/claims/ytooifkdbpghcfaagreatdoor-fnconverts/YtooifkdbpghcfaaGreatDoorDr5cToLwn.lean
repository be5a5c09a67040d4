/- The draw of a message that is not always right; no conditions beyond those that each fact names · What is drawn for ConvertPart: a message, two numbers; sources of at most 1048576 bytes · The laws' look at two slices of numbers: whether they are the same; at most 1048576 numbers. -/
import Derived.Test.YtooifkdbpghcfaaGreatDoorDr5ToDr5w
import Derived.Test.YtooifkdbpghcfaaGreatDoorDrwToDrl4
import Derived.Test.YtooifkdbpghcfaaGreatDoorMemIToSee
import Derived.Test.YtooifkdbpghcfaaGreatDoorCsoToAll
namespace Go.Proofs.YtooifkdbpghcfaaGreatDoor
open Go.RowKit
set_option linter.unusedVariables false

theorem nth_set (d : List Nat) (i j y : Nat) (hj : j < d.length) : nth (d.set i y) j = if i = j then y else nth d j := by
  unfold nth
  rw [List.getD_eq_getElem?_getD, List.getD_eq_getElem?_getD, List.getElem?_set]
  by_cases h : i = j
  · subst h; rw [if_pos rfl, if_pos rfl, if_pos hj]; rfl
  · rw [if_neg h, if_neg h]
theorem nth_takeB (d : List Nat) (k j : Nat) (hj : j < k) : nth (d.take k) j = nth d j := by
  unfold nth
  rw [List.getD_eq_getElem?_getD, List.getD_eq_getElem?_getD, List.getElem?_take_of_lt hj]
theorem D0.set {lo g n c i y : Nat} {w : World} {d : List Nat} (h : D0 lo w (some ⟨g, 0, none⟩, n, c) d) (hi : i < d.length) (hy : y < 256) : D0 lo (w.setCell ⟨g, i, none⟩ (.int .u8 (y : Int))) (some ⟨g, 0, none⟩, n, c) (d.set i y) := by
  obtain ⟨h1, h2, h3, h4, h5, h6⟩ := h
  refine ⟨by rw [List.length_set]; exact h1, h2, h3, fun z hz => ?_, h5, .inr ?_⟩
  · rcases List.mem_or_eq_of_mem_set hz with h | rfl
    · exact h4 z h
    · exact hy
  · rcases h6 with h6 | ⟨g', e, hg, hc⟩
    · subst h6; simp at hi
    · cases e
      refine ⟨g, rfl, by simpa using hg, fun j hj => ?_⟩
      rw [List.length_set] at hj
      rw [nth_set d i j y hj]
      by_cases hij : i = j
      · subst hij
        rw [if_pos rfl]
        exact World.cell?_setCell_same _ _ _ (hc i hj)
      · rw [if_neg hij]
        exact (World.cell?_setCell_other _ _ _ _ (fun e => by injection e with _ e; exact hij (by omega))).trans (hc j hj)
theorem D0.take {lo n c : Nat} {a : Option Addr} {w : World} {d : List Nat} (h : D0 lo w (a, n, c) d) (k : Nat) (hk : k ≤ n) : D0 lo w (a, k, c) (d.take k) := by
  obtain ⟨h1, h2, h3, h4, h5, h6⟩ := h
  dsimp only at *
  refine ⟨by rw [List.length_take]; dsimp only; omega, Nat.le_trans hk h2, h3, isB_take h4 k, h5, ?_⟩
  rcases h6 with h6 | ⟨g, e, hg, hc⟩
  · left; rw [h6]; exact List.take_nil
  · right
    refine ⟨g, e, hg, fun j hj => ?_⟩
    rw [List.length_take] at hj
    rw [nth_takeB d k j (by omega)]
    exact hc j (by omega)

/-- How the draw of some bytes ends, its block known. -/
def SxW (B b M K : Nat) (w : World) (e : Ending) (w' : World) : Prop := ∃ (s : SlQ) (out : List Nat), e = .returned (slW s) ∧ D0 w.heap.size w' s out ∧ out.length ≤ K ∧ Go.Proofs.YtooifkdbpghcfaaGreatDoor.Src w' B b M ∧ Kb b w w' ∧ ∃ g, s.1 = some ⟨g, 0, none⟩ ∧ g < w'.heap.size

set_option maxHeartbeats 3200000 in
set_option maxRecDepth 100000 in
theorem l5Bent_at (B b M : Nat) (w : World) (hs : Go.Proofs.YtooifkdbpghcfaaGreatDoor.Src w B b M) (hM : M ≤ 70000) :
    Calls Tryz.prog 33 #[.pointer (some ⟨b, 0, none⟩)] w fun e w' => SxW B b (M + 210) 600 w e w' := by
  have hbw : b < w.heap.size := hs.2.1
  go_enter Tryz.func33, Tryz.ntmps33
  go_wp2_with fail
  refine (l5Draw_w B b M w hs (by omega)).mono ?_
  rintro e w1 ⟨⟨a, n, c⟩, out, rfl, hd1, hl, hs1, hk1, hf1⟩
  dsimp only [slW] at hd1 ⊢
  obtain ⟨⟨g, hag⟩, hlo⟩ := hd1.2.2.2.2.1
  dsimp only at hag
  subst hag
  have hn : out.length = n := hd1.1
  have hnc : n ≤ c := hd1.2.1
  have hcm : c ≤ maxLen := hd1.2.2.1
  unfold maxLen at hcm
  clear hlo hs
  go_wp2_with fail
  refine (l1Next_any B b (M + 200) 8 w1 hs1 (by omega) (by omega) (by omega)).mono ?_
  rintro e w2 ⟨r, rfl, r0, r1, -, hs2, hg2⟩
  have hK2 : Kb b w w2 := hk1.trans hg2
  have hd2 := hd1.kz (Kz.kb hg2 hbw)
  have hf2 := hf1.kb hg2 hbw
  clear hs1 hk1 hg2 hd1 hf1
  by_cases h0 : r = 0
  · subst h0
    by_cases hn0 : n = 0
    · subst hn0
      have HF : Hid (SxW B b (M + 210) 600 w (.returned (.slice (some ⟨g, 0, none⟩) 0 c)) w2) := ⟨(some ⟨g, 0, none⟩, 0, c), out, rfl, hd2, hl, hs2.more (by omega), hK2, ⟨g, rfl, (hf2 g rfl).2.1⟩⟩
      clear hd2 hf2 hs2 hK2
      go_wp2
      go_ret
      exact HF.out
    · have hnp : (0 : Int) < (n : Int) := by omega
      go_wp2_with fail
      refine (l1Next_any B b (M + 201) (n : Int) w2 hs2 (by omega) (by omega) (by omega)).mono ?_
      rintro e w3 ⟨q, rfl, q0, q1, -, hs3, hg3⟩
      obtain ⟨i, rfl⟩ := Int.eq_ofNat_of_zero_le q0
      have hi : i < n := by have := q1 (by omega); omega
      have hi' : (i : Int) < (n : Int) := by omega
      have hK3 := hK2.grown hg3
      have hd3 := hd2.kz (Kz.kb hg3 hbw)
      have hf3 := hf2.kb hg3 hbw
      clear hs2 hg3 hK2 hd2 hf2 q0 q1
      have hbA : Below w3.heap.size w3 (w3.alloc (.cells #[.int .i64 10, .int .i64 45, .int .i64 58, .int .i64 98] 2)) := (Below.refl _ _).alloc (Nat.le_refl _) _
      have hsA := hs3.below (hbA.mono hs3.2.1)
      have hKA := hK3.below hbA
      have hdA := hd3.kz (Kz.below _ hbA)
      have hfA : FzB w.heap.size (w3.alloc (.cells #[.int .i64 10, .int .i64 45, .int .i64 58, .int .i64 98] 2)) (some ⟨g, 0, none⟩, n, c) := fun g' e' => by
        obtain ⟨x1, x2, x3⟩ := hf3 g' e'
        exact ⟨x1, Nat.lt_of_lt_of_le x2 hbA.size, fun j hj => (hbA.frozen (p := ⟨g', j, none⟩) x2).trans (x3 j hj)⟩
      have hbS : b < w3.heap.size := hs3.2.1
      clear hs3 hK3 hd3 hf3 hbA
      go_wp2_with fail
      refine (l1Pick_any B b _ _ 4 4 [10, 45, 58, 98] _ hsA (by omega) rfl (by omega) (by omega) (nums_new rfl) hbS).mono ?_
      rintro e w5 ⟨x, rfl, hx, hs5, hg5⟩
      have hx' : 0 ≤ x ∧ x < 256 := by
        simp only [List.mem_cons, List.not_mem_nil, or_false] at hx
        omega
      obtain ⟨y, rfl⟩ := Int.eq_ofNat_of_zero_le hx'.1
      have hy : y < 256 := by omega
      have hK5 := hKA.grown hg5
      have hd5 := hdA.kz (Kz.kb hg5 hbw)
      have hf5 := hfA.kb hg5 hbw
      clear hsA hKA hdA hfA hg5 hx
      obtain ⟨hfl, hfs, hfz⟩ := hf5 g rfl
      have hcl : w5.cell? ⟨g, i, none⟩ = some (.int .u8 (nth out i : Int)) := by
        rcases hd5.2.2.2.2.2 with h | ⟨g', e', -, hc⟩
        · exfalso; rw [h] at hn; simp at hn; omega
        · cases e'; exact hc i (by omega)
      have hfi := hfz i (by dsimp only; omega)
      have hd6 := hd5.set (i := i) (y := y) (by omega) hy
      have hs6 : Go.Proofs.YtooifkdbpghcfaaGreatDoor.Src (w5.setCell ⟨g, i, none⟩ (.int .u8 (y : Int))) B b _ := hs5.below ((Below.refl _ _).setCell (p := ⟨g, i, none⟩) (show b + 1 ≤ g by omega) _)
      have hK6 : Kb b w (w5.setCell ⟨g, i, none⟩ (.int .u8 (y : Int))) := hK5.below' ((Below.refl _ _).setCell (p := ⟨g, i, none⟩) hfl _)
      have HF : Hid (SxW B b (M + 210) 600 w (.returned (.slice (some ⟨g, 0, none⟩) n c)) (w5.setCell ⟨g, i, none⟩ (.int .u8 (y : Int)))) := ⟨(some ⟨g, 0, none⟩, n, c), out.set i y, rfl, hd6, by rw [List.length_set]; exact hl, hs6.more (by omega), hK6, ⟨g, rfl, by simpa using hfs⟩⟩
      clear hd6 hs6 hK6 hd5 hf5 hs5 hK5 hfz hfl hfs
      go_wp2
      go_ret
      exact HF.out
  · have e0 : (r == 0) = false := beq_eq_false_iff_ne.2 h0
    by_cases h1 : r = 1
    · subst h1
      go_wp2_with fail
      refine (l1Next_any B b (M + 201) ((n : Int) + 1) w2 hs2 (by omega) (by omega) (by omega)).mono ?_
      rintro e w3 ⟨q, rfl, q0, q1, -, hs3, hg3⟩
      obtain ⟨i, rfl⟩ := Int.eq_ofNat_of_zero_le q0
      have hi : i ≤ n := by have := q1 (by omega); omega
      have hi' : (i : Int) ≤ (c : Int) := by omega
      have hK3 := hK2.grown hg3
      have hd3 := (hd2.kz (Kz.kb hg3 hbw)).take i hi
      have HF : Hid (SxW B b (M + 210) 600 w (.returned (.slice (some ⟨g, 0, none⟩) i c)) w3) := ⟨(some ⟨g, 0, none⟩, i, c), out.take i, rfl, hd3, by rw [List.length_take]; omega, hs3.more (by omega), hK3, ⟨g, rfl, Nat.lt_of_lt_of_le (hf2 g rfl).2.1 (World.grownBy.size hg3)⟩⟩
      clear hs2 hg3 hK2 hd2 hf2 q0 q1 hs3 hK3 hd3
      go_wp2
      go_ret
      exact HF.out
    · have e1 : (r == 1) = false := beq_eq_false_iff_ne.2 h1
      by_cases h2 : r = 2
      · subst h2
        go_wp2_with fail
        refine (l1Chance_any B b (M + 201) 5 w2 hs2 (by omega) (by omega) (by omega)).mono ?_
        rintro e w3 ⟨q, rfl, hs3, hg3⟩
        have hK3 := hK2.grown hg3
        have hd3 := hd2.kz (Kz.kb hg3 hbw)
        have hlt3 : g < w3.heap.size := Nat.lt_of_lt_of_le (hf2 g rfl).2.1 (World.grownBy.size hg3)
        clear hs2 hg3 hK2 hd2 hf2
        cases q with
        | false =>
          have HF : Hid (SxW B b (M + 210) 600 w (.returned (.slice (some ⟨g, 0, none⟩) n c)) w3) := ⟨(some ⟨g, 0, none⟩, n, c), out, rfl, hd3, hl, hs3.more (by omega), hK3, ⟨g, rfl, hlt3⟩⟩
          clear hd3 hs3 hK3
          go_wp2
          go_ret
          exact HF.out
        | true =>
          have hbA : Below w3.heap.size w3 (w3.alloc (.cells (madeCells #[.int .u8 0] 401) 5)) := (Below.refl _ _).alloc (Nat.le_refl _) _
          have hsA := hs3.below (hbA.mono hs3.2.1)
          have hKA := hK3.below hbA
          have hdA : D0 w.heap.size (w3.alloc (.cells (madeCells #[.int .u8 0] 401) 5)) (some ⟨w3.heap.size, 0, none⟩, 401, 401) (List.replicate 401 0) := by
            refine ⟨by simp, Nat.le_refl _, (by decide : (401 : Nat) ≤ maxLen), fun z hz => by rw [List.eq_of_mem_replicate hz]; decide, ⟨⟨_, rfl⟩, fun x hx => by cases hx; exact hK3.size⟩, .inr ⟨_, rfl, by simp, fun j hj => ?_⟩⟩
            rw [List.length_replicate] at hj
            rw [World.cell?_alloc_mark]
            have : nth (List.replicate 401 0) j = 0 := by
              unfold nth
              rw [List.getD_eq_getElem?_getD, List.getElem?_replicate]
              split <;> rfl
            rw [this]
            simp [madeCells, hj, Nat.mod_one]
          have HF : Hid (SxW B b (M + 210) 600 w (.returned (.slice (some ⟨w3.heap.size, 0, none⟩) 401 401)) (w3.alloc (.cells (madeCells #[.int .u8 0] 401) 5))) := ⟨(some ⟨w3.heap.size, 0, none⟩, 401, 401), _, rfl, hdA, by simp, hsA.more (by omega), hKA, ⟨w3.heap.size, rfl, by simp⟩⟩
          obtain ⟨i0, hi, hz0, hz1, hz2⟩ := info_parts infoB
          have hmk : (Instr.makeSlice 22 (.int .i64 401) (.int .i64 401)).run Tryz.prog w3 = .ok (.slice (some ⟨w3.heap.size, 0, none⟩) 401 401) (w3.alloc (.cells (madeCells #[.int .u8 0] 401) 5)) := by
            have h := run_makeSlice (P := Tryz.prog) w3 22 5 i0 (.int .u8 0) Tryz.underlying22 hi hz0 .i64 .i64 401 401 (by omega) (by omega) (by rw [hz1]; decide) (by rw [hz2]; decide) (by omega)
            rw [hz1] at h
            exact h
          clear hd3 hs3 hK3 hbA hsA hKA hdA
          go_wp2
          go_ret
          exact HF.out
      · have e2 : (r == 2) = false := beq_eq_false_iff_ne.2 h2
        have HF : Hid (SxW B b (M + 210) 600 w (.returned (.slice (some ⟨g, 0, none⟩) n c)) w2) := ⟨(some ⟨g, 0, none⟩, n, c), out, rfl, hd2, hl, hs2.more (by omega), hK2, ⟨g, rfl, (hf2 g rfl).2.1⟩⟩
        clear hd2 hf2 hs2 hK2
        go_wp2
        go_ret
        exact HF.out

end Go.Proofs.YtooifkdbpghcfaaGreatDoor

namespace Go.Proofs.YtooifkdbpghcfaaGreatDoor
open Go.RowKit
set_option linter.unusedVariables false

set_option maxHeartbeats 800000 in
set_option maxRecDepth 100000 in
theorem l1Later_any (a : Option Addr) (n cap : Nat) (l : List Nat) (w : World) (hl : l.length = n) (hr : Rd w a l) (hB : IsB l) (hn : n ≤ 1048576) :
    Calls Tryz.prog 42 #[.slice a n cap, .int .i64 3] w fun e w' => e = .returned (.pointer (some ⟨w.heap.size, 0, none⟩)) ∧ Src w' w.heap.size w.heap.size 26 ∧ Below w.heap.size w w' := by
  have hb : Below w.heap.size w (w.alloc (.cells #[.slice a n cap, .int .i64 26] 88)) := (Below.refl _ _).alloc (Nat.le_refl _) _
  have hS : Src (w.alloc (.cells #[.slice a n cap, .int .i64 26] 88)) w.heap.size w.heap.size 26 := by
    refine ⟨Nat.le_refl _, by simp, a, n, cap, 26, l, by simp, by simp, by simp, hl, hn, hB, Nat.le_refl _, ?_⟩
    rcases hr with h | ⟨d, off, e, hlt, hc⟩
    · exact .inl h
    · exact .inr ⟨d, off, e, hlt, fun i hi => (hb.cell (p := ⟨d, off + i, none⟩) hlt).trans (hc i (by omega))⟩
  have HS : Hid (_) := hS
  clear hS
  go_enter Tryz.func42, Tryz.ntmps42
  go_wp2
  go_ret
  exact ⟨rfl, HS.out, hb⟩

/-- How the draw of a message and a number ends. -/
def PoE (w : World) (e : Ending) (w' : World) : Prop := ∃ (d : List Nat) (g cp : Nat) (k : Int), e = .returned (.tuple #[.slice (some ⟨g, 0, none⟩) d.length cp, .int .i64 k]) ∧ Rd w' (some ⟨g, 0, none⟩) d ∧ g < w'.heap.size ∧ d.length ≤ cp ∧ IsB d ∧ Below w.heap.size w w'
set_option maxHeartbeats 1600000 in
set_option maxRecDepth 100000 in
theorem drawPathOf_any (a : Option Addr) (n cap : Nat) (l : List Nat) (w : World) (hl : l.length = n) (hr : Rd w a l) (hB0 : IsB l) (hn : n ≤ 1048576) :
    Calls Tryz.prog 40 #[.slice a n cap] w fun e w' => PoE w e w' := by
  go_enter Tryz.func40, Tryz.ntmps40
  go_wp2_with fail
  refine (l1Source_any a n cap l _ hl hr hB0 hn).mono ?_
  rintro e w1 ⟨rfl, hs1, hb1⟩
  have hbw : w.heap.size < w1.heap.size := hs1.2.1
  go_wp2_with fail
  refine (l5Bent_at w.heap.size w.heap.size 0 w1 hs1 (by omega)).mono ?_
  rintro e w2 ⟨⟨sa, sn, sc⟩, d, rfl, hd, hl6, hs2, hk, ⟨g, hg, hlt⟩⟩
  dsimp only [slW] at hg ⊢
  subst hg
  have hN : d.length = sn := hd.1
  have hB2 : Below w.heap.size w w2 := hb1.trans (gbelow hk hbw)
  have hglo : w.heap.size < g := by
    have := hd.2.2.2.2.1.2 _ rfl
    dsimp only at this; omega
  have hrd := hd.sl.2.2.2.2.1
  have hcs := hd.2.1
  have hBd := hd.2.2.2.1
  have hz2 : w.heap.size < w2.heap.size := hs2.2.1
  clear hs1 hb1 hd hk
  go_wp2_with fail
  refine (l1Next_any w.heap.size w.heap.size _ 5 w2 hs2 (by omega) (by omega) (by omega)).mono ?_
  rintro e w3 ⟨r, rfl, r0, r1, -, -, hg3⟩
  have hB3 : Below w.heap.size w w3 := hB2.trans (gbelow hg3 hz2)
  have hr5 := r1 (by omega)
  have hrd3 : Rd w3 (some ⟨g, 0, none⟩) d := by
    rcases hrd with h | ⟨b, off, e, hlt2, hc⟩
    · exact .inl h
    · cases e
      exact .inr ⟨g, 0, rfl, Nat.lt_of_lt_of_le hlt2 (World.grownBy.size hg3), fun i hi => (hg3.cell_far ⟨g, 0 + i, none⟩ hlt2 (fun h => by injection h with h; dsimp only at h; omega)).trans (hc i hi)⟩
  have HF : Hid (PoE w (.returned (.tuple #[.slice (some ⟨g, 0, none⟩) sn sc, .int .i64 (r - 1)])) w3) := ⟨d, g, sc, r - 1, by rw [hN], hrd3, Nat.lt_of_lt_of_le hlt (World.grownBy.size hg3), by rw [hN]; exact hcs, hBd, hB3⟩
  clear hs2 hrd hrd3 hB2 hB3 hg3 r1 hcs
  go_wp2
  refine bodyPost_ret (v := .tuple #[.slice (some ⟨g, 0, none⟩) sn sc, .int .i64 (r - 1)]) (by simp [results, Tryz.results40, go_sem]) rfl ?_
  exact HF.out

/-- How the draw of a message and two numbers ends. -/
def CvE (w : World) (e : Ending) (w' : World) : Prop := ∃ (d : List Nat) (g cp : Nat) (k cs : Int), e = .returned (.tuple #[.slice (some ⟨g, 0, none⟩) d.length cp, .int .i64 k, .int .i64 cs]) ∧ Rd w' (some ⟨g, 0, none⟩) d ∧ g < w'.heap.size ∧ d.length ≤ cp ∧ IsB d ∧ Below w.heap.size w w'
set_option maxHeartbeats 1600000 in
set_option maxRecDepth 100000 in
theorem drawConvertPart_any (a : Option Addr) (n cap : Nat) (l : List Nat) (w : World) (hl : l.length = n) (hr : Rd w a l) (hB0 : IsB l) (hn : n ≤ 1048576) :
    Calls Tryz.prog 15 #[.slice a n cap] w fun e w' => CvE w e w' := by
  go_enter Tryz.func15, Tryz.ntmps15
  go_wp2_with fail
  refine (drawPathOf_any a n cap l _ hl hr hB0 hn).mono ?_
  rintro e w1 ⟨d, g, cp, k, rfl, hrd, hg, hcp, hBd, hb1⟩
  obtain ⟨N, hN⟩ : ∃ N, d.length = N := ⟨_, rfl⟩
  rw [hN]
  go_wp2_with fail
  refine (l1Later_any a n cap l w1 hl (hr.below hb1) hB0 hn).mono ?_
  rintro e w2 ⟨rfl, hs2, hb2⟩
  have hz2 : w1.heap.size < w2.heap.size := hs2.2.1
  go_wp2_with fail
  refine (l2Draw_any w1.heap.size w1.heap.size 26 w2 hs2 (by omega)).mono ?_
  rintro e w3 ⟨cs, rfl, -, hg3⟩
  have hb3 : Below w1.heap.size w1 w3 := hb2.trans (gbelow hg3 hz2)
  have HF : Hid (CvE w (.returned (.tuple #[.slice (some ⟨g, 0, none⟩) N cp, .int .i64 k, .int .i64 cs])) w3) := ⟨d, g, cp, k, cs, by rw [hN], hrd.below hb3, Nat.lt_of_lt_of_le hg hb3.size, hcp, hBd, hb1.trans (hb3.mono hb1.size)⟩
  clear hs2 hrd hb1 hb2 hb3 hg3
  go_wp2
  refine bodyPost_ret (v := .tuple #[.slice (some ⟨g, 0, none⟩) N cp, .int .i64 k, .int .i64 cs]) (by simp [results, Tryz.results15, go_sem]) rfl ?_
  exact HF.out
end Go.Proofs.YtooifkdbpghcfaaGreatDoor

namespace Go.Proofs.YtooifkdbpghcfaaGreatDoor
open Go.RowKit

theorem eqL_step {l s : List Int} {j : Nat} (h : ∀ i, i < j → nthI l i = nthI s i) (hx : nthI l j = nthI s j) : ∀ i, i < j + 1 → nthI l i = nthI s i := fun i hi => by
  by_cases hij : i < j
  · exact h i hij
  · have : i = j := by omega
    subst this; exact hx
theorem eqL_end {l s : List Int} {n : Nat} (hl : l.length = n) (hs : s.length = n) (h : ∀ i, i < n → nthI l i = nthI s i) : l = s := by
  apply List.ext_getElem (by omega)
  intro i h1 h2
  have := h i (by omega)
  rwa [nthI_get h1, nthI_get h2] at this

set_option maxHeartbeats 800000 in
set_option maxRecDepth 100000 in
theorem lwNums_any (a c : Option Addr) (n m cap cap' : Nat) (l s : List Int) (w : World) (hl : l.length = n) (hm : s.length = m) (hr : RdI w a l) (hs : RdI w c s) (hn : n ≤ 1048576) (hmm : m ≤ 1048576) :
    Calls Tryz.prog 14 #[.slice a n cap, .slice c m cap'] w fun e w' => e = .returned (.bool (decide (l = s))) ∧ Below w.heap.size w w' := by
  by_cases hnm : n = m
  · subst hnm
    go_enter Tryz.func14, Tryz.ntmps14
    go_wp2
    go_loopw [5] (fun i wr => ∃ k : Nat, k ≤ n ∧ i = .int .i64 k ∧ (∀ i, i < k → nthI l i = nthI s i) ∧ Below w.heap.size w wr) (fun i _ => n - (intOf i).toNat)
    case atStart => exact ⟨0, Nat.zero_le _, rfl, fun i hi => by omega, Below.refl _ _⟩
    case round =>
      obtain ⟨k, hk, rfl, hsame, hbel⟩ := hrel
      by_cases hkn : k < n
      · obtain ⟨b, off, rfl, hblt, hcell⟩ := hr.at_ (by omega)
        obtain ⟨d, off', rfl, hdlt, hdell⟩ := hs.at_ (by omega)
        have hc : wr.cell? ⟨b, off + k, none⟩ = some (.int .i64 (nthI l k)) := (hbel.cell (p := ⟨b, off + k, none⟩) hblt).trans (hcell k (by omega))
        have hd : wr.cell? ⟨d, off' + k, none⟩ = some (.int .i64 (nthI s k)) := (hbel.cell (p := ⟨d, off' + k, none⟩) hdlt).trans (hdell k (by omega))
        have hki : (k : Int) < (n : Int) := by omega
        have HY : Hid (nthI l k = nthI s k → ∀ i, i < k + 1 → nthI l i = nthI s i) := fun h => eqL_step hsame h
        have HN : Hid (nthI l k ≠ nthI s k → decide (l = s) = false) := fun h => decide_eq_false (fun e => h (by rw [e]))
        clear hcell hdell hr hs hsame
        generalize nthI l k = x at *
        generalize nthI s k = y at *
        by_cases hxy : x = y
        · have HM : Hid (_) := HY.out hxy
          subst hxy
          clear HY HN
          go_wp2
          go_quiet (fail)
          go_wp2
          go_roundw
          case rel => exact ⟨k + 1, by omega, by go_num, HM.out, below_drewN hbel _⟩
          case measure => simp [intOf]; omega
        · have HM : Hid (_) := HN.out hxy
          have e0 : (x != y) = true := by simpa using hxy
          clear HY HN
          go_wp2
          go_quiet (fail)
          go_wp2
          go_ret
          exact ⟨by rw [HM.out]; rfl, below_drewN hbel _⟩
      · have HT : Hid (decide (l = s) = true) := decide_eq_true (eqL_end hl hm (fun i hi => hsame i (by omega)))
        have hki : ¬ (k : Int) < (n : Int) := by omega
        clear hsame
        go_wp2
        go_ret
        exact ⟨by rw [HT.out]; rfl, hbel⟩
  · have HF : Hid (decide (l = s) = false) := decide_eq_false (fun h => hnm (by rw [← hl, ← hm, h]))
    have e0 : ((n : Int) != (m : Int)) = true := by simp; omega
    go_enter Tryz.func14, Tryz.ntmps14
    go_wp2
    go_ret
    exact ⟨by rw [HF.out]; rfl, Below.refl _ _⟩
end Go.Proofs.YtooifkdbpghcfaaGreatDoor
