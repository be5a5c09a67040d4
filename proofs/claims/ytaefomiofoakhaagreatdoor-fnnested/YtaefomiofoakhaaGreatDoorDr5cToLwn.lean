/- The draw of a message that is not always right; no conditions beyond those that each fact names · The draws of the law FnNested: a message, and the telling of a kind · The laws' look at two slices of numbers: whether they are the same; at most 1048576 numbers. -/
import Derived.Test.YtaefomiofoakhaaGreatDoorDr5ToDr5w
import Derived.Test.YtaefomiofoakhaaGreatDoorDrw2ToDrl
import Derived.Test.YtaefomiofoakhaaGreatDoorRdmToBytI
import Derived.Test.YtaefomiofoakhaaGreatDoorGrxToTel2
namespace Go.Proofs.YtaefomiofoakhaaGreatDoor
open Go.RowKit
set_option linter.unusedVariables false

theorem nth_set (d : List Nat) (i j y : Nat) (hj : j < d.length) : nth (d.set i y) j = if i = j then y else nth d j := by
  unfold nth
  rw [List.getD_eq_getElem?_getD, List.getD_eq_getElem?_getD, List.getElem?_set]
  by_cases h : i = j
  · subst h; rw [if_pos rfl, if_pos rfl, if_pos hj]; rfl
  · rw [if_neg h, if_neg h]
theorem nth_takeB (d : List Nat) (k j : Nat) (hj : j < k) : nth (d.take k) j = nth d j := by
  unfold nth
  rw [List.getD_eq_getElem?_getD, List.getD_eq_getElem?_getD, List.getElem?_take_of_lt hj]
theorem D0.set {lo g n c i y : Nat} {w : World} {d : List Nat} (h : D0 lo w (some ⟨g, 0, none⟩, n, c) d) (hi : i < d.length) (hy : y < 256) : D0 lo (w.setCell ⟨g, i, none⟩ (.int .u8 (y : Int))) (some ⟨g, 0, none⟩, n, c) (d.set i y) := by
  obtain ⟨h1, h2, h3, h4, h5, h6⟩ := h
  refine ⟨by rw [List.length_set]; exact h1, h2, h3, fun z hz => ?_, h5, .inr ?_⟩
  · rcases List.mem_or_eq_of_mem_set hz with h | rfl
    · exact h4 z h
    · exact hy
  · rcases h6 with h6 | ⟨g', e, hg, hc⟩
    · subst h6; simp at hi
    · cases e
      refine ⟨g, rfl, by simpa using hg, fun j hj => ?_⟩
      rw [List.length_set] at hj
      rw [nth_set d i j y hj]
      by_cases hij : i = j
      · subst hij
        rw [if_pos rfl]
        exact World.cell?_setCell_same _ _ _ (hc i hj)
      · rw [if_neg hij]
        exact (World.cell?_setCell_other _ _ _ _ (fun e => by injection e with _ e; exact hij (by omega))).trans (hc j hj)
theorem D0.take {lo n c : Nat} {a : Option Addr} {w : World} {d : List Nat} (h : D0 lo w (a, n, c) d) (k : Nat) (hk : k ≤ n) : D0 lo w (a, k, c) (d.take k) := by
  obtain ⟨h1, h2, h3, h4, h5, h6⟩ := h
  dsimp only at *
  refine ⟨by rw [List.length_take]; dsimp only; omega, Nat.le_trans hk h2, h3, isB_take h4 k, h5, ?_⟩
  rcases h6 with h6 | ⟨g, e, hg, hc⟩
  · left; rw [h6]; exact List.take_nil
  · right
    refine ⟨g, e, hg, fun j hj => ?_⟩
    rw [List.length_take] at hj
    rw [nth_takeB d k j (by omega)]
    exact hc j (by omega)

/-- How the draw of some bytes ends, its block known. -/
def SxW (B b M K : Nat) (w : World) (e : Ending) (w' : World) : Prop := ∃ (s : SlQ) (out : List Nat), e = .returned (slW s) ∧ D0 w.heap.size w' s out ∧ out.length ≤ K ∧ Go.Proofs.YtaefomiofoakhaaGreatDoor.Src w' B b M ∧ Kb b w w' ∧ ∃ g, s.1 = some ⟨g, 0, none⟩ ∧ g < w'.heap.size

set_option maxHeartbeats 3200000 in
set_option maxRecDepth 100000 in
theorem l5Bent_at (B b M : Nat) (w : World) (hs : Go.Proofs.YtaefomiofoakhaaGreatDoor.Src w B b M) (hM : M ≤ 70000) :
    Calls Tryz.prog 13 #[.pointer (some ⟨b, 0, none⟩)] w fun e w' => SxW B b (M + 210) 600 w e w' := by
  have hbw : b < w.heap.size := hs.2.1
  go_enter Tryz.func13, Tryz.ntmps13
  go_wp2_with fail
  refine (l5Draw_w B b M w hs (by omega)).mono ?_
  rintro e w1 ⟨⟨a, n, c⟩, out, rfl, hd1, hl, hs1, hk1, hf1⟩
  dsimp only [slW] at hd1 ⊢
  obtain ⟨⟨g, hag⟩, hlo⟩ := hd1.2.2.2.2.1
  dsimp only at hag
  subst hag
  have hn : out.length = n := hd1.1
  have hnc : n ≤ c := hd1.2.1
  have hcm : c ≤ maxLen := hd1.2.2.1
  unfold maxLen at hcm
  clear hlo hs
  go_wp2_with fail
  refine (l1Next_any B b (M + 200) 8 w1 hs1 (by omega) (by omega) (by omega)).mono ?_
  rintro e w2 ⟨r, rfl, r0, r1, -, hs2, hg2⟩
  have hK2 : Kb b w w2 := hk1.trans hg2
  have hd2 := hd1.kz (Kz.kb hg2 hbw)
  have hf2 := hf1.kb hg2 hbw
  clear hs1 hk1 hg2 hd1 hf1
  by_cases h0 : r = 0
  · subst h0
    by_cases hn0 : n = 0
    · subst hn0
      have HF : Hid (SxW B b (M + 210) 600 w (.returned (.slice (some ⟨g, 0, none⟩) 0 c)) w2) := ⟨(some ⟨g, 0, none⟩, 0, c), out, rfl, hd2, hl, hs2.more (by omega), hK2, ⟨g, rfl, (hf2 g rfl).2.1⟩⟩
      clear hd2 hf2 hs2 hK2
      go_wp2
      go_ret
      exact HF.out
    · have hnp : (0 : Int) < (n : Int) := by omega
      go_wp2_with fail
      refine (l1Next_any B b (M + 201) (n : Int) w2 hs2 (by omega) (by omega) (by omega)).mono ?_
      rintro e w3 ⟨q, rfl, q0, q1, -, hs3, hg3⟩
      obtain ⟨i, rfl⟩ := Int.eq_ofNat_of_zero_le q0
      have hi : i < n := by have := q1 (by omega); omega
      have hi' : (i : Int) < (n : Int) := by omega
      have hK3 := hK2.grown hg3
      have hd3 := hd2.kz (Kz.kb hg3 hbw)
      have hf3 := hf2.kb hg3 hbw
      clear hs2 hg3 hK2 hd2 hf2 q0 q1
      have hbA : Below w3.heap.size w3 (w3.alloc (.cells #[.int .i64 10, .int .i64 45, .int .i64 58, .int .i64 98] 2)) := (Below.refl _ _).alloc (Nat.le_refl _) _
      have hsA := hs3.below (hbA.mono hs3.2.1)
      have hKA := hK3.below hbA
      have hdA := hd3.kz (Kz.below _ hbA)
      have hfA : FzB w.heap.size (w3.alloc (.cells #[.int .i64 10, .int .i64 45, .int .i64 58, .int .i64 98] 2)) (some ⟨g, 0, none⟩, n, c) := fun g' e' => by
        obtain ⟨x1, x2, x3⟩ := hf3 g' e'
        exact ⟨x1, Nat.lt_of_lt_of_le x2 hbA.size, fun j hj => (hbA.frozen (p := ⟨g', j, none⟩) x2).trans (x3 j hj)⟩
      have hbS : b < w3.heap.size := hs3.2.1
      clear hs3 hK3 hd3 hf3 hbA
      go_wp2_with fail
      refine (l1Pick_any B b _ _ 4 4 [10, 45, 58, 98] _ hsA (by omega) rfl (by omega) (by omega) (nums_new rfl) hbS).mono ?_
      rintro e w5 ⟨x, rfl, hx, hs5, hg5⟩
      have hx' : 0 ≤ x ∧ x < 256 := by
        simp only [List.mem_cons, List.not_mem_nil, or_false] at hx
        omega
      obtain ⟨y, rfl⟩ := Int.eq_ofNat_of_zero_le hx'.1
      have hy : y < 256 := by omega
      have hK5 := hKA.grown hg5
      have hd5 := hdA.kz (Kz.kb hg5 hbw)
      have hf5 := hfA.kb hg5 hbw
      clear hsA hKA hdA hfA hg5 hx
      obtain ⟨hfl, hfs, hfz⟩ := hf5 g rfl
      have hcl : w5.cell? ⟨g, i, none⟩ = some (.int .u8 (nth out i : Int)) := by
        rcases hd5.2.2.2.2.2 with h | ⟨g', e', -, hc⟩
        · exfalso; rw [h] at hn; simp at hn; omega
        · cases e'; exact hc i (by omega)
      have hfi := hfz i (by dsimp only; omega)
      have hd6 := hd5.set (i := i) (y := y) (by omega) hy
      have hs6 : Go.Proofs.YtaefomiofoakhaaGreatDoor.Src (w5.setCell ⟨g, i, none⟩ (.int .u8 (y : Int))) B b _ := hs5.below ((Below.refl _ _).setCell (p := ⟨g, i, none⟩) (show b + 1 ≤ g by omega) _)
      have hK6 : Kb b w (w5.setCell ⟨g, i, none⟩ (.int .u8 (y : Int))) := hK5.below' ((Below.refl _ _).setCell (p := ⟨g, i, none⟩) hfl _)
      have HF : Hid (SxW B b (M + 210) 600 w (.returned (.slice (some ⟨g, 0, none⟩) n c)) (w5.setCell ⟨g, i, none⟩ (.int .u8 (y : Int)))) := ⟨(some ⟨g, 0, none⟩, n, c), out.set i y, rfl, hd6, by rw [List.length_set]; exact hl, hs6.more (by omega), hK6, ⟨g, rfl, by simpa using hfs⟩⟩
      clear hd6 hs6 hK6 hd5 hf5 hs5 hK5 hfz hfl hfs
      go_wp2
      go_ret
      exact HF.out
  · have e0 : (r == 0) = false := beq_eq_false_iff_ne.2 h0
    by_cases h1 : r = 1
    · subst h1
      go_wp2_with fail
      refine (l1Next_any B b (M + 201) ((n : Int) + 1) w2 hs2 (by omega) (by omega) (by omega)).mono ?_
      rintro e w3 ⟨q, rfl, q0, q1, -, hs3, hg3⟩
      obtain ⟨i, rfl⟩ := Int.eq_ofNat_of_zero_le q0
      have hi : i ≤ n := by have := q1 (by omega); omega
      have hi' : (i : Int) ≤ (c : Int) := by omega
      have hK3 := hK2.grown hg3
      have hd3 := (hd2.kz (Kz.kb hg3 hbw)).take i hi
      have HF : Hid (SxW B b (M + 210) 600 w (.returned (.slice (some ⟨g, 0, none⟩) i c)) w3) := ⟨(some ⟨g, 0, none⟩, i, c), out.take i, rfl, hd3, by rw [List.length_take]; omega, hs3.more (by omega), hK3, ⟨g, rfl, Nat.lt_of_lt_of_le (hf2 g rfl).2.1 (World.grownBy.size hg3)⟩⟩
      clear hs2 hg3 hK2 hd2 hf2 q0 q1 hs3 hK3 hd3
      go_wp2
      go_ret
      exact HF.out
    · have e1 : (r == 1) = false := beq_eq_false_iff_ne.2 h1
      by_cases h2 : r = 2
      · subst h2
        go_wp2_with fail
        refine (l1Chance_any B b (M + 201) 5 w2 hs2 (by omega) (by omega) (by omega)).mono ?_
        rintro e w3 ⟨q, rfl, hs3, hg3⟩
        have hK3 := hK2.grown hg3
        have hd3 := hd2.kz (Kz.kb hg3 hbw)
        have hlt3 : g < w3.heap.size := Nat.lt_of_lt_of_le (hf2 g rfl).2.1 (World.grownBy.size hg3)
        clear hs2 hg3 hK2 hd2 hf2
        cases q with
        | false =>
          have HF : Hid (SxW B b (M + 210) 600 w (.returned (.slice (some ⟨g, 0, none⟩) n c)) w3) := ⟨(some ⟨g, 0, none⟩, n, c), out, rfl, hd3, hl, hs3.more (by omega), hK3, ⟨g, rfl, hlt3⟩⟩
          clear hd3 hs3 hK3
          go_wp2
          go_ret
          exact HF.out
        | true =>
          have hbA : Below w3.heap.size w3 (w3.alloc (.cells (madeCells #[.int .u8 0] 401) 5)) := (Below.refl _ _).alloc (Nat.le_refl _) _
          have hsA := hs3.below (hbA.mono hs3.2.1)
          have hKA := hK3.below hbA
          have hdA : D0 w.heap.size (w3.alloc (.cells (madeCells #[.int .u8 0] 401) 5)) (some ⟨w3.heap.size, 0, none⟩, 401, 401) (List.replicate 401 0) := by
            refine ⟨by simp, Nat.le_refl _, (by decide : (401 : Nat) ≤ maxLen), fun z hz => by rw [List.eq_of_mem_replicate hz]; decide, ⟨⟨_, rfl⟩, fun x hx => by cases hx; exact hK3.size⟩, .inr ⟨_, rfl, by simp, fun j hj => ?_⟩⟩
            rw [List.length_replicate] at hj
            rw [World.cell?_alloc_mark]
            have : nth (List.replicate 401 0) j = 0 := by
              unfold nth
              rw [List.getD_eq_getElem?_getD, List.getElem?_replicate]
              split <;> rfl
            rw [this]
            simp [madeCells, hj, Nat.mod_one]
          have HF : Hid (SxW B b (M + 210) 600 w (.returned (.slice (some ⟨w3.heap.size, 0, none⟩) 401 401)) (w3.alloc (.cells (madeCells #[.int .u8 0] 401) 5))) := ⟨(some ⟨w3.heap.size, 0, none⟩, 401, 401), _, rfl, hdA, by simp, hsA.more (by omega), hKA, ⟨w3.heap.size, rfl, by simp⟩⟩
          obtain ⟨i0, hi, hz0, hz1, hz2⟩ := info_parts infoB
          have hmk : (Instr.makeSlice 22 (.int .i64 401) (.int .i64 401)).run Tryz.prog w3 = .ok (.slice (some ⟨w3.heap.size, 0, none⟩) 401 401) (w3.alloc (.cells (madeCells #[.int .u8 0] 401) 5)) := by
            have h := run_makeSlice (P := Tryz.prog) w3 22 5 i0 (.int .u8 0) Tryz.underlying22 hi hz0 .i64 .i64 401 401 (by omega) (by omega) (by rw [hz1]; decide) (by rw [hz2]; decide) (by omega)
            rw [hz1] at h
            exact h
          clear hd3 hs3 hK3 hbA hsA hKA hdA
          go_wp2
          go_ret
          exact HF.out
      · have e2 : (r == 2) = false := beq_eq_false_iff_ne.2 h2
        have HF : Hid (SxW B b (M + 210) 600 w (.returned (.slice (some ⟨g, 0, none⟩) n c)) w2) := ⟨(some ⟨g, 0, none⟩, n, c), out, rfl, hd2, hl, hs2.more (by omega), hK2, ⟨g, rfl, (hf2 g rfl).2.1⟩⟩
        clear hd2 hf2 hs2 hK2
        go_wp2
        go_ret
        exact HF.out

/-- How the draw of a message ends. -/
def PvE (w : World) (e : Ending) (w' : World) : Prop := ∃ (d : List Nat) (g cp : Nat), e = .returned (.slice (some ⟨g, 0, none⟩) d.length cp) ∧ Rd w' (some ⟨g, 0, none⟩) d ∧ g < w'.heap.size ∧ d.length ≤ cp ∧ d.length ≤ 600 ∧ IsB d ∧ Below w.heap.size w w'
end Go.Proofs.YtaefomiofoakhaaGreatDoor

namespace Go.Proofs.YtaefomiofoakhaaGreatDoor
open Go.RowKit

set_option maxHeartbeats 1600000 in
set_option maxRecDepth 100000 in
theorem drawParseParts_any (a : Option Addr) (n cap : Nat) (l : List Nat) (w : World) (hl : l.length = n) (hr : Rd w a l) (hB0 : IsB l) (hn : n ≤ 1048576) :
    Calls Tryz.prog 5 #[.slice a n cap] w fun e w' => PvE w e w' := by
  go_enter Tryz.func5, Tryz.ntmps5
  go_wp2_with fail
  refine (l1Source_any a n cap l _ hl hr hB0 hn).mono ?_
  rintro e w1 ⟨rfl, hs1, hb1⟩
  have hbw : w.heap.size < w1.heap.size := hs1.2.1
  go_wp2_with fail
  refine (l5Bent_at w.heap.size w.heap.size 0 w1 hs1 (by omega)).mono ?_
  rintro e w2 ⟨⟨sa, sn, sc⟩, d, rfl, hd, hl6, hs2, hk, ⟨g, hg, hlt⟩⟩
  dsimp only [slW] at hg ⊢
  subst hg
  have hN : d.length = sn := hd.1
  have hB2 : Below w.heap.size w w2 := hb1.trans (gbelow hk hbw)
  have HF : Hid (PvE w (.returned (.slice (some ⟨g, 0, none⟩) sn sc)) w2) := ⟨d, g, sc, by rw [hN], hd.sl.2.2.2.2.1, hlt, by rw [hN]; exact hd.2.1, hl6, hd.2.2.2.1, hB2⟩
  clear hs1 hb1 hd hs2 hk hB2
  go_wp2
  go_ret
  exact HF.out

/-- How the draw of a telling ends. -/
def TyE (w : World) (e : Ending) (w' : World) : Prop := ∃ l : List Nat, e = .returned (.string (str l)) ∧ IsB l ∧ l.length ≤ 100 ∧ Below w.heap.size w w'
set_option maxHeartbeats 800000 in
set_option maxRecDepth 100000 in
theorem drawTypeOf_any (a : Option Addr) (n cap : Nat) (l : List Nat) (w : World) (hl : l.length = n) (hr : Rd w a l) (hB : IsB l) (hn : n ≤ 1048576) :
    Calls Tryz.prog 10 #[.slice a n cap] w fun e w' => TyE w e w' := by
  go_enter Tryz.func10, Tryz.ntmps10
  go_wp2_with fail
  refine (l1Source_any a n cap l _ hl hr hB hn).mono ?_
  rintro e w1 ⟨rfl, hs, hb⟩
  have hlt : w.heap.size < w1.heap.size := (id hs).2.1
  have hs1 : Src (w1.alloc (.cells #[.string ⟨#[116, 101, 120, 116, 47, 112, 108, 97, 105, 110]⟩, .string ⟨#[84, 69, 88, 84, 47, 104, 116, 109, 108, 59, 32, 67, 104, 97, 114, 115, 101, 116, 61, 85, 84, 70, 45, 56]⟩, .string ⟨#[109, 117, 108, 116, 105, 112, 97, 114, 116, 47, 109, 105, 120, 101, 100, 59, 32, 98, 111, 117, 110, 100, 97, 114, 121, 61, 98]⟩, .string ⟨#[116, 101, 120, 116, 47, 120, 59, 32, 97, 61, 98, 59, 32, 99, 104, 97, 114, 115, 101, 116, 61, 98, 97, 100]⟩, .string ⟨#[105, 109, 97, 103, 101, 47, 112, 110, 103]⟩, .string ⟨#[]⟩, .string ⟨#[32, 59, 32, 116, 101, 120, 116, 47, 112, 108, 97, 105, 110]⟩, .string ⟨#[116, 101, 120, 116, 47, 112, 108, 97, 105, 110, 59, 99, 104, 97, 114, 115, 101, 116, 61, 117, 116, 102, 45, 49, 54, 32]⟩] 9)) w.heap.size w.heap.size 0 := hs.below ((Below.refl _ _).alloc (by omega) _)
  have hrow := row_wordV (w := w1) (t := 9) (cs := #[.string ⟨#[116, 101, 120, 116, 47, 112, 108, 97, 105, 110]⟩, .string ⟨#[84, 69, 88, 84, 47, 104, 116, 109, 108, 59, 32, 67, 104, 97, 114, 115, 101, 116, 61, 85, 84, 70, 45, 56]⟩, .string ⟨#[109, 117, 108, 116, 105, 112, 97, 114, 116, 47, 109, 105, 120, 101, 100, 59, 32, 98, 111, 117, 110, 100, 97, 114, 121, 61, 98]⟩, .string ⟨#[116, 101, 120, 116, 47, 120, 59, 32, 97, 61, 98, 59, 32, 99, 104, 97, 114, 115, 101, 116, 61, 98, 97, 100]⟩, .string ⟨#[105, 109, 97, 103, 101, 47, 112, 110, 103]⟩, .string ⟨#[]⟩, .string ⟨#[32, 59, 32, 116, 101, 120, 116, 47, 112, 108, 97, 105, 110]⟩, .string ⟨#[116, 101, 120, 116, 47, 112, 108, 97, 105, 110, 59, 99, 104, 97, 114, 115, 101, 116, 61, 117, 116, 102, 45, 49, 54, 32]⟩]) (ss := [⟨#[116, 101, 120, 116, 47, 112, 108, 97, 105, 110]⟩, ⟨#[84, 69, 88, 84, 47, 104, 116, 109, 108, 59, 32, 67, 104, 97, 114, 115, 101, 116, 61, 85, 84, 70, 45, 56]⟩, ⟨#[109, 117, 108, 116, 105, 112, 97, 114, 116, 47, 109, 105, 120, 101, 100, 59, 32, 98, 111, 117, 110, 100, 97, 114, 121, 61, 98]⟩, ⟨#[116, 101, 120, 116, 47, 120, 59, 32, 97, 61, 98, 59, 32, 99, 104, 97, 114, 115, 101, 116, 61, 98, 97, 100]⟩, ⟨#[105, 109, 97, 103, 101, 47, 112, 110, 103]⟩, ⟨#[]⟩, ⟨#[32, 59, 32, 116, 101, 120, 116, 47, 112, 108, 97, 105, 110]⟩, ⟨#[116, 101, 120, 116, 47, 112, 108, 97, 105, 110, 59, 99, 104, 97, 114, 115, 101, 116, 61, 117, 116, 102, 45, 49, 54, 32]⟩]) rfl (by intro s hs; simp only [List.mem_cons, List.not_mem_nil, or_false] at hs; rcases hs with rfl | rfl | rfl | rfl | rfl | rfl | rfl | rfl <;> decide)
  have hbA : Below w.heap.size w (w1.alloc (.cells #[.string ⟨#[116, 101, 120, 116, 47, 112, 108, 97, 105, 110]⟩, .string ⟨#[84, 69, 88, 84, 47, 104, 116, 109, 108, 59, 32, 67, 104, 97, 114, 115, 101, 116, 61, 85, 84, 70, 45, 56]⟩, .string ⟨#[109, 117, 108, 116, 105, 112, 97, 114, 116, 47, 109, 105, 120, 101, 100, 59, 32, 98, 111, 117, 110, 100, 97, 114, 121, 61, 98]⟩, .string ⟨#[116, 101, 120, 116, 47, 120, 59, 32, 97, 61, 98, 59, 32, 99, 104, 97, 114, 115, 101, 116, 61, 98, 97, 100]⟩, .string ⟨#[105, 109, 97, 103, 101, 47, 112, 110, 103]⟩, .string ⟨#[]⟩, .string ⟨#[32, 59, 32, 116, 101, 120, 116, 47, 112, 108, 97, 105, 110]⟩, .string ⟨#[116, 101, 120, 116, 47, 112, 108, 97, 105, 110, 59, 99, 104, 97, 114, 115, 101, 116, 61, 117, 116, 102, 45, 49, 54, 32]⟩] 9)) := hb.alloc (by omega) _
  have hsA : (w1.alloc (.cells #[.string ⟨#[116, 101, 120, 116, 47, 112, 108, 97, 105, 110]⟩, .string ⟨#[84, 69, 88, 84, 47, 104, 116, 109, 108, 59, 32, 67, 104, 97, 114, 115, 101, 116, 61, 85, 84, 70, 45, 56]⟩, .string ⟨#[109, 117, 108, 116, 105, 112, 97, 114, 116, 47, 109, 105, 120, 101, 100, 59, 32, 98, 111, 117, 110, 100, 97, 114, 121, 61, 98]⟩, .string ⟨#[116, 101, 120, 116, 47, 120, 59, 32, 97, 61, 98, 59, 32, 99, 104, 97, 114, 115, 101, 116, 61, 98, 97, 100]⟩, .string ⟨#[105, 109, 97, 103, 101, 47, 112, 110, 103]⟩, .string ⟨#[]⟩, .string ⟨#[32, 59, 32, 116, 101, 120, 116, 47, 112, 108, 97, 105, 110]⟩, .string ⟨#[116, 101, 120, 116, 47, 112, 108, 97, 105, 110, 59, 99, 104, 97, 114, 115, 101, 116, 61, 117, 116, 102, 45, 49, 54, 32]⟩] 9)).heap.size = w1.heap.size + 1 := by simp
  go_wp2_with fail
  generalize w1.alloc (.cells #[.string ⟨#[116, 101, 120, 116, 47, 112, 108, 97, 105, 110]⟩, .string ⟨#[84, 69, 88, 84, 47, 104, 116, 109, 108, 59, 32, 67, 104, 97, 114, 115, 101, 116, 61, 85, 84, 70, 45, 56]⟩, .string ⟨#[109, 117, 108, 116, 105, 112, 97, 114, 116, 47, 109, 105, 120, 101, 100, 59, 32, 98, 111, 117, 110, 100, 97, 114, 121, 61, 98]⟩, .string ⟨#[116, 101, 120, 116, 47, 120, 59, 32, 97, 61, 98, 59, 32, 99, 104, 97, 114, 115, 101, 116, 61, 98, 97, 100]⟩, .string ⟨#[105, 109, 97, 103, 101, 47, 112, 110, 103]⟩, .string ⟨#[]⟩, .string ⟨#[32, 59, 32, 116, 101, 120, 116, 47, 112, 108, 97, 105, 110]⟩, .string ⟨#[116, 101, 120, 116, 47, 112, 108, 97, 105, 110, 59, 99, 104, 97, 114, 115, 101, 116, 61, 117, 116, 102, 45, 49, 54, 32]⟩] 9) = W1 at *
  refine (l1Next_any w.heap.size w.heap.size 0 8 _ hs1 (by omega) (by omega) (by omega)).mono ?_
  rintro e w2 ⟨r, rfl, r0, r1, _, hs2, hg2⟩
  obtain ⟨j, rfl⟩ := Int.eq_ofNat_of_zero_le r0
  have hj : j < 8 := by have := r1 (by omega); omega
  have hj' : (j : Int) < 8 := by omega
  obtain ⟨t, hc, hBt, htl⟩ := hrow j hj
  have hc2 : w2.cell? ⟨w1.heap.size, j, none⟩ = some (.string (str t)) := (hg2.cell_far ⟨w1.heap.size, j, none⟩ (by rw [hsA]; simp) (by simp; omega)).trans hc
  have hlt2 : w1.heap.size < w2.heap.size := by have := hg2.size; omega
  have hb2 : Below w.heap.size w w2 := hbA.trans ((Below.refl _ _).grown hg2 (by omega) (by intro k hk; simp at hk; omega))
  have HF : Hid (TyE w (.returned (.string (str t))) w2) := ⟨t, rfl, hBt, htl, hb2⟩
  clear hs2 hg2 hs1 hs hrow hc hBt htl r1
  generalize str t = x at *
  go_wp2
  go_ret
  exact HF.out
end Go.Proofs.YtaefomiofoakhaaGreatDoor

namespace Go.Proofs.YtaefomiofoakhaaGreatDoor
open Go.RowKit

end Go.Proofs.YtaefomiofoakhaaGreatDoor
