/- The draw of a message of several parts; no conditions beyond those that each fact names · The draw of a message of several parts: what it tells may be written as well; no conditions beyond those that each fact names. -/
import Derived.Test.YtaefomiofoakhaaGreatDoorDrkToKzz
import Derived.Test.YtaefomiofoakhaaGreatDoorLef
import Derived.Test.YtaefomiofoakhaaGreatDoorBms
import Derived.Deep.AppendLies
namespace Go.Proofs.YtaefomiofoakhaaGreatDoor
open Go.RowKit
set_option linter.unusedVariables false

/-- AN APPEND OF A SLICE OF BYTES THAT LEAVES EVERY BLOCK BUT THE ROW's OWN. -/
theorem wpList_app_newZg {wr : World} {cs : Array Value} {ops : Array Oper} {rest : List Oper} {o : Oper} {a : Act} {Q : Exit → Act → World → Prop} (hgd : o.guard = none) (s x : Operand)
    (ho : o.op = .call { callee := .builtin .append, args := #[s, x], argTypes := #[78, 78] })
    (B : Nat) (v : Value) (l : List SlP) (hs : a.eval s = v) (hown : OwnL wr B v l) (m c : Nat) (new : List SlP) (hx : a.eval x = .slice (some ⟨wr.heap.size, 0, none⟩) m c) (hm : new.length = m) (hcs : cs.toList = lc new)
    (hsz : l.length + m ≤ 1048576) (hB : B ≤ wr.heap.size)
    (h : ∀ v' w1, OwnL w1 B v' (l ++ new) → (wr.alloc (.cells cs 22)).grownBy w1 v.ownBlock → wpList Tryz.prog ops Q rest (a.put o.dst v') w1) : wpList Tryz.prog ops Q (o :: rest) a (wr.alloc (.cells cs 22)) := by
  obtain ⟨i0, hi, hz0, hz1, hz2⟩ := info_parts infoL
  refine wpList_append_own _ hgd s x 78 ho B 22 i0 (.slice none 0 0) 1 24 Tryz.underlying78 hi hz0 hz1 hz2 rfl (by decide) v l.length (lc l) hs (hown.alloc _) ⟨wr.heap.size, 0, none⟩ m c (lc new) hx (by rw [lc_len, hm]; omega) ?_ (lc_one new) (by unfold maxLen; omega) (by omega) (by simp; omega) ?_
  · intro j u hj
    have hjl : j < new.length := by
      rcases Nat.lt_or_ge j new.length with hlt | hge
      · exact hlt
      · rw [List.getElem?_eq_none (by rw [lc_len]; exact hge)] at hj; cases hj
    rw [lc_get hjl] at hj
    cases hj
    exact new_cellsZ hcs m hm j (by omega)
  · intro v' w1 hown' hgr _
    refine h v' w1 ?_ hgr
    unfold OwnL
    rw [lc_app, List.length_append, hm]
    exact hown'

/-- A row of slices of bytes of the call's own does not begin with a byte. -/
theorem OwnL.kz {w w' : World} {B lo : Nat} {v : Value} {l : List SlP} (h : OwnL w B v l) (hg : w.grownBy w' v.ownBlock) (h0 : l = [] → ∀ g, v.ownBlock = some g → w.cell? ⟨g, 0, none⟩ = none) : Kz lo isU8 w w' := by
  refine Kz.grown hg (fun g u e hu ⟨x, hx⟩ => ?_)
  subst hx
  rcases h.2 with ⟨h', _⟩ | ⟨g', cap, cur, h', _, _⟩
  · rw [h'] at e; cases e
  · rw [h'] at e
    obtain rfl : g' = g := by injection e
    rcases Nat.eq_zero_or_pos l.length with hz | hp
    · have := h0 (List.length_eq_zero_iff.1 hz) g' (by rw [h']; rfl)
      rw [this] at hu; cases hu
    · rw [h'] at h
      have hc := World.ownsRow.cellAt h 0 (by omega)
      rw [hc, lc_get hp] at hu
      unfold slV at hu
      cases hu
theorem OwnL.kb {w w' : World} {B b : Nat} {v : Value} {l : List SlP} (h : OwnL w B v l) (hk : Kb b w w') (hb : b < B) : OwnL w' B v l := by
  refine World.ownsRow.kept h hk ?_
  cases hv : v.ownBlock with
  | none => exact .inl rfl
  | some k => right; intro e; have := (h.lt k hv).1; simp at e; omega

/-- Slices of bytes that were drawn. -/
def DLs (lo : Nat) (w : World) (l : List SlP) (ls : List (List Nat)) : Prop := l.length = ls.length ∧ ∀ i, i < l.length → D0 lo w (nthL l i) (ls.getD i []) ∧ (ls.getD i []).length ≤ 600
theorem DLs.kz {lo : Nat} {w w' : World} {l : List SlP} {ls : List (List Nat)} (h : DLs lo w l ls) (hk : Kz lo isU8 w w') : DLs lo w' l ls := ⟨h.1, fun i hi => ⟨(h.2 i hi).1.kz hk, (h.2 i hi).2⟩⟩
theorem DLs.rd {lo : Nat} {w : World} {l : List SlP} {ls : List (List Nat)} (h : DLs lo w l ls) : RdLs w l ls ∧ FitB ls := by
  refine ⟨⟨h.1, fun i hi => ⟨(h.2 i hi).1.1.symm, (h.2 i hi).1.2.1, (h.2 i hi).1.sl.2.2.2.2.1⟩⟩, fun k hk => ?_⟩
  have := h.2 k (by rw [h.1]; exact hk)
  exact ⟨this.1.2.2.2.1, by omega⟩
theorem DLs.snoc {lo : Nat} {w : World} {l : List SlP} {ls : List (List Nat)} (h : DLs lo w l ls) (s : SlQ) (x : List Nat) (hd : D0 lo w s x) (hx : x.length ≤ 600) : DLs lo w (l ++ [s]) (ls ++ [x]) := by
  refine ⟨by rw [List.length_append, List.length_append, h.1]; rfl, fun i hi => ?_⟩
  rw [List.length_append, List.length_singleton] at hi
  by_cases hil : i < l.length
  · have e1 : nthL (l ++ [s]) i = nthL l i := by unfold nthL; rw [List.getD_eq_getElem?_getD, List.getD_eq_getElem?_getD, List.getElem?_append_left hil]
    have e2 : (ls ++ [x]).getD i [] = ls.getD i [] := by rw [List.getD_eq_getElem?_getD, List.getD_eq_getElem?_getD, List.getElem?_append_left (by rw [← h.1]; exact hil)]
    rw [e1, e2]; exact h.2 i hil
  · obtain rfl : i = l.length := by omega
    have e1 : nthL (l ++ [s]) l.length = s := by unfold nthL; rw [List.getD_eq_getElem?_getD, List.getElem?_append_right (Nat.le_refl _)]; simp
    have e2 : (ls ++ [x]).getD l.length [] = x := by rw [h.1, List.getD_eq_getElem?_getD, List.getElem?_append_right (Nat.le_refl _)]; simp
    rw [e1, e2]; exact ⟨hd, hx⟩

theorem DLs.mem {lo : Nat} {w : World} {l : List SlP} {ls : List (List Nat)} (h : DLs lo w l ls) : ∀ x ∈ ls, IsB x ∧ x.length ≤ 600 := by
  intro x hx
  obtain ⟨i, hi, rfl⟩ := List.mem_iff_getElem.1 hx
  have := h.2 i (by rw [h.1]; exact hi)
  rw [List.getD_eq_getElem?_getD, List.getElem?_eq_getElem hi] at this
  exact ⟨this.1.2.2.2.1, this.2⟩
theorem bmB_len (mk : List Nat) : ∀ ls : List (List Nat), (∀ x ∈ ls, x.length ≤ 600) → (bmB mk ls).length ≤ ls.length * (604 + mk.length)
  | [], _ => by simp [bmB]
  | x :: ls, h => by
    have ih := bmB_len mk ls (fun y hy => h y (List.mem_cons_of_mem _ hy))
    have hx := h x (List.mem_cons_self ..)
    have e : bmB mk (x :: ls) = (bmL mk ++ x ++ [10]) ++ bmB mk ls := by simp [bmB]
    have hL := (bm_lens mk).2.1
    have e2 : (x :: ls).length * (604 + mk.length) = ls.length * (604 + mk.length) + (604 + mk.length) := by rw [List.length_cons, Nat.succ_mul]
    have e3 : (bmB mk (x :: ls)).length = 3 + mk.length + x.length + 1 + (bmB mk ls).length := by
      rw [e, List.length_append, List.length_append, List.length_append, hL]; rfl
    omega
theorem bmA_len (mk : List Nat) (ls : List (List Nat)) (h : ∀ x ∈ ls, x.length ≤ 600) (hl : ls.length ≤ 2) (hm : mk.length = 1) : (bmA mk ls).length ≤ 1300 := by
  have := bmB_len mk ls h
  obtain ⟨h1, -, h3⟩ := bm_lens mk
  unfold bmA
  rw [List.length_append, List.length_append, h1, h3, hm]
  rw [hm] at this
  have : ls.length * 605 ≤ 2 * 605 := Nat.mul_le_mul_right _ hl
  omega
theorem isB_bmA (mk : List Nat) (ls : List (List Nat)) (h : ∀ x ∈ ls, IsB x) (hm : IsB mk) : IsB (bmA mk ls) := by
  obtain ⟨h1, h2, h3⟩ := isB_bm mk hm
  refine isB_cat (isB_cat h1 ?_) h3
  intro y hy
  unfold bmB at hy
  obtain ⟨x, hx, hy⟩ := List.mem_flatMap.1 hy
  exact isB_cat (isB_cat h2 (h x hx)) (fun z hz => by simp at hz; omega) y hy
end Go.Proofs.YtaefomiofoakhaaGreatDoor

namespace Go.Proofs.YtaefomiofoakhaaGreatDoor
open Go.RowKit
set_option linter.unusedVariables false

/-- The cells of a slice may be written. -/
def FzB (lo : Nat) (w : World) (s : SlQ) : Prop := ∀ g, s.1 = some ⟨g, 0, none⟩ → lo ≤ g ∧ g < w.heap.size ∧ ∀ i, i < s.2.2 → w.frozen? ⟨g, i, none⟩ = false
theorem FzB.low {lo lo' : Nat} {w : World} {s : SlQ} (h : FzB lo w s) (hl : lo' ≤ lo) : FzB lo' w s := fun g e => ⟨Nat.le_trans hl (h g e).1, (h g e).2⟩
theorem FzB.kb {lo b : Nat} {w w' : World} {s : SlQ} (h : FzB lo w s) (hk : Kb b w w') (hb : b < lo) : FzB lo w' s := fun g e => by
  obtain ⟨h1, h2, h3⟩ := h g e
  exact ⟨h1, Nat.lt_of_lt_of_le h2 hk.size, fun i hi => (World.grownBy.frozen_far hk ⟨g, i, none⟩ h2 (fun e => by injection e with e; dsimp only at e; omega)).trans (h3 i hi)⟩
theorem Gr.d0w {w : World} {B : Nat} {v : Value} {l : List Nat} (h : Gr w B v l) (hB : IsB l) : ∃ s : SlQ, v = slW s ∧ D0 B w s l ∧ FzB B w s := by
  obtain ⟨g, cap, e, hg, hm, hl, hc, hlt, hcell, hf⟩ := h
  exact ⟨(some ⟨g, 0, none⟩, l.length, cap), e, ⟨rfl, hc, hm, hB, ⟨⟨g, rfl⟩, fun x hx => by cases hx; exact hg⟩, .inr ⟨g, rfl, hlt, hcell⟩⟩, fun g' e' => by cases e'; exact ⟨hg, hlt, fun i hi => (hf i hi).2⟩⟩
/-- How the draw of some bytes ends that may be written. -/
def SdW (B b M K : Nat) (w : World) (e : Ending) (w' : World) : Prop := ∃ (s : SlQ) (out : List Nat), e = .returned (slW s) ∧ D0 w.heap.size w' s out ∧ out.length ≤ K ∧ Go.Proofs.YtaefomiofoakhaaGreatDoor.Src w' B b M ∧ Kb b w w' ∧ FzB w.heap.size w' s
theorem l5Leaf_sw (B b M : Nat) (w : World) (hs : Go.Proofs.YtaefomiofoakhaaGreatDoor.Src w B b M) (hM : M ≤ 90000) :
    Calls Tryz.prog 44 #[.pointer (some ⟨b, 0, none⟩)] w fun e w' => SdW B b (M + 40) 600 w e w' :=
  (l5Leaf_any B b M w hs hM).mono fun e w' ⟨v, out, he, hg, hB, hl, hs', _, hk⟩ => by
    obtain ⟨s, rfl, hd, hf⟩ := hg.d0w hB
    exact ⟨s, out, he, hd, hl, hs', hk, hf⟩
theorem l5Build_sw (mk : List Nat) (hmk : mk.length = 1) (hBm : IsB mk) (a : Option Addr) (n cap : Nat) (l : List SlP) (ls : List (List Nat)) (lo : Nat) (w : World) (hl : l.length = n) (hr : RdL w a l) (hd : DLs lo w l ls) (hn : n ≤ 2) :
    Calls Tryz.prog 45 #[.string (str mk), .slice a n cap] w fun e w' => ∃ (s : SlQ) (out : List Nat), e = .returned (slW s) ∧ D0 w.heap.size w' s out ∧ FzB w.heap.size w' s ∧ out.length ≤ 1300 ∧ Below w.heap.size w w' := by
  obtain ⟨hrs, hfb⟩ := hd.rd
  refine (l5Build_any mk 1 a n cap l ls w hmk hBm (by omega) hl hr hrs hfb (by omega)).mono ?_
  rintro e w' ⟨v, rfl, hg, hb⟩
  obtain ⟨s, rfl, hd0, hf⟩ := hg.d0w (isB_bmA mk ls (fun x hx => (hd.mem x hx).1) hBm)
  exact ⟨s, _, rfl, hd0, hf, bmA_len mk ls (fun x hx => (hd.mem x hx).2) (by rw [← hd.1, hl]; exact hn) hmk, hb⟩

theorem l5Build_twow (mk : List Nat) (hmk : mk.length = 1) (hBm : IsB mk) (s1 s2 : SlQ) (x1 x2 : List Nat) (lo g : Nat) (cap : Nat) (w : World) (hr : RdL w (some ⟨g, 0, none⟩) [s1, s2]) (h1 : D0 lo w s1 x1) (h2 : D0 lo w s2 x2) (n1 : x1.length ≤ 600) (n2 : x2.length ≤ 1300) :
    Calls Tryz.prog 45 #[.string (str mk), .slice (some ⟨g, 0, none⟩) 2 cap] w fun e w' => ∃ (s : SlQ) (out : List Nat), e = .returned (slW s) ∧ D0 w.heap.size w' s out ∧ FzB w.heap.size w' s ∧ Below w.heap.size w w' := by
  have hrs : RdLs w [s1, s2] [x1, x2] := ⟨rfl, fun i hi => by
    have hi' : i < 2 := hi
    obtain rfl | rfl : i = 0 ∨ i = 1 := by omega
    · exact ⟨h1.1.symm, h1.2.1, h1.sl.2.2.2.2.1⟩
    · exact ⟨h2.1.symm, h2.2.1, h2.sl.2.2.2.2.1⟩⟩
  have hfb : FitB [x1, x2] := fun k hk => by
    have hk' : k < 2 := hk
    obtain rfl | rfl : k = 0 ∨ k = 1 := by omega
    · exact ⟨h1.2.2.2.1, by show x1.length ≤ _; omega⟩
    · exact ⟨h2.2.2.2.1, by show x2.length ≤ _; omega⟩
  refine (l5Build_any mk 1 _ 2 cap [s1, s2] [x1, x2] w hmk hBm (by omega) rfl hr hrs hfb (by omega)).mono ?_
  rintro e w' ⟨v, rfl, hg, hb⟩
  obtain ⟨s, rfl, hd0, hf⟩ := hg.d0w (isB_bmA mk _ (fun x hx => by
    simp only [List.mem_cons, List.not_mem_nil, or_false] at hx
    rcases hx with rfl | rfl
    · exact h1.2.2.2.1
    · exact h2.2.2.2.1) hBm)
  exact ⟨s, _, rfl, hd0, hf, hb⟩


set_option maxHeartbeats 3200000 in
set_option maxRecDepth 100000 in
theorem l5Draw_w (B b M : Nat) (w : World) (hs : Go.Proofs.YtaefomiofoakhaaGreatDoor.Src w B b M) (hM : M ≤ 80000) :
    Calls Tryz.prog 26 #[.pointer (some ⟨b, 0, none⟩)] w fun e w' => SdW B b (M + 200) 600 w e w' := by
  have hbw : b < w.heap.size := hs.2.1
  go_enter Tryz.func26, Tryz.ntmps26
  go_wp2_with fail
  refine (l1Chance_any B b M 3 w hs (by omega) (by omega) (by omega)).mono ?_
  rintro e w1 ⟨q, rfl, hs1, hg1⟩
  have hK1 : Kb b w w1 := (Kb.refl b w).grown hg1
  have hz1 := hg1.size
  clear hs hg1
  cases q with
  | true =>
    go_wp2_with fail
    refine (l5Leaf_sw B b (M + 1) w1 hs1 (by omega)).mono ?_
    rintro e w2 ⟨s, out, rfl, hd, hl, hs2, hk2, hf⟩
    go_wp2
    go_ret
    exact ⟨s, out, rfl, hd.low hz1, hl, hs2.more (by omega), hK1.trans hk2, hf.low hz1⟩
  | false =>
    have hbA : Below w1.heap.size w1 (w1.alloc (.cells #[] 22)) := (Below.refl _ _).alloc (Nat.le_refl _) _
    have hown0 : OwnL (w1.alloc (.cells #[] 22)) w.heap.size (.slice (some ⟨w1.heap.size, 0, none⟩) 0 0) [] := OwnL.lit w1 _ hz1 #[] [] rfl (by decide)
    have hsA : Go.Proofs.YtaefomiofoakhaaGreatDoor.Src (w1.alloc (.cells #[] 22)) B b (M + 1) := hs1.below (hbA.mono hs1.2.1)
    have hKA : Kb b w (w1.alloc (.cells #[] 22)) := hK1.below hbA
    have hcN : (w1.alloc (.cells #[] 22)).cell? ⟨w1.heap.size, 0, none⟩ = none := by simp
    have hgN : w1.heap.size < (w1.alloc (.cells #[] 22)).heap.size := by simp
    clear hs1 hK1 hbA
    go_wp2_with fail
    generalize hWA : w1.alloc (.cells #[] 22) = WA at *
    generalize w1.heap.size = gN at *
    clear hWA w1
    refine (l1Next_any B b (M + 1) 3 WA hsA (by omega) (by omega) (by omega)).mono ?_
    rintro e w2 ⟨r, rfl, r0, r1, -, hs2, hg2⟩
    obtain ⟨n, rfl⟩ := Int.eq_ofNat_of_zero_le r0
    have hn : n < 3 := by have := r1 (by omega); omega
    have hK2 : Kb b w w2 := hKA.grown hg2
    have hown2 : OwnL w2 w.heap.size (.slice (some ⟨gN, 0, none⟩) 0 0) [] := hown0.kb hg2 hbw
    have hcN2 : w2.cell? ⟨gN, 0, none⟩ = none := (hg2.cell_far ⟨gN, 0, none⟩ hgN (fun e => by injection e with e; dsimp only at e; omega)).trans hcN
    have hzn : n ≤ 2 := by omega
    have hs2 := hs2.more (show M + 1 + 1 ≤ M + 2 + 40 * 0 by omega)
    clear r0 r1 hg2 hKA hown0 hcN hgN hsA WA hn
    go_wp2_with fail
    go_loopw [3, 4] (fun v k wr => ∃ (i : Nat) (l : List SlP) (ls : List (List Nat)), i ≤ n ∧ k = .int .i64 ((n - i : Nat) : Int) ∧ l.length = i ∧ OwnL wr w.heap.size v l ∧ DLs w.heap.size wr l ls ∧ Go.Proofs.YtaefomiofoakhaaGreatDoor.Src wr B b (M + 2 + 40 * i) ∧ Kb b w wr ∧ (l = [] → ∀ g, v.ownBlock = some g → wr.cell? ⟨g, 0, none⟩ = none))
      (fun _ k _ => (intOf k).toNat)
    case atStart => exact ⟨0, [], [], Nat.zero_le _, rfl, rfl, hown2, ⟨rfl, fun i hi => absurd hi (Nat.not_lt_zero _)⟩, hs2, hK2, fun _ g hg => by cases hg; exact hcN2⟩
    case round =>
      obtain ⟨i, l, ls, hi, rfl, hli, hown, hdl, hsr, hK, h0⟩ := hrel
      clear hown2 hcN2 hs2 hK2
      obtain ⟨av, cv, hv, hcv, hcm⟩ := id hown.form
      rw [hli] at hv hcv
      subst hv
      by_cases hin : i < n
      · have hj : (0 : Int) < ((n - i : Nat) : Int) := by omega
        go_wp2_with fail
        refine (l5Leaf_sw B b (M + 2 + 40 * i) wr hsr (by omega)).mono ?_
        rintro e w3 ⟨⟨sa, sn, sc⟩, out, rfl, hd, hl3, hs3, hk3, -⟩
        dsimp only [slW] at hd ⊢
        have hKz : Kz w.heap.size isU8 wr w3 := Kz.kb hk3 hbw
        have hown3 := hown.kb hk3 hbw
        have hdl3 := hdl.kz hKz
        have hd3 := hd.low (lo' := w.heap.size) hK.size
        have hK3 := hK.trans hk3
        have h03 : l = [] → ∀ g, (Value.slice av i cv).ownBlock = some g → w3.cell? ⟨g, 0, none⟩ = none := fun e g hg => by
          have hlt := (hown.lt g hg)
          exact (World.grownBy.cell_far hk3 ⟨g, 0, none⟩ hlt.2 (fun e => by injection e with e; dsimp only at e; omega)).trans (h0 e g hg)
        clear hown hdl hsr hK h0 hd hk3 hKz
        have hcs : (#[Value.slice sa sn sc] : Array Value).toList = lc [(sa, sn, sc)] := rfl
        go_wp2_with (at_builtin; refine wpList_app_newZg (by rfl) _ _ (by rfl) w.heap.size _ l (by rfl) hown3 1 1 [(sa, sn, sc)] (by rfl) (by rfl) hcs (by omega) hK3.size ?_; intro v' w4 hown4 hg4)
        have hbA : Below w3.heap.size w3 (w3.alloc (.cells #[Value.slice sa sn sc] 22)) := (Below.refl _ _).alloc (Nat.le_refl _) _
        have hKz : Kz w.heap.size isU8 w3 w4 := (Kz.below _ hbA).trans ((hown3.alloc _).kz hg4 (fun e g hg => (hbA.cell (p := ⟨g, 0, none⟩) (hown3.lt g hg).2).trans (h03 e g hg)))
        have hB4 : Below w.heap.size w3 w4 := (hbA.mono hK3.size).trans ((Below.refl _ _).grown hg4 (by simp; have := hK3.size; omega) (fun k hk => (hown3.lt k hk).1))
        go_roundw
        case rel =>
          refine ⟨i + 1, l ++ [(sa, sn, sc)], ls ++ [out], by omega, ?_, by simp [hli], hown4, (hdl3.kz hKz).snoc _ out (hd3.kz hKz) hl3, ?_, hK3.below' hB4, fun e => by simp at e⟩
          · go_num
          · exact (hs3.more (show M + 2 + 40 * i + 40 ≤ M + 2 + 40 * (i + 1) by omega)).below (hB4.mono hbw)
        case measure => simp [intOf]; omega
      · have hii : i = n := by omega
        have hj : ¬ (0 : Int) < ((n - i : Nat) : Int) := by omega
        subst hii
        go_wp2_with fail
        have hrl := hown.rd.2
        refine (l5Build_sw [98] rfl (fun x hx => by simp at hx; omega) av i cv l ls _ wr hli hrl hdl hzn).mono ?_
        rintro e w3 ⟨⟨s3, n3, c3⟩, o3, rfl, hd3, hf3, hl3, hb3⟩
        dsimp only [slW] at hd3 ⊢
        have hs3 := hsr.below (hb3.mono hsr.2.1)
        have hK3 := hK.below hb3
        have hown3 := hown.below hb3 (Nat.le_refl _)
        have hdl3 := hdl.kz (Kz.below _ hb3)
        have hd3 := hd3.low (lo' := w.heap.size) hK.size
        have hf3 := hf3.low (lo' := w.heap.size) hK.size
        have hs3 := hs3.more (show M + 2 + 40 * i ≤ M + 82 by omega)
        clear hsr hK hown hdl hb3 hrl h0
        go_wp2_with fail
        refine (l1Chance_any B b (M + 82) 4 w3 hs3 (by omega) (by omega) (by omega)).mono ?_
        rintro e w4 ⟨q, rfl, hs4, hg4⟩
        have hK4 := hK3.grown hg4
        have hown4 := hown3.kb hg4 hbw
        have hKz4 : Kz w.heap.size isU8 w3 w4 := Kz.kb hg4 hbw
        have hdl4 := hdl3.kz hKz4
        have hd4 := hd3.kz hKz4
        have hf4 := hf3.kb hg4 hbw
        clear hs3 hg4 hK3 hown3 hdl3 hd3 hKz4
        cases q with
        | false =>
          have hn3 : n3 ≤ maxLen := Nat.le_trans hd4.2.1 hd4.2.2.1
          unfold maxLen at hn3
          have hl4 := hd4.1
          dsimp only at hl4
          by_cases hbig : 400 < n3
          · have hbi : (400 : Int) < (n3 : Int) := by omega
            go_wp2_with fail
            refine (l5Leaf_sw B b (M + 83) w4 hs4 (by omega)).mono ?_
            rintro e w5 ⟨s, out, rfl, hd, hl, hs5, hk5, hf⟩
            go_wp2
            go_ret
            exact ⟨s, out, rfl, hd.low hK4.size, hl, hs5.more (by omega), hK4.trans hk5, hf.low hK4.size⟩
          · have hbi : ¬ (400 : Int) < (n3 : Int) := by omega
            go_wp2
            go_ret
            exact ⟨(s3, n3, c3), o3, rfl, hd4, by omega, hs4.more (by omega), hK4, hf4⟩
        | true =>
          go_wp2_with fail
          refine (l5Leaf_sw B b (M + 83) w4 hs4 (by omega)).mono ?_
          rintro e w5 ⟨⟨s5, n5, c5⟩, o5, rfl, hd5, hl5, hs5, hk5, -⟩
          dsimp only [slW] at hd5 ⊢
          have hK5 := hK4.trans hk5
          have hown5 := hown4.kb hk5 hbw
          have hdl5 := hdl4.kz (Kz.kb hk5 hbw)
          have hd5 := hd5.low (lo' := w.heap.size) hK4.size
          have hrl := hown5.rd.2
          clear hK4 hown4 hdl4 hd4 hs4 hk5
          go_wp2_with fail
          refine (l5Build_sw [98] rfl (fun x hx => by simp at hx; omega) av i cv l ls _ w5 hli hrl hdl5 hzn).mono ?_
          rintro e w6 ⟨⟨s6, n6, c6⟩, o6, rfl, hd6, -, hl6, hb6⟩
          dsimp only [slW] at hd6 ⊢
          have hK6 := hK5.below hb6
          have hs6 := hs5.below (hb6.mono hs5.2.1)
          have hd5 := hd5.kz (Kz.below _ hb6)
          have hd6 := hd6.low (lo' := w.heap.size) hK5.size
          clear hK5 hown5 hdl5 hs5 hrl hb6
          have hb7 : Below w6.heap.size w6 (w6.alloc (.cells #[.slice s5 n5 c5, .slice s6 n6 c6] 22)) := (Below.refl _ _).alloc (Nat.le_refl _) _
          have hown7 : OwnL (w6.alloc (.cells #[.slice s5 n5 c5, .slice s6 n6 c6] 22)) w6.heap.size (.slice (some ⟨w6.heap.size, 0, none⟩) 2 2) [(s5, n5, c5), (s6, n6, c6)] := OwnL.lit w6 _ (Nat.le_refl _) #[.slice s5 n5 c5, .slice s6 n6 c6] [(s5, n5, c5), (s6, n6, c6)] rfl (show 2 ≤ maxLen by decide)
          have hrl := hown7.rd.2
          have hK7 := hK6.below hb7
          have hs7 := hs6.below (hb7.mono hs6.2.1)
          have hd5 := hd5.kz (Kz.below _ hb7)
          have hd6 := hd6.kz (Kz.below _ hb7)
          clear hK6 hs6 hown7 hb7
          go_wp2_with fail
          generalize (w6.alloc (.cells #[.slice s5 n5 c5, .slice s6 n6 c6] 22)) = W7 at *
          refine (l5Build_twow [99] rfl (fun x hx => by simp at hx; omega) (s5, n5, c5) (s6, n6, c6) o5 o6 _ _ _ W7 hrl hd5 hd6 hl5 hl6).mono ?_
          rintro e w8 ⟨⟨s8, n8, c8⟩, o8, rfl, hd8, hf8, hb8⟩
          dsimp only [slW] at hd8 ⊢
          have hK8 := hK7.below hb8
          have hs8 := hs7.below (hb8.mono hs7.2.1)
          have hd8 := hd8.low (lo' := w.heap.size) hK7.size
          have hf8 := hf8.low (lo' := w.heap.size) hK7.size
          clear hK7 hs7 hd5 hd6 hrl hb8
          have hn3 : n8 ≤ maxLen := Nat.le_trans hd8.2.1 hd8.2.2.1
          unfold maxLen at hn3
          have hl4 := hd8.1
          dsimp only at hl4
          by_cases hbig : 400 < n8
          · have hbi : (400 : Int) < (n8 : Int) := by omega
            go_wp2_with fail
            refine (l5Leaf_sw B b (M + 83 + 40) w8 hs8 (by omega)).mono ?_
            rintro e w9 ⟨s, out, rfl, hd, hl, hs9, hk9, hf⟩
            go_wp2
            go_ret
            exact ⟨s, out, rfl, hd.low hK8.size, hl, hs9.more (by omega), hK8.trans hk9, hf.low hK8.size⟩
          · have hbi : ¬ (400 : Int) < (n8 : Int) := by omega
            go_wp2
            go_ret
            exact ⟨(s8, n8, c8), o8, rfl, hd8, by omega, hs8.more (by omega), hK8, hf8⟩
end Go.Proofs.YtaefomiofoakhaaGreatDoor
