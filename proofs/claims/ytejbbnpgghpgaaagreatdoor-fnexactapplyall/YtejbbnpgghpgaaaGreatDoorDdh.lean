/- An op done to a shelf: apply; no conditions beyond those that each fact names. -/
import Derived.Test.YtejbbnpgghpgaaaGreatDoorDdg
import Derived.Test.YtejbbnpgghpgaaaGreatDoorOfw
import Derived.Test.YtejbbnpgghpgaaaGreatDoorMsbToBxs
namespace Go.Proofs.YtejbbnpgghpgaaaGreatDoor
open Go.RowKit List
set_option linter.unusedVariables false
def kdR (v : Int) (l : List Bx) (o : OpR) (j : Int) : Rs :=
 if o.k = 1 then mkR v l o.x j
 else if o.k = 2 then erR v l j.toNat
 else if o.k = 3 then adR v l j.toNat o.f o.d o.b
 else if o.k = 4 then flR v l j.toNat o.u o.m o.f
 else if o.k = 5 then cpR v l j.toNat o.u o.t
 else if o.k = 6 then mvR v l j.toNat o.u o.x o.t
 else puR v l j.toNat
def apR (v : Int) (l : List Bx) (o : OpR) : Rs :=
 if ofV o = 0 then (if ixG l.length (nmX l o.x) < 0 ∧ o.k ≠ 1 then badR 4 else kdR v l o (ixG l.length (nmX l o.x))) else badR (ofV o)
theorem ofV_zero {o : OpR} (h : ofV o = 0) : (1 ≤ o.k ∧ o.k ≤ 7) ∧ o.u.length ≤ 6 ∧ o.b.length ≤ 400 ∧ riU 0 o.u = true ∧ (0 ≤ o.f ∧ o.f ≤ 15) ∧ (0 ≤ o.d ∧ o.d ≤ 9999) ∧ (o.k = 4 → 1 ≤ o.m ∧ o.m ≤ 3) ∧ bnOk (txB o.x) = true ∧ (cpK o.k = true → bnOk (txB o.t) = true) := by
 unfold ofV at h
 split at h <;> rename_i h1
 ·split at h <;> rename_i h2
  ·split at h <;> rename_i h3
   ·cases h
   ·split at h <;> rename_i h4
    ·split at h <;> rename_i h5
     ·cases h
     ·unfold fmV at h1
      unfold rgV at h4
      simp only [Bool.and_eq_true, Bool.or_eq_true, Bool.not_eq_true', decide_eq_false_iff_not] at h1 h4
      have hk := of_decide_eq_true h1.1
      have hf := of_decide_eq_true h4.1.2
      have hd := of_decide_eq_true h4.2
      exact ⟨hk, by omega, by omega, h4.1.1.1, hf, hd, fun e => (h4.1.1.2.elim (fun h => absurd e h) (fun h => of_decide_eq_true h)), h2.1, h2.2⟩
    ·cases h
  ·cases h
 ·cases h
def dF (k : Int) : Nat := if k = 1 then 159 else if k = 2 then 160 else if k = 3 then 161 else if k = 4 then 162 else if k = 5 then 163 else if k = 6 then 164 else 165
set_option maxHeartbeats 1600000 in
set_option maxRecDepth 100000 in
theorem deedOf_any (k : Int) (w : World) (hk : 1 ≤ k ∧ k ≤ 7) : Calls Tryz.prog 126 #[.int .i64 k] w fun e w' => e = .returned (.func (.func (dF k)) #[] #[]) ∧ w = w' := by
 obtain rfl | rfl | rfl | rfl | rfl | rfl | rfl : k = 1 ∨ k = 2 ∨ k = 3 ∨ k = 4 ∨ k = 5 ∨ k = 6 ∨ k = 7 := by omega
 case inl =>
  have hix : (Instr.index 184 (.agg #[.nilFunc, .func (.func 159) #[] #[], .func (.func 160) #[] #[], .func (.func 161) #[] #[], .func (.func 162) #[] #[], .func (.func 163) #[] #[], .func (.func 164) #[] #[], .func (.func 165) #[] #[]]) (.int .i64 1)).run Tryz.prog w = .ok (.func (.func 159) #[] #[]) w := by simp [Instr.index, go_sem]
  go_enter Tryz.func126, Tryz.ntmps126
  go_wp2
  go_ret
  exact ⟨rfl, rfl⟩
 case inr.inl =>
  have hix : (Instr.index 184 (.agg #[.nilFunc, .func (.func 159) #[] #[], .func (.func 160) #[] #[], .func (.func 161) #[] #[], .func (.func 162) #[] #[], .func (.func 163) #[] #[], .func (.func 164) #[] #[], .func (.func 165) #[] #[]]) (.int .i64 2)).run Tryz.prog w = .ok (.func (.func 160) #[] #[]) w := by simp [Instr.index, go_sem]
  go_enter Tryz.func126, Tryz.ntmps126
  go_wp2
  go_ret
  exact ⟨rfl, rfl⟩
 case inr.inr.inl =>
  have hix : (Instr.index 184 (.agg #[.nilFunc, .func (.func 159) #[] #[], .func (.func 160) #[] #[], .func (.func 161) #[] #[], .func (.func 162) #[] #[], .func (.func 163) #[] #[], .func (.func 164) #[] #[], .func (.func 165) #[] #[]]) (.int .i64 3)).run Tryz.prog w = .ok (.func (.func 161) #[] #[]) w := by simp [Instr.index, go_sem]
  go_enter Tryz.func126, Tryz.ntmps126
  go_wp2
  go_ret
  exact ⟨rfl, rfl⟩
 case inr.inr.inr.inl =>
  have hix : (Instr.index 184 (.agg #[.nilFunc, .func (.func 159) #[] #[], .func (.func 160) #[] #[], .func (.func 161) #[] #[], .func (.func 162) #[] #[], .func (.func 163) #[] #[], .func (.func 164) #[] #[], .func (.func 165) #[] #[]]) (.int .i64 4)).run Tryz.prog w = .ok (.func (.func 162) #[] #[]) w := by simp [Instr.index, go_sem]
  go_enter Tryz.func126, Tryz.ntmps126
  go_wp2
  go_ret
  exact ⟨rfl, rfl⟩
 case inr.inr.inr.inr.inl =>
  have hix : (Instr.index 184 (.agg #[.nilFunc, .func (.func 159) #[] #[], .func (.func 160) #[] #[], .func (.func 161) #[] #[], .func (.func 162) #[] #[], .func (.func 163) #[] #[], .func (.func 164) #[] #[], .func (.func 165) #[] #[]]) (.int .i64 5)).run Tryz.prog w = .ok (.func (.func 163) #[] #[]) w := by simp [Instr.index, go_sem]
  go_enter Tryz.func126, Tryz.ntmps126
  go_wp2
  go_ret
  exact ⟨rfl, rfl⟩
 case inr.inr.inr.inr.inr.inl =>
  have hix : (Instr.index 184 (.agg #[.nilFunc, .func (.func 159) #[] #[], .func (.func 160) #[] #[], .func (.func 161) #[] #[], .func (.func 162) #[] #[], .func (.func 163) #[] #[], .func (.func 164) #[] #[], .func (.func 165) #[] #[]]) (.int .i64 6)).run Tryz.prog w = .ok (.func (.func 164) #[] #[]) w := by simp [Instr.index, go_sem]
  go_enter Tryz.func126, Tryz.ntmps126
  go_wp2
  go_ret
  exact ⟨rfl, rfl⟩
 case inr.inr.inr.inr.inr.inr =>
  have hix : (Instr.index 184 (.agg #[.nilFunc, .func (.func 159) #[] #[], .func (.func 160) #[] #[], .func (.func 161) #[] #[], .func (.func 162) #[] #[], .func (.func 163) #[] #[], .func (.func 164) #[] #[], .func (.func 165) #[] #[]]) (.int .i64 7)).run Tryz.prog w = .ok (.func (.func 165) #[] #[]) w := by simp [Instr.index, go_sem]
  go_enter Tryz.func126, Tryz.ntmps126
  go_wp2
  go_ret
  exact ⟨rfl, rfl⟩
theorem DeEnd.pre {N gs : Nat} {r : Rs} {w W w' : World} {e : Ending} (hb : Below N w W) (h : DeEnd N gs r W e w') : DeEnd N gs r w e w' := by
 rcases h with ⟨h1, h2, h3⟩ | ⟨h1, su, s, xs, h2, h3, h4, h5, h6⟩
 ·exact .inl ⟨h1, h2, hb.trans h3⟩
 ·exact .inr ⟨h1, su, s, xs, h2, h3, h4, h5, hb.trans h6⟩
theorem dF_run (k : Int) (hk : 1 ≤ k ∧ k ≤ 7) (args : Array Value) (w : World) : (callFunc (dF k) args).run Tryz.prog w = .ok (.enter (dF k) args) w := by
 obtain rfl | rfl | rfl | rfl | rfl | rfl | rfl : k = 1 ∨ k = 2 ∨ k = 3 ∨ k = 4 ∨ k = 5 ∨ k = 6 ∨ k = 7 := by omega
 all_goals kernel_rfl
theorem deed_any (N gs : Nat) (v : Int) (l : List Bx) (s : SlQ) (xs : List Dx) (o : OpR) (p : SlO) {lo : Nat} (w : World) (hS : Sh N w gs v l s xs) (hG : GdS v l) (hN : N ≤ w.heap.size) (hO : IsOp lo w p o) (hIo : ∀ x, p.1.1 = some x → x.block < N) (h0 : ofV o = 0) (hj : ¬ (ixG l.length (nmX l o.x) < 0 ∧ o.k ≠ 1)) :
  Calls Tryz.prog (dF o.k) #[.pointer (some ⟨gs, 0, none⟩), opX o p, .int .i64 (ixG l.length (nmX l o.x))] w fun e w' => DeEnd N gs (kdR v l o (ixG l.length (nmX l o.x))) w e w' := by
 obtain ⟨⟨hk1, hk7⟩, hu6, hb4, -, -, -, -, -, -⟩ := ofV_zero h0
 have hI : o.u.length = p.1.2.1 ∧ RdI w p.1.1 o.u := ⟨hO.1.1, hO.1.2.2.2.1⟩
 by_cases hk : o.k = 1
 ·have e1 : dF o.k = 159 := by rw [hk]; rfl
  have e2 : kdR v l o (ixG l.length (nmX l o.x)) = mkR v l o.x (ixG l.length (nmX l o.x)) := if_pos hk
  rw [e1, e2]
  exact makeBox_any N gs v l s xs o p _ w hS hG hN
 ·rcases ixG_cases l.length (nmX l o.x) with ⟨e, -⟩ | ⟨j, hjl, e, hp, -⟩
  ·exact absurd ⟨by rw [e]; decide, hk⟩ hj
  ·rw [e]
   have hnm : (nthX l j).n = o.x := of_decide_eq_true hp
   unfold kdR dF
   rw [if_neg hk, if_neg hk, Int.toNat_natCast]
   by_cases hk2 : o.k = 2
   ·rw [if_pos hk2, if_pos hk2]; exact eraseBox_any N gs v l s xs o p j w hS hG hN hjl
   ·rw [if_neg hk2, if_neg hk2]
    by_cases hk3 : o.k = 3
    ·rw [if_pos hk3, if_pos hk3]; exact addMessage_any N gs v l s xs o p j w hS hG hN hjl hO.2 hb4
    ·rw [if_neg hk3, if_neg hk3]
     by_cases hk4 : o.k = 4
     ·rw [if_pos hk4, if_pos hk4]; exact flagMessages_any (lo := lo) N gs v l s xs o p j w hS hG hN hjl hI hu6
     ·rw [if_neg hk4, if_neg hk4]
      by_cases hk5 : o.k = 5
      ·rw [if_pos hk5, if_pos hk5]; exact (copyMessages_any N gs v l s xs o p j w hS hG hN hjl hI hu6).mono fun _ _ h => h.1
      ·rw [if_neg hk5, if_neg hk5]
       by_cases hk6 : o.k = 6
       ·rw [if_pos hk6, if_pos hk6]; exact moveMessages_any N gs v l s xs o p j w hS hG hN hjl hI hu6 hnm hIo
       ·rw [if_neg hk6, if_neg hk6]; exact purgeMessages_any N gs v l s xs o p j w hS hG hN hjl
set_option maxHeartbeats 1600000 in
set_option maxRecDepth 100000 in
theorem apply_any (N gs : Nat) (v : Int) (l : List Bx) (s : SlQ) (xs : List Dx) (o : OpR) (p : SlO) {lo : Nat} (w : World) (hS : Sh N w gs v l s xs) (hG : GdS v l) (hN : N ≤ w.heap.size) (hO : IsOp lo w p o) (hT : TabH8 w) (hxs : o.x.size ≤ 1048576) (hts : o.t.size ≤ 1048576) (hIo : ∀ x, p.1.1 = some x → x.block < N) :
  Calls Tryz.prog 64 #[.pointer (some ⟨gs, 0, none⟩), opX o p] w fun e w' => DeEnd N gs (apR v l o) w e w' := by
 have hb0 : Below w.heap.size w (w.alloc (.cells #[.int .i64 o.k, .string o.x, .string o.t, slW p.1, .int .i64 o.m, .int .i64 o.f, .int .i64 o.d, slW p.2] 38)) := (Below.refl _ _).alloc (Nat.le_refl _) _
 have hQ0 := Qo.new w (.int .i64 o.k) (.string o.x) (.string o.t) (slW p.1) (.int .i64 o.m) (.int .i64 o.f) (.int .i64 o.d) (slW p.2) 38
 have hS0 := hS.below hb0 (Nat.le_refl _)
 have HOF := opFault_any o p _ ⟨hO.1.below hb0, hO.2.below hb0⟩ (hT.below hb0) hxs hts
 have HPO : Hid (∀ W, CX N W s l xs → Calls Tryz.prog 125 #[slW s, .string o.x] W fun e w' => e = .returned (.int .i64 (ixG l.length (nmX l o.x))) ∧ Below W.heap.size W w') := fun W h => placeOf_any _ l o.x W ((h.1.xs (lo := 0) (fun _ _ => Nat.zero_le _)) |> fun h' => h.2.1 ▸ h')
 have HDE : Hid (∀ W, Below w.heap.size w W → ofV o = 0 → ¬ (ixG l.length (nmX l o.x) < 0 ∧ o.k ≠ 1) → Calls Tryz.prog (dF o.k) #[.pointer (some ⟨gs, 0, none⟩), opX o p, .int .i64 (ixG l.length (nmX l o.x))] W fun e w' => DeEnd N gs (kdR v l o (ixG l.length (nmX l o.x))) W e w') := fun W hb h1 h2 => deed_any N gs v l s xs o p W (hS.below hb (Nat.le_refl _)) hG (Nat.le_trans hN hb.size) ⟨hO.1.below hb, hO.2.below hb⟩ hIo h1 h2
 have HVF : Hid (ofV o ≠ 0 → apR v l o = badR (ofV o)) := fun h => if_neg h
 have HV4 : Hid (ofV o = 0 → ixG l.length (nmX l o.x) < 0 ∧ o.k ≠ 1 → apR v l o = badR 4) := fun h h' => (if_pos h).trans (if_pos h')
 have HVK : Hid (ofV o = 0 → ¬ (ixG l.length (nmX l o.x) < 0 ∧ o.k ≠ 1) → apR v l o = kdR v l o (ixG l.length (nmX l o.x))) := fun h h' => (if_pos h).trans (if_neg h')
 have HKK : Hid (ofV o = 0 → 1 ≤ o.k ∧ o.k ≤ 7) := fun h => (ofV_zero h).1
 have HDR : Hid (∀ k : Int, 1 ≤ k ∧ k ≤ 7 → ∀ (args : Array Value) (w : World), (callFunc (dF k) args).run Tryz.prog w = .ok (.enter (dF k) args) w) := fun k h => dF_run k h
 obtain ⟨a, cap, hse, hxl, hlc, hcm, -⟩ := hS.len
 have hl3 := hG.2.1
 generalize ixG l.length (nmX l o.x) = jx at *
 generalize apR v l o = rr at *
 generalize kdR v l o jx = rk at *
 generalize ofV o = c at *
 obtain ⟨ok, ox, ot, ou, om, of, od, ob⟩ := o
 dsimp only [opX] at HOF HPO HDE HV4 HVK HKK hQ0 ⊢
 unfold maxLen at hcm
 subst hse
 obtain ⟨d0, d1⟩ := id hS0.1.1
 dsimp only [slW] at d0 d1 HPO
 go_enter Tryz.func64, Tryz.ntmps64
 go_wp2_with fail
 generalize w.alloc (.cells #[.int .i64 ok, .string ox, .string ot, slW p.1, .int .i64 om, .int .i64 of, .int .i64 od, slW p.2] 38) = W at *
 refine HOF.mono ?_
 rintro e W1 ⟨rfl, hb1⟩
 have hS1 := hS0.below hb1 (Nat.le_refl _)
 have hQ1 := hQ0.below hb1 hQ0.lt
 have hbw1 := hb0.trans (hb1.mono hb0.size)
 clear HOF d0 d1 hS0 hQ0 hb1 hb0
 by_cases hc : c = 0
 ·subst hc
  clear HVF
  go_wp2_with fail
  have hbD : Below W1.heap.size W1 W1.drew := (Below.refl _ _).drew
  have hS2 := hS1.below hbD (Nat.le_refl _)
  have hQ2 := hQ1.below hbD hQ1.lt
  have hbw2 := hbw1.trans (hbD.mono hbw1.size)
  clear hS1 hQ1 hbw1 hbD
  refine wp_region_held_drew (S := fun w' => w'.cell? ⟨gs, 1, none⟩ = some (.slice a l.length cap) ∧ w'.cell? ⟨w.heap.size, 1, none⟩ = some (.string ox)) (by kernel_rfl) ?hS1 (fun hHeld => ?_)
  case hS1 => exact ⟨hS2.1.1.2, hQ2.2.1⟩
  refine tk (i := 0) (v := ?_) rfl (Or.inl ⟨by rfl, ?hy2⟩) ?ty2
  case hy2 => (intro w5 hSw; obtain ⟨p0, p1⟩ := hSw; go_simp; all_goals with_reducible rfl)
  simp only [Act.put, J1, J2, J4, J5, J6]
  refine tk (i := 1) (v := ?_) rfl (Or.inl ⟨by rfl, ?hy3⟩) ?ty3
  case hy3 => (intro w5 hSw; obtain ⟨p0, p1⟩ := hSw; go_simp; all_goals with_reducible rfl)
  simp only [Act.put, J1, J2, J3, J4, J5, J6]
  refine tk (i := 2) (v := ?_) rfl (Or.inl ⟨by rfl, ?hy4⟩) ?ty4
  case hy4 => (intro w5 hSw; obtain ⟨p0, p1⟩ := hSw; go_simp; all_goals with_reducible rfl)
  simp only [Act.put, J1, J2, J3, J4, J5, J6]
  refine tk (i := 3) (v := ?_) rfl (Or.inl ⟨by rfl, ?hy5⟩) ?ty5
  case hy5 => (intro w5 hSw; obtain ⟨p0, p1⟩ := hSw; go_simp; all_goals with_reducible rfl)
  simp only [Act.put, J1, J2, J3, J4, J5, J6]
  refine tk (i := 4) (v := ?_) rfl (Or.inl ⟨by rfl, ?hy6⟩) ?ty6
  case hy6 => (intro w5 hSw; obtain ⟨p0, p1⟩ := hSw; go_simp; all_goals with_reducible rfl)
  simp only [Act.put, J1, J2, J3, J4, J5, J6]
  refine tk (i := 5) (v := ?_) rfl (Or.inl ⟨by rfl, ?hy7⟩) ?ty7
  case hy7 => (intro w5 hSw; obtain ⟨p0, p1⟩ := hSw; go_simp; all_goals with_reducible rfl)
  simp only [Act.put, J1, J2, J3, J4, J5, J6]
  generalize World.drew W1 = Y0 at *
  refine wpAnyH_ready (rs := [6]) (by kernel_rfl) (by simp) ?_
  refine AllReadyH.cons rfl (fun K hK => ?_) AllReadyH.nil
  go_simp
  refine (HPO.out Y0 hS2.2.1).mono ?_
  rintro e Y1 ⟨rfl, hb3⟩
  have hS3 := hS2.below hb3 (Nat.le_refl _)
  have hQ3 := hQ2.below hb3 hQ2.lt
  have hbw3 := hbw2.trans (hb3.mono hbw2.size)
  refine hK.out _ _ ⟨hS3.1.1.2, hQ3.2.1⟩ (fun hHeld => ?_)
  clear hK K
  clear hS2 hQ2 hbw2 hb3
  refine tk (i := 7) (v := ?_) rfl (Or.inl ⟨by rfl, ?hy8⟩) ?ty8
  case hy8 => (intro w5 hSw; obtain ⟨p0, p1⟩ := hSw; go_simp; all_goals with_reducible rfl)
  simp only [Act.put, J1, J2, J3, J4, J5, J6]
  refine wpAnyH_done (by kernel_rfl) ?_ _
  clear hHeld HPO
  obtain ⟨o0, o1, o2, o3, o4, o5, o6, o7⟩ := id hQ3
  dsimp only at o0 o1 o2 o3 o4 o5 o6 o7
  by_cases hcond : jx < 0 ∧ ok ≠ 1
  ·have HV : Hid (rr = badR 4) := HV4.out (by trivial) hcond
   obtain ⟨hj1, hj2⟩ := hcond
   clear HV4 HVK
   go_wp2
   go_ret2
   rw [HV.out]
   exact .inl ⟨by decide, rfl, hbw3.mono hN⟩
  ·by_cases hj1 : jx < 0
   ·have hk1 : ok = 1 := Classical.byContradiction fun h => hcond ⟨hj1, h⟩
    subst hk1
    have hDR := HDR.out 1 (HKK.out (by trivial))
    have HV : Hid (_) := HVK.out (by trivial) hcond
    clear HVK HV4 HDR
    go_wp2_with fail
    have hbE : Below Y1.heap.size Y1 Y1.drew := (Below.refl _ _).drew
    have hQ4 := hQ3.below hbE hQ3.lt
    have hbw4 := hbw3.trans (hbE.mono hbw3.size)
    clear hQ3 hbw3 hbE o0 o1 o2 o3 o4 o5 o6 o7
    refine wp_region_held_drew (S := fun _ => True) (by kernel_rfl) ?hS9 (fun hHeld => ?_)
    case hS9 => exact trivial
    refine tk (i := 0) (v := ?_) rfl (Or.inl ⟨by rfl, ?hy10⟩) ?ty10
    case hy10 => (intro w5 hSw; go_simp; all_goals with_reducible rfl)
    simp only [Act.put, J1, J2, J4, J5, J6]
    refine tk (i := 3) (v := ?_) rfl (Or.inl ⟨by rfl, ?hy11⟩) ?ty11
    case hy11 => (intro w5 hSw; go_simp; all_goals with_reducible rfl)
    simp only [Act.put, J1, J2, J3, J4, J5, J6]
    refine tk (i := 5) (v := ?_) rfl (Or.inl ⟨by rfl, ?hy12⟩) ?ty12
    case hy12 => (intro w5 hSw; go_simp; all_goals with_reducible rfl)
    simp only [Act.put, J1, J2, J3, J4, J5, J6]
    generalize World.drew Y1 = Y2 at *
    obtain ⟨o0, o1, o2, o3, o4, o5, o6, o7⟩ := id hQ4
    dsimp only at o0 o1 o2 o3 o4 o5 o6 o7
    refine wpAnyH_ready (rs := [1, 4]) (by kernel_rfl) (by simp) ?_
    refine AllReadyH.cons rfl (fun K hK => ?_) (AllReadyH.cons rfl (fun K hK => ?_) AllReadyH.nil)
    ·go_simp
     refine hK.out _ _ trivial (fun hHeld => ?_)
     clear hK K
     refine wpAnyH_ready (rs := [2, 4]) (by kernel_rfl) (by simp) ?_
     refine AllReadyH.cons rfl (fun K hK => ?_) (AllReadyH.cons rfl (fun K hK => ?_) AllReadyH.nil)
     ·go_simp
      refine (deedOf_any 1 Y2 (HKK.out (by trivial))).mono ?_
      rintro e Y3 ⟨rfl, rfl⟩
      refine hK.out _ _ trivial (fun hHeld => ?_)
      clear hK K
      refine wpAnyH_ready (rs := [4]) (by kernel_rfl) (by simp) ?_
      refine AllReadyH.cons rfl (fun K hK => ?_) AllReadyH.nil
      go_simp
      refine hK.out _ _ trivial (fun hHeld => ?_)
      clear hK K
      refine wpAnyH_ready (rs := [6]) (by kernel_rfl) (by simp) ?_
      refine AllReadyH.cons rfl (fun K hK => ?_) AllReadyH.nil
      go_simp
      refine (HDE.out Y2 hbw4 (by trivial) hcond).mono ?_
      intro e Y4 hE
      have hE := hE.pre (hbw4.mono hN)
      rcases hE with ⟨h1, rfl, h3⟩ | ⟨h1, su, s9, xs9, rfl, r9⟩
      ·refine hK.out _ _ trivial (fun hHeld => ?_)
       clear hK K
       refine tk (i := 7) (v := ?_) rfl (Or.inl ⟨by rfl, ?hy13⟩) ?ty13
       case hy13 => (intro w5 hSw; go_simp; all_goals with_reducible rfl)
       simp only [Act.put, J1, J2, J3, J4, J5, J6]
       refine tk (i := 8) (v := ?_) rfl (Or.inl ⟨by rfl, ?hy14⟩) ?ty14
       case hy14 => (intro w5 hSw; go_simp; all_goals with_reducible rfl)
       simp only [Act.put, J1, J2, J3, J4, J5, J6]
       refine tk (i := 9) (v := ?_) rfl (Or.inl ⟨by rfl, ?hy15⟩) ?ty15
       case hy15 => (intro w5 hSw; go_simp; all_goals with_reducible rfl)
       simp only [Act.put, J1, J2, J3, J4, J5, J6]
       refine tk (i := 10) (v := ?_) rfl (Or.inl ⟨by rfl, ?hy16⟩) ?ty16
       case hy16 => (intro w5 hSw; go_simp; all_goals with_reducible rfl)
       simp only [Act.put, J1, J2, J3, J4, J5, J6]
       refine wpAnyH_done (by kernel_rfl) ?_ _
       clear hHeld
       go_wp2
       go_ret2
       rw [HV.out]
       exact .inl ⟨h1, rfl, h3⟩
      ·refine hK.out _ _ trivial (fun hHeld => ?_)
       clear hK K
       refine tk (i := 7) (v := ?_) rfl (Or.inl ⟨by rfl, ?hy17⟩) ?ty17
       case hy17 => (intro w5 hSw; go_simp; all_goals with_reducible rfl)
       simp only [Act.put, J1, J2, J3, J4, J5, J6]
       refine tk (i := 8) (v := ?_) rfl (Or.inl ⟨by rfl, ?hy18⟩) ?ty18
       case hy18 => (intro w5 hSw; go_simp; all_goals with_reducible rfl)
       simp only [Act.put, J1, J2, J3, J4, J5, J6]
       refine tk (i := 9) (v := ?_) rfl (Or.inl ⟨by rfl, ?hy19⟩) ?ty19
       case hy19 => (intro w5 hSw; go_simp; all_goals with_reducible rfl)
       simp only [Act.put, J1, J2, J3, J4, J5, J6]
       refine tk (i := 10) (v := ?_) rfl (Or.inl ⟨by rfl, ?hy20⟩) ?ty20
       case hy20 => (intro w5 hSw; go_simp; all_goals with_reducible rfl)
       simp only [Act.put, J1, J2, J3, J4, J5, J6]
       refine wpAnyH_done (by kernel_rfl) ?_ _
       clear hHeld
       go_wp2
       go_ret2
       rw [HV.out]
       exact .inr ⟨h1, su, s9, xs9, rfl, r9⟩
     ·go_simp
      refine hK.out _ _ trivial (fun hHeld => ?_)
      clear hK K
      refine wpAnyH_ready (rs := [2]) (by kernel_rfl) (by simp) ?_
      refine AllReadyH.cons rfl (fun K hK => ?_) AllReadyH.nil
      go_simp
      refine (deedOf_any 1 Y2 (HKK.out (by trivial))).mono ?_
      rintro e Y3 ⟨rfl, rfl⟩
      refine hK.out _ _ trivial (fun hHeld => ?_)
      clear hK K
      refine wpAnyH_ready (rs := [6]) (by kernel_rfl) (by simp) ?_
      refine AllReadyH.cons rfl (fun K hK => ?_) AllReadyH.nil
      go_simp
      refine (HDE.out Y2 hbw4 (by trivial) hcond).mono ?_
      intro e Y4 hE
      have hE := hE.pre (hbw4.mono hN)
      rcases hE with ⟨h1, rfl, h3⟩ | ⟨h1, su, s9, xs9, rfl, r9⟩
      ·refine hK.out _ _ trivial (fun hHeld => ?_)
       clear hK K
       refine tk (i := 7) (v := ?_) rfl (Or.inl ⟨by rfl, ?hy21⟩) ?ty21
       case hy21 => (intro w5 hSw; go_simp; all_goals with_reducible rfl)
       simp only [Act.put, J1, J2, J3, J4, J5, J6]
       refine tk (i := 8) (v := ?_) rfl (Or.inl ⟨by rfl, ?hy22⟩) ?ty22
       case hy22 => (intro w5 hSw; go_simp; all_goals with_reducible rfl)
       simp only [Act.put, J1, J2, J3, J4, J5, J6]
       refine tk (i := 9) (v := ?_) rfl (Or.inl ⟨by rfl, ?hy23⟩) ?ty23
       case hy23 => (intro w5 hSw; go_simp; all_goals with_reducible rfl)
       simp only [Act.put, J1, J2, J3, J4, J5, J6]
       refine tk (i := 10) (v := ?_) rfl (Or.inl ⟨by rfl, ?hy24⟩) ?ty24
       case hy24 => (intro w5 hSw; go_simp; all_goals with_reducible rfl)
       simp only [Act.put, J1, J2, J3, J4, J5, J6]
       refine wpAnyH_done (by kernel_rfl) ?_ _
       clear hHeld
       go_wp2
       go_ret2
       rw [HV.out]
       exact .inl ⟨h1, rfl, h3⟩
      ·refine hK.out _ _ trivial (fun hHeld => ?_)
       clear hK K
       refine tk (i := 7) (v := ?_) rfl (Or.inl ⟨by rfl, ?hy25⟩) ?ty25
       case hy25 => (intro w5 hSw; go_simp; all_goals with_reducible rfl)
       simp only [Act.put, J1, J2, J3, J4, J5, J6]
       refine tk (i := 8) (v := ?_) rfl (Or.inl ⟨by rfl, ?hy26⟩) ?ty26
       case hy26 => (intro w5 hSw; go_simp; all_goals with_reducible rfl)
       simp only [Act.put, J1, J2, J3, J4, J5, J6]
       refine tk (i := 9) (v := ?_) rfl (Or.inl ⟨by rfl, ?hy27⟩) ?ty27
       case hy27 => (intro w5 hSw; go_simp; all_goals with_reducible rfl)
       simp only [Act.put, J1, J2, J3, J4, J5, J6]
       refine tk (i := 10) (v := ?_) rfl (Or.inl ⟨by rfl, ?hy28⟩) ?ty28
       case hy28 => (intro w5 hSw; go_simp; all_goals with_reducible rfl)
       simp only [Act.put, J1, J2, J3, J4, J5, J6]
       refine wpAnyH_done (by kernel_rfl) ?_ _
       clear hHeld
       go_wp2
       go_ret2
       rw [HV.out]
       exact .inr ⟨h1, su, s9, xs9, rfl, r9⟩
    ·go_simp
     refine hK.out _ _ trivial (fun hHeld => ?_)
     clear hK K
     refine wpAnyH_ready (rs := [1]) (by kernel_rfl) (by simp) ?_
     refine AllReadyH.cons rfl (fun K hK => ?_) AllReadyH.nil
     go_simp
     refine hK.out _ _ trivial (fun hHeld => ?_)
     clear hK K
     refine wpAnyH_ready (rs := [2]) (by kernel_rfl) (by simp) ?_
     refine AllReadyH.cons rfl (fun K hK => ?_) AllReadyH.nil
     go_simp
     refine (deedOf_any 1 Y2 (HKK.out (by trivial))).mono ?_
     rintro e Y3 ⟨rfl, rfl⟩
     refine hK.out _ _ trivial (fun hHeld => ?_)
     clear hK K
     refine wpAnyH_ready (rs := [6]) (by kernel_rfl) (by simp) ?_
     refine AllReadyH.cons rfl (fun K hK => ?_) AllReadyH.nil
     go_simp
     refine (HDE.out Y2 hbw4 (by trivial) hcond).mono ?_
     intro e Y4 hE
     have hE := hE.pre (hbw4.mono hN)
     rcases hE with ⟨h1, rfl, h3⟩ | ⟨h1, su, s9, xs9, rfl, r9⟩
     ·refine hK.out _ _ trivial (fun hHeld => ?_)
      clear hK K
      refine tk (i := 7) (v := ?_) rfl (Or.inl ⟨by rfl, ?hy29⟩) ?ty29
      case hy29 => (intro w5 hSw; go_simp; all_goals with_reducible rfl)
      simp only [Act.put, J1, J2, J3, J4, J5, J6]
      refine tk (i := 8) (v := ?_) rfl (Or.inl ⟨by rfl, ?hy30⟩) ?ty30
      case hy30 => (intro w5 hSw; go_simp; all_goals with_reducible rfl)
      simp only [Act.put, J1, J2, J3, J4, J5, J6]
      refine tk (i := 9) (v := ?_) rfl (Or.inl ⟨by rfl, ?hy31⟩) ?ty31
      case hy31 => (intro w5 hSw; go_simp; all_goals with_reducible rfl)
      simp only [Act.put, J1, J2, J3, J4, J5, J6]
      refine tk (i := 10) (v := ?_) rfl (Or.inl ⟨by rfl, ?hy32⟩) ?ty32
      case hy32 => (intro w5 hSw; go_simp; all_goals with_reducible rfl)
      simp only [Act.put, J1, J2, J3, J4, J5, J6]
      refine wpAnyH_done (by kernel_rfl) ?_ _
      clear hHeld
      go_wp2
      go_ret2
      rw [HV.out]
      exact .inl ⟨h1, rfl, h3⟩
     ·refine hK.out _ _ trivial (fun hHeld => ?_)
      clear hK K
      refine tk (i := 7) (v := ?_) rfl (Or.inl ⟨by rfl, ?hy33⟩) ?ty33
      case hy33 => (intro w5 hSw; go_simp; all_goals with_reducible rfl)
      simp only [Act.put, J1, J2, J3, J4, J5, J6]
      refine tk (i := 8) (v := ?_) rfl (Or.inl ⟨by rfl, ?hy34⟩) ?ty34
      case hy34 => (intro w5 hSw; go_simp; all_goals with_reducible rfl)
      simp only [Act.put, J1, J2, J3, J4, J5, J6]
      refine tk (i := 9) (v := ?_) rfl (Or.inl ⟨by rfl, ?hy35⟩) ?ty35
      case hy35 => (intro w5 hSw; go_simp; all_goals with_reducible rfl)
      simp only [Act.put, J1, J2, J3, J4, J5, J6]
      refine tk (i := 10) (v := ?_) rfl (Or.inl ⟨by rfl, ?hy36⟩) ?ty36
      case hy36 => (intro w5 hSw; go_simp; all_goals with_reducible rfl)
      simp only [Act.put, J1, J2, J3, J4, J5, J6]
      refine wpAnyH_done (by kernel_rfl) ?_ _
      clear hHeld
      go_wp2
      go_ret2
      rw [HV.out]
      exact .inr ⟨h1, su, s9, xs9, rfl, r9⟩
   ·have hDR := HDR.out ok (HKK.out (by trivial))
    have HV : Hid (_) := HVK.out (by trivial) hcond
    clear HVK HV4 HDR
    go_wp2_with fail
    have hbE : Below Y1.heap.size Y1 Y1.drew := (Below.refl _ _).drew
    have hQ4 := hQ3.below hbE hQ3.lt
    have hbw4 := hbw3.trans (hbE.mono hbw3.size)
    clear hQ3 hbw3 hbE o0 o1 o2 o3 o4 o5 o6 o7
    refine wp_region_held_drew (S := fun _ => True) (by kernel_rfl) ?hS37 (fun hHeld => ?_)
    case hS37 => exact trivial
    refine tk (i := 0) (v := ?_) rfl (Or.inl ⟨by rfl, ?hy38⟩) ?ty38
    case hy38 => (intro w5 hSw; go_simp; all_goals with_reducible rfl)
    simp only [Act.put, J1, J2, J4, J5, J6]
    refine tk (i := 3) (v := ?_) rfl (Or.inl ⟨by rfl, ?hy39⟩) ?ty39
    case hy39 => (intro w5 hSw; go_simp; all_goals with_reducible rfl)
    simp only [Act.put, J1, J2, J3, J4, J5, J6]
    refine tk (i := 5) (v := ?_) rfl (Or.inl ⟨by rfl, ?hy40⟩) ?ty40
    case hy40 => (intro w5 hSw; go_simp; all_goals with_reducible rfl)
    simp only [Act.put, J1, J2, J3, J4, J5, J6]
    generalize World.drew Y1 = Y2 at *
    obtain ⟨o0, o1, o2, o3, o4, o5, o6, o7⟩ := id hQ4
    dsimp only at o0 o1 o2 o3 o4 o5 o6 o7
    refine wpAnyH_ready (rs := [1, 4]) (by kernel_rfl) (by simp) ?_
    refine AllReadyH.cons rfl (fun K hK => ?_) (AllReadyH.cons rfl (fun K hK => ?_) AllReadyH.nil)
    ·go_simp
     refine hK.out _ _ trivial (fun hHeld => ?_)
     clear hK K
     refine wpAnyH_ready (rs := [2, 4]) (by kernel_rfl) (by simp) ?_
     refine AllReadyH.cons rfl (fun K hK => ?_) (AllReadyH.cons rfl (fun K hK => ?_) AllReadyH.nil)
     ·go_simp
      refine (deedOf_any ok Y2 (HKK.out (by trivial))).mono ?_
      rintro e Y3 ⟨rfl, rfl⟩
      refine hK.out _ _ trivial (fun hHeld => ?_)
      clear hK K
      refine wpAnyH_ready (rs := [4]) (by kernel_rfl) (by simp) ?_
      refine AllReadyH.cons rfl (fun K hK => ?_) AllReadyH.nil
      go_simp
      refine hK.out _ _ trivial (fun hHeld => ?_)
      clear hK K
      refine wpAnyH_ready (rs := [6]) (by kernel_rfl) (by simp) ?_
      refine AllReadyH.cons rfl (fun K hK => ?_) AllReadyH.nil
      go_simp
      refine (HDE.out Y2 hbw4 (by trivial) hcond).mono ?_
      intro e Y4 hE
      have hE := hE.pre (hbw4.mono hN)
      rcases hE with ⟨h1, rfl, h3⟩ | ⟨h1, su, s9, xs9, rfl, r9⟩
      ·refine hK.out _ _ trivial (fun hHeld => ?_)
       clear hK K
       refine tk (i := 7) (v := ?_) rfl (Or.inl ⟨by rfl, ?hy41⟩) ?ty41
       case hy41 => (intro w5 hSw; go_simp; all_goals with_reducible rfl)
       simp only [Act.put, J1, J2, J3, J4, J5, J6]
       refine tk (i := 8) (v := ?_) rfl (Or.inl ⟨by rfl, ?hy42⟩) ?ty42
       case hy42 => (intro w5 hSw; go_simp; all_goals with_reducible rfl)
       simp only [Act.put, J1, J2, J3, J4, J5, J6]
       refine tk (i := 9) (v := ?_) rfl (Or.inl ⟨by rfl, ?hy43⟩) ?ty43
       case hy43 => (intro w5 hSw; go_simp; all_goals with_reducible rfl)
       simp only [Act.put, J1, J2, J3, J4, J5, J6]
       refine tk (i := 10) (v := ?_) rfl (Or.inl ⟨by rfl, ?hy44⟩) ?ty44
       case hy44 => (intro w5 hSw; go_simp; all_goals with_reducible rfl)
       simp only [Act.put, J1, J2, J3, J4, J5, J6]
       refine wpAnyH_done (by kernel_rfl) ?_ _
       clear hHeld
       go_wp2
       go_ret2
       rw [HV.out]
       exact .inl ⟨h1, rfl, h3⟩
      ·refine hK.out _ _ trivial (fun hHeld => ?_)
       clear hK K
       refine tk (i := 7) (v := ?_) rfl (Or.inl ⟨by rfl, ?hy45⟩) ?ty45
       case hy45 => (intro w5 hSw; go_simp; all_goals with_reducible rfl)
       simp only [Act.put, J1, J2, J3, J4, J5, J6]
       refine tk (i := 8) (v := ?_) rfl (Or.inl ⟨by rfl, ?hy46⟩) ?ty46
       case hy46 => (intro w5 hSw; go_simp; all_goals with_reducible rfl)
       simp only [Act.put, J1, J2, J3, J4, J5, J6]
       refine tk (i := 9) (v := ?_) rfl (Or.inl ⟨by rfl, ?hy47⟩) ?ty47
       case hy47 => (intro w5 hSw; go_simp; all_goals with_reducible rfl)
       simp only [Act.put, J1, J2, J3, J4, J5, J6]
       refine tk (i := 10) (v := ?_) rfl (Or.inl ⟨by rfl, ?hy48⟩) ?ty48
       case hy48 => (intro w5 hSw; go_simp; all_goals with_reducible rfl)
       simp only [Act.put, J1, J2, J3, J4, J5, J6]
       refine wpAnyH_done (by kernel_rfl) ?_ _
       clear hHeld
       go_wp2
       go_ret2
       rw [HV.out]
       exact .inr ⟨h1, su, s9, xs9, rfl, r9⟩
     ·go_simp
      refine hK.out _ _ trivial (fun hHeld => ?_)
      clear hK K
      refine wpAnyH_ready (rs := [2]) (by kernel_rfl) (by simp) ?_
      refine AllReadyH.cons rfl (fun K hK => ?_) AllReadyH.nil
      go_simp
      refine (deedOf_any ok Y2 (HKK.out (by trivial))).mono ?_
      rintro e Y3 ⟨rfl, rfl⟩
      refine hK.out _ _ trivial (fun hHeld => ?_)
      clear hK K
      refine wpAnyH_ready (rs := [6]) (by kernel_rfl) (by simp) ?_
      refine AllReadyH.cons rfl (fun K hK => ?_) AllReadyH.nil
      go_simp
      refine (HDE.out Y2 hbw4 (by trivial) hcond).mono ?_
      intro e Y4 hE
      have hE := hE.pre (hbw4.mono hN)
      rcases hE with ⟨h1, rfl, h3⟩ | ⟨h1, su, s9, xs9, rfl, r9⟩
      ·refine hK.out _ _ trivial (fun hHeld => ?_)
       clear hK K
       refine tk (i := 7) (v := ?_) rfl (Or.inl ⟨by rfl, ?hy49⟩) ?ty49
       case hy49 => (intro w5 hSw; go_simp; all_goals with_reducible rfl)
       simp only [Act.put, J1, J2, J3, J4, J5, J6]
       refine tk (i := 8) (v := ?_) rfl (Or.inl ⟨by rfl, ?hy50⟩) ?ty50
       case hy50 => (intro w5 hSw; go_simp; all_goals with_reducible rfl)
       simp only [Act.put, J1, J2, J3, J4, J5, J6]
       refine tk (i := 9) (v := ?_) rfl (Or.inl ⟨by rfl, ?hy51⟩) ?ty51
       case hy51 => (intro w5 hSw; go_simp; all_goals with_reducible rfl)
       simp only [Act.put, J1, J2, J3, J4, J5, J6]
       refine tk (i := 10) (v := ?_) rfl (Or.inl ⟨by rfl, ?hy52⟩) ?ty52
       case hy52 => (intro w5 hSw; go_simp; all_goals with_reducible rfl)
       simp only [Act.put, J1, J2, J3, J4, J5, J6]
       refine wpAnyH_done (by kernel_rfl) ?_ _
       clear hHeld
       go_wp2
       go_ret2
       rw [HV.out]
       exact .inl ⟨h1, rfl, h3⟩
      ·refine hK.out _ _ trivial (fun hHeld => ?_)
       clear hK K
       refine tk (i := 7) (v := ?_) rfl (Or.inl ⟨by rfl, ?hy53⟩) ?ty53
       case hy53 => (intro w5 hSw; go_simp; all_goals with_reducible rfl)
       simp only [Act.put, J1, J2, J3, J4, J5, J6]
       refine tk (i := 8) (v := ?_) rfl (Or.inl ⟨by rfl, ?hy54⟩) ?ty54
       case hy54 => (intro w5 hSw; go_simp; all_goals with_reducible rfl)
       simp only [Act.put, J1, J2, J3, J4, J5, J6]
       refine tk (i := 9) (v := ?_) rfl (Or.inl ⟨by rfl, ?hy55⟩) ?ty55
       case hy55 => (intro w5 hSw; go_simp; all_goals with_reducible rfl)
       simp only [Act.put, J1, J2, J3, J4, J5, J6]
       refine tk (i := 10) (v := ?_) rfl (Or.inl ⟨by rfl, ?hy56⟩) ?ty56
       case hy56 => (intro w5 hSw; go_simp; all_goals with_reducible rfl)
       simp only [Act.put, J1, J2, J3, J4, J5, J6]
       refine wpAnyH_done (by kernel_rfl) ?_ _
       clear hHeld
       go_wp2
       go_ret2
       rw [HV.out]
       exact .inr ⟨h1, su, s9, xs9, rfl, r9⟩
    ·go_simp
     refine hK.out _ _ trivial (fun hHeld => ?_)
     clear hK K
     refine wpAnyH_ready (rs := [1]) (by kernel_rfl) (by simp) ?_
     refine AllReadyH.cons rfl (fun K hK => ?_) AllReadyH.nil
     go_simp
     refine hK.out _ _ trivial (fun hHeld => ?_)
     clear hK K
     refine wpAnyH_ready (rs := [2]) (by kernel_rfl) (by simp) ?_
     refine AllReadyH.cons rfl (fun K hK => ?_) AllReadyH.nil
     go_simp
     refine (deedOf_any ok Y2 (HKK.out (by trivial))).mono ?_
     rintro e Y3 ⟨rfl, rfl⟩
     refine hK.out _ _ trivial (fun hHeld => ?_)
     clear hK K
     refine wpAnyH_ready (rs := [6]) (by kernel_rfl) (by simp) ?_
     refine AllReadyH.cons rfl (fun K hK => ?_) AllReadyH.nil
     go_simp
     refine (HDE.out Y2 hbw4 (by trivial) hcond).mono ?_
     intro e Y4 hE
     have hE := hE.pre (hbw4.mono hN)
     rcases hE with ⟨h1, rfl, h3⟩ | ⟨h1, su, s9, xs9, rfl, r9⟩
     ·refine hK.out _ _ trivial (fun hHeld => ?_)
      clear hK K
      refine tk (i := 7) (v := ?_) rfl (Or.inl ⟨by rfl, ?hy57⟩) ?ty57
      case hy57 => (intro w5 hSw; go_simp; all_goals with_reducible rfl)
      simp only [Act.put, J1, J2, J3, J4, J5, J6]
      refine tk (i := 8) (v := ?_) rfl (Or.inl ⟨by rfl, ?hy58⟩) ?ty58
      case hy58 => (intro w5 hSw; go_simp; all_goals with_reducible rfl)
      simp only [Act.put, J1, J2, J3, J4, J5, J6]
      refine tk (i := 9) (v := ?_) rfl (Or.inl ⟨by rfl, ?hy59⟩) ?ty59
      case hy59 => (intro w5 hSw; go_simp; all_goals with_reducible rfl)
      simp only [Act.put, J1, J2, J3, J4, J5, J6]
      refine tk (i := 10) (v := ?_) rfl (Or.inl ⟨by rfl, ?hy60⟩) ?ty60
      case hy60 => (intro w5 hSw; go_simp; all_goals with_reducible rfl)
      simp only [Act.put, J1, J2, J3, J4, J5, J6]
      refine wpAnyH_done (by kernel_rfl) ?_ _
      clear hHeld
      go_wp2
      go_ret2
      rw [HV.out]
      exact .inl ⟨h1, rfl, h3⟩
     ·refine hK.out _ _ trivial (fun hHeld => ?_)
      clear hK K
      refine tk (i := 7) (v := ?_) rfl (Or.inl ⟨by rfl, ?hy61⟩) ?ty61
      case hy61 => (intro w5 hSw; go_simp; all_goals with_reducible rfl)
      simp only [Act.put, J1, J2, J3, J4, J5, J6]
      refine tk (i := 8) (v := ?_) rfl (Or.inl ⟨by rfl, ?hy62⟩) ?ty62
      case hy62 => (intro w5 hSw; go_simp; all_goals with_reducible rfl)
      simp only [Act.put, J1, J2, J3, J4, J5, J6]
      refine tk (i := 9) (v := ?_) rfl (Or.inl ⟨by rfl, ?hy63⟩) ?ty63
      case hy63 => (intro w5 hSw; go_simp; all_goals with_reducible rfl)
      simp only [Act.put, J1, J2, J3, J4, J5, J6]
      refine tk (i := 10) (v := ?_) rfl (Or.inl ⟨by rfl, ?hy64⟩) ?ty64
      case hy64 => (intro w5 hSw; go_simp; all_goals with_reducible rfl)
      simp only [Act.put, J1, J2, J3, J4, J5, J6]
      refine wpAnyH_done (by kernel_rfl) ?_ _
      clear hHeld
      go_wp2
      go_ret2
      rw [HV.out]
      exact .inr ⟨h1, su, s9, xs9, rfl, r9⟩
 ·have HV : Hid (rr = badR c) := HVF.out hc
  clear HVF HV4 HVK
  go_wp2
  go_ret2
  rw [HV.out]
  exact .inl ⟨hc, rfl, hbw1.mono hN⟩
end Go.Proofs.YtejbbnpgghpgaaaGreatDoor
