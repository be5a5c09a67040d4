/- What a command of a kind has: the model's l14Form; no conditions beyond those that each fact names · What a command of a kind has: the model's l14Form, at a class of kinds; no conditions beyond those that each fact names. -/
import Derived.Test.YtaiificlempeaaaGreatDoorCfn
import Derived.Test.YtaiificlempeaaaGreatDoorCfp
namespace Go.Proofs.YtaiificlempeaaaGreatDoor
open Go.RowKit
set_option linter.unusedVariables false

set_option maxHeartbeats 3200000 in
set_option maxRecDepth 100000 in
theorem l14Pathed_any (h : Int) (w : World) : Calls Tryz.prog 48 #[.int .i64 h] w fun e w' => e = .returned (.bool (ptK h)) ∧ w = w' := by
  go_enter Tryz.func48, Tryz.ntmps48
  go_wp2_with fail
  refine (l1In_bt _ _ _ _).mono ?_
  rintro e w1 ⟨rfl, rfl⟩
  go_wp2
  go_ret
  exact ⟨rfl, rfl⟩

set_option maxHeartbeats 3200000 in
set_option maxRecDepth 100000 in
theorem l14Named_any (k : Int) (w : World) : Calls Tryz.prog 27 #[.int .i64 k] w fun e w' => e = .returned (.bool (nmK k)) ∧ w = w' := by
  by_cases h2 : k = 2
  · subst h2
    go_enter Tryz.func27, Tryz.ntmps27
    go_wp2
    go_ret
    exact ⟨rfl, rfl⟩
  by_cases h3 : k = 3
  · subst h3
    go_enter Tryz.func27, Tryz.ntmps27
    go_wp2
    go_ret
    exact ⟨rfl, rfl⟩
  by_cases h4 : k = 4
  · subst h4
    go_enter Tryz.func27, Tryz.ntmps27
    go_wp2
    go_ret
    exact ⟨rfl, rfl⟩
  by_cases h6 : k = 6
  · subst h6
    go_enter Tryz.func27, Tryz.ntmps27
    go_wp2
    go_ret
    exact ⟨rfl, rfl⟩
  by_cases h8 : k = 8
  · subst h8
    go_enter Tryz.func27, Tryz.ntmps27
    go_wp2
    go_ret
    exact ⟨rfl, rfl⟩
  by_cases h9 : k = 9
  · subst h9
    go_enter Tryz.func27, Tryz.ntmps27
    go_wp2
    go_ret
    exact ⟨rfl, rfl⟩
  have HR : Hid (nmK k = false) := by show _ = _; unfold nmK; simp [h2, h3, h4, h6, h8, h9]
  generalize nmK k = r at *
  go_enter Tryz.func27, Tryz.ntmps27
  go_wp2
  go_ret
  exact ⟨by rw [HR.out]; first | rfl | simp [h2, h3, h4, h6, h8, h9] | simp, rfl⟩

set_option maxHeartbeats 3200000 in
set_option maxRecDepth 100000 in
theorem l14Termed_any (k : Int) (w : World) : Calls Tryz.prog 32 #[.int .i64 k] w fun e w' => e = .returned (.bool (tmK k)) ∧ w = w' := by
  by_cases h12 : k = 12
  · subst h12
    go_enter Tryz.func32, Tryz.ntmps32
    go_wp2
    go_ret
    exact ⟨rfl, rfl⟩
  by_cases h13 : k = 13
  · subst h13
    go_enter Tryz.func32, Tryz.ntmps32
    go_wp2
    go_ret
    exact ⟨rfl, rfl⟩
  have HR : Hid (tmK k = false) := by show _ = _; unfold tmK; simp [h12, h13]
  generalize tmK k = r at *
  go_enter Tryz.func32, Tryz.ntmps32
  go_wp2
  go_ret
  exact ⟨by rw [HR.out]; first | rfl | simp [h12, h13] | simp, rfl⟩

set_option maxHeartbeats 3200000 in
set_option maxRecDepth 100000 in
theorem l14Ranged_any (k : Int) (w : World) : Calls Tryz.prog 29 #[.int .i64 k] w fun e w' => e = .returned (.bool (rgK k)) ∧ w = w' := by
  have HV : Hid (rgK k = (bt k 7 9 || decide (k = 11))) := by
    show _ = _
    unfold rgK bt
    by_cases h : k = 11
    · subst h; rfl
    · simp only [h, decide_false, Bool.or_false, or_false]
      exact decide_eq_decide.2 (by omega)
  have HC : Hid (∀ w, Calls Tryz.prog 47 #[.int .i64 k, .int .i64 7, .int .i64 9] w fun e w' => e = .returned (.bool (bt k 7 9)) ∧ w = w') := fun w => l1In_bt _ _ _ w
  generalize bt k 7 9 = b at *
  generalize rgK k = r at *
  cases b with
  | true =>
    have HR : Hid (r = true) := HV.out.trans (by simp)
    clear HV
    go_enter Tryz.func29, Tryz.ntmps29
    go_wp2_with fail
    refine (HC.out _).mono ?_
    rintro e w1 ⟨rfl, rfl⟩
    go_wp2
    go_ret
    exact ⟨by rw [HR.out]; rfl, rfl⟩
  | false =>
    by_cases h : k = 11
    · have HR : Hid (r = true) := HV.out.trans (by simp [h])
      clear HV
      subst h
      go_enter Tryz.func29, Tryz.ntmps29
      go_wp2_with fail
      refine (HC.out _).mono ?_
      rintro e w1 ⟨rfl, rfl⟩
      go_wp2
      go_ret
      exact ⟨by rw [HR.out]; rfl, rfl⟩
    · have HR : Hid (r = false) := HV.out.trans (by simp [h])
      clear HV
      go_enter Tryz.func29, Tryz.ntmps29
      go_wp2_with fail
      refine (HC.out _).mono ?_
      rintro e w1 ⟨rfl, rfl⟩
      go_wp2
      go_ret
      exact ⟨by rw [HR.out]; first | rfl | simp [h] | simp, rfl⟩

end Go.Proofs.YtaiificlempeaaaGreatDoor

namespace Go.Proofs.YtaiificlempeaaaGreatDoor
open Go.RowKit
set_option linter.unusedVariables false

set_option maxHeartbeats 12800000 in
set_option maxRecDepth 100000 in
theorem l14Form_0 (o : CmR) (p : SlC) (g : Nat) {lo : Nat} (w : World) (hs : IsCm lo w p o) (hq : Qm w g (cmQ o p)) (hb : bt o.k 1 14 = false) :
    Calls Tryz.prog 26 #[.pointer (some ⟨g, 0, none⟩)] w fun e w' => e = .returned (.bool (fmC o)) ∧ Below w.heap.size w w' := by
  have hl1 := hs.1.1
  have hl2 := hs.2.1.1
  have hl3 := hs.2.2.1.1
  have hl4 := hs.2.2.2.1
  clear hs
  obtain ⟨⟨a1, n1, c1⟩, ⟨a2, n2, c2⟩, ⟨a3, n3, c3⟩, ⟨a4, n4, c4⟩⟩ := p
  obtain ⟨xt, xk, xn, xy, xm, xf, xd, xb, xh, xp, xe, xr, xu, xc⟩ := o
  dsimp only at hl1 hl2 hl3 hl4 hb
  obtain ⟨e0, e1, e2, e3, e4, e5, e6, e7, e8, e9, e10, e11, e12, e13⟩ := hq
  dsimp only at e0 e1 e2 e3 e4 e5 e6 e7 e8 e9 e10 e11 e12 e13
  have HV : Hid (fmC ⟨xt, xk, xn, xy, xm, xf, xd, xb, xh, xp, xe, xr, xu, xc⟩ = (bt xk 1 14 && ((nmK xk || !decide (xn.size ≠ 0)) && (rgK xk || !decide (n1 ≠ 0))) && ((decide (xk = 7) || (!decide (xm ≠ 0) && (decide (xk = 6) || !decide (xf ≠ 0)))) && (((decide (xk = 6) || (!decide (xd ≠ 0) && !decide (n2 ≠ 0))) && (decide (xk = 11) || !decide (xh ≠ 0))) && (((ptK xh || !decide (n3 ≠ 0)) && (decide (xk = 13) || (!decide (xe ≠ 0) && !xr))) && ((tmK xk || !decide (n4 ≠ 0)) && (decide (xk = 14) || !decide (xc ≠ 0)))))))) := by
    show _ = _
    unfold fmC
    simp only [hl1, hl2, hl3, hl4]
  have HB : Hid (∀ w, Calls Tryz.prog 47 #[.int .i64 xk, .int .i64 1, .int .i64 14] w fun e w' => e = .returned (.bool (bt xk 1 14)) ∧ w = w') := fun w => l1In_bt _ _ _ w
  rw [hb] at HV
  rw [hb] at HB
  generalize fmC ⟨xt, xk, xn, xy, xm, xf, xd, xb, xh, xp, xe, xr, xu, xc⟩ = r at *
  clear hl1 hl2 hl3 hl4 hb
  have HR : Hid (r = false) := HV.out.trans (by simp)
  clear HV
  go_enter Tryz.func26, Tryz.ntmps26
  go_wp2_with (first | (go_at_call 47; refine (HB.out _).mono ?_; rintro e w' ⟨rfl, rfl⟩))
  go_ret
  exact ⟨by rw [HR.out]; first | rfl | simp, Below.refl _ _⟩
end Go.Proofs.YtaiificlempeaaaGreatDoor
