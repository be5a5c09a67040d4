/- What a command of a kind has: the model's l14Form, at a class of kinds; no conditions beyond those that each fact names · What a command of a kind has: the model's l14Form, at a class of kinds; no conditions beyond those that each fact names. -/
import Derived.Test.YtjogclofjollnaaGreatDoorTxnToCfs
namespace Go.Proofs.YtjogclofjollnaaGreatDoor
open Go.RowKit
set_option linter.unusedVariables false
set_option maxHeartbeats 12800000 in
set_option maxRecDepth 100000 in
theorem l14Form_1 (o : CmR) (p : SlC) (g : Nat) {lo : Nat} (w : World) (hs : IsCm lo w p o) (hq : Qm w g (cmQ o p)) (hb : bt o.k 1 14 = true) (hnm : nmK o.k = false) (hrg : rgK o.k = false) (htm : tmK o.k = false) (k6 : ¬ o.k = 6) (k7 : ¬ o.k = 7) (k11 : ¬ o.k = 11) (k13 : ¬ o.k = 13) (k14 : ¬ o.k = 14) :
  Calls Tryz.prog 28 #[.pointer (some ⟨g, 0, none⟩)] w fun e w' => e = .returned (.bool (fmC o)) ∧ Below w.heap.size w w' := by
 have hl1 := hs.1.1
 have hl2 := hs.2.1.1
 have hl3 := hs.2.2.1.1
 have hl4 := hs.2.2.2.1
 clear hs
 obtain ⟨⟨a1, n1, c1⟩, ⟨a2, n2, c2⟩, ⟨a3, n3, c3⟩, ⟨a4, n4, c4⟩⟩ := p
 obtain ⟨xt, xk, xn, xy, xm, xf, xd, xb, xh, xp, xe, xr, xu, xc⟩ := o
 dsimp only at hl1 hl2 hl3 hl4 hb hnm hrg htm k6 k7 k11 k13 k14
 obtain ⟨e0, e1, e2, e3, e4, e5, e6, e7, e8, e9, e10, e11, e12, e13⟩ := hq
 dsimp only at e0 e1 e2 e3 e4 e5 e6 e7 e8 e9 e10 e11 e12 e13
 have HV : Hid (fmC ⟨xt, xk, xn, xy, xm, xf, xd, xb, xh, xp, xe, xr, xu, xc⟩ = (bt xk 1 14 && ((nmK xk || !decide (xn.size ≠ 0)) && (rgK xk || !decide (n1 ≠ 0))) && ((decide (xk = 7) || (!decide (xm ≠ 0) && (decide (xk = 6) || !decide (xf ≠ 0)))) && (((decide (xk = 6) || (!decide (xd ≠ 0) && !decide (n2 ≠ 0))) && (decide (xk = 11) || !decide (xh ≠ 0))) && (((ptK xh || !decide (n3 ≠ 0)) && (decide (xk = 13) || (!decide (xe ≠ 0) && !xr))) && ((tmK xk || !decide (n4 ≠ 0)) && (decide (xk = 14) || !decide (xc ≠ 0)))))))) := by
  show _ = _
  unfold fmC
  simp only [hl1, hl2, hl3, hl4]
 have HB : Hid (∀ w, Calls Tryz.prog 46 #[.int .i64 xk, .int .i64 1, .int .i64 14] w fun e w' => e = .returned (.bool (bt xk 1 14)) ∧ w = w') := fun w => l1In_bt _ _ _ w
 have HN : Hid (∀ w, Calls Tryz.prog 29 #[.int .i64 xk] w fun e w' => e = .returned (.bool (nmK xk)) ∧ w = w') := fun w => l14Named_any _ w
 have HG : Hid (∀ w, Calls Tryz.prog 31 #[.int .i64 xk] w fun e w' => e = .returned (.bool (rgK xk)) ∧ w = w') := fun w => l14Ranged_any _ w
 have HP : Hid (∀ w, Calls Tryz.prog 47 #[.int .i64 xh] w fun e w' => e = .returned (.bool (ptK xh)) ∧ w = w') := fun w => l14Pathed_any _ w
 have HM : Hid (∀ w, Calls Tryz.prog 34 #[.int .i64 xk] w fun e w' => e = .returned (.bool (tmK xk)) ∧ w = w') := fun w => l14Termed_any _ w
 rw [hb, hnm, hrg, htm] at HV
 rw [hb] at HB
 rw [hnm] at HN
 rw [hrg] at HG
 rw [htm] at HM
 have d6 : decide ((xk : Int) = 6) = false := decide_eq_false k6
 have d7 : decide ((xk : Int) = 7) = false := decide_eq_false k7
 have d11 : decide ((xk : Int) = 11) = false := decide_eq_false k11
 have d13 : decide ((xk : Int) = 13) = false := decide_eq_false k13
 have d14 : decide ((xk : Int) = 14) = false := decide_eq_false k14
 rw [d6, d7, d11, d13, d14] at HV
 have f6 : (xk != 6) = true := by simp [k6]
 have f7 : (xk != 7) = true := by simp [k7]
 have f11 : (xk != 11) = true := by simp [k11]
 have f13 : (xk != 13) = true := by simp [k13]
 have f14 : (xk != 14) = true := by simp [k14]
 have f14' : (xk == 14) = false := by simp [k14]
 clear d6 d7 d11 d13 d14
 have hpt : xh = 0 → ptK xh = false := fun h => by rw [h]; rfl
 generalize ptK xh = pt at *
 generalize fmC ⟨xt, xk, xn, xy, xm, xf, xd, xb, xh, xp, xe, xr, xu, xc⟩ = r at *
 clear hl1 hl2 hl3 hl4 hb hnm hrg htm
 by_cases hxn : xn.size = 0
 rotate_left
 ·skip
  have fxn : xn.toList.isEmpty = false := by have := isEmpC xn; simpa [hxn] using this
  have HR : Hid (r = false) := HV.out.trans (by simp [hxn])
  clear HV
  go_enter Tryz.func28, Tryz.ntmps28
  go_wp2_with (first | (go_at_call 46; refine (HB.out _).mono ?_; rintro e w' ⟨rfl, rfl⟩) | (go_at_call 29; refine (HN.out _).mono ?_; rintro e w' ⟨rfl, rfl⟩) | (go_at_call 31; refine (HG.out _).mono ?_; rintro e w' ⟨rfl, rfl⟩) | (go_at_call 47; refine (HP.out _).mono ?_; rintro e w' ⟨rfl, rfl⟩) | (go_at_call 34; refine (HM.out _).mono ?_; rintro e w' ⟨rfl, rfl⟩))
  go_ret
  exact ⟨by rw [HR.out]; first | rfl | simp, Below.refl _ _⟩
 have fxn : xn.toList.isEmpty = true := by have := isEmpC xn; simpa [hxn] using this
 by_cases hn1 : n1 = 0
 rotate_left
 ·skip
  have fn1 : (0 : Int) < (n1 : Int) := by omega
  have HR : Hid (r = false) := HV.out.trans (by simp [hxn, hn1])
  clear HV
  go_enter Tryz.func28, Tryz.ntmps28
  go_wp2_with (first | (go_at_call 46; refine (HB.out _).mono ?_; rintro e w' ⟨rfl, rfl⟩) | (go_at_call 29; refine (HN.out _).mono ?_; rintro e w' ⟨rfl, rfl⟩) | (go_at_call 31; refine (HG.out _).mono ?_; rintro e w' ⟨rfl, rfl⟩) | (go_at_call 47; refine (HP.out _).mono ?_; rintro e w' ⟨rfl, rfl⟩) | (go_at_call 34; refine (HM.out _).mono ?_; rintro e w' ⟨rfl, rfl⟩))
  go_ret
  exact ⟨by rw [HR.out]; first | rfl | simp, Below.refl _ _⟩
 have fn1 : ¬ (0 : Int) < (n1 : Int) := by omega
 by_cases hxm : xm = 0
 rotate_left
 ·skip
  have fxm : (xm != 0) = true := by simp [hxm]
  have gxm : (xm == 0) = false := by simp [hxm]
  have HR : Hid (r = false) := HV.out.trans (by simp [hxn, hn1, hxm])
  clear HV
  go_enter Tryz.func28, Tryz.ntmps28
  go_wp2_with (first | (go_at_call 46; refine (HB.out _).mono ?_; rintro e w' ⟨rfl, rfl⟩) | (go_at_call 29; refine (HN.out _).mono ?_; rintro e w' ⟨rfl, rfl⟩) | (go_at_call 31; refine (HG.out _).mono ?_; rintro e w' ⟨rfl, rfl⟩) | (go_at_call 47; refine (HP.out _).mono ?_; rintro e w' ⟨rfl, rfl⟩) | (go_at_call 34; refine (HM.out _).mono ?_; rintro e w' ⟨rfl, rfl⟩))
  go_ret
  exact ⟨by rw [HR.out]; first | rfl | simp, Below.refl _ _⟩
 have fxm : (xm != 0) = false := by simp [hxm]
 have gxm : (xm == 0) = true := by simp [hxm]
 by_cases hxf : xf = 0
 rotate_left
 ·skip
  have fxf : (xf != 0) = true := by simp [hxf]
  have gxf : (xf == 0) = false := by simp [hxf]
  have HR : Hid (r = false) := HV.out.trans (by simp [hxn, hn1, hxm, hxf])
  clear HV
  go_enter Tryz.func28, Tryz.ntmps28
  go_wp2_with (first | (go_at_call 46; refine (HB.out _).mono ?_; rintro e w' ⟨rfl, rfl⟩) | (go_at_call 29; refine (HN.out _).mono ?_; rintro e w' ⟨rfl, rfl⟩) | (go_at_call 31; refine (HG.out _).mono ?_; rintro e w' ⟨rfl, rfl⟩) | (go_at_call 47; refine (HP.out _).mono ?_; rintro e w' ⟨rfl, rfl⟩) | (go_at_call 34; refine (HM.out _).mono ?_; rintro e w' ⟨rfl, rfl⟩))
  go_ret
  exact ⟨by rw [HR.out]; first | rfl | simp, Below.refl _ _⟩
 have fxf : (xf != 0) = false := by simp [hxf]
 have gxf : (xf == 0) = true := by simp [hxf]
 by_cases hxd : xd = 0
 rotate_left
 ·skip
  have fxd : (xd != 0) = true := by simp [hxd]
  have gxd : (xd == 0) = false := by simp [hxd]
  have HR : Hid (r = false) := HV.out.trans (by simp [hxn, hn1, hxm, hxf, hxd])
  clear HV
  go_enter Tryz.func28, Tryz.ntmps28
  go_wp2_with (first | (go_at_call 46; refine (HB.out _).mono ?_; rintro e w' ⟨rfl, rfl⟩) | (go_at_call 29; refine (HN.out _).mono ?_; rintro e w' ⟨rfl, rfl⟩) | (go_at_call 31; refine (HG.out _).mono ?_; rintro e w' ⟨rfl, rfl⟩) | (go_at_call 47; refine (HP.out _).mono ?_; rintro e w' ⟨rfl, rfl⟩) | (go_at_call 34; refine (HM.out _).mono ?_; rintro e w' ⟨rfl, rfl⟩))
  go_ret
  exact ⟨by rw [HR.out]; first | rfl | simp, Below.refl _ _⟩
 have fxd : (xd != 0) = false := by simp [hxd]
 have gxd : (xd == 0) = true := by simp [hxd]
 by_cases hn2 : n2 = 0
 rotate_left
 ·skip
  have fn2 : (0 : Int) < (n2 : Int) := by omega
  have HR : Hid (r = false) := HV.out.trans (by simp [hxn, hn1, hxm, hxf, hxd, hn2])
  clear HV
  go_enter Tryz.func28, Tryz.ntmps28
  go_wp2_with (first | (go_at_call 46; refine (HB.out _).mono ?_; rintro e w' ⟨rfl, rfl⟩) | (go_at_call 29; refine (HN.out _).mono ?_; rintro e w' ⟨rfl, rfl⟩) | (go_at_call 31; refine (HG.out _).mono ?_; rintro e w' ⟨rfl, rfl⟩) | (go_at_call 47; refine (HP.out _).mono ?_; rintro e w' ⟨rfl, rfl⟩) | (go_at_call 34; refine (HM.out _).mono ?_; rintro e w' ⟨rfl, rfl⟩))
  go_ret
  exact ⟨by rw [HR.out]; first | rfl | simp, Below.refl _ _⟩
 have fn2 : ¬ (0 : Int) < (n2 : Int) := by omega
 by_cases hxh : xh = 0
 rotate_left
 ·skip
  have fxh : (xh != 0) = true := by simp [hxh]
  have gxh : (xh == 0) = false := by simp [hxh]
  have HR : Hid (r = false) := HV.out.trans (by simp [hxn, hn1, hxm, hxf, hxd, hn2, hxh])
  clear HV
  go_enter Tryz.func28, Tryz.ntmps28
  go_wp2_with (first | (go_at_call 46; refine (HB.out _).mono ?_; rintro e w' ⟨rfl, rfl⟩) | (go_at_call 29; refine (HN.out _).mono ?_; rintro e w' ⟨rfl, rfl⟩) | (go_at_call 31; refine (HG.out _).mono ?_; rintro e w' ⟨rfl, rfl⟩) | (go_at_call 47; refine (HP.out _).mono ?_; rintro e w' ⟨rfl, rfl⟩) | (go_at_call 34; refine (HM.out _).mono ?_; rintro e w' ⟨rfl, rfl⟩))
  go_ret
  exact ⟨by rw [HR.out]; first | rfl | simp, Below.refl _ _⟩
 have fxh : (xh != 0) = false := by simp [hxh]
 have gxh : (xh == 0) = true := by simp [hxh]
 obtain rfl := hpt hxh
 have Hxh : Hid (xh = 0) := hxh
 clear hpt hxh
 by_cases hn3 : n3 = 0
 rotate_left
 ·skip
  have fn3 : (0 : Int) < (n3 : Int) := by omega
  have HR : Hid (r = false) := HV.out.trans (by simp [hxn, hn1, hxm, hxf, hxd, hn2, Hxh.out, hn3])
  clear HV
  go_enter Tryz.func28, Tryz.ntmps28
  go_wp2_with (first | (go_at_call 46; refine (HB.out _).mono ?_; rintro e w' ⟨rfl, rfl⟩) | (go_at_call 29; refine (HN.out _).mono ?_; rintro e w' ⟨rfl, rfl⟩) | (go_at_call 31; refine (HG.out _).mono ?_; rintro e w' ⟨rfl, rfl⟩) | (go_at_call 47; refine (HP.out _).mono ?_; rintro e w' ⟨rfl, rfl⟩) | (go_at_call 34; refine (HM.out _).mono ?_; rintro e w' ⟨rfl, rfl⟩))
  go_ret
  exact ⟨by rw [HR.out]; first | rfl | simp, Below.refl _ _⟩
 have fn3 : ¬ (0 : Int) < (n3 : Int) := by omega
 by_cases hxe : xe = 0
 rotate_left
 ·skip
  have fxe : (xe != 0) = true := by simp [hxe]
  have gxe : (xe == 0) = false := by simp [hxe]
  have HR : Hid (r = false) := HV.out.trans (by simp [hxn, hn1, hxm, hxf, hxd, hn2, Hxh.out, hn3, hxe])
  clear HV
  go_enter Tryz.func28, Tryz.ntmps28
  go_wp2_with (first | (go_at_call 46; refine (HB.out _).mono ?_; rintro e w' ⟨rfl, rfl⟩) | (go_at_call 29; refine (HN.out _).mono ?_; rintro e w' ⟨rfl, rfl⟩) | (go_at_call 31; refine (HG.out _).mono ?_; rintro e w' ⟨rfl, rfl⟩) | (go_at_call 47; refine (HP.out _).mono ?_; rintro e w' ⟨rfl, rfl⟩) | (go_at_call 34; refine (HM.out _).mono ?_; rintro e w' ⟨rfl, rfl⟩))
  go_ret
  exact ⟨by rw [HR.out]; first | rfl | simp, Below.refl _ _⟩
 have fxe : (xe != 0) = false := by simp [hxe]
 have gxe : (xe == 0) = true := by simp [hxe]
 cases xr with
 | true =>
  have HR : Hid (r = false) := HV.out.trans (by simp [hxn, hn1, hxm, hxf, hxd, hn2, Hxh.out, hn3, hxe])
  clear HV
  go_enter Tryz.func28, Tryz.ntmps28
  go_wp2_with (first | (go_at_call 46; refine (HB.out _).mono ?_; rintro e w' ⟨rfl, rfl⟩) | (go_at_call 29; refine (HN.out _).mono ?_; rintro e w' ⟨rfl, rfl⟩) | (go_at_call 31; refine (HG.out _).mono ?_; rintro e w' ⟨rfl, rfl⟩) | (go_at_call 47; refine (HP.out _).mono ?_; rintro e w' ⟨rfl, rfl⟩) | (go_at_call 34; refine (HM.out _).mono ?_; rintro e w' ⟨rfl, rfl⟩))
  go_ret
  exact ⟨by rw [HR.out]; first | rfl | simp, Below.refl _ _⟩
 | false =>
  by_cases hn4 : n4 = 0
  rotate_left
  ·skip
   have fn4 : (0 : Int) < (n4 : Int) := by omega
   have HR : Hid (r = false) := HV.out.trans (by simp [hxn, hn1, hxm, hxf, hxd, hn2, Hxh.out, hn3, hxe, hn4])
   clear HV
   go_enter Tryz.func28, Tryz.ntmps28
   go_wp2_with (first | (go_at_call 46; refine (HB.out _).mono ?_; rintro e w' ⟨rfl, rfl⟩) | (go_at_call 29; refine (HN.out _).mono ?_; rintro e w' ⟨rfl, rfl⟩) | (go_at_call 31; refine (HG.out _).mono ?_; rintro e w' ⟨rfl, rfl⟩) | (go_at_call 47; refine (HP.out _).mono ?_; rintro e w' ⟨rfl, rfl⟩) | (go_at_call 34; refine (HM.out _).mono ?_; rintro e w' ⟨rfl, rfl⟩))
   go_ret
   exact ⟨by rw [HR.out]; first | rfl | simp, Below.refl _ _⟩
  have fn4 : ¬ (0 : Int) < (n4 : Int) := by omega
  by_cases hxc : xc = 0
  rotate_left
  ·skip
   have fxc : (xc != 0) = true := by simp [hxc]
   have gxc : (xc == 0) = false := by simp [hxc]
   have HR : Hid (r = false) := HV.out.trans (by simp [hxn, hn1, hxm, hxf, hxd, hn2, Hxh.out, hn3, hxe, hn4, hxc])
   clear HV
   go_enter Tryz.func28, Tryz.ntmps28
   go_wp2_with (first | (go_at_call 46; refine (HB.out _).mono ?_; rintro e w' ⟨rfl, rfl⟩) | (go_at_call 29; refine (HN.out _).mono ?_; rintro e w' ⟨rfl, rfl⟩) | (go_at_call 31; refine (HG.out _).mono ?_; rintro e w' ⟨rfl, rfl⟩) | (go_at_call 47; refine (HP.out _).mono ?_; rintro e w' ⟨rfl, rfl⟩) | (go_at_call 34; refine (HM.out _).mono ?_; rintro e w' ⟨rfl, rfl⟩))
   go_ret
   exact ⟨by rw [HR.out]; first | rfl | simp, Below.refl _ _⟩
  have fxc : (xc != 0) = false := by simp [hxc]
  have gxc : (xc == 0) = true := by simp [hxc]
  have HR : Hid (r = true) := HV.out.trans (by simp [hxn, hn1, hxm, hxf, hxd, hn2, Hxh.out, hn3, hxe, hn4, hxc])
  clear HV
  go_enter Tryz.func28, Tryz.ntmps28
  go_wp2_with (first | (go_at_call 46; refine (HB.out _).mono ?_; rintro e w' ⟨rfl, rfl⟩) | (go_at_call 29; refine (HN.out _).mono ?_; rintro e w' ⟨rfl, rfl⟩) | (go_at_call 31; refine (HG.out _).mono ?_; rintro e w' ⟨rfl, rfl⟩) | (go_at_call 47; refine (HP.out _).mono ?_; rintro e w' ⟨rfl, rfl⟩) | (go_at_call 34; refine (HM.out _).mono ?_; rintro e w' ⟨rfl, rfl⟩))
  go_ret
  exact ⟨by rw [HR.out]; first | rfl | simp, Below.refl _ _⟩
end Go.Proofs.YtjogclofjollnaaGreatDoor
namespace Go.Proofs.YtjogclofjollnaaGreatDoor
open Go.RowKit
set_option linter.unusedVariables false
set_option maxHeartbeats 12800000 in
set_option maxRecDepth 100000 in
theorem l14Form_2 (o : CmR) (p : SlC) (g : Nat) {lo : Nat} (w : World) (hs : IsCm lo w p o) (hq : Qm w g (cmQ o p)) (hb : bt o.k 1 14 = true) (hnm : nmK o.k = true) (hrg : rgK o.k = false) (htm : tmK o.k = false) (k6 : ¬ o.k = 6) (k7 : ¬ o.k = 7) (k11 : ¬ o.k = 11) (k13 : ¬ o.k = 13) (k14 : ¬ o.k = 14) :
  Calls Tryz.prog 28 #[.pointer (some ⟨g, 0, none⟩)] w fun e w' => e = .returned (.bool (fmC o)) ∧ Below w.heap.size w w' := by
 have hl1 := hs.1.1
 have hl2 := hs.2.1.1
 have hl3 := hs.2.2.1.1
 have hl4 := hs.2.2.2.1
 clear hs
 obtain ⟨⟨a1, n1, c1⟩, ⟨a2, n2, c2⟩, ⟨a3, n3, c3⟩, ⟨a4, n4, c4⟩⟩ := p
 obtain ⟨xt, xk, xn, xy, xm, xf, xd, xb, xh, xp, xe, xr, xu, xc⟩ := o
 dsimp only at hl1 hl2 hl3 hl4 hb hnm hrg htm k6 k7 k11 k13 k14
 obtain ⟨e0, e1, e2, e3, e4, e5, e6, e7, e8, e9, e10, e11, e12, e13⟩ := hq
 dsimp only at e0 e1 e2 e3 e4 e5 e6 e7 e8 e9 e10 e11 e12 e13
 have HV : Hid (fmC ⟨xt, xk, xn, xy, xm, xf, xd, xb, xh, xp, xe, xr, xu, xc⟩ = (bt xk 1 14 && ((nmK xk || !decide (xn.size ≠ 0)) && (rgK xk || !decide (n1 ≠ 0))) && ((decide (xk = 7) || (!decide (xm ≠ 0) && (decide (xk = 6) || !decide (xf ≠ 0)))) && (((decide (xk = 6) || (!decide (xd ≠ 0) && !decide (n2 ≠ 0))) && (decide (xk = 11) || !decide (xh ≠ 0))) && (((ptK xh || !decide (n3 ≠ 0)) && (decide (xk = 13) || (!decide (xe ≠ 0) && !xr))) && ((tmK xk || !decide (n4 ≠ 0)) && (decide (xk = 14) || !decide (xc ≠ 0)))))))) := by
  show _ = _
  unfold fmC
  simp only [hl1, hl2, hl3, hl4]
 have HB : Hid (∀ w, Calls Tryz.prog 46 #[.int .i64 xk, .int .i64 1, .int .i64 14] w fun e w' => e = .returned (.bool (bt xk 1 14)) ∧ w = w') := fun w => l1In_bt _ _ _ w
 have HN : Hid (∀ w, Calls Tryz.prog 29 #[.int .i64 xk] w fun e w' => e = .returned (.bool (nmK xk)) ∧ w = w') := fun w => l14Named_any _ w
 have HG : Hid (∀ w, Calls Tryz.prog 31 #[.int .i64 xk] w fun e w' => e = .returned (.bool (rgK xk)) ∧ w = w') := fun w => l14Ranged_any _ w
 have HP : Hid (∀ w, Calls Tryz.prog 47 #[.int .i64 xh] w fun e w' => e = .returned (.bool (ptK xh)) ∧ w = w') := fun w => l14Pathed_any _ w
 have HM : Hid (∀ w, Calls Tryz.prog 34 #[.int .i64 xk] w fun e w' => e = .returned (.bool (tmK xk)) ∧ w = w') := fun w => l14Termed_any _ w
 rw [hb, hnm, hrg, htm] at HV
 rw [hb] at HB
 rw [hnm] at HN
 rw [hrg] at HG
 rw [htm] at HM
 have d6 : decide ((xk : Int) = 6) = false := decide_eq_false k6
 have d7 : decide ((xk : Int) = 7) = false := decide_eq_false k7
 have d11 : decide ((xk : Int) = 11) = false := decide_eq_false k11
 have d13 : decide ((xk : Int) = 13) = false := decide_eq_false k13
 have d14 : decide ((xk : Int) = 14) = false := decide_eq_false k14
 rw [d6, d7, d11, d13, d14] at HV
 have f6 : (xk != 6) = true := by simp [k6]
 have f7 : (xk != 7) = true := by simp [k7]
 have f11 : (xk != 11) = true := by simp [k11]
 have f13 : (xk != 13) = true := by simp [k13]
 have f14 : (xk != 14) = true := by simp [k14]
 have f14' : (xk == 14) = false := by simp [k14]
 clear d6 d7 d11 d13 d14
 have hpt : xh = 0 → ptK xh = false := fun h => by rw [h]; rfl
 generalize ptK xh = pt at *
 generalize fmC ⟨xt, xk, xn, xy, xm, xf, xd, xb, xh, xp, xe, xr, xu, xc⟩ = r at *
 clear hl1 hl2 hl3 hl4 hb hnm hrg htm
 by_cases hn1 : n1 = 0
 rotate_left
 ·skip
  have fn1 : (0 : Int) < (n1 : Int) := by omega
  have HR : Hid (r = false) := HV.out.trans (by simp [hn1])
  clear HV
  go_enter Tryz.func28, Tryz.ntmps28
  go_wp2_with (first | (go_at_call 46; refine (HB.out _).mono ?_; rintro e w' ⟨rfl, rfl⟩) | (go_at_call 29; refine (HN.out _).mono ?_; rintro e w' ⟨rfl, rfl⟩) | (go_at_call 31; refine (HG.out _).mono ?_; rintro e w' ⟨rfl, rfl⟩) | (go_at_call 47; refine (HP.out _).mono ?_; rintro e w' ⟨rfl, rfl⟩) | (go_at_call 34; refine (HM.out _).mono ?_; rintro e w' ⟨rfl, rfl⟩))
  go_ret
  exact ⟨by rw [HR.out]; first | rfl | simp, Below.refl _ _⟩
 have fn1 : ¬ (0 : Int) < (n1 : Int) := by omega
 by_cases hxm : xm = 0
 rotate_left
 ·skip
  have fxm : (xm != 0) = true := by simp [hxm]
  have gxm : (xm == 0) = false := by simp [hxm]
  have HR : Hid (r = false) := HV.out.trans (by simp [hn1, hxm])
  clear HV
  go_enter Tryz.func28, Tryz.ntmps28
  go_wp2_with (first | (go_at_call 46; refine (HB.out _).mono ?_; rintro e w' ⟨rfl, rfl⟩) | (go_at_call 29; refine (HN.out _).mono ?_; rintro e w' ⟨rfl, rfl⟩) | (go_at_call 31; refine (HG.out _).mono ?_; rintro e w' ⟨rfl, rfl⟩) | (go_at_call 47; refine (HP.out _).mono ?_; rintro e w' ⟨rfl, rfl⟩) | (go_at_call 34; refine (HM.out _).mono ?_; rintro e w' ⟨rfl, rfl⟩))
  go_ret
  exact ⟨by rw [HR.out]; first | rfl | simp, Below.refl _ _⟩
 have fxm : (xm != 0) = false := by simp [hxm]
 have gxm : (xm == 0) = true := by simp [hxm]
 by_cases hxf : xf = 0
 rotate_left
 ·skip
  have fxf : (xf != 0) = true := by simp [hxf]
  have gxf : (xf == 0) = false := by simp [hxf]
  have HR : Hid (r = false) := HV.out.trans (by simp [hn1, hxm, hxf])
  clear HV
  go_enter Tryz.func28, Tryz.ntmps28
  go_wp2_with (first | (go_at_call 46; refine (HB.out _).mono ?_; rintro e w' ⟨rfl, rfl⟩) | (go_at_call 29; refine (HN.out _).mono ?_; rintro e w' ⟨rfl, rfl⟩) | (go_at_call 31; refine (HG.out _).mono ?_; rintro e w' ⟨rfl, rfl⟩) | (go_at_call 47; refine (HP.out _).mono ?_; rintro e w' ⟨rfl, rfl⟩) | (go_at_call 34; refine (HM.out _).mono ?_; rintro e w' ⟨rfl, rfl⟩))
  go_ret
  exact ⟨by rw [HR.out]; first | rfl | simp, Below.refl _ _⟩
 have fxf : (xf != 0) = false := by simp [hxf]
 have gxf : (xf == 0) = true := by simp [hxf]
 by_cases hxd : xd = 0
 rotate_left
 ·skip
  have fxd : (xd != 0) = true := by simp [hxd]
  have gxd : (xd == 0) = false := by simp [hxd]
  have HR : Hid (r = false) := HV.out.trans (by simp [hn1, hxm, hxf, hxd])
  clear HV
  go_enter Tryz.func28, Tryz.ntmps28
  go_wp2_with (first | (go_at_call 46; refine (HB.out _).mono ?_; rintro e w' ⟨rfl, rfl⟩) | (go_at_call 29; refine (HN.out _).mono ?_; rintro e w' ⟨rfl, rfl⟩) | (go_at_call 31; refine (HG.out _).mono ?_; rintro e w' ⟨rfl, rfl⟩) | (go_at_call 47; refine (HP.out _).mono ?_; rintro e w' ⟨rfl, rfl⟩) | (go_at_call 34; refine (HM.out _).mono ?_; rintro e w' ⟨rfl, rfl⟩))
  go_ret
  exact ⟨by rw [HR.out]; first | rfl | simp, Below.refl _ _⟩
 have fxd : (xd != 0) = false := by simp [hxd]
 have gxd : (xd == 0) = true := by simp [hxd]
 by_cases hn2 : n2 = 0
 rotate_left
 ·skip
  have fn2 : (0 : Int) < (n2 : Int) := by omega
  have HR : Hid (r = false) := HV.out.trans (by simp [hn1, hxm, hxf, hxd, hn2])
  clear HV
  go_enter Tryz.func28, Tryz.ntmps28
  go_wp2_with (first | (go_at_call 46; refine (HB.out _).mono ?_; rintro e w' ⟨rfl, rfl⟩) | (go_at_call 29; refine (HN.out _).mono ?_; rintro e w' ⟨rfl, rfl⟩) | (go_at_call 31; refine (HG.out _).mono ?_; rintro e w' ⟨rfl, rfl⟩) | (go_at_call 47; refine (HP.out _).mono ?_; rintro e w' ⟨rfl, rfl⟩) | (go_at_call 34; refine (HM.out _).mono ?_; rintro e w' ⟨rfl, rfl⟩))
  go_ret
  exact ⟨by rw [HR.out]; first | rfl | simp, Below.refl _ _⟩
 have fn2 : ¬ (0 : Int) < (n2 : Int) := by omega
 by_cases hxh : xh = 0
 rotate_left
 ·skip
  have fxh : (xh != 0) = true := by simp [hxh]
  have gxh : (xh == 0) = false := by simp [hxh]
  have HR : Hid (r = false) := HV.out.trans (by simp [hn1, hxm, hxf, hxd, hn2, hxh])
  clear HV
  go_enter Tryz.func28, Tryz.ntmps28
  go_wp2_with (first | (go_at_call 46; refine (HB.out _).mono ?_; rintro e w' ⟨rfl, rfl⟩) | (go_at_call 29; refine (HN.out _).mono ?_; rintro e w' ⟨rfl, rfl⟩) | (go_at_call 31; refine (HG.out _).mono ?_; rintro e w' ⟨rfl, rfl⟩) | (go_at_call 47; refine (HP.out _).mono ?_; rintro e w' ⟨rfl, rfl⟩) | (go_at_call 34; refine (HM.out _).mono ?_; rintro e w' ⟨rfl, rfl⟩))
  go_ret
  exact ⟨by rw [HR.out]; first | rfl | simp, Below.refl _ _⟩
 have fxh : (xh != 0) = false := by simp [hxh]
 have gxh : (xh == 0) = true := by simp [hxh]
 obtain rfl := hpt hxh
 have Hxh : Hid (xh = 0) := hxh
 clear hpt hxh
 by_cases hn3 : n3 = 0
 rotate_left
 ·skip
  have fn3 : (0 : Int) < (n3 : Int) := by omega
  have HR : Hid (r = false) := HV.out.trans (by simp [hn1, hxm, hxf, hxd, hn2, Hxh.out, hn3])
  clear HV
  go_enter Tryz.func28, Tryz.ntmps28
  go_wp2_with (first | (go_at_call 46; refine (HB.out _).mono ?_; rintro e w' ⟨rfl, rfl⟩) | (go_at_call 29; refine (HN.out _).mono ?_; rintro e w' ⟨rfl, rfl⟩) | (go_at_call 31; refine (HG.out _).mono ?_; rintro e w' ⟨rfl, rfl⟩) | (go_at_call 47; refine (HP.out _).mono ?_; rintro e w' ⟨rfl, rfl⟩) | (go_at_call 34; refine (HM.out _).mono ?_; rintro e w' ⟨rfl, rfl⟩))
  go_ret
  exact ⟨by rw [HR.out]; first | rfl | simp, Below.refl _ _⟩
 have fn3 : ¬ (0 : Int) < (n3 : Int) := by omega
 by_cases hxe : xe = 0
 rotate_left
 ·skip
  have fxe : (xe != 0) = true := by simp [hxe]
  have gxe : (xe == 0) = false := by simp [hxe]
  have HR : Hid (r = false) := HV.out.trans (by simp [hn1, hxm, hxf, hxd, hn2, Hxh.out, hn3, hxe])
  clear HV
  go_enter Tryz.func28, Tryz.ntmps28
  go_wp2_with (first | (go_at_call 46; refine (HB.out _).mono ?_; rintro e w' ⟨rfl, rfl⟩) | (go_at_call 29; refine (HN.out _).mono ?_; rintro e w' ⟨rfl, rfl⟩) | (go_at_call 31; refine (HG.out _).mono ?_; rintro e w' ⟨rfl, rfl⟩) | (go_at_call 47; refine (HP.out _).mono ?_; rintro e w' ⟨rfl, rfl⟩) | (go_at_call 34; refine (HM.out _).mono ?_; rintro e w' ⟨rfl, rfl⟩))
  go_ret
  exact ⟨by rw [HR.out]; first | rfl | simp, Below.refl _ _⟩
 have fxe : (xe != 0) = false := by simp [hxe]
 have gxe : (xe == 0) = true := by simp [hxe]
 cases xr with
 | true =>
  have HR : Hid (r = false) := HV.out.trans (by simp [hn1, hxm, hxf, hxd, hn2, Hxh.out, hn3, hxe])
  clear HV
  go_enter Tryz.func28, Tryz.ntmps28
  go_wp2_with (first | (go_at_call 46; refine (HB.out _).mono ?_; rintro e w' ⟨rfl, rfl⟩) | (go_at_call 29; refine (HN.out _).mono ?_; rintro e w' ⟨rfl, rfl⟩) | (go_at_call 31; refine (HG.out _).mono ?_; rintro e w' ⟨rfl, rfl⟩) | (go_at_call 47; refine (HP.out _).mono ?_; rintro e w' ⟨rfl, rfl⟩) | (go_at_call 34; refine (HM.out _).mono ?_; rintro e w' ⟨rfl, rfl⟩))
  go_ret
  exact ⟨by rw [HR.out]; first | rfl | simp, Below.refl _ _⟩
 | false =>
  by_cases hn4 : n4 = 0
  rotate_left
  ·skip
   have fn4 : (0 : Int) < (n4 : Int) := by omega
   have HR : Hid (r = false) := HV.out.trans (by simp [hn1, hxm, hxf, hxd, hn2, Hxh.out, hn3, hxe, hn4])
   clear HV
   go_enter Tryz.func28, Tryz.ntmps28
   go_wp2_with (first | (go_at_call 46; refine (HB.out _).mono ?_; rintro e w' ⟨rfl, rfl⟩) | (go_at_call 29; refine (HN.out _).mono ?_; rintro e w' ⟨rfl, rfl⟩) | (go_at_call 31; refine (HG.out _).mono ?_; rintro e w' ⟨rfl, rfl⟩) | (go_at_call 47; refine (HP.out _).mono ?_; rintro e w' ⟨rfl, rfl⟩) | (go_at_call 34; refine (HM.out _).mono ?_; rintro e w' ⟨rfl, rfl⟩))
   go_ret
   exact ⟨by rw [HR.out]; first | rfl | simp, Below.refl _ _⟩
  have fn4 : ¬ (0 : Int) < (n4 : Int) := by omega
  by_cases hxc : xc = 0
  rotate_left
  ·skip
   have fxc : (xc != 0) = true := by simp [hxc]
   have gxc : (xc == 0) = false := by simp [hxc]
   have HR : Hid (r = false) := HV.out.trans (by simp [hn1, hxm, hxf, hxd, hn2, Hxh.out, hn3, hxe, hn4, hxc])
   clear HV
   go_enter Tryz.func28, Tryz.ntmps28
   go_wp2_with (first | (go_at_call 46; refine (HB.out _).mono ?_; rintro e w' ⟨rfl, rfl⟩) | (go_at_call 29; refine (HN.out _).mono ?_; rintro e w' ⟨rfl, rfl⟩) | (go_at_call 31; refine (HG.out _).mono ?_; rintro e w' ⟨rfl, rfl⟩) | (go_at_call 47; refine (HP.out _).mono ?_; rintro e w' ⟨rfl, rfl⟩) | (go_at_call 34; refine (HM.out _).mono ?_; rintro e w' ⟨rfl, rfl⟩))
   go_ret
   exact ⟨by rw [HR.out]; first | rfl | simp, Below.refl _ _⟩
  have fxc : (xc != 0) = false := by simp [hxc]
  have gxc : (xc == 0) = true := by simp [hxc]
  have HR : Hid (r = true) := HV.out.trans (by simp [hn1, hxm, hxf, hxd, hn2, Hxh.out, hn3, hxe, hn4, hxc])
  clear HV
  go_enter Tryz.func28, Tryz.ntmps28
  go_wp2_with (first | (go_at_call 46; refine (HB.out _).mono ?_; rintro e w' ⟨rfl, rfl⟩) | (go_at_call 29; refine (HN.out _).mono ?_; rintro e w' ⟨rfl, rfl⟩) | (go_at_call 31; refine (HG.out _).mono ?_; rintro e w' ⟨rfl, rfl⟩) | (go_at_call 47; refine (HP.out _).mono ?_; rintro e w' ⟨rfl, rfl⟩) | (go_at_call 34; refine (HM.out _).mono ?_; rintro e w' ⟨rfl, rfl⟩))
  go_ret
  exact ⟨by rw [HR.out]; first | rfl | simp, Below.refl _ _⟩
end Go.Proofs.YtjogclofjollnaaGreatDoor
