/- The numbers of a command: the program's hasCmdBounds, the model's l14Numbers; no conditions beyond those that each fact names. -/
import Derived.Test.YtjogclofjollnaaGreatDoorCmuToCfp
import Derived.Test.YtjogclofjollnaaGreatDoorAppIToFlt
namespace Go.Proofs.YtjogclofjollnaaGreatDoor
open Go.RowKit
set_option linter.unusedVariables false
set_option maxHeartbeats 1600000 in
set_option maxRecDepth 100000 in
theorem isKey_c (x : Int) (w : World) : Calls Tryz.prog 100 #[.int .i64 x] w fun e w' => e = .returned (.bool (bt x 1 4)) ∧ w = w' := by
 go_enter Tryz.func100, Tryz.ntmps100
 go_wp2_with fail
 refine (isBetween_bt _ _ _ _).mono ?_
 rintro e w1 ⟨rfl, rfl⟩
 go_wp2
 go_ret
 exact ⟨rfl, rfl⟩
set_option maxHeartbeats 1600000 in
set_option maxRecDepth 100000 in
theorem isComparator_c (x : Int) (w : World) : Calls Tryz.prog 101 #[.int .i64 x] w fun e w' => e = .returned (.bool (bt x 1 3)) ∧ w = w' := by
 go_enter Tryz.func101, Tryz.ntmps101
 go_wp2_with fail
 refine (isBetween_bt _ _ _ _).mono ?_
 rintro e w1 ⟨rfl, rfl⟩
 go_wp2
 go_ret
 exact ⟨rfl, rfl⟩
set_option maxHeartbeats 1600000 in
set_option maxRecDepth 100000 in
theorem isPathNumber_c (x : Int) (w : World) : Calls Tryz.prog 99 #[.int .i64 x] w fun e w' => e = .returned (.bool (bt x 1 9)) ∧ w = w' := by
 go_enter Tryz.func99, Tryz.ntmps99
 go_wp2_with fail
 refine (isBetween_bt _ _ _ _).mono ?_
 rintro e w1 ⟨rfl, rfl⟩
 go_wp2
 go_ret
 exact ⟨rfl, rfl⟩
set_option maxHeartbeats 1600000 in
set_option maxRecDepth 100000 in
theorem l13Key_c (x : Int) (w : World) : Calls Tryz.prog 49 #[.int .i64 x] w fun e w' => e = .returned (.bool (bt x 1 4)) ∧ w = w' := by
 go_enter Tryz.func49, Tryz.ntmps49
 go_wp2_with fail
 refine (l1In_bt _ _ _ _).mono ?_
 rintro e w1 ⟨rfl, rfl⟩
 go_wp2
 go_ret
 exact ⟨rfl, rfl⟩
set_option maxHeartbeats 1600000 in
set_option maxRecDepth 100000 in
theorem l3Cmp_c (x : Int) (w : World) : Calls Tryz.prog 50 #[.int .i64 x] w fun e w' => e = .returned (.bool (bt x 1 3)) ∧ w = w' := by
 go_enter Tryz.func50, Tryz.ntmps50
 go_wp2_with fail
 refine (l1In_bt _ _ _ _).mono ?_
 rintro e w1 ⟨rfl, rfl⟩
 go_wp2
 go_ret
 exact ⟨rfl, rfl⟩
def pnB (x : Int) : Bool := bt x 1 9
def pnV (l : List Int) : Bool := decide (l.length ≤ 3) && l.all pnB
def nbC (o : CmR) : Bool := if o.k = 7 then (bt o.m 1 3 && bt o.f 0 15) else if o.k = 6 then (bt o.f 0 15 && (bt o.d 0 9999 && bt (o.b.length : Int) 1 400)) else if o.k = 11 then (bt o.h 1 7 && pnV o.p) else if o.k = 13 then bt o.e 1 4 else if o.k = 14 then bt o.c 1 3 else true
set_option maxHeartbeats 1600000 in
set_option maxRecDepth 100000 in
theorem areAll_path (a : Option Addr) (n cap : Nat) (l : List Int) (w : World) (hl : l.length = n) (hr : RdI w a l) (hn : n ≤ maxLen) :
  Calls Tryz.prog 98 #[.slice a n cap, .func (.func 99) #[] #[]] w fun e w' => e = .returned (.bool (l.all pnB)) ∧ Below w.heap.size w w' := by
 unfold maxLen at hn
 go_enter Tryz.func98, Tryz.ntmps98
 go_wp2
 go_loopw [9] (fun v9 wr => ∃ k : Nat, k ≤ n ∧ v9 = .int .i64 k ∧ (l.take k).all pnB = true ∧ Below w.heap.size w wr) (fun v9 _ => n - (intOf v9).toNat)
 case atStart => exact ⟨0, Nat.zero_le _, rfl, by simp, Below.refl _ _⟩
 case round =>
  obtain ⟨k, hk, rfl, hall, hbel⟩ := hrel
  by_cases hkn : k < n
  ·obtain ⟨b, off, rfl, hblt, hcell⟩ := hr.at_ (by omega)
   have hc : wr.cell? ⟨b, off + k, none⟩ = some (.int .i64 (nthI l k)) := (hbel.cell (p := ⟨b, off + k, none⟩) hblt).trans (hcell k (by omega))
   have hmem : nthI l k ∈ l := nthI_mem (by omega)
   have HS : Hid (pnB (nthI l k) = true → (l.take (k + 1)).all pnB = true) := fun hb => all_step (by omega) hall hb
   have HF : Hid (pnB (nthI l k) = false → l.all pnB = false) := fun hb => all_bad (by omega) hb
   clear hcell hr hall
   generalize nthI l k = x at *
   cases hp : pnB x with
   | true =>
    have hall' := HS.out hp
    go_wp2_with (first | (go_at_call 99; refine (isPathNumber_c _ _).mono ?_; rintro e w' ⟨rfl, rfl⟩; rw [show bt x 1 9 = pnB x from rfl, hp]))
    go_roundw
    case rel => exact ⟨k + 1, by omega, by go_num, hall', hbel⟩
    case measure => simp [intOf]; omega
   | false =>
    clear HS
    go_wp2_with (first | (go_at_call 99; refine (isPathNumber_c _ _).mono ?_; rintro e w' ⟨rfl, rfl⟩; rw [show bt x 1 9 = pnB x from rfl, hp]))
    go_ret
    exact ⟨by rw [HF.out hp]; rfl, hbel⟩
  ·have hkk : k = n := by omega
   subst hkk
   have HA : Hid (l.all pnB = true) := all_end hl hall
   go_wp2
   go_ret
   exact ⟨by rw [HA.out]; rfl, hbel⟩
set_option maxHeartbeats 1600000 in
set_option maxRecDepth 100000 in
theorem l14Path_any (a : Option Addr) (n cap : Nat) (l : List Int) (w : World) (hl : l.length = n) (hr : RdI w a l) (hn : n ≤ maxLen) :
  Calls Tryz.prog 48 #[.slice a n cap] w fun e w' => e = .returned (.bool (pnV l)) ∧ Below w.heap.size w w' := by
 have HL : Hid (l.length = n) := hl
 unfold maxLen at hn
 go_enter Tryz.func48, Tryz.ntmps48
 go_wp2
 go_loopw [3] (fun v wr => ∃ k : Nat, k ≤ n ∧ v = .int .i64 k ∧ (l.take k).all pnB = true ∧ Below w.heap.size w wr) (fun v _ => n - (intOf v).toNat)
 case atStart => exact ⟨0, Nat.zero_le _, rfl, by simp, Below.refl _ _⟩
 case round =>
  obtain ⟨k, hk, rfl, hall, hbel⟩ := hrel
  by_cases hkn : k < n
  ·have hki : (k : Int) < (n : Int) := by omega
   obtain ⟨b, off, rfl, hblt, hcell⟩ := hr.at_ (by omega)
   have hc : wr.cell? ⟨b, off + k, none⟩ = some (.int .i64 (nthI l k)) := (hbel.cell (p := ⟨b, off + k, none⟩) hblt).trans (hcell k (by omega))
   have HS : Hid (pnB (nthI l k) = true → (l.take (k + 1)).all pnB = true) := fun hb => all_step (by omega) hall hb
   have HF : Hid (pnB (nthI l k) = false → pnV l = false) := fun hb => by unfold pnV; rw [all_bad (by omega) hb, Bool.and_false]
   have HC : Hid (∀ w, Calls Tryz.prog 46 #[.int .i64 (nthI l k), .int .i64 1, .int .i64 9] w fun e w' => e = .returned (.bool (pnB (nthI l k))) ∧ w = w') := fun w => l1In_bt _ _ _ w
   clear hcell hr hall hl
   generalize nthI l k = x at *
   generalize pnB x = b at *
   cases b with
   | true =>
    have hall' : Hid (_) := And.intro (HS.out rfl) True.intro
    clear HS HF
    go_wp2_with fail
    refine (HC.out _).mono ?_
    rintro e w' ⟨rfl, rfl⟩
    go_wp2
    go_roundw
    case rel => exact ⟨k + 1, by omega, by go_num, hall'.out.1, hbel⟩
    case measure => simp [intOf]; omega
   | false =>
    have HM : Hid (pnV l = false) := HF.out rfl
    clear HS HF
    go_wp2_with fail
    refine (HC.out _).mono ?_
    rintro e w' ⟨rfl, rfl⟩
    go_wp2
    go_ret
    exact ⟨by rw [HM.out]; rfl, hbel⟩
  ·have hki : ¬ (k : Int) < (n : Int) := by omega
   obtain rfl : k = n := by omega
   have HA : l.all pnB = true := all_end hl hall
   by_cases h3 : k ≤ 3
   ·have h3' : (k : Int) ≤ 3 := by omega
    have HM : Hid (pnV l = true) := by show _ = _; unfold pnV; rw [HA, HL.out, decide_eq_true h3]; rfl
    clear hl hall HA
    go_wp2
    go_ret
    exact ⟨by rw [HM.out]; rfl, hbel⟩
   ·have h3' : ¬ (k : Int) ≤ 3 := by omega
    have HM : Hid (pnV l = false) := by show _ = _; unfold pnV; rw [HL.out, decide_eq_false h3]; rfl
    clear hl hall HA
    go_wp2
    go_ret
    exact ⟨by rw [HM.out]; rfl, hbel⟩
set_option maxHeartbeats 3200000 in
set_option maxRecDepth 100000 in
theorem hasCmdBounds_any (o : CmR) (p : SlC) {lo : Nat} (w : World) (hs : IsCm lo w p o) :
  Calls Tryz.prog 70 #[cmX o p] w fun e w' => e = .returned (.bool (nbC o)) ∧ Below w.heap.size w w' := by
 obtain ⟨-, hB, hP, -⟩ := hs
 obtain ⟨q1, ⟨a2, n2, c2⟩, ⟨a3, n3, c3⟩, q4⟩ := p
 obtain ⟨xt, xk, xn, xy, xm, xf, xd, xb, xh, xp, xe, xr, xu, xc⟩ := o
 obtain ⟨hbl, -, -, -⟩ := hB
 obtain ⟨hpl, hpc, hpm, hpr, -⟩ := hP
 dsimp only at hbl hpl hpc hpm hpr
 have hpn : n3 ≤ maxLen := Nat.le_trans hpc hpm
 by_cases h6 : xk = 6
 ·subst h6
  have hb0 : Below w.heap.size w (w.alloc (.cells #[.string xt, .int .i64 6, .string xn, slW q1, .int .i64 xm, .int .i64 xf, .int .i64 xd, slW (a2, n2, c2), .int .i64 xh, slW (a3, n3, c3), .int .i64 xe, .bool xr, slW q4, .int .i64 xc] 35)) := (Below.refl _ _).alloc (Nat.le_refl _) _
  have HV : Hid (nbC ⟨xt, 6, xn, xy, xm, xf, xd, xb, xh, xp, xe, xr, xu, xc⟩ = (bt xf 0 15 && (bt xd 0 9999 && bt (n2 : Int) 1 400))) := by show _ = _; unfold nbC; simp [hbl]
  generalize nbC ⟨xt, 6, xn, xy, xm, xf, xd, xb, xh, xp, xe, xr, xu, xc⟩ = r at *
  have HC0 : Hid (∀ w, Calls Tryz.prog 97 #[.int .i64 xf] w fun e w' => e = .returned (.bool (bt xf 0 15)) ∧ w = w') := fun w => areFlags_bt _ w
  generalize bt xf 0 15 = b0 at *
  have HC1 : Hid (∀ w, Calls Tryz.prog 65 #[.int .i64 xd, .int .i64 0, .int .i64 9999] w fun e w' => e = .returned (.bool (bt xd 0 9999)) ∧ w = w') := fun w => isBetween_bt _ _ _ w
  generalize bt xd 0 9999 = b1 at *
  have HC2 : Hid (∀ w, Calls Tryz.prog 65 #[.int .i64 (n2 : Int), .int .i64 1, .int .i64 400] w fun e w' => e = .returned (.bool (bt (n2 : Int) 1 400)) ∧ w = w') := fun w => isBetween_bt _ _ _ w
  generalize bt (n2 : Int) 1 400 = b2 at *
  clear hbl hpl hpc hpm hpr hpn
  go_enter Tryz.func70, Tryz.ntmps70
  go_wp2_with fail
  refine (HC0.out _).mono ?_
  rintro e w' ⟨rfl, rfl⟩
  clear HC0
  cases b0 with
  | false =>
   have HR : Hid (r = false) := HV.out.trans (by simp)
   clear HV
   go_wp2
   go_ret
   exact ⟨by rw [HR.out]; first | rfl | simp, hb0⟩
  | true =>
   go_wp2_with fail
   refine (HC1.out _).mono ?_
   rintro e w' ⟨rfl, rfl⟩
   clear HC1
   cases b1 with
   | false =>
    have HR : Hid (r = false) := HV.out.trans (by simp)
    clear HV
    go_wp2
    go_ret
    exact ⟨by rw [HR.out]; first | rfl | simp, hb0⟩
   | true =>
    go_wp2_with fail
    refine (HC2.out _).mono ?_
    rintro e w' ⟨rfl, rfl⟩
    clear HC2
    have HR : Hid (r = b2) := HV.out.trans (by simp)
    clear HV
    go_wp2
    go_ret
    exact ⟨by rw [HR.out]; first | rfl | simp, hb0⟩
 by_cases h7 : xk = 7
 ·subst h7
  have hb0 : Below w.heap.size w (w.alloc (.cells #[.string xt, .int .i64 7, .string xn, slW q1, .int .i64 xm, .int .i64 xf, .int .i64 xd, slW (a2, n2, c2), .int .i64 xh, slW (a3, n3, c3), .int .i64 xe, .bool xr, slW q4, .int .i64 xc] 35)) := (Below.refl _ _).alloc (Nat.le_refl _) _
  have HV : Hid (nbC ⟨xt, 7, xn, xy, xm, xf, xd, xb, xh, xp, xe, xr, xu, xc⟩ = (bt xm 1 3 && bt xf 0 15)) := by show _ = _; unfold nbC; simp
  generalize nbC ⟨xt, 7, xn, xy, xm, xf, xd, xb, xh, xp, xe, xr, xu, xc⟩ = r at *
  have HC0 : Hid (∀ w, Calls Tryz.prog 65 #[.int .i64 xm, .int .i64 1, .int .i64 3] w fun e w' => e = .returned (.bool (bt xm 1 3)) ∧ w = w') := fun w => isBetween_bt _ _ _ w
  generalize bt xm 1 3 = b0 at *
  have HC1 : Hid (∀ w, Calls Tryz.prog 97 #[.int .i64 xf] w fun e w' => e = .returned (.bool (bt xf 0 15)) ∧ w = w') := fun w => areFlags_bt _ w
  generalize bt xf 0 15 = b1 at *
  clear hbl hpl hpc hpm hpr hpn
  go_enter Tryz.func70, Tryz.ntmps70
  go_wp2_with fail
  refine (HC0.out _).mono ?_
  rintro e w' ⟨rfl, rfl⟩
  clear HC0
  cases b0 with
  | false =>
   have HR : Hid (r = false) := HV.out.trans (by simp)
   clear HV
   go_wp2
   go_ret
   exact ⟨by rw [HR.out]; first | rfl | simp, hb0⟩
  | true =>
   go_wp2_with fail
   refine (HC1.out _).mono ?_
   rintro e w' ⟨rfl, rfl⟩
   clear HC1
   have HR : Hid (r = b1) := HV.out.trans (by simp)
   clear HV
   go_wp2
   go_ret
   exact ⟨by rw [HR.out]; first | rfl | simp, hb0⟩
 by_cases h11 : xk = 11
 ·subst h11
  have hb0 : Below w.heap.size w (w.alloc (.cells #[.string xt, .int .i64 11, .string xn, slW q1, .int .i64 xm, .int .i64 xf, .int .i64 xd, slW (a2, n2, c2), .int .i64 xh, slW (a3, n3, c3), .int .i64 xe, .bool xr, slW q4, .int .i64 xc] 35)) := (Below.refl _ _).alloc (Nat.le_refl _) _
  have HV : Hid (nbC ⟨xt, 11, xn, xy, xm, xf, xd, xb, xh, xp, xe, xr, xu, xc⟩ = (bt xh 1 7 && pnV xp)) := by show _ = _; unfold nbC; simp
  generalize nbC ⟨xt, 11, xn, xy, xm, xf, xd, xb, xh, xp, xe, xr, xu, xc⟩ = r at *
  have HC0 : Hid (∀ w, Calls Tryz.prog 65 #[.int .i64 xh, .int .i64 1, .int .i64 7] w fun e w' => e = .returned (.bool (bt xh 1 7)) ∧ w = w') := fun w => isBetween_bt _ _ _ w
  generalize bt xh 1 7 = b0 at *
  have HP : Hid (_) := And.intro (areAll_path a3 n3 c3 xp _ hpl (hpr.below hb0) hpn) True.intro
  have HPV : Hid (pnV xp = (decide (n3 ≤ 3) && xp.all pnB)) := by show _ = _; unfold pnV; rw [hpl]
  generalize xp.all pnB = ba at *
  generalize pnV xp = bp at *
  clear hbl hpl hpc hpm hpr hpn
  go_enter Tryz.func70, Tryz.ntmps70
  go_wp2_with fail
  refine (HC0.out _).mono ?_
  rintro e w' ⟨rfl, rfl⟩
  clear HC0
  cases b0 with
  | false =>
   have HR : Hid (r = false) := HV.out.trans (by simp)
   clear HV
   go_wp2
   go_ret
   exact ⟨by rw [HR.out]; first | rfl | simp, hb0⟩
  | true =>
   by_cases h3 : n3 ≤ 3
   rotate_left
   ·have h3' : ¬ (n3 : Int) ≤ 3 := by omega
    have HR : Hid (r = false) := by show _ = _; rw [HV.out, HPV.out, decide_eq_false h3]; rfl
    clear HV HPV HP
    go_wp2
    go_ret
    exact ⟨by rw [HR.out]; first | rfl | simp, hb0⟩
   have h3' : (n3 : Int) ≤ 3 := by omega
   have HR : Hid (r = ba) := by show _ = _; rw [HV.out, HPV.out, decide_eq_true h3]; rfl
   clear HV HPV
   replace HP := HP.out.1
   go_wp2_with fail
   refine HP.mono ?_
   rintro e w1 ⟨rfl, hb1⟩
   go_wp2
   go_ret
   exact ⟨by rw [HR.out]; first | rfl | simp, hb0.trans (hb1.mono hb0.size)⟩
 by_cases h13 : xk = 13
 ·subst h13
  have hb0 : Below w.heap.size w (w.alloc (.cells #[.string xt, .int .i64 13, .string xn, slW q1, .int .i64 xm, .int .i64 xf, .int .i64 xd, slW (a2, n2, c2), .int .i64 xh, slW (a3, n3, c3), .int .i64 xe, .bool xr, slW q4, .int .i64 xc] 35)) := (Below.refl _ _).alloc (Nat.le_refl _) _
  have HV : Hid (nbC ⟨xt, 13, xn, xy, xm, xf, xd, xb, xh, xp, xe, xr, xu, xc⟩ = bt xe 1 4) := by show _ = _; unfold nbC; simp
  generalize nbC ⟨xt, 13, xn, xy, xm, xf, xd, xb, xh, xp, xe, xr, xu, xc⟩ = r at *
  have HC0 : Hid (∀ w, Calls Tryz.prog 100 #[.int .i64 xe] w fun e w' => e = .returned (.bool (bt xe 1 4)) ∧ w = w') := fun w => isKey_c _ w
  generalize bt xe 1 4 = b0 at *
  clear hbl hpl hpc hpm hpr hpn
  go_enter Tryz.func70, Tryz.ntmps70
  go_wp2_with fail
  refine (HC0.out _).mono ?_
  rintro e w' ⟨rfl, rfl⟩
  clear HC0
  have HR : Hid (r = b0) := HV.out.trans (by simp)
  clear HV
  go_wp2
  go_ret
  exact ⟨by rw [HR.out]; first | rfl | simp, hb0⟩
 by_cases h14 : xk = 14
 ·subst h14
  have hb0 : Below w.heap.size w (w.alloc (.cells #[.string xt, .int .i64 14, .string xn, slW q1, .int .i64 xm, .int .i64 xf, .int .i64 xd, slW (a2, n2, c2), .int .i64 xh, slW (a3, n3, c3), .int .i64 xe, .bool xr, slW q4, .int .i64 xc] 35)) := (Below.refl _ _).alloc (Nat.le_refl _) _
  have HV : Hid (nbC ⟨xt, 14, xn, xy, xm, xf, xd, xb, xh, xp, xe, xr, xu, xc⟩ = bt xc 1 3) := by show _ = _; unfold nbC; simp
  generalize nbC ⟨xt, 14, xn, xy, xm, xf, xd, xb, xh, xp, xe, xr, xu, xc⟩ = r at *
  have HC0 : Hid (∀ w, Calls Tryz.prog 101 #[.int .i64 xc] w fun e w' => e = .returned (.bool (bt xc 1 3)) ∧ w = w') := fun w => isComparator_c _ w
  generalize bt xc 1 3 = b0 at *
  clear hbl hpl hpc hpm hpr hpn
  go_enter Tryz.func70, Tryz.ntmps70
  go_wp2_with fail
  refine (HC0.out _).mono ?_
  rintro e w' ⟨rfl, rfl⟩
  clear HC0
  have HR : Hid (r = b0) := HV.out.trans (by simp)
  clear HV
  go_wp2
  go_ret
  exact ⟨by rw [HR.out]; first | rfl | simp, hb0⟩
 have HR : Hid (nbC ⟨xt, xk, xn, xy, xm, xf, xd, xb, xh, xp, xe, xr, xu, xc⟩ = true) := by show _ = _; unfold nbC; simp [h6, h7, h11, h13, h14]
 have hb0 : Below w.heap.size w (w.alloc (.cells #[.string xt, .int .i64 xk, .string xn, slW q1, .int .i64 xm, .int .i64 xf, .int .i64 xd, slW (a2, n2, c2), .int .i64 xh, slW (a3, n3, c3), .int .i64 xe, .bool xr, slW q4, .int .i64 xc] 35)) := (Below.refl _ _).alloc (Nat.le_refl _) _
 clear hbl hpl hpc hpm hpr hpn
 go_enter Tryz.func70, Tryz.ntmps70
 go_wp2
 go_ret
 exact ⟨by rw [HR.out]; rfl, hb0⟩
set_option maxHeartbeats 3200000 in
set_option maxRecDepth 100000 in
theorem l14Numbers_any (o : CmR) (p : SlC) (g : Nat) {lo : Nat} (w : World) (hs : IsCm lo w p o) (hq : Qm w g (cmQ o p)) :
  Calls Tryz.prog 33 #[.pointer (some ⟨g, 0, none⟩)] w fun e w' => e = .returned (.bool (nbC o)) ∧ Below w.heap.size w w' := by
 obtain ⟨-, hB, hP, -⟩ := hs
 obtain ⟨q1, ⟨a2, n2, c2⟩, ⟨a3, n3, c3⟩, q4⟩ := p
 obtain ⟨xt, xk, xn, xy, xm, xf, xd, xb, xh, xp, xe, xr, xu, xc⟩ := o
 obtain ⟨hbl, -, -, -⟩ := hB
 obtain ⟨hpl, hpc, hpm, hpr, -⟩ := hP
 dsimp only at hbl hpl hpc hpm hpr
 have hpn : n3 ≤ maxLen := Nat.le_trans hpc hpm
 by_cases h7 : xk = 7
 ·subst h7
  obtain ⟨e0, e1, e2, e3, e4, e5, e6, e7, e8, e9, e10, e11, e12, e13⟩ := hq
  dsimp only at e0 e1 e2 e3 e4 e5 e6 e7 e8 e9 e10 e11 e12 e13
  have hb0 : Below w.heap.size w w := Below.refl _ _
  have HV : Hid (nbC ⟨xt, 7, xn, xy, xm, xf, xd, xb, xh, xp, xe, xr, xu, xc⟩ = (bt xm 1 3 && bt xf 0 15)) := by show _ = _; unfold nbC; simp
  generalize nbC ⟨xt, 7, xn, xy, xm, xf, xd, xb, xh, xp, xe, xr, xu, xc⟩ = r at *
  have HC0 : Hid (∀ w, Calls Tryz.prog 46 #[.int .i64 xm, .int .i64 1, .int .i64 3] w fun e w' => e = .returned (.bool (bt xm 1 3)) ∧ w = w') := fun w => l1In_bt _ _ _ w
  generalize bt xm 1 3 = b0 at *
  have HC1 : Hid (∀ w, Calls Tryz.prog 46 #[.int .i64 xf, .int .i64 0, .int .i64 15] w fun e w' => e = .returned (.bool (bt xf 0 15)) ∧ w = w') := fun w => l1In_bt _ _ _ w
  generalize bt xf 0 15 = b1 at *
  clear hbl hpl hpc hpm hpr hpn
  go_enter Tryz.func33, Tryz.ntmps33
  go_wp2_with fail
  refine (HC0.out _).mono ?_
  rintro e w' ⟨rfl, rfl⟩
  clear HC0
  cases b0 with
  | false =>
   have HR : Hid (r = false) := HV.out.trans (by simp)
   clear HV
   go_wp2
   go_ret
   exact ⟨by rw [HR.out]; first | rfl | simp, hb0⟩
  | true =>
   go_wp2_with fail
   refine (HC1.out _).mono ?_
   rintro e w' ⟨rfl, rfl⟩
   clear HC1
   have HR : Hid (r = b1) := HV.out.trans (by simp)
   clear HV
   go_wp2
   go_ret
   exact ⟨by rw [HR.out]; first | rfl | simp, hb0⟩
 by_cases h6 : xk = 6
 ·subst h6
  obtain ⟨e0, e1, e2, e3, e4, e5, e6, e7, e8, e9, e10, e11, e12, e13⟩ := hq
  dsimp only at e0 e1 e2 e3 e4 e5 e6 e7 e8 e9 e10 e11 e12 e13
  have hb0 : Below w.heap.size w w := Below.refl _ _
  have HV : Hid (nbC ⟨xt, 6, xn, xy, xm, xf, xd, xb, xh, xp, xe, xr, xu, xc⟩ = (bt xf 0 15 && (bt xd 0 9999 && bt (n2 : Int) 1 400))) := by show _ = _; unfold nbC; simp [hbl]
  generalize nbC ⟨xt, 6, xn, xy, xm, xf, xd, xb, xh, xp, xe, xr, xu, xc⟩ = r at *
  have HC0 : Hid (∀ w, Calls Tryz.prog 46 #[.int .i64 xf, .int .i64 0, .int .i64 15] w fun e w' => e = .returned (.bool (bt xf 0 15)) ∧ w = w') := fun w => l1In_bt _ _ _ w
  generalize bt xf 0 15 = b0 at *
  have HC1 : Hid (∀ w, Calls Tryz.prog 46 #[.int .i64 xd, .int .i64 0, .int .i64 9999] w fun e w' => e = .returned (.bool (bt xd 0 9999)) ∧ w = w') := fun w => l1In_bt _ _ _ w
  generalize bt xd 0 9999 = b1 at *
  have HC2 : Hid (∀ w, Calls Tryz.prog 46 #[.int .i64 (n2 : Int), .int .i64 1, .int .i64 400] w fun e w' => e = .returned (.bool (bt (n2 : Int) 1 400)) ∧ w = w') := fun w => l1In_bt _ _ _ w
  generalize bt (n2 : Int) 1 400 = b2 at *
  clear hbl hpl hpc hpm hpr hpn
  go_enter Tryz.func33, Tryz.ntmps33
  go_wp2_with fail
  refine (HC0.out _).mono ?_
  rintro e w' ⟨rfl, rfl⟩
  clear HC0
  cases b0 with
  | false =>
   have HR : Hid (r = false) := HV.out.trans (by simp)
   clear HV
   go_wp2
   go_ret
   exact ⟨by rw [HR.out]; first | rfl | simp, hb0⟩
  | true =>
   go_wp2_with fail
   refine (HC1.out _).mono ?_
   rintro e w' ⟨rfl, rfl⟩
   clear HC1
   cases b1 with
   | false =>
    have HR : Hid (r = false) := HV.out.trans (by simp)
    clear HV
    go_wp2
    go_ret
    exact ⟨by rw [HR.out]; first | rfl | simp, hb0⟩
   | true =>
    go_wp2_with fail
    refine (HC2.out _).mono ?_
    rintro e w' ⟨rfl, rfl⟩
    clear HC2
    have HR : Hid (r = b2) := HV.out.trans (by simp)
    clear HV
    go_wp2
    go_ret
    exact ⟨by rw [HR.out]; first | rfl | simp, hb0⟩
 by_cases h11 : xk = 11
 ·subst h11
  obtain ⟨e0, e1, e2, e3, e4, e5, e6, e7, e8, e9, e10, e11, e12, e13⟩ := hq
  dsimp only at e0 e1 e2 e3 e4 e5 e6 e7 e8 e9 e10 e11 e12 e13
  have hb0 : Below w.heap.size w w := Below.refl _ _
  have HV : Hid (nbC ⟨xt, 11, xn, xy, xm, xf, xd, xb, xh, xp, xe, xr, xu, xc⟩ = (bt xh 1 7 && pnV xp)) := by show _ = _; unfold nbC; simp
  generalize nbC ⟨xt, 11, xn, xy, xm, xf, xd, xb, xh, xp, xe, xr, xu, xc⟩ = r at *
  have HC0 : Hid (∀ w, Calls Tryz.prog 46 #[.int .i64 xh, .int .i64 1, .int .i64 7] w fun e w' => e = .returned (.bool (bt xh 1 7)) ∧ w = w') := fun w => l1In_bt _ _ _ w
  generalize bt xh 1 7 = b0 at *
  have HP : Hid (_) := And.intro (l14Path_any a3 n3 c3 xp w hpl hpr hpn) True.intro
  generalize pnV xp = bp at *
  clear hbl hpl hpc hpm hpr hpn
  go_enter Tryz.func33, Tryz.ntmps33
  go_wp2_with fail
  refine (HC0.out _).mono ?_
  rintro e w' ⟨rfl, rfl⟩
  clear HC0
  cases b0 with
  | false =>
   have HR : Hid (r = false) := HV.out.trans (by simp)
   clear HV
   go_wp2
   go_ret
   exact ⟨by rw [HR.out]; first | rfl | simp, hb0⟩
  | true =>
   have HR : Hid (r = bp) := HV.out.trans (by simp)
   clear HV
   replace HP := HP.out.1
   go_wp2_with fail
   refine HP.mono ?_
   rintro e w1 ⟨rfl, hb1⟩
   go_wp2
   go_ret
   exact ⟨by rw [HR.out]; first | rfl | simp, hb0.trans (hb1.mono hb0.size)⟩
 by_cases h13 : xk = 13
 ·subst h13
  obtain ⟨e0, e1, e2, e3, e4, e5, e6, e7, e8, e9, e10, e11, e12, e13⟩ := hq
  dsimp only at e0 e1 e2 e3 e4 e5 e6 e7 e8 e9 e10 e11 e12 e13
  have hb0 : Below w.heap.size w w := Below.refl _ _
  have HV : Hid (nbC ⟨xt, 13, xn, xy, xm, xf, xd, xb, xh, xp, xe, xr, xu, xc⟩ = bt xe 1 4) := by show _ = _; unfold nbC; simp
  generalize nbC ⟨xt, 13, xn, xy, xm, xf, xd, xb, xh, xp, xe, xr, xu, xc⟩ = r at *
  have HC0 : Hid (∀ w, Calls Tryz.prog 49 #[.int .i64 xe] w fun e w' => e = .returned (.bool (bt xe 1 4)) ∧ w = w') := fun w => l13Key_c _ w
  generalize bt xe 1 4 = b0 at *
  clear hbl hpl hpc hpm hpr hpn
  go_enter Tryz.func33, Tryz.ntmps33
  go_wp2_with fail
  refine (HC0.out _).mono ?_
  rintro e w' ⟨rfl, rfl⟩
  clear HC0
  have HR : Hid (r = b0) := HV.out.trans (by simp)
  clear HV
  go_wp2
  go_ret
  exact ⟨by rw [HR.out]; first | rfl | simp, hb0⟩
 by_cases h14 : xk = 14
 ·subst h14
  obtain ⟨e0, e1, e2, e3, e4, e5, e6, e7, e8, e9, e10, e11, e12, e13⟩ := hq
  dsimp only at e0 e1 e2 e3 e4 e5 e6 e7 e8 e9 e10 e11 e12 e13
  have hb0 : Below w.heap.size w w := Below.refl _ _
  have HV : Hid (nbC ⟨xt, 14, xn, xy, xm, xf, xd, xb, xh, xp, xe, xr, xu, xc⟩ = bt xc 1 3) := by show _ = _; unfold nbC; simp
  generalize nbC ⟨xt, 14, xn, xy, xm, xf, xd, xb, xh, xp, xe, xr, xu, xc⟩ = r at *
  have HC0 : Hid (∀ w, Calls Tryz.prog 50 #[.int .i64 xc] w fun e w' => e = .returned (.bool (bt xc 1 3)) ∧ w = w') := fun w => l3Cmp_c _ w
  generalize bt xc 1 3 = b0 at *
  clear hbl hpl hpc hpm hpr hpn
  go_enter Tryz.func33, Tryz.ntmps33
  go_wp2_with fail
  refine (HC0.out _).mono ?_
  rintro e w' ⟨rfl, rfl⟩
  clear HC0
  have HR : Hid (r = b0) := HV.out.trans (by simp)
  clear HV
  go_wp2
  go_ret
  exact ⟨by rw [HR.out]; first | rfl | simp, hb0⟩
 have HR : Hid (nbC ⟨xt, xk, xn, xy, xm, xf, xd, xb, xh, xp, xe, xr, xu, xc⟩ = true) := by show _ = _; unfold nbC; simp [h7, h6, h11, h13, h14]
 obtain ⟨e0, e1, e2, e3, e4, e5, e6, e7, e8, e9, e10, e11, e12, e13⟩ := hq
 dsimp only at e0 e1 e2 e3 e4 e5 e6 e7 e8 e9 e10 e11 e12 e13
 have hb0 : Below w.heap.size w w := Below.refl _ _
 clear hbl hpl hpc hpm hpr hpn
 go_enter Tryz.func33, Tryz.ntmps33
 go_wp2
 go_ret
 exact ⟨by rw [HR.out]; rfl, hb0⟩
end Go.Proofs.YtjogclofjollnaaGreatDoor
