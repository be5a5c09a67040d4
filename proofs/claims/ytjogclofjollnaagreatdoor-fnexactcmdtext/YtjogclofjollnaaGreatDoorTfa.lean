/- The form of a term: the model's side; no conditions beyond those that each fact names. -/
import Derived.Test.YtjogclofjollnaaGreatDoorYftToCfv
namespace Go.Proofs.YtjogclofjollnaaGreatDoor
open Go.RowKit
set_option linter.unusedVariables false
theorem l12Two_any (k : Int) (w : World) : Calls Tryz.prog 86 #[.int .i64 k] w fun e w' => e = .returned (.bool (twK k)) ∧ w = w' := by
 by_cases h1 : k = 10
 ·have H : Hid (twK k = true) := by show twK k = true; simp [twK, h1]
  subst h1
  go_enter Tryz.func86, Tryz.ntmps86
  go_wp2
  go_ret
  exact ⟨by rw [H.out]; rfl, rfl⟩
 ·by_cases h2 : k = 11
  ·have H : Hid (twK k = true) := by show twK k = true; simp [twK, h2]
   subst h2
   go_enter Tryz.func86, Tryz.ntmps86
   go_wp2
   go_ret
   exact ⟨by rw [H.out]; rfl, rfl⟩
  ·have H : Hid (twK k = false) := by show twK k = false; simp [twK, h1, h2]
   go_enter Tryz.func86, Tryz.ntmps86
   go_wp2
   go_ret
   exact ⟨by rw [H.out]; simp [h1, h2], rfl⟩
theorem l12Has_any (k : Int) (w : World) : Calls Tryz.prog 85 #[.int .i64 k] w fun e w' => e = .returned (.bool (hcK k)) ∧ w = w' := by
 by_cases h1 : k = 6
 ·have H : Hid (hcK k = true) := by show hcK k = true; simp [hcK, h1]
  subst h1
  go_enter Tryz.func85, Tryz.ntmps85
  go_wp2
  go_ret
  exact ⟨by rw [H.out]; rfl, rfl⟩
 ·by_cases h2 : k = 7
  ·have H : Hid (hcK k = true) := by show hcK k = true; simp [hcK, h2]
   subst h2
   go_enter Tryz.func85, Tryz.ntmps85
   go_wp2
   go_ret
   exact ⟨by rw [H.out]; rfl, rfl⟩
  ·have H : Hid (hcK k = false) := by show hcK k = false; simp [hcK, h1, h2]
   go_enter Tryz.func85, Tryz.ntmps85
   go_wp2
   go_ret
   exact ⟨by rw [H.out]; simp [h1, h2], rfl⟩
set_option maxHeartbeats 3200000 in
set_option maxRecDepth 100000 in
theorem l12Form_a (k n l r : Int) (s1 s2 : Option Addr) (m c1 q c2 : Nat) (g o : Nat) (w : World) (hm : m ≤ maxLen) (hq : q ≤ maxLen)
  (HB1 : bty k 1 11 = true) (HB2 : bty k 2 5 = false) (HCH : hcK k = false) (HCT : twK k = false)
  (hk8 : ¬ k = 8) (hk9 : ¬ 9 ≤ k)
  (hc : w.cell? ⟨g, o, none⟩ = some (.int .i64 k) ∧ w.cell? ⟨g, o + 1, none⟩ = some (.int .i64 n) ∧ w.cell? ⟨g, o + 2, none⟩ = some (.slice s1 m c1) ∧ w.cell? ⟨g, o + 3, none⟩ = some (.slice s2 q c2) ∧ w.cell? ⟨g, o + 4, none⟩ = some (.int .i64 l) ∧ w.cell? ⟨g, o + 5, none⟩ = some (.int .i64 r)) :
  Calls Tryz.prog 51 #[.pointer (some ⟨g, o, none⟩)] w fun e w' => e = .returned (.bool (decide (n = 0) && decide (m = 0) && decide (q = 0) && decide (r = 0) && decide (l = 0))) ∧ w = w' := by
 obtain ⟨e0, e1, e2, e3, e4, e5⟩ := hc
 unfold maxLen at hm hq
 obtain ⟨rv, hR⟩ : ∃ rv : Bool, (decide (n = 0) && decide (m = 0) && decide (q = 0) && decide (r = 0) && decide (l = 0)) = rv := ⟨_, rfl⟩
 rw [hR]
 have HV : Hid ((decide (n = 0) && decide (m = 0) && decide (q = 0) && decide (r = 0) && decide (l = 0)) = rv) := hR
 clear hR
 by_cases hn0 : n = 0
 rotate_left
 ·have HR : Hid (rv = false) := HV.out.symm.trans (by simp [hn0])
  clear HV
  go_enter Tryz.func51, Tryz.ntmps51
  go_wp2_with (first | (go_at_call 46; refine (l1In_y _ _ _ _).mono ?_; rintro e w1 ⟨rfl, rfl⟩; first | rw [HB1] | rw [HB2]) | (go_at_call 85; refine (l12Has_any _ _).mono ?_; rintro e w1 ⟨rfl, rfl⟩; rw [HCH]) | (go_at_call 86; refine (l12Two_any _ _).mono ?_; rintro e w1 ⟨rfl, rfl⟩; rw [HCT]))
  go_ret
  exact ⟨by rw [HR.out]; first | rfl | (simp; done) | (simp [hn0]; done) | (simp [hn0]; omega), rfl⟩
 by_cases hm0 : m = 0
 rotate_left
 ·have HR : Hid (rv = false) := HV.out.symm.trans (by simp [hm0])
  have hp : 0 < m := by omega
  clear HV
  go_enter Tryz.func51, Tryz.ntmps51
  go_wp2_with (first | (go_at_call 46; refine (l1In_y _ _ _ _).mono ?_; rintro e w1 ⟨rfl, rfl⟩; first | rw [HB1] | rw [HB2]) | (go_at_call 85; refine (l12Has_any _ _).mono ?_; rintro e w1 ⟨rfl, rfl⟩; rw [HCH]) | (go_at_call 86; refine (l12Two_any _ _).mono ?_; rintro e w1 ⟨rfl, rfl⟩; rw [HCT]))
  go_ret
  exact ⟨by rw [HR.out]; first | rfl | (simp; done) | (simp [hm0]; done) | (simp [hm0]; omega), rfl⟩
 have hpm : ¬ 0 < m := by omega
 by_cases hq0 : q = 0
 rotate_left
 ·have HR : Hid (rv = false) := HV.out.symm.trans (by simp [hq0])
  have hp : 0 < q := by omega
  clear HV
  go_enter Tryz.func51, Tryz.ntmps51
  go_wp2_with (first | (go_at_call 46; refine (l1In_y _ _ _ _).mono ?_; rintro e w1 ⟨rfl, rfl⟩; first | rw [HB1] | rw [HB2]) | (go_at_call 85; refine (l12Has_any _ _).mono ?_; rintro e w1 ⟨rfl, rfl⟩; rw [HCH]) | (go_at_call 86; refine (l12Two_any _ _).mono ?_; rintro e w1 ⟨rfl, rfl⟩; rw [HCT]))
  go_ret
  exact ⟨by rw [HR.out]; first | rfl | (simp; done) | (simp [hq0]; done) | (simp [hq0]; omega), rfl⟩
 have hpq : ¬ 0 < q := by omega
 by_cases hr0 : r = 0
 rotate_left
 ·have HR : Hid (rv = false) := HV.out.symm.trans (by simp [hr0])
  clear HV
  go_enter Tryz.func51, Tryz.ntmps51
  go_wp2_with (first | (go_at_call 46; refine (l1In_y _ _ _ _).mono ?_; rintro e w1 ⟨rfl, rfl⟩; first | rw [HB1] | rw [HB2]) | (go_at_call 85; refine (l12Has_any _ _).mono ?_; rintro e w1 ⟨rfl, rfl⟩; rw [HCH]) | (go_at_call 86; refine (l12Two_any _ _).mono ?_; rintro e w1 ⟨rfl, rfl⟩; rw [HCT]))
  go_ret
  exact ⟨by rw [HR.out]; first | rfl | (simp; done) | (simp [hr0]; done) | (simp [hr0]; omega), rfl⟩
 by_cases hl0 : l = 0
 rotate_left
 ·have HR : Hid (rv = false) := HV.out.symm.trans (by simp [hl0])
  clear HV
  go_enter Tryz.func51, Tryz.ntmps51
  go_wp2_with (first | (go_at_call 46; refine (l1In_y _ _ _ _).mono ?_; rintro e w1 ⟨rfl, rfl⟩; first | rw [HB1] | rw [HB2]) | (go_at_call 85; refine (l12Has_any _ _).mono ?_; rintro e w1 ⟨rfl, rfl⟩; rw [HCH]) | (go_at_call 86; refine (l12Two_any _ _).mono ?_; rintro e w1 ⟨rfl, rfl⟩; rw [HCT]))
  go_ret
  exact ⟨by rw [HR.out]; first | rfl | (simp; done) | (simp [hl0]; done) | (simp [hl0]; omega), rfl⟩
 have HR : Hid (rv = true) := HV.out.symm.trans (by simp [hn0, hm0, hq0, hr0, hl0])
 clear HV
 go_enter Tryz.func51, Tryz.ntmps51
 go_wp2_with (first | (go_at_call 46; refine (l1In_y _ _ _ _).mono ?_; rintro e w1 ⟨rfl, rfl⟩; first | rw [HB1] | rw [HB2]) | (go_at_call 85; refine (l12Has_any _ _).mono ?_; rintro e w1 ⟨rfl, rfl⟩; rw [HCH]) | (go_at_call 86; refine (l12Two_any _ _).mono ?_; rintro e w1 ⟨rfl, rfl⟩; rw [HCT]))
 go_ret
 exact ⟨by rw [HR.out]; first | rfl | (simp; done) | (simp [hn0, hm0, hq0, hr0, hl0]; done) | (simp [hn0, hm0, hq0, hr0, hl0]; omega), rfl⟩
set_option maxHeartbeats 3200000 in
set_option maxRecDepth 100000 in
theorem l12Form_b (k n l r : Int) (s1 s2 : Option Addr) (m c1 q c2 : Nat) (g o : Nat) (w : World) (hm : m ≤ maxLen) (hq : q ≤ maxLen)
  (HB1 : bty k 1 11 = true) (HB2 : bty k 2 5 = true) (HCH : hcK k = false) (HCT : twK k = false)
  (hk8 : ¬ k = 8) (hk9 : ¬ 9 ≤ k)
  (hc : w.cell? ⟨g, o, none⟩ = some (.int .i64 k) ∧ w.cell? ⟨g, o + 1, none⟩ = some (.int .i64 n) ∧ w.cell? ⟨g, o + 2, none⟩ = some (.slice s1 m c1) ∧ w.cell? ⟨g, o + 3, none⟩ = some (.slice s2 q c2) ∧ w.cell? ⟨g, o + 4, none⟩ = some (.int .i64 l) ∧ w.cell? ⟨g, o + 5, none⟩ = some (.int .i64 r)) :
  Calls Tryz.prog 51 #[.pointer (some ⟨g, o, none⟩)] w fun e w' => e = .returned (.bool (decide (m = 0) && decide (q = 0) && decide (r = 0) && decide (l = 0))) ∧ w = w' := by
 obtain ⟨e0, e1, e2, e3, e4, e5⟩ := hc
 unfold maxLen at hm hq
 obtain ⟨rv, hR⟩ : ∃ rv : Bool, (decide (m = 0) && decide (q = 0) && decide (r = 0) && decide (l = 0)) = rv := ⟨_, rfl⟩
 rw [hR]
 have HV : Hid ((decide (m = 0) && decide (q = 0) && decide (r = 0) && decide (l = 0)) = rv) := hR
 clear hR
 by_cases hm0 : m = 0
 rotate_left
 ·have HR : Hid (rv = false) := HV.out.symm.trans (by simp [hm0])
  have hp : 0 < m := by omega
  clear HV
  go_enter Tryz.func51, Tryz.ntmps51
  go_wp2_with (first | (go_at_call 46; refine (l1In_y _ _ _ _).mono ?_; rintro e w1 ⟨rfl, rfl⟩; first | rw [HB1] | rw [HB2]) | (go_at_call 85; refine (l12Has_any _ _).mono ?_; rintro e w1 ⟨rfl, rfl⟩; rw [HCH]) | (go_at_call 86; refine (l12Two_any _ _).mono ?_; rintro e w1 ⟨rfl, rfl⟩; rw [HCT]))
  go_ret
  exact ⟨by rw [HR.out]; first | rfl | (simp; done) | (simp [hm0]; done) | (simp [hm0]; omega), rfl⟩
 have hpm : ¬ 0 < m := by omega
 by_cases hq0 : q = 0
 rotate_left
 ·have HR : Hid (rv = false) := HV.out.symm.trans (by simp [hq0])
  have hp : 0 < q := by omega
  clear HV
  go_enter Tryz.func51, Tryz.ntmps51
  go_wp2_with (first | (go_at_call 46; refine (l1In_y _ _ _ _).mono ?_; rintro e w1 ⟨rfl, rfl⟩; first | rw [HB1] | rw [HB2]) | (go_at_call 85; refine (l12Has_any _ _).mono ?_; rintro e w1 ⟨rfl, rfl⟩; rw [HCH]) | (go_at_call 86; refine (l12Two_any _ _).mono ?_; rintro e w1 ⟨rfl, rfl⟩; rw [HCT]))
  go_ret
  exact ⟨by rw [HR.out]; first | rfl | (simp; done) | (simp [hq0]; done) | (simp [hq0]; omega), rfl⟩
 have hpq : ¬ 0 < q := by omega
 by_cases hr0 : r = 0
 rotate_left
 ·have HR : Hid (rv = false) := HV.out.symm.trans (by simp [hr0])
  clear HV
  go_enter Tryz.func51, Tryz.ntmps51
  go_wp2_with (first | (go_at_call 46; refine (l1In_y _ _ _ _).mono ?_; rintro e w1 ⟨rfl, rfl⟩; first | rw [HB1] | rw [HB2]) | (go_at_call 85; refine (l12Has_any _ _).mono ?_; rintro e w1 ⟨rfl, rfl⟩; rw [HCH]) | (go_at_call 86; refine (l12Two_any _ _).mono ?_; rintro e w1 ⟨rfl, rfl⟩; rw [HCT]))
  go_ret
  exact ⟨by rw [HR.out]; first | rfl | (simp; done) | (simp [hr0]; done) | (simp [hr0]; omega), rfl⟩
 by_cases hl0 : l = 0
 rotate_left
 ·have HR : Hid (rv = false) := HV.out.symm.trans (by simp [hl0])
  clear HV
  go_enter Tryz.func51, Tryz.ntmps51
  go_wp2_with (first | (go_at_call 46; refine (l1In_y _ _ _ _).mono ?_; rintro e w1 ⟨rfl, rfl⟩; first | rw [HB1] | rw [HB2]) | (go_at_call 85; refine (l12Has_any _ _).mono ?_; rintro e w1 ⟨rfl, rfl⟩; rw [HCH]) | (go_at_call 86; refine (l12Two_any _ _).mono ?_; rintro e w1 ⟨rfl, rfl⟩; rw [HCT]))
  go_ret
  exact ⟨by rw [HR.out]; first | rfl | (simp; done) | (simp [hl0]; done) | (simp [hl0]; omega), rfl⟩
 have HR : Hid (rv = true) := HV.out.symm.trans (by simp [hm0, hq0, hr0, hl0])
 clear HV
 go_enter Tryz.func51, Tryz.ntmps51
 go_wp2_with (first | (go_at_call 46; refine (l1In_y _ _ _ _).mono ?_; rintro e w1 ⟨rfl, rfl⟩; first | rw [HB1] | rw [HB2]) | (go_at_call 85; refine (l12Has_any _ _).mono ?_; rintro e w1 ⟨rfl, rfl⟩; rw [HCH]) | (go_at_call 86; refine (l12Two_any _ _).mono ?_; rintro e w1 ⟨rfl, rfl⟩; rw [HCT]))
 go_ret
 exact ⟨by rw [HR.out]; first | rfl | (simp; done) | (simp [hm0, hq0, hr0, hl0]; done) | (simp [hm0, hq0, hr0, hl0]; omega), rfl⟩
set_option maxHeartbeats 3200000 in
set_option maxRecDepth 100000 in
theorem l12Form_c (k n l r : Int) (s1 s2 : Option Addr) (m c1 q c2 : Nat) (g o : Nat) (w : World) (hm : m ≤ maxLen) (hq : q ≤ maxLen)
  (HB1 : bty k 1 11 = true) (HB2 : bty k 2 5 = false) (HCH : hcK k = true) (HCT : twK k = false)
  (hk8 : ¬ k = 8) (hk9 : ¬ 9 ≤ k)
  (hc : w.cell? ⟨g, o, none⟩ = some (.int .i64 k) ∧ w.cell? ⟨g, o + 1, none⟩ = some (.int .i64 n) ∧ w.cell? ⟨g, o + 2, none⟩ = some (.slice s1 m c1) ∧ w.cell? ⟨g, o + 3, none⟩ = some (.slice s2 q c2) ∧ w.cell? ⟨g, o + 4, none⟩ = some (.int .i64 l) ∧ w.cell? ⟨g, o + 5, none⟩ = some (.int .i64 r)) :
  Calls Tryz.prog 51 #[.pointer (some ⟨g, o, none⟩)] w fun e w' => e = .returned (.bool (decide (n = 0) && decide (q = 0) && decide (r = 0) && decide (l = 0))) ∧ w = w' := by
 obtain ⟨e0, e1, e2, e3, e4, e5⟩ := hc
 unfold maxLen at hm hq
 obtain ⟨rv, hR⟩ : ∃ rv : Bool, (decide (n = 0) && decide (q = 0) && decide (r = 0) && decide (l = 0)) = rv := ⟨_, rfl⟩
 rw [hR]
 have HV : Hid ((decide (n = 0) && decide (q = 0) && decide (r = 0) && decide (l = 0)) = rv) := hR
 clear hR
 by_cases hn0 : n = 0
 rotate_left
 ·have HR : Hid (rv = false) := HV.out.symm.trans (by simp [hn0])
  clear HV
  go_enter Tryz.func51, Tryz.ntmps51
  go_wp2_with (first | (go_at_call 46; refine (l1In_y _ _ _ _).mono ?_; rintro e w1 ⟨rfl, rfl⟩; first | rw [HB1] | rw [HB2]) | (go_at_call 85; refine (l12Has_any _ _).mono ?_; rintro e w1 ⟨rfl, rfl⟩; rw [HCH]) | (go_at_call 86; refine (l12Two_any _ _).mono ?_; rintro e w1 ⟨rfl, rfl⟩; rw [HCT]))
  go_ret
  exact ⟨by rw [HR.out]; first | rfl | (simp; done) | (simp [hn0]; done) | (simp [hn0]; omega), rfl⟩
 by_cases hq0 : q = 0
 rotate_left
 ·have HR : Hid (rv = false) := HV.out.symm.trans (by simp [hq0])
  have hp : 0 < q := by omega
  clear HV
  go_enter Tryz.func51, Tryz.ntmps51
  go_wp2_with (first | (go_at_call 46; refine (l1In_y _ _ _ _).mono ?_; rintro e w1 ⟨rfl, rfl⟩; first | rw [HB1] | rw [HB2]) | (go_at_call 85; refine (l12Has_any _ _).mono ?_; rintro e w1 ⟨rfl, rfl⟩; rw [HCH]) | (go_at_call 86; refine (l12Two_any _ _).mono ?_; rintro e w1 ⟨rfl, rfl⟩; rw [HCT]))
  go_ret
  exact ⟨by rw [HR.out]; first | rfl | (simp; done) | (simp [hq0]; done) | (simp [hq0]; omega), rfl⟩
 have hpq : ¬ 0 < q := by omega
 by_cases hr0 : r = 0
 rotate_left
 ·have HR : Hid (rv = false) := HV.out.symm.trans (by simp [hr0])
  clear HV
  go_enter Tryz.func51, Tryz.ntmps51
  go_wp2_with (first | (go_at_call 46; refine (l1In_y _ _ _ _).mono ?_; rintro e w1 ⟨rfl, rfl⟩; first | rw [HB1] | rw [HB2]) | (go_at_call 85; refine (l12Has_any _ _).mono ?_; rintro e w1 ⟨rfl, rfl⟩; rw [HCH]) | (go_at_call 86; refine (l12Two_any _ _).mono ?_; rintro e w1 ⟨rfl, rfl⟩; rw [HCT]))
  go_ret
  exact ⟨by rw [HR.out]; first | rfl | (simp; done) | (simp [hr0]; done) | (simp [hr0]; omega), rfl⟩
 by_cases hl0 : l = 0
 rotate_left
 ·have HR : Hid (rv = false) := HV.out.symm.trans (by simp [hl0])
  clear HV
  go_enter Tryz.func51, Tryz.ntmps51
  go_wp2_with (first | (go_at_call 46; refine (l1In_y _ _ _ _).mono ?_; rintro e w1 ⟨rfl, rfl⟩; first | rw [HB1] | rw [HB2]) | (go_at_call 85; refine (l12Has_any _ _).mono ?_; rintro e w1 ⟨rfl, rfl⟩; rw [HCH]) | (go_at_call 86; refine (l12Two_any _ _).mono ?_; rintro e w1 ⟨rfl, rfl⟩; rw [HCT]))
  go_ret
  exact ⟨by rw [HR.out]; first | rfl | (simp; done) | (simp [hl0]; done) | (simp [hl0]; omega), rfl⟩
 have HR : Hid (rv = true) := HV.out.symm.trans (by simp [hn0, hq0, hr0, hl0])
 clear HV
 go_enter Tryz.func51, Tryz.ntmps51
 go_wp2_with (first | (go_at_call 46; refine (l1In_y _ _ _ _).mono ?_; rintro e w1 ⟨rfl, rfl⟩; first | rw [HB1] | rw [HB2]) | (go_at_call 85; refine (l12Has_any _ _).mono ?_; rintro e w1 ⟨rfl, rfl⟩; rw [HCH]) | (go_at_call 86; refine (l12Two_any _ _).mono ?_; rintro e w1 ⟨rfl, rfl⟩; rw [HCT]))
 go_ret
 exact ⟨by rw [HR.out]; first | rfl | (simp; done) | (simp [hn0, hq0, hr0, hl0]; done) | (simp [hn0, hq0, hr0, hl0]; omega), rfl⟩
set_option maxHeartbeats 3200000 in
set_option maxRecDepth 100000 in
theorem l12Form_d (k n l r : Int) (s1 s2 : Option Addr) (m c1 q c2 : Nat) (g o : Nat) (w : World) (hm : m ≤ maxLen) (hq : q ≤ maxLen)
  (HB1 : bty k 1 11 = true) (HB2 : bty k 2 5 = false) (HCH : hcK k = false) (HCT : twK k = false)
  (hk8 : k = 8) (hk9 : ¬ 9 ≤ k)
  (hc : w.cell? ⟨g, o, none⟩ = some (.int .i64 k) ∧ w.cell? ⟨g, o + 1, none⟩ = some (.int .i64 n) ∧ w.cell? ⟨g, o + 2, none⟩ = some (.slice s1 m c1) ∧ w.cell? ⟨g, o + 3, none⟩ = some (.slice s2 q c2) ∧ w.cell? ⟨g, o + 4, none⟩ = some (.int .i64 l) ∧ w.cell? ⟨g, o + 5, none⟩ = some (.int .i64 r)) :
  Calls Tryz.prog 51 #[.pointer (some ⟨g, o, none⟩)] w fun e w' => e = .returned (.bool (decide (n = 0) && decide (m = 0) && decide (r = 0) && decide (l = 0))) ∧ w = w' := by
 obtain ⟨e0, e1, e2, e3, e4, e5⟩ := hc
 unfold maxLen at hm hq
 obtain ⟨rv, hR⟩ : ∃ rv : Bool, (decide (n = 0) && decide (m = 0) && decide (r = 0) && decide (l = 0)) = rv := ⟨_, rfl⟩
 rw [hR]
 have HV : Hid ((decide (n = 0) && decide (m = 0) && decide (r = 0) && decide (l = 0)) = rv) := hR
 clear hR
 subst hk8
 by_cases hn0 : n = 0
 rotate_left
 ·have HR : Hid (rv = false) := HV.out.symm.trans (by simp [hn0])
  clear HV
  go_enter Tryz.func51, Tryz.ntmps51
  go_wp2_with (first | (go_at_call 46; refine (l1In_y _ _ _ _).mono ?_; rintro e w1 ⟨rfl, rfl⟩; first | rw [HB1] | rw [HB2]) | (go_at_call 85; refine (l12Has_any _ _).mono ?_; rintro e w1 ⟨rfl, rfl⟩; rw [HCH]) | (go_at_call 86; refine (l12Two_any _ _).mono ?_; rintro e w1 ⟨rfl, rfl⟩; rw [HCT]))
  go_ret
  exact ⟨by rw [HR.out]; first | rfl | (simp; done) | (simp [hn0]; done) | (simp [hn0]; omega), rfl⟩
 by_cases hm0 : m = 0
 rotate_left
 ·have HR : Hid (rv = false) := HV.out.symm.trans (by simp [hm0])
  have hp : 0 < m := by omega
  clear HV
  go_enter Tryz.func51, Tryz.ntmps51
  go_wp2_with (first | (go_at_call 46; refine (l1In_y _ _ _ _).mono ?_; rintro e w1 ⟨rfl, rfl⟩; first | rw [HB1] | rw [HB2]) | (go_at_call 85; refine (l12Has_any _ _).mono ?_; rintro e w1 ⟨rfl, rfl⟩; rw [HCH]) | (go_at_call 86; refine (l12Two_any _ _).mono ?_; rintro e w1 ⟨rfl, rfl⟩; rw [HCT]))
  go_ret
  exact ⟨by rw [HR.out]; first | rfl | (simp; done) | (simp [hm0]; done) | (simp [hm0]; omega), rfl⟩
 have hpm : ¬ 0 < m := by omega
 by_cases hr0 : r = 0
 rotate_left
 ·have HR : Hid (rv = false) := HV.out.symm.trans (by simp [hr0])
  clear HV
  go_enter Tryz.func51, Tryz.ntmps51
  go_wp2_with (first | (go_at_call 46; refine (l1In_y _ _ _ _).mono ?_; rintro e w1 ⟨rfl, rfl⟩; first | rw [HB1] | rw [HB2]) | (go_at_call 85; refine (l12Has_any _ _).mono ?_; rintro e w1 ⟨rfl, rfl⟩; rw [HCH]) | (go_at_call 86; refine (l12Two_any _ _).mono ?_; rintro e w1 ⟨rfl, rfl⟩; rw [HCT]))
  go_ret
  exact ⟨by rw [HR.out]; first | rfl | (simp; done) | (simp [hr0]; done) | (simp [hr0]; omega), rfl⟩
 by_cases hl0 : l = 0
 rotate_left
 ·have HR : Hid (rv = false) := HV.out.symm.trans (by simp [hl0])
  clear HV
  go_enter Tryz.func51, Tryz.ntmps51
  go_wp2_with (first | (go_at_call 46; refine (l1In_y _ _ _ _).mono ?_; rintro e w1 ⟨rfl, rfl⟩; first | rw [HB1] | rw [HB2]) | (go_at_call 85; refine (l12Has_any _ _).mono ?_; rintro e w1 ⟨rfl, rfl⟩; rw [HCH]) | (go_at_call 86; refine (l12Two_any _ _).mono ?_; rintro e w1 ⟨rfl, rfl⟩; rw [HCT]))
  go_ret
  exact ⟨by rw [HR.out]; first | rfl | (simp; done) | (simp [hl0]; done) | (simp [hl0]; omega), rfl⟩
 have HR : Hid (rv = true) := HV.out.symm.trans (by simp [hn0, hm0, hr0, hl0])
 clear HV
 go_enter Tryz.func51, Tryz.ntmps51
 go_wp2_with (first | (go_at_call 46; refine (l1In_y _ _ _ _).mono ?_; rintro e w1 ⟨rfl, rfl⟩; first | rw [HB1] | rw [HB2]) | (go_at_call 85; refine (l12Has_any _ _).mono ?_; rintro e w1 ⟨rfl, rfl⟩; rw [HCH]) | (go_at_call 86; refine (l12Two_any _ _).mono ?_; rintro e w1 ⟨rfl, rfl⟩; rw [HCT]))
 go_ret
 exact ⟨by rw [HR.out]; first | rfl | (simp; done) | (simp [hn0, hm0, hr0, hl0]; done) | (simp [hn0, hm0, hr0, hl0]; omega), rfl⟩
set_option maxHeartbeats 3200000 in
set_option maxRecDepth 100000 in
theorem l12Form_e (k n l r : Int) (s1 s2 : Option Addr) (m c1 q c2 : Nat) (g o : Nat) (w : World) (hm : m ≤ maxLen) (hq : q ≤ maxLen)
  (HB1 : bty k 1 11 = true) (HB2 : bty k 2 5 = false) (HCH : hcK k = false) (HCT : twK k = false)
  (hk8 : ¬ k = 8) (hk9 : 9 ≤ k)
  (hc : w.cell? ⟨g, o, none⟩ = some (.int .i64 k) ∧ w.cell? ⟨g, o + 1, none⟩ = some (.int .i64 n) ∧ w.cell? ⟨g, o + 2, none⟩ = some (.slice s1 m c1) ∧ w.cell? ⟨g, o + 3, none⟩ = some (.slice s2 q c2) ∧ w.cell? ⟨g, o + 4, none⟩ = some (.int .i64 l) ∧ w.cell? ⟨g, o + 5, none⟩ = some (.int .i64 r)) :
  Calls Tryz.prog 51 #[.pointer (some ⟨g, o, none⟩)] w fun e w' => e = .returned (.bool (decide (n = 0) && decide (m = 0) && decide (q = 0) && decide (r = 0))) ∧ w = w' := by
 obtain ⟨e0, e1, e2, e3, e4, e5⟩ := hc
 unfold maxLen at hm hq
 obtain ⟨rv, hR⟩ : ∃ rv : Bool, (decide (n = 0) && decide (m = 0) && decide (q = 0) && decide (r = 0)) = rv := ⟨_, rfl⟩
 rw [hR]
 have HV : Hid ((decide (n = 0) && decide (m = 0) && decide (q = 0) && decide (r = 0)) = rv) := hR
 clear hR
 by_cases hn0 : n = 0
 rotate_left
 ·have HR : Hid (rv = false) := HV.out.symm.trans (by simp [hn0])
  clear HV
  go_enter Tryz.func51, Tryz.ntmps51
  go_wp2_with (first | (go_at_call 46; refine (l1In_y _ _ _ _).mono ?_; rintro e w1 ⟨rfl, rfl⟩; first | rw [HB1] | rw [HB2]) | (go_at_call 85; refine (l12Has_any _ _).mono ?_; rintro e w1 ⟨rfl, rfl⟩; rw [HCH]) | (go_at_call 86; refine (l12Two_any _ _).mono ?_; rintro e w1 ⟨rfl, rfl⟩; rw [HCT]))
  go_ret
  exact ⟨by rw [HR.out]; first | rfl | (simp; done) | (simp [hn0]; done) | (simp [hn0]; omega), rfl⟩
 by_cases hm0 : m = 0
 rotate_left
 ·have HR : Hid (rv = false) := HV.out.symm.trans (by simp [hm0])
  have hp : 0 < m := by omega
  clear HV
  go_enter Tryz.func51, Tryz.ntmps51
  go_wp2_with (first | (go_at_call 46; refine (l1In_y _ _ _ _).mono ?_; rintro e w1 ⟨rfl, rfl⟩; first | rw [HB1] | rw [HB2]) | (go_at_call 85; refine (l12Has_any _ _).mono ?_; rintro e w1 ⟨rfl, rfl⟩; rw [HCH]) | (go_at_call 86; refine (l12Two_any _ _).mono ?_; rintro e w1 ⟨rfl, rfl⟩; rw [HCT]))
  go_ret
  exact ⟨by rw [HR.out]; first | rfl | (simp; done) | (simp [hm0]; done) | (simp [hm0]; omega), rfl⟩
 have hpm : ¬ 0 < m := by omega
 by_cases hq0 : q = 0
 rotate_left
 ·have HR : Hid (rv = false) := HV.out.symm.trans (by simp [hq0])
  have hp : 0 < q := by omega
  clear HV
  go_enter Tryz.func51, Tryz.ntmps51
  go_wp2_with (first | (go_at_call 46; refine (l1In_y _ _ _ _).mono ?_; rintro e w1 ⟨rfl, rfl⟩; first | rw [HB1] | rw [HB2]) | (go_at_call 85; refine (l12Has_any _ _).mono ?_; rintro e w1 ⟨rfl, rfl⟩; rw [HCH]) | (go_at_call 86; refine (l12Two_any _ _).mono ?_; rintro e w1 ⟨rfl, rfl⟩; rw [HCT]))
  go_ret
  exact ⟨by rw [HR.out]; first | rfl | (simp; done) | (simp [hq0]; done) | (simp [hq0]; omega), rfl⟩
 have hpq : ¬ 0 < q := by omega
 by_cases hr0 : r = 0
 rotate_left
 ·have HR : Hid (rv = false) := HV.out.symm.trans (by simp [hr0])
  clear HV
  go_enter Tryz.func51, Tryz.ntmps51
  go_wp2_with (first | (go_at_call 46; refine (l1In_y _ _ _ _).mono ?_; rintro e w1 ⟨rfl, rfl⟩; first | rw [HB1] | rw [HB2]) | (go_at_call 85; refine (l12Has_any _ _).mono ?_; rintro e w1 ⟨rfl, rfl⟩; rw [HCH]) | (go_at_call 86; refine (l12Two_any _ _).mono ?_; rintro e w1 ⟨rfl, rfl⟩; rw [HCT]))
  go_ret
  exact ⟨by rw [HR.out]; first | rfl | (simp; done) | (simp [hr0]; done) | (simp [hr0]; omega), rfl⟩
 have HR : Hid (rv = true) := HV.out.symm.trans (by simp [hn0, hm0, hq0, hr0])
 clear HV
 go_enter Tryz.func51, Tryz.ntmps51
 go_wp2_with (first | (go_at_call 46; refine (l1In_y _ _ _ _).mono ?_; rintro e w1 ⟨rfl, rfl⟩; first | rw [HB1] | rw [HB2]) | (go_at_call 85; refine (l12Has_any _ _).mono ?_; rintro e w1 ⟨rfl, rfl⟩; rw [HCH]) | (go_at_call 86; refine (l12Two_any _ _).mono ?_; rintro e w1 ⟨rfl, rfl⟩; rw [HCT]))
 go_ret
 exact ⟨by rw [HR.out]; first | rfl | (simp; done) | (simp [hn0, hm0, hq0, hr0]; done) | (simp [hn0, hm0, hq0, hr0]; omega), rfl⟩
set_option maxHeartbeats 3200000 in
set_option maxRecDepth 100000 in
theorem l12Form_f (k n l r : Int) (s1 s2 : Option Addr) (m c1 q c2 : Nat) (g o : Nat) (w : World) (hm : m ≤ maxLen) (hq : q ≤ maxLen)
  (HB1 : bty k 1 11 = true) (HB2 : bty k 2 5 = false) (HCH : hcK k = false) (HCT : twK k = true)
  (hk8 : ¬ k = 8) (hk9 : 9 ≤ k)
  (hc : w.cell? ⟨g, o, none⟩ = some (.int .i64 k) ∧ w.cell? ⟨g, o + 1, none⟩ = some (.int .i64 n) ∧ w.cell? ⟨g, o + 2, none⟩ = some (.slice s1 m c1) ∧ w.cell? ⟨g, o + 3, none⟩ = some (.slice s2 q c2) ∧ w.cell? ⟨g, o + 4, none⟩ = some (.int .i64 l) ∧ w.cell? ⟨g, o + 5, none⟩ = some (.int .i64 r)) :
  Calls Tryz.prog 51 #[.pointer (some ⟨g, o, none⟩)] w fun e w' => e = .returned (.bool (decide (n = 0) && decide (m = 0) && decide (q = 0))) ∧ w = w' := by
 obtain ⟨e0, e1, e2, e3, e4, e5⟩ := hc
 unfold maxLen at hm hq
 obtain ⟨rv, hR⟩ : ∃ rv : Bool, (decide (n = 0) && decide (m = 0) && decide (q = 0)) = rv := ⟨_, rfl⟩
 rw [hR]
 have HV : Hid ((decide (n = 0) && decide (m = 0) && decide (q = 0)) = rv) := hR
 clear hR
 by_cases hn0 : n = 0
 rotate_left
 ·have HR : Hid (rv = false) := HV.out.symm.trans (by simp [hn0])
  clear HV
  go_enter Tryz.func51, Tryz.ntmps51
  go_wp2_with (first | (go_at_call 46; refine (l1In_y _ _ _ _).mono ?_; rintro e w1 ⟨rfl, rfl⟩; first | rw [HB1] | rw [HB2]) | (go_at_call 85; refine (l12Has_any _ _).mono ?_; rintro e w1 ⟨rfl, rfl⟩; rw [HCH]) | (go_at_call 86; refine (l12Two_any _ _).mono ?_; rintro e w1 ⟨rfl, rfl⟩; rw [HCT]))
  go_ret
  exact ⟨by rw [HR.out]; first | rfl | (simp; done) | (simp [hn0]; done) | (simp [hn0]; omega), rfl⟩
 by_cases hm0 : m = 0
 rotate_left
 ·have HR : Hid (rv = false) := HV.out.symm.trans (by simp [hm0])
  have hp : 0 < m := by omega
  clear HV
  go_enter Tryz.func51, Tryz.ntmps51
  go_wp2_with (first | (go_at_call 46; refine (l1In_y _ _ _ _).mono ?_; rintro e w1 ⟨rfl, rfl⟩; first | rw [HB1] | rw [HB2]) | (go_at_call 85; refine (l12Has_any _ _).mono ?_; rintro e w1 ⟨rfl, rfl⟩; rw [HCH]) | (go_at_call 86; refine (l12Two_any _ _).mono ?_; rintro e w1 ⟨rfl, rfl⟩; rw [HCT]))
  go_ret
  exact ⟨by rw [HR.out]; first | rfl | (simp; done) | (simp [hm0]; done) | (simp [hm0]; omega), rfl⟩
 have hpm : ¬ 0 < m := by omega
 by_cases hq0 : q = 0
 rotate_left
 ·have HR : Hid (rv = false) := HV.out.symm.trans (by simp [hq0])
  have hp : 0 < q := by omega
  clear HV
  go_enter Tryz.func51, Tryz.ntmps51
  go_wp2_with (first | (go_at_call 46; refine (l1In_y _ _ _ _).mono ?_; rintro e w1 ⟨rfl, rfl⟩; first | rw [HB1] | rw [HB2]) | (go_at_call 85; refine (l12Has_any _ _).mono ?_; rintro e w1 ⟨rfl, rfl⟩; rw [HCH]) | (go_at_call 86; refine (l12Two_any _ _).mono ?_; rintro e w1 ⟨rfl, rfl⟩; rw [HCT]))
  go_ret
  exact ⟨by rw [HR.out]; first | rfl | (simp; done) | (simp [hq0]; done) | (simp [hq0]; omega), rfl⟩
 have hpq : ¬ 0 < q := by omega
 have HR : Hid (rv = true) := HV.out.symm.trans (by simp [hn0, hm0, hq0])
 clear HV
 go_enter Tryz.func51, Tryz.ntmps51
 go_wp2_with (first | (go_at_call 46; refine (l1In_y _ _ _ _).mono ?_; rintro e w1 ⟨rfl, rfl⟩; first | rw [HB1] | rw [HB2]) | (go_at_call 85; refine (l12Has_any _ _).mono ?_; rintro e w1 ⟨rfl, rfl⟩; rw [HCH]) | (go_at_call 86; refine (l12Two_any _ _).mono ?_; rintro e w1 ⟨rfl, rfl⟩; rw [HCT]))
 go_ret
 exact ⟨by rw [HR.out]; first | rfl | (simp; done) | (simp [hn0, hm0, hq0]; done) | (simp [hn0, hm0, hq0]; omega), rfl⟩
set_option maxHeartbeats 1600000 in
set_option maxRecDepth 100000 in
theorem l12Form_out (k : Int) (g o : Nat) (w : World)
  (HB1 : bty k 1 11 = false)
  (e0 : w.cell? ⟨g, o, none⟩ = some (.int .i64 k)) :
  Calls Tryz.prog 51 #[.pointer (some ⟨g, o, none⟩)] w fun e w' => e = .returned (.bool false) ∧ w = w' := by
 go_enter Tryz.func51, Tryz.ntmps51
 go_wp2_with (first | (go_at_call 46; refine (l1In_y _ _ _ _).mono ?_; rintro e w1 ⟨rfl, rfl⟩; rw [HB1]))
 go_ret
 exact ⟨rfl, rfl⟩
def Tc6 (w : World) (g o : Nat) (p : SlT) (t : TmR) : Prop := w.cell? ⟨g, o, none⟩ = some (.int .i64 t.k) ∧ w.cell? ⟨g, o + 1, none⟩ = some (.int .i64 t.n) ∧ w.cell? ⟨g, o + 2, none⟩ = some (slW p.1) ∧ w.cell? ⟨g, o + 3, none⟩ = some (slW p.2) ∧ w.cell? ⟨g, o + 4, none⟩ = some (.int .i64 t.l) ∧ w.cell? ⟨g, o + 5, none⟩ = some (.int .i64 t.r)
theorem l12Form_any (t : TmR) (p : SlT) (g o : Nat) {lo : Nat} (w : World) (hs : IsTm lo w p t) (hc : Tc6 w g o p t) :
  Calls Tryz.prog 51 #[.pointer (some ⟨g, o, none⟩)] w fun e w' => e = .returned (.bool (fmT t)) ∧ w = w' := by
 obtain ⟨k, n, c, y, l, r⟩ := t
 obtain ⟨⟨s1, m, c1⟩, ⟨s2, q, c2⟩⟩ := p
 have hm : m ≤ maxLen := Nat.le_trans hs.1.2.1 hs.1.2.2.1
 have hq : q ≤ maxLen := Nat.le_trans hs.2.2.1 hs.2.2.2.1
 have hcl : c = [] ↔ m = 0 := by rw [← List.length_eq_zero_iff, hs.1.1]
 have hyl : y = [] ↔ q = 0 := by rw [← List.length_eq_zero_iff, hs.2.1]
 unfold Tc6 at hc
 dsimp only [slW] at hc
 by_cases hk : 1 ≤ k ∧ k ≤ 11
 ·have HB1 : bty k 1 11 = true := decide_eq_true hk
  have hcls : k = 1 ∨ (2 ≤ k ∧ k ≤ 5) ∨ (k = 6 ∨ k = 7) ∨ k = 8 ∨ k = 9 ∨ (k = 10 ∨ k = 11) := by omega
  rcases hcls with h | h | h | h | h | h
  ·have := l12Form_a k n l r s1 s2 m c1 q c2 g o w hm hq HB1 (by unfold bty; simp; omega) (by unfold hcK; simp; omega) (by unfold twK; simp; omega) (by omega) (by omega) hc
   rw [show fmT ⟨k, n, c, y, l, r⟩ = (decide (n = 0) && decide (m = 0) && decide (q = 0) && decide (r = 0) && decide (l = 0)) by
    have q1 : bty k 1 11 = true := decide_eq_true hk
    have q2 : bty k 2 5 = false := by unfold bty; simp; omega
    have q3 : hcK k = false := by unfold hcK; simp; omega
    have q4 : twK k = false := by unfold twK; simp; omega
    have q5 : decide (k = 8) = false := by simp; omega
    have q6 : decide (9 ≤ k) = false := by simp; omega
    unfold fmT
    dsimp only
    rw [q1, q2, q3, q4, q5, q6, show decide (c = []) = decide (m = 0) from decide_eq_decide.2 hcl, show decide (y = []) = decide (q = 0) from decide_eq_decide.2 hyl]
    simp [Bool.and_assoc]]
   exact this
  ·have := l12Form_b k n l r s1 s2 m c1 q c2 g o w hm hq HB1 (by unfold bty; simp; omega) (by unfold hcK; simp; omega) (by unfold twK; simp; omega) (by omega) (by omega) hc
   rw [show fmT ⟨k, n, c, y, l, r⟩ = (decide (m = 0) && decide (q = 0) && decide (r = 0) && decide (l = 0)) by
    have q1 : bty k 1 11 = true := decide_eq_true hk
    have q2 : bty k 2 5 = true := by unfold bty; simp; omega
    have q3 : hcK k = false := by unfold hcK; simp; omega
    have q4 : twK k = false := by unfold twK; simp; omega
    have q5 : decide (k = 8) = false := by simp; omega
    have q6 : decide (9 ≤ k) = false := by simp; omega
    unfold fmT
    dsimp only
    rw [q1, q2, q3, q4, q5, q6, show decide (c = []) = decide (m = 0) from decide_eq_decide.2 hcl, show decide (y = []) = decide (q = 0) from decide_eq_decide.2 hyl]
    simp [Bool.and_assoc]]
   exact this
  ·have := l12Form_c k n l r s1 s2 m c1 q c2 g o w hm hq HB1 (by unfold bty; simp; omega) (by unfold hcK; simp; omega) (by unfold twK; simp; omega) (by omega) (by omega) hc
   rw [show fmT ⟨k, n, c, y, l, r⟩ = (decide (n = 0) && decide (q = 0) && decide (r = 0) && decide (l = 0)) by
    have q1 : bty k 1 11 = true := decide_eq_true hk
    have q2 : bty k 2 5 = false := by unfold bty; simp; omega
    have q3 : hcK k = true := by unfold hcK; simp; omega
    have q4 : twK k = false := by unfold twK; simp; omega
    have q5 : decide (k = 8) = false := by simp; omega
    have q6 : decide (9 ≤ k) = false := by simp; omega
    unfold fmT
    dsimp only
    rw [q1, q2, q3, q4, q5, q6, show decide (c = []) = decide (m = 0) from decide_eq_decide.2 hcl, show decide (y = []) = decide (q = 0) from decide_eq_decide.2 hyl]
    simp [Bool.and_assoc]]
   exact this
  ·have := l12Form_d k n l r s1 s2 m c1 q c2 g o w hm hq HB1 (by unfold bty; simp; omega) (by unfold hcK; simp; omega) (by unfold twK; simp; omega) (by omega) (by omega) hc
   rw [show fmT ⟨k, n, c, y, l, r⟩ = (decide (n = 0) && decide (m = 0) && decide (r = 0) && decide (l = 0)) by
    have q1 : bty k 1 11 = true := decide_eq_true hk
    have q2 : bty k 2 5 = false := by unfold bty; simp; omega
    have q3 : hcK k = false := by unfold hcK; simp; omega
    have q4 : twK k = false := by unfold twK; simp; omega
    have q5 : decide (k = 8) = true := by simp; omega
    have q6 : decide (9 ≤ k) = false := by simp; omega
    unfold fmT
    dsimp only
    rw [q1, q2, q3, q4, q5, q6, show decide (c = []) = decide (m = 0) from decide_eq_decide.2 hcl, show decide (y = []) = decide (q = 0) from decide_eq_decide.2 hyl]
    simp [Bool.and_assoc]]
   exact this
  ·have := l12Form_e k n l r s1 s2 m c1 q c2 g o w hm hq HB1 (by unfold bty; simp; omega) (by unfold hcK; simp; omega) (by unfold twK; simp; omega) (by omega) (by omega) hc
   rw [show fmT ⟨k, n, c, y, l, r⟩ = (decide (n = 0) && decide (m = 0) && decide (q = 0) && decide (r = 0)) by
    have q1 : bty k 1 11 = true := decide_eq_true hk
    have q2 : bty k 2 5 = false := by unfold bty; simp; omega
    have q3 : hcK k = false := by unfold hcK; simp; omega
    have q4 : twK k = false := by unfold twK; simp; omega
    have q5 : decide (k = 8) = false := by simp; omega
    have q6 : decide (9 ≤ k) = true := by simp; omega
    unfold fmT
    dsimp only
    rw [q1, q2, q3, q4, q5, q6, show decide (c = []) = decide (m = 0) from decide_eq_decide.2 hcl, show decide (y = []) = decide (q = 0) from decide_eq_decide.2 hyl]
    simp [Bool.and_assoc]]
   exact this
  ·have := l12Form_f k n l r s1 s2 m c1 q c2 g o w hm hq HB1 (by unfold bty; simp; omega) (by unfold hcK; simp; omega) (by unfold twK; simp; omega) (by omega) (by omega) hc
   rw [show fmT ⟨k, n, c, y, l, r⟩ = (decide (n = 0) && decide (m = 0) && decide (q = 0)) by
    have q1 : bty k 1 11 = true := decide_eq_true hk
    have q2 : bty k 2 5 = false := by unfold bty; simp; omega
    have q3 : hcK k = false := by unfold hcK; simp; omega
    have q4 : twK k = true := by unfold twK; simp; omega
    have q5 : decide (k = 8) = false := by simp; omega
    have q6 : decide (9 ≤ k) = true := by simp; omega
    unfold fmT
    dsimp only
    rw [q1, q2, q3, q4, q5, q6, show decide (c = []) = decide (m = 0) from decide_eq_decide.2 hcl, show decide (y = []) = decide (q = 0) from decide_eq_decide.2 hyl]
    simp [Bool.and_assoc]]
   exact this
 ·have HB1 : bty k 1 11 = false := decide_eq_false hk
  have := l12Form_out k g o w HB1 hc.1
  rw [show fmT ⟨k, n, c, y, l, r⟩ = false by simp [fmT, bty, hk]]
  exact this
end Go.Proofs.YtjogclofjollnaaGreatDoor
