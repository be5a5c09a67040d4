/- The fault of an op: the model's side; no conditions beyond those that each fact names. -/
import Derived.Test.YtdcgihcjiiemdaaDoorOfp
namespace Go.Proofs.YtdcgihcjiiemdaaDoor
open Go.RowKit
set_option linter.unusedVariables false
theorem l8Copies_any (k : Int) (w : World) : Calls Tryd.prog 41 #[.int .i64 k] w fun e w' => e = .returned (.bool (cpK k)) ∧ w = w' := by
 by_cases h1 : k = 5
 ·have H : Hid (cpK k = true) := by show cpK k = true; simp [cpK, h1]
  subst h1
  go_enter Tryd.func41, Tryd.ntmps41
  go_wp2
  go_ret
  exact ⟨by rw [H.out]; rfl, rfl⟩
 ·by_cases h2 : k = 6
  ·have H : Hid (cpK k = true) := by show cpK k = true; simp [cpK, h2]
   subst h2
   go_enter Tryd.func41, Tryd.ntmps41
   go_wp2
   go_ret
   exact ⟨by rw [H.out]; rfl, rfl⟩
  ·have H : Hid (cpK k = false) := by show cpK k = false; simp [cpK, h1, h2]
   go_enter Tryd.func41, Tryd.ntmps41
   go_wp2
   go_ret
   exact ⟨by rw [H.out]; simp [h1, h2], rfl⟩
set_option maxHeartbeats 3200000 in
set_option maxRecDepth 100000 in
theorem l8Form_1 (ox0 ot0 : ByteArray) (om0 of0 od0 : Int) (a a' : Option Addr) (n cap n' cap' : Nat) (g off : Nat) (p0 p1 p2 p3 p4 p5 : Bool) (w : World)
  (HE : Hid (((p0 = false → ot0.toList.isEmpty = true) ∧ (p0 = true → ot0.toList.isEmpty = false)) ∧ ((p1 = false → ¬ 0 < n) ∧ (p1 = true → 0 < n)) ∧ ((p2 = false → om0 = 0) ∧ (p2 = true → ¬ om0 = 0)) ∧ ((p3 = false → of0 = 0) ∧ (p3 = true → ¬ of0 = 0)) ∧ ((p4 = false → od0 = 0) ∧ (p4 = true → ¬ od0 = 0)) ∧ (p5 = false → ¬ 0 < n') ∧ (p5 = true → 0 < n')))
  (hn : n ≤ maxLen) (hn' : n' ≤ maxLen)
  (c0 : w.cell? ⟨g, off, none⟩ = some (.int .i64 1)) (c1 : w.cell? ⟨g, off + 1, none⟩ = some (.string ox0)) (c2 : w.cell? ⟨g, off + 2, none⟩ = some (.string ot0)) (c3 : w.cell? ⟨g, off + 3, none⟩ = some (.slice a n cap)) (c4 : w.cell? ⟨g, off + 4, none⟩ = some (.int .i64 om0)) (c5 : w.cell? ⟨g, off + 5, none⟩ = some (.int .i64 of0)) (c6 : w.cell? ⟨g, off + 6, none⟩ = some (.int .i64 od0)) (c7 : w.cell? ⟨g, off + 7, none⟩ = some (.slice a' n' cap')) :
  Calls Tryd.prog 54 #[.pointer (some ⟨g, off, none⟩)] w fun e w' => e = .returned (.bool (fmK 1 p0 p1 p2 p3 p4 p5)) ∧ w = w' := by
 unfold maxLen at hn hn'
 have HB : ∀ w, Calls Tryd.prog 57 #[.int .i64 1, .int .i64 1, .int .i64 7] w fun e w' => e = .returned (.bool true) ∧ w = w' := l1In_bt 1 1 7
 have HC : ∀ w, Calls Tryd.prog 41 #[.int .i64 1] w fun e w' => e = .returned (.bool false) ∧ w = w' := l8Copies_any 1
 have HV : Hid (fmK 1 p0 p1 p2 p3 p4 p5 = fmK 1 p0 p1 p2 p3 p4 p5) := rfl
 generalize hr : fmK 1 p0 p1 p2 p3 p4 p5 = r at *
 replace HV : Hid (r = fmK 1 p0 p1 p2 p3 p4 p5) := hr.symm
 clear hr
 cases g0 : p0 with
 | true =>
  have f0 : ot0.toList.isEmpty = false := HE.out.1.2 g0
  have HR : Hid (r = false) := HV.out.trans (by simp [fmK, cpK, g0])
  clear HV HE
  go_enter Tryd.func54, Tryd.ntmps54
  go_wp2_with (first | (go_at_call 57; refine (HB _).mono ?_; rintro e w1 ⟨rfl, rfl⟩) | (go_at_call 41; refine (HC _).mono ?_; rintro e w1 ⟨rfl, rfl⟩))
  go_ret
  exact ⟨by rw [HR.out]; rfl, rfl⟩
 | false =>
  have f0 : ot0.toList.isEmpty = true := HE.out.1.1 g0
  cases g1 : p1 with
  | true =>
   have f1 : 0 < n := HE.out.2.1.2 g1
   have HR : Hid (r = false) := HV.out.trans (by simp [fmK, cpK, g0, g1])
   clear HV HE
   go_enter Tryd.func54, Tryd.ntmps54
   go_wp2_with (first | (go_at_call 57; refine (HB _).mono ?_; rintro e w1 ⟨rfl, rfl⟩) | (go_at_call 41; refine (HC _).mono ?_; rintro e w1 ⟨rfl, rfl⟩))
   go_ret
   exact ⟨by rw [HR.out]; rfl, rfl⟩
  | false =>
   have f1 : ¬ 0 < n := HE.out.2.1.1 g1
   cases g2 : p2 with
   | true =>
    have f2 : ¬ om0 = 0 := HE.out.2.2.1.2 g2
    have HR : Hid (r = false) := HV.out.trans (by simp [fmK, cpK, g0, g1, g2])
    clear HV HE
    go_enter Tryd.func54, Tryd.ntmps54
    go_wp2_with (first | (go_at_call 57; refine (HB _).mono ?_; rintro e w1 ⟨rfl, rfl⟩) | (go_at_call 41; refine (HC _).mono ?_; rintro e w1 ⟨rfl, rfl⟩))
    go_ret
    exact ⟨by rw [HR.out]; rfl, rfl⟩
   | false =>
    have f2 : om0 = 0 := HE.out.2.2.1.1 g2
    cases g4 : p4 with
    | true =>
     have f4 : ¬ od0 = 0 := HE.out.2.2.2.2.1.2 g4
     have HR : Hid (r = false) := HV.out.trans (by simp [fmK, cpK, g0, g1, g2, g4])
     clear HV HE
     go_enter Tryd.func54, Tryd.ntmps54
     go_wp2_with (first | (go_at_call 57; refine (HB _).mono ?_; rintro e w1 ⟨rfl, rfl⟩) | (go_at_call 41; refine (HC _).mono ?_; rintro e w1 ⟨rfl, rfl⟩))
     go_ret
     exact ⟨by rw [HR.out]; rfl, rfl⟩
    | false =>
     have f4 : od0 = 0 := HE.out.2.2.2.2.1.1 g4
     cases g5 : p5 with
     | true =>
      have f5 : 0 < n' := HE.out.2.2.2.2.2.2 g5
      have HR : Hid (r = false) := HV.out.trans (by simp [fmK, cpK, g0, g1, g2, g4, g5])
      clear HV HE
      go_enter Tryd.func54, Tryd.ntmps54
      go_wp2_with (first | (go_at_call 57; refine (HB _).mono ?_; rintro e w1 ⟨rfl, rfl⟩) | (go_at_call 41; refine (HC _).mono ?_; rintro e w1 ⟨rfl, rfl⟩))
      go_ret
      exact ⟨by rw [HR.out]; rfl, rfl⟩
     | false =>
      have f5 : ¬ 0 < n' := HE.out.2.2.2.2.2.1 g5
      cases g3 : p3 with
      | true =>
       have f3 : ¬ of0 = 0 := HE.out.2.2.2.1.2 g3
       have HR : Hid (r = false) := HV.out.trans (by simp [fmK, cpK, g0, g1, g2, g4, g5, g3])
       clear HV HE
       go_enter Tryd.func54, Tryd.ntmps54
       go_wp2_with (first | (go_at_call 57; refine (HB _).mono ?_; rintro e w1 ⟨rfl, rfl⟩) | (go_at_call 41; refine (HC _).mono ?_; rintro e w1 ⟨rfl, rfl⟩))
       go_ret
       exact ⟨by rw [HR.out]; simp [f3], rfl⟩
      | false =>
       have f3 : of0 = 0 := HE.out.2.2.2.1.1 g3
       have HR : Hid (r = true) := HV.out.trans (by simp [fmK, cpK, g0, g1, g2, g4, g5, g3])
       clear HV
       go_enter Tryd.func54, Tryd.ntmps54
       go_wp2_with (first | (go_at_call 57; refine (HB _).mono ?_; rintro e w1 ⟨rfl, rfl⟩) | (go_at_call 41; refine (HC _).mono ?_; rintro e w1 ⟨rfl, rfl⟩))
       go_ret
       exact ⟨by rw [HR.out]; simp, rfl⟩
set_option maxHeartbeats 3200000 in
set_option maxRecDepth 100000 in
theorem l8Form_2 (ox0 ot0 : ByteArray) (om0 of0 od0 : Int) (a a' : Option Addr) (n cap n' cap' : Nat) (g off : Nat) (p0 p1 p2 p3 p4 p5 : Bool) (w : World)
  (HE : Hid (((p0 = false → ot0.toList.isEmpty = true) ∧ (p0 = true → ot0.toList.isEmpty = false)) ∧ ((p1 = false → ¬ 0 < n) ∧ (p1 = true → 0 < n)) ∧ ((p2 = false → om0 = 0) ∧ (p2 = true → ¬ om0 = 0)) ∧ ((p3 = false → of0 = 0) ∧ (p3 = true → ¬ of0 = 0)) ∧ ((p4 = false → od0 = 0) ∧ (p4 = true → ¬ od0 = 0)) ∧ (p5 = false → ¬ 0 < n') ∧ (p5 = true → 0 < n')))
  (hn : n ≤ maxLen) (hn' : n' ≤ maxLen)
  (c0 : w.cell? ⟨g, off, none⟩ = some (.int .i64 2)) (c1 : w.cell? ⟨g, off + 1, none⟩ = some (.string ox0)) (c2 : w.cell? ⟨g, off + 2, none⟩ = some (.string ot0)) (c3 : w.cell? ⟨g, off + 3, none⟩ = some (.slice a n cap)) (c4 : w.cell? ⟨g, off + 4, none⟩ = some (.int .i64 om0)) (c5 : w.cell? ⟨g, off + 5, none⟩ = some (.int .i64 of0)) (c6 : w.cell? ⟨g, off + 6, none⟩ = some (.int .i64 od0)) (c7 : w.cell? ⟨g, off + 7, none⟩ = some (.slice a' n' cap')) :
  Calls Tryd.prog 54 #[.pointer (some ⟨g, off, none⟩)] w fun e w' => e = .returned (.bool (fmK 2 p0 p1 p2 p3 p4 p5)) ∧ w = w' := by
 unfold maxLen at hn hn'
 have HB : ∀ w, Calls Tryd.prog 57 #[.int .i64 2, .int .i64 1, .int .i64 7] w fun e w' => e = .returned (.bool true) ∧ w = w' := l1In_bt 2 1 7
 have HC : ∀ w, Calls Tryd.prog 41 #[.int .i64 2] w fun e w' => e = .returned (.bool false) ∧ w = w' := l8Copies_any 2
 have HV : Hid (fmK 2 p0 p1 p2 p3 p4 p5 = fmK 2 p0 p1 p2 p3 p4 p5) := rfl
 generalize hr : fmK 2 p0 p1 p2 p3 p4 p5 = r at *
 replace HV : Hid (r = fmK 2 p0 p1 p2 p3 p4 p5) := hr.symm
 clear hr
 cases g0 : p0 with
 | true =>
  have f0 : ot0.toList.isEmpty = false := HE.out.1.2 g0
  have HR : Hid (r = false) := HV.out.trans (by simp [fmK, cpK, g0])
  clear HV HE
  go_enter Tryd.func54, Tryd.ntmps54
  go_wp2_with (first | (go_at_call 57; refine (HB _).mono ?_; rintro e w1 ⟨rfl, rfl⟩) | (go_at_call 41; refine (HC _).mono ?_; rintro e w1 ⟨rfl, rfl⟩))
  go_ret
  exact ⟨by rw [HR.out]; rfl, rfl⟩
 | false =>
  have f0 : ot0.toList.isEmpty = true := HE.out.1.1 g0
  cases g1 : p1 with
  | true =>
   have f1 : 0 < n := HE.out.2.1.2 g1
   have HR : Hid (r = false) := HV.out.trans (by simp [fmK, cpK, g0, g1])
   clear HV HE
   go_enter Tryd.func54, Tryd.ntmps54
   go_wp2_with (first | (go_at_call 57; refine (HB _).mono ?_; rintro e w1 ⟨rfl, rfl⟩) | (go_at_call 41; refine (HC _).mono ?_; rintro e w1 ⟨rfl, rfl⟩))
   go_ret
   exact ⟨by rw [HR.out]; rfl, rfl⟩
  | false =>
   have f1 : ¬ 0 < n := HE.out.2.1.1 g1
   cases g2 : p2 with
   | true =>
    have f2 : ¬ om0 = 0 := HE.out.2.2.1.2 g2
    have HR : Hid (r = false) := HV.out.trans (by simp [fmK, cpK, g0, g1, g2])
    clear HV HE
    go_enter Tryd.func54, Tryd.ntmps54
    go_wp2_with (first | (go_at_call 57; refine (HB _).mono ?_; rintro e w1 ⟨rfl, rfl⟩) | (go_at_call 41; refine (HC _).mono ?_; rintro e w1 ⟨rfl, rfl⟩))
    go_ret
    exact ⟨by rw [HR.out]; rfl, rfl⟩
   | false =>
    have f2 : om0 = 0 := HE.out.2.2.1.1 g2
    cases g4 : p4 with
    | true =>
     have f4 : ¬ od0 = 0 := HE.out.2.2.2.2.1.2 g4
     have HR : Hid (r = false) := HV.out.trans (by simp [fmK, cpK, g0, g1, g2, g4])
     clear HV HE
     go_enter Tryd.func54, Tryd.ntmps54
     go_wp2_with (first | (go_at_call 57; refine (HB _).mono ?_; rintro e w1 ⟨rfl, rfl⟩) | (go_at_call 41; refine (HC _).mono ?_; rintro e w1 ⟨rfl, rfl⟩))
     go_ret
     exact ⟨by rw [HR.out]; rfl, rfl⟩
    | false =>
     have f4 : od0 = 0 := HE.out.2.2.2.2.1.1 g4
     cases g5 : p5 with
     | true =>
      have f5 : 0 < n' := HE.out.2.2.2.2.2.2 g5
      have HR : Hid (r = false) := HV.out.trans (by simp [fmK, cpK, g0, g1, g2, g4, g5])
      clear HV HE
      go_enter Tryd.func54, Tryd.ntmps54
      go_wp2_with (first | (go_at_call 57; refine (HB _).mono ?_; rintro e w1 ⟨rfl, rfl⟩) | (go_at_call 41; refine (HC _).mono ?_; rintro e w1 ⟨rfl, rfl⟩))
      go_ret
      exact ⟨by rw [HR.out]; rfl, rfl⟩
     | false =>
      have f5 : ¬ 0 < n' := HE.out.2.2.2.2.2.1 g5
      cases g3 : p3 with
      | true =>
       have f3 : ¬ of0 = 0 := HE.out.2.2.2.1.2 g3
       have HR : Hid (r = false) := HV.out.trans (by simp [fmK, cpK, g0, g1, g2, g4, g5, g3])
       clear HV HE
       go_enter Tryd.func54, Tryd.ntmps54
       go_wp2_with (first | (go_at_call 57; refine (HB _).mono ?_; rintro e w1 ⟨rfl, rfl⟩) | (go_at_call 41; refine (HC _).mono ?_; rintro e w1 ⟨rfl, rfl⟩))
       go_ret
       exact ⟨by rw [HR.out]; simp [f3], rfl⟩
      | false =>
       have f3 : of0 = 0 := HE.out.2.2.2.1.1 g3
       have HR : Hid (r = true) := HV.out.trans (by simp [fmK, cpK, g0, g1, g2, g4, g5, g3])
       clear HV
       go_enter Tryd.func54, Tryd.ntmps54
       go_wp2_with (first | (go_at_call 57; refine (HB _).mono ?_; rintro e w1 ⟨rfl, rfl⟩) | (go_at_call 41; refine (HC _).mono ?_; rintro e w1 ⟨rfl, rfl⟩))
       go_ret
       exact ⟨by rw [HR.out]; simp, rfl⟩
set_option maxHeartbeats 3200000 in
set_option maxRecDepth 100000 in
theorem l8Form_3 (ox0 ot0 : ByteArray) (om0 of0 od0 : Int) (a a' : Option Addr) (n cap n' cap' : Nat) (g off : Nat) (p0 p1 p2 p3 p4 p5 : Bool) (w : World)
  (HE : Hid (((p0 = false → ot0.toList.isEmpty = true) ∧ (p0 = true → ot0.toList.isEmpty = false)) ∧ ((p1 = false → ¬ 0 < n) ∧ (p1 = true → 0 < n)) ∧ ((p2 = false → om0 = 0) ∧ (p2 = true → ¬ om0 = 0)) ∧ ((p3 = false → of0 = 0) ∧ (p3 = true → ¬ of0 = 0)) ∧ ((p4 = false → od0 = 0) ∧ (p4 = true → ¬ od0 = 0)) ∧ (p5 = false → ¬ 0 < n') ∧ (p5 = true → 0 < n')))
  (hn : n ≤ maxLen) (hn' : n' ≤ maxLen)
  (c0 : w.cell? ⟨g, off, none⟩ = some (.int .i64 3)) (c1 : w.cell? ⟨g, off + 1, none⟩ = some (.string ox0)) (c2 : w.cell? ⟨g, off + 2, none⟩ = some (.string ot0)) (c3 : w.cell? ⟨g, off + 3, none⟩ = some (.slice a n cap)) (c4 : w.cell? ⟨g, off + 4, none⟩ = some (.int .i64 om0)) (c5 : w.cell? ⟨g, off + 5, none⟩ = some (.int .i64 of0)) (c6 : w.cell? ⟨g, off + 6, none⟩ = some (.int .i64 od0)) (c7 : w.cell? ⟨g, off + 7, none⟩ = some (.slice a' n' cap')) :
  Calls Tryd.prog 54 #[.pointer (some ⟨g, off, none⟩)] w fun e w' => e = .returned (.bool (fmK 3 p0 p1 p2 p3 p4 p5)) ∧ w = w' := by
 unfold maxLen at hn hn'
 have HB : ∀ w, Calls Tryd.prog 57 #[.int .i64 3, .int .i64 1, .int .i64 7] w fun e w' => e = .returned (.bool true) ∧ w = w' := l1In_bt 3 1 7
 have HC : ∀ w, Calls Tryd.prog 41 #[.int .i64 3] w fun e w' => e = .returned (.bool false) ∧ w = w' := l8Copies_any 3
 have HV : Hid (fmK 3 p0 p1 p2 p3 p4 p5 = fmK 3 p0 p1 p2 p3 p4 p5) := rfl
 generalize hr : fmK 3 p0 p1 p2 p3 p4 p5 = r at *
 replace HV : Hid (r = fmK 3 p0 p1 p2 p3 p4 p5) := hr.symm
 clear hr
 cases g0 : p0 with
 | true =>
  have f0 : ot0.toList.isEmpty = false := HE.out.1.2 g0
  have HR : Hid (r = false) := HV.out.trans (by simp [fmK, cpK, g0])
  clear HV HE
  go_enter Tryd.func54, Tryd.ntmps54
  go_wp2_with (first | (go_at_call 57; refine (HB _).mono ?_; rintro e w1 ⟨rfl, rfl⟩) | (go_at_call 41; refine (HC _).mono ?_; rintro e w1 ⟨rfl, rfl⟩))
  go_ret
  exact ⟨by rw [HR.out]; rfl, rfl⟩
 | false =>
  have f0 : ot0.toList.isEmpty = true := HE.out.1.1 g0
  cases g1 : p1 with
  | true =>
   have f1 : 0 < n := HE.out.2.1.2 g1
   have HR : Hid (r = false) := HV.out.trans (by simp [fmK, cpK, g0, g1])
   clear HV HE
   go_enter Tryd.func54, Tryd.ntmps54
   go_wp2_with (first | (go_at_call 57; refine (HB _).mono ?_; rintro e w1 ⟨rfl, rfl⟩) | (go_at_call 41; refine (HC _).mono ?_; rintro e w1 ⟨rfl, rfl⟩))
   go_ret
   exact ⟨by rw [HR.out]; rfl, rfl⟩
  | false =>
   have f1 : ¬ 0 < n := HE.out.2.1.1 g1
   cases g2 : p2 with
   | true =>
    have f2 : ¬ om0 = 0 := HE.out.2.2.1.2 g2
    have HR : Hid (r = false) := HV.out.trans (by simp [fmK, cpK, g0, g1, g2])
    clear HV HE
    go_enter Tryd.func54, Tryd.ntmps54
    go_wp2_with (first | (go_at_call 57; refine (HB _).mono ?_; rintro e w1 ⟨rfl, rfl⟩) | (go_at_call 41; refine (HC _).mono ?_; rintro e w1 ⟨rfl, rfl⟩))
    go_ret
    exact ⟨by rw [HR.out]; rfl, rfl⟩
   | false =>
    have f2 : om0 = 0 := HE.out.2.2.1.1 g2
    have HR : Hid (r = true) := HV.out.trans (by simp [fmK, cpK, g0, g1, g2])
    clear HV
    go_enter Tryd.func54, Tryd.ntmps54
    go_wp2_with (first | (go_at_call 57; refine (HB _).mono ?_; rintro e w1 ⟨rfl, rfl⟩) | (go_at_call 41; refine (HC _).mono ?_; rintro e w1 ⟨rfl, rfl⟩))
    go_ret
    exact ⟨by rw [HR.out]; rfl, rfl⟩
set_option maxHeartbeats 3200000 in
set_option maxRecDepth 100000 in
theorem l8Form_4 (ox0 ot0 : ByteArray) (om0 of0 od0 : Int) (a a' : Option Addr) (n cap n' cap' : Nat) (g off : Nat) (p0 p1 p2 p3 p4 p5 : Bool) (w : World)
  (HE : Hid (((p0 = false → ot0.toList.isEmpty = true) ∧ (p0 = true → ot0.toList.isEmpty = false)) ∧ ((p1 = false → ¬ 0 < n) ∧ (p1 = true → 0 < n)) ∧ ((p2 = false → om0 = 0) ∧ (p2 = true → ¬ om0 = 0)) ∧ ((p3 = false → of0 = 0) ∧ (p3 = true → ¬ of0 = 0)) ∧ ((p4 = false → od0 = 0) ∧ (p4 = true → ¬ od0 = 0)) ∧ (p5 = false → ¬ 0 < n') ∧ (p5 = true → 0 < n')))
  (hn : n ≤ maxLen) (hn' : n' ≤ maxLen)
  (c0 : w.cell? ⟨g, off, none⟩ = some (.int .i64 4)) (c1 : w.cell? ⟨g, off + 1, none⟩ = some (.string ox0)) (c2 : w.cell? ⟨g, off + 2, none⟩ = some (.string ot0)) (c3 : w.cell? ⟨g, off + 3, none⟩ = some (.slice a n cap)) (c4 : w.cell? ⟨g, off + 4, none⟩ = some (.int .i64 om0)) (c5 : w.cell? ⟨g, off + 5, none⟩ = some (.int .i64 of0)) (c6 : w.cell? ⟨g, off + 6, none⟩ = some (.int .i64 od0)) (c7 : w.cell? ⟨g, off + 7, none⟩ = some (.slice a' n' cap')) :
  Calls Tryd.prog 54 #[.pointer (some ⟨g, off, none⟩)] w fun e w' => e = .returned (.bool (fmK 4 p0 p1 p2 p3 p4 p5)) ∧ w = w' := by
 unfold maxLen at hn hn'
 have HB : ∀ w, Calls Tryd.prog 57 #[.int .i64 4, .int .i64 1, .int .i64 7] w fun e w' => e = .returned (.bool true) ∧ w = w' := l1In_bt 4 1 7
 have HC : ∀ w, Calls Tryd.prog 41 #[.int .i64 4] w fun e w' => e = .returned (.bool false) ∧ w = w' := l8Copies_any 4
 have HV : Hid (fmK 4 p0 p1 p2 p3 p4 p5 = fmK 4 p0 p1 p2 p3 p4 p5) := rfl
 generalize hr : fmK 4 p0 p1 p2 p3 p4 p5 = r at *
 replace HV : Hid (r = fmK 4 p0 p1 p2 p3 p4 p5) := hr.symm
 clear hr
 cases g0 : p0 with
 | true =>
  have f0 : ot0.toList.isEmpty = false := HE.out.1.2 g0
  have HR : Hid (r = false) := HV.out.trans (by simp [fmK, cpK, g0])
  clear HV HE
  go_enter Tryd.func54, Tryd.ntmps54
  go_wp2_with (first | (go_at_call 57; refine (HB _).mono ?_; rintro e w1 ⟨rfl, rfl⟩) | (go_at_call 41; refine (HC _).mono ?_; rintro e w1 ⟨rfl, rfl⟩))
  go_ret
  exact ⟨by rw [HR.out]; rfl, rfl⟩
 | false =>
  have f0 : ot0.toList.isEmpty = true := HE.out.1.1 g0
  cases g4 : p4 with
  | true =>
   have f4 : ¬ od0 = 0 := HE.out.2.2.2.2.1.2 g4
   have HR : Hid (r = false) := HV.out.trans (by simp [fmK, cpK, g0, g4])
   clear HV HE
   go_enter Tryd.func54, Tryd.ntmps54
   go_wp2_with (first | (go_at_call 57; refine (HB _).mono ?_; rintro e w1 ⟨rfl, rfl⟩) | (go_at_call 41; refine (HC _).mono ?_; rintro e w1 ⟨rfl, rfl⟩))
   go_ret
   exact ⟨by rw [HR.out]; rfl, rfl⟩
  | false =>
   have f4 : od0 = 0 := HE.out.2.2.2.2.1.1 g4
   cases g5 : p5 with
   | true =>
    have f5 : 0 < n' := HE.out.2.2.2.2.2.2 g5
    have HR : Hid (r = false) := HV.out.trans (by simp [fmK, cpK, g0, g4, g5])
    clear HV HE
    go_enter Tryd.func54, Tryd.ntmps54
    go_wp2_with (first | (go_at_call 57; refine (HB _).mono ?_; rintro e w1 ⟨rfl, rfl⟩) | (go_at_call 41; refine (HC _).mono ?_; rintro e w1 ⟨rfl, rfl⟩))
    go_ret
    exact ⟨by rw [HR.out]; rfl, rfl⟩
   | false =>
    have f5 : ¬ 0 < n' := HE.out.2.2.2.2.2.1 g5
    have HR : Hid (r = true) := HV.out.trans (by simp [fmK, cpK, g0, g4, g5])
    clear HV
    go_enter Tryd.func54, Tryd.ntmps54
    go_wp2_with (first | (go_at_call 57; refine (HB _).mono ?_; rintro e w1 ⟨rfl, rfl⟩) | (go_at_call 41; refine (HC _).mono ?_; rintro e w1 ⟨rfl, rfl⟩))
    go_ret
    exact ⟨by rw [HR.out]; rfl, rfl⟩
set_option maxHeartbeats 3200000 in
set_option maxRecDepth 100000 in
theorem l8Form_5 (ox0 ot0 : ByteArray) (om0 of0 od0 : Int) (a a' : Option Addr) (n cap n' cap' : Nat) (g off : Nat) (p0 p1 p2 p3 p4 p5 : Bool) (w : World)
  (HE : Hid (((p0 = false → ot0.toList.isEmpty = true) ∧ (p0 = true → ot0.toList.isEmpty = false)) ∧ ((p1 = false → ¬ 0 < n) ∧ (p1 = true → 0 < n)) ∧ ((p2 = false → om0 = 0) ∧ (p2 = true → ¬ om0 = 0)) ∧ ((p3 = false → of0 = 0) ∧ (p3 = true → ¬ of0 = 0)) ∧ ((p4 = false → od0 = 0) ∧ (p4 = true → ¬ od0 = 0)) ∧ (p5 = false → ¬ 0 < n') ∧ (p5 = true → 0 < n')))
  (hn : n ≤ maxLen) (hn' : n' ≤ maxLen)
  (c0 : w.cell? ⟨g, off, none⟩ = some (.int .i64 5)) (c1 : w.cell? ⟨g, off + 1, none⟩ = some (.string ox0)) (c2 : w.cell? ⟨g, off + 2, none⟩ = some (.string ot0)) (c3 : w.cell? ⟨g, off + 3, none⟩ = some (.slice a n cap)) (c4 : w.cell? ⟨g, off + 4, none⟩ = some (.int .i64 om0)) (c5 : w.cell? ⟨g, off + 5, none⟩ = some (.int .i64 of0)) (c6 : w.cell? ⟨g, off + 6, none⟩ = some (.int .i64 od0)) (c7 : w.cell? ⟨g, off + 7, none⟩ = some (.slice a' n' cap')) :
  Calls Tryd.prog 54 #[.pointer (some ⟨g, off, none⟩)] w fun e w' => e = .returned (.bool (fmK 5 p0 p1 p2 p3 p4 p5)) ∧ w = w' := by
 unfold maxLen at hn hn'
 have HB : ∀ w, Calls Tryd.prog 57 #[.int .i64 5, .int .i64 1, .int .i64 7] w fun e w' => e = .returned (.bool true) ∧ w = w' := l1In_bt 5 1 7
 have HC : ∀ w, Calls Tryd.prog 41 #[.int .i64 5] w fun e w' => e = .returned (.bool true) ∧ w = w' := l8Copies_any 5
 have HV : Hid (fmK 5 p0 p1 p2 p3 p4 p5 = fmK 5 p0 p1 p2 p3 p4 p5) := rfl
 generalize hr : fmK 5 p0 p1 p2 p3 p4 p5 = r at *
 replace HV : Hid (r = fmK 5 p0 p1 p2 p3 p4 p5) := hr.symm
 clear hr
 cases g2 : p2 with
 | true =>
  have f2 : ¬ om0 = 0 := HE.out.2.2.1.2 g2
  have HR : Hid (r = false) := HV.out.trans (by simp [fmK, cpK, g2])
  clear HV HE
  go_enter Tryd.func54, Tryd.ntmps54
  go_wp2_with (first | (go_at_call 57; refine (HB _).mono ?_; rintro e w1 ⟨rfl, rfl⟩) | (go_at_call 41; refine (HC _).mono ?_; rintro e w1 ⟨rfl, rfl⟩))
  go_ret
  exact ⟨by rw [HR.out]; rfl, rfl⟩
 | false =>
  have f2 : om0 = 0 := HE.out.2.2.1.1 g2
  cases g4 : p4 with
  | true =>
   have f4 : ¬ od0 = 0 := HE.out.2.2.2.2.1.2 g4
   have HR : Hid (r = false) := HV.out.trans (by simp [fmK, cpK, g2, g4])
   clear HV HE
   go_enter Tryd.func54, Tryd.ntmps54
   go_wp2_with (first | (go_at_call 57; refine (HB _).mono ?_; rintro e w1 ⟨rfl, rfl⟩) | (go_at_call 41; refine (HC _).mono ?_; rintro e w1 ⟨rfl, rfl⟩))
   go_ret
   exact ⟨by rw [HR.out]; rfl, rfl⟩
  | false =>
   have f4 : od0 = 0 := HE.out.2.2.2.2.1.1 g4
   cases g5 : p5 with
   | true =>
    have f5 : 0 < n' := HE.out.2.2.2.2.2.2 g5
    have HR : Hid (r = false) := HV.out.trans (by simp [fmK, cpK, g2, g4, g5])
    clear HV HE
    go_enter Tryd.func54, Tryd.ntmps54
    go_wp2_with (first | (go_at_call 57; refine (HB _).mono ?_; rintro e w1 ⟨rfl, rfl⟩) | (go_at_call 41; refine (HC _).mono ?_; rintro e w1 ⟨rfl, rfl⟩))
    go_ret
    exact ⟨by rw [HR.out]; rfl, rfl⟩
   | false =>
    have f5 : ¬ 0 < n' := HE.out.2.2.2.2.2.1 g5
    cases g3 : p3 with
    | true =>
     have f3 : ¬ of0 = 0 := HE.out.2.2.2.1.2 g3
     have HR : Hid (r = false) := HV.out.trans (by simp [fmK, cpK, g2, g4, g5, g3])
     clear HV HE
     go_enter Tryd.func54, Tryd.ntmps54
     go_wp2_with (first | (go_at_call 57; refine (HB _).mono ?_; rintro e w1 ⟨rfl, rfl⟩) | (go_at_call 41; refine (HC _).mono ?_; rintro e w1 ⟨rfl, rfl⟩))
     go_ret
     exact ⟨by rw [HR.out]; simp [f3], rfl⟩
    | false =>
     have f3 : of0 = 0 := HE.out.2.2.2.1.1 g3
     have HR : Hid (r = true) := HV.out.trans (by simp [fmK, cpK, g2, g4, g5, g3])
     clear HV
     go_enter Tryd.func54, Tryd.ntmps54
     go_wp2_with (first | (go_at_call 57; refine (HB _).mono ?_; rintro e w1 ⟨rfl, rfl⟩) | (go_at_call 41; refine (HC _).mono ?_; rintro e w1 ⟨rfl, rfl⟩))
     go_ret
     exact ⟨by rw [HR.out]; simp, rfl⟩
set_option maxHeartbeats 3200000 in
set_option maxRecDepth 100000 in
theorem l8Form_6 (ox0 ot0 : ByteArray) (om0 of0 od0 : Int) (a a' : Option Addr) (n cap n' cap' : Nat) (g off : Nat) (p0 p1 p2 p3 p4 p5 : Bool) (w : World)
  (HE : Hid (((p0 = false → ot0.toList.isEmpty = true) ∧ (p0 = true → ot0.toList.isEmpty = false)) ∧ ((p1 = false → ¬ 0 < n) ∧ (p1 = true → 0 < n)) ∧ ((p2 = false → om0 = 0) ∧ (p2 = true → ¬ om0 = 0)) ∧ ((p3 = false → of0 = 0) ∧ (p3 = true → ¬ of0 = 0)) ∧ ((p4 = false → od0 = 0) ∧ (p4 = true → ¬ od0 = 0)) ∧ (p5 = false → ¬ 0 < n') ∧ (p5 = true → 0 < n')))
  (hn : n ≤ maxLen) (hn' : n' ≤ maxLen)
  (c0 : w.cell? ⟨g, off, none⟩ = some (.int .i64 6)) (c1 : w.cell? ⟨g, off + 1, none⟩ = some (.string ox0)) (c2 : w.cell? ⟨g, off + 2, none⟩ = some (.string ot0)) (c3 : w.cell? ⟨g, off + 3, none⟩ = some (.slice a n cap)) (c4 : w.cell? ⟨g, off + 4, none⟩ = some (.int .i64 om0)) (c5 : w.cell? ⟨g, off + 5, none⟩ = some (.int .i64 of0)) (c6 : w.cell? ⟨g, off + 6, none⟩ = some (.int .i64 od0)) (c7 : w.cell? ⟨g, off + 7, none⟩ = some (.slice a' n' cap')) :
  Calls Tryd.prog 54 #[.pointer (some ⟨g, off, none⟩)] w fun e w' => e = .returned (.bool (fmK 6 p0 p1 p2 p3 p4 p5)) ∧ w = w' := by
 unfold maxLen at hn hn'
 have HB : ∀ w, Calls Tryd.prog 57 #[.int .i64 6, .int .i64 1, .int .i64 7] w fun e w' => e = .returned (.bool true) ∧ w = w' := l1In_bt 6 1 7
 have HC : ∀ w, Calls Tryd.prog 41 #[.int .i64 6] w fun e w' => e = .returned (.bool true) ∧ w = w' := l8Copies_any 6
 have HV : Hid (fmK 6 p0 p1 p2 p3 p4 p5 = fmK 6 p0 p1 p2 p3 p4 p5) := rfl
 generalize hr : fmK 6 p0 p1 p2 p3 p4 p5 = r at *
 replace HV : Hid (r = fmK 6 p0 p1 p2 p3 p4 p5) := hr.symm
 clear hr
 cases g2 : p2 with
 | true =>
  have f2 : ¬ om0 = 0 := HE.out.2.2.1.2 g2
  have HR : Hid (r = false) := HV.out.trans (by simp [fmK, cpK, g2])
  clear HV HE
  go_enter Tryd.func54, Tryd.ntmps54
  go_wp2_with (first | (go_at_call 57; refine (HB _).mono ?_; rintro e w1 ⟨rfl, rfl⟩) | (go_at_call 41; refine (HC _).mono ?_; rintro e w1 ⟨rfl, rfl⟩))
  go_ret
  exact ⟨by rw [HR.out]; rfl, rfl⟩
 | false =>
  have f2 : om0 = 0 := HE.out.2.2.1.1 g2
  cases g4 : p4 with
  | true =>
   have f4 : ¬ od0 = 0 := HE.out.2.2.2.2.1.2 g4
   have HR : Hid (r = false) := HV.out.trans (by simp [fmK, cpK, g2, g4])
   clear HV HE
   go_enter Tryd.func54, Tryd.ntmps54
   go_wp2_with (first | (go_at_call 57; refine (HB _).mono ?_; rintro e w1 ⟨rfl, rfl⟩) | (go_at_call 41; refine (HC _).mono ?_; rintro e w1 ⟨rfl, rfl⟩))
   go_ret
   exact ⟨by rw [HR.out]; rfl, rfl⟩
  | false =>
   have f4 : od0 = 0 := HE.out.2.2.2.2.1.1 g4
   cases g5 : p5 with
   | true =>
    have f5 : 0 < n' := HE.out.2.2.2.2.2.2 g5
    have HR : Hid (r = false) := HV.out.trans (by simp [fmK, cpK, g2, g4, g5])
    clear HV HE
    go_enter Tryd.func54, Tryd.ntmps54
    go_wp2_with (first | (go_at_call 57; refine (HB _).mono ?_; rintro e w1 ⟨rfl, rfl⟩) | (go_at_call 41; refine (HC _).mono ?_; rintro e w1 ⟨rfl, rfl⟩))
    go_ret
    exact ⟨by rw [HR.out]; rfl, rfl⟩
   | false =>
    have f5 : ¬ 0 < n' := HE.out.2.2.2.2.2.1 g5
    cases g3 : p3 with
    | true =>
     have f3 : ¬ of0 = 0 := HE.out.2.2.2.1.2 g3
     have HR : Hid (r = false) := HV.out.trans (by simp [fmK, cpK, g2, g4, g5, g3])
     clear HV HE
     go_enter Tryd.func54, Tryd.ntmps54
     go_wp2_with (first | (go_at_call 57; refine (HB _).mono ?_; rintro e w1 ⟨rfl, rfl⟩) | (go_at_call 41; refine (HC _).mono ?_; rintro e w1 ⟨rfl, rfl⟩))
     go_ret
     exact ⟨by rw [HR.out]; simp [f3], rfl⟩
    | false =>
     have f3 : of0 = 0 := HE.out.2.2.2.1.1 g3
     have HR : Hid (r = true) := HV.out.trans (by simp [fmK, cpK, g2, g4, g5, g3])
     clear HV
     go_enter Tryd.func54, Tryd.ntmps54
     go_wp2_with (first | (go_at_call 57; refine (HB _).mono ?_; rintro e w1 ⟨rfl, rfl⟩) | (go_at_call 41; refine (HC _).mono ?_; rintro e w1 ⟨rfl, rfl⟩))
     go_ret
     exact ⟨by rw [HR.out]; simp, rfl⟩
set_option maxHeartbeats 3200000 in
set_option maxRecDepth 100000 in
theorem l8Form_7 (ox0 ot0 : ByteArray) (om0 of0 od0 : Int) (a a' : Option Addr) (n cap n' cap' : Nat) (g off : Nat) (p0 p1 p2 p3 p4 p5 : Bool) (w : World)
  (HE : Hid (((p0 = false → ot0.toList.isEmpty = true) ∧ (p0 = true → ot0.toList.isEmpty = false)) ∧ ((p1 = false → ¬ 0 < n) ∧ (p1 = true → 0 < n)) ∧ ((p2 = false → om0 = 0) ∧ (p2 = true → ¬ om0 = 0)) ∧ ((p3 = false → of0 = 0) ∧ (p3 = true → ¬ of0 = 0)) ∧ ((p4 = false → od0 = 0) ∧ (p4 = true → ¬ od0 = 0)) ∧ (p5 = false → ¬ 0 < n') ∧ (p5 = true → 0 < n')))
  (hn : n ≤ maxLen) (hn' : n' ≤ maxLen)
  (c0 : w.cell? ⟨g, off, none⟩ = some (.int .i64 7)) (c1 : w.cell? ⟨g, off + 1, none⟩ = some (.string ox0)) (c2 : w.cell? ⟨g, off + 2, none⟩ = some (.string ot0)) (c3 : w.cell? ⟨g, off + 3, none⟩ = some (.slice a n cap)) (c4 : w.cell? ⟨g, off + 4, none⟩ = some (.int .i64 om0)) (c5 : w.cell? ⟨g, off + 5, none⟩ = some (.int .i64 of0)) (c6 : w.cell? ⟨g, off + 6, none⟩ = some (.int .i64 od0)) (c7 : w.cell? ⟨g, off + 7, none⟩ = some (.slice a' n' cap')) :
  Calls Tryd.prog 54 #[.pointer (some ⟨g, off, none⟩)] w fun e w' => e = .returned (.bool (fmK 7 p0 p1 p2 p3 p4 p5)) ∧ w = w' := by
 unfold maxLen at hn hn'
 have HB : ∀ w, Calls Tryd.prog 57 #[.int .i64 7, .int .i64 1, .int .i64 7] w fun e w' => e = .returned (.bool true) ∧ w = w' := l1In_bt 7 1 7
 have HC : ∀ w, Calls Tryd.prog 41 #[.int .i64 7] w fun e w' => e = .returned (.bool false) ∧ w = w' := l8Copies_any 7
 have HV : Hid (fmK 7 p0 p1 p2 p3 p4 p5 = fmK 7 p0 p1 p2 p3 p4 p5) := rfl
 generalize hr : fmK 7 p0 p1 p2 p3 p4 p5 = r at *
 replace HV : Hid (r = fmK 7 p0 p1 p2 p3 p4 p5) := hr.symm
 clear hr
 cases g0 : p0 with
 | true =>
  have f0 : ot0.toList.isEmpty = false := HE.out.1.2 g0
  have HR : Hid (r = false) := HV.out.trans (by simp [fmK, cpK, g0])
  clear HV HE
  go_enter Tryd.func54, Tryd.ntmps54
  go_wp2_with (first | (go_at_call 57; refine (HB _).mono ?_; rintro e w1 ⟨rfl, rfl⟩) | (go_at_call 41; refine (HC _).mono ?_; rintro e w1 ⟨rfl, rfl⟩))
  go_ret
  exact ⟨by rw [HR.out]; rfl, rfl⟩
 | false =>
  have f0 : ot0.toList.isEmpty = true := HE.out.1.1 g0
  cases g1 : p1 with
  | true =>
   have f1 : 0 < n := HE.out.2.1.2 g1
   have HR : Hid (r = false) := HV.out.trans (by simp [fmK, cpK, g0, g1])
   clear HV HE
   go_enter Tryd.func54, Tryd.ntmps54
   go_wp2_with (first | (go_at_call 57; refine (HB _).mono ?_; rintro e w1 ⟨rfl, rfl⟩) | (go_at_call 41; refine (HC _).mono ?_; rintro e w1 ⟨rfl, rfl⟩))
   go_ret
   exact ⟨by rw [HR.out]; rfl, rfl⟩
  | false =>
   have f1 : ¬ 0 < n := HE.out.2.1.1 g1
   cases g2 : p2 with
   | true =>
    have f2 : ¬ om0 = 0 := HE.out.2.2.1.2 g2
    have HR : Hid (r = false) := HV.out.trans (by simp [fmK, cpK, g0, g1, g2])
    clear HV HE
    go_enter Tryd.func54, Tryd.ntmps54
    go_wp2_with (first | (go_at_call 57; refine (HB _).mono ?_; rintro e w1 ⟨rfl, rfl⟩) | (go_at_call 41; refine (HC _).mono ?_; rintro e w1 ⟨rfl, rfl⟩))
    go_ret
    exact ⟨by rw [HR.out]; rfl, rfl⟩
   | false =>
    have f2 : om0 = 0 := HE.out.2.2.1.1 g2
    cases g4 : p4 with
    | true =>
     have f4 : ¬ od0 = 0 := HE.out.2.2.2.2.1.2 g4
     have HR : Hid (r = false) := HV.out.trans (by simp [fmK, cpK, g0, g1, g2, g4])
     clear HV HE
     go_enter Tryd.func54, Tryd.ntmps54
     go_wp2_with (first | (go_at_call 57; refine (HB _).mono ?_; rintro e w1 ⟨rfl, rfl⟩) | (go_at_call 41; refine (HC _).mono ?_; rintro e w1 ⟨rfl, rfl⟩))
     go_ret
     exact ⟨by rw [HR.out]; rfl, rfl⟩
    | false =>
     have f4 : od0 = 0 := HE.out.2.2.2.2.1.1 g4
     cases g5 : p5 with
     | true =>
      have f5 : 0 < n' := HE.out.2.2.2.2.2.2 g5
      have HR : Hid (r = false) := HV.out.trans (by simp [fmK, cpK, g0, g1, g2, g4, g5])
      clear HV HE
      go_enter Tryd.func54, Tryd.ntmps54
      go_wp2_with (first | (go_at_call 57; refine (HB _).mono ?_; rintro e w1 ⟨rfl, rfl⟩) | (go_at_call 41; refine (HC _).mono ?_; rintro e w1 ⟨rfl, rfl⟩))
      go_ret
      exact ⟨by rw [HR.out]; rfl, rfl⟩
     | false =>
      have f5 : ¬ 0 < n' := HE.out.2.2.2.2.2.1 g5
      cases g3 : p3 with
      | true =>
       have f3 : ¬ of0 = 0 := HE.out.2.2.2.1.2 g3
       have HR : Hid (r = false) := HV.out.trans (by simp [fmK, cpK, g0, g1, g2, g4, g5, g3])
       clear HV HE
       go_enter Tryd.func54, Tryd.ntmps54
       go_wp2_with (first | (go_at_call 57; refine (HB _).mono ?_; rintro e w1 ⟨rfl, rfl⟩) | (go_at_call 41; refine (HC _).mono ?_; rintro e w1 ⟨rfl, rfl⟩))
       go_ret
       exact ⟨by rw [HR.out]; simp [f3], rfl⟩
      | false =>
       have f3 : of0 = 0 := HE.out.2.2.2.1.1 g3
       have HR : Hid (r = true) := HV.out.trans (by simp [fmK, cpK, g0, g1, g2, g4, g5, g3])
       clear HV
       go_enter Tryd.func54, Tryd.ntmps54
       go_wp2_with (first | (go_at_call 57; refine (HB _).mono ?_; rintro e w1 ⟨rfl, rfl⟩) | (go_at_call 41; refine (HC _).mono ?_; rintro e w1 ⟨rfl, rfl⟩))
       go_ret
       exact ⟨by rw [HR.out]; simp, rfl⟩
set_option maxHeartbeats 1600000 in
set_option maxRecDepth 100000 in
theorem l8Form_any (o : OpR) (p : SlO) (g off : Nat) {lo : Nat} (w : World) (hs : IsOp lo w p o)
  (c0 : w.cell? ⟨g, off, none⟩ = some (.int .i64 o.k)) (c1 : w.cell? ⟨g, off + 1, none⟩ = some (.string o.x)) (c2 : w.cell? ⟨g, off + 2, none⟩ = some (.string o.t)) (c3 : w.cell? ⟨g, off + 3, none⟩ = some (slW p.1)) (c4 : w.cell? ⟨g, off + 4, none⟩ = some (.int .i64 o.m)) (c5 : w.cell? ⟨g, off + 5, none⟩ = some (.int .i64 o.f)) (c6 : w.cell? ⟨g, off + 6, none⟩ = some (.int .i64 o.d)) (c7 : w.cell? ⟨g, off + 7, none⟩ = some (slW p.2)) :
  Calls Tryd.prog 54 #[.pointer (some ⟨g, off, none⟩)] w fun e w' => e = .returned (.bool (fmV o)) ∧ w = w' := by
 have hu := hs.1.1
 have hb := hs.2.1
 have hm1 : p.1.2.1 ≤ maxLen := Nat.le_trans hs.1.2.1 hs.1.2.2.1
 have hm2 : p.2.2.1 ≤ maxLen := Nat.le_trans hs.2.2.1 hs.2.2.2.1
 obtain ⟨⟨a, n, cap⟩, ⟨a', n', cap'⟩⟩ := p
 obtain ⟨ok0, ox0, ot0, ou0, om0, of0, od0, ob0⟩ := o
 dsimp only [slW] at *
 cases hk : bt ok0 1 7 with
 | false =>
  have HM : Hid (fmV ⟨ok0, ox0, ot0, ou0, om0, of0, od0, ob0⟩ = false) := by show _ = _; unfold fmV; rw [show bt (OpR.k ⟨ok0, ox0, ot0, ou0, om0, of0, od0, ob0⟩) 1 7 = false from hk]; rfl
  have HB := l1In_bt ok0 1 7
  rw [hk] at HB
  generalize fmV ⟨ok0, ox0, ot0, ou0, om0, of0, od0, ob0⟩ = r at *
  clear hk hs
  go_enter Tryd.func54, Tryd.ntmps54
  go_wp2_with (go_at_call 57; refine (HB _).mono ?_; rintro e w1 ⟨rfl, rfl⟩)
  go_ret
  exact ⟨by rw [HM.out]; rfl, rfl⟩
 | true =>
  have HE : Hid (((h0B ⟨ok0, ox0, ot0, ou0, om0, of0, od0, ob0⟩ = false → ot0.toList.isEmpty = true) ∧ (h0B ⟨ok0, ox0, ot0, ou0, om0, of0, od0, ob0⟩ = true → ot0.toList.isEmpty = false)) ∧ ((h1B ⟨ok0, ox0, ot0, ou0, om0, of0, od0, ob0⟩ = false → ¬ 0 < n) ∧ (h1B ⟨ok0, ox0, ot0, ou0, om0, of0, od0, ob0⟩ = true → 0 < n)) ∧ ((h2B ⟨ok0, ox0, ot0, ou0, om0, of0, od0, ob0⟩ = false → om0 = 0) ∧ (h2B ⟨ok0, ox0, ot0, ou0, om0, of0, od0, ob0⟩ = true → ¬ om0 = 0)) ∧ ((h3B ⟨ok0, ox0, ot0, ou0, om0, of0, od0, ob0⟩ = false → of0 = 0) ∧ (h3B ⟨ok0, ox0, ot0, ou0, om0, of0, od0, ob0⟩ = true → ¬ of0 = 0)) ∧ ((h4B ⟨ok0, ox0, ot0, ou0, om0, of0, od0, ob0⟩ = false → od0 = 0) ∧ (h4B ⟨ok0, ox0, ot0, ou0, om0, of0, od0, ob0⟩ = true → ¬ od0 = 0)) ∧ (h5B ⟨ok0, ox0, ot0, ou0, om0, of0, od0, ob0⟩ = false → ¬ 0 < n') ∧ (h5B ⟨ok0, ox0, ot0, ou0, om0, of0, od0, ob0⟩ = true → 0 < n')) := by
   have e0 := isEmp_size ot0
   refine ⟨⟨fun h => ?_, fun h => ?_⟩, ⟨fun h => ?_, fun h => ?_⟩, ⟨fun h => ?_, fun h => ?_⟩, ⟨fun h => ?_, fun h => ?_⟩, ⟨fun h => ?_, fun h => ?_⟩, fun h => ?_, fun h => ?_⟩
   ·have e : decide (ot0.size ≠ 0) = false := h
    rw [e] at e0; simpa using e0
   ·have e : decide (ot0.size ≠ 0) = true := h
    rw [e] at e0; simpa using e0
   ·have := of_decide_eq_false h; dsimp only at this; omega
   ·have := of_decide_eq_true h; dsimp only at this; omega
   ·have := of_decide_eq_false h; dsimp only at this; omega
   ·exact of_decide_eq_true h
   ·have := of_decide_eq_false h; dsimp only at this; omega
   ·exact of_decide_eq_true h
   ·have := of_decide_eq_false h; dsimp only at this; omega
   ·exact of_decide_eq_true h
   ·have := of_decide_eq_false h; dsimp only at this; omega
   ·have := of_decide_eq_true h; dsimp only at this; omega
  have hV : fmV ⟨ok0, ox0, ot0, ou0, om0, of0, od0, ob0⟩ = fmK ok0 (h0B ⟨ok0, ox0, ot0, ou0, om0, of0, od0, ob0⟩) (h1B ⟨ok0, ox0, ot0, ou0, om0, of0, od0, ob0⟩) (h2B ⟨ok0, ox0, ot0, ou0, om0, of0, od0, ob0⟩) (h3B ⟨ok0, ox0, ot0, ou0, om0, of0, od0, ob0⟩) (h4B ⟨ok0, ox0, ot0, ou0, om0, of0, od0, ob0⟩) (h5B ⟨ok0, ox0, ot0, ou0, om0, of0, od0, ob0⟩) := by
   unfold fmV; rw [show bt (OpR.k ⟨ok0, ox0, ot0, ou0, om0, of0, od0, ob0⟩) 1 7 = true from hk]; rfl
  rw [hV]
  have hk' := of_decide_eq_true hk
  obtain rfl | rfl | rfl | rfl | rfl | rfl | rfl : ok0 = 1 ∨ ok0 = 2 ∨ ok0 = 3 ∨ ok0 = 4 ∨ ok0 = 5 ∨ ok0 = 6 ∨ ok0 = 7 := by omega
  ·exact l8Form_1 ox0 ot0 om0 of0 od0 a a' n cap n' cap' g off _ _ _ _ _ _ w HE hm1 hm2 c0 c1 c2 c3 c4 c5 c6 c7
  ·exact l8Form_2 ox0 ot0 om0 of0 od0 a a' n cap n' cap' g off _ _ _ _ _ _ w HE hm1 hm2 c0 c1 c2 c3 c4 c5 c6 c7
  ·exact l8Form_3 ox0 ot0 om0 of0 od0 a a' n cap n' cap' g off _ _ _ _ _ _ w HE hm1 hm2 c0 c1 c2 c3 c4 c5 c6 c7
  ·exact l8Form_4 ox0 ot0 om0 of0 od0 a a' n cap n' cap' g off _ _ _ _ _ _ w HE hm1 hm2 c0 c1 c2 c3 c4 c5 c6 c7
  ·exact l8Form_5 ox0 ot0 om0 of0 od0 a a' n cap n' cap' g off _ _ _ _ _ _ w HE hm1 hm2 c0 c1 c2 c3 c4 c5 c6 c7
  ·exact l8Form_6 ox0 ot0 om0 of0 od0 a a' n cap n' cap' g off _ _ _ _ _ _ w HE hm1 hm2 c0 c1 c2 c3 c4 c5 c6 c7
  ·exact l8Form_7 ox0 ot0 om0 of0 od0 a a' n cap n' cap' g off _ _ _ _ _ _ w HE hm1 hm2 c0 c1 c2 c3 c4 c5 c6 c7
end Go.Proofs.YtdcgihcjiiemdaaDoor
