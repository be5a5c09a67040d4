/- The value of a term: the model's side; no conditions beyond those that each fact names. -/
import Derived.Test.YtjogclofjollnaaGreatDoorTfa
import Derived.Test.YtjogclofjollnaaGreatDoorTmtToCms
namespace Go.Proofs.YtjogclofjollnaaGreatDoor
open Go.RowKit
set_option linter.unusedVariables false
theorem lkC_no {c : Int} (h : chr c = true → 33 ≤ c → c = 127) : lkC c = false := by
 unfold lkC
 cases h1 : chr c with
 | false => rfl
 | true =>
  by_cases h2 : 32 < c
  ·simp [h h1 (by omega)]
  ·simp [h2]
theorem allL_bad {p : Int → Bool} {l : List Int} {k : Nat} (h : k < l.length) (hb : p (nthI l k) = false) : l.all p = false := by
 rw [List.all_eq_false]
 exact ⟨nthI l k, by rw [nthI_get h]; exact List.getElem_mem h, by rw [hb]; simp⟩
theorem allL_step {p : Int → Bool} {l : List Int} {k : Nat} (h : k < l.length) (h0 : (l.take k).all p = true) (hb : p (nthI l k) = true) : (l.take (k + 1)).all p = true := by
 rw [take_snocI l k h, List.all_append, h0]
 simp [hb]
theorem allL_end {p : Int → Bool} {l : List Int} {n : Nat} (hl : l.length = n) (h0 : (l.take n).all p = true) : l.all p = true := by
 rw [← hl, List.take_length] at h0
 exact h0
set_option maxHeartbeats 1600000 in
set_option maxRecDepth 100000 in
theorem l12Codes_any (s : SlQ) (l : List Int) {lo : Nat} (w : World) (hs : IsIl lo w s l) :
  Calls Tryz.prog 87 #[slW s] w fun e w' => e = .returned (.bool (cdB l)) ∧ Below w.heap.size w w' := by
 obtain ⟨a, n, cap⟩ := s
 obtain ⟨hl, hnc, hcm, hr, -⟩ := hs
 dsimp only [slW] at *
 unfold maxLen at hcm
 have HV : Hid (cdB l = (bty (n : Int) 1 20 && l.all lkC)) := by show cdB l = _; unfold cdB; rw [hl]
 generalize cdB l = r at *
 go_enter Tryz.func87, Tryz.ntmps87
 go_wp2
 go_loopw [3] (fun i wr => ∃ k : Nat, k ≤ n ∧ i = .int .i64 k ∧ (l.take k).all lkC = true ∧ Below w.heap.size w wr) (fun i _ => n - (intOf i).toNat)
 case atStart => exact ⟨0, Nat.zero_le _, rfl, by simp, Below.refl _ _⟩
 case round =>
  obtain ⟨k, hk, rfl, hall, hbel⟩ := hrel
  by_cases hkn : k < n
  ·obtain ⟨b, off, rfl, hblt, hcell⟩ := hr.at_ (by omega)
   have hc : wr.cell? ⟨b, off + k, none⟩ = some (.int .i64 (nthI l k)) := (hbel.cell (p := ⟨b, off + k, none⟩) hblt).trans (hcell k (by omega))
   have hki : (k : Int) < (n : Int) := by omega
   have HS : Hid (lkC (nthI l k) = true → (l.take (k + 1)).all lkC = true) := fun hb => allL_step (by omega) hall hb
   have HF : Hid (lkC (nthI l k) = false → r = false) := fun hb => HV.out.trans (by rw [allL_bad (by omega) hb]; simp)
   clear hcell hr hall
   generalize nthI l k = x at *
   cases hp : chr x with
   | false =>
    have HR : Hid (r = false) := HF.out (by simp [lkC, hp])
    clear HS HF HV
    go_wp2_with (first | (go_at_call 113; refine (l2Char_any _ _).mono ?_; rintro e w1 ⟨rfl, rfl⟩; rw [hp]))
    go_ret
    exact ⟨by rw [HR.out]; rfl, hbel⟩
   | true =>
    by_cases h1 : x < 33
    ·have HR : Hid (r = false) := HF.out (lkC_no (fun _ h => by omega))
     clear HS HF HV
     go_wp2_with (first | (go_at_call 113; refine (l2Char_any _ _).mono ?_; rintro e w1 ⟨rfl, rfl⟩; rw [hp]))
     go_ret
     exact ⟨by rw [HR.out]; rfl, hbel⟩
    ·by_cases h2 : x = 127
     ·have HR : Hid (r = false) := HF.out (lkC_no (fun _ _ => h2))
      clear HS HF HV
      subst h2
      go_wp2_with (first | (go_at_call 113; refine (l2Char_any _ _).mono ?_; rintro e w1 ⟨rfl, rfl⟩; rw [hp]))
      go_ret
      exact ⟨by rw [HR.out]; rfl, hbel⟩
     ·have hall' := HS.out (by simp [lkC, hp, h2]; omega)
      have h2b : (x == 127) = false := by simpa using h2
      clear HS HF
      go_wp2_with (first | (go_at_call 113; refine (l2Char_any _ _).mono ?_; rintro e w1 ⟨rfl, rfl⟩; rw [hp]))
      go_roundw
      case rel => exact ⟨k + 1, by omega, by go_num, hall', hbel⟩
      case measure => simp [intOf]; omega
  ·have hkk : k = n := by omega
   subst hkk
   have HA : Hid (r = bty (k : Int) 1 20) := HV.out.trans (by rw [allL_end hl hall]; simp)
   clear hall HV
   go_wp2_with (first | (go_at_call 46; refine (l1In_y _ _ _ _).mono ?_; rintro e w1 ⟨rfl, rfl⟩))
   go_ret
   exact ⟨by rw [HA.out]; rfl, hbel⟩
set_option maxHeartbeats 1600000 in
set_option maxRecDepth 100000 in
theorem l12Value_2 (n l r : Int) (c : List Int) (y : List YgP) (p : SlT) (g o : Nat) {lo : Nat} (w : World) (hs : IsTm lo w p ⟨2, n, c, y, l, r⟩)
  (hc : Tc6 w g o p ⟨2, n, c, y, l, r⟩) :
  Calls Tryz.prog 52 #[.pointer (some ⟨g, o, none⟩)] w fun e w' => e = .returned (.int .i64 (vlT ⟨2, n, c, y, l, r⟩)) ∧ Below w.heap.size w w' := by
 obtain ⟨⟨s1, m, c1⟩, ⟨s2, q, c2⟩⟩ := p
 unfold Tc6 at hc
 obtain ⟨e0, e1, e2, e3, e4, e5⟩ := hc
 dsimp only at e0 e1 e2 e3 e4 e5
 have HV : Hid (vlT ⟨2, n, c, y, l, r⟩ = if ofB n then 0 else 3) := by show _ = _; rfl
 generalize vlT ⟨2, n, c, y, l, r⟩ = rv at *
 by_cases h1 : n = 1
 ·have HR : Hid (rv = 0) := HV.out.trans (by simp [ofB, h1])
  clear HV
  subst h1
  go_enter Tryz.func52, Tryz.ntmps52
  go_wp2
  go_ret
  exact ⟨by rw [HR.out]; rfl, Below.refl _ _⟩
 by_cases h2 : n = 2
 ·have HR : Hid (rv = 0) := HV.out.trans (by simp [ofB, h2])
  clear HV
  subst h2
  go_enter Tryz.func52, Tryz.ntmps52
  go_wp2
  go_ret
  exact ⟨by rw [HR.out]; rfl, Below.refl _ _⟩
 by_cases h4 : n = 4
 ·have HR : Hid (rv = 0) := HV.out.trans (by simp [ofB, h4])
  clear HV
  subst h4
  go_enter Tryz.func52, Tryz.ntmps52
  go_wp2
  go_ret
  exact ⟨by rw [HR.out]; rfl, Below.refl _ _⟩
 by_cases h8 : n = 8
 ·have HR : Hid (rv = 0) := HV.out.trans (by simp [ofB, h8])
  clear HV
  subst h8
  go_enter Tryz.func52, Tryz.ntmps52
  go_wp2
  go_ret
  exact ⟨by rw [HR.out]; rfl, Below.refl _ _⟩
 have HR : Hid (rv = 3) := HV.out.trans (by simp [ofB, h1, h2, h4, h8])
 clear HV
 have b1 : (n == 1) = false := by simpa using h1
 have b2 : (n == 2) = false := by simpa using h2
 have b4 : (n == 4) = false := by simpa using h4
 have b8 : (n == 8) = false := by simpa using h8
 go_enter Tryz.func52, Tryz.ntmps52
 go_wp2
 go_ret
 exact ⟨by rw [HR.out]; rfl, Below.refl _ _⟩
set_option maxHeartbeats 1600000 in
set_option maxRecDepth 100000 in
theorem l12Value_3 (n l r : Int) (c : List Int) (y : List YgP) (p : SlT) (g o : Nat) {lo : Nat} (w : World) (hs : IsTm lo w p ⟨3, n, c, y, l, r⟩)
  (hc : Tc6 w g o p ⟨3, n, c, y, l, r⟩) :
  Calls Tryz.prog 52 #[.pointer (some ⟨g, o, none⟩)] w fun e w' => e = .returned (.int .i64 (vlT ⟨3, n, c, y, l, r⟩)) ∧ Below w.heap.size w w' := by
 obtain ⟨⟨s1, m, c1⟩, ⟨s2, q, c2⟩⟩ := p
 unfold Tc6 at hc
 obtain ⟨e0, e1, e2, e3, e4, e5⟩ := hc
 dsimp only at e0 e1 e2 e3 e4 e5
 have HV : Hid (vlT ⟨3, n, c, y, l, r⟩ = if bty n 0 9999 then 0 else 3) := by show _ = _; rfl
 generalize vlT ⟨3, n, c, y, l, r⟩ = rv at *
 cases HB : bty n 0 9999 with
 | true =>
  have HR : Hid (rv = 0) := HV.out.trans (by rw [HB]; rfl)
  clear HV
  go_enter Tryz.func52, Tryz.ntmps52
  go_wp2_with (first | (go_at_call 46; refine (l1In_y _ _ _ _).mono ?_; rintro e w1 ⟨rfl, rfl⟩; rw [HB]))
  go_ret
  exact ⟨by rw [HR.out]; rfl, Below.refl _ _⟩
 | false =>
  have HR : Hid (rv = 3) := HV.out.trans (by rw [HB]; rfl)
  clear HV
  go_enter Tryz.func52, Tryz.ntmps52
  go_wp2_with (first | (go_at_call 46; refine (l1In_y _ _ _ _).mono ?_; rintro e w1 ⟨rfl, rfl⟩; rw [HB]))
  go_ret
  exact ⟨by rw [HR.out]; rfl, Below.refl _ _⟩
set_option maxHeartbeats 1600000 in
set_option maxRecDepth 100000 in
theorem l12Value_4 (n l r : Int) (c : List Int) (y : List YgP) (p : SlT) (g o : Nat) {lo : Nat} (w : World) (hs : IsTm lo w p ⟨4, n, c, y, l, r⟩)
  (hc : Tc6 w g o p ⟨4, n, c, y, l, r⟩) :
  Calls Tryz.prog 52 #[.pointer (some ⟨g, o, none⟩)] w fun e w' => e = .returned (.int .i64 (vlT ⟨4, n, c, y, l, r⟩)) ∧ Below w.heap.size w w' := by
 obtain ⟨⟨s1, m, c1⟩, ⟨s2, q, c2⟩⟩ := p
 unfold Tc6 at hc
 obtain ⟨e0, e1, e2, e3, e4, e5⟩ := hc
 dsimp only at e0 e1 e2 e3 e4 e5
 have HV : Hid (vlT ⟨4, n, c, y, l, r⟩ = if bty n 0 9999 then 0 else 3) := by show _ = _; rfl
 generalize vlT ⟨4, n, c, y, l, r⟩ = rv at *
 cases HB : bty n 0 9999 with
 | true =>
  have HR : Hid (rv = 0) := HV.out.trans (by rw [HB]; rfl)
  clear HV
  go_enter Tryz.func52, Tryz.ntmps52
  go_wp2_with (first | (go_at_call 46; refine (l1In_y _ _ _ _).mono ?_; rintro e w1 ⟨rfl, rfl⟩; rw [HB]))
  go_ret
  exact ⟨by rw [HR.out]; rfl, Below.refl _ _⟩
 | false =>
  have HR : Hid (rv = 3) := HV.out.trans (by rw [HB]; rfl)
  clear HV
  go_enter Tryz.func52, Tryz.ntmps52
  go_wp2_with (first | (go_at_call 46; refine (l1In_y _ _ _ _).mono ?_; rintro e w1 ⟨rfl, rfl⟩; rw [HB]))
  go_ret
  exact ⟨by rw [HR.out]; rfl, Below.refl _ _⟩
set_option maxHeartbeats 1600000 in
set_option maxRecDepth 100000 in
theorem l12Value_5 (n l r : Int) (c : List Int) (y : List YgP) (p : SlT) (g o : Nat) {lo : Nat} (w : World) (hs : IsTm lo w p ⟨5, n, c, y, l, r⟩)
  (hc : Tc6 w g o p ⟨5, n, c, y, l, r⟩) :
  Calls Tryz.prog 52 #[.pointer (some ⟨g, o, none⟩)] w fun e w' => e = .returned (.int .i64 (vlT ⟨5, n, c, y, l, r⟩)) ∧ Below w.heap.size w w' := by
 obtain ⟨⟨s1, m, c1⟩, ⟨s2, q, c2⟩⟩ := p
 unfold Tc6 at hc
 obtain ⟨e0, e1, e2, e3, e4, e5⟩ := hc
 dsimp only at e0 e1 e2 e3 e4 e5
 have HV : Hid (vlT ⟨5, n, c, y, l, r⟩ = if bty n 0 400 then 0 else 3) := by show _ = _; rfl
 generalize vlT ⟨5, n, c, y, l, r⟩ = rv at *
 cases HB : bty n 0 400 with
 | true =>
  have HR : Hid (rv = 0) := HV.out.trans (by rw [HB]; rfl)
  clear HV
  go_enter Tryz.func52, Tryz.ntmps52
  go_wp2_with (first | (go_at_call 46; refine (l1In_y _ _ _ _).mono ?_; rintro e w1 ⟨rfl, rfl⟩; rw [HB]))
  go_ret
  exact ⟨by rw [HR.out]; rfl, Below.refl _ _⟩
 | false =>
  have HR : Hid (rv = 3) := HV.out.trans (by rw [HB]; rfl)
  clear HV
  go_enter Tryz.func52, Tryz.ntmps52
  go_wp2_with (first | (go_at_call 46; refine (l1In_y _ _ _ _).mono ?_; rintro e w1 ⟨rfl, rfl⟩; rw [HB]))
  go_ret
  exact ⟨by rw [HR.out]; rfl, Below.refl _ _⟩
set_option maxHeartbeats 1600000 in
set_option maxRecDepth 100000 in
theorem l12Value_6 (n l r : Int) (c : List Int) (y : List YgP) (p : SlT) (g o : Nat) {lo : Nat} (w : World) (hs : IsTm lo w p ⟨6, n, c, y, l, r⟩)
  (hc : Tc6 w g o p ⟨6, n, c, y, l, r⟩) :
  Calls Tryz.prog 52 #[.pointer (some ⟨g, o, none⟩)] w fun e w' => e = .returned (.int .i64 (vlT ⟨6, n, c, y, l, r⟩)) ∧ Below w.heap.size w w' := by
 obtain ⟨⟨s1, m, c1⟩, ⟨s2, q, c2⟩⟩ := p
 unfold Tc6 at hc
 obtain ⟨e0, e1, e2, e3, e4, e5⟩ := hc
 dsimp only at e0 e1 e2 e3 e4 e5
 have HV : Hid (vlT ⟨6, n, c, y, l, r⟩ = if cdB c then 0 else 3) := by show _ = _; rfl
 generalize vlT ⟨6, n, c, y, l, r⟩ = rv at *
 have HC := l12Codes_any (s1, m, c1) c w hs.1
 dsimp only [slW] at HC
 go_enter Tryz.func52, Tryz.ntmps52
 go_wp2_with fail
 refine HC.mono ?_
 rintro e w1 ⟨rfl, hb1⟩
 cases hcd : cdB c with
 | true =>
  have HR : Hid (rv = 0) := HV.out.trans (by rw [hcd]; rfl)
  clear HV
  go_wp2
  go_ret
  exact ⟨by rw [HR.out]; rfl, hb1⟩
 | false =>
  have HR : Hid (rv = 3) := HV.out.trans (by rw [hcd]; rfl)
  clear HV
  go_wp2
  go_ret
  exact ⟨by rw [HR.out]; rfl, hb1⟩
set_option maxHeartbeats 1600000 in
set_option maxRecDepth 100000 in
theorem l12Value_7 (n l r : Int) (c : List Int) (y : List YgP) (p : SlT) (g o : Nat) {lo : Nat} (w : World) (hs : IsTm lo w p ⟨7, n, c, y, l, r⟩)
  (hc : Tc6 w g o p ⟨7, n, c, y, l, r⟩) :
  Calls Tryz.prog 52 #[.pointer (some ⟨g, o, none⟩)] w fun e w' => e = .returned (.int .i64 (vlT ⟨7, n, c, y, l, r⟩)) ∧ Below w.heap.size w w' := by
 obtain ⟨⟨s1, m, c1⟩, ⟨s2, q, c2⟩⟩ := p
 unfold Tc6 at hc
 obtain ⟨e0, e1, e2, e3, e4, e5⟩ := hc
 dsimp only at e0 e1 e2 e3 e4 e5
 have HV : Hid (vlT ⟨7, n, c, y, l, r⟩ = if cdB c then 0 else 3) := by show _ = _; rfl
 generalize vlT ⟨7, n, c, y, l, r⟩ = rv at *
 have HC := l12Codes_any (s1, m, c1) c w hs.1
 dsimp only [slW] at HC
 go_enter Tryz.func52, Tryz.ntmps52
 go_wp2_with fail
 refine HC.mono ?_
 rintro e w1 ⟨rfl, hb1⟩
 cases hcd : cdB c with
 | true =>
  have HR : Hid (rv = 0) := HV.out.trans (by rw [hcd]; rfl)
  clear HV
  go_wp2
  go_ret
  exact ⟨by rw [HR.out]; rfl, hb1⟩
 | false =>
  have HR : Hid (rv = 3) := HV.out.trans (by rw [hcd]; rfl)
  clear HV
  go_wp2
  go_ret
  exact ⟨by rw [HR.out]; rfl, hb1⟩
set_option maxHeartbeats 1600000 in
set_option maxRecDepth 100000 in
theorem l12Value_8 (n l r : Int) (c : List Int) (y : List YgP) (p : SlT) (g o : Nat) {lo : Nat} (w : World) (hs : IsTm lo w p ⟨8, n, c, y, l, r⟩) (hy : y.length ≤ 1048576)
  (hc : Tc6 w g o p ⟨8, n, c, y, l, r⟩) :
  Calls Tryz.prog 52 #[.pointer (some ⟨g, o, none⟩)] w fun e w' => e = .returned (.int .i64 (vlT ⟨8, n, c, y, l, r⟩)) ∧ Below w.heap.size w w' := by
 obtain ⟨⟨s1, m, c1⟩, ⟨s2, q, c2⟩⟩ := p
 unfold Tc6 at hc
 obtain ⟨e0, e1, e2, e3, e4, e5⟩ := hc
 dsimp only at e0 e1 e2 e3 e4 e5
 have HV : Hid (vlT ⟨8, n, c, y, l, r⟩ = rfV y) := by show _ = _; simp [vlT]
 generalize vlT ⟨8, n, c, y, l, r⟩ = rv at *
 have HC := l11Fault_any s2 q c2 y w hs.2.1 hs.2.2.2.2.1 (by have := hs.2.1; dsimp only at this; omega)
 go_enter Tryz.func52, Tryz.ntmps52
 go_wp2_with fail
 refine HC.mono ?_
 rintro e w1 ⟨rfl, hb1⟩
 go_wp2
 go_ret
 exact ⟨by rw [HV.out]; rfl, hb1⟩
set_option maxHeartbeats 1600000 in
set_option maxRecDepth 100000 in
theorem l12Value_o (k : Int) (n l r : Int) (c : List Int) (y : List YgP) (p : SlT) (g o : Nat) {lo : Nat} (w : World) (hs : IsTm lo w p ⟨k, n, c, y, l, r⟩) (hk : ¬ k = 2 ∧ ¬ k = 3 ∧ ¬ k = 4 ∧ ¬ k = 5 ∧ ¬ k = 6 ∧ ¬ k = 7 ∧ ¬ k = 8)
  (hc : Tc6 w g o p ⟨k, n, c, y, l, r⟩) :
  Calls Tryz.prog 52 #[.pointer (some ⟨g, o, none⟩)] w fun e w' => e = .returned (.int .i64 (vlT ⟨k, n, c, y, l, r⟩)) ∧ Below w.heap.size w w' := by
 obtain ⟨⟨s1, m, c1⟩, ⟨s2, q, c2⟩⟩ := p
 unfold Tc6 at hc
 obtain ⟨e0, e1, e2, e3, e4, e5⟩ := hc
 dsimp only at e0 e1 e2 e3 e4 e5
 have HR : Hid (vlT ⟨k, n, c, y, l, r⟩ = 0) := by show _ = _; have := hk; simp [vlT, bdT, hk]
 generalize vlT ⟨k, n, c, y, l, r⟩ = rv at *
 obtain ⟨k2, k3, k4, k5, k6, k7, k8⟩ := hk
 go_enter Tryz.func52, Tryz.ntmps52
 go_wp2
 go_ret
 exact ⟨by rw [HR.out]; rfl, Below.refl _ _⟩
theorem l12Value_any (t : TmR) (p : SlT) (g o : Nat) {lo : Nat} (w : World) (hs : IsTm lo w p t) (hf : FtU t) (hc : Tc6 w g o p t) :
  Calls Tryz.prog 52 #[.pointer (some ⟨g, o, none⟩)] w fun e w' => e = .returned (.int .i64 (vlT t)) ∧ Below w.heap.size w w' := by
 obtain ⟨k, n, c, y, l, r⟩ := t
 by_cases h2 : k = 2
 ·subst h2; exact l12Value_2 n l r c y p g o w hs hc
 by_cases h3 : k = 3
 ·subst h3; exact l12Value_3 n l r c y p g o w hs hc
 by_cases h4 : k = 4
 ·subst h4; exact l12Value_4 n l r c y p g o w hs hc
 by_cases h5 : k = 5
 ·subst h5; exact l12Value_5 n l r c y p g o w hs hc
 by_cases h6 : k = 6
 ·subst h6; exact l12Value_6 n l r c y p g o w hs hc
 by_cases h7 : k = 7
 ·subst h7; exact l12Value_7 n l r c y p g o w hs hc
 by_cases h8 : k = 8
 ·subst h8; exact l12Value_8 n l r c y p g o w hs hf.2 hc
 exact l12Value_o k n l r c y p g o w hs ⟨h2, h3, h4, h5, h6, h7, h8⟩ hc
end Go.Proofs.YtjogclofjollnaaGreatDoor
