/- CodesFault, the program's and the model's, at every slice of at most 1048576 numbers: both by one plain function. -/
import Derived.Test.YtknbndebfickpaaGreatDoorAll
namespace Go.Proofs.YtknbndebfickpaaGreatDoor
open Go.RowKit

/-- The fault of some characters. -/
def flt (l : List Int) : Int := if 400 < l.length then 2 else if l.all chr then 0 else 3
theorem flt_many {l : List Int} (h : 400 < l.length) : flt l = 2 := if_pos h
theorem flt_ok {l : List Int} (h : ¬ 400 < l.length) (ha : l.all chr = true) : flt l = 0 := by unfold flt; rw [if_neg h, if_pos ha]
theorem flt_bad {l : List Int} (h : ¬ 400 < l.length) (ha : l.all chr = false) : flt l = 3 := by unfold flt; rw [if_neg h, ha]; rfl
theorem ret_intB {b b' : Int} {w w' : World} {n : Nat} (h : b = b') (hb : Below n w w') : Ending.returned (Value.int .i64 b) = .returned (.int .i64 b') ∧ Below n w w' := ⟨by rw [h], hb⟩

set_option maxHeartbeats 1600000 in
set_option maxRecDepth 100000 in
theorem codesFault_any (a : Option Addr) (n cap : Nat) (l : List Int) (w : World) (hl : l.length = n) (hr : RdI w a l) (hn : n ≤ 1048576) :
    Calls Tryz.prog 9 #[.slice a n cap] w fun e w' => e = .returned (.int .i64 (flt l)) ∧ Below w.heap.size w w' := by
  by_cases h4 : 400 < n
  · have h4' : (400 : Int) < (n : Int) := by omega
    rw [flt_many (by omega)]
    go_enter Tryz.func9, Tryz.ntmps9
    go_wp2
    go_ret
    exact ret_intB rfl (Below.refl _ _)
  · have h4' : ¬ (400 : Int) < (n : Int) := by omega
    cases ha : l.all chr with
    | true =>
      rw [flt_ok (by omega) ha]
      go_enter Tryz.func9, Tryz.ntmps9
      go_wp2_with (first | (go_at_call 21; refine (areAll_char a n cap l _ hl hr hn).mono ?_; rintro e w' ⟨rfl, hb⟩; rw [ha]))
      go_ret
      exact ret_intB rfl hb
    | false =>
      rw [flt_bad (by omega) ha]
      go_enter Tryz.func9, Tryz.ntmps9
      go_wp2_with (first | (go_at_call 21; refine (areAll_char a n cap l _ hl hr hn).mono ?_; rintro e w' ⟨rfl, hb⟩; rw [ha]))
      go_ret
      exact ret_intB rfl hb

set_option maxHeartbeats 1600000 in
set_option maxRecDepth 100000 in
theorem l2Fault_any (a : Option Addr) (n cap : Nat) (l : List Int) (w : World) (hl : l.length = n) (hr : RdI w a l) (hn : n ≤ 1048576) :
    Calls Tryz.prog 29 #[.slice a n cap] w fun e w' => e = .returned (.int .i64 (flt l)) ∧ Below w.heap.size w w' := by
  by_cases h4 : 400 < n
  · have h4' : (400 : Int) < (n : Int) := by omega
    rw [flt_many (by omega)]
    go_enter Tryz.func29, Tryz.ntmps29
    go_wp2
    go_ret
    exact ret_intB rfl (Below.refl _ _)
  · have h4' : ¬ (400 : Int) < (n : Int) := by omega
    go_enter Tryz.func29, Tryz.ntmps29
    go_wp2
    go_loop [3] (fun v3 => ∃ k : Nat, k ≤ n ∧ v3 = .int .i64 k ∧ (l.take k).all chr = true) (fun v3 => n - (intOf v3).toNat)
    case atStart => exact ⟨0, Nat.zero_le _, rfl, by simp⟩
    case round =>
      obtain ⟨k, hk, rfl, hall⟩ := hrel
      by_cases hkn : k < n
      · obtain ⟨b, off, rfl, hblt, hcell⟩ := hr.at_ (by omega)
        have hc := hcell k (by omega)
        have HS : Hid (chr (nthI l k) = true → (l.take (k + 1)).all chr = true) := fun hb => all_step (by omega) hall hb
        have HF : Hid (chr (nthI l k) = false → flt l = 3) := fun hb => flt_bad (by omega) (all_bad (by omega) hb)
        clear hcell hr hall
        generalize nthI l k = x at *
        cases hp : chr x with
        | true =>
          have hall' := HS.out hp
          go_wp2_with (first | (go_at_call 45; refine (l2Char_any _ _).mono ?_; rintro e w' ⟨rfl, rfl⟩; rw [hp]))
          go_round
          case rel => exact ⟨k + 1, by omega, by go_num, hall'⟩
          case measure => simp [intOf]; omega
        | false =>
          clear HS
          go_wp2_with (first | (go_at_call 45; refine (l2Char_any _ _).mono ?_; rintro e w' ⟨rfl, rfl⟩; rw [hp]))
          go_ret
          exact ⟨by rw [HF.out hp]; rfl, Below.refl _ _⟩
      · have hkk : k = n := by omega
        subst hkk
        have HA : Hid (flt l = 0) := flt_ok (by omega) (all_end hl hall)
        go_wp2
        go_ret
        exact ⟨by rw [HA.out]; rfl, Below.refl _ _⟩

end Go.Proofs.YtknbndebfickpaaGreatDoor
