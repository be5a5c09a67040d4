/- Told words, the model's: the place of a question mark, blanks and tabs. -/
import Derived.Test.YtknbndebfickpaaGreatDoorHdr
namespace Go.Proofs.YtknbndebfickpaaGreatDoor
open Go.RowKit

/-- How many bytes from a place on are such. -/
def runL (p : Nat → Bool) (t : List Nat) (i : Nat) : Nat := ((t.drop i).takeWhile p).length
theorem runL_step {p : Nat → Bool} {t : List Nat} {i : Nat} (h : i < t.length) (hc : p (nth t i) = true) : runL p t i = runL p t (i + 1) + 1 := by
  unfold runL
  rw [drop_cons t i h, List.takeWhile_cons, if_pos hc, List.length_cons]
theorem runL_here {p : Nat → Bool} {t : List Nat} {i : Nat} (h : i < t.length) (hc : p (nth t i) = false) : runL p t i = 0 := by
  unfold runL
  rw [drop_cons t i h, List.takeWhile_cons, if_neg (by rw [hc]; simp)]; rfl
theorem runL_end {p : Nat → Bool} {t : List Nat} {i : Nat} (h : t.length ≤ i) : runL p t i = 0 := by
  unfold runL
  rw [List.drop_eq_nil_of_le h]; rfl
/-- No question mark. -/
def noQu (c : Nat) : Bool := decide (c ≠ 63)
/-- A blank or a tab. -/
def gapB (c : Nat) : Bool := decide (c = 32 ∨ c = 9)
/-- The place of a question mark. -/
def mkV (t : List Nat) (i : Nat) : Int := if i + runL noQu t i < t.length then ((i + runL noQu t i : Nat) : Int) else -1
theorem mkV_step {t : List Nat} {i : Nat} (h : i < t.length) (hc : nth t i ≠ 63) : mkV t i = mkV t (i + 1) := by
  unfold mkV
  rw [runL_step h (by simp [noQu, hc]), show i + (runL noQu t (i + 1) + 1) = i + 1 + runL noQu t (i + 1) by omega]
theorem mkV_here {t : List Nat} {i : Nat} (h : i < t.length) (hc : nth t i = 63) : mkV t i = i := by
  unfold mkV
  rw [runL_here h (by simp [noQu, hc]), if_pos (by omega)]; rfl
theorem mkV_end {t : List Nat} {i : Nat} (h : t.length ≤ i) : mkV t i = -1 := by
  unfold mkV
  rw [runL_end h, if_neg (by omega)]

set_option maxHeartbeats 1600000 in
set_option maxRecDepth 100000 in
theorem l4Mark_any (t : List Nat) (n i : Nat) (w : World) (hl : t.length = n) (hB : IsB t) (hn : n ≤ 1048576) (hi : i ≤ 2097152) :
    Calls Tryz.prog 55 #[.string (str t), .int .i64 (i : Int)] w fun e w' => e = .returned (.int .i64 (mkV t i)) ∧ w = w' := by
  have hsz : (str t).size = n := by rw [str_size, hl]
  have HL : Hid (t.length = n) := hl
  clear hl
  go_enter Tryz.func55, Tryz.ntmps55
  go_wp2
  go_loop [5] (fun v => ∃ k : Nat, k ≤ n + 2097152 ∧ v = .int .i64 k ∧ Hid (mkV t i = mkV t k)) (fun v => n - (intOf v).toNat)
  case atStart => exact ⟨i, by omega, rfl, rfl⟩
  case round =>
    obtain ⟨k, hk, rfl, HA⟩ := hrel
    by_cases hkn : k < n
    · have hki : (k : Int) < (n : Int) := by omega
      have g0 := str_get hB (i := k) (by rw [hsz]; exact hkn)
      by_cases h10 : nth t k = 63
      · have HM : Hid (mkV t i = k) := HA.out.trans (mkV_here (by have := HL.out; omega) h10)
        rw [h10] at g0
        go_wp2
        go_ret
        exact ⟨by rw [HM.out]; rfl, rfl⟩
      · have HM : Hid (mkV t i = mkV t (k + 1)) := HA.out.trans (mkV_step (by have := HL.out; omega) h10)
        have h10' : ((nth t k : Int) == 63) = false := by simp; omega
        generalize nth t k = x at *
        go_wp2
        go_round
        case rel => exact ⟨k + 1, by omega, by go_num, HM⟩
        case measure => simp [intOf]; omega
    · have hki : ¬ (k : Int) < (n : Int) := by omega
      have HM : Hid (mkV t i = -1) := HA.out.trans (mkV_end (by have := HL.out; omega))
      go_wp2
      go_ret
      exact ⟨by rw [HM.out]; rfl, rfl⟩

set_option maxHeartbeats 1600000 in
set_option maxRecDepth 100000 in
theorem l4Gap_any (t : List Nat) (n i : Nat) (w : World) (hl : t.length = n) (hB : IsB t) (hn : n ≤ 1048576) (hi : i ≤ n) :
    Calls Tryz.prog 36 #[.string (str t), .int .i64 (i : Int)] w fun e w' => e = .returned (.int .i64 (runL gapB t i : Int)) ∧ w = w' := by
  have hsz : (str t).size = n := by rw [str_size, hl]
  have HL : Hid (t.length = n) := hl
  clear hl
  go_enter Tryz.func36, Tryz.ntmps36
  go_wp2
  go_loop [5] (fun v => ∃ k : Nat, i + k ≤ n ∧ v = .int .i64 k ∧ Hid (runL gapB t i = k + runL gapB t (i + k))) (fun v => n - (intOf v).toNat)
  case atStart => exact ⟨0, by omega, rfl, by show _ = _; rw [Nat.add_zero, Nat.zero_add]⟩
  case round =>
    obtain ⟨k, hk, rfl, HA⟩ := hrel
    by_cases hkn : i + k < n
    · have hki : (i : Int) + (k : Int) < (n : Int) := by omega
      have g0 := str_get hB (i := i + k) (by rw [hsz]; exact hkn)
      by_cases h10 : nth t (i + k) = 32 ∨ nth t (i + k) = 9
      · have HM : Hid (runL gapB t i = (k + 1) + runL gapB t (i + (k + 1))) := by
          show _ = _
          rw [HA.out, runL_step (by have := HL.out; omega) (by simp [gapB, h10]), show i + (k + 1) = i + k + 1 by omega]; omega
        rcases h10 with h | h
        all_goals
          rw [h] at g0
          go_wp2
          go_round
          case rel => exact ⟨k + 1, by omega, by go_num, HM⟩
          case measure => simp [intOf]; omega
      · have HM : Hid (runL gapB t i = k) := by
          show _ = _
          rw [HA.out, runL_here (by have := HL.out; omega) (by simp [gapB, h10])]; rfl
        have e1 : ((nth t (i + k) : Int) == 32) = false := by simp; omega
        have e2 : ((nth t (i + k) : Int) == 9) = false := by simp; omega
        generalize nth t (i + k) = x at *
        go_wp2
        go_ret
        exact ⟨by rw [HM.out]; rfl, rfl⟩
    · have hki : ¬ (i : Int) + (k : Int) < (n : Int) := by omega
      have HM : Hid (runL gapB t i = k) := by
        show _ = _
        rw [HA.out, runL_end (by have := HL.out; omega)]; rfl
      go_wp2
      go_ret
      exact ⟨by rw [HM.out]; rfl, rfl⟩
end Go.Proofs.YtknbndebfickpaaGreatDoor
