/- DecodeQuoted, the model's, at every text: the bytes of its quoted text, or a code; texts of whatever length. -/
import Derived.Test.YtdidjgpgpknknaaDoorDecQ2
import Derived.Test.YtdidjgpgpknknaaDoorEncQ3
namespace Go.Proofs.YtdidjgpgpknknaaDoor
open Go.RowKit

/-- The value of a digit, or -1. -/
def hexI (c : Nat) : Int := if Xq.unhex c < 16 then (Xq.unhex c : Int) else -1
theorem hexI_in {c : Nat} (h : Xq.unhex c < 16) : hexI c = (Xq.unhex c : Int) := if_pos h
theorem hexI_out {c : Nat} (h : ¬ Xq.unhex c < 16) : hexI c = -1 := if_neg h

set_option maxHeartbeats 800000 in
set_option maxRecDepth 100000 in
theorem l1HexValue_any (c : Nat) (w : World) (hc : c < 256) : Calls Tryd.prog 65 #[.int .u8 (c : Int)] w fun e w' => e = .returned (.int .i64 (hexI c)) ∧ w = w' := by
  by_cases h1 : 48 ≤ c
  · have h1' : (48 : Int) ≤ (c : Int) := by omega
    by_cases h2 : c ≤ 57
    · have h2' : (c : Int) ≤ 57 := by omega
      have hu : Xq.unhex c = c - 48 := by unfold Xq.unhex; rw [if_pos ⟨h1, h2⟩]
      have H : Hid (hexI c = (c : Int) - 48) := by
        show _ = _
        rw [hexI_in (by omega), hu]; omega
      clear hu
      go_enter Tryd.func65, Tryd.ntmps65
      go_wp2
      go_ret
      exact ⟨by rw [H.out]; rfl, rfl⟩
    · have h2' : ¬ (c : Int) ≤ 57 := by omega
      by_cases h3 : 65 ≤ c
      · have h3' : (65 : Int) ≤ (c : Int) := by omega
        by_cases h4 : c ≤ 70
        · have h4' : (c : Int) ≤ 70 := by omega
          have hu : Xq.unhex c = c - 55 := by unfold Xq.unhex; rw [if_neg (by omega), if_pos ⟨h3, h4⟩]
          have H : Hid (hexI c = (c : Int) - 65 + 10) := by
            show _ = _
            rw [hexI_in (by omega), hu]; omega
          clear hu
          go_enter Tryd.func65, Tryd.ntmps65
          go_wp2
          go_ret
          exact ⟨by rw [H.out]; rfl, rfl⟩
        · have h4' : ¬ (c : Int) ≤ 70 := by omega
          have H : Hid (hexI c = -1) := hexI_out (by unfold Xq.unhex; rw [if_neg (by omega), if_neg (by omega)]; omega)
          go_enter Tryd.func65, Tryd.ntmps65
          go_wp2
          go_ret
          exact ⟨by rw [H.out]; rfl, rfl⟩
      · have h3' : ¬ (65 : Int) ≤ (c : Int) := by omega
        have H : Hid (hexI c = -1) := hexI_out (by unfold Xq.unhex; rw [if_neg (by omega), if_neg (by omega)]; omega)
        go_enter Tryd.func65, Tryd.ntmps65
        go_wp2
        go_ret
        exact ⟨by rw [H.out]; rfl, rfl⟩
  · have h1' : ¬ (48 : Int) ≤ (c : Int) := by omega
    have h3' : ¬ (65 : Int) ≤ (c : Int) := by omega
    have H : Hid (hexI c = -1) := hexI_out (by unfold Xq.unhex; rw [if_neg (by omega), if_neg (by omega)]; omega)
    go_enter Tryd.func65, Tryd.ntmps65
    go_wp2
    go_ret
    exact ⟨by rw [H.out]; rfl, rfl⟩

/-- May a blank stand at a place of a text? -/
def blk (t : List Nat) (i : Nat) : Bool := decide ((nth t i = 32 ∨ nth t i = 9) ∧ i + 1 < t.length ∧ nth t (i + 1) ≠ 10)

set_option maxHeartbeats 1600000 in
set_option maxRecDepth 100000 in
theorem l1Blank_any (t : List Nat) (n i : Nat) (w : World) (hl : t.length = n) (hB : IsB t) (hi : i < n) (hn : n ≤ 1048576) :
    Calls Tryd.prog 64 #[.string (str t), .int .i64 (i : Int)] w fun e w' => e = .returned (.bool (blk t i)) ∧ w = w' := by
  have hsz : (str t).size = n := by rw [str_size, hl]
  have g0 := str_get hB (i := i) (by rw [hsz]; exact hi)
  have hi' : (i : Int) < (n : Int) := by omega
  by_cases h32 : nth t i = 32 ∨ nth t i = 9
  · by_cases hn1 : i + 1 < n
    · have g1 := str_get hB (i := i + 1) (by rw [hsz]; exact hn1)
      have hn1' : (i : Int) + 1 < (n : Int) := by omega
      by_cases hc : nth t (i + 1) = 10
      · have H : Hid (blk t i = false) := decide_eq_false (fun h => h.2.2 hc)
        rw [hc] at g1
        rcases h32 with h | h
        all_goals
          rw [h] at g0
          go_enter Tryd.func64, Tryd.ntmps64
          go_wp2
          go_ret
          exact ⟨by rw [H.out]; rfl, rfl⟩
      · have H : Hid (blk t i = true) := decide_eq_true ⟨h32, by omega, hc⟩
        have ec : (((nth t (i + 1) : Nat) : Int) == 10) = false := beq_eq_false_iff_ne.2 (by omega)
        rcases h32 with h | h
        all_goals
          rw [h] at g0
          go_enter Tryd.func64, Tryd.ntmps64
          go_wp2
          go_ret
          exact ⟨by rw [H.out]; simp; omega, rfl⟩
    · have H : Hid (blk t i = false) := decide_eq_false (fun h => hn1 (by omega))
      have hn1' : ¬ (i : Int) + 1 < (n : Int) := by omega
      rcases h32 with h | h
      all_goals
        rw [h] at g0
        go_enter Tryd.func64, Tryd.ntmps64
        go_wp2
        go_ret
        exact ⟨by rw [H.out]; rfl, rfl⟩
  · have H : Hid (blk t i = false) := decide_eq_false (fun h => h32 h.1)
    have e1 : (((nth t i : Nat) : Int) == 32) = false := beq_eq_false_iff_ne.2 (by omega)
    have e2 : (((nth t i : Nat) : Int) == 9) = false := beq_eq_false_iff_ne.2 (by omega)
    go_enter Tryd.func64, Tryd.ntmps64
    go_wp2
    go_ret
    exact ⟨by rw [H.out]; rfl, rfl⟩
end Go.Proofs.YtdidjgpgpknknaaDoor
