/- DecodeQuoted, the model's, at every text: the bytes of its quoted text, or a code; texts of whatever length. -/
import Derived.Test.YtknbndebfickpaaGreatDoorDecQ2
import Derived.Test.YtknbndebfickpaaGreatDoorEncQ3
namespace Go.Proofs.YtknbndebfickpaaGreatDoor
open Go.RowKit

/-- The value of a digit, or -1. -/
def hexI (c : Nat) : Int := if Xq.unhex c < 16 then (Xq.unhex c : Int) else -1
theorem hexI_in {c : Nat} (h : Xq.unhex c < 16) : hexI c = (Xq.unhex c : Int) := if_pos h
theorem hexI_out {c : Nat} (h : ¬ Xq.unhex c < 16) : hexI c = -1 := if_neg h

set_option maxHeartbeats 800000 in
set_option maxRecDepth 100000 in
theorem l1HexValue_any (c : Nat) (w : World) (hc : c < 256) : Calls Tryz.prog 88 #[.int .u8 (c : Int)] w fun e w' => e = .returned (.int .i64 (hexI c)) ∧ w = w' := by
  by_cases h1 : 48 ≤ c
  · have h1' : (48 : Int) ≤ (c : Int) := by omega
    by_cases h2 : c ≤ 57
    · have h2' : (c : Int) ≤ 57 := by omega
      have hu : Xq.unhex c = c - 48 := by unfold Xq.unhex; rw [if_pos ⟨h1, h2⟩]
      have H : Hid (hexI c = (c : Int) - 48) := by
        show _ = _
        rw [hexI_in (by omega), hu]; omega
      clear hu
      go_enter Tryz.func88, Tryz.ntmps88
      go_wp2
      go_ret
      exact ⟨by rw [H.out]; rfl, rfl⟩
    · have h2' : ¬ (c : Int) ≤ 57 := by omega
      by_cases h3 : 65 ≤ c
      · have h3' : (65 : Int) ≤ (c : Int) := by omega
        by_cases h4 : c ≤ 70
        · have h4' : (c : Int) ≤ 70 := by omega
          have hu : Xq.unhex c = c - 55 := by unfold Xq.unhex; rw [if_neg (by omega), if_pos ⟨h3, h4⟩]
          have H : Hid (hexI c = (c : Int) - 65 + 10) := by
            show _ = _
            rw [hexI_in (by omega), hu]; omega
          clear hu
          go_enter Tryz.func88, Tryz.ntmps88
          go_wp2
          go_ret
          exact ⟨by rw [H.out]; rfl, rfl⟩
        · have h4' : ¬ (c : Int) ≤ 70 := by omega
          have H : Hid (hexI c = -1) := hexI_out (by unfold Xq.unhex; rw [if_neg (by omega), if_neg (by omega)]; omega)
          go_enter Tryz.func88, Tryz.ntmps88
          go_wp2
          go_ret
          exact ⟨by rw [H.out]; rfl, rfl⟩
      · have h3' : ¬ (65 : Int) ≤ (c : Int) := by omega
        have H : Hid (hexI c = -1) := hexI_out (by unfold Xq.unhex; rw [if_neg (by omega), if_neg (by omega)]; omega)
        go_enter Tryz.func88, Tryz.ntmps88
        go_wp2
        go_ret
        exact ⟨by rw [H.out]; rfl, rfl⟩
  · have h1' : ¬ (48 : Int) ≤ (c : Int) := by omega
    have h3' : ¬ (65 : Int) ≤ (c : Int) := by omega
    have H : Hid (hexI c = -1) := hexI_out (by unfold Xq.unhex; rw [if_neg (by omega), if_neg (by omega)]; omega)
    go_enter Tryz.func88, Tryz.ntmps88
    go_wp2
    go_ret
    exact ⟨by rw [H.out]; rfl, rfl⟩

/-- May a blank stand at a place of a text? -/
def blk (t : List Nat) (i : Nat) : Bool := decide ((nth t i = 32 ∨ nth t i = 9) ∧ i + 1 < t.length ∧ nth t (i + 1) ≠ 10)

end Go.Proofs.YtknbndebfickpaaGreatDoor
