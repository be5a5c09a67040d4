/- What EncodeWords tells: plain, of 400 bytes at most: plain functions, with no program in them. -/
import Derived.Test.YtknbndebfickpaaGreatDoorEwM
namespace Go.Proofs.YtknbndebfickpaaGreatDoor
open Go.RowKit

/-- What EncodeWords tells is plain. -/
theorem ew_plain (l : List Int) : ∀ x ∈ (ewV l).2, 1 ≤ x ∧ x ≤ 127 := by
  by_cases hz : (encT 4 l).1 = 0
  · obtain ⟨hf, he, hlen⟩ := encT_zero hz
    have hch := (flt_zero hf).2
    cases hs : sfV l with
    | true =>
      rw [ewV_self hz hs]
      have hs' := hs
      rw [sfV_eq, Bool.and_eq_true] at hs'
      intro x hx
      rw [he] at hx
      have hb := List.all_eq_true.1 ((flat_bos l hch).trans hs'.1) x hx
      have := of_decide_eq_true hb
      omega
    | false =>
      by_cases h4 : 400 < (toldW (encT 4 l).2).length
      · rw [ewV_many hz hs h4]; intro x hx; cases hx
      · rw [ewV_told hz hs h4]
        intro x hx
        unfold toldW at hx
        have hp := Xf.enc_plain (encT 4 l).2 (encT_isB hz)
        rcases List.mem_append.1 hx with hx | hx
        · rcases List.mem_append.1 hx with hx | hx
          · have : ∀ y ∈ twB, 1 ≤ y ∧ y ≤ 127 := by decide
            exact this x hx
          · have := hp x hx; omega
        · have : ∀ y ∈ ([63, 61] : List Nat), 1 ≤ y ∧ y ≤ 127 := by decide
          exact this x hx
  · rw [ewV_bad hz]; intro x hx; cases hx
theorem ew_len (l : List Int) : (ewV l).2.length ≤ 400 := by
  by_cases hz : (encT 4 l).1 = 0
  · cases hs : sfV l with
    | true => rw [ewV_self hz hs]; exact (encT_zero hz).2.2
    | false =>
      by_cases h4 : 400 < (toldW (encT 4 l).2).length
      · rw [ewV_many hz hs h4]; exact Nat.zero_le _
      · rw [ewV_told hz hs h4]; show (toldW (encT 4 l).2).length ≤ 400; omega
  · rw [ewV_bad hz]; exact Nat.zero_le _
theorem ew_isB (l : List Int) : IsB (ewV l).2 := fun x hx => by have := ew_plain l x hx; omega
end Go.Proofs.YtknbndebfickpaaGreatDoor
