/- The model's EncodeQuoted: of at most 400 bytes it answers their quoted text, of more the code 2; and so does the program's of more. -/
import Derived.Test.YtknbndebfickpaaGreatDoorEncQ2
namespace Go.Proofs.YtknbndebfickpaaGreatDoor
open Go.RowKit

/-- A byte of the list, held against what the model asks of it. -/
theorem selfL_at {l : List Nat} {k : Nat} : nth (l.drop k) 0 = nth l k ∧ nth (l.drop k) 1 = nth l (k + 1) := by
  rw [nth_drop, nth_drop]; exact ⟨rfl, rfl⟩

theorem quoted_cases (l : List Nat) (k n x : Nat) (hl : l.length = n) (hk : k < n) (hx : nth l k = x) :
    (selfL (l.drop k) = true ∧ (x = 10 ∨ ((x = 32 ∨ x = 9) ∧ k + 1 < n ∧ nth l (k + 1) ≠ 10) ∨ (33 ≤ x ∧ x ≤ 126 ∧ x ≠ 61))) ∨
    (selfL (l.drop k) = false ∧ (((x = 32 ∨ x = 9) ∧ k + 1 < n ∧ nth l (k + 1) = 10) ∨ ((x = 32 ∨ x = 9) ∧ ¬ k + 1 < n) ∨ (x ≠ 10 ∧ x ≠ 32 ∧ x ≠ 9 ∧ x < 33) ∨ 126 < x ∨ x = 61)) := by
  obtain ⟨e0, e1⟩ := selfL_at (l := l) (k := k)
  have hlen : (l.drop k).length = n - k := by simp [hl]
  by_cases h10 : x = 10
  · exact .inl ⟨selfL_lf (by omega), .inl h10⟩
  · by_cases hb : x = 32 ∨ x = 9
    · by_cases hn : k + 1 < n
      · by_cases hc : nth l (k + 1) = 10
        · exact .inr ⟨selfL_bl_no (by omega) (by rw [e1]; omega), .inl ⟨hb, hn, hc⟩⟩
        · exact .inl ⟨selfL_bl (by omega) (by omega) (by rw [e1]; exact hc), .inr (.inl ⟨hb, hn, hc⟩)⟩
      · exact .inr ⟨selfL_bl_no (by omega) (by omega), .inr (.inl ⟨hb, hn⟩)⟩
    · have hs := selfL_other (l := l.drop k) (by omega) (by omega)
      rw [e0, hx] at hs
      by_cases h : 33 ≤ x ∧ x ≤ 126 ∧ x ≠ 61
      · exact .inl ⟨hs.trans (decide_eq_true h), .inr (.inr h)⟩
      · exact .inr ⟨hs.trans (decide_eq_false h), by omega⟩

end Go.Proofs.YtknbndebfickpaaGreatDoor
