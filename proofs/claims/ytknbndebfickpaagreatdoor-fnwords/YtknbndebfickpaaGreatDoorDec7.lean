/- The program's and the model's DecodeText at once. -/
import Derived.Test.YtknbndebfickpaaGreatDoorDec4
import Derived.Test.YtknbndebfickpaaGreatDoorDec6
namespace Go.Proofs.YtknbndebfickpaaGreatDoor
open Go.RowKit

theorem decL_len (cs : Int) : ∀ (n : Nat) (l : List Nat) (u : List Int), l.length ≤ n → decL cs l = some u → u.length ≤ l.length := by
  intro n
  induction n with
  | zero =>
    intro l u hl h
    rw [decL_nil (by omega)] at h
    cases h
    exact Nat.zero_le _
  | succ n ih =>
    intro l u hl h
    by_cases h0 : l.length = 0
    · rw [decL_nil h0] at h
      cases h
      exact Nat.zero_le _
    · by_cases hs : (rdC cs l).2 = 0
      · rw [decL_none (by omega) hs] at h; cases h
      · rw [decL_step (c := (rdC cs l).1) (s := (rdC cs l).2) (by omega) hs rfl] at h
        cases hd : decL cs (l.drop (rdC cs l).2) with
        | none => rw [hd] at h; cases h
        | some v =>
          rw [hd] at h
          simp only [Option.map_some, Option.some.injEq] at h
          subst h
          have := ih _ _ (by rw [List.length_drop]; omega) hd
          rw [List.length_drop] at this
          rw [List.length_cons]
          omega
theorem decT_few (cs : Int) (l : List Nat) : (decT cs l).2.length ≤ 400 := by
  unfold decT
  split
  · split
    · simp
    · cases hd : decL cs l with
      | none => simp
      | some u =>
        have := decL_len cs l.length l u (Nat.le_refl _) hd
        simp only
        omega
  · simp
end Go.Proofs.YtknbndebfickpaaGreatDoor
