/- Whether a number is in a set, on both sides: at every set and all numbers; no conditions beyond those that each fact names. -/
import Derived.Test.YtlkfmgfblfkgbaaGreatDoorYin
namespace Go.Proofs.YtlkfmgfblfkgbaaGreatDoor
open Go.RowKit

/-- Whether a number is in a set. -/
def isY (l : List YgP) (n most : Int) : Bool := (rfV l == 0) && (bty most 1 999 && (bty n 1 most && inY l n most))
theorem rfV_A {l : List YgP} (h : rfV l = 0) : rfA l = true ∧ 1 ≤ l.length ∧ l.length ≤ 8 := by
  unfold rfV at h
  split at h
  · split at h
    · exact ⟨by assumption, by assumption⟩
    · omega
  · omega
theorem rfV_three (l : List YgP) : rfV l = 0 ∨ rfV l = 2 ∨ rfV l = 3 := by
  unfold rfV
  split
  · split
    · exact .inl rfl
    · exact .inr (.inr rfl)
  · exact .inr (.inl rfl)

end Go.Proofs.YtlkfmgfblfkgbaaGreatDoor
