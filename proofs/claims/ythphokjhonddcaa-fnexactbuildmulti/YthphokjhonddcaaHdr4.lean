/- The lines of a header, the model's: where a line ends, what a line is. -/
import Derived.Test.YthphokjhonddcaaHdr3
namespace Go.Proofs.Ythphokjhonddcaa
open Go.RowKit

/-- A byte that ends no line. -/
def noLf (c : Nat) : Bool := decide (c ≠ 10)
/-- Where a line ends. -/
def eoL (l : List Nat) (i : Nat) : Nat := i + ((l.drop i).takeWhile noLf).length
theorem eoL_step {l : List Nat} {i : Nat} (h : i < l.length) (hc : nth l i ≠ 10) : eoL l i = eoL l (i + 1) := by
  unfold eoL
  rw [drop_cons l i h, List.takeWhile_cons, if_pos (by simp [noLf, hc]), List.length_cons]; omega
theorem eoL_here {l : List Nat} {i : Nat} (h : i < l.length) (hc : nth l i = 10) : eoL l i = i := by
  unfold eoL
  rw [drop_cons l i h, List.takeWhile_cons, if_neg (by simp [noLf, hc])]; rfl
theorem eoL_end {l : List Nat} {i : Nat} (h : l.length ≤ i) : eoL l i = i := by
  unfold eoL
  rw [List.drop_eq_nil_of_le h]; rfl
theorem eoL_ge (l : List Nat) (i : Nat) : i ≤ eoL l i := by unfold eoL; omega
theorem eoL_le {l : List Nat} {i : Nat} (h : i ≤ l.length) : eoL l i ≤ l.length := by
  unfold eoL
  have := (List.takeWhile_sublist noLf (l := l.drop i)).length_le
  rw [List.length_drop] at this; omega

end Go.Proofs.Ythphokjhonddcaa
