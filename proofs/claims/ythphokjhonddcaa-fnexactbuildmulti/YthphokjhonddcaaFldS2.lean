/- More of the laws' helpers over slices of fields: a slice's size, and whether two are the same. -/
import Derived.Test.YthphokjhonddcaaFldS
namespace Go.Proofs.Ythphokjhonddcaa
open Go.RowKit

/-- How the reckoning of a field's size ends. -/
def SzEnd (left : Int) (x y : ByteArray) (w : World) (e : Ending) (w' : World) : Prop := ∃ r : Int, e = .returned (.int .i64 r) ∧ (r = -1 ∨ 0 ≤ r ∧ r ≤ left ∧ x.size ≤ 1048576 ∧ y.size ≤ 1048576) ∧ Below w.heap.size w w'

/-- How the reckoning of a slice's size ends. -/
def SzsEnd (n : Nat) (l : List FldP) (w : World) (e : Ending) (w' : World) : Prop := ∃ r : Int, e = .returned (.int .i64 r) ∧ (r = -1 ∨ 0 ≤ r ∧ n ≤ 1048576 ∧ ∀ p ∈ l, p.1.size ≤ 1048576 ∧ p.2.size ≤ 1048576) ∧ Below w.heap.size w w'

end Go.Proofs.Ythphokjhonddcaa
