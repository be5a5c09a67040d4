/- A slice of fields of the call's own: a value that is written into it. -/
import Derived.Test.YthphokjhonddcaaAppF
import Derived.Laws.Rows
namespace Go.Proofs.Ythphokjhonddcaa
open Go.RowKit

theorem fc_setV : ∀ (l : List FldP) (i : Nat) (y : ByteArray), i < l.length → (fc l).set (i * 2 + 1) (.string y) = fc (l.set i ((nthF l i).1, y))
  | [], _, _, h => by simp at h
  | p :: l, 0, y, _ => rfl
  | p :: l, i + 1, y, h => by
    have := fc_setV l i y (by simpa using h)
    rw [fc_cons, show (i + 1) * 2 + 1 = (i * 2 + 1) + 1 + 1 by omega, List.set_cons_succ, List.set_cons_succ, this, List.set_cons_succ, fc_cons]
    rfl
end Go.Proofs.Ythphokjhonddcaa
