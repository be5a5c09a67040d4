/- The laws' helpers over slices of ops: their size, a copy, whether two are the same; no conditions beyond those that each fact names. -/
import Derived.Test.YtaiificlempeaaaOsb
namespace Go.Proofs.Ytaiificlempeaaa
open Go.RowKit

/-- What the laws let through. -/
def FtOs (l : List OpR) : Prop := l.length ≤ 1048576 ∧ ∀ i, i < l.length → FtO (nthO l i)

abbrev zOp : Oc := ⟨.int .i64 0, .string ByteArray.empty, .string ByteArray.empty, .slice none 0 0, .int .i64 0, .int .i64 0, .int .i64 0, .slice none 0 0⟩

end Go.Proofs.Ytaiificlempeaaa
