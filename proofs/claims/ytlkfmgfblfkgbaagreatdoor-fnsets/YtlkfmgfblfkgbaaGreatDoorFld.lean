/- A field of a result that is held as a value: plain reading. -/
import Derived.Test.YtlkfmgfblfkgbaaGreatDoorApp
namespace Go.Proofs.YtlkfmgfblfkgbaaGreatDoor
open Go.RowKit

theorem fldT0 (x y : Value) (w : World) : (Instr.field 30 (.agg #[x, y]) 0).run Tryz.prog w = .ok x w := by
  simp [Instr.field, asAgg, go_sem]
theorem fldT1 (x y : Value) (w : World) : (Instr.field 30 (.agg #[x, y]) 1).run Tryz.prog w = .ok y w := by
  simp [Instr.field, asAgg, go_sem]
end Go.Proofs.YtlkfmgfblfkgbaaGreatDoor
