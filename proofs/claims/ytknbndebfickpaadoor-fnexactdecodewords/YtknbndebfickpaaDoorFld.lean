/- A field of a result that is held as a value: plain reading. -/
import Derived.Test.YtknbndebfickpaaDoorApp
namespace Go.Proofs.YtknbndebfickpaaDoor
open Go.RowKit

theorem fldB0 (x y : Value) (w : World) : (Instr.field 46 (.agg #[x, y]) 0).run Tryd.prog w = .ok x w := by
  simp [Instr.field, asAgg, go_sem]
theorem fldB1 (x y : Value) (w : World) : (Instr.field 46 (.agg #[x, y]) 1).run Tryd.prog w = .ok y w := by
  simp [Instr.field, asAgg, go_sem]
theorem fldT0 (x y : Value) (w : World) : (Instr.field 30 (.agg #[x, y]) 0).run Tryd.prog w = .ok x w := by
  simp [Instr.field, asAgg, go_sem]
theorem fldT1 (x y : Value) (w : World) : (Instr.field 30 (.agg #[x, y]) 1).run Tryd.prog w = .ok y w := by
  simp [Instr.field, asAgg, go_sem]
end Go.Proofs.YtknbndebfickpaaDoor
