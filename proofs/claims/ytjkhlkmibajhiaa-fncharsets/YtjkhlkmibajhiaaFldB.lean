/- A field of a result that is held as a value: plain reading. -/
import Derived.Test.YtjkhlkmibajhiaaBytI
namespace Go.Proofs.Ytjkhlkmibajhiaa
open Go.RowKit

theorem fldC0 (x y : Value) (w : World) : (Instr.field 28 (.agg #[x, y]) 0).run Try.prog w = .ok x w := by
  simp [Instr.field, asAgg, go_sem]
theorem fldC1 (x y : Value) (w : World) : (Instr.field 28 (.agg #[x, y]) 1).run Try.prog w = .ok y w := by
  simp [Instr.field, asAgg, go_sem]
theorem fldB0 (x y : Value) (w : World) : (Instr.field 32 (.agg #[x, y]) 0).run Try.prog w = .ok x w := by
  simp [Instr.field, asAgg, go_sem]
theorem fldB1 (x y : Value) (w : World) : (Instr.field 32 (.agg #[x, y]) 1).run Try.prog w = .ok y w := by
  simp [Instr.field, asAgg, go_sem]
end Go.Proofs.Ytjkhlkmibajhiaa
