/- The laws' own type of ops; no conditions. -/
import Derived.Test.YthiieeblpefcpaaDoorRows
import Derived.Test.YthiieeblpefcpaaDoorOpp
namespace Go.Proofs.YthiieeblpefcpaaDoor
open Go.RowKit
theorem opT : OpT Tryd.prog 44 := ⟨_, _, _, _, _, _, _, _, _, _, _, _, _, Tryd.underlying44, ⟨rfl, rfl, rfl, rfl, rfl, rfl, rfl, rfl⟩, ⟨rfl, rfl, rfl, rfl, rfl, rfl, rfl, rfl⟩, Tryd.underlying2, Tryd.underlying9, Tryd.underlying36, Tryd.underlying22, Tryd.underlying5, by kernel_rfl, by kernel_rfl, by kernel_rfl, by kernel_rfl, by kernel_rfl, by kernel_rfl⟩
end Go.Proofs.YthiieeblpefcpaaDoor
