/- The laws' own type of ops; no conditions. -/
import Derived.Test.YtlmbieclgkpofaaDoorRows
import Derived.Test.YtlmbieclgkpofaaDoorOpp
namespace Go.Proofs.YtlmbieclgkpofaaDoor
open Go.RowKit
theorem opT : OpT Tryd.prog 25 := ⟨_, _, _, _, _, _, _, _, _, _, _, _, _, Tryd.underlying25, ⟨rfl, rfl, rfl, rfl, rfl, rfl, rfl, rfl⟩, ⟨rfl, rfl, rfl, rfl, rfl, rfl, rfl, rfl⟩, Tryd.underlying2, Tryd.underlying9, Tryd.underlying22, Tryd.underlying23, Tryd.underlying5, by kernel_rfl, by kernel_rfl, by kernel_rfl, by kernel_rfl, by kernel_rfl, by kernel_rfl⟩
end Go.Proofs.YtlmbieclgkpofaaDoor
