/- The laws' own type of ops; no conditions. -/
import Derived.Test.YtilepbbcinbmhaaDoorRows
import Derived.Test.YtilepbbcinbmhaaDoorOpp
namespace Go.Proofs.YtilepbbcinbmhaaDoor
open Go.RowKit
theorem opT : OpT Tryd.prog 49 := ⟨_, _, _, _, _, _, _, _, _, _, _, _, _, Tryd.underlying49, ⟨rfl, rfl, rfl, rfl, rfl, rfl, rfl, rfl⟩, ⟨rfl, rfl, rfl, rfl, rfl, rfl, rfl, rfl⟩, Tryd.underlying2, Tryd.underlying9, Tryd.underlying47, Tryd.underlying22, Tryd.underlying5, by kernel_rfl, by kernel_rfl, by kernel_rfl, by kernel_rfl, by kernel_rfl, by kernel_rfl⟩
end Go.Proofs.YtilepbbcinbmhaaDoor
