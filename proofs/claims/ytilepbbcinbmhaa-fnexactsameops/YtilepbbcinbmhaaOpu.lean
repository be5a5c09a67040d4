/- The laws' own type of ops; no conditions. -/
import Derived.Test.YtilepbbcinbmhaaRows
import Derived.Test.YtilepbbcinbmhaaOpp
namespace Go.Proofs.Ytilepbbcinbmhaa
open Go.RowKit
theorem opT : OpT Try.prog 32 := ⟨_, _, _, _, _, _, _, _, _, _, _, _, _, Try.underlying32, ⟨rfl, rfl, rfl, rfl, rfl, rfl, rfl, rfl⟩, ⟨rfl, rfl, rfl, rfl, rfl, rfl, rfl, rfl⟩, Try.underlying2, Try.underlying9, Try.underlying29, Try.underlying30, Try.underlying5, by kernel_rfl, by kernel_rfl, by kernel_rfl, by kernel_rfl, by kernel_rfl, by kernel_rfl⟩
end Go.Proofs.Ytilepbbcinbmhaa
