/- The laws' own type of terms; no conditions. -/
import Derived.Test.YtnhgcanennnocaaRows
import Derived.Test.YtnhgcanennnocaaTmi
namespace Go.Proofs.Ytnhgcanennnocaa
open Go.RowKit
theorem tmT : TmT Try.prog 34 := ⟨_, _, _, _, _, _, _, _, _, _, _, _, Try.underlying34, ⟨rfl, rfl, rfl, rfl, rfl, rfl⟩, ⟨rfl, rfl, rfl, rfl, rfl, rfl⟩, Try.underlying2, Try.underlying31, Try.underlying32, Try.underlying71, ⟨rfl, rfl, rfl, rfl⟩, by kernel_rfl, by kernel_rfl, by kernel_rfl, by kernel_rfl, by kernel_rfl⟩
end Go.Proofs.Ytnhgcanennnocaa
