/- The laws' own type of terms; no conditions. -/
import Derived.Test.YtaiificlempeaaaRows
import Derived.Test.YtaiificlempeaaaTmi
namespace Go.Proofs.Ytaiificlempeaaa
open Go.RowKit
theorem tmT : TmT Try.prog 61 := ⟨_, _, _, _, _, _, _, _, _, _, _, _, Try.underlying61, ⟨rfl, rfl, rfl, rfl, rfl, rfl⟩, ⟨rfl, rfl, rfl, rfl, rfl, rfl⟩, Try.underlying2, Try.underlying24, Try.underlying22, Try.underlying67, ⟨rfl, rfl, rfl, rfl⟩, by kernel_rfl, by kernel_rfl, by kernel_rfl, by kernel_rfl, by kernel_rfl⟩
end Go.Proofs.Ytaiificlempeaaa
