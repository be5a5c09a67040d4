/- The laws' own type of commands; no conditions. -/
import Derived.Test.YtaiificlempeaaaRows
import Derived.Test.YtaiificlempeaaaCmi
import Derived.Test.YtaiificlempeaaaTmu
namespace Go.Proofs.Ytaiificlempeaaa
open Go.RowKit
theorem cmT : CmT Try.prog 27 := ⟨_, _, _, _, _, _, _, _, _, _, _, _, _, _, _, _, _, _, _, _, _, _, _, _, _, _, Try.underlying27, ⟨rfl, rfl, rfl, rfl, rfl, rfl, rfl, rfl, rfl, rfl, rfl, rfl, rfl, rfl⟩, ⟨rfl, rfl, rfl, rfl, rfl, rfl, rfl, rfl, rfl, rfl, rfl, rfl, rfl, rfl⟩, Try.underlying2, Try.underlying9, Try.underlying4, Try.underlying24, Try.underlying23, Try.underlying5, Try.underlying22, Try.underlying67, ⟨rfl, rfl, rfl, rfl⟩, Try.underlying25, tmT, ⟨by kernel_rfl, by kernel_rfl, by kernel_rfl, by kernel_rfl, by kernel_rfl, by kernel_rfl, by kernel_rfl, by kernel_rfl, by kernel_rfl, by kernel_rfl⟩⟩
end Go.Proofs.Ytaiificlempeaaa
