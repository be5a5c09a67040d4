/- The laws' own types of messages, mailboxes and stores; no conditions. -/
import Derived.Test.YtmidjgpegdodcaaDoorRows
import Derived.Test.YtmidjgpegdodcaaDoorOpm
namespace Go.Proofs.YtmidjgpegdodcaaDoor
open Go.RowKit
theorem msgT : MsgT Tryd.prog 89 := ⟨_, _, _, _, _, _, _, Tryd.underlying89, ⟨rfl, rfl, rfl, rfl⟩, ⟨rfl, rfl, rfl, rfl⟩, Tryd.underlying2, Tryd.underlying58, Tryd.underlying5, by kernel_rfl, by kernel_rfl, by kernel_rfl, by kernel_rfl⟩
theorem boxT : BoxT Tryd.prog 51 := ⟨_, _, _, _, _, _, _, _, Tryd.underlying51, ⟨rfl, rfl, rfl, rfl⟩, ⟨rfl, rfl, rfl, rfl⟩, Tryd.underlying9, Tryd.underlying2, Tryd.underlying49, msgT, by kernel_rfl, by kernel_rfl, by kernel_rfl, by kernel_rfl⟩
theorem stoT : StoT Tryd.prog 24 := ⟨_, _, _, _, _, Tryd.underlying24, ⟨rfl, rfl⟩, ⟨rfl, rfl⟩, Tryd.underlying2, Tryd.underlying22, boxT, by kernel_rfl, by kernel_rfl, by kernel_rfl⟩
end Go.Proofs.YtmidjgpegdodcaaDoor
