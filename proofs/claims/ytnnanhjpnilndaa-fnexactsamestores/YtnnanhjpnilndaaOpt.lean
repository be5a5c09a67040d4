/- The laws' own types of messages, mailboxes and stores; no conditions. -/
import Derived.Test.YtnnanhjpnilndaaRows
import Derived.Test.YtnnanhjpnilndaaOpm
namespace Go.Proofs.Ytnnanhjpnilndaa
open Go.RowKit
theorem msgT : MsgT Try.prog 24 := ⟨_, _, _, _, _, _, _, Try.underlying24, ⟨rfl, rfl, rfl, rfl⟩, ⟨rfl, rfl, rfl, rfl⟩, Try.underlying2, Try.underlying22, Try.underlying5, by kernel_rfl, by kernel_rfl, by kernel_rfl, by kernel_rfl⟩
theorem boxT : BoxT Try.prog 33 := ⟨_, _, _, _, _, _, _, _, Try.underlying33, ⟨rfl, rfl, rfl, rfl⟩, ⟨rfl, rfl, rfl, rfl⟩, Try.underlying9, Try.underlying2, Try.underlying31, msgT, by kernel_rfl, by kernel_rfl, by kernel_rfl, by kernel_rfl⟩
theorem stoT : StoT Try.prog 44 := ⟨_, _, _, _, _, Try.underlying44, ⟨rfl, rfl⟩, ⟨rfl, rfl⟩, Try.underlying2, Try.underlying42, boxT, by kernel_rfl, by kernel_rfl, by kernel_rfl⟩
end Go.Proofs.Ytnnanhjpnilndaa
