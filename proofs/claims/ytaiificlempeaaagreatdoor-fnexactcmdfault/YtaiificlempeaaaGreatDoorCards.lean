/-
  DERIVED. GIVEN WITH THE SEED: THE CARDS: each row of YtaiificlempeaaaGreatDoorRows.lean that lists a variable, with what it lists TIED to the program's text (the seventh form; the later family's looks); each row that meets fmt, with fmt's text TOLD by the authors' own Lean function (tested against real Go, not proved from fmt's source: count such statements apart). THE CARD IS WHAT COUNTS. Prove the row's statement (the work); the ties are given (YtaiificlempeaaaGreatDoorTie.lean); close each card by the builder's one call (the guide's Derived/Test/ToyasCard.lean, 'card_holds'). Laid BY PROGRAM, IN A SANDBOX (cutbox-door.mjs). By AI agents, Wed Nov 11 2026. No macro, syntax, notation, axiom, sorry.
-/
import Derived.Test.YtaiificlempeaaaGreatDoorRows
import GoSem.ClaimSeven
namespace Go.Proofs.YtaiificlempeaaaGreatDoor
namespace Rows

/-- THE TIED CARD OF 'laws.FnExactCmdFault'. -/
def fnExactCmdFaultCard : Claim7 := { stood := { row := fnExactCmdFaultRow, standIns := [], harness := (true, "23d7c3b6cac8486409cf21d8c856490f0092cb4585c1c7a6beed84db1753a847"), looks := true }, kinds := [], alts := [], laidByText := true, laidKinds := [.handle, .data], laidTests := true, laidLooks := .later }
def FnExactCmdFaultCardSaid : Prop := Claim7.holds Tryz.pinned (.plain (OpenSpec.ofChange fnExactCmdFaultSpec)) fnExactCmdFaultCard

/-- THE SECOND FORM's CARD OF 'laws.FnExactCmdFault'. -/
def fnExactCmdFaultUptoCard : Claim7 := { stood := { row := fnExactCmdFaultUptoRow, standIns := [], harness := (true, "23d7c3b6cac8486409cf21d8c856490f0092cb4585c1c7a6beed84db1753a847"), looks := true }, kinds := [], alts := [], laidByText := true, laidKinds := [.handle, .data], laidTests := true, laidLooks := .later }
def FnExactCmdFaultUptoCardSaid : Prop := Claim7.holds Tryz.pinned (.plain (OpenSpec.upto fnExactCmdFaultSpec)) fnExactCmdFaultUptoCard
end Rows
end Go.Proofs.YtaiificlempeaaaGreatDoor
