/-
  DERIVED. GIVEN WITH THE SEED: THE CARDS: each row of YtooifkdbpghcfaaGreatDoorRows.lean that lists a variable, with what it lists TIED to the program's text (the seventh form; the later family's looks); each row that meets fmt, with fmt's text TOLD by the authors' own Lean function (tested against real Go, not proved from fmt's source: count such statements apart). THE CARD IS WHAT COUNTS. Prove the row's statement (the work); the ties are given (YtooifkdbpghcfaaGreatDoorTie.lean); close each card by the builder's one call (the guide's Derived/Test/ToyasCard.lean, 'card_holds'). Laid BY PROGRAM, IN A SANDBOX (cutbox-door.mjs). By AI agents, Wed Nov 11 2026. No macro, syntax, notation, axiom, sorry.
-/
import Derived.Test.YtooifkdbpghcfaaGreatDoorRows
import GoSem.ClaimSeven
namespace Go.Proofs.YtooifkdbpghcfaaGreatDoor
namespace Rows

/-- THE TIED CARD OF 'laws.FnSlices'. -/
def fnSlicesCard : Claim7 := { stood := { row := fnSlicesRow, standIns := [], harness := (true, "9ba733d1207d480c078e834cc14e0d8c4a5cba37baf8ea3706a1d5f2071435ca"), looks := true }, kinds := [], alts := [], laidByText := true, laidKinds := [.data, .data, .data, .data, .pinned], laidTests := true, laidLooks := .later }
def FnSlicesCardSaid : Prop := Claim7.holds Tryz.pinned (.plain (OpenSpec.ofChange fnSlicesSpec)) fnSlicesCard

/-- THE TIED CARD OF 'laws.FnConverts'. -/
def fnConvertsCard : Claim7 := { stood := { row := fnConvertsRow, standIns := [], harness := (true, "9ba733d1207d480c078e834cc14e0d8c4a5cba37baf8ea3706a1d5f2071435ca"), looks := true }, kinds := [], alts := [], laidByText := true, laidKinds := [.data, .data, .data, .data, .pinned], laidTests := true, laidLooks := .later }
def FnConvertsCardSaid : Prop := Claim7.holds Tryz.pinned (.plain (OpenSpec.ofChange fnConvertsSpec)) fnConvertsCard

/-- THE SECOND FORM's CARD OF 'laws.FnSlices'. -/
def fnSlicesUptoCard : Claim7 := { stood := { row := fnSlicesUptoRow, standIns := [], harness := (true, "9ba733d1207d480c078e834cc14e0d8c4a5cba37baf8ea3706a1d5f2071435ca"), looks := true }, kinds := [], alts := [], laidByText := true, laidKinds := [.data, .data, .data, .data, .pinned], laidTests := true, laidLooks := .later }
def FnSlicesUptoCardSaid : Prop := Claim7.holds Tryz.pinned (.plain (OpenSpec.upto fnSlicesSpec)) fnSlicesUptoCard

/-- THE SECOND FORM's CARD OF 'laws.FnConverts'. -/
def fnConvertsUptoCard : Claim7 := { stood := { row := fnConvertsUptoRow, standIns := [], harness := (true, "9ba733d1207d480c078e834cc14e0d8c4a5cba37baf8ea3706a1d5f2071435ca"), looks := true }, kinds := [], alts := [], laidByText := true, laidKinds := [.data, .data, .data, .data, .pinned], laidTests := true, laidLooks := .later }
def FnConvertsUptoCardSaid : Prop := Claim7.holds Tryz.pinned (.plain (OpenSpec.upto fnConvertsSpec)) fnConvertsUptoCard
end Rows
end Go.Proofs.YtooifkdbpghcfaaGreatDoor
