/-
  DERIVED. GIVEN WITH THE SEED: THE CARDS: each row of YtfbjodbihenmjaaGreatDoorRows.lean that lists a variable, with what it lists TIED to the program's text (the seventh form; the later family's looks); each row that meets fmt, with fmt's text TOLD by the authors' own Lean function (tested against real Go, not proved from fmt's source: count such statements apart). THE CARD IS WHAT COUNTS. Prove the row's statement (the work); the ties are given (YtfbjodbihenmjaaGreatDoorTie.lean); close each card by the builder's one call (the guide's Derived/Test/ToyasCard.lean, 'card_holds'). Laid BY PROGRAM, IN A SANDBOX (cutbox-door.mjs). By AI agents, Wed Nov 11 2026. No macro, syntax, notation, axiom, sorry.
-/
import Derived.Test.YtfbjodbihenmjaaGreatDoorRows
import GoSem.ClaimSeven
namespace Go.Proofs.YtfbjodbihenmjaaGreatDoor
namespace Rows

/-- THE TIED CARD OF 'laws.FnAheads'. -/
def fnAheadsCard : Claim7 := { stood := { row := fnAheadsRow, standIns := [], harness := (true, "a916d7bddb78978a6f2c7cf822f12b64b30065b30e3b52a0cc0354151777e7a0"), looks := true }, kinds := [], alts := [], laidByText := true, laidKinds := [.data, .data, .data, .data, .pinned], laidTests := true, laidLooks := .later }
def FnAheadsCardSaid : Prop := Claim7.holds Tryz.pinned (.plain (OpenSpec.ofChange fnAheadsSpec)) fnAheadsCard

/-- THE TIED CARD OF 'laws.FnExactComesAhead'. -/
def fnExactComesAheadCard : Claim7 := { stood := { row := fnExactComesAheadRow, standIns := [], harness := (true, "a916d7bddb78978a6f2c7cf822f12b64b30065b30e3b52a0cc0354151777e7a0"), looks := true }, kinds := [], alts := [], laidByText := true, laidKinds := [.data, .data, .data, .data, .pinned], laidTests := true, laidLooks := .later }
def FnExactComesAheadCardSaid : Prop := Claim7.holds Tryz.pinned (.plain (OpenSpec.ofChange fnExactComesAheadSpec)) fnExactComesAheadCard

/-- THE SECOND FORM's CARD OF 'laws.FnAheads'. -/
def fnAheadsUptoCard : Claim7 := { stood := { row := fnAheadsUptoRow, standIns := [], harness := (true, "a916d7bddb78978a6f2c7cf822f12b64b30065b30e3b52a0cc0354151777e7a0"), looks := true }, kinds := [], alts := [], laidByText := true, laidKinds := [.data, .data, .data, .data, .pinned], laidTests := true, laidLooks := .later }
def FnAheadsUptoCardSaid : Prop := Claim7.holds Tryz.pinned (.plain (OpenSpec.upto fnAheadsSpec)) fnAheadsUptoCard

/-- THE SECOND FORM's CARD OF 'laws.FnExactComesAhead'. -/
def fnExactComesAheadUptoCard : Claim7 := { stood := { row := fnExactComesAheadUptoRow, standIns := [], harness := (true, "a916d7bddb78978a6f2c7cf822f12b64b30065b30e3b52a0cc0354151777e7a0"), looks := true }, kinds := [], alts := [], laidByText := true, laidKinds := [.data, .data, .data, .data, .pinned], laidTests := true, laidLooks := .later }
def FnExactComesAheadUptoCardSaid : Prop := Claim7.holds Tryz.pinned (.plain (OpenSpec.upto fnExactComesAheadSpec)) fnExactComesAheadUptoCard
end Rows
end Go.Proofs.YtfbjodbihenmjaaGreatDoor
