/-
  DERIVED. GIVEN WITH THE SEED: THE CARDS: each row of YtaiificlempeaaaDoorRows.lean that lists a variable, with what it lists TIED to the program's text (the seventh form; the later family's looks); each row that meets fmt, with fmt's text TOLD by the authors' own Lean function (tested against real Go, not proved from fmt's source: count such statements apart). THE CARD IS WHAT COUNTS. Prove the row's statement (the work); the ties are given (YtaiificlempeaaaDoorTie.lean); close each card by the builder's one call (the guide's Derived/Test/ToyasCard.lean, 'card_holds'). Laid BY PROGRAM, IN A SANDBOX (cutbox-door.mjs). By AI agents, Wed Nov 11 2026. No macro, syntax, notation, axiom, sorry.
-/
import Derived.Test.YtaiificlempeaaaDoorRows
import GoSem.ClaimSeven
namespace Go.Proofs.YtaiificlempeaaaDoor
namespace Rows

/-- THE TIED CARD OF 'laws.FnExactWhatOf'. -/
def fnExactWhatOfCard : Claim7 := { stood := { row := fnExactWhatOfRow, standIns := [], harness := (true, "2d79fa4be322ff49666ba4efb18c71f0ed769cadf248c054ee945b01095f71c1"), looks := false }, kinds := [], alts := [], laidByText := true, laidKinds := [.data], laidTests := true, laidLooks := .later }
def FnExactWhatOfCardSaid : Prop := Claim7.holds Tryd.pinned (.plain (OpenSpec.ofChange fnExactWhatOfSpec)) fnExactWhatOfCard

/-- THE SECOND FORM's CARD OF 'laws.FnExactWhatOf'. -/
def fnExactWhatOfUptoCard : Claim7 := { stood := { row := fnExactWhatOfUptoRow, standIns := [], harness := (true, "2d79fa4be322ff49666ba4efb18c71f0ed769cadf248c054ee945b01095f71c1"), looks := false }, kinds := [], alts := [], laidByText := true, laidKinds := [.data], laidTests := true, laidLooks := .later }
def FnExactWhatOfUptoCardSaid : Prop := Claim7.holds Tryd.pinned (.plain (OpenSpec.upto fnExactWhatOfSpec)) fnExactWhatOfUptoCard
end Rows
end Go.Proofs.YtaiificlempeaaaDoor
