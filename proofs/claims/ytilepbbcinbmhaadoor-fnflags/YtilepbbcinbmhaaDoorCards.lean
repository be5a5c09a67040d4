/-
  DERIVED. GIVEN WITH THE SEED: THE CARDS: each row of YtilepbbcinbmhaaDoorRows.lean that lists a variable, with what it lists TIED to the program's text (the seventh form; the later family's looks); each row that meets fmt, with fmt's text TOLD by the authors' own Lean function (tested against real Go, not proved from fmt's source: count such statements apart). THE CARD IS WHAT COUNTS. Prove the row's statement (the work); the ties are given (YtilepbbcinbmhaaDoorTie.lean); close each card by the builder's one call (the guide's Derived/Test/ToyasCard.lean, 'card_holds'). Laid BY PROGRAM, IN A SANDBOX (cutbox-door.mjs). By AI agents, Wed Nov 11 2026. No macro, syntax, notation, axiom, sorry.
-/
import Derived.Test.YtilepbbcinbmhaaDoorRows
import GoSem.ClaimSeven
namespace Go.Proofs.YtilepbbcinbmhaaDoor
namespace Rows

/-- THE TIED CARD OF 'laws.FnFlags'. -/
def fnFlagsCard : Claim7 := { stood := { row := fnFlagsRow, standIns := [], harness := (true, "78c63b9ba03b1a66f85b386541929cba99c35a5c11c6ec88d2e982f9aa6869f8"), looks := false }, kinds := [], alts := [], laidByText := true, laidKinds := [.data], laidTests := true, laidLooks := .later }
def FnFlagsCardSaid : Prop := Claim7.holds Tryd.pinned (.plain (OpenSpec.ofChange fnFlagsSpec)) fnFlagsCard

/-- THE TIED CARD OF 'laws.FnExactOpFault'. -/
def fnExactOpFaultCard : Claim7 := { stood := { row := fnExactOpFaultRow, standIns := [], harness := (true, "78c63b9ba03b1a66f85b386541929cba99c35a5c11c6ec88d2e982f9aa6869f8"), looks := false }, kinds := [], alts := [], laidByText := true, laidKinds := [.data], laidTests := true, laidLooks := .later }
def FnExactOpFaultCardSaid : Prop := Claim7.holds Tryd.pinned (.plain (OpenSpec.ofChange fnExactOpFaultSpec)) fnExactOpFaultCard

/-- THE SECOND FORM's CARD OF 'laws.FnFlags'. -/
def fnFlagsUptoCard : Claim7 := { stood := { row := fnFlagsUptoRow, standIns := [], harness := (true, "78c63b9ba03b1a66f85b386541929cba99c35a5c11c6ec88d2e982f9aa6869f8"), looks := false }, kinds := [], alts := [], laidByText := true, laidKinds := [.data], laidTests := true, laidLooks := .later }
def FnFlagsUptoCardSaid : Prop := Claim7.holds Tryd.pinned (.plain (OpenSpec.upto fnFlagsSpec)) fnFlagsUptoCard

/-- THE SECOND FORM's CARD OF 'laws.FnExactOpFault'. -/
def fnExactOpFaultUptoCard : Claim7 := { stood := { row := fnExactOpFaultUptoRow, standIns := [], harness := (true, "78c63b9ba03b1a66f85b386541929cba99c35a5c11c6ec88d2e982f9aa6869f8"), looks := false }, kinds := [], alts := [], laidByText := true, laidKinds := [.data], laidTests := true, laidLooks := .later }
def FnExactOpFaultUptoCardSaid : Prop := Claim7.holds Tryd.pinned (.plain (OpenSpec.upto fnExactOpFaultSpec)) fnExactOpFaultUptoCard
end Rows
end Go.Proofs.YtilepbbcinbmhaaDoor
