/-
  DERIVED. GIVEN WITH THE SEED: THE CARDS: each row of YtnnanhjpnilndaaDoorRows.lean that lists a variable, with what it lists TIED to the program's text (the seventh form; the later family's looks); each row that meets fmt, with fmt's text TOLD by the authors' own Lean function (tested against real Go, not proved from fmt's source: count such statements apart). THE CARD IS WHAT COUNTS. Prove the row's statement (the work); the ties are given (YtnnanhjpnilndaaDoorTie.lean); close each card by the builder's one call (the guide's Derived/Test/ToyasCard.lean, 'card_holds'). Laid BY PROGRAM, IN A SANDBOX (cutbox-door.mjs). By AI agents, Wed Nov 11 2026. No macro, syntax, notation, axiom, sorry.
-/
import Derived.Test.YtnnanhjpnilndaaDoorRows
import GoSem.ClaimSeven
namespace Go.Proofs.YtnnanhjpnilndaaDoor
namespace Rows

/-- THE TIED CARD OF 'laws.FnFlags'. -/
def fnFlagsCard : Claim7 := { stood := { row := fnFlagsRow, standIns := [], harness := (true, "72ce92fd96dfd4800df7b742c0f3c051668fc3ab60c156837764192aec8526e6"), looks := false }, kinds := [], alts := [], laidByText := true, laidKinds := [.data], laidTests := true, laidLooks := .later }
def FnFlagsCardSaid : Prop := Claim7.holds Tryd.pinned (.plain (OpenSpec.ofChange fnFlagsSpec)) fnFlagsCard

/-- THE TIED CARD OF 'laws.FnExactFlagsText'. -/
def fnExactFlagsTextCard : Claim7 := { stood := { row := fnExactFlagsTextRow, standIns := [], harness := (true, "72ce92fd96dfd4800df7b742c0f3c051668fc3ab60c156837764192aec8526e6"), looks := false }, kinds := [], alts := [], laidByText := true, laidKinds := [.data], laidTests := true, laidLooks := .later }
def FnExactFlagsTextCardSaid : Prop := Claim7.holds Tryd.pinned (.plain (OpenSpec.ofChange fnExactFlagsTextSpec)) fnExactFlagsTextCard

/-- THE TIED CARD OF 'laws.FnExactParseFlags'. -/
def fnExactParseFlagsCard : Claim7 := { stood := { row := fnExactParseFlagsRow, standIns := [], harness := (true, "72ce92fd96dfd4800df7b742c0f3c051668fc3ab60c156837764192aec8526e6"), looks := false }, kinds := [], alts := [], laidByText := true, laidKinds := [.data], laidTests := true, laidLooks := .later }
def FnExactParseFlagsCardSaid : Prop := Claim7.holds Tryd.pinned (.plain (OpenSpec.ofChange fnExactParseFlagsSpec)) fnExactParseFlagsCard

/-- THE SECOND FORM's CARD OF 'laws.FnFlags'. -/
def fnFlagsUptoCard : Claim7 := { stood := { row := fnFlagsUptoRow, standIns := [], harness := (true, "72ce92fd96dfd4800df7b742c0f3c051668fc3ab60c156837764192aec8526e6"), looks := false }, kinds := [], alts := [], laidByText := true, laidKinds := [.data], laidTests := true, laidLooks := .later }
def FnFlagsUptoCardSaid : Prop := Claim7.holds Tryd.pinned (.plain (OpenSpec.upto fnFlagsSpec)) fnFlagsUptoCard

/-- THE SECOND FORM's CARD OF 'laws.FnExactFlagsText'. -/
def fnExactFlagsTextUptoCard : Claim7 := { stood := { row := fnExactFlagsTextUptoRow, standIns := [], harness := (true, "72ce92fd96dfd4800df7b742c0f3c051668fc3ab60c156837764192aec8526e6"), looks := false }, kinds := [], alts := [], laidByText := true, laidKinds := [.data], laidTests := true, laidLooks := .later }
def FnExactFlagsTextUptoCardSaid : Prop := Claim7.holds Tryd.pinned (.plain (OpenSpec.upto fnExactFlagsTextSpec)) fnExactFlagsTextUptoCard

/-- THE SECOND FORM's CARD OF 'laws.FnExactParseFlags'. -/
def fnExactParseFlagsUptoCard : Claim7 := { stood := { row := fnExactParseFlagsUptoRow, standIns := [], harness := (true, "72ce92fd96dfd4800df7b742c0f3c051668fc3ab60c156837764192aec8526e6"), looks := false }, kinds := [], alts := [], laidByText := true, laidKinds := [.data], laidTests := true, laidLooks := .later }
def FnExactParseFlagsUptoCardSaid : Prop := Claim7.holds Tryd.pinned (.plain (OpenSpec.upto fnExactParseFlagsSpec)) fnExactParseFlagsUptoCard
end Rows
end Go.Proofs.YtnnanhjpnilndaaDoor
