/-
  DERIVED. GIVEN WITH THE SEED: THE CARDS: each row of YtkjnhcnbbojajaaDoorRows.lean that lists a variable, with what it lists TIED to the program's text (the seventh form; the later family's looks); each row that meets fmt, with fmt's text TOLD by the authors' own Lean function (tested against real Go, not proved from fmt's source: count such statements apart). THE CARD IS WHAT COUNTS. Prove the row's statement (the work); the ties are given (YtkjnhcnbbojajaaDoorTie.lean); close each card by the builder's one call (the guide's Derived/Test/ToyasCard.lean, 'card_holds'). Laid BY PROGRAM, IN A SANDBOX (cutbox-door.mjs). By AI agents, Wed Nov 11 2026. No macro, syntax, notation, axiom, sorry.
-/
import Derived.Test.YtkjnhcnbbojajaaDoorRows
import GoSem.ClaimSeven
namespace Go.Proofs.YtkjnhcnbbojajaaDoor
namespace Rows

/-- THE TIED CARD OF 'laws.FnBuilds'. -/
def fnBuildsCard : Claim7 := { stood := { row := fnBuildsRow, standIns := [], harness := (true, "59203e0ae6ed2916288099ea938818274aca2c53c5791baa3eae320c6aafc791"), looks := false }, kinds := [], alts := [], laidByText := true, laidKinds := [.data, .data, .pinned], laidTests := true, laidLooks := .later }
def FnBuildsCardSaid : Prop := Claim7.holds Tryd.pinned (.plain (OpenSpec.ofChange fnBuildsSpec)) fnBuildsCard

/-- THE TIED CARD OF 'laws.FnExactParseParts'. -/
def fnExactParsePartsCard : Claim7 := { stood := { row := fnExactParsePartsRow, standIns := [], harness := (true, "59203e0ae6ed2916288099ea938818274aca2c53c5791baa3eae320c6aafc791"), looks := false }, kinds := [], alts := [], laidByText := true, laidKinds := [.data, .data, .pinned], laidTests := true, laidLooks := .later }
def FnExactParsePartsCardSaid : Prop := Claim7.holds Tryd.pinned (.plain (OpenSpec.ofChange fnExactParsePartsSpec)) fnExactParsePartsCard

/-- THE TIED CARD OF 'laws.FnExactPartAt'. -/
def fnExactPartAtCard : Claim7 := { stood := { row := fnExactPartAtRow, standIns := [], harness := (true, "59203e0ae6ed2916288099ea938818274aca2c53c5791baa3eae320c6aafc791"), looks := false }, kinds := [], alts := [], laidByText := true, laidKinds := [.data, .data, .pinned], laidTests := true, laidLooks := .later }
def FnExactPartAtCardSaid : Prop := Claim7.holds Tryd.pinned (.plain (OpenSpec.ofChange fnExactPartAtSpec)) fnExactPartAtCard

/-- THE SECOND FORM's CARD OF 'laws.FnBuilds'. -/
def fnBuildsUptoCard : Claim7 := { stood := { row := fnBuildsUptoRow, standIns := [], harness := (true, "59203e0ae6ed2916288099ea938818274aca2c53c5791baa3eae320c6aafc791"), looks := false }, kinds := [], alts := [], laidByText := true, laidKinds := [.data, .data, .pinned], laidTests := true, laidLooks := .later }
def FnBuildsUptoCardSaid : Prop := Claim7.holds Tryd.pinned (.plain (OpenSpec.upto fnBuildsSpec)) fnBuildsUptoCard

/-- THE SECOND FORM's CARD OF 'laws.FnExactParseParts'. -/
def fnExactParsePartsUptoCard : Claim7 := { stood := { row := fnExactParsePartsUptoRow, standIns := [], harness := (true, "59203e0ae6ed2916288099ea938818274aca2c53c5791baa3eae320c6aafc791"), looks := false }, kinds := [], alts := [], laidByText := true, laidKinds := [.data, .data, .pinned], laidTests := true, laidLooks := .later }
def FnExactParsePartsUptoCardSaid : Prop := Claim7.holds Tryd.pinned (.plain (OpenSpec.upto fnExactParsePartsSpec)) fnExactParsePartsUptoCard

/-- THE SECOND FORM's CARD OF 'laws.FnExactPartAt'. -/
def fnExactPartAtUptoCard : Claim7 := { stood := { row := fnExactPartAtUptoRow, standIns := [], harness := (true, "59203e0ae6ed2916288099ea938818274aca2c53c5791baa3eae320c6aafc791"), looks := false }, kinds := [], alts := [], laidByText := true, laidKinds := [.data, .data, .pinned], laidTests := true, laidLooks := .later }
def FnExactPartAtUptoCardSaid : Prop := Claim7.holds Tryd.pinned (.plain (OpenSpec.upto fnExactPartAtSpec)) fnExactPartAtUptoCard
end Rows
end Go.Proofs.YtkjnhcnbbojajaaDoor
