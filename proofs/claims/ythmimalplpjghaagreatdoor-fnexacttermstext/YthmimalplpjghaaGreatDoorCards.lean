/-
  DERIVED. GIVEN WITH THE SEED: THE CARDS: each row of YthmimalplpjghaaGreatDoorRows.lean that lists a variable, with what it lists TIED to the program's text (the seventh form; the later family's looks); each row that meets fmt, with fmt's text TOLD by the authors' own Lean function (tested against real Go, not proved from fmt's source: count such statements apart). THE CARD IS WHAT COUNTS. Prove the row's statement (the work); the ties are given (YthmimalplpjghaaGreatDoorTie.lean); close each card by the builder's one call (the guide's Derived/Test/ToyasCard.lean, 'card_holds'). Laid BY PROGRAM, IN A SANDBOX (cutbox-door.mjs). By AI agents, Wed Nov 11 2026. No macro, syntax, notation, axiom, sorry.
-/
import Derived.Test.YthmimalplpjghaaGreatDoorRows
import GoSem.ClaimSeven
namespace Go.Proofs.YthmimalplpjghaaGreatDoor
namespace Rows

/-- THE TIED CARD OF 'laws.FnTerms'. -/
def fnTermsCard : Claim7 := { stood := { row := fnTermsRow, standIns := [], harness := (true, "cd54ff004b834c97f78263ed041c8b66729ff314e624aed309be3751b1f1e443"), looks := true }, kinds := [], alts := [], laidByText := true, laidKinds := [.data, .data, .data, .data, .sentinel, .sentinel, .data, .data, .pinned], laidTests := true, laidLooks := .later }
def FnTermsCardSaid : Prop := Claim7.holds Tryz.pinned (.plain (OpenSpec.ofChange fnTermsSpec)) fnTermsCard

/-- THE TIED CARD OF 'laws.FnMatches'. -/
def fnMatchesCard : Claim7 := { stood := { row := fnMatchesRow, standIns := [], harness := (true, "cd54ff004b834c97f78263ed041c8b66729ff314e624aed309be3751b1f1e443"), looks := true }, kinds := [], alts := [], laidByText := true, laidKinds := [.data, .data, .data, .data, .pinned], laidTests := true, laidLooks := .later }
def FnMatchesCardSaid : Prop := Claim7.holds Tryz.pinned (.plain (OpenSpec.ofChange fnMatchesSpec)) fnMatchesCard

/-- THE TIED CARD OF 'laws.FnFinds'. -/
def fnFindsCard : Claim7 := { stood := { row := fnFindsRow, standIns := [], harness := (true, "cd54ff004b834c97f78263ed041c8b66729ff314e624aed309be3751b1f1e443"), looks := true }, kinds := [], alts := [], laidByText := true, laidKinds := [.data, .data, .data, .data, .pinned], laidTests := true, laidLooks := .later }
def FnFindsCardSaid : Prop := Claim7.holds Tryz.pinned (.plain (OpenSpec.ofChange fnFindsSpec)) fnFindsCard

/-- THE TIED CARD OF 'laws.FnExactTermsText'. -/
def fnExactTermsTextCard : Claim7 := { stood := { row := fnExactTermsTextRow, standIns := [], harness := (true, "cd54ff004b834c97f78263ed041c8b66729ff314e624aed309be3751b1f1e443"), looks := true }, kinds := [], alts := [], laidByText := true, laidKinds := [.data, .data, .data, .data, .data], laidTests := true, laidLooks := .later }
def FnExactTermsTextCardSaid : Prop := Claim7.holds Tryz.pinned (.plain (OpenSpec.ofChange fnExactTermsTextSpec)) fnExactTermsTextCard

/-- THE TIED CARD OF 'laws.FnExactParseTerms'. -/
def fnExactParseTermsCard : Claim7 := { stood := { row := fnExactParseTermsRow, standIns := [], harness := (true, "cd54ff004b834c97f78263ed041c8b66729ff314e624aed309be3751b1f1e443"), looks := true }, kinds := [], alts := [], laidByText := true, laidKinds := [.data, .data, .data, .data, .sentinel, .sentinel, .data, .data, .pinned], laidTests := true, laidLooks := .later }
def FnExactParseTermsCardSaid : Prop := Claim7.holds Tryz.pinned (.plain (OpenSpec.ofChange fnExactParseTermsSpec)) fnExactParseTermsCard

/-- THE TIED CARD OF 'laws.FnExactDoesMatch'. -/
def fnExactDoesMatchCard : Claim7 := { stood := { row := fnExactDoesMatchRow, standIns := [], harness := (true, "cd54ff004b834c97f78263ed041c8b66729ff314e624aed309be3751b1f1e443"), looks := true }, kinds := [], alts := [], laidByText := true, laidKinds := [.data, .data, .data, .data, .pinned], laidTests := true, laidLooks := .later }
def FnExactDoesMatchCardSaid : Prop := Claim7.holds Tryz.pinned (.plain (OpenSpec.ofChange fnExactDoesMatchSpec)) fnExactDoesMatchCard

/-- THE TIED CARD OF 'laws.FnExactSearchBox'. -/
def fnExactSearchBoxCard : Claim7 := { stood := { row := fnExactSearchBoxRow, standIns := [], harness := (true, "cd54ff004b834c97f78263ed041c8b66729ff314e624aed309be3751b1f1e443"), looks := true }, kinds := [], alts := [], laidByText := true, laidKinds := [.data, .data, .data, .data, .pinned], laidTests := true, laidLooks := .later }
def FnExactSearchBoxCardSaid : Prop := Claim7.holds Tryz.pinned (.plain (OpenSpec.ofChange fnExactSearchBoxSpec)) fnExactSearchBoxCard

/-- THE SECOND FORM's CARD OF 'laws.FnTerms'. -/
def fnTermsUptoCard : Claim7 := { stood := { row := fnTermsUptoRow, standIns := [], harness := (true, "cd54ff004b834c97f78263ed041c8b66729ff314e624aed309be3751b1f1e443"), looks := true }, kinds := [], alts := [], laidByText := true, laidKinds := [.data, .data, .data, .data, .sentinel, .sentinel, .data, .data, .pinned], laidTests := true, laidLooks := .later }
def FnTermsUptoCardSaid : Prop := Claim7.holds Tryz.pinned (.plain (OpenSpec.upto fnTermsSpec)) fnTermsUptoCard

/-- THE SECOND FORM's CARD OF 'laws.FnMatches'. -/
def fnMatchesUptoCard : Claim7 := { stood := { row := fnMatchesUptoRow, standIns := [], harness := (true, "cd54ff004b834c97f78263ed041c8b66729ff314e624aed309be3751b1f1e443"), looks := true }, kinds := [], alts := [], laidByText := true, laidKinds := [.data, .data, .data, .data, .pinned], laidTests := true, laidLooks := .later }
def FnMatchesUptoCardSaid : Prop := Claim7.holds Tryz.pinned (.plain (OpenSpec.upto fnMatchesSpec)) fnMatchesUptoCard

/-- THE SECOND FORM's CARD OF 'laws.FnFinds'. -/
def fnFindsUptoCard : Claim7 := { stood := { row := fnFindsUptoRow, standIns := [], harness := (true, "cd54ff004b834c97f78263ed041c8b66729ff314e624aed309be3751b1f1e443"), looks := true }, kinds := [], alts := [], laidByText := true, laidKinds := [.data, .data, .data, .data, .pinned], laidTests := true, laidLooks := .later }
def FnFindsUptoCardSaid : Prop := Claim7.holds Tryz.pinned (.plain (OpenSpec.upto fnFindsSpec)) fnFindsUptoCard

/-- THE SECOND FORM's CARD OF 'laws.FnExactTermsText'. -/
def fnExactTermsTextUptoCard : Claim7 := { stood := { row := fnExactTermsTextUptoRow, standIns := [], harness := (true, "cd54ff004b834c97f78263ed041c8b66729ff314e624aed309be3751b1f1e443"), looks := true }, kinds := [], alts := [], laidByText := true, laidKinds := [.data, .data, .data, .data, .data], laidTests := true, laidLooks := .later }
def FnExactTermsTextUptoCardSaid : Prop := Claim7.holds Tryz.pinned (.plain (OpenSpec.upto fnExactTermsTextSpec)) fnExactTermsTextUptoCard

/-- THE SECOND FORM's CARD OF 'laws.FnExactParseTerms'. -/
def fnExactParseTermsUptoCard : Claim7 := { stood := { row := fnExactParseTermsUptoRow, standIns := [], harness := (true, "cd54ff004b834c97f78263ed041c8b66729ff314e624aed309be3751b1f1e443"), looks := true }, kinds := [], alts := [], laidByText := true, laidKinds := [.data, .data, .data, .data, .sentinel, .sentinel, .data, .data, .pinned], laidTests := true, laidLooks := .later }
def FnExactParseTermsUptoCardSaid : Prop := Claim7.holds Tryz.pinned (.plain (OpenSpec.upto fnExactParseTermsSpec)) fnExactParseTermsUptoCard

/-- THE SECOND FORM's CARD OF 'laws.FnExactDoesMatch'. -/
def fnExactDoesMatchUptoCard : Claim7 := { stood := { row := fnExactDoesMatchUptoRow, standIns := [], harness := (true, "cd54ff004b834c97f78263ed041c8b66729ff314e624aed309be3751b1f1e443"), looks := true }, kinds := [], alts := [], laidByText := true, laidKinds := [.data, .data, .data, .data, .pinned], laidTests := true, laidLooks := .later }
def FnExactDoesMatchUptoCardSaid : Prop := Claim7.holds Tryz.pinned (.plain (OpenSpec.upto fnExactDoesMatchSpec)) fnExactDoesMatchUptoCard

/-- THE SECOND FORM's CARD OF 'laws.FnExactSearchBox'. -/
def fnExactSearchBoxUptoCard : Claim7 := { stood := { row := fnExactSearchBoxUptoRow, standIns := [], harness := (true, "cd54ff004b834c97f78263ed041c8b66729ff314e624aed309be3751b1f1e443"), looks := true }, kinds := [], alts := [], laidByText := true, laidKinds := [.data, .data, .data, .data, .pinned], laidTests := true, laidLooks := .later }
def FnExactSearchBoxUptoCardSaid : Prop := Claim7.holds Tryz.pinned (.plain (OpenSpec.upto fnExactSearchBoxSpec)) fnExactSearchBoxUptoCard
end Rows
end Go.Proofs.YthmimalplpjghaaGreatDoor
