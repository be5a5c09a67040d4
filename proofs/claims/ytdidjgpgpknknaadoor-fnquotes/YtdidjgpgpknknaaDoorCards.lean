/-
  DERIVED. GIVEN WITH THE SEED: THE CARDS: each row of YtdidjgpgpknknaaDoorRows.lean that lists a variable, with what it lists TIED to the program's text (the seventh form; the later family's looks); each row that meets fmt, with fmt's text TOLD by the authors' own Lean function (tested against real Go, not proved from fmt's source: count such statements apart). THE CARD IS WHAT COUNTS. Prove the row's statement (the work); the ties are given (YtdidjgpgpknknaaDoorTie.lean); close each card by the builder's one call (the guide's Derived/Test/ToyasCard.lean, 'card_holds'). Laid BY PROGRAM, IN A SANDBOX (cutbox-door.mjs). By AI agents, Wed Nov 11 2026. No macro, syntax, notation, axiom, sorry.
-/
import Derived.Test.YtdidjgpgpknknaaDoorRows
import GoSem.ClaimSeven
namespace Go.Proofs.YtdidjgpgpknknaaDoor
namespace Rows

/-- THE TIED CARD OF 'laws.FnBases'. -/
def fnBasesCard : Claim7 := { stood := { row := fnBasesRow, standIns := [], harness := (true, "b2a55910191edaabc918ed3a9115b7dfbbdae68adfad2d527a4da150f9481bca"), looks := false }, kinds := [], alts := [], laidByText := true, laidKinds := [.data], laidTests := true, laidLooks := .later }
def FnBasesCardSaid : Prop := Claim7.holds Tryd.pinned (.plain (OpenSpec.ofChange fnBasesSpec)) fnBasesCard

/-- THE TIED CARD OF 'laws.FnQuotes'. -/
def fnQuotesCard : Claim7 := { stood := { row := fnQuotesRow, standIns := [], harness := (true, "b2a55910191edaabc918ed3a9115b7dfbbdae68adfad2d527a4da150f9481bca"), looks := false }, kinds := [], alts := [], laidByText := true, laidKinds := [.data], laidTests := true, laidLooks := .later }
def FnQuotesCardSaid : Prop := Claim7.holds Tryd.pinned (.plain (OpenSpec.ofChange fnQuotesSpec)) fnQuotesCard

/-- THE TIED CARD OF 'laws.FnExactEncodeBase'. -/
def fnExactEncodeBaseCard : Claim7 := { stood := { row := fnExactEncodeBaseRow, standIns := [], harness := (true, "b2a55910191edaabc918ed3a9115b7dfbbdae68adfad2d527a4da150f9481bca"), looks := false }, kinds := [], alts := [], laidByText := true, laidKinds := [.data], laidTests := true, laidLooks := .later }
def FnExactEncodeBaseCardSaid : Prop := Claim7.holds Tryd.pinned (.plain (OpenSpec.ofChange fnExactEncodeBaseSpec)) fnExactEncodeBaseCard

/-- THE TIED CARD OF 'laws.FnExactDecodeBase'. -/
def fnExactDecodeBaseCard : Claim7 := { stood := { row := fnExactDecodeBaseRow, standIns := [], harness := (true, "b2a55910191edaabc918ed3a9115b7dfbbdae68adfad2d527a4da150f9481bca"), looks := false }, kinds := [], alts := [], laidByText := true, laidKinds := [.data], laidTests := true, laidLooks := .later }
def FnExactDecodeBaseCardSaid : Prop := Claim7.holds Tryd.pinned (.plain (OpenSpec.ofChange fnExactDecodeBaseSpec)) fnExactDecodeBaseCard

/-- THE TIED CARD OF 'laws.FnExactEncodeQuoted'. -/
def fnExactEncodeQuotedCard : Claim7 := { stood := { row := fnExactEncodeQuotedRow, standIns := [], harness := (true, "b2a55910191edaabc918ed3a9115b7dfbbdae68adfad2d527a4da150f9481bca"), looks := false }, kinds := [], alts := [], laidByText := true, laidKinds := [.data], laidTests := true, laidLooks := .later }
def FnExactEncodeQuotedCardSaid : Prop := Claim7.holds Tryd.pinned (.plain (OpenSpec.ofChange fnExactEncodeQuotedSpec)) fnExactEncodeQuotedCard

/-- THE TIED CARD OF 'laws.FnExactDecodeQuoted'. -/
def fnExactDecodeQuotedCard : Claim7 := { stood := { row := fnExactDecodeQuotedRow, standIns := [], harness := (true, "b2a55910191edaabc918ed3a9115b7dfbbdae68adfad2d527a4da150f9481bca"), looks := false }, kinds := [], alts := [], laidByText := true, laidKinds := [.data], laidTests := true, laidLooks := .later }
def FnExactDecodeQuotedCardSaid : Prop := Claim7.holds Tryd.pinned (.plain (OpenSpec.ofChange fnExactDecodeQuotedSpec)) fnExactDecodeQuotedCard

/-- THE TIED CARD OF 'laws.FnExactBaseDigit'. -/
def fnExactBaseDigitCard : Claim7 := { stood := { row := fnExactBaseDigitRow, standIns := [], harness := (true, "b2a55910191edaabc918ed3a9115b7dfbbdae68adfad2d527a4da150f9481bca"), looks := false }, kinds := [], alts := [], laidByText := true, laidKinds := [.data], laidTests := true, laidLooks := .later }
def FnExactBaseDigitCardSaid : Prop := Claim7.holds Tryd.pinned (.plain (OpenSpec.ofChange fnExactBaseDigitSpec)) fnExactBaseDigitCard

/-- THE SECOND FORM's CARD OF 'laws.FnBases'. -/
def fnBasesUptoCard : Claim7 := { stood := { row := fnBasesUptoRow, standIns := [], harness := (true, "b2a55910191edaabc918ed3a9115b7dfbbdae68adfad2d527a4da150f9481bca"), looks := false }, kinds := [], alts := [], laidByText := true, laidKinds := [.data], laidTests := true, laidLooks := .later }
def FnBasesUptoCardSaid : Prop := Claim7.holds Tryd.pinned (.plain (OpenSpec.upto fnBasesSpec)) fnBasesUptoCard

/-- THE SECOND FORM's CARD OF 'laws.FnQuotes'. -/
def fnQuotesUptoCard : Claim7 := { stood := { row := fnQuotesUptoRow, standIns := [], harness := (true, "b2a55910191edaabc918ed3a9115b7dfbbdae68adfad2d527a4da150f9481bca"), looks := false }, kinds := [], alts := [], laidByText := true, laidKinds := [.data], laidTests := true, laidLooks := .later }
def FnQuotesUptoCardSaid : Prop := Claim7.holds Tryd.pinned (.plain (OpenSpec.upto fnQuotesSpec)) fnQuotesUptoCard

/-- THE SECOND FORM's CARD OF 'laws.FnExactEncodeBase'. -/
def fnExactEncodeBaseUptoCard : Claim7 := { stood := { row := fnExactEncodeBaseUptoRow, standIns := [], harness := (true, "b2a55910191edaabc918ed3a9115b7dfbbdae68adfad2d527a4da150f9481bca"), looks := false }, kinds := [], alts := [], laidByText := true, laidKinds := [.data], laidTests := true, laidLooks := .later }
def FnExactEncodeBaseUptoCardSaid : Prop := Claim7.holds Tryd.pinned (.plain (OpenSpec.upto fnExactEncodeBaseSpec)) fnExactEncodeBaseUptoCard

/-- THE SECOND FORM's CARD OF 'laws.FnExactDecodeBase'. -/
def fnExactDecodeBaseUptoCard : Claim7 := { stood := { row := fnExactDecodeBaseUptoRow, standIns := [], harness := (true, "b2a55910191edaabc918ed3a9115b7dfbbdae68adfad2d527a4da150f9481bca"), looks := false }, kinds := [], alts := [], laidByText := true, laidKinds := [.data], laidTests := true, laidLooks := .later }
def FnExactDecodeBaseUptoCardSaid : Prop := Claim7.holds Tryd.pinned (.plain (OpenSpec.upto fnExactDecodeBaseSpec)) fnExactDecodeBaseUptoCard

/-- THE SECOND FORM's CARD OF 'laws.FnExactEncodeQuoted'. -/
def fnExactEncodeQuotedUptoCard : Claim7 := { stood := { row := fnExactEncodeQuotedUptoRow, standIns := [], harness := (true, "b2a55910191edaabc918ed3a9115b7dfbbdae68adfad2d527a4da150f9481bca"), looks := false }, kinds := [], alts := [], laidByText := true, laidKinds := [.data], laidTests := true, laidLooks := .later }
def FnExactEncodeQuotedUptoCardSaid : Prop := Claim7.holds Tryd.pinned (.plain (OpenSpec.upto fnExactEncodeQuotedSpec)) fnExactEncodeQuotedUptoCard

/-- THE SECOND FORM's CARD OF 'laws.FnExactDecodeQuoted'. -/
def fnExactDecodeQuotedUptoCard : Claim7 := { stood := { row := fnExactDecodeQuotedUptoRow, standIns := [], harness := (true, "b2a55910191edaabc918ed3a9115b7dfbbdae68adfad2d527a4da150f9481bca"), looks := false }, kinds := [], alts := [], laidByText := true, laidKinds := [.data], laidTests := true, laidLooks := .later }
def FnExactDecodeQuotedUptoCardSaid : Prop := Claim7.holds Tryd.pinned (.plain (OpenSpec.upto fnExactDecodeQuotedSpec)) fnExactDecodeQuotedUptoCard

/-- THE SECOND FORM's CARD OF 'laws.FnExactBaseDigit'. -/
def fnExactBaseDigitUptoCard : Claim7 := { stood := { row := fnExactBaseDigitUptoRow, standIns := [], harness := (true, "b2a55910191edaabc918ed3a9115b7dfbbdae68adfad2d527a4da150f9481bca"), looks := false }, kinds := [], alts := [], laidByText := true, laidKinds := [.data], laidTests := true, laidLooks := .later }
def FnExactBaseDigitUptoCardSaid : Prop := Claim7.holds Tryd.pinned (.plain (OpenSpec.upto fnExactBaseDigitSpec)) fnExactBaseDigitUptoCard
end Rows
end Go.Proofs.YtdidjgpgpknknaaDoor
