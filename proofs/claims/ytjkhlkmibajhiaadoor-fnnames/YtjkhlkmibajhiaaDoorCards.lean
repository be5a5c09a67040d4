/-
  DERIVED. GIVEN WITH THE SEED: THE CARDS: each row of YtjkhlkmibajhiaaDoorRows.lean that lists a variable, with what it lists TIED to the program's text (the seventh form; the later family's looks); each row that meets fmt, with fmt's text TOLD by the authors' own Lean function (tested against real Go, not proved from fmt's source: count such statements apart). THE CARD IS WHAT COUNTS. Prove the row's statement (the work); the ties are given (YtjkhlkmibajhiaaDoorTie.lean); close each card by the builder's one call (the guide's Derived/Test/ToyasCard.lean, 'card_holds'). Laid BY PROGRAM, IN A SANDBOX (cutbox-door.mjs). By AI agents, Wed Nov 11 2026. No macro, syntax, notation, axiom, sorry.
-/
import Derived.Test.YtjkhlkmibajhiaaDoorRows
import GoSem.ClaimSeven
namespace Go.Proofs.YtjkhlkmibajhiaaDoor
namespace Rows

/-- THE TIED CARD OF 'laws.FnExactCharsetOf'. -/
def fnExactCharsetOfCard : Claim7 := { stood := { row := fnExactCharsetOfRow, standIns := [], harness := (true, "de5136adc6c85b36a10e9dba5b5fc96b9b3360ce7d0492e310031c8d7e657533"), looks := false }, kinds := [], alts := [], laidByText := true, laidKinds := [.data], laidTests := true, laidLooks := .later }
def FnExactCharsetOfCardSaid : Prop := Claim7.holds Tryd.pinned (.plain (OpenSpec.ofChange fnExactCharsetOfSpec)) fnExactCharsetOfCard

/-- THE TIED CARD OF 'laws.FnExactCharsetName'. -/
def fnExactCharsetNameCard : Claim7 := { stood := { row := fnExactCharsetNameRow, standIns := [], harness := (true, "de5136adc6c85b36a10e9dba5b5fc96b9b3360ce7d0492e310031c8d7e657533"), looks := false }, kinds := [], alts := [], laidByText := true, laidKinds := [.data], laidTests := true, laidLooks := .later }
def FnExactCharsetNameCardSaid : Prop := Claim7.holds Tryd.pinned (.plain (OpenSpec.ofChange fnExactCharsetNameSpec)) fnExactCharsetNameCard

/-- THE TIED CARD OF 'laws.FnNames'. -/
def fnNamesCard : Claim7 := { stood := { row := fnNamesRow, standIns := [], harness := (true, "de5136adc6c85b36a10e9dba5b5fc96b9b3360ce7d0492e310031c8d7e657533"), looks := false }, kinds := [], alts := [], laidByText := true, laidKinds := [.data, .data], laidTests := true, laidLooks := .later }
def FnNamesCardSaid : Prop := Claim7.holds Tryd.pinned (.plain (OpenSpec.ofChange fnNamesSpec)) fnNamesCard

/-- THE TIED CARD OF 'laws.FnExactComparatorOf'. -/
def fnExactComparatorOfCard : Claim7 := { stood := { row := fnExactComparatorOfRow, standIns := [], harness := (true, "de5136adc6c85b36a10e9dba5b5fc96b9b3360ce7d0492e310031c8d7e657533"), looks := false }, kinds := [], alts := [], laidByText := true, laidKinds := [.data], laidTests := true, laidLooks := .later }
def FnExactComparatorOfCardSaid : Prop := Claim7.holds Tryd.pinned (.plain (OpenSpec.ofChange fnExactComparatorOfSpec)) fnExactComparatorOfCard

/-- THE SECOND FORM's CARD OF 'laws.FnExactCharsetOf'. -/
def fnExactCharsetOfUptoCard : Claim7 := { stood := { row := fnExactCharsetOfUptoRow, standIns := [], harness := (true, "de5136adc6c85b36a10e9dba5b5fc96b9b3360ce7d0492e310031c8d7e657533"), looks := false }, kinds := [], alts := [], laidByText := true, laidKinds := [.data], laidTests := true, laidLooks := .later }
def FnExactCharsetOfUptoCardSaid : Prop := Claim7.holds Tryd.pinned (.plain (OpenSpec.upto fnExactCharsetOfSpec)) fnExactCharsetOfUptoCard

/-- THE SECOND FORM's CARD OF 'laws.FnExactCharsetName'. -/
def fnExactCharsetNameUptoCard : Claim7 := { stood := { row := fnExactCharsetNameUptoRow, standIns := [], harness := (true, "de5136adc6c85b36a10e9dba5b5fc96b9b3360ce7d0492e310031c8d7e657533"), looks := false }, kinds := [], alts := [], laidByText := true, laidKinds := [.data], laidTests := true, laidLooks := .later }
def FnExactCharsetNameUptoCardSaid : Prop := Claim7.holds Tryd.pinned (.plain (OpenSpec.upto fnExactCharsetNameSpec)) fnExactCharsetNameUptoCard

/-- THE SECOND FORM's CARD OF 'laws.FnNames'. -/
def fnNamesUptoCard : Claim7 := { stood := { row := fnNamesUptoRow, standIns := [], harness := (true, "de5136adc6c85b36a10e9dba5b5fc96b9b3360ce7d0492e310031c8d7e657533"), looks := false }, kinds := [], alts := [], laidByText := true, laidKinds := [.data, .data], laidTests := true, laidLooks := .later }
def FnNamesUptoCardSaid : Prop := Claim7.holds Tryd.pinned (.plain (OpenSpec.upto fnNamesSpec)) fnNamesUptoCard

/-- THE SECOND FORM's CARD OF 'laws.FnExactComparatorOf'. -/
def fnExactComparatorOfUptoCard : Claim7 := { stood := { row := fnExactComparatorOfUptoRow, standIns := [], harness := (true, "de5136adc6c85b36a10e9dba5b5fc96b9b3360ce7d0492e310031c8d7e657533"), looks := false }, kinds := [], alts := [], laidByText := true, laidKinds := [.data], laidTests := true, laidLooks := .later }
def FnExactComparatorOfUptoCardSaid : Prop := Claim7.holds Tryd.pinned (.plain (OpenSpec.upto fnExactComparatorOfSpec)) fnExactComparatorOfUptoCard
end Rows
end Go.Proofs.YtjkhlkmibajhiaaDoor
