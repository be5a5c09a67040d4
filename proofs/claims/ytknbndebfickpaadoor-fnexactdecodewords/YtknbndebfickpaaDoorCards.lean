/-
  DERIVED. GIVEN WITH THE SEED: THE CARDS: each row of YtknbndebfickpaaDoorRows.lean that lists a variable, with what it lists TIED to the program's text (the seventh form; the later family's looks); each row that meets fmt, with fmt's text TOLD by the authors' own Lean function (tested against real Go, not proved from fmt's source: count such statements apart). THE CARD IS WHAT COUNTS. Prove the row's statement (the work); the ties are given (YtknbndebfickpaaDoorTie.lean); close each card by the builder's one call (the guide's Derived/Test/ToyasCard.lean, 'card_holds'). Laid BY PROGRAM, IN A SANDBOX (cutbox-door.mjs). By AI agents, Wed Nov 11 2026. No macro, syntax, notation, axiom, sorry.
-/
import Derived.Test.YtknbndebfickpaaDoorRows
import GoSem.ClaimSeven
namespace Go.Proofs.YtknbndebfickpaaDoor
namespace Rows

/-- THE TIED CARD OF 'laws.FnExactDecodeWords'. -/
def fnExactDecodeWordsCard : Claim7 := { stood := { row := fnExactDecodeWordsRow, standIns := [], harness := (true, "88b92ae2465422fa3f253750427a9eee04286f53f0f64274fc06812b3cfecd64"), looks := false }, kinds := [], alts := [], laidByText := true, laidKinds := [.data, .data, .data, .data, .pinned], laidTests := true, laidLooks := .later }
def FnExactDecodeWordsCardSaid : Prop := Claim7.holds Tryd.pinned (.plain (OpenSpec.ofChange fnExactDecodeWordsSpec)) fnExactDecodeWordsCard

/-- THE TIED CARD OF 'laws.FnExactEncodeWords'. -/
def fnExactEncodeWordsCard : Claim7 := { stood := { row := fnExactEncodeWordsRow, standIns := [], harness := (true, "88b92ae2465422fa3f253750427a9eee04286f53f0f64274fc06812b3cfecd64"), looks := false }, kinds := [], alts := [], laidByText := true, laidKinds := [.data], laidTests := true, laidLooks := .later }
def FnExactEncodeWordsCardSaid : Prop := Claim7.holds Tryd.pinned (.plain (OpenSpec.ofChange fnExactEncodeWordsSpec)) fnExactEncodeWordsCard

/-- THE SECOND FORM's CARD OF 'laws.FnExactDecodeWords'. -/
def fnExactDecodeWordsUptoCard : Claim7 := { stood := { row := fnExactDecodeWordsUptoRow, standIns := [], harness := (true, "88b92ae2465422fa3f253750427a9eee04286f53f0f64274fc06812b3cfecd64"), looks := false }, kinds := [], alts := [], laidByText := true, laidKinds := [.data, .data, .data, .data, .pinned], laidTests := true, laidLooks := .later }
def FnExactDecodeWordsUptoCardSaid : Prop := Claim7.holds Tryd.pinned (.plain (OpenSpec.upto fnExactDecodeWordsSpec)) fnExactDecodeWordsUptoCard

/-- THE SECOND FORM's CARD OF 'laws.FnExactEncodeWords'. -/
def fnExactEncodeWordsUptoCard : Claim7 := { stood := { row := fnExactEncodeWordsUptoRow, standIns := [], harness := (true, "88b92ae2465422fa3f253750427a9eee04286f53f0f64274fc06812b3cfecd64"), looks := false }, kinds := [], alts := [], laidByText := true, laidKinds := [.data], laidTests := true, laidLooks := .later }
def FnExactEncodeWordsUptoCardSaid : Prop := Claim7.holds Tryd.pinned (.plain (OpenSpec.upto fnExactEncodeWordsSpec)) fnExactEncodeWordsUptoCard
end Rows
end Go.Proofs.YtknbndebfickpaaDoor
