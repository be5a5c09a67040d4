/-
  DERIVED. GIVEN WITH THE SEED: THE CARDS: each row of YtkjnhcnbbojajaaGreatDoorRows.lean that lists a variable, with what it lists TIED to the program's text (the seventh form; the later family's looks); each row that meets fmt, with fmt's text TOLD by the authors' own Lean function (tested against real Go, not proved from fmt's source: count such statements apart). THE CARD IS WHAT COUNTS. Prove the row's statement (the work); the ties are given (YtkjnhcnbbojajaaGreatDoorTie.lean); close each card by the builder's one call (the guide's Derived/Test/ToyasCard.lean, 'card_holds'). Laid BY PROGRAM, IN A SANDBOX (cutbox-door.mjs). By AI agents, Wed Nov 11 2026. No macro, syntax, notation, axiom, sorry.
-/
import Derived.Test.YtkjnhcnbbojajaaGreatDoorRows
import GoSem.ClaimSeven
namespace Go.Proofs.YtkjnhcnbbojajaaGreatDoor
namespace Rows

/-- THE TIED CARD OF 'laws.FnNested'. -/
def fnNestedCard : Claim7 := { stood := { row := fnNestedRow, standIns := [], harness := (true, "e4fbfd773135271ee3dcf82aea3f47320faf0973266f37bb7d5129f4e13cfdaa"), looks := true }, kinds := [], alts := [], laidByText := true, laidKinds := [.data, .data, .pinned], laidTests := true, laidLooks := .later }
def FnNestedCardSaid : Prop := Claim7.holds Tryz.pinned (.plain (OpenSpec.ofChange fnNestedSpec)) fnNestedCard

/-- THE TIED CARD OF 'laws.FnExactPathOf'. -/
def fnExactPathOfCard : Claim7 := { stood := { row := fnExactPathOfRow, standIns := [], harness := (true, "e4fbfd773135271ee3dcf82aea3f47320faf0973266f37bb7d5129f4e13cfdaa"), looks := true }, kinds := [], alts := [], laidByText := true, laidKinds := [.data, .data, .pinned], laidTests := true, laidLooks := .later }
def FnExactPathOfCardSaid : Prop := Claim7.holds Tryz.pinned (.plain (OpenSpec.ofChange fnExactPathOfSpec)) fnExactPathOfCard

/-- THE TIED CARD OF 'laws.FnExactBodyOf'. -/
def fnExactBodyOfCard : Claim7 := { stood := { row := fnExactBodyOfRow, standIns := [], harness := (true, "e4fbfd773135271ee3dcf82aea3f47320faf0973266f37bb7d5129f4e13cfdaa"), looks := true }, kinds := [], alts := [], laidByText := true, laidKinds := [.data, .data, .pinned], laidTests := true, laidLooks := .later }
def FnExactBodyOfCardSaid : Prop := Claim7.holds Tryz.pinned (.plain (OpenSpec.ofChange fnExactBodyOfSpec)) fnExactBodyOfCard

/-- THE TIED CARD OF 'laws.FnDecodes'. -/
def fnDecodesCard : Claim7 := { stood := { row := fnDecodesRow, standIns := [], harness := (true, "e4fbfd773135271ee3dcf82aea3f47320faf0973266f37bb7d5129f4e13cfdaa"), looks := true }, kinds := [], alts := [], laidByText := true, laidKinds := [.data, .data, .data, .data, .pinned], laidTests := true, laidLooks := .later }
def FnDecodesCardSaid : Prop := Claim7.holds Tryz.pinned (.plain (OpenSpec.ofChange fnDecodesSpec)) fnDecodesCard

/-- THE TIED CARD OF 'laws.FnConverts'. -/
def fnConvertsCard : Claim7 := { stood := { row := fnConvertsRow, standIns := [], harness := (true, "e4fbfd773135271ee3dcf82aea3f47320faf0973266f37bb7d5129f4e13cfdaa"), looks := true }, kinds := [], alts := [], laidByText := true, laidKinds := [.data, .data, .data, .data, .pinned], laidTests := true, laidLooks := .later }
def FnConvertsCardSaid : Prop := Claim7.holds Tryz.pinned (.plain (OpenSpec.ofChange fnConvertsSpec)) fnConvertsCard

/-- THE TIED CARD OF 'laws.FnSlices'. -/
def fnSlicesCard : Claim7 := { stood := { row := fnSlicesRow, standIns := [], harness := (true, "e4fbfd773135271ee3dcf82aea3f47320faf0973266f37bb7d5129f4e13cfdaa"), looks := true }, kinds := [], alts := [], laidByText := true, laidKinds := [.data, .data, .data, .data, .pinned], laidTests := true, laidLooks := .later }
def FnSlicesCardSaid : Prop := Claim7.holds Tryz.pinned (.plain (OpenSpec.ofChange fnSlicesSpec)) fnSlicesCard

/-- THE TIED CARD OF 'laws.FnLegacies'. -/
def fnLegaciesCard : Claim7 := { stood := { row := fnLegaciesRow, standIns := [], harness := (true, "e4fbfd773135271ee3dcf82aea3f47320faf0973266f37bb7d5129f4e13cfdaa"), looks := true }, kinds := [], alts := [], laidByText := true, laidKinds := [.data, .data, .data, .data, .pinned], laidTests := true, laidLooks := .later }
def FnLegaciesCardSaid : Prop := Claim7.holds Tryz.pinned (.plain (OpenSpec.ofChange fnLegaciesSpec)) fnLegaciesCard

/-- THE TIED CARD OF 'laws.FnExactPartBytes'. -/
def fnExactPartBytesCard : Claim7 := { stood := { row := fnExactPartBytesRow, standIns := [], harness := (true, "e4fbfd773135271ee3dcf82aea3f47320faf0973266f37bb7d5129f4e13cfdaa"), looks := true }, kinds := [], alts := [], laidByText := true, laidKinds := [.data, .data, .data, .data, .pinned], laidTests := true, laidLooks := .later }
def FnExactPartBytesCardSaid : Prop := Claim7.holds Tryz.pinned (.plain (OpenSpec.ofChange fnExactPartBytesSpec)) fnExactPartBytesCard

/-- THE TIED CARD OF 'laws.FnExactPartCodes'. -/
def fnExactPartCodesCard : Claim7 := { stood := { row := fnExactPartCodesRow, standIns := [], harness := (true, "e4fbfd773135271ee3dcf82aea3f47320faf0973266f37bb7d5129f4e13cfdaa"), looks := true }, kinds := [], alts := [], laidByText := true, laidKinds := [.data, .data, .data, .data, .pinned], laidTests := true, laidLooks := .later }
def FnExactPartCodesCardSaid : Prop := Claim7.holds Tryz.pinned (.plain (OpenSpec.ofChange fnExactPartCodesSpec)) fnExactPartCodesCard

/-- THE TIED CARD OF 'laws.FnExactConvertPart'. -/
def fnExactConvertPartCard : Claim7 := { stood := { row := fnExactConvertPartRow, standIns := [], harness := (true, "e4fbfd773135271ee3dcf82aea3f47320faf0973266f37bb7d5129f4e13cfdaa"), looks := true }, kinds := [], alts := [], laidByText := true, laidKinds := [.data, .data, .data, .data, .pinned], laidTests := true, laidLooks := .later }
def FnExactConvertPartCardSaid : Prop := Claim7.holds Tryz.pinned (.plain (OpenSpec.ofChange fnExactConvertPartSpec)) fnExactConvertPartCard

/-- THE TIED CARD OF 'laws.FnExactSubjectOf'. -/
def fnExactSubjectOfCard : Claim7 := { stood := { row := fnExactSubjectOfRow, standIns := [], harness := (true, "e4fbfd773135271ee3dcf82aea3f47320faf0973266f37bb7d5129f4e13cfdaa"), looks := true }, kinds := [], alts := [], laidByText := true, laidKinds := [.data, .data, .data, .data, .pinned], laidTests := true, laidLooks := .later }
def FnExactSubjectOfCardSaid : Prop := Claim7.holds Tryz.pinned (.plain (OpenSpec.ofChange fnExactSubjectOfSpec)) fnExactSubjectOfCard

/-- THE TIED CARD OF 'laws.FnExactPreviewOf'. -/
def fnExactPreviewOfCard : Claim7 := { stood := { row := fnExactPreviewOfRow, standIns := [], harness := (true, "e4fbfd773135271ee3dcf82aea3f47320faf0973266f37bb7d5129f4e13cfdaa"), looks := true }, kinds := [], alts := [], laidByText := true, laidKinds := [.data, .data, .data, .data, .pinned], laidTests := true, laidLooks := .later }
def FnExactPreviewOfCardSaid : Prop := Claim7.holds Tryz.pinned (.plain (OpenSpec.ofChange fnExactPreviewOfSpec)) fnExactPreviewOfCard

/-- THE TIED CARD OF 'laws.FnExactLegacyOf'. -/
def fnExactLegacyOfCard : Claim7 := { stood := { row := fnExactLegacyOfRow, standIns := [], harness := (true, "e4fbfd773135271ee3dcf82aea3f47320faf0973266f37bb7d5129f4e13cfdaa"), looks := true }, kinds := [], alts := [], laidByText := true, laidKinds := [.data, .data, .data, .data, .pinned], laidTests := true, laidLooks := .later }
def FnExactLegacyOfCardSaid : Prop := Claim7.holds Tryz.pinned (.plain (OpenSpec.ofChange fnExactLegacyOfSpec)) fnExactLegacyOfCard

/-- THE SECOND FORM's CARD OF 'laws.FnNested'. -/
def fnNestedUptoCard : Claim7 := { stood := { row := fnNestedUptoRow, standIns := [], harness := (true, "e4fbfd773135271ee3dcf82aea3f47320faf0973266f37bb7d5129f4e13cfdaa"), looks := true }, kinds := [], alts := [], laidByText := true, laidKinds := [.data, .data, .pinned], laidTests := true, laidLooks := .later }
def FnNestedUptoCardSaid : Prop := Claim7.holds Tryz.pinned (.plain (OpenSpec.upto fnNestedSpec)) fnNestedUptoCard

/-- THE SECOND FORM's CARD OF 'laws.FnExactPathOf'. -/
def fnExactPathOfUptoCard : Claim7 := { stood := { row := fnExactPathOfUptoRow, standIns := [], harness := (true, "e4fbfd773135271ee3dcf82aea3f47320faf0973266f37bb7d5129f4e13cfdaa"), looks := true }, kinds := [], alts := [], laidByText := true, laidKinds := [.data, .data, .pinned], laidTests := true, laidLooks := .later }
def FnExactPathOfUptoCardSaid : Prop := Claim7.holds Tryz.pinned (.plain (OpenSpec.upto fnExactPathOfSpec)) fnExactPathOfUptoCard

/-- THE SECOND FORM's CARD OF 'laws.FnExactBodyOf'. -/
def fnExactBodyOfUptoCard : Claim7 := { stood := { row := fnExactBodyOfUptoRow, standIns := [], harness := (true, "e4fbfd773135271ee3dcf82aea3f47320faf0973266f37bb7d5129f4e13cfdaa"), looks := true }, kinds := [], alts := [], laidByText := true, laidKinds := [.data, .data, .pinned], laidTests := true, laidLooks := .later }
def FnExactBodyOfUptoCardSaid : Prop := Claim7.holds Tryz.pinned (.plain (OpenSpec.upto fnExactBodyOfSpec)) fnExactBodyOfUptoCard

/-- THE SECOND FORM's CARD OF 'laws.FnDecodes'. -/
def fnDecodesUptoCard : Claim7 := { stood := { row := fnDecodesUptoRow, standIns := [], harness := (true, "e4fbfd773135271ee3dcf82aea3f47320faf0973266f37bb7d5129f4e13cfdaa"), looks := true }, kinds := [], alts := [], laidByText := true, laidKinds := [.data, .data, .data, .data, .pinned], laidTests := true, laidLooks := .later }
def FnDecodesUptoCardSaid : Prop := Claim7.holds Tryz.pinned (.plain (OpenSpec.upto fnDecodesSpec)) fnDecodesUptoCard

/-- THE SECOND FORM's CARD OF 'laws.FnConverts'. -/
def fnConvertsUptoCard : Claim7 := { stood := { row := fnConvertsUptoRow, standIns := [], harness := (true, "e4fbfd773135271ee3dcf82aea3f47320faf0973266f37bb7d5129f4e13cfdaa"), looks := true }, kinds := [], alts := [], laidByText := true, laidKinds := [.data, .data, .data, .data, .pinned], laidTests := true, laidLooks := .later }
def FnConvertsUptoCardSaid : Prop := Claim7.holds Tryz.pinned (.plain (OpenSpec.upto fnConvertsSpec)) fnConvertsUptoCard

/-- THE SECOND FORM's CARD OF 'laws.FnSlices'. -/
def fnSlicesUptoCard : Claim7 := { stood := { row := fnSlicesUptoRow, standIns := [], harness := (true, "e4fbfd773135271ee3dcf82aea3f47320faf0973266f37bb7d5129f4e13cfdaa"), looks := true }, kinds := [], alts := [], laidByText := true, laidKinds := [.data, .data, .data, .data, .pinned], laidTests := true, laidLooks := .later }
def FnSlicesUptoCardSaid : Prop := Claim7.holds Tryz.pinned (.plain (OpenSpec.upto fnSlicesSpec)) fnSlicesUptoCard

/-- THE SECOND FORM's CARD OF 'laws.FnLegacies'. -/
def fnLegaciesUptoCard : Claim7 := { stood := { row := fnLegaciesUptoRow, standIns := [], harness := (true, "e4fbfd773135271ee3dcf82aea3f47320faf0973266f37bb7d5129f4e13cfdaa"), looks := true }, kinds := [], alts := [], laidByText := true, laidKinds := [.data, .data, .data, .data, .pinned], laidTests := true, laidLooks := .later }
def FnLegaciesUptoCardSaid : Prop := Claim7.holds Tryz.pinned (.plain (OpenSpec.upto fnLegaciesSpec)) fnLegaciesUptoCard

/-- THE SECOND FORM's CARD OF 'laws.FnExactPartBytes'. -/
def fnExactPartBytesUptoCard : Claim7 := { stood := { row := fnExactPartBytesUptoRow, standIns := [], harness := (true, "e4fbfd773135271ee3dcf82aea3f47320faf0973266f37bb7d5129f4e13cfdaa"), looks := true }, kinds := [], alts := [], laidByText := true, laidKinds := [.data, .data, .data, .data, .pinned], laidTests := true, laidLooks := .later }
def FnExactPartBytesUptoCardSaid : Prop := Claim7.holds Tryz.pinned (.plain (OpenSpec.upto fnExactPartBytesSpec)) fnExactPartBytesUptoCard

/-- THE SECOND FORM's CARD OF 'laws.FnExactPartCodes'. -/
def fnExactPartCodesUptoCard : Claim7 := { stood := { row := fnExactPartCodesUptoRow, standIns := [], harness := (true, "e4fbfd773135271ee3dcf82aea3f47320faf0973266f37bb7d5129f4e13cfdaa"), looks := true }, kinds := [], alts := [], laidByText := true, laidKinds := [.data, .data, .data, .data, .pinned], laidTests := true, laidLooks := .later }
def FnExactPartCodesUptoCardSaid : Prop := Claim7.holds Tryz.pinned (.plain (OpenSpec.upto fnExactPartCodesSpec)) fnExactPartCodesUptoCard

/-- THE SECOND FORM's CARD OF 'laws.FnExactConvertPart'. -/
def fnExactConvertPartUptoCard : Claim7 := { stood := { row := fnExactConvertPartUptoRow, standIns := [], harness := (true, "e4fbfd773135271ee3dcf82aea3f47320faf0973266f37bb7d5129f4e13cfdaa"), looks := true }, kinds := [], alts := [], laidByText := true, laidKinds := [.data, .data, .data, .data, .pinned], laidTests := true, laidLooks := .later }
def FnExactConvertPartUptoCardSaid : Prop := Claim7.holds Tryz.pinned (.plain (OpenSpec.upto fnExactConvertPartSpec)) fnExactConvertPartUptoCard

/-- THE SECOND FORM's CARD OF 'laws.FnExactSubjectOf'. -/
def fnExactSubjectOfUptoCard : Claim7 := { stood := { row := fnExactSubjectOfUptoRow, standIns := [], harness := (true, "e4fbfd773135271ee3dcf82aea3f47320faf0973266f37bb7d5129f4e13cfdaa"), looks := true }, kinds := [], alts := [], laidByText := true, laidKinds := [.data, .data, .data, .data, .pinned], laidTests := true, laidLooks := .later }
def FnExactSubjectOfUptoCardSaid : Prop := Claim7.holds Tryz.pinned (.plain (OpenSpec.upto fnExactSubjectOfSpec)) fnExactSubjectOfUptoCard

/-- THE SECOND FORM's CARD OF 'laws.FnExactPreviewOf'. -/
def fnExactPreviewOfUptoCard : Claim7 := { stood := { row := fnExactPreviewOfUptoRow, standIns := [], harness := (true, "e4fbfd773135271ee3dcf82aea3f47320faf0973266f37bb7d5129f4e13cfdaa"), looks := true }, kinds := [], alts := [], laidByText := true, laidKinds := [.data, .data, .data, .data, .pinned], laidTests := true, laidLooks := .later }
def FnExactPreviewOfUptoCardSaid : Prop := Claim7.holds Tryz.pinned (.plain (OpenSpec.upto fnExactPreviewOfSpec)) fnExactPreviewOfUptoCard

/-- THE SECOND FORM's CARD OF 'laws.FnExactLegacyOf'. -/
def fnExactLegacyOfUptoCard : Claim7 := { stood := { row := fnExactLegacyOfUptoRow, standIns := [], harness := (true, "e4fbfd773135271ee3dcf82aea3f47320faf0973266f37bb7d5129f4e13cfdaa"), looks := true }, kinds := [], alts := [], laidByText := true, laidKinds := [.data, .data, .data, .data, .pinned], laidTests := true, laidLooks := .later }
def FnExactLegacyOfUptoCardSaid : Prop := Claim7.holds Tryz.pinned (.plain (OpenSpec.upto fnExactLegacyOfSpec)) fnExactLegacyOfUptoCard
end Rows
end Go.Proofs.YtkjnhcnbbojajaaGreatDoor
