/- The closed facts of the row of the law FnExactLegacyOf, one by one. -/
import Derived.Test.YtkjnhcnbbojajaaGreatDoorJfz
import Derived.Test.YtkjnhcnbbojajaaGreatDoorCards
import Derived.Test.YtkjnhcnbbojajaaGreatDoorTie
import Derived.WalkKit
import Derived.ProofKit
import Derived.OpenShut
namespace Go.Proofs.YtkjnhcnbbojajaaGreatDoor.fnExactLegacyOf
open Go.ChangeShapes Go.WideShapes Go.ChangeAt Go.RowKit

theorem jf1 : (Rows.fnExactLegacyOfRow.wf (OpenSpec.ofChange Rows.fnExactLegacyOfSpec)) = true := by kernel_rfl
theorem jf2 : (laidOutB Tryz.prog) = true := jz2
theorem jf3 : (mapsRowed Tryz.prog) = true := jz3
theorem jf4 : (Tryz.f15.params.all (Tryz.prog.readableRec ·)) = true := by kernel_rfl
theorem jf5 : (namedTie Tryz.prog Rows.fnExactLegacyOfRow.named Rows.fnExactLegacyOfSpec.vars) = true := by kernel_rfl
theorem jf6 : ((Rows.fnExactLegacyOfRow.stops == [])) = true := by kernel_rfl
theorem jf7 : ((Tryz.prog.stops == [])) = true := jz7
theorem jf8 : ((Rows.fnExactLegacyOfRow.knobs == [])) = true := by kernel_rfl
theorem jf9 : ((Tryz.prog.stopKnobs == [])) = true := jz9
theorem jf10 : ((Rows.fnExactLegacyOfRow.inPlace == Tryz.prog.inPlace 15)) = true := by kernel_rfl
theorem jf11 : ((Rows.fnExactLegacyOfRow.unfollowed == Tryz.prog.unfollowed 15)) = true := by kernel_rfl
theorem jf12 : ((Rows.fnExactLegacyOfRow.recurses == Tryz.prog.recurses 15)) = true := by kernel_rfl
theorem jf13 : ((Rows.fnExactLegacyOfRow.named == Tryz.prog.varsNamed 15)) = true := by kernel_rfl
theorem jf14 : ((Rows.fnExactLegacyOfRow.maps == (Tryz.f15.params.toList ++ Rows.fnExactLegacyOfSpec.plain.varTypes Tryz.prog).any (Tryz.prog.mapsRec ·))) = true := by kernel_rfl
theorem jf15 : ((Rows.fnExactLegacyOfRow.ifaces == (Tryz.f15.params.toList ++ Rows.fnExactLegacyOfSpec.plain.varTypes Tryz.prog).any (Tryz.prog.ifacesRec ·))) = true := by kernel_rfl
theorem jf16 : ((Rows.fnExactLegacyOfRow.mapsOut == Tryz.prog.mapsAmong Tryz.f15.resultTypes.toList)) = true := by kernel_rfl
theorem jf17 : ((Rows.fnExactLegacyOfRow.loops == (Tryz.f15.params.toList ++ Rows.fnExactLegacyOfSpec.plain.varTypes Tryz.prog).any (Tryz.prog.loopsFrom ·))) = true := by kernel_rfl
theorem jf18 : ((Rows.fnExactLegacyOfRow.wideKeys == (Tryz.f15.params.toList ++ Rows.fnExactLegacyOfSpec.plain.varTypes Tryz.prog ++ Tryz.f15.resultTypes.toList).any (Tryz.prog.wideKeysFrom ·))) = true := by kernel_rfl
theorem jf19 : (Rows.fnExactLegacyOfSpec.vars.all (Tryz.prog.varReadable ·)) = true := by kernel_rfl
theorem jf20 : (Tryz.f15.resultTypes.all (fun t => Tryz.prog.readableRec t && decide (t < Tryz.prog.types.size))) = true := by kernel_rfl
theorem jf21 : ((Rows.fnExactLegacyOfRow.ifacesOut == Tryz.f15.resultTypes.toList.any (Tryz.prog.ifacesRec ·))) = true := by kernel_rfl
theorem jf22 : ((Rows.fnExactLegacyOfRow.loopsOut == Tryz.f15.resultTypes.toList.any (Tryz.prog.loopsFrom ·))) = true := by kernel_rfl
theorem jf23 : ((Rows.fnExactLegacyOfRow.plainKeys == Tryz.prog.plainKeys)) = true := by kernel_rfl
theorem jf24 : (Rows.fnExactLegacyOfRow.shortTexts.isNone) = true := by kernel_rfl
theorem jf25 : (Tryz.prog.stopsHeard) = true := jz25
theorem jf26 : (Tryz.prog.mayEnter) = true := jz26
theorem jf27 : ((Rows.fnExactLegacyOfRow.lifted == Tryz.prog.liftsFinal)) = true := jz27
theorem jf28 : ((Tryz.prog.make == some Rows.fnExactLegacyOfRow.make)) = true := by kernel_rfl
theorem jf29 : ((Rows.fnExactLegacyOfRow.kinds == (if Rows.fnExactLegacyOfRow.domain.isEmpty then [] else Tryz.f15.params.toList.map fun t => match Tryz.prog.underlying t with | some (.int k) => some k | _ => none))) = true := by kernel_rfl
theorem jf30 : ((Rows.fnExactLegacyOfRow.pinned == Rows.fnExactLegacyOfRow.pinnedBy)) = true := by kernel_rfl
theorem jf31 : ((Rows.fnExactLegacyOfRow.veiled == (Tryz.f15.params.toList ++ Rows.fnExactLegacyOfSpec.plain.varTypes Tryz.prog ++ Tryz.f15.resultTypes.toList).any (Tryz.prog.veiledRec ·))) = true := by kernel_rfl
theorem jf32 : (Rows.fnExactLegacyOfRow.veiledFits Tryz.prog Tryz.f15.params.toList (Tryz.f15.params.toList ++ Rows.fnExactLegacyOfSpec.plain.varTypes Tryz.prog ++ Tryz.f15.resultTypes.toList)) = true := by kernel_rfl
set_option maxRecDepth 100000 in
theorem closedF : joinedFacts Tryz.prog 15 Tryz.f15 Rows.fnExactLegacyOfSpec Rows.fnExactLegacyOfRow = true := by
  delta joinedFacts
  refine jzAnd ?_ jf32
  refine jzAnd ?_ jf31
  refine jzAnd ?_ jf30
  refine jzAnd ?_ jf29
  refine jzAnd ?_ jf28
  refine jzAnd ?_ jf27
  refine jzAnd ?_ jf26
  refine jzAnd ?_ jf25
  refine jzAnd ?_ jf24
  refine jzAnd ?_ jf23
  refine jzAnd ?_ jf22
  refine jzAnd ?_ jf21
  refine jzAnd ?_ jf20
  refine jzAnd ?_ jf19
  refine jzAnd ?_ jf18
  refine jzAnd ?_ jf17
  refine jzAnd ?_ jf16
  refine jzAnd ?_ jf15
  refine jzAnd ?_ jf14
  refine jzAnd ?_ jf13
  refine jzAnd ?_ jf12
  refine jzAnd ?_ jf11
  refine jzAnd ?_ jf10
  refine jzAnd ?_ jf9
  refine jzAnd ?_ jf8
  refine jzAnd ?_ jf7
  refine jzAnd ?_ jf6
  refine jzAnd ?_ jf5
  refine jzAnd ?_ jf4
  refine jzAnd ?_ jf3
  refine jzAnd ?_ jf2
  exact jf1
theorem byText : Rows.fnExactLegacyOfRow.wfByText (OpenSpec.ofChange Rows.fnExactLegacyOfSpec) = true := by kernel_rfl
theorem goesF : false = Rows.fnExactLegacyOfRow.goesBy Tryz.pinned.checked.prog := by kernel_rfl
end Go.Proofs.YtkjnhcnbbojajaaGreatDoor.fnExactLegacyOf
