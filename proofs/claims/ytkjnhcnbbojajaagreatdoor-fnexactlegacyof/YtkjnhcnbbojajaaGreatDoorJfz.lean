/- The closed facts that speak of the program alone. -/
import Derived.Test.YtkjnhcnbbojajaaGreatDoorCards
import Derived.Test.YtkjnhcnbbojajaaGreatDoorTie
import Derived.WalkKit
import Derived.ProofKit
import Derived.OpenShut
namespace Go.Proofs.YtkjnhcnbbojajaaGreatDoor
open Go.ChangeShapes Go.WideShapes Go.ChangeAt Go.RowKit

theorem jz2 : (laidOutB Tryz.prog) = true := by kernel_rfl
theorem jz3 : (mapsRowed Tryz.prog) = true := by kernel_rfl
theorem jz7 : ((Tryz.prog.stops == [])) = true := by kernel_rfl
theorem jz9 : ((Tryz.prog.stopKnobs == [])) = true := by kernel_rfl
theorem jz25 : (Tryz.prog.stopsHeard) = true := by kernel_rfl
theorem jz26 : (Tryz.prog.mayEnter) = true := by kernel_rfl
theorem jz27 : ((Rows.fnExactPartBytesRow.lifted == Tryz.prog.liftsFinal)) = true := by kernel_rfl
theorem jzMain : Tryz.pinned.checked.prog.mainIs = some (Rows.fnExactPartBytesCard.stood.harness.1, Rows.fnExactPartBytesCard.stood.harness.2.toList) := by kernel_rfl
theorem jzLooks : true = Tryz.pinned.checked.prog.looks [] := by kernel_rfl
theorem jzOwn : ownKnob Tryz.prog.godebug = none := by kernel_rfl
theorem jzAnd {a b : Bool} (h : a = true) (k : b = true) : (a && b) = true := by rw [h, k]; rfl
end Go.Proofs.YtkjnhcnbbojajaaGreatDoor
