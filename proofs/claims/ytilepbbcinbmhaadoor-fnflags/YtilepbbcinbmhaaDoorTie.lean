/-
  DERIVED. GIVEN WITH THE SEED: THE PROGRAM's TIES (one call each: nine closed facts by the kernel) AND EACH ROW's TIE, after the 31st guide's Derived/Test/Toyas{Tie, Card}.lean. No idea stands in it: it is a product of the set-up. Laid BY PROGRAM, IN A SANDBOX (cutbox-door.mjs). By AI agents, Wed Nov 11 2026. No macro, syntax, notation, axiom, sorry.
-/
import Derived.Test.YtilepbbcinbmhaaDoorRows
import Derived.LaidByTextLater
import Derived.SevenTiedAt
import Derived.LaidSub
import Derived.LaidOnce
namespace Go.Proofs.YtilepbbcinbmhaaDoor
open Go
set_option maxRecDepth 100000
theorem seatTie1 : Tryd.prog.laidByTextLater [("loop.example/g00447/impl.flagWords", Rows.laid_loop_example_g00447_impl_flagWords), ("loop.example/g00447/impl.kindHas", Rows.laid_loop_example_g00447_impl_kindHas)] [.data, .data] true :=
  Program.laidByTextLater_by_one 19 8 9 (by kernel_rfl) (by kernel_rfl) (by kernel_rfl) (by kernel_rfl) (by kernel_rfl) (by kernel_rfl) (fun _ _ => by kernel_rfl)
theorem noOwnUnsafe : Tryd.pinned.checked.prog.headLifts.contains "ownunsafe" = false := by kernel_rfl
theorem tie : Tryd.prog.laidByTextLater [("loop.example/g00447/impl.flagWords", Rows.laid_loop_example_g00447_impl_flagWords)] [.data] true :=
  Program.laidByTextLater.sub seatTie1 ["loop.example/g00447/impl.flagWords"] (by kernel_rfl) (by kernel_rfl)
theorem fnFlags_row_tie : Rows.fnFlagsRow.laidByTextAt .later Tryd.pinned [.data] true :=
  OpenClaim.laidByTextAt_later rfl rfl tie noOwnUnsafe
theorem tie2 : Tryd.prog.laidByTextLater [("loop.example/g00447/impl.kindHas", Rows.laid_loop_example_g00447_impl_kindHas)] [.data] true :=
  Program.laidByTextLater.sub seatTie1 ["loop.example/g00447/impl.kindHas"] (by kernel_rfl) (by kernel_rfl)
theorem fnExactOpFault_row_tie : Rows.fnExactOpFaultRow.laidByTextAt .later Tryd.pinned [.data] true :=
  OpenClaim.laidByTextAt_later rfl rfl tie2 noOwnUnsafe
theorem fnFlagsUpto_row_tie : Rows.fnFlagsUptoRow.laidByTextAt .later Tryd.pinned [.data] true :=
  OpenClaim.laidByTextAt_later rfl rfl tie noOwnUnsafe
theorem fnExactOpFaultUpto_row_tie : Rows.fnExactOpFaultUptoRow.laidByTextAt .later Tryd.pinned [.data] true :=
  OpenClaim.laidByTextAt_later rfl rfl tie2 noOwnUnsafe
end Go.Proofs.YtilepbbcinbmhaaDoor
