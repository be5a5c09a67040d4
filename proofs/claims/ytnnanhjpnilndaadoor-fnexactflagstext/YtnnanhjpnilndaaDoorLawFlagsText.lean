/- FlagsText answers as the model at every number: the law returns true, whatever the input; what the row lists is laid by the program's own text. -/
import Derived.Test.YtnnanhjpnilndaaDoorCards
import Derived.Test.YtnnanhjpnilndaaDoorTie
import Derived.Test.YtnnanhjpnilndaaDoorFli
import Derived.WalkKit
import Derived.ProofKit
import Derived.OpenShut
import Derived.ShutString
import Derived.ChangeOld
import Derived.Below
import Derived.LaidMore
import Derived.OpenVars
import Derived.Stop.Joined
import Derived.Lib.LaidTab
import Derived.Stop.LaidErr
namespace Go.Proofs.YtnnanhjpnilndaaDoor.fnExactFlagsText
open Go.ChangeShapes Go.WideShapes Go.ChangeAt Go.WideMaps Go.WideElems Go.RowKit
open Go.ChangeMaps (open_string shut_string)
set_option linter.unusedVariables false

theorem own : ownKnob Tryd.prog.godebug = none := by kernel_rfl
theorem laidOut : laidOutB Tryd.prog = true := by kernel_rfl
theorem gF : Tryd.prog.globalNamed "loop.example/g00447/impl.flagWords" = some 0 := by kernel_rfl
theorem gtF : (Tryd.prog.globals[0]?).map (·.type) = some 78 := by kernel_rfl
theorem cF : Tryd.prog.cellsOf 78 = 4 := by kernel_rfl
theorem cellsS : Tryd.prog.cellsOf 9 = 1 := by kernel_rfl

/-- The door's own heap meets the condition: closed facts. -/
theorem door_met (os : Os) (args : Array Value) : laidMetH Tryd.prog Rows.fnExactFlagsTextRow.laid ((World.doorLaid Tryd.prog 400 os).forCall (fun _ _ => 0) ⟨#[], args, []⟩).memory :=
  laidMetH_of_parts3 (fuel := 8) (laidMet_of_run' 8 (by kernel_rfl) (by kernel_rfl)) (by kernel_rfl) (by kernel_rfl)

/-- WHAT THE ROW LISTS GIVES THE WALK: the table lies in its variable. -/
theorem of_laidF {W : World} (h : laidMetH Tryd.prog Rows.fnExactFlagsTextRow.laid W) : TabF W := fun v hv => by
  have ht : StrsAre Tryd.prog W "loop.example/g00447/impl.flagWords" flZ := strsAre_of_head (rest := []) gF gtF Tryd.underlying78 Tryd.underlying9 cellsS cF h
  exact ht.cell gF v hv

/-! ### THE WALK -/
set_option maxHeartbeats 1600000 in
set_option maxRecDepth 100000 in
theorem walk (a0 : Int) (w : World) (w0 : (Lit.int .i64 a0).wf = true) (htF : TabF w) :
    Calls Tryd.prog 4 #[.int .i64 a0] w fun e w' => e = .returned (.bool true) ∧ Below w.heap.size w w' := by
  have HSP : Hid (∀ w : World, Calls Tryd.prog _ #[.int .i64 a0] w _) := fun w => specFlagsText_any a0 w
  have HIM : Hid (∀ w : World, TabF w → Calls Tryd.prog _ #[.int .i64 a0] w _) := fun w h => flagsTextR_any a0 w h
  generalize ftV a0 = rv at *
  obtain ⟨rc, rx⟩ := rv
  dsimp only at HSP HIM
  go_enter Tryd.func4, Tryd.ntmps4
  go_wp2_with fail
  refine (HSP.out w).mono ?_
  rintro e w1 ⟨rfl, hb1⟩
  have hb2 : Below w1.heap.size w1 (w1.alloc (.cells #[.int .i64 rc, .string (str rx)] 29)) := (Below.refl _ _).alloc (Nat.le_refl _) _
  have hB2 := hb1.trans (hb2.mono hb1.size)
  have y0 : (w1.alloc (.cells #[.int .i64 rc, .string (str rx)] 29)).cell? ⟨w1.heap.size, 0, none⟩ = some (.int .i64 rc) := by simp
  have y1 : (w1.alloc (.cells #[.int .i64 rc, .string (str rx)] 29)).cell? ⟨w1.heap.size, 1, none⟩ = some (.string (str rx)) := by simp
  have hg : w1.heap.size < (w1.alloc (.cells #[.int .i64 rc, .string (str rx)] 29)).heap.size := by simp
  go_wp2_with fail
  generalize (w1.alloc (.cells #[.int .i64 rc, .string (str rx)] 29)) = W2 at *
  refine (HIM.out W2 (htF.below hB2)).mono ?_
  rintro e w3 ⟨rfl, hb3⟩
  have hB3 := hB2.trans (hb3.mono hB2.size)
  have y0 := (hb3.cell (p := ⟨w1.heap.size, 0, none⟩) hg).trans y0
  have y1 := (hb3.cell (p := ⟨w1.heap.size, 1, none⟩) hg).trans y1
  have hb4 : Below w3.heap.size w3 (w3.alloc (.cells #[.int .i64 rc, .string (str rx)] 29)) := (Below.refl _ _).alloc (Nat.le_refl _) _
  have hB4 := hB3.trans (hb4.mono hB3.size)
  have hg' : w1.heap.size < w3.heap.size := Nat.lt_of_lt_of_le hg hb3.size
  have y0 := (hb4.cell (p := ⟨w1.heap.size, 0, none⟩) hg').trans y0
  have y1 := (hb4.cell (p := ⟨w1.heap.size, 1, none⟩) hg').trans y1
  go_wp2_with fail
  refine (eqTextResult_fl rc (str rx) _).mono ?_
  rintro e w5 ⟨rfl, hb5⟩
  have hB5 := hB4.trans (hb5.mono hB4.size)
  clear y0 y1 hb5 hb4 hb3 hb2 hb1 hB2 hB3 hB4
  go_wp2
  go_ret
  exact ⟨rfl, hB5⟩

/-! ### THE ROW's STEP -/
set_option maxRecDepth 100000 in
theorem lifted (os : Os) (started : os.Started) (H : Type) (enc : TypeId × Value → H) :
    ReturnsInHanded {} Tryd.checked os 4 .any (fun w args => (Rows.fnExactFlagsTextSpec.pre enc Tryd.prog Tryd.f4 [] false w args ∧ laidMetH Tryd.prog Rows.fnExactFlagsTextRow.laid w) ∧ sizedMet enc Tryd.prog Tryd.f4 (OpenSpec.ofChange Rows.fnExactFlagsTextSpec) false w args)
      (Rows.fnExactFlagsTextSpec.post enc Tryd.prog Tryd.f4 false true false false) := by
  refine returnsInHanded_of_change_and (C := Tryd.checked) (X := fun w _ => laidMetH Tryd.prog Rows.fnExactFlagsTextRow.laid w) (fun _ _ _ hh h => h.of_heap hh) own started (by kernel_rfl) Tryd.func4
    (ChangeSpec.witness_shaped (enc := enc) (C := Tryd.checked) (os := os) (X := fun w _ => laidMetH Tryd.prog Rows.fnExactFlagsTextRow.laid w) false (World.doorLaid Tryd.prog 400 os) #[.int .i64 0] 8 rfl (World.shaped_of_RefB (by kernel_rfl) (by kernel_rfl)) (by kernel_rfl) (by kernel_rfl) (by kernel_rfl) (door_met os _)) ?_
  intro W base args ds gs before hval0 hW _ _ hL _
  have hval : ∀ (j : Nat) t v, Tryd.f4.params[j]? = some t → args[j]? = some v → Value.okWide Tryd.prog W .any base t v := hval0
  have hW' := hW
  obtain ⟨p, q, hA0, hV, rfl, hfz, hnd⟩ := hW
  have hA : DataW.TrodAll enc Tryd.prog W 0 (fun _ => true) true Tryd.f4.params.toList args.toList ds p := hA0
  rw [Tryd.params4] at hA hval
  obtain ⟨v0, vs0, d0, ds0, p0, q0, hargs, rfl, rfl, h0, r0⟩ := trodAll_cons hA
  obtain ⟨rfl, rfl, rfl⟩ := trodAll_nil r0
  obtain rfl : args = #[v0] := by cases args; simp_all
  obtain ⟨a0, rfl, rfl, rfl, w0⟩ := open_int Tryd.underlying2 (hval 0 2 v0 rfl rfl) h0
  obtain ⟨dv, rfl⟩ : ∃ d, gs = [d] := by obtain ⟨_, _, _, _, d, _, e, _⟩ := trodVars_one (n := "loop.example/g00447/impl.flagWords") hV; exact ⟨d, e⟩
  clear hA0 hval0
  refine (walk a0 W w0 (of_laidF hL)).mono fun e W' ⟨he, bel⟩ => ?_
  subst he
  exact ⟨_, rfl, _, _, _, [], _, _, hW', trodAll_mk1 (shut_bool Tryd.underlying4 _), (trodAll_cons_mk (shut_int Tryd.underlying2 w0) trodAll_mk0), Below.trodVars laidOut bel (by kernel_rfl) hV, bel.frame _, fun h => by cases h⟩

theorem over : Rows.fnExactFlagsTextRow.holds Tryd.pinned (OpenSpec.ofChange Rows.fnExactFlagsTextSpec) :=
  OpenClaim.holds_of_wide 4 Tryd.f4 rfl rfl rfl rfl rfl rfl rfl ⟨rfl, rfl, rfl, rfl, rfl⟩ rfl rfl rfl rfl rfl (by kernel_rfl) Tryd.func4 (by kernel_rfl)
    (of_decide_eq_true (by kernel_rfl)) (by unfold Func.isWrapper; first | (rw [if_pos (by decide +kernel)]; kernel_rfl) | (rw [if_neg (by decide +kernel)]; exact ⟨rfl, rfl⟩))
    (fun os started H enc _ => lifted os started H enc)

theorem plainF (f : FuncId) (fn : Func) (hf : Tryd.pinned.checked.prog.funcNamed "loop.example/g00447/laws.FnExactFlagsText" = some f) (hfn : Tryd.pinned.checked.prog.funcs[f]? = some fn) :
    false = Tryd.pinned.checked.prog.looks [] ∧ ∀ (j : Nat) t, fn.params[j]? = some t → Tryd.pinned.checked.prog.wantsStandIn t = false := by
  obtain rfl : f = 4 := Option.some.inj ((show Tryd.prog.funcNamed "loop.example/g00447/laws.FnExactFlagsText" = some 4 by kernel_rfl).symm.trans hf) |>.symm
  obtain rfl : fn = Tryd.f4 := (Option.some.inj (Tryd.func4.symm.trans hfn)).symm
  refine ⟨by kernel_rfl, fun j t ht => ?_⟩
  rw [Tryd.params4] at ht
  have hm : t ∈ [2] := by simpa using Array.mem_of_getElem? ht
  have hall : ([2].all fun u => !Tryd.prog.wantsStandIn u) = true := by kernel_rfl
  exact (show Tryd.prog.wantsStandIn t = false by simpa using List.all_eq_true.1 hall t hm)
end Go.Proofs.YtnnanhjpnilndaaDoor.fnExactFlagsText

namespace Go.Proofs.YtnnanhjpnilndaaDoor
/-- THE TIED CARD. -/
theorem fnExactFlagsText_card : Rows.FnExactFlagsTextCardSaid :=
  Claim7.holds_tied_plain_at .later [] _ _ _ _ fnExactFlagsText.over (fun _ h => by cases h) (by kernel_rfl) (fun _ h => by cases h) fnExactFlagsText_row_tie rfl ⟨rfl, rfl⟩ (by kernel_rfl) rfl fnExactFlagsText.plainF (by kernel_rfl)
end Go.Proofs.YtnnanhjpnilndaaDoor
