/- ApplyAll answers as the model at every store and all ops: the law returns true, whatever the input; the condition: the table kindHas lies in its variable, which the card ties to the program's text. -/
import Derived.Test.YtejbbnpgghpgaaaGreatDoorCards
import Derived.Test.YtejbbnpgghpgaaaGreatDoorTie
import Derived.Test.YtejbbnpgghpgaaaGreatDoorJfzToMrk0
import Derived.Test.YtejbbnpgghpgaaaGreatDoorOpmToOpt
import Derived.Test.YtejbbnpgghpgaaaGreatDoorAlw
import Derived.WalkKit
import Derived.ProofKit
import Derived.OpenShut
import Derived.ShutString
import Derived.ChangeOld
import Derived.Below
import Derived.LaidMore
import Derived.OpenVars
import Derived.Stop.Joined
import Derived.Lib.LaidTab
import Derived.Stop.LaidErr
namespace Go.Proofs.YtejbbnpgghpgaaaGreatDoor.fnExactApplyAll
open Go.ChangeShapes Go.WideShapes Go.ChangeAt Go.WideMaps Go.WideElems Go.RowKit
open Go.ChangeMaps (open_string shut_string)
set_option linter.unusedVariables false
theorem own : ownKnob Tryz.prog.godebug = none := jzOwn
theorem laidOut : laidOutB Tryz.prog = true := jz2
theorem g8 : Tryz.prog.globalNamed "loop.example/g00447/impl.kindHas" = some 0 := by kernel_rfl
theorem gt8 : (Tryz.prog.globals[0]?).map (·.type) = some 179 := by kernel_rfl
theorem c8 : Tryz.prog.cellsOf 179 = 8 := by kernel_rfl
theorem cellsB : Tryz.prog.cellsOf 2 = 1 := by kernel_rfl
theorem door_met (os : Os) (args : Array Value) : laidMetH Tryz.prog Rows.fnExactApplyAllRow.laid ((World.doorLaid Tryz.prog 400 os).forCall (fun _ _ => 0) ⟨#[], args, []⟩).memory :=
  laidMetH_of_parts3 (fuel := 8) (laidMet_of_run' 8 (by kernel_rfl) (by kernel_rfl)) (by kernel_rfl) (by kernel_rfl)
theorem of_laid8 {W : World} (h : laidMetH Tryz.prog Rows.fnExactApplyAllRow.laid W) : TabH8 W := fun v hv => by
  have ht : Lib.TabIs Tryz.prog W "loop.example/g00447/impl.kindHas" .i64 khZ := Lib.tabIs_of_head (rest := []) g8 gt8 Tryz.underlying179 Tryz.underlying2 cellsB c8 h
  rw [ht.cell g8 v hv]
/-! ### THE WALK -/
set_option maxHeartbeats 1600000 in
set_option maxRecDepth 100000 in
theorem walk (t0 : Int) (q0 : SlQ) (l0 : List Bx) (q1 : SlQ) (l1 : List OpR) (w : World) (w0 : IsXs 0 w q0 l0 ∧ ∀ i, i < l0.length → (nthX l0 i).n.size ≤ maxLen) (w1 : IsOs 0 w q1 l1 ∧ ∀ i, i < l1.length → (nthO l1 i).x.size ≤ maxLen ∧ (nthO l1 i).t.size ≤ maxLen) (ht8 : TabH8 w) :
    Calls Tryz.prog 4 #[.agg #[.int .i64 t0, slW q0], slW q1] w fun e w' => e = .returned (.bool true) ∧ Below w.heap.size w w' := by
  exact walkApplyAll t0 q0 l0 q1 l1 w w0.1 w0.2 w1.1 w1.2 ht8
/-! ### THE ROW's STEP -/
set_option maxRecDepth 100000 in
theorem lifted (os : Os) (started : os.Started) (H : Type) (enc : TypeId × Value → H) :
    ReturnsInHanded {} Tryz.checked os 4 .any (fun w args => (Rows.fnExactApplyAllSpec.pre enc Tryz.prog Tryz.f4 [] false w args ∧ laidMetH Tryz.prog Rows.fnExactApplyAllRow.laid w) ∧ sizedMet enc Tryz.prog Tryz.f4 (OpenSpec.ofChange Rows.fnExactApplyAllSpec) false w args)
      (Rows.fnExactApplyAllSpec.post enc Tryz.prog Tryz.f4 false true false false) := by
  refine returnsInHanded_of_change_and (C := Tryz.checked) (X := fun w _ => laidMetH Tryz.prog Rows.fnExactApplyAllRow.laid w) (fun _ _ _ hh h => h.of_heap hh) own started (by kernel_rfl) Tryz.func4
    (ChangeSpec.witness_shaped (enc := enc) (C := Tryz.checked) (os := os) (X := fun w _ => laidMetH Tryz.prog Rows.fnExactApplyAllRow.laid w) false (World.doorLaid Tryz.prog 400 os) #[.agg #[.int .i64 0, .slice none 0 0], .slice none 0 0] 8 rfl (World.shaped_of_RefB (by kernel_rfl) (by kernel_rfl)) (by kernel_rfl) (by kernel_rfl) (by kernel_rfl) (door_met os _)) ?_
  intro W base args ds gs before hval0 hW _ _ hL _
  have hval : ∀ (j : Nat) t v, Tryz.f4.params[j]? = some t → args[j]? = some v → Value.okWide Tryz.prog W .any base t v := hval0
  have hW' := hW
  obtain ⟨p, q, hA0, hV, rfl, hfz, hnd⟩ := hW
  have hA : DataW.TrodAll enc Tryz.prog W 0 (fun _ => true) true Tryz.f4.params.toList args.toList ds p := hA0
  rw [Tryz.params4] at hA hval
  obtain ⟨v0, vs0, d0, ds0, p0, q0, hargs, rfl, rfl, h0, r0⟩ := trodAll_cons hA
  obtain ⟨v1, vs1, d1, ds1, p1, q1, rfl, rfl, rfl, h1, r1⟩ := trodAll_cons r0
  obtain ⟨rfl, rfl, rfl⟩ := trodAll_nil r1
  obtain rfl : args = #[v0, v1] := by cases args; simp_all
  obtain ⟨cs0, rfl, -⟩ := okWide_struct Tryz.underlying24 (hval 0 24 v0 rfl rfl)
  have k0 := h0
  have lt0 : ∀ x ∈ p0, x.block < W.heap.size := by obtain ⟨m, hm⟩ := k0; exact DataW.trod_lt m _ _ _ hm
  obtain ⟨fuel0, hf0⟩ := h0
  obtain ⟨t0, q0, l0, hc0, w0⟩ := open_store stoT hf0
  obtain rfl : cs0 = #[.int .i64 t0, slW q0] := Array.toList_inj.1 hc0
  have k1 := h1
  have lt1 : ∀ x ∈ p1, x.block < W.heap.size := by obtain ⟨m, hm⟩ := k1; exact DataW.trod_lt m _ _ _ hm
  obtain ⟨a1, len1, cap1, rfl⟩ := okWide_slice Tryz.underlying47 (hval 1 47 v1 rfl rfl)
  obtain ⟨fuel1, hf1⟩ := h1
  obtain ⟨⟨x1, y1, z1⟩, l1, hc1, w1⟩ := open_os Tryz.underlying47 opT hf1
  simp [Value.cells] at hc1
  obtain ⟨rfl, rfl, rfl⟩ := hc1
  obtain ⟨dv, rfl⟩ : ∃ d, gs = [d] := by obtain ⟨_, _, _, _, d, _, e, _⟩ := trodVars_one (n := "loop.example/g00447/impl.kindHas") hV; exact ⟨d, e⟩
  clear hA0 hval0
  refine (walk t0 q0 l0 _ l1 W w0 w1 (of_laid8 hL)).mono fun e W' ⟨he, bel⟩ => ?_
  subst he
  exact ⟨_, rfl, _, _, _, [], _, _, hW', trodAll_mk1 (shut_bool Tryz.underlying4 _), (trodAll_cons_mk (Below.trod laidOut (by kernel_rfl) (of_decide_eq_true (by kernel_rfl)) k0 bel lt0) (trodAll_cons_mk (Below.trod laidOut (by kernel_rfl) (of_decide_eq_true (by kernel_rfl)) k1 bel lt1) trodAll_mk0)), Below.trodVars laidOut bel (by kernel_rfl) hV, bel.frame _, fun h => by cases h⟩
theorem over : Rows.fnExactApplyAllRow.holds Tryz.pinned (OpenSpec.ofChange Rows.fnExactApplyAllSpec) :=
  OpenClaim.holds_of_wide 4 Tryz.f4 rfl rfl rfl rfl rfl rfl rfl ⟨rfl, rfl, rfl, rfl, rfl⟩ rfl rfl rfl rfl rfl (by kernel_rfl) Tryz.func4 closedF
    (of_decide_eq_true (by kernel_rfl)) (by unfold Func.isWrapper; first | (rw [if_pos (by decide +kernel)]; kernel_rfl) | (rw [if_neg (by decide +kernel)]; exact ⟨rfl, rfl⟩))
    (fun os started H enc _ => lifted os started H enc)
theorem plainF (f : FuncId) (fn : Func) (hf : Tryz.pinned.checked.prog.funcNamed "loop.example/g00447/laws.FnExactApplyAll" = some f) (hfn : Tryz.pinned.checked.prog.funcs[f]? = some fn) :
    false = Tryz.pinned.checked.prog.looks [] ∧ ∀ (j : Nat) t, fn.params[j]? = some t → Tryz.pinned.checked.prog.wantsStandIn t = false := by
  obtain rfl : f = 4 := Option.some.inj ((show Tryz.prog.funcNamed "loop.example/g00447/laws.FnExactApplyAll" = some 4 by kernel_rfl).symm.trans hf) |>.symm
  obtain rfl : fn = Tryz.f4 := (Option.some.inj (Tryz.func4.symm.trans hfn)).symm
  refine ⟨jzLooks, fun j t ht => ?_⟩
  rw [Tryz.params4] at ht
  have hm : t ∈ [24, 47] := by simpa using Array.mem_of_getElem? ht
  have hall : ([24, 47].all fun u => !Tryz.prog.wantsStandIn u) = true := by kernel_rfl
  exact (show Tryz.prog.wantsStandIn t = false by simpa using List.all_eq_true.1 hall t hm)
end Go.Proofs.YtejbbnpgghpgaaaGreatDoor.fnExactApplyAll
namespace Go.Proofs.YtejbbnpgghpgaaaGreatDoor
theorem fnExactApplyAll_card : Rows.FnExactApplyAllCardSaid :=
  Claim7.holds_tied_plain_at .later [] _ _ _ _ fnExactApplyAll.over (fun _ h => by cases h) fnExactApplyAll.byText (fun _ h => by cases h) fnExactApplyAll_row_tie rfl ⟨rfl, rfl⟩ jzMain rfl fnExactApplyAll.plainF fnExactApplyAll.goesF
end Go.Proofs.YtejbbnpgghpgaaaGreatDoor
