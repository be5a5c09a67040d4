/- OpFault answers as the model at every op: the law returns true, whatever the input; the condition: the table kindHas lies in its variable, which the card ties to the program's text. -/
import Derived.Test.YtlmbieclgkpofaaDoorCards
import Derived.Test.YtlmbieclgkpofaaDoorTie
import Derived.Test.YtlmbieclgkpofaaDoorOpu
import Derived.Test.YtlmbieclgkpofaaDoorOfw
import Derived.WalkKit
import Derived.ProofKit
import Derived.OpenShut
import Derived.ShutString
import Derived.ChangeOld
import Derived.Below
import Derived.LaidMore
import Derived.OpenVars
import Derived.Stop.Joined
import Derived.Lib.LaidTab
import Derived.Stop.LaidErr
namespace Go.Proofs.YtlmbieclgkpofaaDoor.fnExactOpFault
open Go.ChangeShapes Go.WideShapes Go.ChangeAt Go.WideMaps Go.WideElems Go.RowKit
open Go.ChangeMaps (open_string shut_string)
set_option linter.unusedVariables false

theorem own : ownKnob Tryd.prog.godebug = none := by kernel_rfl
theorem laidOut : laidOutB Tryd.prog = true := by kernel_rfl
theorem g8 : Tryd.prog.globalNamed "loop.example/g00447/impl.kindHas" = some 0 := by kernel_rfl
theorem gt8 : (Tryd.prog.globals[0]?).map (·.type) = some 65 := by kernel_rfl
theorem c8 : Tryd.prog.cellsOf 65 = 8 := by kernel_rfl
theorem cellsB : Tryd.prog.cellsOf 2 = 1 := by kernel_rfl

/-- The door's own heap meets the condition: closed facts. -/
theorem door_met (os : Os) (args : Array Value) : laidMetH Tryd.prog Rows.fnExactOpFaultRow.laid ((World.doorLaid Tryd.prog 400 os).forCall (fun _ _ => 0) ⟨#[], args, []⟩).memory :=
  laidMetH_of_parts3 (fuel := 8) (laidMet_of_run' 8 (by kernel_rfl) (by kernel_rfl)) (by kernel_rfl) (by kernel_rfl)

/-- WHAT THE ROW LISTS GIVES THE WALK: the table lies in its variable. -/
theorem of_laid8 {W : World} (h : laidMetH Tryd.prog Rows.fnExactOpFaultRow.laid W) : TabH8 W := fun v hv => by
  have ht : Lib.TabIs Tryd.prog W "loop.example/g00447/impl.kindHas" .i64 khZ := Lib.tabIs_of_head (rest := []) g8 gt8 Tryd.underlying65 Tryd.underlying2 cellsB c8 h
  rw [ht.cell g8 v hv]

/-! ### THE WALK -/
set_option maxHeartbeats 1600000 in
set_option maxRecDepth 100000 in
theorem walk (o0 : OpR) (p0 : SlO) (w : World) (w0 : IsOp 0 w p0 o0 ∧ o0.x.size ≤ maxLen ∧ o0.t.size ≤ maxLen) (ht8 : TabH8 w) :
    Calls Tryd.prog 3 #[opX o0 p0] w fun e w' => e = .returned (.bool true) ∧ Below w.heap.size w w' := by
  obtain ⟨w0, hok⟩ := w0
  have hA0 : Below w.heap.size w (w.alloc (.cells #[.int .i64 o0.k, .string o0.x, .string o0.t, slW p0.1, .int .i64 o0.m, .int .i64 o0.f, .int .i64 o0.d, slW p0.2] 25)) := (Below.refl _ _).alloc (Nat.le_refl _) _
  have hZ0 := Qo.new w (.int .i64 o0.k) (.string o0.x) (.string o0.t) (slW p0.1) (.int .i64 o0.m) (.int .i64 o0.f) (.int .i64 o0.d) (slW p0.2) 25
  have hw0 := w0.below hA0
  have hT0 := ht8.below hA0
  have hG : w.heap.size < (w.alloc (.cells #[.int .i64 o0.k, .string o0.x, .string o0.t, slW p0.1, .int .i64 o0.m, .int .i64 o0.f, .int .i64 o0.d, slW p0.2] 25)).heap.size := by simp
  go_enter Tryd.func3, Tryd.ntmps3
  go_wp2_with fail
  generalize (w.alloc (.cells #[.int .i64 o0.k, .string o0.x, .string o0.t, slW p0.1, .int .i64 o0.m, .int .i64 o0.f, .int .i64 o0.d, slW p0.2] 25)) = W0 at *
  refine (szOp_ft o0 p0 1048576 W0 (by omega) (by omega) hw0 hok).mono ?_
  rintro e w1 ⟨r, rfl, hcase, hb1⟩
  have hB1 := hA0.trans (hb1.mono hA0.size)
  rcases hcase with rfl | ⟨r0, -, hn⟩
  · go_wp2
    go_ret
    exact ⟨rfl, hB1⟩
  · have hneg : ¬ r < 0 := by omega
    have hr1 := hw0.below hb1
    have hT1 := hT0.below hb1
    have hZ1 := hZ0.below hb1 hG
    clear w0 hw0 hA0 hb1 hZ0 hG hT0 ht8 W0
    obtain ⟨c0, c1, c2, c3, c4, c5, c6, c7⟩ := id hZ1
    dsimp only at c0 c1 c2 c3 c4 c5 c6 c7
    go_wp2_with fail
    refine (toOp_ft o0 p0 w1 hr1 hn).mono ?_
    rintro e w2 ⟨s2, rfl, ho2, hb2⟩
    have hB2 : Below w.heap.size w w2 := hB1.trans (hb2.mono hB1.size)
    have hr2 := hr1.below hb2
    have hT2 := hT1.below hb2
    have hZ2 := hZ1.below hb2 hZ1.lt
    clear c0 c1 c2 c3 c4 c5 c6 c7 hb2 hr1 hZ1 hB1 hT1
    go_wp2_with fail
    refine (specOpFault_any o0 s2 w2 ho2 hn.1 hn.2.1).mono ?_
    rintro e w3 ⟨rfl, hb3⟩
    have hB3 : Below w.heap.size w w3 := hB2.trans (hb3.mono hB2.size)
    have hr3 := hr2.below hb3
    have hT3 := hT2.below hb3
    have hZ3 := hZ2.below hb3 hZ2.lt
    clear hb3 hr2 hZ2 hB2 ho2 hT2
    obtain ⟨c0, c1, c2, c3, c4, c5, c6, c7⟩ := id hZ3
    dsimp only at c0 c1 c2 c3 c4 c5 c6 c7
    go_wp2_with fail
    refine (toOp_ft o0 p0 w3 hr3 hn).mono ?_
    rintro e w4 ⟨s4, rfl, ho4, hb4⟩
    have hB4 : Below w.heap.size w w4 := hB3.trans (hb4.mono hB3.size)
    have hr4 := hr3.below hb4
    have hT4 := hT3.below hb4
    have hZ4 := hZ3.below hb4 hZ3.lt
    clear c0 c1 c2 c3 c4 c5 c6 c7 hb4 hr3 hZ3 hB3 hT3
    have hL5 := hZ4.lt
    have hb5 : Below w4.heap.size w4 (w4.alloc (.cells #[.int .i64 o0.k, .string o0.x, .string o0.t, slW s4.1, .int .i64 o0.m, .int .i64 o0.f, .int .i64 o0.d, slW s4.2] 28)) := (Below.refl _ _).alloc (Nat.le_refl _) _
    have hX5 := Qo.new w4 (.int .i64 o0.k) (.string o0.x) (.string o0.t) (slW s4.1) (.int .i64 o0.m) (.int .i64 o0.f) (.int .i64 o0.d) (slW s4.2) 28
    have hZ5 := hZ4.below hb5 hL5
    have ho5 := ho4.below hb5
    have hr5 := hr4.below hb5
    have hT5 := hT4.below hb5
    have hB5 : Below w.heap.size w _ := hB4.trans (hb5.mono hB4.size)
    clear hb5 ho4 hr4 hB4 hZ4 hT4
    go_wp2_with fail
    generalize (w4.alloc (.cells #[.int .i64 o0.k, .string o0.x, .string o0.t, slW s4.1, .int .i64 o0.m, .int .i64 o0.f, .int .i64 o0.d, slW s4.2] 28)) = W5 at *
    generalize w4.heap.size = g5 at *
    refine (opFault_any o0 s4 W5 ho5 hT5 hn.1 hn.2.1).mono ?_
    rintro e w6 ⟨rfl, hb6⟩
    have hB6 : Below w.heap.size w w6 := hB5.trans (hb6.mono hB5.size)
    have hr6 := hr5.below hb6
    have ho6 := ho5.below hb6
    have hZ6 := hZ5.below hb6 hZ5.lt
    have hX6 := hX5.below hb6 hX5.lt
    clear hb6 hr5 ho5 hZ5 hX5 hB5 hT5
    go_wp2_with fail
    refine wp_region_held_drew (S := fun w' => Qo w' g5 (opQ o0 s4) ∧ Qo w' w.heap.size (opQ o0 p0)) (by kernel_rfl) ?hS1 (fun hHeld => ?_)
    case hS1 => exact ⟨hX6, hZ6⟩
    refine wpAnyH_take (i := 0) (v := ?_) rfl (by kernel_rfl) (by kernel_rfl) (by kernel_rfl) (fun _ _ _ h => h) (Or.inl ⟨by rfl, ?hy1⟩) (by assumption) ?ty1
    case hy1 => (intro w' hSw; obtain ⟨⟨e0, e1, e2, e3, e4, e5, e6, e7⟩, -⟩ := hSw; dsimp only at e0 e1 e2 e3 e4 e5 e6 e7; go_simp; all_goals with_reducible rfl)
    simp only [Act.put, List.getElem_toArray, List.getElem_cons_zero, List.setIfInBounds_toArray, List.set_cons_zero, List.set_cons_succ]
    refine wpAnyH_take (i := 1) (v := ?_) rfl (by kernel_rfl) (by kernel_rfl) (by kernel_rfl) (fun _ _ _ h => h) (Or.inl ⟨by rfl, ?hy2⟩) (by assumption) ?ty2
    case hy2 => (intro w' hSw; obtain ⟨-, ⟨e0, e1, e2, e3, e4, e5, e6, e7⟩⟩ := hSw; dsimp only at e0 e1 e2 e3 e4 e5 e6 e7; go_simp; all_goals with_reducible rfl)
    simp only [Act.put, List.getElem_toArray, List.getElem_cons_zero, List.getElem_cons_succ, List.setIfInBounds_toArray, List.set_cons_zero, List.set_cons_succ]
    refine wpAnyH_ready (rs := [2]) (by kernel_rfl) (by simp) ?_
    refine AllReadyH.cons rfl (fun K hK => ?_) AllReadyH.nil
    go_simp
    refine (toOp_ft o0 p0 _ (hr6.below (Below.refl _ _).drew) hn).mono ?_
    rintro e w7 ⟨s7, rfl, ho7, hb7⟩
    have hb67 : Below w6.heap.size w6 w7 := (Below.refl _ _).drew.trans hb7
    have hB7 : Below w.heap.size w w7 := hB6.trans (hb67.mono hB6.size)
    have ho7' := ho6.below hb67
    have hS7 : Qo w7 g5 (opQ o0 s4) ∧ Qo w7 w.heap.size (opQ o0 p0) := ⟨hX6.below hb67 hX6.lt, hZ6.below hb67 hZ6.lt⟩
    refine hK.out _ _ hS7 (fun hHeld => ?_)
    clear hK K hb67 hb7 hB6 ho6 hX6 hZ6 hr6
    refine wpAnyH_ready (rs := [3]) (by kernel_rfl) (by simp) ?_
    refine AllReadyH.cons rfl (fun K hK => ?_) AllReadyH.nil
    go_simp
    refine (eqOp_ft o0 s4 s7 _ ho7' ho7 hn).mono ?_
    rintro e w8 ⟨rfl, hb8⟩
    have hB8 : Below w.heap.size w w8 := hB7.trans (hb8.mono hB7.size)
    refine hK.out _ _ ⟨hS7.1.below hb8 hS7.1.lt, hS7.2.below hb8 hS7.2.lt⟩ (fun hHeld => ?_)
    clear hK K hb8 hB7 ho7 ho7' hS7
    refine wpAnyH_take (i := 4) (v := ?_) rfl (by kernel_rfl) (by kernel_rfl) (by kernel_rfl) (fun _ _ _ h => h) (Or.inl ⟨by rfl, ?hy3⟩) (by assumption) ?ty3
    case hy3 => (intro w' hSw; go_simp; all_goals with_reducible rfl)
    simp only [Act.put, List.getElem_toArray, List.getElem_cons_zero, List.getElem_cons_succ, List.setIfInBounds_toArray, List.set_cons_zero, List.set_cons_succ]
    refine wpAnyH_done (by kernel_rfl) ?_ _
    clear hHeld
    go_wp2
    go_ret
    exact ⟨rfl, hB8⟩

/-! ### THE ROW's STEP -/
set_option maxRecDepth 100000 in
theorem lifted (os : Os) (started : os.Started) (H : Type) (enc : TypeId × Value → H) :
    ReturnsInHanded {} Tryd.checked os 3 .any (fun w args => (Rows.fnExactOpFaultSpec.pre enc Tryd.prog Tryd.f3 [] false w args ∧ laidMetH Tryd.prog Rows.fnExactOpFaultRow.laid w) ∧ sizedMet enc Tryd.prog Tryd.f3 (OpenSpec.ofChange Rows.fnExactOpFaultSpec) false w args)
      (Rows.fnExactOpFaultSpec.post enc Tryd.prog Tryd.f3 false true false false) := by
  refine returnsInHanded_of_change_and (C := Tryd.checked) (X := fun w _ => laidMetH Tryd.prog Rows.fnExactOpFaultRow.laid w) (fun _ _ _ hh h => h.of_heap hh) own started (by kernel_rfl) Tryd.func3
    (ChangeSpec.witness_shaped (enc := enc) (C := Tryd.checked) (os := os) (X := fun w _ => laidMetH Tryd.prog Rows.fnExactOpFaultRow.laid w) false (World.doorLaid Tryd.prog 400 os) #[.agg #[.int .i64 0, .string ByteArray.empty, .string ByteArray.empty, .slice none 0 0, .int .i64 0, .int .i64 0, .int .i64 0, .slice none 0 0]] 8 rfl (World.shaped_of_RefB (by kernel_rfl) (by kernel_rfl)) (by kernel_rfl) (by kernel_rfl) (by kernel_rfl) (door_met os _)) ?_
  intro W base args ds gs before hval0 hW _ _ hL _
  have hval : ∀ (j : Nat) t v, Tryd.f3.params[j]? = some t → args[j]? = some v → Value.okWide Tryd.prog W .any base t v := hval0
  have hW' := hW
  obtain ⟨p, q, hA0, hV, rfl, hfz, hnd⟩ := hW
  have hA : DataW.TrodAll enc Tryd.prog W 0 (fun _ => true) true Tryd.f3.params.toList args.toList ds p := hA0
  rw [Tryd.params3] at hA hval
  obtain ⟨v0, vs0, d0, ds0, p0, q0, hargs, rfl, rfl, h0, r0⟩ := trodAll_cons hA
  obtain ⟨rfl, rfl, rfl⟩ := trodAll_nil r0
  obtain rfl : args = #[v0] := by cases args; simp_all
  obtain ⟨cs0, rfl, -⟩ := okWide_struct Tryd.underlying25 (hval 0 25 v0 rfl rfl)
  have k0 := h0
  have lt0 : ∀ x ∈ p0, x.block < W.heap.size := by obtain ⟨m, hm⟩ := k0; exact DataW.trod_lt m _ _ _ hm
  obtain ⟨fuel0, hf0⟩ := h0
  obtain ⟨o0, pp0, hc0, w0⟩ := open_op opT hf0
  obtain rfl : cs0 = #[.int .i64 o0.k, .string o0.x, .string o0.t, slW pp0.1, .int .i64 o0.m, .int .i64 o0.f, .int .i64 o0.d, slW pp0.2] := Array.toList_inj.1 hc0
  obtain ⟨dv, rfl⟩ : ∃ d, gs = [d] := by obtain ⟨_, _, _, _, d, _, e, _⟩ := trodVars_one (n := "loop.example/g00447/impl.kindHas") hV; exact ⟨d, e⟩
  clear hA0 hval0
  refine (walk o0 pp0 W w0 (of_laid8 hL)).mono fun e W' ⟨he, bel⟩ => ?_
  subst he
  exact ⟨_, rfl, _, _, _, [], _, _, hW', trodAll_mk1 (shut_bool Tryd.underlying4 _), (trodAll_cons_mk (Below.trod laidOut (by kernel_rfl) (of_decide_eq_true (by kernel_rfl)) k0 bel lt0) trodAll_mk0), Below.trodVars laidOut bel (by kernel_rfl) hV, bel.frame _, fun h => by cases h⟩

theorem over : Rows.fnExactOpFaultRow.holds Tryd.pinned (OpenSpec.ofChange Rows.fnExactOpFaultSpec) :=
  OpenClaim.holds_of_wide 3 Tryd.f3 rfl rfl rfl rfl rfl rfl rfl ⟨rfl, rfl, rfl, rfl, rfl⟩ rfl rfl rfl rfl rfl (by kernel_rfl) Tryd.func3 (by kernel_rfl)
    (of_decide_eq_true (by kernel_rfl)) (by unfold Func.isWrapper; first | (rw [if_pos (by decide +kernel)]; kernel_rfl) | (rw [if_neg (by decide +kernel)]; exact ⟨rfl, rfl⟩))
    (fun os started H enc _ => lifted os started H enc)

theorem plainF (f : FuncId) (fn : Func) (hf : Tryd.pinned.checked.prog.funcNamed "loop.example/g00447/laws.FnExactOpFault" = some f) (hfn : Tryd.pinned.checked.prog.funcs[f]? = some fn) :
    false = Tryd.pinned.checked.prog.looks [] ∧ ∀ (j : Nat) t, fn.params[j]? = some t → Tryd.pinned.checked.prog.wantsStandIn t = false := by
  obtain rfl : f = 3 := Option.some.inj ((show Tryd.prog.funcNamed "loop.example/g00447/laws.FnExactOpFault" = some 3 by kernel_rfl).symm.trans hf) |>.symm
  obtain rfl : fn = Tryd.f3 := (Option.some.inj (Tryd.func3.symm.trans hfn)).symm
  refine ⟨by kernel_rfl, fun j t ht => ?_⟩
  rw [Tryd.params3] at ht
  have hm : t ∈ [25] := by simpa using Array.mem_of_getElem? ht
  have hall : ([25].all fun u => !Tryd.prog.wantsStandIn u) = true := by kernel_rfl
  exact (show Tryd.prog.wantsStandIn t = false by simpa using List.all_eq_true.1 hall t hm)
end Go.Proofs.YtlmbieclgkpofaaDoor.fnExactOpFault

namespace Go.Proofs.YtlmbieclgkpofaaDoor
/-- THE TIED CARD. -/
theorem fnExactOpFault_card : Rows.FnExactOpFaultCardSaid :=
  Claim7.holds_tied_plain_at .later [] _ _ _ _ fnExactOpFault.over (fun _ h => by cases h) (by kernel_rfl) (fun _ h => by cases h) fnExactOpFault_row_tie rfl ⟨rfl, rfl⟩ (by kernel_rfl) rfl fnExactOpFault.plainF (by kernel_rfl)
end Go.Proofs.YtlmbieclgkpofaaDoor
