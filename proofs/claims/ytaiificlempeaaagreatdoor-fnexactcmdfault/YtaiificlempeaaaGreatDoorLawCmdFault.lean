/- Proved: called with any command, the law FnExactCmdFault returns true (the program's CmdFault answers as the model does and writes into no argument); tied to the program's text; no condition of our own. -/
import Derived.Test.YtaiificlempeaaaGreatDoorCards
import Derived.Test.YtaiificlempeaaaGreatDoorTie
import Derived.Test.YtaiificlempeaaaGreatDoorCmiToMsa
import Derived.Test.YtaiificlempeaaaGreatDoorCmt
import Derived.Test.YtaiificlempeaaaGreatDoorCmuToCfo
import Derived.Test.YtaiificlempeaaaGreatDoorCfk
import Derived.Test.YtaiificlempeaaaGreatDoorCfm
import Derived.LaidHandle
import Derived.WalkKit
import Derived.ProofKit
import Derived.OpenShut
import Derived.ShutString
import Derived.ChangeOld
import Derived.Below
import Derived.LaidMore
import Derived.OpenVars
import Derived.Stop.Joined
import Derived.Lib.LaidTab
import Derived.Stop.LaidErr
namespace Go.Proofs.YtaiificlempeaaaGreatDoor.fnExactCmdFault
open Go.ChangeShapes Go.WideShapes Go.ChangeAt Go.WideMaps Go.WideElems Go.RowKit
open Go.ChangeMaps (open_string shut_string)
set_option linter.unusedVariables false

theorem own : ownKnob Tryz.prog.godebug = none := by kernel_rfl
theorem laidOut : laidOutB Tryz.prog = true := by kernel_rfl
theorem gN : Tryz.prog.globalNamed "loop.example/g00447/impl.kindTells" = some 0 := by kernel_rfl
theorem gtN : (Tryz.prog.globals[0]?).map (·.type) = some 75 := by kernel_rfl
theorem cN : Tryz.prog.cellsOf 75 = 15 := by kernel_rfl
theorem cellsB : Tryz.prog.cellsOf 2 = 1 := by kernel_rfl

/-- The door's own heap meets the condition: closed facts. -/
theorem door_met (os : Os) (args : Array Value) : laidMetH Tryz.prog Rows.fnExactCmdFaultRow.laid ((World.doorLaid Tryz.prog 400 os).forCall (fun _ _ => 0) ⟨#[], args, []⟩).memory :=
  laidMetH_of_parts3 (fuel := 8) (laidMet_of_run' 8 (by kernel_rfl) (by kernel_rfl)) (by kernel_rfl) (by kernel_rfl)

/-- WHAT THE ROW LISTS GIVES THE WALK: the table lies in its variable. -/
theorem of_laidN {W : World} (h : laidMetH Tryz.prog Rows.fnExactCmdFaultRow.laid W) : TabN W := fun v hv => by
  have ht : Lib.TabIs Tryz.prog W "loop.example/g00447/impl.kindTells" .i64 ktZ := Lib.tabIs_of_head (rest := []) gN gtN Tryz.underlying75 Tryz.underlying2 cellsB cN h.1
  rw [ht.cell gN v hv]
  rfl

theorem etT : Tryz.prog.globalNamed "errors.errorType" = some 1 := by kernel_rfl
theorem rtT : (Tryz.prog.cutTypes.find? (·.1 == "internal/reflectlite.rtype")).map (·.2) = some 106 := by kernel_rfl
theorem sizeT : Tryz.prog.types.size = 180 := by kernel_rfl
theorem oneRowT : ((List.range 180).filter fun t => Tryz.prog.rowNamed t [101, 114, 114, 111, 114]) = [49] := by kernel_rfl
/-- WHAT THE ROW LISTS GIVES THE WALK: the library's variable. -/
theorem of_laidT {W : World} (h : laidMetH Tryz.prog Rows.fnExactCmdFaultRow.laid W) : VarT W := by
  obtain ⟨name, u, ty, e1, e2, e3, e4, e5⟩ := h.2 _ (List.mem_cons_self ..)
  have en : name = [101, 114, 114, 111, 114] := (Option.some.inj e1).symm
  subst en
  obtain rfl := Option.some.inj (rtT.symm.trans e2)
  have hm : ty ∈ (List.range 180).filter fun t => Tryz.prog.rowNamed t [101, 114, 114, 111, 114] := List.mem_filter.2 ⟨List.mem_range.2 (by rw [← sizeT]; exact e3), e4⟩
  rw [oneRowT] at hm
  obtain rfl := List.mem_singleton.1 hm
  have hh : typeHandle Tryz.prog 49 = .pointer (some ⟨2, 49, none⟩) := by kernel_rfl
  rw [hh] at e5
  unfold VarT
  simpa using World.var?_cell etT e5 0

/-! ### THE WALK -/
set_option maxHeartbeats 3200000 in
set_option maxRecDepth 100000 in
theorem walk (m0 : CmR) (q0 : SlC) (w : World) (w0 : IsCm 0 w q0 m0 ∧ OkC m0) (htN : TabN w) (htT : VarT w) :
    Calls Tryz.prog 3 #[cmX m0 q0] w fun e w' => e = .returned (.bool true) ∧ Below w.heap.size w w' := by
  obtain ⟨w0, hok⟩ := w0
  have HTT : Hid (TabN w ∧ VarT w) := ⟨htN, htT⟩
  clear htN htT
  have hA0 : Below w.heap.size w (w.alloc (.cells #[.string m0.t, .int .i64 m0.k, .string m0.n, slW q0.1, .int .i64 m0.m, .int .i64 m0.f, .int .i64 m0.d, slW q0.2.1, .int .i64 m0.h, slW q0.2.2.1, .int .i64 m0.e, .bool m0.r, slW q0.2.2.2, .int .i64 m0.c] 27)) := (Below.refl _ _).alloc (Nat.le_refl _) _
  have hZ0 := Qm.new w (.string m0.t) (.int .i64 m0.k) (.string m0.n) (slW q0.1) (.int .i64 m0.m) (.int .i64 m0.f) (.int .i64 m0.d) (slW q0.2.1) (.int .i64 m0.h) (slW q0.2.2.1) (.int .i64 m0.e) (.bool m0.r) (slW q0.2.2.2) (.int .i64 m0.c) 27
  have hw0 := w0.below hA0
  have hG : w.heap.size < (w.alloc (.cells #[.string m0.t, .int .i64 m0.k, .string m0.n, slW q0.1, .int .i64 m0.m, .int .i64 m0.f, .int .i64 m0.d, slW q0.2.1, .int .i64 m0.h, slW q0.2.2.1, .int .i64 m0.e, .bool m0.r, slW q0.2.2.2, .int .i64 m0.c] 27)).heap.size := by simp
  have HSP : Hid (∀ (s : SlC) (lo : Nat) (w' : World), IsCm lo w' s m0 → FtC m0 → Calls Tryz.prog 5 #[cmX m0 s] w' fun e w'' => e = .returned (.int .i64 (cfV m0)) ∧ Below w'.heap.size w' w'') := fun s lo w' h1 h2 => specCmdFault_any m0 s w' h1 h2
  have HIM : Hid (∀ (s : SlC) (lo : Nat) (w' : World), IsCm lo w' s m0 → FtC m0 → TabN w' → VarT w' → Calls Tryz.prog 7 #[cmX m0 s] w' fun e w'' => e = .returned (.int .i64 (cfV m0)) ∧ Below w'.heap.size w' w'') := fun s lo w' h1 h2 h3 h4 => cmdFault_any m0 s w' h1 h2 h3 h4
  generalize cfV m0 = rv at *
  go_enter Tryz.func3, Tryz.ntmps3
  go_wp2_with fail
  generalize (w.alloc (.cells #[.string m0.t, .int .i64 m0.k, .string m0.n, slW q0.1, .int .i64 m0.m, .int .i64 m0.f, .int .i64 m0.d, slW q0.2.1, .int .i64 m0.h, slW q0.2.2.1, .int .i64 m0.e, .bool m0.r, slW q0.2.2.2, .int .i64 m0.c] 27)) = W0 at *
  refine (szCmd_ft m0 q0 1048576 W0 (by omega) (by omega) hw0 hok).mono ?_
  rintro e w1 ⟨r, rfl, hcase, hb1⟩
  have hB1 := hA0.trans (hb1.mono hA0.size)
  rcases hcase with rfl | ⟨r0, -, hn⟩
  · go_wp2
    go_ret
    exact ⟨rfl, hB1⟩
  · have hneg : ¬ r < 0 := by omega
    have hr1 := hw0.below hb1
    have hZ1 := hZ0.below hb1 hG
    clear w0 hw0 hA0 hb1 hZ0 hG
    obtain ⟨c0, c1, c2, c3, c4, c5, c6, c7, c8, c9, c10, c11, c12, c13⟩ := id hZ1
    dsimp only at c0 c1 c2 c3 c4 c5 c6 c7 c8 c9 c10 c11 c12 c13
    go_wp2_with fail
    refine (toCmd_ft m0 q0 w1 hr1 hn).mono ?_
    rintro e w2 ⟨s2, rfl, ho2, hb2⟩
    have hB2 : Below w.heap.size w w2 := hB1.trans (hb2.mono hB1.size)
    have hr2 := hr1.below hb2
    have hZ2 := hZ1.below hb2 hZ1.lt
    clear c0 c1 c2 c3 c4 c5 c6 c7 c8 c9 c10 c11 c12 c13 hb2 hr1 hZ1 hB1
    go_wp2_with fail
    refine (HSP.out s2 _ w2 ho2 hn).mono ?_
    rintro e w3 ⟨rfl, hb3⟩
    have hB3 : Below w.heap.size w w3 := hB2.trans (hb3.mono hB2.size)
    have hr3 := hr2.below hb3
    have hZ3 := hZ2.below hb3 hZ2.lt
    clear hb3 hr2 hZ2 hB2 ho2
    obtain ⟨c0, c1, c2, c3, c4, c5, c6, c7, c8, c9, c10, c11, c12, c13⟩ := id hZ3
    dsimp only at c0 c1 c2 c3 c4 c5 c6 c7 c8 c9 c10 c11 c12 c13
    go_wp2_with fail
    refine (toCmd_ft m0 q0 w3 hr3 hn).mono ?_
    rintro e w4 ⟨s4, rfl, ho4, hb4⟩
    have hB4 : Below w.heap.size w w4 := hB3.trans (hb4.mono hB3.size)
    have hr4 := hr3.below hb4
    have hZ4 := hZ3.below hb4 hZ3.lt
    clear c0 c1 c2 c3 c4 c5 c6 c7 c8 c9 c10 c11 c12 c13 hb4 hr3 hZ3 hB3
    have hL5 := hZ4.lt
    have hb5 : Below w4.heap.size w4 (w4.alloc (.cells #[.string m0.t, .int .i64 m0.k, .string m0.n, slW s4.1, .int .i64 m0.m, .int .i64 m0.f, .int .i64 m0.d, slW s4.2.1, .int .i64 m0.h, slW s4.2.2.1, .int .i64 m0.e, .bool m0.r, slW s4.2.2.2, .int .i64 m0.c] 33)) := (Below.refl _ _).alloc (Nat.le_refl _) _
    have hX5 := Qm.new w4 (.string m0.t) (.int .i64 m0.k) (.string m0.n) (slW s4.1) (.int .i64 m0.m) (.int .i64 m0.f) (.int .i64 m0.d) (slW s4.2.1) (.int .i64 m0.h) (slW s4.2.2.1) (.int .i64 m0.e) (.bool m0.r) (slW s4.2.2.2) (.int .i64 m0.c) 33
    have hZ5 := hZ4.below hb5 hL5
    have ho5 := ho4.below hb5
    have hr5 := hr4.below hb5
    have hB5 : Below w.heap.size w _ := hB4.trans (hb5.mono hB4.size)
    clear hb5 ho4 hr4 hB4 hZ4
    go_wp2_with fail
    generalize (w4.alloc (.cells #[.string m0.t, .int .i64 m0.k, .string m0.n, slW s4.1, .int .i64 m0.m, .int .i64 m0.f, .int .i64 m0.d, slW s4.2.1, .int .i64 m0.h, slW s4.2.2.1, .int .i64 m0.e, .bool m0.r, slW s4.2.2.2, .int .i64 m0.c] 33)) = W5 at *
    generalize w4.heap.size = g5 at *
    refine (HIM.out s4 _ W5 ho5 hn (HTT.out.1.below hB5) (HTT.out.2.below hB5)).mono ?_
    rintro e w6 ⟨rfl, hb6⟩
    have hB6 : Below w.heap.size w w6 := hB5.trans (hb6.mono hB5.size)
    have hr6 := hr5.below hb6
    have ho6 := ho5.below hb6
    have hZ6 := hZ5.below hb6 hZ5.lt
    have hX6 := hX5.below hb6 hX5.lt
    clear hb6 hr5 ho5 hZ5 hX5 hB5
    go_wp2_with fail
    refine wp_region_held_drew (S := fun w' => Qm w' g5 (cmQ m0 s4) ∧ Qm w' w.heap.size (cmQ m0 q0)) (by kernel_rfl) ?hS1 (fun hHeld => ?_)
    case hS1 => exact ⟨hX6, hZ6⟩
    refine wpAnyH_take (i := 0) (v := ?_) rfl (by kernel_rfl) (by kernel_rfl) (by kernel_rfl) (fun _ _ _ h => h) (Or.inl ⟨by rfl, ?hy1⟩) (by assumption) ?ty1
    case hy1 => (intro w' hSw; obtain ⟨⟨e0, e1, e2, e3, e4, e5, e6, e7, e8, e9, e10, e11, e12, e13⟩, -⟩ := hSw; dsimp only at e0 e1 e2 e3 e4 e5 e6 e7 e8 e9 e10 e11 e12 e13; go_simp; all_goals with_reducible rfl)
    simp only [Act.put, List.getElem_toArray, List.getElem_cons_zero, List.setIfInBounds_toArray, List.set_cons_zero, List.set_cons_succ]
    refine wpAnyH_take (i := 1) (v := ?_) rfl (by kernel_rfl) (by kernel_rfl) (by kernel_rfl) (fun _ _ _ h => h) (Or.inl ⟨by rfl, ?hy2⟩) (by assumption) ?ty2
    case hy2 => (intro w' hSw; obtain ⟨-, ⟨e0, e1, e2, e3, e4, e5, e6, e7, e8, e9, e10, e11, e12, e13⟩⟩ := hSw; dsimp only at e0 e1 e2 e3 e4 e5 e6 e7 e8 e9 e10 e11 e12 e13; go_simp; all_goals with_reducible rfl)
    simp only [Act.put, List.getElem_toArray, List.getElem_cons_zero, List.getElem_cons_succ, List.setIfInBounds_toArray, List.set_cons_zero, List.set_cons_succ]
    refine wpAnyH_ready (rs := [2]) (by kernel_rfl) (by simp) ?_
    refine AllReadyH.cons rfl (fun K hK => ?_) AllReadyH.nil
    go_simp
    refine (toCmd_ft m0 q0 _ (hr6.below (Below.refl _ _).drew) hn).mono ?_
    rintro e w7 ⟨s7, rfl, ho7, hb7⟩
    have hb67 : Below w6.heap.size w6 w7 := (Below.refl _ _).drew.trans hb7
    have hB7 : Below w.heap.size w w7 := hB6.trans (hb67.mono hB6.size)
    have ho7' := ho6.below hb67
    have hS7 : Qm w7 g5 (cmQ m0 s4) ∧ Qm w7 w.heap.size (cmQ m0 q0) := ⟨hX6.below hb67 hX6.lt, hZ6.below hb67 hZ6.lt⟩
    refine hK.out _ _ hS7 (fun hHeld => ?_)
    clear hK K hb67 hb7 hB6 ho6 hX6 hZ6 hr6
    refine wpAnyH_ready (rs := [3]) (by kernel_rfl) (by simp) ?_
    refine AllReadyH.cons rfl (fun K hK => ?_) AllReadyH.nil
    go_simp
    refine (eqCmd_ft m0 s4 s7 _ ho7' ho7 hn).mono ?_
    rintro e w8 ⟨rfl, hb8⟩
    have hB8 : Below w.heap.size w w8 := hB7.trans (hb8.mono hB7.size)
    refine hK.out _ _ ⟨hS7.1.below hb8 hS7.1.lt, hS7.2.below hb8 hS7.2.lt⟩ (fun hHeld => ?_)
    clear hK K hb8 hB7 ho7 ho7' hS7
    refine wpAnyH_take (i := 4) (v := ?_) rfl (by kernel_rfl) (by kernel_rfl) (by kernel_rfl) (fun _ _ _ h => h) (Or.inl ⟨by rfl, ?hy3⟩) (by assumption) ?ty3
    case hy3 => (intro w' hSw; go_simp; all_goals with_reducible rfl)
    simp only [Act.put, List.getElem_toArray, List.getElem_cons_zero, List.getElem_cons_succ, List.setIfInBounds_toArray, List.set_cons_zero, List.set_cons_succ]
    refine wpAnyH_done (by kernel_rfl) ?_ _
    clear hHeld
    go_wp2
    go_ret
    exact ⟨rfl, hB8⟩

/-! ### THE ROW's STEP -/
set_option maxRecDepth 100000 in
theorem lifted (os : Os) (started : os.Started) (H : Type) (enc : TypeId × Value → H) :
    ReturnsInHanded {} Tryz.checked os 3 .any (fun w args => (Rows.fnExactCmdFaultSpec.pre enc Tryz.prog Tryz.f3 [] false w args ∧ laidMetH Tryz.prog Rows.fnExactCmdFaultRow.laid w) ∧ sizedMet enc Tryz.prog Tryz.f3 (OpenSpec.ofChange Rows.fnExactCmdFaultSpec) false w args)
      (Rows.fnExactCmdFaultSpec.post enc Tryz.prog Tryz.f3 false true false false) := by
  refine returnsInHanded_of_change_and (C := Tryz.checked) (X := fun w _ => laidMetH Tryz.prog Rows.fnExactCmdFaultRow.laid w) (fun _ _ _ hh h => h.of_heap hh) own started (by kernel_rfl) Tryz.func3
    (ChangeSpec.witness_shaped (enc := enc) (C := Tryz.checked) (os := os) (X := fun w _ => laidMetH Tryz.prog Rows.fnExactCmdFaultRow.laid w) false (World.doorLaid Tryz.prog 400 os) #[.agg #[.string ByteArray.empty, .int .i64 0, .string ByteArray.empty, .slice none 0 0, .int .i64 0, .int .i64 0, .int .i64 0, .slice none 0 0, .int .i64 0, .slice none 0 0, .int .i64 0, .bool false, .slice none 0 0, .int .i64 0]] 8 rfl (World.shaped_of_RefB (by kernel_rfl) (by kernel_rfl)) (by kernel_rfl) (by kernel_rfl) (by kernel_rfl) (door_met os _)) ?_
  intro W base args ds gs before hval0 hW _ _ hL _
  have hval : ∀ (j : Nat) t v, Tryz.f3.params[j]? = some t → args[j]? = some v → Value.okWide Tryz.prog W .any base t v := hval0
  have hW' := hW
  obtain ⟨p, q, hA0, hV, rfl, hfz, hnd⟩ := hW
  have hA : DataW.TrodAll enc Tryz.prog W 0 (fun _ => true) true Tryz.f3.params.toList args.toList ds p := hA0
  rw [Tryz.params3] at hA hval
  obtain ⟨v0, vs0, d0, ds0, p0, q0, hargs, rfl, rfl, h0, r0⟩ := trodAll_cons hA
  obtain ⟨rfl, rfl, rfl⟩ := trodAll_nil r0
  obtain rfl : args = #[v0] := by cases args; simp_all
  obtain ⟨cs0, rfl, -⟩ := okWide_struct Tryz.underlying27 (hval 0 27 v0 rfl rfl)
  have k0 := h0
  have lt0 : ∀ x ∈ p0, x.block < W.heap.size := by obtain ⟨m, hm⟩ := k0; exact DataW.trod_lt m _ _ _ hm
  obtain ⟨fuel0, hf0⟩ := h0
  obtain ⟨m0, pp0, hc0, w0⟩ := open_cm cmT hf0
  obtain rfl : cs0 = #[.string m0.t, .int .i64 m0.k, .string m0.n, slW pp0.1, .int .i64 m0.m, .int .i64 m0.f, .int .i64 m0.d, slW pp0.2.1, .int .i64 m0.h, slW pp0.2.2.1, .int .i64 m0.e, .bool m0.r, slW pp0.2.2.2, .int .i64 m0.c] := Array.toList_inj.1 hc0
  obtain ⟨dv, rfl⟩ : ∃ d, gs = [d] := by obtain ⟨_, _, _, _, d, _, e, _⟩ := trodVars_one (n := "loop.example/g00447/impl.kindTells") hV; exact ⟨d, e⟩
  clear hA0 hval0
  refine (walk m0 pp0 W w0 (of_laidN hL) (of_laidT hL)).mono fun e W' ⟨he, bel⟩ => ?_
  subst he
  exact ⟨_, rfl, _, _, _, [], _, _, hW', trodAll_mk1 (shut_bool Tryz.underlying4 _), (trodAll_cons_mk (Below.trod laidOut (by kernel_rfl) (of_decide_eq_true (by kernel_rfl)) k0 bel lt0) trodAll_mk0), Below.trodVars laidOut bel (by kernel_rfl) hV, bel.frame _, fun h => by cases h⟩

theorem over : Rows.fnExactCmdFaultRow.holds Tryz.pinned (OpenSpec.ofChange Rows.fnExactCmdFaultSpec) :=
  OpenClaim.holds_of_wide 3 Tryz.f3 rfl rfl rfl rfl rfl rfl rfl ⟨rfl, rfl, rfl, rfl, rfl⟩ rfl rfl rfl rfl rfl (by kernel_rfl) Tryz.func3 (by kernel_rfl)
    (of_decide_eq_true (by kernel_rfl)) (by unfold Func.isWrapper; first | (rw [if_pos (by decide +kernel)]; kernel_rfl) | (rw [if_neg (by decide +kernel)]; exact ⟨rfl, rfl⟩))
    (fun os started H enc _ => lifted os started H enc)

theorem plainF (f : FuncId) (fn : Func) (hf : Tryz.pinned.checked.prog.funcNamed "loop.example/g00447/laws.FnExactCmdFault" = some f) (hfn : Tryz.pinned.checked.prog.funcs[f]? = some fn) :
    true = Tryz.pinned.checked.prog.looks [] ∧ ∀ (j : Nat) t, fn.params[j]? = some t → Tryz.pinned.checked.prog.wantsStandIn t = false := by
  obtain rfl : f = 3 := Option.some.inj ((show Tryz.prog.funcNamed "loop.example/g00447/laws.FnExactCmdFault" = some 3 by kernel_rfl).symm.trans hf) |>.symm
  obtain rfl : fn = Tryz.f3 := (Option.some.inj (Tryz.func3.symm.trans hfn)).symm
  refine ⟨by kernel_rfl, fun j t ht => ?_⟩
  rw [Tryz.params3] at ht
  have hm : t ∈ [27] := by simpa using Array.mem_of_getElem? ht
  have hall : ([27].all fun u => !Tryz.prog.wantsStandIn u) = true := by kernel_rfl
  exact (show Tryz.prog.wantsStandIn t = false by simpa using List.all_eq_true.1 hall t hm)
end Go.Proofs.YtaiificlempeaaaGreatDoor.fnExactCmdFault

namespace Go.Proofs.YtaiificlempeaaaGreatDoor
/-- THE TIED CARD. -/
theorem fnExactCmdFault_card : Rows.FnExactCmdFaultCardSaid :=
  Claim7.holds_tied_plain_at .later [] _ _ _ _ fnExactCmdFault.over (fun _ h => by cases h) (by kernel_rfl) (fun _ h => by cases h) fnExactCmdFault_row_tie rfl ⟨rfl, rfl⟩ (by kernel_rfl) rfl fnExactCmdFault.plainF (by kernel_rfl)
end Go.Proofs.YtaiificlempeaaaGreatDoor
