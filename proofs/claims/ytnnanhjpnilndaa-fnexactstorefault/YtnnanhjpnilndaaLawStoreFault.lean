/- StoreFault answers as the model at every store: the law returns true, whatever the input; no conditions. -/
import Derived.Test.YtnnanhjpnilndaaRows
import Derived.Test.YtnnanhjpnilndaaOpt
import Derived.Test.YtnnanhjpnilndaaSte
import Derived.WalkKit
import Derived.ProofKit
import Derived.OpenShut
import Derived.ShutString
import Derived.ChangeOld
import Derived.Below
namespace Go.Proofs.Ytnnanhjpnilndaa.fnExactStoreFault
open Go.ChangeShapes Go.WideShapes Go.ChangeAt Go.RowKit
open Go.ChangeMaps (open_string shut_string)
set_option linter.unusedVariables false

theorem own : ownKnob Try.prog.godebug = none := by kernel_rfl
theorem laidOut : laidOutB Try.prog = true := by kernel_rfl

/-! ### THE WALK -/
set_option maxHeartbeats 1600000 in
set_option maxRecDepth 100000 in
theorem walk (t0 : Int) (q0 : SlQ) (l0 : List Bx) (w : World) (w0 : IsXs 0 w q0 l0 ∧ ∀ i, i < l0.length → (nthX l0 i).n.size ≤ maxLen) :
    Calls Try.prog 5 #[.agg #[.int .i64 t0, slW q0]] w fun e w' => e = .returned (.bool true) ∧ Below w.heap.size w w' := by
  obtain ⟨w0, hok⟩ := w0
  have hA0 : Below w.heap.size w (w.alloc (.cells #[.int .i64 t0, slW q0] 44)) := (Below.refl _ _).alloc (Nat.le_refl _) _
  have hZ0 := Dc.new w (.int .i64 t0) (slW q0) 44
  have hw0 := w0.below hA0
  have hG : w.heap.size < (w.alloc (.cells #[.int .i64 t0, slW q0] 44)).heap.size := by simp
  go_enter Try.func5, Try.ntmps5
  go_wp2_with fail
  generalize (w.alloc (.cells #[.int .i64 t0, slW q0] 44)) = W0 at *
  refine (szStore_ft t0 q0 l0 1048576 W0 (by omega) (by omega) hw0 hok).mono ?_
  rintro e w1 ⟨r, rfl, hcase, hb1⟩
  have hB1 := hA0.trans (hb1.mono hA0.size)
  rcases hcase with rfl | ⟨r0, -, hn⟩
  · go_wp2
    go_ret
    exact ⟨rfl, hB1⟩
  · have hneg : ¬ r < 0 := by omega
    have hr1 := hw0.below hb1
    have hZ1 := hZ0.below hb1 hG
    clear w0 hw0 hA0 hb1 hZ0 hG
    obtain ⟨c0, c1⟩ := id hZ1
    dsimp only at c0 c1
    go_wp2_with fail
    refine (toStore_ft t0 q0 l0 w1 hr1 hn).mono ?_
    rintro e w2 ⟨s2, rfl, ho2, hb2⟩
    have hB2 : Below w.heap.size w w2 := hB1.trans (hb2.mono hB1.size)
    have hr2 := hr1.below hb2
    have hZ2 := hZ1.below hb2 hZ1.lt
    clear c0 c1 hb2 hr1 hZ1 hB1
    go_wp2_with fail
    refine (specStoreFault_any t0 s2 l0 w2 ho2 hn).mono ?_
    rintro e w3 ⟨rfl, hb3⟩
    have hB3 : Below w.heap.size w w3 := hB2.trans (hb3.mono hB2.size)
    have hr3 := hr2.below hb3
    have hZ3 := hZ2.below hb3 hZ2.lt
    clear hb3 hr2 hZ2 hB2 ho2
    obtain ⟨c0, c1⟩ := id hZ3
    dsimp only at c0 c1
    go_wp2_with fail
    refine (toStore_ft t0 q0 l0 w3 hr3 hn).mono ?_
    rintro e w4 ⟨s4, rfl, ho4, hb4⟩
    have hB4 : Below w.heap.size w w4 := hB3.trans (hb4.mono hB3.size)
    have hr4 := hr3.below hb4
    have hZ4 := hZ3.below hb4 hZ3.lt
    clear c0 c1 hb4 hr3 hZ3 hB3
    have hL5 := hZ4.lt
    have hb5 : Below w4.heap.size w4 (w4.alloc (.cells #[.int .i64 t0, slW s4] 49)) := (Below.refl _ _).alloc (Nat.le_refl _) _
    have hX5 := Dc.new w4 (.int .i64 t0) (slW s4) 49
    have hZ5 := hZ4.below hb5 hL5
    have ho5 := ho4.below hb5
    have hr5 := hr4.below hb5
    have hB5 : Below w.heap.size w _ := hB4.trans (hb5.mono hB4.size)
    clear hb5 ho4 hr4 hB4 hZ4
    go_wp2_with fail
    generalize (w4.alloc (.cells #[.int .i64 t0, slW s4] 49)) = W5 at *
    generalize w4.heap.size = g5 at *
    refine (storeFault_any t0 s4 l0 W5 ho5 hn).mono ?_
    rintro e w6 ⟨rfl, hb6⟩
    have hB6 : Below w.heap.size w w6 := hB5.trans (hb6.mono hB5.size)
    have hr6 := hr5.below hb6
    have ho6 := ho5.below hb6
    have hZ6 := hZ5.below hb6 hZ5.lt
    have hX6 := hX5.below hb6 hX5.lt
    clear hb6 hr5 ho5 hZ5 hX5 hB5
    go_wp2_with fail
    refine wp_region_held_drew (S := fun w' => Dc w' g5 ((.int .i64 t0, slW s4)) ∧ Dc w' w.heap.size ((.int .i64 t0, slW q0))) (by kernel_rfl) ?hS1 (fun hHeld => ?_)
    case hS1 => exact ⟨hX6, hZ6⟩
    refine wpAnyH_take (i := 0) (v := ?_) rfl (by kernel_rfl) (by kernel_rfl) (by kernel_rfl) (fun _ _ _ h => h) (Or.inl ⟨by rfl, ?hy1⟩) (by assumption) ?ty1
    case hy1 => (intro w' hSw; obtain ⟨⟨e0, e1⟩, -⟩ := hSw; dsimp only at e0 e1; go_simp; all_goals with_reducible rfl)
    simp only [Act.put, List.getElem_toArray, List.getElem_cons_zero, List.setIfInBounds_toArray, List.set_cons_zero, List.set_cons_succ]
    refine wpAnyH_take (i := 1) (v := ?_) rfl (by kernel_rfl) (by kernel_rfl) (by kernel_rfl) (fun _ _ _ h => h) (Or.inl ⟨by rfl, ?hy2⟩) (by assumption) ?ty2
    case hy2 => (intro w' hSw; obtain ⟨-, ⟨e0, e1⟩⟩ := hSw; dsimp only at e0 e1; go_simp; all_goals with_reducible rfl)
    simp only [Act.put, List.getElem_toArray, List.getElem_cons_zero, List.getElem_cons_succ, List.setIfInBounds_toArray, List.set_cons_zero, List.set_cons_succ]
    refine wpAnyH_ready (rs := [2]) (by kernel_rfl) (by simp) ?_
    refine AllReadyH.cons rfl (fun K hK => ?_) AllReadyH.nil
    go_simp
    refine (toStore_ft t0 q0 l0 _ (hr6.below (Below.refl _ _).drew) hn).mono ?_
    rintro e w7 ⟨s7, rfl, ho7, hb7⟩
    have hb67 : Below w6.heap.size w6 w7 := (Below.refl _ _).drew.trans hb7
    have hB7 : Below w.heap.size w w7 := hB6.trans (hb67.mono hB6.size)
    have ho7' := ho6.below hb67
    have hS7 : Dc w7 g5 ((.int .i64 t0, slW s4)) ∧ Dc w7 w.heap.size ((.int .i64 t0, slW q0)) := ⟨hX6.below hb67 hX6.lt, hZ6.below hb67 hZ6.lt⟩
    refine hK.out _ _ hS7 (fun hHeld => ?_)
    clear hK K hb67 hb7 hB6 ho6 hX6 hZ6 hr6
    refine wpAnyH_ready (rs := [3]) (by kernel_rfl) (by simp) ?_
    refine AllReadyH.cons rfl (fun K hK => ?_) AllReadyH.nil
    go_simp
    refine (eqStore_ft t0 s4 s7 l0 _ ho7' ho7 hn).mono ?_
    rintro e w8 ⟨rfl, hb8⟩
    have hB8 : Below w.heap.size w w8 := hB7.trans (hb8.mono hB7.size)
    refine hK.out _ _ ⟨hS7.1.below hb8 hS7.1.lt, hS7.2.below hb8 hS7.2.lt⟩ (fun hHeld => ?_)
    clear hK K hb8 hB7 ho7 ho7' hS7
    refine wpAnyH_take (i := 4) (v := ?_) rfl (by kernel_rfl) (by kernel_rfl) (by kernel_rfl) (fun _ _ _ h => h) (Or.inl ⟨by rfl, ?hy3⟩) (by assumption) ?ty3
    case hy3 => (intro w' hSw; go_simp; all_goals with_reducible rfl)
    simp only [Act.put, List.getElem_toArray, List.getElem_cons_zero, List.getElem_cons_succ, List.setIfInBounds_toArray, List.set_cons_zero, List.set_cons_succ]
    refine wpAnyH_done (by kernel_rfl) ?_ _
    clear hHeld
    go_wp2
    go_ret
    exact ⟨rfl, hB8⟩

/-! ### THE ROW's STEP -/
set_option maxRecDepth 100000 in
theorem lifted (os : Os) (started : os.Started) (H : Type) (enc : TypeId × Value → H) :
    ReturnsInHanded {} Try.checked os 5 .any (Rows.fnExactStoreFaultSpec.pre6 enc Try.prog Try.f5 Rows.fnExactStoreFaultRow.domain false) (Rows.fnExactStoreFaultSpec.post enc Try.prog Try.f5 false true false false) := by
  refine returnsInHanded_of_change (C := Try.checked) own started (by kernel_rfl) Try.func5
    (ChangeSpec.witness6 (enc := enc) (C := Try.checked) false ⟨#[], #[.agg #[.int .i64 0, .slice none 0 0]], []⟩ 8 (by kernel_rfl) (by kernel_rfl) (by kernel_rfl) (by kernel_rfl)) ?_
  intro W base args ds gs before hval0 hW hcnd _
  have hval : ∀ (j : Nat) t v, Try.f5.params[j]? = some t → args[j]? = some v → Value.okWide Try.prog W .any base t v := hval0
  have hW' := hW
  obtain ⟨p, q, hA0, hV, rfl, hfz, hnd⟩ := hW
  have hA : DataW.TrodAll enc Try.prog W 0 (fun _ => true) true Try.f5.params.toList args.toList ds p := hA0
  rw [Try.params5] at hA hval
  obtain ⟨v0, vs0, d0, ds0, p0, q0, hargs, rfl, rfl, h0, r0⟩ := trodAll_cons hA
  obtain ⟨rfl, rfl, rfl⟩ := trodAll_nil r0
  obtain rfl : args = #[v0] := by cases args; simp_all
  obtain ⟨rfl, rfl⟩ := trodVars_none hV
  obtain ⟨cs0, rfl, -⟩ := okWide_struct Try.underlying44 (hval 0 44 v0 rfl rfl)
  have k0 := h0
  have lt0 : ∀ x ∈ p0, x.block < W.heap.size := by obtain ⟨m, hm⟩ := k0; exact DataW.trod_lt m _ _ _ hm
  obtain ⟨fuel0, hf0⟩ := h0
  obtain ⟨t0, q0, l0, hc0, w0⟩ := open_store stoT hf0
  obtain rfl : cs0 = #[.int .i64 t0, slW q0] := Array.toList_inj.1 hc0
  clear hA0 hval0
  refine (walk t0 q0 l0 W w0).mono fun e W' ⟨he, bel⟩ => ?_
  subst he
  exact ⟨_, rfl, _, _, _, [], _, [], hW', trodAll_mk1 (shut_bool Try.underlying4 _), (trodAll_cons_mk (Below.trod laidOut (by kernel_rfl) (of_decide_eq_true (by kernel_rfl)) k0 bel lt0) trodAll_mk0), rfl, bel.frame _, fun h => by cases h⟩

theorem over : Rows.fnExactStoreFaultRow.holds Try.pinned (OpenSpec.ofChange Rows.fnExactStoreFaultSpec) :=
  OpenClaim.holds_of_wide 5 Try.f5 rfl rfl rfl rfl rfl rfl rfl ⟨rfl, rfl, rfl, rfl, rfl⟩ rfl rfl rfl rfl rfl (by kernel_rfl) Try.func5 (by kernel_rfl)
    (of_decide_eq_true (by kernel_rfl)) (by unfold Func.isWrapper; first | (rw [if_pos (by decide +kernel)]; kernel_rfl) | (rw [if_neg (by decide +kernel)]; exact ⟨rfl, rfl⟩))
    (fun os started H enc _ => lifted os started H enc)
end Go.Proofs.Ytnnanhjpnilndaa.fnExactStoreFault

namespace Go.Proofs.Ytnnanhjpnilndaa
theorem fnExactStoreFault_holds : Rows.FnExactStoreFaultSaid := fnExactStoreFault.over
end Go.Proofs.Ytnnanhjpnilndaa
