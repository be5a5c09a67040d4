/- Proved: called with any store, the law FnExactStoreText returns true (the program's StoreText answers as the model does and writes into no argument); tied to the program's text; no condition of our own. -/
import Derived.Test.YtmidjgpegdodcaaDoorCards
import Derived.Test.YtmidjgpegdodcaaDoorTie
import Derived.Test.YtmidjgpegdodcaaDoorOpt
import Derived.Test.YtmidjgpegdodcaaDoorTxt
import Derived.Test.YtmidjgpegdodcaaDoorSxt
import Derived.Deep.RegionHeld3
import Derived.WalkKit
import Derived.ProofKit
import Derived.OpenShut
import Derived.ShutString
import Derived.ChangeOld
import Derived.Below
import Derived.LaidMore
import Derived.OpenVars
import Derived.Stop.Joined
import Derived.Lib.LaidTab
import Derived.Stop.LaidErr
namespace Go.Proofs.YtmidjgpegdodcaaDoor.fnExactStoreText
open Go.ChangeShapes Go.WideShapes Go.ChangeAt Go.WideMaps Go.WideElems Go.RowKit
open Go.ChangeMaps (open_string shut_string)
set_option linter.unusedVariables false

theorem own : ownKnob Tryd.prog.godebug = none := by kernel_rfl
theorem laidOut : laidOutB Tryd.prog = true := by kernel_rfl
theorem gW : Tryd.prog.globalNamed "internal/strconv.uint64pow10" = some 1 := by kernel_rfl
theorem gtW : (Tryd.prog.globals[1]?).map (·.type) = some 115 := by kernel_rfl
theorem cW : Tryd.prog.cellsOf 115 = 20 := by kernel_rfl
theorem cellsU : Tryd.prog.cellsOf 107 = 1 := by kernel_rfl

/-- The door's own heap meets the condition: closed facts. -/
theorem door_met (os : Os) (args : Array Value) : laidMetH Tryd.prog Rows.fnExactStoreTextRow.laid ((World.doorLaid Tryd.prog 400 os).forCall (fun _ _ => 0) ⟨#[], args, []⟩).memory :=
  laidMetH_of_parts3 (fuel := 8) (laidMet_of_run' 8 (by kernel_rfl) (by kernel_rfl)) (by kernel_rfl) (by kernel_rfl)

/-- WHAT THE ROW LISTS GIVES THE WALK: the table lies in its variable. -/
theorem of_laidW {W : World} (h : laidMetH Tryd.prog Rows.fnExactStoreTextRow.laid W) : TabW W :=
  Lib.tabIs_of_head (zs := Lib.pow10Tab) gW gtW Tryd.underlying115 Tryd.underlying107 cellsU cW h.tail.tail

/-! ### THE WALK -/
set_option maxHeartbeats 1600000 in
set_option maxRecDepth 100000 in
theorem walk (t0 : Int) (q0 : SlQ) (l0 : List Bx) (w : World) (w0 : IsXs 0 w q0 l0 ∧ ∀ i, i < l0.length → (nthX l0 i).n.size ≤ maxLen) (htW : TabW w) :
    Calls Tryd.prog 3 #[.agg #[.int .i64 t0, slW q0]] w fun e w' => e = .returned (.bool true) ∧ Below w.heap.size w w' := by
  obtain ⟨w0, hok⟩ := w0
  have hA0 : Below w.heap.size w (w.alloc (.cells #[.int .i64 t0, slW q0] 24)) := (Below.refl _ _).alloc (Nat.le_refl _) _
  have hZ0 := Dc.new w (.int .i64 t0) (slW q0) 24
  have hw0 := w0.below hA0
  have hG : w.heap.size < (w.alloc (.cells #[.int .i64 t0, slW q0] 24)).heap.size := by simp
  go_enter Tryd.func3, Tryd.ntmps3
  go_wp2_with fail
  generalize (w.alloc (.cells #[.int .i64 t0, slW q0] 24)) = W0 at *
  refine (szStore_ft t0 q0 l0 1048576 W0 (by omega) (by omega) hw0 hok).mono ?_
  rintro e w1 ⟨r, rfl, hcase, hb1⟩
  have hB1 := hA0.trans (hb1.mono hA0.size)
  rcases hcase with rfl | ⟨r0, -, hn⟩
  · go_wp2
    go_ret
    exact ⟨rfl, hB1⟩
  · have hneg : ¬ r < 0 := by omega
    have hr1 := hw0.below hb1
    have hZ1 := hZ0.below hb1 hG
    clear w0 hw0 hA0 hb1 hZ0 hG
    obtain ⟨c0, c1⟩ := id hZ1
    dsimp only at c0 c1
    go_wp2_with fail
    refine (toStore_ft t0 q0 l0 w1 hr1 hn).mono ?_
    rintro e w2 ⟨s2, rfl, ho2, hb2⟩
    have hB2 : Below w.heap.size w w2 := hB1.trans (hb2.mono hB1.size)
    have hr2 := hr1.below hb2
    have hZ2 := hZ1.below hb2 hZ1.lt
    clear c0 c1 hb2 hr1 hZ1 hB1
    go_wp2_with fail
    refine (specStoreText_any t0 s2 l0 w2 ho2 hn).mono ?_
    rintro e w3 ⟨rfl, hb3⟩
    have HSI : Hid (∀ (s : SlQ) w, IsXs 0 w s l0 → TabW w → Calls Tryd.prog 7 #[.agg #[.int .i64 t0, slW s]] w fun e w' => e = .returned (.agg #[.int .i64 (zT t0 l0).1, .string (str (zT t0 l0).2)]) ∧ Below w.heap.size w w') := fun s w h ht => storeText_any t0 s l0 w h hn ht
    generalize (zT t0 l0).1 = c at *
    generalize str (zT t0 l0).2 = sx at *
    have hbA : Below w3.heap.size w3 (w3.alloc (.cells #[.int .i64 c, .string sx] 27)) := (Below.refl _ _).alloc (Nat.le_refl _) _
    have hb3' := hb3.trans (hbA.mono hb3.size)
    have hB3 : Below w.heap.size w (w3.alloc (.cells #[.int .i64 c, .string sx] 27)) := hB2.trans (hb3'.mono hB2.size)
    have hr3 := hr2.below hb3'
    have hZ3 := hZ2.below hb3' hZ2.lt
    have hY3 := Dc.new w3 (.int .i64 c) (.string sx) 27
    clear hb3 hb3' hbA hr2 hZ2 hB2 ho2
    obtain ⟨c0, c1⟩ := id hZ3
    dsimp only at c0 c1
    go_wp2_with fail
    generalize (w3.alloc (.cells #[.int .i64 c, .string sx] 27)) = W3 at *
    generalize w3.heap.size = g3 at *
    refine (toStore_ft t0 q0 l0 W3 hr3 hn).mono ?_
    rintro e w4 ⟨s4, rfl, ho4, hb4⟩
    have hB4 : Below w.heap.size w w4 := hB3.trans (hb4.mono hB3.size)
    have hr4 := hr3.below hb4
    have hZ4 := hZ3.below hb4 hZ3.lt
    have hY4 := hY3.below hb4 hY3.lt
    clear c0 c1 hb4 hr3 hZ3 hB3 hY3
    have hL5 := hZ4.lt
    have hb5 : Below w4.heap.size w4 (w4.alloc (.cells #[.int .i64 t0, slW s4] 31)) := (Below.refl _ _).alloc (Nat.le_refl _) _
    have hX5 := Dc.new w4 (.int .i64 t0) (slW s4) 31
    have hZ5 := hZ4.below hb5 hL5
    have hY5 := hY4.below hb5 hY4.lt
    have ho5 := ho4.below hb5
    have hr5 := hr4.below hb5
    have hB5 : Below w.heap.size w _ := hB4.trans (hb5.mono hB4.size)
    clear hb5 ho4 hr4 hB4 hZ4 hY4
    go_wp2_with fail
    generalize (w4.alloc (.cells #[.int .i64 t0, slW s4] 31)) = W5 at *
    generalize w4.heap.size = g5 at *
    refine (HSI.out s4 W5 (ho5.low (Nat.zero_le _)) (htW.below hB5)).mono ?_
    rintro e w6 ⟨rfl, hb6⟩
    have hbA : Below w6.heap.size w6 (w6.alloc (.cells #[.int .i64 c, .string sx] 27)) := (Below.refl _ _).alloc (Nat.le_refl _) _
    have hb6' := hb6.trans (hbA.mono hb6.size)
    have hB6 : Below w.heap.size w (w6.alloc (.cells #[.int .i64 c, .string sx] 27)) := hB5.trans (hb6'.mono hB5.size)
    have hr6 := hr5.below hb6'
    have ho6 := ho5.below hb6'
    have hZ6 := hZ5.below hb6' hZ5.lt
    have hX6 := hX5.below hb6' hX5.lt
    have hY6 := (hY5.below hb6' hY5.lt)
    have hV6 := Dc.new w6 (.int .i64 c) (.string sx) 27
    clear hb6 hb6' hbA hr5 ho5 hZ5 hX5 hY5 hB5
    obtain ⟨i0, i1⟩ := id hV6
    obtain ⟨j0, j1⟩ := id hY6
    dsimp only at i0 i1 j0 j1
    go_wp2_with fail
    generalize (w6.alloc (.cells #[.int .i64 c, .string sx] 27)) = W6 at *
    refine (eqTextResult_txt c sx W6).mono ?_
    rintro e w66 ⟨rfl, hb66⟩
    have hB66 : Below w.heap.size w w66 := hB6.trans (hb66.mono hB6.size)
    have hr66 := hr6.below hb66
    have ho66 := ho6.below hb66
    have hZ66 := hZ6.below hb66 hZ6.lt
    have hX66 := hX6.below hb66 hX6.lt
    clear hb66 hr6 ho6 hZ6 hX6 hY6 hV6 hB6 i0 i1 j0 j1
    go_wp2_with fail
    refine wp_region_held_drew (S := fun w' => Dc w' g5 ((.int .i64 t0, slW s4)) ∧ Dc w' w.heap.size ((.int .i64 t0, slW q0))) (by kernel_rfl) ?hS1 (fun hHeld => ?_)
    case hS1 => exact ⟨hX66, hZ66⟩
    refine wpAnyH_take (i := 0) (v := ?_) rfl (by kernel_rfl) (by kernel_rfl) (by kernel_rfl) (fun _ _ _ h => h) (Or.inl ⟨by rfl, ?hy1⟩) (by assumption) ?ty1
    case hy1 => (intro w' hSw; obtain ⟨⟨e0, e1⟩, -⟩ := hSw; dsimp only at e0 e1; go_simp; all_goals with_reducible rfl)
    simp only [Act.put, List.getElem_toArray, List.getElem_cons_zero, List.setIfInBounds_toArray, List.set_cons_zero, List.set_cons_succ]
    refine wpAnyH_take (i := 1) (v := ?_) rfl (by kernel_rfl) (by kernel_rfl) (by kernel_rfl) (fun _ _ _ h => h) (Or.inl ⟨by rfl, ?hy2⟩) (by assumption) ?ty2
    case hy2 => (intro w' hSw; obtain ⟨-, ⟨e0, e1⟩⟩ := hSw; dsimp only at e0 e1; go_simp; all_goals with_reducible rfl)
    simp only [Act.put, List.getElem_toArray, List.getElem_cons_zero, List.getElem_cons_succ, List.setIfInBounds_toArray, List.set_cons_zero, List.set_cons_succ]
    refine wpAnyH_ready (rs := [2]) (by kernel_rfl) (by simp) ?_
    refine AllReadyH.cons rfl (fun K hK => ?_) AllReadyH.nil
    go_simp
    refine (toStore_ft t0 q0 l0 _ (hr66.below (Below.refl _ _).drew) hn).mono ?_
    rintro e w7 ⟨s7, rfl, ho7, hb7⟩
    have hb67 : Below w66.heap.size w66 w7 := (Below.refl _ _).drew.trans hb7
    have hB7 : Below w.heap.size w w7 := hB66.trans (hb67.mono hB66.size)
    have ho7' := ho66.below hb67
    have hS7 : Dc w7 g5 ((.int .i64 t0, slW s4)) ∧ Dc w7 w.heap.size ((.int .i64 t0, slW q0)) := ⟨hX66.below hb67 hX66.lt, hZ66.below hb67 hZ66.lt⟩
    refine hK.out _ _ hS7 (fun hHeld => ?_)
    clear hK K hb67 hb7 hB66 ho66 hX66 hZ66 hr66
    refine wpAnyH_ready (rs := [3]) (by kernel_rfl) (by simp) ?_
    refine AllReadyH.cons rfl (fun K hK => ?_) AllReadyH.nil
    go_simp
    refine (eqStore_ft t0 s4 s7 l0 _ ho7' ho7 hn).mono ?_
    rintro e w8 ⟨rfl, hb8⟩
    have hB8 : Below w.heap.size w w8 := hB7.trans (hb8.mono hB7.size)
    refine hK.out _ _ ⟨hS7.1.below hb8 hS7.1.lt, hS7.2.below hb8 hS7.2.lt⟩ (fun hHeld => ?_)
    clear hK K hb8 hB7 ho7 ho7' hS7
    refine wpAnyH_take (i := 4) (v := ?_) rfl (by kernel_rfl) (by kernel_rfl) (by kernel_rfl) (fun _ _ _ h => h) (Or.inl ⟨by rfl, ?hy3⟩) (by assumption) ?ty3
    case hy3 => (intro w' hSw; go_simp; all_goals with_reducible rfl)
    simp only [Act.put, List.getElem_toArray, List.getElem_cons_zero, List.getElem_cons_succ, List.setIfInBounds_toArray, List.set_cons_zero, List.set_cons_succ]
    refine wpAnyH_done (by kernel_rfl) ?_ _
    clear hHeld
    go_wp2
    go_ret
    exact ⟨rfl, hB8⟩

/-! ### THE ROW's STEP -/
set_option maxRecDepth 100000 in
theorem lifted (os : Os) (started : os.Started) (H : Type) (enc : TypeId × Value → H) :
    ReturnsInHanded {} Tryd.checked os 3 .any (fun w args => (Rows.fnExactStoreTextSpec.pre enc Tryd.prog Tryd.f3 [] false w args ∧ laidMetH Tryd.prog Rows.fnExactStoreTextRow.laid w) ∧ sizedMet enc Tryd.prog Tryd.f3 (OpenSpec.ofChange Rows.fnExactStoreTextSpec) false w args)
      (Rows.fnExactStoreTextSpec.post enc Tryd.prog Tryd.f3 false true false false) := by
  refine returnsInHanded_of_change_and (C := Tryd.checked) (X := fun w _ => laidMetH Tryd.prog Rows.fnExactStoreTextRow.laid w) (fun _ _ _ hh h => h.of_heap hh) own started (by kernel_rfl) Tryd.func3
    (ChangeSpec.witness_shaped (enc := enc) (C := Tryd.checked) (os := os) (X := fun w _ => laidMetH Tryd.prog Rows.fnExactStoreTextRow.laid w) false (World.doorLaid Tryd.prog 400 os) #[.agg #[.int .i64 0, .slice none 0 0]] 8 rfl (World.shaped_of_RefB (by kernel_rfl) (by kernel_rfl)) (by kernel_rfl) (by kernel_rfl) (by kernel_rfl) (door_met os _)) ?_
  intro W base args ds gs before hval0 hW _ _ hL _
  have hval : ∀ (j : Nat) t v, Tryd.f3.params[j]? = some t → args[j]? = some v → Value.okWide Tryd.prog W .any base t v := hval0
  have hW' := hW
  obtain ⟨p, q, hA0, hV, rfl, hfz, hnd⟩ := hW
  have hA : DataW.TrodAll enc Tryd.prog W 0 (fun _ => true) true Tryd.f3.params.toList args.toList ds p := hA0
  rw [Tryd.params3] at hA hval
  obtain ⟨v0, vs0, d0, ds0, p0, q0, hargs, rfl, rfl, h0, r0⟩ := trodAll_cons hA
  obtain ⟨rfl, rfl, rfl⟩ := trodAll_nil r0
  obtain rfl : args = #[v0] := by cases args; simp_all
  obtain ⟨cs0, rfl, -⟩ := okWide_struct Tryd.underlying24 (hval 0 24 v0 rfl rfl)
  have k0 := h0
  have lt0 : ∀ x ∈ p0, x.block < W.heap.size := by obtain ⟨m, hm⟩ := k0; exact DataW.trod_lt m _ _ _ hm
  obtain ⟨fuel0, hf0⟩ := h0
  obtain ⟨t0, q0, l0, hc0, w0⟩ := open_store stoT hf0
  obtain rfl : cs0 = #[.int .i64 t0, slW q0] := Array.toList_inj.1 hc0
  obtain ⟨rfl, rfl⟩ := trodVars_none hV
  clear hA0 hval0
  refine (walk t0 q0 l0 W w0 (of_laidW hL)).mono fun e W' ⟨he, bel⟩ => ?_
  subst he
  exact ⟨_, rfl, _, _, _, [], _, [], hW', trodAll_mk1 (shut_bool Tryd.underlying4 _), (trodAll_cons_mk (Below.trod laidOut (by kernel_rfl) (of_decide_eq_true (by kernel_rfl)) k0 bel lt0) trodAll_mk0), rfl, bel.frame _, fun h => by cases h⟩

theorem over : Rows.fnExactStoreTextRow.holds Tryd.pinned (OpenSpec.ofChange Rows.fnExactStoreTextSpec) :=
  OpenClaim.holds_of_wide 3 Tryd.f3 rfl rfl rfl rfl rfl rfl rfl ⟨rfl, rfl, rfl, rfl, rfl⟩ rfl rfl rfl rfl rfl (by kernel_rfl) Tryd.func3 (by kernel_rfl)
    (of_decide_eq_true (by kernel_rfl)) (by unfold Func.isWrapper; first | (rw [if_pos (by decide +kernel)]; kernel_rfl) | (rw [if_neg (by decide +kernel)]; exact ⟨rfl, rfl⟩))
    (fun os started H enc _ => lifted os started H enc)

theorem plainF (f : FuncId) (fn : Func) (hf : Tryd.pinned.checked.prog.funcNamed "loop.example/g00447/laws.FnExactStoreText" = some f) (hfn : Tryd.pinned.checked.prog.funcs[f]? = some fn) :
    false = Tryd.pinned.checked.prog.looks [] ∧ ∀ (j : Nat) t, fn.params[j]? = some t → Tryd.pinned.checked.prog.wantsStandIn t = false := by
  obtain rfl : f = 3 := Option.some.inj ((show Tryd.prog.funcNamed "loop.example/g00447/laws.FnExactStoreText" = some 3 by kernel_rfl).symm.trans hf) |>.symm
  obtain rfl : fn = Tryd.f3 := (Option.some.inj (Tryd.func3.symm.trans hfn)).symm
  refine ⟨by kernel_rfl, fun j t ht => ?_⟩
  rw [Tryd.params3] at ht
  have hm : t ∈ [24] := by simpa using Array.mem_of_getElem? ht
  have hall : ([24].all fun u => !Tryd.prog.wantsStandIn u) = true := by kernel_rfl
  exact (show Tryd.prog.wantsStandIn t = false by simpa using List.all_eq_true.1 hall t hm)
end Go.Proofs.YtmidjgpegdodcaaDoor.fnExactStoreText

namespace Go.Proofs.YtmidjgpegdodcaaDoor
/-- THE TIED CARD. -/
theorem fnExactStoreText_card : Rows.FnExactStoreTextCardSaid :=
  Claim7.holds_tied_plain_at .later [] _ _ _ _ fnExactStoreText.over (fun _ h => by cases h) (by kernel_rfl) (fun _ h => by cases h) fnExactStoreText_row_tie rfl ⟨rfl, rfl⟩ (by kernel_rfl) rfl fnExactStoreText.plainF (by kernel_rfl)
end Go.Proofs.YtmidjgpegdodcaaDoor
