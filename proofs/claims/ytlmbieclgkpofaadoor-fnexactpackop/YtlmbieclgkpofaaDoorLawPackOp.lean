/- PackOp answers as the model at every op, writes into none of it, and its answer is new memory: the law returns true, whatever the input; the condition: the table kindHas lies in its variable, which the card ties to the program's text. -/
import Derived.Test.YtlmbieclgkpofaaDoorCards
import Derived.Test.YtlmbieclgkpofaaDoorTie
import Derived.Test.YtlmbieclgkpofaaDoorOpu
import Derived.Test.YtlmbieclgkpofaaDoorPkn
import Derived.Test.YtlmbieclgkpofaaDoorOsw
import Derived.WalkKit
import Derived.ProofKit
import Derived.OpenShut
import Derived.ShutString
import Derived.ChangeOld
import Derived.Below
import Derived.LaidMore
import Derived.OpenVars
import Derived.Stop.Joined
import Derived.Lib.LaidTab
import Derived.Stop.LaidErr
namespace Go.Proofs.YtlmbieclgkpofaaDoor.fnExactPackOp
open Go.ChangeShapes Go.WideShapes Go.ChangeAt Go.WideMaps Go.WideElems Go.RowKit
open Go.ChangeMaps (open_string shut_string)
set_option linter.unusedVariables false

theorem own : ownKnob Tryd.prog.godebug = none := by kernel_rfl
theorem laidOut : laidOutB Tryd.prog = true := by kernel_rfl
theorem g8 : Tryd.prog.globalNamed "loop.example/g00447/impl.kindHas" = some 0 := by kernel_rfl
theorem gt8 : (Tryd.prog.globals[0]?).map (·.type) = some 65 := by kernel_rfl
theorem c8 : Tryd.prog.cellsOf 65 = 8 := by kernel_rfl
theorem cellsB : Tryd.prog.cellsOf 2 = 1 := by kernel_rfl

/-- The door's own heap meets the condition: closed facts. -/
theorem door_met (os : Os) (args : Array Value) : laidMetH Tryd.prog Rows.fnExactPackOpRow.laid ((World.doorLaid Tryd.prog 400 os).forCall (fun _ _ => 0) ⟨#[], args, []⟩).memory :=
  laidMetH_of_parts3 (fuel := 8) (laidMet_of_run' 8 (by kernel_rfl) (by kernel_rfl)) (by kernel_rfl) (by kernel_rfl)

/-- WHAT THE ROW LISTS GIVES THE WALK: the table lies in its variable. -/
theorem of_laid8 {W : World} (h : laidMetH Tryd.prog Rows.fnExactPackOpRow.laid W) : TabH8 W := fun v hv => by
  have ht : Lib.TabIs Tryd.prog W "loop.example/g00447/impl.kindHas" .i64 khZ := Lib.tabIs_of_head (rest := []) g8 gt8 Tryd.underlying65 Tryd.underlying2 cellsB c8 h
  rw [ht.cell g8 v hv]

/-! ### THE WALK -/
set_option maxHeartbeats 1600000 in
set_option maxRecDepth 100000 in
theorem walk (o0 : OpR) (p0 : SlO) (w : World) (w0 : IsOp 0 w p0 o0 ∧ o0.x.size ≤ maxLen ∧ o0.t.size ≤ maxLen) (ht8 : TabH8 w) :
    Calls Tryd.prog 4 #[opX o0 p0] w fun e w' => e = .returned (.bool true) ∧ Below w.heap.size w w' := by
  obtain ⟨w0, hok⟩ := w0
  obtain ⟨W0, hW0⟩ : ∃ W0, w.alloc (.cells #[.int .i64 o0.k, .string o0.x, .string o0.t, slW p0.1, .int .i64 o0.m, .int .i64 o0.f, .int .i64 o0.d, slW p0.2] 25) = W0 := ⟨_, rfl⟩
  have hA0 : Below w.heap.size w W0 := by rw [← hW0]; exact (Below.refl _ _).alloc (Nat.le_refl _) _
  have hZ0 : Qo W0 w.heap.size (opQ o0 p0) := by rw [← hW0]; exact Qo.new _ _ _ _ _ _ _ _ _ _
  have hsz0 : w.heap.size < W0.heap.size := by rw [← hW0]; simp
  have HZ : Hid (∀ w', Below W0.heap.size W0 w' → Qo w' w.heap.size (opQ o0 p0) ∧ IsOp 0 w' p0 o0 ∧ TabH8 w') := fun w' hb => ⟨hZ0.below hb hsz0, (w0.below hA0).below hb, (ht8.below hA0).below hb⟩
  have HSZ := szOp_ft o0 p0 1048576 W0 (by omega) (by omega) (w0.below hA0) hok
  obtain ⟨⟨c0, c1, c2, c3, c4, c5, c6, c7⟩, -, -⟩ := HZ.out W0 (Below.refl _ _)
  dsimp only at c0 c1 c2 c3 c4 c5 c6 c7
  have HPL : Hid ((pkV o0).2.length ≤ 1048576) := pkV_le o0
  have HSP : Hid (∀ (p : SlO) (lo : Nat) (w : World), IsOp lo w p o0 → o0.x.size ≤ 1048576 → o0.t.size ≤ 1048576 → Calls Tryd.prog 13 #[opX o0 p] w fun e w' => PkEnd (pkV o0) w e w') := fun p lo w h1 h2 h3 => specPackOp_any o0 p w h1 h2 h3
  have HIM : Hid (∀ (p : SlO) (lo : Nat) (w : World), IsOp lo w p o0 → TabH8 w → o0.x.size ≤ 1048576 → o0.t.size ≤ 1048576 → Calls Tryd.prog 14 #[opX o0 p] w fun e w' => PkEnd (pkV o0) w e w') := fun p lo w h1 h2 h3 h4 => packOp_any o0 p w h1 h2 h3 h4
  generalize pkV o0 = rv at *
  obtain ⟨c, t⟩ := rv
  dsimp only at HPL
  clear w0 ht8 hZ0
  go_enter Tryd.func4, Tryd.ntmps4
  go_wp2_with fail
  refine HSZ.mono ?_
  rintro e w1 ⟨r, rfl, hcase, hb1⟩
  clear HSZ c0 c1 c2 c3 c4 c5 c6 c7
  rcases hcase with rfl | ⟨r0, -, hn⟩
  · go_wp2
    go_ret
    exact ⟨rfl, hA0.trans (hb1.mono hA0.size)⟩
  · have hneg : ¬ r < 0 := by omega
    have hT : t.length ≤ 1048576 := HPL.out
    obtain ⟨⟨c0, c1, c2, c3, c4, c5, c6, c7⟩, hr1, hT1⟩ := HZ.out w1 hb1
    dsimp only at c0 c1 c2 c3 c4 c5 c6 c7
    go_wp2_with fail
    refine (toOp_ft o0 p0 w1 hr1 hn).mono ?_
    rintro e w2 ⟨s2, rfl, ho2, hb2⟩
    have hB2 := hb1.trans (hb2.mono hb1.size)
    clear c0 c1 c2 c3 c4 c5 c6 c7 hb2 hr1 hT1
    go_wp2_with fail
    refine (HSP.out s2 _ w2 ho2 hn.1 hn.2.1).mono ?_
    rintro e w3 ⟨v3, rfl, hg3, hb3⟩
    have hB3 := hB2.trans (hb3.mono hB2.size)
    obtain ⟨a3, cp3, rfl, hrd3, -⟩ := hg3.wr 0
    dsimp only at hrd3
    clear hg3 ho2 hb3 hB2
    obtain ⟨W3, hW3⟩ : ∃ W3, w3.alloc (.cells #[.int .i64 c, .slice a3 t.length cp3] 33) = W3 := ⟨_, rfl⟩
    have hb3' : Below w3.heap.size w3 W3 := by rw [← hW3]; exact (Below.refl _ _).alloc (Nat.le_refl _) _
    have hs3 : W3.heap.size = w3.heap.size + 1 := by rw [← hW3]; simp
    have hB03 : Below W0.heap.size W0 W3 := hB3.trans (hb3'.mono hB3.size)
    have HY : Hid (∀ w', Below W3.heap.size W3 w' → (w'.cell? ⟨w3.heap.size, 0, none⟩ = some (.int .i64 c) ∧ w'.cell? ⟨w3.heap.size, 1, none⟩ = some (.slice a3 t.length cp3)) ∧ Rd w' a3 t) := fun w' hb => ⟨⟨(hb.cell (p := ⟨w3.heap.size, 0, none⟩) (by show w3.heap.size < _; omega)).trans (by rw [← hW3]; simp), (hb.cell (p := ⟨w3.heap.size, 1, none⟩) (by show w3.heap.size < _; omega)).trans (by rw [← hW3]; simp)⟩, (hrd3.below hb3').below hb⟩
    have HZ3 : Hid (∀ w', Below W3.heap.size W3 w' → Qo w' w.heap.size (opQ o0 p0) ∧ IsOp 0 w' p0 o0 ∧ TabH8 w') := fun w' hb => HZ.out w' (hB03.trans (hb.mono hB03.size))
    have HW3 : Hid (∀ w', Below W3.heap.size W3 w' → Below w.heap.size w w') := fun w' hb => hA0.trans ((hB03.trans (hb.mono hB03.size)).mono hA0.size)
    obtain ⟨⟨c0, c1, c2, c3, c4, c5, c6, c7⟩, hr3, -⟩ := HZ3.out W3 (Below.refl _ _)
    dsimp only at c0 c1 c2 c3 c4 c5 c6 c7
    have HS3 : Hid (W3.heap.size = w3.heap.size + 1) := hs3
    clear hb3' hB3 hrd3 HZ hB03 hs3 hA0 hsz0
    go_wp2_with fail
    generalize w3.heap.size = g3 at *
    refine (toOp_wr o0 p0 W3 hr3 hn).mono ?_
    rintro e w4 ⟨s4, rfl, ho4, ⟨hV1, hV2⟩, hlt4, hb4⟩
    clear c0 c1 c2 c3 c4 c5 c6 c7 hr3
    obtain ⟨W5, hW5⟩ : ∃ W5, w4.alloc (.cells #[.int .i64 o0.k, .string o0.x, .string o0.t, slW s4.1, .int .i64 o0.m, .int .i64 o0.f, .int .i64 o0.d, slW s4.2] 28) = W5 := ⟨_, rfl⟩
    have hb5 : Below w4.heap.size w4 W5 := by rw [← hW5]; exact (Below.refl _ _).alloc (Nat.le_refl _) _
    have hs5 : W5.heap.size = w4.heap.size + 1 := by rw [← hW5]; simp
    have hX5 : Qo W5 w4.heap.size (opQ o0 s4) := by rw [← hW5]; exact Qo.new _ _ _ _ _ _ _ _ _ _
    have hz4 : W3.heap.size ≤ w4.heap.size := hb4.size
    have hB35 : Below W3.heap.size W3 W5 := hb4.trans (hb5.mono hz4)
    have ho5 := ho4.below hb5
    have hV1' := hV1.hi.below hb5
    have hV2' := hV2.hi.below hb5
    have hl1 : s4.1.2.1 ≤ 1048576 := by rw [← ho4.1.1]; exact hn.2.2.1
    have hl2 : s4.2.2.1 ≤ 1048576 := by rw [← ho4.2.1]; exact hn.2.2.2
    have HX : Hid (∀ w', Below W5.heap.size W5 w' → Qo w' w4.heap.size (opQ o0 s4) ∧ IsOp W3.heap.size w' s4 o0 ∧ WrH W3.heap.size w4.heap.size w' s4.1 ∧ WrH W3.heap.size w4.heap.size w' s4.2) := fun w' hb => ⟨hX5.below hb (by omega), ho5.below hb, hV1'.below hb, hV2'.below hb⟩
    have HS5 : Hid (W5.heap.size = w4.heap.size + 1) := hs5
    obtain ⟨⟨c0, c1, c2, c3, c4, c5, c6, c7⟩, -⟩ := HX.out W5 (Below.refl _ _)
    dsimp only at c0 c1 c2 c3 c4 c5 c6 c7
    have hlt45 : W3.heap.size ≤ w4.heap.size := hz4
    have hT5 := (HZ3.out W5 hB35).2.2
    clear hV1 hV2 hV1' hV2' hb4 hb5 ho4 hs5 hX5
    go_wp2_with fail
    generalize w4.heap.size = g5 at *
    refine (HIM.out s4 _ W5 ho5 hT5 hn.1 hn.2.1).mono ?_
    rintro e w6 ⟨v6, rfl, hg6, hb6⟩
    clear c0 c1 c2 c3 c4 c5 c6 c7 ho5 hT5
    have hB36 := hB35.trans (hb6.mono hB35.size)
    obtain ⟨a6, cp6, rfl, hrd6, g6, hg1, hg2, hw6⟩ := hg6.wr g5
    dsimp only at hrd6 hg1 hw6
    obtain ⟨W7, hW7⟩ : ∃ W7, w6.alloc (.cells #[.int .i64 c, .slice a6 t.length cp6] 33) = W7 := ⟨_, rfl⟩
    have hb7 : Below w6.heap.size w6 W7 := by rw [← hW7]; exact (Below.refl _ _).alloc (Nat.le_refl _) _
    have hs7 : W7.heap.size = w6.heap.size + 1 := by rw [← hW7]; simp
    have hz6 : W5.heap.size ≤ w6.heap.size := hb6.size
    have hg6l : g5 ≤ g6 ∧ g6 < w6.heap.size := by
      have := HS5.out
      rcases hg2 with rfl | ⟨h1, h2⟩
      · exact ⟨Nat.le_refl _, by omega⟩
      · exact ⟨by omega, h2⟩
    have hB57 : Below W5.heap.size W5 W7 := hb6.trans (hb7.mono hz6)
    have hB37 : Below W3.heap.size W3 W7 := hB36.trans (hb7.mono hB36.size)
    have HG : Hid (∀ w', Below W7.heap.size W7 w' → (w'.cell? ⟨w6.heap.size, 0, none⟩ = some (.int .i64 c) ∧ w'.cell? ⟨w6.heap.size, 1, none⟩ = some (.slice a6 t.length cp6)) ∧ Rd w' a6 t ∧ ∀ i, i < t.length → (w'.cell? ⟨g6, i, none⟩).isSome = true ∧ w'.frozen? ⟨g6, i, none⟩ = false) := fun w' hb => by
      have hx : w6.heap.size < W7.heap.size := by omega
      refine ⟨⟨(hb.cell (p := ⟨w6.heap.size, 0, none⟩) hx).trans (by rw [← hW7]; simp), (hb.cell (p := ⟨w6.heap.size, 1, none⟩) hx).trans (by rw [← hW7]; simp)⟩, (hrd6.below hb7).below hb, fun i hi => ?_⟩
      have e1 : W7.cell? ⟨g6, i, none⟩ = w6.cell? ⟨g6, i, none⟩ := hb7.cell (p := ⟨g6, i, none⟩) hg6l.2
      have e2 : W7.frozen? ⟨g6, i, none⟩ = w6.frozen? ⟨g6, i, none⟩ := hb7.frozen (p := ⟨g6, i, none⟩) hg6l.2
      have hy : g6 < W7.heap.size := by omega
      exact ⟨by rw [hb.cell (p := ⟨g6, i, none⟩) hy, e1]; exact (hw6 i hi).1, (hb.frozen (p := ⟨g6, i, none⟩) hy).trans (e2.trans (hw6 i hi).2)⟩
    have HS7 : Hid (W7.heap.size = w6.heap.size + 1) := hs7
    obtain ⟨⟨x0, x1⟩, hrX, -⟩ := HG.out W7 (Below.refl _ _)
    obtain ⟨⟨y0, y1⟩, hrY⟩ := HY.out W7 hB37
    clear hs7 hb6 hb7 hrd6 hg6 hw6 hB35 hB36
    go_wp2_with fail
    generalize w6.heap.size = g7 at *
    refine (eqBytesResult_same c a6 a3 t.length cp6 cp3 t W7 rfl hrX hrY hT).mono ?_
    rintro e w8 ⟨rfl, hb8⟩
    have hB38 := hB37.trans (hb8.mono hB37.size)
    have hB58 := hB57.trans (hb8.mono hB57.size)
    have hX8 := (HX.out w8 hB58).1
    have hZ8 := (HZ3.out w8 hB38).1
    clear x0 x1 y0 y1 hrX hrY hB57 hB37
    go_wp2_with fail
    refine wp_region_held_drew (S := fun w' => Qo w' g5 (opQ o0 s4) ∧ Qo w' w.heap.size (opQ o0 p0)) (by kernel_rfl) ?hS1 (fun hHeld => ?_)
    case hS1 => exact ⟨hX8, hZ8⟩
    refine wpAnyH_take (i := 0) (v := ?_) rfl (by kernel_rfl) (by kernel_rfl) (by kernel_rfl) (fun _ _ _ h => h) (Or.inl ⟨by rfl, ?hy1⟩) (by assumption) ?ty1
    case hy1 => (intro w' hSw; obtain ⟨⟨e0, e1, e2, e3, e4, e5, e6, e7⟩, -⟩ := hSw; dsimp only at e0 e1 e2 e3 e4 e5 e6 e7; go_simp; all_goals with_reducible rfl)
    simp only [Act.put, List.getElem_toArray, List.getElem_cons_zero, List.setIfInBounds_toArray, List.set_cons_zero, List.set_cons_succ]
    refine wpAnyH_take (i := 1) (v := ?_) rfl (by kernel_rfl) (by kernel_rfl) (by kernel_rfl) (fun _ _ _ h => h) (Or.inl ⟨by rfl, ?hy2⟩) (by assumption) ?ty2
    case hy2 => (intro w' hSw; obtain ⟨-, ⟨e0, e1, e2, e3, e4, e5, e6, e7⟩⟩ := hSw; dsimp only at e0 e1 e2 e3 e4 e5 e6 e7; go_simp; all_goals with_reducible rfl)
    simp only [Act.put, List.getElem_toArray, List.getElem_cons_zero, List.getElem_cons_succ, List.setIfInBounds_toArray, List.set_cons_zero, List.set_cons_succ]
    refine wpAnyH_ready (rs := [2]) (by kernel_rfl) (by simp) ?_
    refine AllReadyH.cons rfl (fun K hK => ?_) AllReadyH.nil
    go_simp
    have hd8 : Below w8.heap.size w8 w8.drew := (Below.refl _ _).drew
    refine (toOp_ft o0 p0 _ ((HZ3.out w8 hB38).2.1.below hd8) hn).mono ?_
    rintro e w9 ⟨s9, rfl, ho9, hb9⟩
    have hb89 : Below w8.heap.size w8 w9 := hd8.trans hb9
    have hB39 := hB38.trans (hb89.mono hB38.size)
    have hB59 := hB58.trans (hb89.mono hB58.size)
    have hB79 := hb8.trans (hb89.mono hb8.size)
    refine hK.out _ _ ⟨(HX.out w9 hB59).1, (HZ3.out w9 hB39).1⟩ (fun hHeld => ?_)
    clear hK K hb9 hX8 hZ8 hd8 hb89
    refine wpAnyH_ready (rs := [3]) (by kernel_rfl) (by simp) ?_
    refine AllReadyH.cons rfl (fun K hK => ?_) AllReadyH.nil
    go_simp
    refine (eqOp_ft o0 s4 s9 _ (HX.out w9 hB59).2.1 ho9 hn).mono ?_
    rintro e w10 ⟨rfl, hb10⟩
    have hB310 := hB39.trans (hb10.mono hB39.size)
    have hB510 := hB59.trans (hb10.mono hB59.size)
    have hB710 := hB79.trans (hb10.mono hB79.size)
    refine hK.out _ _ ⟨(HX.out w10 hB510).1, (HZ3.out w10 hB310).1⟩ (fun hHeld => ?_)
    clear hK K hb10 ho9 hB39 hB59 hB79 hb8 hB38 hB58
    refine wpAnyH_take (i := 4) (v := ?_) rfl (by kernel_rfl) (by kernel_rfl) (by kernel_rfl) (fun _ _ _ h => h) (Or.inl ⟨by rfl, ?hy3⟩) (by assumption) ?ty3
    case hy3 => (intro w' hSw; go_simp; all_goals with_reducible rfl)
    simp only [Act.put, List.getElem_toArray, List.getElem_cons_zero, List.getElem_cons_succ, List.setIfInBounds_toArray, List.set_cons_zero, List.set_cons_succ]
    refine wpAnyH_done (by kernel_rfl) ?_ _
    clear hHeld
    obtain ⟨⟨c0, c1, c2, c3, c4, c5, c6, c7⟩, -, hV1, hV2⟩ := HX.out w10 hB510
    dsimp only at c0 c1 c2 c3 c4 c5 c6 c7
    have hz10 : W7.heap.size ≤ w10.heap.size := hB710.size
    have hz57 : W5.heap.size ≤ g7 := hz6
    have hg510 : g5 ≤ w10.heap.size := by have := HS5.out; have := HS7.out; omega
    have HMK := markOp_mj o0 s4 1 W3.heap.size g5 w10 hV1 hV2 hlt4 hg510 hl1 hl2 (by omega)
    rw [show ((1 : Nat) : Int) = 1 from rfl] at HMK
    go_wp2_with fail
    refine HMK.mono ?_
    rintro e w11 ⟨rfl, hm⟩
    have hB311 := hB310.trans hm.1
    have hg7l : g7 < w10.heap.size := by have := HS7.out; omega
    have hg6m : g6 < w10.heap.size := by omega
    have hg57 : g5 ≤ g7 := by omega
    obtain ⟨⟨x0, x1⟩, hrX, hwX⟩ := HG.out w10 hB710
    have x0' := (hm.2.1 ⟨g7, 0, none⟩ hg57 hg7l).trans x0
    have x1' := (hm.2.1 ⟨g7, 1, none⟩ hg57 hg7l).trans x1
    have hrX11 : Rd w11 a6 t := by
      rcases hrX with h | ⟨b, off, e, hlt, hc⟩
      · exact .inl h
      · rcases hg1 with h0 | h0
        · exact .inl (List.length_eq_zero_iff.1 h0)
        · rw [h0] at e
          cases e
          exact .inr ⟨g6, 0, h0, Nat.lt_of_lt_of_le hlt hm.1.size, fun i hi => (hm.2.1 _ hg6l.1 hg6m).trans (hc i hi)⟩
    have HW11 : Hid (∀ i, i < t.length → (w11.cell? ⟨g6, i, none⟩).isSome = true ∧ w11.frozen? ⟨g6, i, none⟩ = false) := fun i hi => ⟨hm.2.2.1 ⟨g6, i, none⟩ hg6m (hwX i hi).1, (hm.2.2.2 ⟨g6, i, none⟩ hg6m).trans (hwX i hi).2⟩
    have hg7m : g7 < w11.heap.size := World.block_lt_of_cell? w11 ⟨g7, 0, none⟩ x0'
    have hg6n : g6 < w11.heap.size := by omega
    obtain ⟨⟨y0, y1⟩, hrY⟩ := HY.out w11 hB311
    obtain ⟨kk, hkk⟩ : ∃ kk : Nat, 1 + s4.1.2.1 + s4.2.2.1 = kk := ⟨_, rfl⟩
    rw [hkk]
    have hkk : ¬ (kk : Int) < 0 := by omega
    clear HMK hm hV1 hV2 c0 c1 c2 c3 c4 c5 c6 c7 x0 x1 hrX hwX hB310 hB510 hB710 HX HG
    go_wp2_with fail
    refine (eqBytesResult_same c a6 a3 t.length cp6 cp3 t w11 rfl hrX11 hrY hT).mono ?_
    rintro e w12 ⟨rfl, hb12⟩
    have hB312 := hB311.trans (hb12.mono hB311.size)
    have x0 := (hb12.cell (p := ⟨g7, 0, none⟩) hg7m).trans x0'
    have x1 := (hb12.cell (p := ⟨g7, 1, none⟩) hg7m).trans x1'
    have HW12 : Hid (∀ i, i < t.length → (w12.cell? ⟨g6, i, none⟩).isSome = true ∧ w12.frozen? ⟨g6, i, none⟩ = false) := fun i hi => ⟨by rw [hb12.cell (p := ⟨g6, i, none⟩) hg6n]; exact (HW11.out i hi).1, (hb12.frozen (p := ⟨g6, i, none⟩) hg6n).trans (HW11.out i hi).2⟩
    have hg7n : g7 < w12.heap.size := Nat.lt_of_lt_of_le hg7m hb12.size
    have hg6o : g6 < w12.heap.size := by omega
    clear hb12 x0' x1' y0 y1 hrX11 hrY HW11 hB311
    go_wp2_with fail
    refine (markBytesResult_mj c a6 g6 t.length cp6 w12 hg1 hg6o HW12.out hT).mono ?_
    rintro e w13 ⟨rfl, hb13, hoth, hmk13⟩
    have hwg : W3.heap.size ≤ g6 := by omega
    have hB313 := hB312.trans (hb13.mono hwg)
    have x0' := (hoth ⟨g7, 0, none⟩ hg7n (by show g7 ≠ g6; omega)).trans x0
    have x1' := (hoth ⟨g7, 1, none⟩ hg7n (by show g7 ≠ g6; omega)).trans x1
    have hg7p : g7 < w13.heap.size := World.block_lt_of_cell? w13 ⟨g7, 0, none⟩ x0'
    have hpos : ¬ (((1 + t.length : Nat) : Int)) < 0 := by omega
    have HX : Hid (∀ w', Below w13.heap.size w13 w' → (w'.cell? ⟨g7, 0, none⟩ = some (.int .i64 c) ∧ w'.cell? ⟨g7, 1, none⟩ = some (.slice a6 t.length cp6)) ∧ Rd w' a6 (marks t.length 1) ∧ Below W3.heap.size W3 w') := fun w' hb => ⟨⟨(hb.cell (p := ⟨g7, 0, none⟩) hg7p).trans x0', (hb.cell (p := ⟨g7, 1, none⟩) hg7p).trans x1'⟩, hmk13.below hb, hB313.trans (hb.mono hB313.size)⟩
    clear hb13 hoth x0 x1 HW12 hB312 hg7n
    go_wp2_with fail
    refine (heldBytesResult_any c a6 t.length cp6 w13 hmk13 hT).mono ?_
    rintro e w14 ⟨rfl, hb14⟩
    clear x0' x1' hmk13 hB313
    obtain ⟨⟨c0, c1, c2, c3, c4, c5, c6, c7⟩, hr14, -⟩ := HZ3.out w14 (HX.out w14 hb14).2.2
    dsimp only at c0 c1 c2 c3 c4 c5 c6 c7
    go_wp2_with fail
    refine (toOp_ft o0 p0 w14 hr14 hn).mono ?_
    rintro e w15 ⟨s15, rfl, ho15, hb15⟩
    have hB15 := hb14.trans (hb15.mono hb14.size)
    have hT15 := (HZ3.out w15 (HX.out w15 hB15).2.2).2.2
    clear c0 c1 c2 c3 c4 c5 c6 c7 hr14 hb14 hb15
    go_wp2_with fail
    refine (HIM.out s15 _ w15 ho15 hT15 hn.1 hn.2.1).mono ?_
    rintro e w16 ⟨v16, rfl, hg16, hb16⟩
    have hB16 := hB15.trans (hb16.mono hB15.size)
    obtain ⟨a16, cp16, rfl, hrd16, -⟩ := hg16.wr 0
    dsimp only at hrd16
    clear hg16 ho15 hT15 hb16 hB15
    obtain ⟨W17, hW17⟩ : ∃ W17, w16.alloc (.cells #[.int .i64 c, .slice a16 t.length cp16] 33) = W17 := ⟨_, rfl⟩
    have hb17 : Below w16.heap.size w16 W17 := by rw [← hW17]; exact (Below.refl _ _).alloc (Nat.le_refl _) _
    have z0 : W17.cell? ⟨w16.heap.size, 0, none⟩ = some (.int .i64 c) := by rw [← hW17]; simp
    have z1 : W17.cell? ⟨w16.heap.size, 1, none⟩ = some (.slice a16 t.length cp16) := by rw [← hW17]; simp
    have hrd17 := hrd16.below hb17
    have hB17 := hB16.trans (hb17.mono hB16.size)
    obtain ⟨⟨y0, y1⟩, hrY17⟩ := HY.out W17 (HX.out W17 hB17).2.2
    clear hrd16 hb17 hB16
    go_wp2_with fail
    refine (eqBytesResult_same c a16 a3 t.length cp16 cp3 t W17 rfl hrd17 hrY17 hT).mono ?_
    rintro e w18 ⟨rfl, hb18⟩
    have hB18 := hB17.trans (hb18.mono hB17.size)
    obtain ⟨⟨x0, x1⟩, hmk18, hB318⟩ := HX.out w18 hB18
    clear z0 z1 y0 y1 hrd17 hrY17 hB17 hb18
    go_wp2_with fail
    refine (heldBytesResult_any c a6 t.length cp6 w18 hmk18 hT).mono ?_
    rintro e w19 ⟨rfl, hb19⟩
    have hBend := HW3.out w19 (hB318.trans (hb19.mono hB318.size))
    clear x0 x1 hmk18 HX hb19
    go_wp2
    go_ret
    exact ⟨rfl, hBend⟩

/-! ### THE ROW's STEP -/
set_option maxRecDepth 100000 in
theorem lifted (os : Os) (started : os.Started) (H : Type) (enc : TypeId × Value → H) :
    ReturnsInHanded {} Tryd.checked os 4 .any (fun w args => (Rows.fnExactPackOpSpec.pre enc Tryd.prog Tryd.f4 [] false w args ∧ laidMetH Tryd.prog Rows.fnExactPackOpRow.laid w) ∧ sizedMet enc Tryd.prog Tryd.f4 (OpenSpec.ofChange Rows.fnExactPackOpSpec) false w args)
      (Rows.fnExactPackOpSpec.post enc Tryd.prog Tryd.f4 false true false false) := by
  refine returnsInHanded_of_change_and (C := Tryd.checked) (X := fun w _ => laidMetH Tryd.prog Rows.fnExactPackOpRow.laid w) (fun _ _ _ hh h => h.of_heap hh) own started (by kernel_rfl) Tryd.func4
    (ChangeSpec.witness_shaped (enc := enc) (C := Tryd.checked) (os := os) (X := fun w _ => laidMetH Tryd.prog Rows.fnExactPackOpRow.laid w) false (World.doorLaid Tryd.prog 400 os) #[.agg #[.int .i64 0, .string ByteArray.empty, .string ByteArray.empty, .slice none 0 0, .int .i64 0, .int .i64 0, .int .i64 0, .slice none 0 0]] 8 rfl (World.shaped_of_RefB (by kernel_rfl) (by kernel_rfl)) (by kernel_rfl) (by kernel_rfl) (by kernel_rfl) (door_met os _)) ?_
  intro W base args ds gs before hval0 hW _ _ hL _
  have hval : ∀ (j : Nat) t v, Tryd.f4.params[j]? = some t → args[j]? = some v → Value.okWide Tryd.prog W .any base t v := hval0
  have hW' := hW
  obtain ⟨p, q, hA0, hV, rfl, hfz, hnd⟩ := hW
  have hA : DataW.TrodAll enc Tryd.prog W 0 (fun _ => true) true Tryd.f4.params.toList args.toList ds p := hA0
  rw [Tryd.params4] at hA hval
  obtain ⟨v0, vs0, d0, ds0, p0, q0, hargs, rfl, rfl, h0, r0⟩ := trodAll_cons hA
  obtain ⟨rfl, rfl, rfl⟩ := trodAll_nil r0
  obtain rfl : args = #[v0] := by cases args; simp_all
  obtain ⟨cs0, rfl, -⟩ := okWide_struct Tryd.underlying25 (hval 0 25 v0 rfl rfl)
  have k0 := h0
  have lt0 : ∀ x ∈ p0, x.block < W.heap.size := by obtain ⟨m, hm⟩ := k0; exact DataW.trod_lt m _ _ _ hm
  obtain ⟨fuel0, hf0⟩ := h0
  obtain ⟨o0, pp0, hc0, w0⟩ := open_op opT hf0
  obtain rfl : cs0 = #[.int .i64 o0.k, .string o0.x, .string o0.t, slW pp0.1, .int .i64 o0.m, .int .i64 o0.f, .int .i64 o0.d, slW pp0.2] := Array.toList_inj.1 hc0
  obtain ⟨dv, rfl⟩ : ∃ d, gs = [d] := by obtain ⟨_, _, _, _, d, _, e, _⟩ := trodVars_one (n := "loop.example/g00447/impl.kindHas") hV; exact ⟨d, e⟩
  clear hA0 hval0
  refine (walk o0 pp0 W w0 (of_laid8 hL)).mono fun e W' ⟨he, bel⟩ => ?_
  subst he
  exact ⟨_, rfl, _, _, _, [], _, _, hW', trodAll_mk1 (shut_bool Tryd.underlying4 _), (trodAll_cons_mk (Below.trod laidOut (by kernel_rfl) (of_decide_eq_true (by kernel_rfl)) k0 bel lt0) trodAll_mk0), Below.trodVars laidOut bel (by kernel_rfl) hV, bel.frame _, fun h => by cases h⟩

theorem over : Rows.fnExactPackOpRow.holds Tryd.pinned (OpenSpec.ofChange Rows.fnExactPackOpSpec) :=
  OpenClaim.holds_of_wide 4 Tryd.f4 rfl rfl rfl rfl rfl rfl rfl ⟨rfl, rfl, rfl, rfl, rfl⟩ rfl rfl rfl rfl rfl (by kernel_rfl) Tryd.func4 (by kernel_rfl)
    (of_decide_eq_true (by kernel_rfl)) (by unfold Func.isWrapper; first | (rw [if_pos (by decide +kernel)]; kernel_rfl) | (rw [if_neg (by decide +kernel)]; exact ⟨rfl, rfl⟩))
    (fun os started H enc _ => lifted os started H enc)

theorem plainF (f : FuncId) (fn : Func) (hf : Tryd.pinned.checked.prog.funcNamed "loop.example/g00447/laws.FnExactPackOp" = some f) (hfn : Tryd.pinned.checked.prog.funcs[f]? = some fn) :
    false = Tryd.pinned.checked.prog.looks [] ∧ ∀ (j : Nat) t, fn.params[j]? = some t → Tryd.pinned.checked.prog.wantsStandIn t = false := by
  obtain rfl : f = 4 := Option.some.inj ((show Tryd.prog.funcNamed "loop.example/g00447/laws.FnExactPackOp" = some 4 by kernel_rfl).symm.trans hf) |>.symm
  obtain rfl : fn = Tryd.f4 := (Option.some.inj (Tryd.func4.symm.trans hfn)).symm
  refine ⟨by kernel_rfl, fun j t ht => ?_⟩
  rw [Tryd.params4] at ht
  have hm : t ∈ [25] := by simpa using Array.mem_of_getElem? ht
  have hall : ([25].all fun u => !Tryd.prog.wantsStandIn u) = true := by kernel_rfl
  exact (show Tryd.prog.wantsStandIn t = false by simpa using List.all_eq_true.1 hall t hm)
end Go.Proofs.YtlmbieclgkpofaaDoor.fnExactPackOp

namespace Go.Proofs.YtlmbieclgkpofaaDoor
/-- THE TIED CARD. -/
theorem fnExactPackOp_card : Rows.FnExactPackOpCardSaid :=
  Claim7.holds_tied_plain_at .later [] _ _ _ _ fnExactPackOp.over (fun _ h => by cases h) (by kernel_rfl) (fun _ h => by cases h) fnExactPackOp_row_tie rfl ⟨rfl, rfl⟩ (by kernel_rfl) rfl fnExactPackOp.plainF (by kernel_rfl)
end Go.Proofs.YtlmbieclgkpofaaDoor
