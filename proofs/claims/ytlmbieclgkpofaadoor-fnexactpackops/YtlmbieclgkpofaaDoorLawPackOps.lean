/- PackOps answers as the model at every list of ops, writes into none of them, and its answer is new memory: the law returns true, whatever the input; the condition: the table kindHas lies in its variable, which the card ties to the program's text. -/
import Derived.Test.YtlmbieclgkpofaaDoorCards
import Derived.Test.YtlmbieclgkpofaaDoorTie
import Derived.Test.YtlmbieclgkpofaaDoorOpu
import Derived.Test.YtlmbieclgkpofaaDoorPsq
import Derived.Test.YtlmbieclgkpofaaDoorOsx
import Derived.WalkKit
import Derived.ProofKit
import Derived.OpenShut
import Derived.ShutString
import Derived.ChangeOld
import Derived.Below
import Derived.LaidMore
import Derived.OpenVars
import Derived.Stop.Joined
import Derived.Lib.LaidTab
import Derived.Stop.LaidErr
namespace Go.Proofs.YtlmbieclgkpofaaDoor.fnExactPackOps
open Go.ChangeShapes Go.WideShapes Go.ChangeAt Go.WideMaps Go.WideElems Go.RowKit
open Go.ChangeMaps (open_string shut_string)
set_option linter.unusedVariables false

theorem own : ownKnob Tryd.prog.godebug = none := by kernel_rfl
theorem laidOut : laidOutB Tryd.prog = true := by kernel_rfl
theorem g8 : Tryd.prog.globalNamed "loop.example/g00447/impl.kindHas" = some 0 := by kernel_rfl
theorem gt8 : (Tryd.prog.globals[0]?).map (·.type) = some 65 := by kernel_rfl
theorem c8 : Tryd.prog.cellsOf 65 = 8 := by kernel_rfl
theorem cellsB : Tryd.prog.cellsOf 2 = 1 := by kernel_rfl

/-- The door's own heap meets the condition: closed facts. -/
theorem door_met (os : Os) (args : Array Value) : laidMetH Tryd.prog Rows.fnExactPackOpsRow.laid ((World.doorLaid Tryd.prog 400 os).forCall (fun _ _ => 0) ⟨#[], args, []⟩).memory :=
  laidMetH_of_parts3 (fuel := 8) (laidMet_of_run' 8 (by kernel_rfl) (by kernel_rfl)) (by kernel_rfl) (by kernel_rfl)

/-- WHAT THE ROW LISTS GIVES THE WALK: the table lies in its variable. -/
theorem of_laid8 {W : World} (h : laidMetH Tryd.prog Rows.fnExactPackOpsRow.laid W) : TabH8 W := fun v hv => by
  have ht : Lib.TabIs Tryd.prog W "loop.example/g00447/impl.kindHas" .i64 khZ := Lib.tabIs_of_head (rest := []) g8 gt8 Tryd.underlying65 Tryd.underlying2 cellsB c8 h
  rw [ht.cell g8 v hv]

/-! ### THE WALK -/
set_option maxHeartbeats 1600000 in
set_option maxRecDepth 100000 in
theorem walk (q0 : SlQ) (l0 : List OpR) (w : World) (w0 : IsOs 0 w q0 l0 ∧ ∀ i, i < l0.length → (nthO l0 i).x.size ≤ maxLen ∧ (nthO l0 i).t.size ≤ maxLen) (ht8 : TabH8 w) :
    Calls Tryd.prog 6 #[slW q0] w fun e w' => e = .returned (.bool true) ∧ Below w.heap.size w w' := by
  obtain ⟨w0, hok⟩ := w0
  have HZ : Hid (∀ w', Below w.heap.size w w' → IsOs 0 w' q0 l0 ∧ TabH8 w') := fun w' hb => ⟨w0.below hb, ht8.below hb⟩
  have HSZ := szOpS_ft q0 l0 1048576 w (by omega) (by omega) w0 hok
  have HLQ : Hid (l0.length = q0.2.1) := w0.1
  have HPL : Hid ((poV l0).2.length ≤ 8000) := poV_le l0
  have HSP : Hid (∀ (s : SlQ) (lo : Nat) (w : World), IsOs lo w s l0 → s.2.1 ≤ 1048576 → FtOs l0 → Calls Tryd.prog 28 #[slW s] w fun e w' => PkEnd (poV l0) w e w') := fun s lo w h1 h2 h3 => specPackOps_any s l0 w h1 h2 (fun i hi => ⟨(h3.2 i hi).1, (h3.2 i hi).2.1⟩)
  have HIM : Hid (∀ (s : SlQ) (lo : Nat) (w : World), IsOs lo w s l0 → s.2.1 ≤ 1048576 → FtOs l0 → TabH8 w → Calls Tryd.prog 30 #[slW s] w fun e w' => PkEnd (poV l0) w e w') := fun s lo w h1 h2 h3 h4 => packOps_any s l0 w h1 h2 h4 (fun i hi => ⟨(h3.2 i hi).1, (h3.2 i hi).2.1⟩)
  generalize poV l0 = rv at *
  obtain ⟨c, t⟩ := rv
  dsimp only at HPL
  obtain ⟨qa, qn, qc⟩ := q0
  dsimp only [slW] at *
  clear w0 ht8
  go_enter Tryd.func6, Tryd.ntmps6
  go_wp2_with fail
  refine HSZ.mono ?_
  rintro e w1 ⟨r, rfl, hcase, hb1⟩
  clear HSZ
  rcases hcase with rfl | ⟨r0, -, hn⟩
  · go_wp2
    go_ret
    exact ⟨rfl, hb1⟩
  have hneg : ¬ r < 0 := by omega
  have hT : t.length ≤ 1048576 := by have := HPL.out; omega
  have hqn : qn ≤ 1048576 := by rw [← HLQ.out]; exact hn.1
  have HN : Hid (FtOs l0) := hn
  clear hn
  go_wp2_with fail
  refine (toOpS_ft (qa, qn, qc) l0 w1 (HZ.out w1 hb1).1 HN.out).mono ?_
  rintro e w2 ⟨s2, rfl, ho2, hb2⟩
  have hB2 := hb1.trans (hb2.mono hb1.size)
  have hs2 : s2.2.1 ≤ 1048576 := by rw [← ho2.1, HLQ.out]; exact hqn
  have HSP2 := HSP.out s2 _ w2 ho2 hs2 HN.out
  clear hb1 hb2 ho2
  obtain ⟨s2a, s2n, s2c⟩ := s2
  (try dsimp only [slW] at HSP2 ⊢)
  go_wp2_with fail
  refine HSP2.mono ?_
  rintro e w3 ⟨v3, rfl, hg3, hb3⟩
  have hB3 := hB2.trans (hb3.mono hB2.size)
  obtain ⟨a3, cp3, rfl, hrd3, -⟩ := hg3.wr 0
  dsimp only at hrd3
  clear hg3 hb3 hB2 HSP2
  obtain ⟨W3, hW3⟩ : ∃ W3, w3.alloc (.cells #[.int .i64 c, .slice a3 t.length cp3] 33) = W3 := ⟨_, rfl⟩
  have hb3' : Below w3.heap.size w3 W3 := by rw [← hW3]; exact (Below.refl _ _).alloc (Nat.le_refl _) _
  have hs3 : W3.heap.size = w3.heap.size + 1 := by rw [← hW3]; simp
  have hB03 : Below w.heap.size w W3 := hB3.trans (hb3'.mono hB3.size)
  have HY : Hid (∀ w', Below W3.heap.size W3 w' → (w'.cell? ⟨w3.heap.size, 0, none⟩ = some (.int .i64 c) ∧ w'.cell? ⟨w3.heap.size, 1, none⟩ = some (.slice a3 t.length cp3)) ∧ Rd w' a3 t) := fun w' hb => ⟨⟨(hb.cell (p := ⟨w3.heap.size, 0, none⟩) (by show w3.heap.size < _; omega)).trans (by rw [← hW3]; simp), (hb.cell (p := ⟨w3.heap.size, 1, none⟩) (by show w3.heap.size < _; omega)).trans (by rw [← hW3]; simp)⟩, (hrd3.below hb3').below hb⟩
  have HW3 : Hid (∀ w', Below W3.heap.size W3 w' → Below w.heap.size w w') := fun w' hb => hB03.trans (hb.mono hB03.size)
  have HS3 : Hid (W3.heap.size = w3.heap.size + 1) := hs3
  have hTO := toOpS_wr (qa, qn, qc) l0 W3 (HZ.out W3 hB03).1 HN.out
  clear hb3' hB3 hrd3 hB03 hs3
  (try dsimp only [slW] at hTO)
  go_wp2_with fail
  generalize w3.heap.size = g3 at *
  refine hTO.mono ?_
  rintro e w4 ⟨rfl, how4, hfz4, ⟨hlt4, hpz4⟩, hb4⟩
  have hpz4 : 0 < qn → W3.heap.size + 1 < w4.heap.size := hpz4
  have hos4 := how4.os HLQ.out hqn (Nat.le_succ _)
  have hIM4 := HIM.out _ _ w4 hos4 hqn HN.out (HZ.out w4 (HW3.out w4 hb4)).2
  have hH4 := how4.hi
  (try dsimp only [slW] at hIM4)
  clear hTO how4
  go_wp2_with fail
  refine hIM4.mono ?_
  rintro e w6 ⟨v6, rfl, hg6, hb6⟩
  have hB36 := hb4.trans (hb6.mono (by omega))
  obtain ⟨a6, cp6, rfl, hrd6, g6, hg1, hg2, hw6⟩ := hg6.wr W3.heap.size
  dsimp only at hrd6 hg1 hw6
  have hz6 : w4.heap.size ≤ w6.heap.size := hb6.size
  have hg6l : W3.heap.size ≤ g6 ∧ g6 < w6.heap.size := by
    rcases hg2 with rfl | ⟨h1, h2⟩
    · exact ⟨Nat.le_refl _, by omega⟩
    · exact ⟨by omega, h2⟩
  have hg6q : t.length = 0 ∨ w4.heap.size ≤ g6 := by
    rcases hg2 with rfl | ⟨h1, h2⟩
    · rcases hg6 with ⟨e1, e2⟩ | ⟨gg, cc, e1, e2, -⟩
      · left; dsimp only at e2; rw [e2]; rfl
      · rcases hg1 with h | h
        · exact .inl h
        · injection e1 with e3 e4
          rw [h] at e3
          cases e3
          right; omega
    · exact .inr h1
  obtain ⟨W7, hW7⟩ : ∃ W7, w6.alloc (.cells #[.int .i64 c, .slice a6 t.length cp6] 33) = W7 := ⟨_, rfl⟩
  have hb7 : Below w6.heap.size w6 W7 := by rw [← hW7]; exact (Below.refl _ _).alloc (Nat.le_refl _) _
  have hs7 : W7.heap.size = w6.heap.size + 1 := by rw [← hW7]; simp
  have hB47 : Below w4.heap.size w4 W7 := hb6.trans (hb7.mono hz6)
  have hB37 : Below W3.heap.size W3 W7 := hB36.trans (hb7.mono hB36.size)
  have hH7 := hH4.below hB47
  have hos7 := hos4.below hB47
  have HX : Hid (∀ w', Below W7.heap.size W7 w' → OsH (W3.heap.size + 1) w4.heap.size w' W3.heap.size l0 ∧ IsOs W3.heap.size w' (some ⟨W3.heap.size, 0, none⟩, qn, qn) l0 ∧ ∀ i, w'.frozen? ⟨W3.heap.size, i, none⟩ = false) := fun w' hb => ⟨hH7.below hb, hos7.below hb, fun i => (hb.frozen (p := ⟨W3.heap.size, i, none⟩) (by show W3.heap.size < _; omega)).trans ((hB47.frozen (p := ⟨W3.heap.size, i, none⟩) hlt4).trans (hfz4 i))⟩
  have HG : Hid (∀ w', Below W7.heap.size W7 w' → (w'.cell? ⟨w6.heap.size, 0, none⟩ = some (.int .i64 c) ∧ w'.cell? ⟨w6.heap.size, 1, none⟩ = some (.slice a6 t.length cp6)) ∧ Rd w' a6 t ∧ ∀ i, i < t.length → (w'.cell? ⟨g6, i, none⟩).isSome = true ∧ w'.frozen? ⟨g6, i, none⟩ = false) := fun w' hb => by
    have hx : w6.heap.size < W7.heap.size := by omega
    refine ⟨⟨(hb.cell (p := ⟨w6.heap.size, 0, none⟩) hx).trans (by rw [← hW7]; simp), (hb.cell (p := ⟨w6.heap.size, 1, none⟩) hx).trans (by rw [← hW7]; simp)⟩, (hrd6.below hb7).below hb, fun i hi => ?_⟩
    have e1 : W7.cell? ⟨g6, i, none⟩ = w6.cell? ⟨g6, i, none⟩ := hb7.cell (p := ⟨g6, i, none⟩) hg6l.2
    have e2 : W7.frozen? ⟨g6, i, none⟩ = w6.frozen? ⟨g6, i, none⟩ := hb7.frozen (p := ⟨g6, i, none⟩) hg6l.2
    have hy : g6 < W7.heap.size := by omega
    exact ⟨by rw [hb.cell (p := ⟨g6, i, none⟩) hy, e1]; exact (hw6 i hi).1, (hb.frozen (p := ⟨g6, i, none⟩) hy).trans (e2.trans (hw6 i hi).2)⟩
  have HS7 : Hid (W7.heap.size = w6.heap.size + 1) := hs7
  obtain ⟨⟨x0, x1⟩, hrX, -⟩ := HG.out W7 (Below.refl _ _)
  obtain ⟨⟨y0, y1⟩, hrY⟩ := HY.out W7 hB37
  clear hs7 hb6 hb7 hrd6 hg6 hw6 hB36 hIM4 hH4 hH7 hos4 hos7 hB47 hb4 hfz4 hg2
  go_wp2_with fail
  generalize w6.heap.size = g7 at *
  refine (eqBytesResult_same c a6 a3 t.length cp6 cp3 t W7 rfl hrX hrY hT).mono ?_
  rintro e w8 ⟨rfl, hb8⟩
  have hB38 := hB37.trans (hb8.mono hB37.size)
  have hTO8 := toOpS_ft (qa, qn, qc) l0 w8 (HZ.out w8 (HW3.out w8 hB38)).1 HN.out
  (try dsimp only [slW] at hTO8)
  clear x0 x1 y0 y1 hrX hrY hB37
  go_wp2_with fail
  refine hTO8.mono ?_
  rintro e w9 ⟨s9, rfl, ho9, hb9⟩
  have hB79 := hb8.trans (hb9.mono hb8.size)
  have hB39 := hB38.trans (hb9.mono hB38.size)
  have HEQ9 := eqOpS_ft (some ⟨W3.heap.size, 0, none⟩, qn, qn) s9 l0 w9 (HX.out w9 hB79).2.1 ho9 HN.out
  have hs9 : s9.2.1 = qn := by rw [← ho9.1]; exact HLQ.out
  obtain ⟨s9a, s9n, s9c⟩ := s9
  dsimp only [slW] at HEQ9 hs9 ⊢
  subst hs9
  clear hTO8 hb8 hb9 ho9 hB38
  go_wp2_with fail
  refine HEQ9.mono ?_
  rintro e w10 ⟨rfl, hb10⟩
  have hB710 := hB79.trans (hb10.mono hB79.size)
  have hB310 := hB39.trans (hb10.mono hB39.size)
  obtain ⟨hH10, -, hfz10⟩ := HX.out w10 hB710
  have hz10 : W7.heap.size ≤ w10.heap.size := hB710.size
  have h7g := HS7.out
  have HMK := markOpS_mj W3.heap.size s9n w4.heap.size l0 w10 HLQ.out hH10 hfz10 hpz4 hlt4 (by omega) hqn (fun i hi => ⟨(HN.out.2 i (by rw [HLQ.out]; exact hi)).2.2.1, (HN.out.2 i (by rw [HLQ.out]; exact hi)).2.2.2⟩)
  clear HEQ9 hb10 hB79 hB39 hH10 hfz10
  go_wp2_with fail
  refine HMK.mono ?_
  rintro e w11 ⟨kk, rfl, hm⟩
  have hB311 := hB310.trans hm.1
  have hg7l : g7 < w10.heap.size := by omega
  have hg6m : g6 < w10.heap.size := by omega
  have hg47 : w4.heap.size ≤ g7 := by omega
  obtain ⟨⟨x0, x1⟩, hrX, hwX⟩ := HG.out w10 hB710
  have x0' := (hm.2.1 ⟨g7, 0, none⟩ hg47 hg7l).trans x0
  have x1' := (hm.2.1 ⟨g7, 1, none⟩ hg47 hg7l).trans x1
  have hrX11 : Rd w11 a6 t := by
    rcases hrX with h | ⟨b, off, e, hlt, hc⟩
    · exact .inl h
    · rcases hg1 with h0 | h0
      · exact .inl (List.length_eq_zero_iff.1 h0)
      · rcases hg6q with h0' | h0'
        · exact .inl (List.length_eq_zero_iff.1 h0')
        · rw [h0] at e
          cases e
          exact .inr ⟨g6, 0, h0, Nat.lt_of_lt_of_le hlt hm.1.size, fun i hi => (hm.2.1 _ h0' hg6m).trans (hc i hi)⟩
  have HW11 : Hid (∀ i, i < t.length → (w11.cell? ⟨g6, i, none⟩).isSome = true ∧ w11.frozen? ⟨g6, i, none⟩ = false) := fun i hi => ⟨hm.2.2.1 ⟨g6, i, none⟩ hg6m (hwX i hi).1, (hm.2.2.2 ⟨g6, i, none⟩ hg6m).trans (hwX i hi).2⟩
  have hg7m : g7 < w11.heap.size := World.block_lt_of_cell? w11 ⟨g7, 0, none⟩ x0'
  have hg6n : g6 < w11.heap.size := by omega
  obtain ⟨⟨y0, y1⟩, hrY⟩ := HY.out w11 hB311
  have hkk : ¬ (kk : Int) < 0 := by omega
  clear HMK hm x0 x1 hrX hwX hB310 hB710 HX HG
  go_wp2_with fail
  refine (eqBytesResult_same c a6 a3 t.length cp6 cp3 t w11 rfl hrX11 hrY hT).mono ?_
  rintro e w12 ⟨rfl, hb12⟩
  have hB312 := hB311.trans (hb12.mono hB311.size)
  have x0 := (hb12.cell (p := ⟨g7, 0, none⟩) hg7m).trans x0'
  have x1 := (hb12.cell (p := ⟨g7, 1, none⟩) hg7m).trans x1'
  have HW12 : Hid (∀ i, i < t.length → (w12.cell? ⟨g6, i, none⟩).isSome = true ∧ w12.frozen? ⟨g6, i, none⟩ = false) := fun i hi => ⟨by rw [hb12.cell (p := ⟨g6, i, none⟩) hg6n]; exact (HW11.out i hi).1, (hb12.frozen (p := ⟨g6, i, none⟩) hg6n).trans (HW11.out i hi).2⟩
  have hg7n : g7 < w12.heap.size := Nat.lt_of_lt_of_le hg7m hb12.size
  have hg6o : g6 < w12.heap.size := by omega
  clear hb12 x0' x1' y0 y1 hrX11 hrY HW11 hB311
  go_wp2_with fail
  refine (markBytesResult_mj c a6 g6 t.length cp6 w12 hg1 hg6o HW12.out hT).mono ?_
  rintro e w13 ⟨rfl, hb13, hoth, hmk13⟩
  have hwg : W3.heap.size ≤ g6 := hg6l.1
  have hB313 := hB312.trans (hb13.mono hwg)
  have x0' := (hoth ⟨g7, 0, none⟩ hg7n (by show g7 ≠ g6; omega)).trans x0
  have x1' := (hoth ⟨g7, 1, none⟩ hg7n (by show g7 ≠ g6; omega)).trans x1
  have hg7p : g7 < w13.heap.size := World.block_lt_of_cell? w13 ⟨g7, 0, none⟩ x0'
  have hpos : ¬ (((1 + t.length : Nat) : Int)) < 0 := by omega
  have HX : Hid (∀ w', Below w13.heap.size w13 w' → (w'.cell? ⟨g7, 0, none⟩ = some (.int .i64 c) ∧ w'.cell? ⟨g7, 1, none⟩ = some (.slice a6 t.length cp6)) ∧ Rd w' a6 (marks t.length 1) ∧ Below W3.heap.size W3 w') := fun w' hb => ⟨⟨(hb.cell (p := ⟨g7, 0, none⟩) hg7p).trans x0', (hb.cell (p := ⟨g7, 1, none⟩) hg7p).trans x1'⟩, hmk13.below hb, hB313.trans (hb.mono hB313.size)⟩
  clear hb13 hoth x0 x1 HW12 hB312 hg7n
  go_wp2_with fail
  refine (heldBytesResult_any c a6 t.length cp6 w13 hmk13 hT).mono ?_
  rintro e w14 ⟨rfl, hb14⟩
  have hTO14 := toOpS_ft (qa, s9n, qc) l0 w14 (HZ.out w14 (HW3.out w14 (HX.out w14 hb14).2.2)).1 HN.out
  (try dsimp only [slW] at hTO14)
  clear x0' x1' hmk13 hB313
  go_wp2_with fail
  refine hTO14.mono ?_
  rintro e w15 ⟨s15, rfl, ho15, hb15⟩
  have hB15 := hb14.trans (hb15.mono hb14.size)
  have hs15 : s15.2.1 ≤ 1048576 := by rw [← ho15.1, HLQ.out]; exact hqn
  have hIM15 := HIM.out s15 _ w15 ho15 hs15 HN.out (HZ.out w15 (HW3.out w15 (HX.out w15 hB15).2.2)).2
  obtain ⟨s15a, s15n, s15c⟩ := s15
  (try dsimp only [slW] at hIM15 ⊢)
  clear hTO14 hb14 hb15 ho15
  go_wp2_with fail
  refine hIM15.mono ?_
  rintro e w16 ⟨v16, rfl, hg16, hb16⟩
  have hB16 := hB15.trans (hb16.mono hB15.size)
  obtain ⟨a16, cp16, rfl, hrd16, -⟩ := hg16.wr 0
  dsimp only at hrd16
  clear hg16 hb16 hB15 hIM15
  obtain ⟨W17, hW17⟩ : ∃ W17, w16.alloc (.cells #[.int .i64 c, .slice a16 t.length cp16] 33) = W17 := ⟨_, rfl⟩
  have hb17 : Below w16.heap.size w16 W17 := by rw [← hW17]; exact (Below.refl _ _).alloc (Nat.le_refl _) _
  have z0 : W17.cell? ⟨w16.heap.size, 0, none⟩ = some (.int .i64 c) := by rw [← hW17]; simp
  have z1 : W17.cell? ⟨w16.heap.size, 1, none⟩ = some (.slice a16 t.length cp16) := by rw [← hW17]; simp
  have hrd17 := hrd16.below hb17
  have hB17 := hB16.trans (hb17.mono hB16.size)
  obtain ⟨⟨y0, y1⟩, hrY17⟩ := HY.out W17 (HX.out W17 hB17).2.2
  clear hrd16 hb17 hB16
  go_wp2_with fail
  refine (eqBytesResult_same c a16 a3 t.length cp16 cp3 t W17 rfl hrd17 hrY17 hT).mono ?_
  rintro e w18 ⟨rfl, hb18⟩
  have hB18 := hB17.trans (hb18.mono hB17.size)
  obtain ⟨⟨x0, x1⟩, hmk18, hB318⟩ := HX.out w18 hB18
  clear z0 z1 y0 y1 hrd17 hrY17 hB17 hb18
  go_wp2_with fail
  refine (heldBytesResult_any c a6 t.length cp6 w18 hmk18 hT).mono ?_
  rintro e w19 ⟨rfl, hb19⟩
  have hBend := HW3.out w19 (hB318.trans (hb19.mono hB318.size))
  clear x0 x1 hmk18 HX hb19
  go_wp2
  go_ret
  exact ⟨rfl, hBend⟩

/-! ### THE ROW's STEP -/
set_option maxRecDepth 100000 in
theorem lifted (os : Os) (started : os.Started) (H : Type) (enc : TypeId × Value → H) :
    ReturnsInHanded {} Tryd.checked os 6 .any (fun w args => (Rows.fnExactPackOpsSpec.pre enc Tryd.prog Tryd.f6 [] false w args ∧ laidMetH Tryd.prog Rows.fnExactPackOpsRow.laid w) ∧ sizedMet enc Tryd.prog Tryd.f6 (OpenSpec.ofChange Rows.fnExactPackOpsSpec) false w args)
      (Rows.fnExactPackOpsSpec.post enc Tryd.prog Tryd.f6 false true false false) := by
  refine returnsInHanded_of_change_and (C := Tryd.checked) (X := fun w _ => laidMetH Tryd.prog Rows.fnExactPackOpsRow.laid w) (fun _ _ _ hh h => h.of_heap hh) own started (by kernel_rfl) Tryd.func6
    (ChangeSpec.witness_shaped (enc := enc) (C := Tryd.checked) (os := os) (X := fun w _ => laidMetH Tryd.prog Rows.fnExactPackOpsRow.laid w) false (World.doorLaid Tryd.prog 400 os) #[.slice none 0 0] 8 rfl (World.shaped_of_RefB (by kernel_rfl) (by kernel_rfl)) (by kernel_rfl) (by kernel_rfl) (by kernel_rfl) (door_met os _)) ?_
  intro W base args ds gs before hval0 hW _ _ hL _
  have hval : ∀ (j : Nat) t v, Tryd.f6.params[j]? = some t → args[j]? = some v → Value.okWide Tryd.prog W .any base t v := hval0
  have hW' := hW
  obtain ⟨p, q, hA0, hV, rfl, hfz, hnd⟩ := hW
  have hA : DataW.TrodAll enc Tryd.prog W 0 (fun _ => true) true Tryd.f6.params.toList args.toList ds p := hA0
  rw [Tryd.params6] at hA hval
  obtain ⟨v0, vs0, d0, ds0, p0, q0, hargs, rfl, rfl, h0, r0⟩ := trodAll_cons hA
  obtain ⟨rfl, rfl, rfl⟩ := trodAll_nil r0
  obtain rfl : args = #[v0] := by cases args; simp_all
  have k0 := h0
  have lt0 : ∀ x ∈ p0, x.block < W.heap.size := by obtain ⟨m, hm⟩ := k0; exact DataW.trod_lt m _ _ _ hm
  obtain ⟨a0, len0, cap0, rfl⟩ := okWide_slice Tryd.underlying47 (hval 0 47 v0 rfl rfl)
  obtain ⟨fuel0, hf0⟩ := h0
  obtain ⟨⟨x0, y0, z0⟩, l0, hc0, w0⟩ := open_os Tryd.underlying47 opT hf0
  simp [Value.cells] at hc0
  obtain ⟨rfl, rfl, rfl⟩ := hc0
  obtain ⟨dv, rfl⟩ : ∃ d, gs = [d] := by obtain ⟨_, _, _, _, d, _, e, _⟩ := trodVars_one (n := "loop.example/g00447/impl.kindHas") hV; exact ⟨d, e⟩
  clear hA0 hval0
  refine (walk _ l0 W w0 (of_laid8 hL)).mono fun e W' ⟨he, bel⟩ => ?_
  subst he
  exact ⟨_, rfl, _, _, _, [], _, _, hW', trodAll_mk1 (shut_bool Tryd.underlying4 _), (trodAll_cons_mk (Below.trod laidOut (by kernel_rfl) (of_decide_eq_true (by kernel_rfl)) k0 bel lt0) trodAll_mk0), Below.trodVars laidOut bel (by kernel_rfl) hV, bel.frame _, fun h => by cases h⟩

theorem over : Rows.fnExactPackOpsRow.holds Tryd.pinned (OpenSpec.ofChange Rows.fnExactPackOpsSpec) :=
  OpenClaim.holds_of_wide 6 Tryd.f6 rfl rfl rfl rfl rfl rfl rfl ⟨rfl, rfl, rfl, rfl, rfl⟩ rfl rfl rfl rfl rfl (by kernel_rfl) Tryd.func6 (by kernel_rfl)
    (of_decide_eq_true (by kernel_rfl)) (by unfold Func.isWrapper; first | (rw [if_pos (by decide +kernel)]; kernel_rfl) | (rw [if_neg (by decide +kernel)]; exact ⟨rfl, rfl⟩))
    (fun os started H enc _ => lifted os started H enc)

theorem plainF (f : FuncId) (fn : Func) (hf : Tryd.pinned.checked.prog.funcNamed "loop.example/g00447/laws.FnExactPackOps" = some f) (hfn : Tryd.pinned.checked.prog.funcs[f]? = some fn) :
    false = Tryd.pinned.checked.prog.looks [] ∧ ∀ (j : Nat) t, fn.params[j]? = some t → Tryd.pinned.checked.prog.wantsStandIn t = false := by
  obtain rfl : f = 6 := Option.some.inj ((show Tryd.prog.funcNamed "loop.example/g00447/laws.FnExactPackOps" = some 6 by kernel_rfl).symm.trans hf) |>.symm
  obtain rfl : fn = Tryd.f6 := (Option.some.inj (Tryd.func6.symm.trans hfn)).symm
  refine ⟨by kernel_rfl, fun j t ht => ?_⟩
  rw [Tryd.params6] at ht
  have hm : t ∈ [47] := by simpa using Array.mem_of_getElem? ht
  have hall : ([47].all fun u => !Tryd.prog.wantsStandIn u) = true := by kernel_rfl
  exact (show Tryd.prog.wantsStandIn t = false by simpa using List.all_eq_true.1 hall t hm)
end Go.Proofs.YtlmbieclgkpofaaDoor.fnExactPackOps

namespace Go.Proofs.YtlmbieclgkpofaaDoor
/-- THE TIED CARD. -/
theorem fnExactPackOps_card : Rows.FnExactPackOpsCardSaid :=
  Claim7.holds_tied_plain_at .later [] _ _ _ _ fnExactPackOps.over (fun _ h => by cases h) (by kernel_rfl) (fun _ h => by cases h) fnExactPackOps_row_tie rfl ⟨rfl, rfl⟩ (by kernel_rfl) rfl fnExactPackOps.plainF (by kernel_rfl)
end Go.Proofs.YtlmbieclgkpofaaDoor
