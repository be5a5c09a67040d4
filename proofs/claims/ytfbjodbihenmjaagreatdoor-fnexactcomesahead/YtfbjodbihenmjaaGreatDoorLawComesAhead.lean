/- Proved: called with any two messages and any two numbers, the law FnExactComesAhead returns true (the program's ComesAhead answers as the model does, and writes into no argument); the row's listed variables read as laid (its card ties them to the program's text); no condition of our own. -/
import Derived.Test.YtfbjodbihenmjaaGreatDoorCards
import Derived.Test.YtfbjodbihenmjaaGreatDoorTie
import Derived.Test.YtfbjodbihenmjaaGreatDoorJfqToInf
import Derived.Test.YtfbjodbihenmjaaGreatDoorCakToShp
import Derived.Test.YtfbjodbihenmjaaGreatDoorMrkIToMapL
import Derived.Test.YtfbjodbihenmjaaGreatDoorWPmToNam2
import Derived.WalkKit
import Derived.ProofKit
import Derived.OpenShut
import Derived.ShutString
import Derived.ChangeOld
import Derived.Below
import Derived.LaidMore
import Derived.OpenVars
import Derived.Stop.Joined
import Derived.Lib.LaidTab
import Derived.Stop.LaidErr
import Derived.Lay
import Derived.MakeChecks
namespace Go.Proofs.YtfbjodbihenmjaaGreatDoor.fnExactComesAhead
open Go.ChangeShapes Go.WideShapes Go.ChangeAt Go.WideMaps Go.WideElems Go.RowKit
open Go.ChangeMaps (open_string shut_string)
set_option linter.unusedVariables false

theorem own : ownKnob Tryz.prog.godebug = none := jzOwn
theorem laidOut : laidOutB Tryz.prog = true := jz2
theorem gB : Tryz.prog.globalNamed "loop.example/g00447/impl.baseDigits" = some 2 := by kernel_rfl
theorem gtB : (Tryz.prog.globals[2]?).map (·.type) = some 195 := by kernel_rfl
theorem cB : Tryz.prog.cellsOf 195 = 64 := by kernel_rfl
theorem gH : Tryz.prog.globalNamed "loop.example/g00447/impl.hexDigits" = some 5 := by kernel_rfl
theorem gtH : (Tryz.prog.globals[5]?).map (·.type) = some 212 := by kernel_rfl
theorem cH : Tryz.prog.cellsOf 212 = 16 := by kernel_rfl
theorem gC : Tryz.prog.globalNamed "loop.example/g00447/impl.charsetNames" = some 0 := by kernel_rfl
theorem gtC : (Tryz.prog.globals[0]?).map (·.type) = some 162 := by kernel_rfl
theorem cC : Tryz.prog.cellsOf 162 = 5 := by kernel_rfl
theorem cellsS : Tryz.prog.cellsOf 9 = 1 := by kernel_rfl
theorem cellsB : Tryz.prog.cellsOf 5 = 1 := by kernel_rfl

/-- The door's own heap meets the condition: closed facts. -/
theorem door_met (os : Os) (args : Array Value) : laidMetH Tryz.prog Rows.fnExactComesAheadRow.laid ((World.laidAll Tryz.prog os Rows.fnExactComesAheadRow.laid).forCall (fun _ _ => 0) ⟨#[], args, []⟩).memory := by
  rw [MakeChecks.laidMetH_plain _ _ _ (by kernel_rfl)]; exact laidMet_laidAll _ (by kernel_rfl) (by kernel_rfl)

/-- The tails of what the row lists. -/
theorem tails {W : World} (h : laidMetH Tryz.prog Rows.fnExactComesAheadRow.laid W) : laidMet Tryz.prog [("loop.example/g00447/impl.baseDigits", Rows.laid_loop_example_g00447_impl_baseDigits), ("loop.example/g00447/impl.hexDigits", Rows.laid_loop_example_g00447_impl_hexDigits), ("loop.example/g00447/impl.charsetNames", Rows.laid_loop_example_g00447_impl_charsetNames), ("unicode/utf8.first", Rows.laid_unicode_utf8_first)] W ∧ laidMet Tryz.prog [("loop.example/g00447/impl.hexDigits", Rows.laid_loop_example_g00447_impl_hexDigits), ("loop.example/g00447/impl.charsetNames", Rows.laid_loop_example_g00447_impl_charsetNames), ("unicode/utf8.first", Rows.laid_unicode_utf8_first)] W ∧ laidMet Tryz.prog [("loop.example/g00447/impl.charsetNames", Rows.laid_loop_example_g00447_impl_charsetNames), ("unicode/utf8.first", Rows.laid_unicode_utf8_first)] W := by
  have h0 : laidMet Tryz.prog [("unicode/utf8.acceptRanges", Rows.laid_unicode_utf8_acceptRanges), ("loop.example/g00447/impl.baseDigits", Rows.laid_loop_example_g00447_impl_baseDigits), ("loop.example/g00447/impl.hexDigits", Rows.laid_loop_example_g00447_impl_hexDigits), ("loop.example/g00447/impl.charsetNames", Rows.laid_loop_example_g00447_impl_charsetNames), ("unicode/utf8.first", Rows.laid_unicode_utf8_first)] W := h
  exact ⟨h0.tail, h0.tail.tail, h0.tail.tail.tail⟩
theorem of_laidB {W : World} (h : laidMetH Tryz.prog Rows.fnExactComesAheadRow.laid W) : TabB W := fun v hv => by
  have ht : Lib.TabIs Tryz.prog W "loop.example/g00447/impl.baseDigits" .u8 tabI := Lib.tabIs_of_head (rest := [("loop.example/g00447/impl.hexDigits", Rows.laid_loop_example_g00447_impl_hexDigits), ("loop.example/g00447/impl.charsetNames", Rows.laid_loop_example_g00447_impl_charsetNames), ("unicode/utf8.first", Rows.laid_unicode_utf8_first)]) gB gtB Tryz.underlying195 Tryz.underlying5 cellsB cB (tails h).1
  rw [ht.cell gB v (by rw [tabI_len]; exact hv), tabI_get v hv]
theorem of_laidH {W : World} (h : laidMetH Tryz.prog Rows.fnExactComesAheadRow.laid W) : TabH W := fun v hv => by
  have ht : Lib.TabIs Tryz.prog W "loop.example/g00447/impl.hexDigits" .u8 tabHI := Lib.tabIs_of_head (rest := [("loop.example/g00447/impl.charsetNames", Rows.laid_loop_example_g00447_impl_charsetNames), ("unicode/utf8.first", Rows.laid_unicode_utf8_first)]) gH gtH Tryz.underlying212 Tryz.underlying5 cellsB cH (tails h).2.1
  rw [ht.cell gH v (by rw [tabHI_len]; exact hv), tabHI_get v hv]
theorem of_laidC {W : World} (h : laidMetH Tryz.prog Rows.fnExactComesAheadRow.laid W) : TabC W := fun v hv => by
  have ht : StrsAre Tryz.prog W "loop.example/g00447/impl.charsetNames" csZ := strsAre_of_head (rest := [("unicode/utf8.first", Rows.laid_unicode_utf8_first)]) gC gtC Tryz.underlying162 Tryz.underlying9 cellsS cC (tails h).2.2
  exact ht.cell gC v hv

/-! ### THE WALK -/
set_option maxHeartbeats 1600000 in
set_option maxRecDepth 100000 in
theorem walk (m0 : Msg) (q0 : SlQ) (m1 : Msg) (q1 : SlQ) (a2 : Int) (a3 : Int) (w : World) (w0 : IsSl 0 w q0 m0.b) (w1 : IsSl 0 w q1 m1.b) (w2 : (Lit.int .i64 a2).wf = true) (w3 : (Lit.int .i64 a3).wf = true) (htB : TabB w) (htH : TabH w) (htC : TabC w) (hmx : MaxI w) :
    Calls Tryz.prog 4 #[msX m0 q0, msX m1 q1, .int .i64 a2, .int .i64 a3] w fun e w' => e = .returned (.bool true) ∧ Below w.heap.size w w' := by
  have hq : q0.2.1 ≤ maxLen := Nat.le_trans w0.2.1 w0.2.2.1
  have hq' : q1.2.1 ≤ maxLen := Nat.le_trans w1.2.1 w1.2.2.1
  have hl0 := w0.1
  have hl1 := w1.1
  have HSP : Hid (∀ (W : World) (g h lo lo' : Nat), IsSl lo W (some ⟨g, 0, none⟩, q0.2.1, q0.2.1) m0.b → IsSl lo' W (some ⟨h, 0, none⟩, q1.2.1, q1.2.1) m1.b → Calls Tryz.prog 8 #[msX m0 (some ⟨g, 0, none⟩, q0.2.1, q0.2.1), msX m1 (some ⟨h, 0, none⟩, q1.2.1, q1.2.1), .int .i64 a2, .int .i64 a3] W fun e w' => e = .returned (.bool (caV a2 a3 m0 m1)) ∧ Below W.heap.size W w') := fun W g h lo lo' h1 h2 => by
    rw [← hl0] at h1 ⊢
    rw [← hl1] at h2 ⊢
    exact specComesAhead_any a2 a3 m0 m1 g h W h1 h2
  have HIP : Hid (∀ (W : World) (g h lo lo' : Nat), Below w.heap.size w W → IsSl lo W (some ⟨g, 0, none⟩, q0.2.1, q0.2.1) m0.b → IsSl lo' W (some ⟨h, 0, none⟩, q1.2.1, q1.2.1) m1.b → Calls Tryz.prog 7 #[msX m0 (some ⟨g, 0, none⟩, q0.2.1, q0.2.1), msX m1 (some ⟨h, 0, none⟩, q1.2.1, q1.2.1), .int .i64 a2, .int .i64 a3] W fun e w' => e = .returned (.bool (caV a2 a3 m0 m1)) ∧ Below W.heap.size W w') := fun W g h lo lo' hW h1 h2 => by
    rw [← hl0] at h1 ⊢
    rw [← hl1] at h2 ⊢
    exact comesAhead_any a2 a3 m0 m1 g h W h1 h2 (htC.below hW) (htB.below hW) (htH.below hW) (hmx.below hW)
  generalize caV a2 a3 m0 m1 = CA at *
  clear htB htH htC hmx w2 w3
  have hA0 : Below w.heap.size w ((w.alloc (.cells #[.int .i64 m0.u, .int .i64 m0.f, .int .i64 m0.d, slW q0] 37)).alloc (.cells #[.int .i64 m1.u, .int .i64 m1.f, .int .i64 m1.d, slW q1] 37)) := ((Below.refl _ _).alloc (Nat.le_refl _) _).alloc (by simp) _
  have hZ0 : Qc ((w.alloc (.cells #[.int .i64 m0.u, .int .i64 m0.f, .int .i64 m0.d, slW q0] 37)).alloc (.cells #[.int .i64 m1.u, .int .i64 m1.f, .int .i64 m1.d, slW q1] 37)) w.heap.size (msQ m0 q0) := (Qc.new w (.int .i64 m0.u) (.int .i64 m0.f) (.int .i64 m0.d) (slW q0) 37).below ((Below.refl (w.heap.size + 1) _).alloc (by simp) _) (by simp)
  have hY0 : Qc ((w.alloc (.cells #[.int .i64 m0.u, .int .i64 m0.f, .int .i64 m0.d, slW q0] 37)).alloc (.cells #[.int .i64 m1.u, .int .i64 m1.f, .int .i64 m1.d, slW q1] 37)) (w.heap.size + 1) (msQ m1 q1) := by
    have q := Qc.new (w.alloc (.cells #[.int .i64 m0.u, .int .i64 m0.f, .int .i64 m0.d, slW q0] 37)) (.int .i64 m1.u) (.int .i64 m1.f) (.int .i64 m1.d) (slW q1) 37
    simpa using q
  have hr0 := w0.below hA0
  have ht0 := w1.below hA0
  go_enter Tryz.func4, Tryz.ntmps4
  go_wp2_with fail
  generalize ((w.alloc (.cells #[.int .i64 m0.u, .int .i64 m0.f, .int .i64 m0.d, slW q0] 37)).alloc (.cells #[.int .i64 m1.u, .int .i64 m1.f, .int .i64 m1.d, slW q1] 37)) = W0 at *
  refine (szMessage_any m0 q0 1048576 W0 (by omega) (by omega) hq).mono ?_
  rintro e w1 ⟨r, rfl, hcase, hb1⟩
  have hB1 := hA0.trans (hb1.mono hA0.size)
  rcases hcase with rfl | ⟨r0, r1, hn0⟩
  · go_wp2
    go_ret
    exact ⟨rfl, hB1⟩
  have hneg : ¬ r < 0 := by omega
  have hr1 := hr0.below hb1
  have ht1 := ht0.below hb1
  have hZ1 := hZ0.below hb1 hZ0.lt
  have hY1 := hY0.below hb1 hY0.lt
  clear w0 hA0 hb1 hZ0 hY0 hr0 ht0
  obtain ⟨c0, c1, c2, c3⟩ := id hY1
  dsimp only at c0 c1 c2 c3
  go_wp2_with fail
  refine (szMessage_any m1 q1 r w1 r0 r1 hq').mono ?_
  rintro e w2 ⟨r2, rfl, hcase, hb2⟩
  have hB2 := hB1.trans (hb2.mono hB1.size)
  clear c0 c1 c2 c3
  rcases hcase with rfl | ⟨r3, r4, hn1⟩
  · go_wp2
    go_ret
    exact ⟨rfl, hB2⟩
  have hneg2 : ¬ r2 < 0 := by omega
  have hr2 := hr1.below hb2
  have ht2 := ht1.below hb2
  have hZ2 := hZ1.below hb2 hZ1.lt
  have hY2 := hY1.below hb2 hY1.lt
  clear hb2 hr1 ht1 hZ1 hY1 hB1
  go_wp2
  refine wp_region_held_drew (S := fun w' => Qc w' w.heap.size (msQ m0 q0) ∧ Qc w' (w.heap.size + 1) (msQ m1 q1)) (by kernel_rfl) ?hS1 (fun hHeld => ?_)
  case hS1 => exact ⟨hZ2, hY2⟩
  refine wpAnyH_take (i := 0) (v := ?_) rfl (by kernel_rfl) (by kernel_rfl) (by kernel_rfl) (fun _ _ _ h => h) (Or.inl ⟨by rfl, ?hy2⟩) (by assumption) ?ty2
  case hy2 => (intro w5 hSw; obtain ⟨⟨e0, e1, e2, e3⟩, -⟩ := hSw; (try dsimp only at e0 e1 e2 e3); go_simp; all_goals with_reducible rfl)
  simp only [Act.put, List.getElem_toArray, List.getElem_cons_zero, List.setIfInBounds_toArray, List.set_cons_zero, List.set_cons_succ]
  refine wpAnyH_take (i := 2) (v := ?_) rfl (by kernel_rfl) (by kernel_rfl) (by kernel_rfl) (fun _ _ _ h => h) (Or.inl ⟨by rfl, ?hy3⟩) (by assumption) ?ty3
  case hy3 => (intro w5 hSw; obtain ⟨-, ⟨e0, e1, e2, e3⟩⟩ := hSw; (try dsimp only at e0 e1 e2 e3); go_simp; all_goals with_reducible rfl)
  simp only [Act.put, List.getElem_toArray, List.getElem_cons_zero, List.getElem_cons_succ, List.setIfInBounds_toArray, List.set_cons_zero, List.set_cons_succ]
  refine wpAnyH_take (i := 4) (v := ?_) rfl (by kernel_rfl) (by kernel_rfl) (by kernel_rfl) (fun _ _ _ h => h) (Or.inl ⟨by rfl, ?hy4⟩) (by assumption) ?ty4
  case hy4 => (intro w5 hSw; obtain ⟨-, -⟩ := hSw; (try dsimp only at e0 e1 e2 e3); go_simp; all_goals with_reducible rfl)
  simp only [Act.put, List.getElem_toArray, List.getElem_cons_zero, List.getElem_cons_succ, List.setIfInBounds_toArray, List.set_cons_zero, List.set_cons_succ]
  refine wpAnyH_take (i := 5) (v := ?_) rfl (by kernel_rfl) (by kernel_rfl) (by kernel_rfl) (fun _ _ _ h => h) (Or.inl ⟨by rfl, ?hy5⟩) (by assumption) ?ty5
  case hy5 => (intro w5 hSw; obtain ⟨-, -⟩ := hSw; (try dsimp only at e0 e1 e2 e3); go_simp; all_goals with_reducible rfl)
  simp only [Act.put, List.getElem_toArray, List.getElem_cons_zero, List.getElem_cons_succ, List.setIfInBounds_toArray, List.set_cons_zero, List.set_cons_succ]
  refine wpAnyH_ready (rs := [1]) (by kernel_rfl) (by simp) ?_
  refine AllReadyH.cons rfl (fun K hK => ?_) AllReadyH.nil
  go_simp
  refine (toMessage_at m0 q0 _ (hr2.below (Below.refl _ _).drew) hn0).mono ?_
  rintro e w3 ⟨g3, rfl, ho3, hb3⟩
  have hb23 : Below w2.heap.size w2 w3 := (Below.refl _ _).drew.trans hb3
  have hB3 : Below w.heap.size w w3 := hB2.trans (hb23.mono hB2.size)
  have hr3 := hr2.below hb23
  have ht3 := ht2.below hb23
  have hZ3 := hZ2.below hb23 hZ2.lt
  have hY3 := hY2.below hb23 hY2.lt
  refine hK.out _ _ ⟨hZ3, hY3⟩ (fun hHeld => ?_)
  clear hK K hb3 hb23 hr2 ht2 hZ2 hY2 hB2
  refine wpAnyH_ready (rs := [3]) (by kernel_rfl) (by simp) ?_
  refine AllReadyH.cons rfl (fun K hK => ?_) AllReadyH.nil
  go_simp
  refine (toMessage_at m1 q1 _ ht3 hn1).mono ?_
  rintro e w4 ⟨g4, rfl, ho4, hb4⟩
  have hB4 : Below w.heap.size w w4 := hB3.trans (hb4.mono hB3.size)
  have hr4 := hr3.below hb4
  have ht4 := ht3.below hb4
  have hZ4 := hZ3.below hb4 hZ3.lt
  have hY4 := hY3.below hb4 hY3.lt
  have ho3' := ho3.below hb4
  refine hK.out _ _ ⟨hZ4, hY4⟩ (fun hHeld => ?_)
  clear hK K hb4 hr3 ht3 hZ3 hY3 hB3 ho3
  refine wpAnyH_ready (rs := [6]) (by kernel_rfl) (by simp) ?_
  refine AllReadyH.cons rfl (fun K hK => ?_) AllReadyH.nil
  go_simp
  refine (HSP.out _ g3 g4 _ _ ho3' ho4).mono ?_
  rintro e w5 ⟨rfl, hb5⟩
  have hB5 : Below w.heap.size w w5 := hB4.trans (hb5.mono hB4.size)
  have hr5 := hr4.below hb5
  have ht5 := ht4.below hb5
  have hZ5 := hZ4.below hb5 hZ4.lt
  have hY5 := hY4.below hb5 hY4.lt
  refine hK.out _ _ ⟨hZ5, hY5⟩ (fun hHeld => ?_)
  clear hK K hb5 hr4 ht4 hZ4 hY4 hB4 ho3' ho4
  refine wpAnyH_take (i := 7) (v := ?_) rfl (by kernel_rfl) (by kernel_rfl) (by kernel_rfl) (fun _ _ _ h => h) (Or.inl ⟨by rfl, ?hy6⟩) (by assumption) ?ty6
  case hy6 => (intro w5 hSw; obtain ⟨-, -⟩ := hSw; (try dsimp only at e0 e1 e2 e3); go_simp; all_goals with_reducible rfl)
  simp only [Act.put, List.getElem_toArray, List.getElem_cons_zero, List.getElem_cons_succ, List.setIfInBounds_toArray, List.set_cons_zero, List.set_cons_succ]
  refine wpAnyH_done (by kernel_rfl) ?_ _
  clear hHeld HSP
  obtain ⟨c0, c1, c2, c3⟩ := id hZ5
  dsimp only at c0 c1 c2 c3
  go_wp2_with fail
  refine (toMessage_at m0 q0 w5 hr5 hn0).mono ?_
  rintro e w6 ⟨g6, rfl, ho6, hb6⟩
  have hB6 : Below w.heap.size w w6 := hB5.trans (hb6.mono hB5.size)
  have hr6 := hr5.below hb6
  have ht6 := ht5.below hb6
  have hZ6 := hZ5.below hb6 hZ5.lt
  have hY6 := hY5.below hb6 hY5.lt
  clear c0 c1 c2 c3 hb6 hr5 ht5 hZ5 hY5 hB5
  have hb7 : Below w6.heap.size w6 (w6.alloc (.cells #[.int .i64 m0.u, .int .i64 m0.f, .int .i64 m0.d, slW (some ⟨g6, 0, none⟩, q0.2.1, q0.2.1)] 25)) := (Below.refl _ _).alloc (Nat.le_refl _) _
  have hX7 := Qc.new w6 (.int .i64 m0.u) (.int .i64 m0.f) (.int .i64 m0.d) (slW (some ⟨g6, 0, none⟩, q0.2.1, q0.2.1)) 25
  have hZ7 := hZ6.below hb7 hZ6.lt
  have hY7 := hY6.below hb7 hY6.lt
  have ho7 := ho6.below hb7
  have hr7 := hr6.below hb7
  have ht7 := ht6.below hb7
  have hB7 : Below w.heap.size w _ := hB6.trans (hb7.mono hB6.size)
  clear hb7 ho6 hr6 ht6 hB6 hZ6 hY6
  obtain ⟨c0, c1, c2, c3⟩ := id hY7
  dsimp only at c0 c1 c2 c3
  go_wp2_with fail
  generalize hW7 : (w6.alloc (.cells #[.int .i64 m0.u, .int .i64 m0.f, .int .i64 m0.d, slW (some ⟨g6, 0, none⟩, q0.2.1, q0.2.1)] 25)) = W7 at *
  clear hW7
  generalize w6.heap.size = g7 at *
  refine (toMessage_at m1 q1 W7 ht7 hn1).mono ?_
  rintro e w8 ⟨g8, rfl, ho8, hb8⟩
  have hB8 : Below w.heap.size w w8 := hB7.trans (hb8.mono hB7.size)
  have hr8 := hr7.below hb8
  have ht8 := ht7.below hb8
  have hZ8 := hZ7.below hb8 hZ7.lt
  have hY8 := hY7.below hb8 hY7.lt
  have hX8 := hX7.below hb8 hX7.lt
  have ho8' := ho7.below hb8
  clear c0 c1 c2 c3 hb8 hr7 ht7 hZ7 hY7 hX7 ho7 hB7
  have hb9 : Below w8.heap.size w8 (w8.alloc (.cells #[.int .i64 m1.u, .int .i64 m1.f, .int .i64 m1.d, slW (some ⟨g8, 0, none⟩, q1.2.1, q1.2.1)] 25)) := (Below.refl _ _).alloc (Nat.le_refl _) _
  have hU9 := Qc.new w8 (.int .i64 m1.u) (.int .i64 m1.f) (.int .i64 m1.d) (slW (some ⟨g8, 0, none⟩, q1.2.1, q1.2.1)) 25
  have hX9 := hX8.below hb9 hX8.lt
  have hZ9 := hZ8.below hb9 hZ8.lt
  have hY9 := hY8.below hb9 hY8.lt
  have ho9 := ho8'.below hb9
  have hp9 := ho8.below hb9
  have hr9 := hr8.below hb9
  have ht9 := ht8.below hb9
  have hB9 : Below w.heap.size w _ := hB8.trans (hb9.mono hB8.size)
  clear hb9 ho8 ho8' hr8 ht8 hB8 hZ8 hY8 hX8
  obtain ⟨c0, c1, c2, c3⟩ := id hX9
  dsimp only at c0 c1 c2 c3
  go_wp2_with fail
  generalize hW9 : (w8.alloc (.cells #[.int .i64 m1.u, .int .i64 m1.f, .int .i64 m1.d, slW (some ⟨g8, 0, none⟩, q1.2.1, q1.2.1)] 25)) = W9 at *
  clear hW9
  generalize w8.heap.size = g9 at *
  refine (HIP.out W9 g6 g8 _ _ hB9 ho9 hp9).mono ?_
  rintro e w10 ⟨rfl, hb10⟩
  have hB10 : Below w.heap.size w w10 := hB9.trans (hb10.mono hB9.size)
  have hr10 := hr9.below hb10
  have ht10 := ht9.below hb10
  have hZ10 := hZ9.below hb10 hZ9.lt
  have hY10 := hY9.below hb10 hY9.lt
  have hX10 := hX9.below hb10 hX9.lt
  have hU10 := hU9.below hb10 hU9.lt
  have ho10 := ho9.below hb10
  have hp10 := hp9.below hb10
  clear c0 c1 c2 c3 hb10 hr9 ht9 hZ9 hY9 hX9 hU9 ho9 hp9 hB9 HIP
  have hCC : (CA == CA) = true := by simp
  go_wp2
  refine wp_region_held_drew (S := fun w' => Qc w' g7 (msQ m0 (some ⟨g6, 0, none⟩, q0.2.1, q0.2.1)) ∧ Qc w' w.heap.size (msQ m0 q0)) (by kernel_rfl) ?hS7 (fun hHeld => ?_)
  case hS7 => exact ⟨hX10, hZ10⟩
  refine wpAnyH_take (i := 0) (v := ?_) rfl (by kernel_rfl) (by kernel_rfl) (by kernel_rfl) (fun _ _ _ h => h) (Or.inl ⟨by rfl, ?hy8⟩) (by assumption) ?ty8
  case hy8 => (intro w5 hSw; obtain ⟨⟨e0, e1, e2, e3⟩, -⟩ := hSw; (try dsimp only at e0 e1 e2 e3); go_simp; all_goals with_reducible rfl)
  simp only [Act.put, List.getElem_toArray, List.getElem_cons_zero, List.setIfInBounds_toArray, List.set_cons_zero, List.set_cons_succ]
  refine wpAnyH_take (i := 1) (v := ?_) rfl (by kernel_rfl) (by kernel_rfl) (by kernel_rfl) (fun _ _ _ h => h) (Or.inl ⟨by rfl, ?hy9⟩) (by assumption) ?ty9
  case hy9 => (intro w5 hSw; obtain ⟨-, ⟨e0, e1, e2, e3⟩⟩ := hSw; (try dsimp only at e0 e1 e2 e3); go_simp; all_goals with_reducible rfl)
  simp only [Act.put, List.getElem_toArray, List.getElem_cons_zero, List.getElem_cons_succ, List.setIfInBounds_toArray, List.set_cons_zero, List.set_cons_succ]
  refine wpAnyH_ready (rs := [2]) (by kernel_rfl) (by simp) ?_
  refine AllReadyH.cons rfl (fun K hK => ?_) AllReadyH.nil
  go_simp
  refine (toMessage_at m0 q0 _ (hr10.below (Below.refl _ _).drew) hn0).mono ?_
  rintro e w11 ⟨gd, rfl, hod, hbd0⟩
  have hbd : Below w10.heap.size w10 w11 := (Below.refl _ _).drew.trans hbd0
  have hB11 : Below w.heap.size w w11 := hB10.trans (hbd.mono hB10.size)
  have hSa : Qc w11 g7 (msQ m0 (some ⟨g6, 0, none⟩, q0.2.1, q0.2.1)) ∧ Qc w11 w.heap.size (msQ m0 q0) := ⟨hX10.below hbd hX10.lt, hZ10.below hbd hZ10.lt⟩
  have hoa := ho10.below hbd
  have hY11 := hY10.below hbd hY10.lt
  have hU11 := hU10.below hbd hU10.lt
  have ht11 := ht10.below hbd
  have hp11 := hp10.below hbd
  refine hK.out _ _ hSa (fun hHeld => ?_)
  clear hK K hbd hbd0
  refine wpAnyH_ready (rs := [3]) (by kernel_rfl) (by simp) ?_
  refine AllReadyH.cons rfl (fun K hK => ?_) AllReadyH.nil
  go_simp
  refine (eqMessage_same m0 (some ⟨g6, 0, none⟩, q0.2.1, q0.2.1) (some ⟨gd, 0, none⟩, q0.2.1, q0.2.1) _ hoa hod (by exact hn0)).mono ?_
  rintro e w12 ⟨rfl, hbe⟩
  have hB12 : Below w.heap.size w w12 := hB11.trans (hbe.mono hB11.size)
  have hY12 := hY11.below hbe hY11.lt
  have hU12 := hU11.below hbe hU11.lt
  have ht12 := ht11.below hbe
  have hp12 := hp11.below hbe
  refine hK.out _ _ ⟨hSa.1.below hbe hSa.1.lt, hSa.2.below hbe hSa.2.lt⟩ (fun hHeld => ?_)
  clear hK K hbe hSa hoa hod
  refine wpAnyH_take (i := 4) (v := ?_) rfl (by kernel_rfl) (by kernel_rfl) (by kernel_rfl) (fun _ _ _ h => h) (Or.inl ⟨by rfl, ?hy10⟩) (by assumption) ?ty10
  case hy10 => (intro w5 hSw; obtain ⟨-, -⟩ := hSw; (try dsimp only at e0 e1 e2 e3); go_simp; all_goals with_reducible rfl)
  simp only [Act.put, List.getElem_toArray, List.getElem_cons_zero, List.getElem_cons_succ, List.setIfInBounds_toArray, List.set_cons_zero, List.set_cons_succ]
  refine wpAnyH_done (by kernel_rfl) ?_ _
  clear hHeld
  clear hX10 hZ10 hr10 ho10 hY10 hU10 ht10 hp10 hY11 hU11 ht11 hp11
  go_wp2
  refine wp_region_held_drew (S := fun w' => Qc w' g9 (msQ m1 (some ⟨g8, 0, none⟩, q1.2.1, q1.2.1)) ∧ Qc w' (w.heap.size + 1) (msQ m1 q1)) (by kernel_rfl) ?hS11 (fun hHeld => ?_)
  case hS11 => exact ⟨hU12, hY12⟩
  refine wpAnyH_take (i := 0) (v := ?_) rfl (by kernel_rfl) (by kernel_rfl) (by kernel_rfl) (fun _ _ _ h => h) (Or.inl ⟨by rfl, ?hy12⟩) (by assumption) ?ty12
  case hy12 => (intro w5 hSw; obtain ⟨⟨e0, e1, e2, e3⟩, -⟩ := hSw; (try dsimp only at e0 e1 e2 e3); go_simp; all_goals with_reducible rfl)
  simp only [Act.put, List.getElem_toArray, List.getElem_cons_zero, List.setIfInBounds_toArray, List.set_cons_zero, List.set_cons_succ]
  refine wpAnyH_take (i := 1) (v := ?_) rfl (by kernel_rfl) (by kernel_rfl) (by kernel_rfl) (fun _ _ _ h => h) (Or.inl ⟨by rfl, ?hy13⟩) (by assumption) ?ty13
  case hy13 => (intro w5 hSw; obtain ⟨-, ⟨e0, e1, e2, e3⟩⟩ := hSw; (try dsimp only at e0 e1 e2 e3); go_simp; all_goals with_reducible rfl)
  simp only [Act.put, List.getElem_toArray, List.getElem_cons_zero, List.getElem_cons_succ, List.setIfInBounds_toArray, List.set_cons_zero, List.set_cons_succ]
  refine wpAnyH_ready (rs := [2]) (by kernel_rfl) (by simp) ?_
  refine AllReadyH.cons rfl (fun K hK => ?_) AllReadyH.nil
  go_simp
  refine (toMessage_at m1 q1 _ (ht12.below (Below.refl _ _).drew) hn1).mono ?_
  rintro e w13 ⟨gd, rfl, hod, hbd0⟩
  have hbd : Below w12.heap.size w12 w13 := (Below.refl _ _).drew.trans hbd0
  have hB13 : Below w.heap.size w w13 := hB12.trans (hbd.mono hB12.size)
  have hSa : Qc w13 g9 (msQ m1 (some ⟨g8, 0, none⟩, q1.2.1, q1.2.1)) ∧ Qc w13 (w.heap.size + 1) (msQ m1 q1) := ⟨hU12.below hbd hU12.lt, hY12.below hbd hY12.lt⟩
  have hoa := hp12.below hbd
  refine hK.out _ _ hSa (fun hHeld => ?_)
  clear hK K hbd hbd0
  refine wpAnyH_ready (rs := [3]) (by kernel_rfl) (by simp) ?_
  refine AllReadyH.cons rfl (fun K hK => ?_) AllReadyH.nil
  go_simp
  refine (eqMessage_same m1 (some ⟨g8, 0, none⟩, q1.2.1, q1.2.1) (some ⟨gd, 0, none⟩, q1.2.1, q1.2.1) _ hoa hod (by exact hn1)).mono ?_
  rintro e w14 ⟨rfl, hbe⟩
  have hB14 : Below w.heap.size w w14 := hB13.trans (hbe.mono hB13.size)
  refine hK.out _ _ ⟨hSa.1.below hbe hSa.1.lt, hSa.2.below hbe hSa.2.lt⟩ (fun hHeld => ?_)
  clear hK K hbe hSa hoa hod
  refine wpAnyH_take (i := 4) (v := ?_) rfl (by kernel_rfl) (by kernel_rfl) (by kernel_rfl) (fun _ _ _ h => h) (Or.inl ⟨by rfl, ?hy14⟩) (by assumption) ?ty14
  case hy14 => (intro w5 hSw; obtain ⟨-, -⟩ := hSw; (try dsimp only at e0 e1 e2 e3); go_simp; all_goals with_reducible rfl)
  simp only [Act.put, List.getElem_toArray, List.getElem_cons_zero, List.getElem_cons_succ, List.setIfInBounds_toArray, List.set_cons_zero, List.set_cons_succ]
  refine wpAnyH_done (by kernel_rfl) ?_ _
  clear hHeld
  go_wp2
  go_ret
  exact ⟨rfl, hB14⟩

/-! ### THE ROW's STEP -/
set_option maxRecDepth 100000 in
theorem lifted (os : Os) (started : os.Started) (H : Type) (enc : TypeId × Value → H) :
    ReturnsInHanded {} Tryz.checked os 4 .any (fun w args => (Rows.fnExactComesAheadSpec.pre enc Tryz.prog Tryz.f4 [] false w args ∧ laidMetH Tryz.prog Rows.fnExactComesAheadRow.laid w) ∧ sizedMet enc Tryz.prog Tryz.f4 (OpenSpec.ofChange Rows.fnExactComesAheadSpec) false w args)
      (Rows.fnExactComesAheadSpec.post enc Tryz.prog Tryz.f4 false true false false) := by
  refine handed_and_shaped (C := Tryz.checked) (X := fun w _ => laidMetH Tryz.prog Rows.fnExactComesAheadRow.laid w) (fun _ _ _ hh h => h.of_heap hh) own started (by kernel_rfl) Tryz.func4
    (ChangeSpec.witness_shaped (enc := enc) (C := Tryz.checked) (os := os) (X := fun w _ => laidMetH Tryz.prog Rows.fnExactComesAheadRow.laid w) false (World.laidAll Tryz.prog os Rows.fnExactComesAheadRow.laid) #[.agg #[.int .i64 0, .int .i64 0, .int .i64 0, .slice none 0 0], .agg #[.int .i64 0, .int .i64 0, .int .i64 0, .slice none 0 0], .int .i64 0, .int .i64 0] 8 (World.laidAll_os _ _ _) (World.shaped_of_ZipB (by kernel_rfl) (by kernel_rfl)) (by kernel_rfl) (by kernel_rfl) (by kernel_rfl) (door_met os _)) ?_
  intro W base args ds gs before hval0 hW hL hsh
  have hval : ∀ (j : Nat) t v, Tryz.f4.params[j]? = some t → args[j]? = some v → Value.okWide Tryz.prog W .any base t v := hval0
  have hW' := hW
  obtain ⟨p, q, hA0, hV, rfl, hfz, hnd⟩ := hW
  have hA : DataW.TrodAll enc Tryz.prog W 0 (fun _ => true) true Tryz.f4.params.toList args.toList ds p := hA0
  rw [Tryz.params4] at hA hval
  obtain ⟨v0, vs0, d0, ds0, p0, q0, hargs, rfl, rfl, h0, r0⟩ := trodAll_cons hA
  obtain ⟨v1, vs1, d1, ds1, p1, q1, rfl, rfl, rfl, h1, r1⟩ := trodAll_cons r0
  obtain ⟨v2, vs2, d2, ds2, p2, q2, rfl, rfl, rfl, h2, r2⟩ := trodAll_cons r1
  obtain ⟨v3, vs3, d3, ds3, p3, q3, rfl, rfl, rfl, h3, r3⟩ := trodAll_cons r2
  obtain ⟨rfl, rfl, rfl⟩ := trodAll_nil r3
  obtain rfl : args = #[v0, v1, v2, v3] := by cases args; simp_all
  obtain ⟨cs0, rfl, -⟩ := okWide_struct Tryz.underlying37 (hval 0 37 v0 rfl rfl)
  have k0 := h0
  have lt0 : ∀ x ∈ p0, x.block < W.heap.size := by obtain ⟨m, hm⟩ := k0; exact DataW.trod_lt m _ _ _ hm
  obtain ⟨fuel0, hf0⟩ := h0
  obtain ⟨m0, q0, hc0, w0⟩ := open_msg msgT hf0
  obtain rfl : cs0 = #[.int .i64 m0.u, .int .i64 m0.f, .int .i64 m0.d, slW q0] := Array.toList_inj.1 hc0
  obtain ⟨cs1, rfl, -⟩ := okWide_struct Tryz.underlying37 (hval 1 37 v1 rfl rfl)
  have k1 := h1
  have lt1 : ∀ x ∈ p1, x.block < W.heap.size := by obtain ⟨m, hm⟩ := k1; exact DataW.trod_lt m _ _ _ hm
  obtain ⟨fuel1, hf1⟩ := h1
  obtain ⟨m1, q1, hc1, w1⟩ := open_msg msgT hf1
  obtain rfl : cs1 = #[.int .i64 m1.u, .int .i64 m1.f, .int .i64 m1.d, slW q1] := Array.toList_inj.1 hc1
  obtain ⟨a2, rfl, rfl, rfl, w2⟩ := open_int Tryz.underlying2 (hval 2 2 v2 rfl rfl) h2
  obtain ⟨a3, rfl, rfl, rfl, w3⟩ := open_int Tryz.underlying2 (hval 3 2 v3 rfl rfl) h3
  obtain ⟨dv, dv2, dv3, rfl⟩ : ∃ d d2 d3, gs = [d, d2, d3] := by
    match gs, hV with
    | [d, d2, d3], _ => exact ⟨d, d2, d3, rfl⟩
    | [], h => exact h.elim
    | [d], h => obtain ⟨_, _, _, _, _, _, _, _, _, _, h, _⟩ := h; exact h.elim
    | [d, d2], h => obtain ⟨_, _, _, _, _, _, _, _, _, _, ⟨_, _, _, _, _, _, _, _, _, _, h, _⟩, _⟩ := h; exact h.elim
    | _ :: _ :: _ :: _ :: _, h => obtain ⟨_, _, _, _, _, _, _, _, _, _, ⟨_, _, _, _, _, _, _, _, _, _, ⟨_, _, _, _, _, _, _, _, _, _, h, _⟩, _⟩, _⟩ := h; exact h.elim
  clear hA0 hval0
  refine (walk m0 q0 m1 q1 a2 a3 W w0 w1 w2 w3 (of_laidB hL) (of_laidH hL) (of_laidC hL) (maxLen_shaped hsh)).mono fun e W' ⟨he, bel⟩ => ?_
  subst he
  exact ⟨_, rfl, _, _, _, [], _, _, hW', trodAll_mk1 (shut_bool Tryz.underlying4 _), (trodAll_cons_mk (Below.trod laidOut (by kernel_rfl) (of_decide_eq_true (by kernel_rfl)) k0 bel lt0) (trodAll_cons_mk (Below.trod laidOut (by kernel_rfl) (of_decide_eq_true (by kernel_rfl)) k1 bel lt1) (trodAll_cons_mk (shut_int Tryz.underlying2 w2) (trodAll_cons_mk (shut_int Tryz.underlying2 w3) trodAll_mk0)))), Below.trodVars laidOut bel (by kernel_rfl) hV, bel.frame _, fun h => by cases h⟩

theorem over : Rows.fnExactComesAheadRow.holds Tryz.pinned (OpenSpec.ofChange Rows.fnExactComesAheadSpec) :=
  OpenClaim.holds_of_wide 4 Tryz.f4 rfl rfl rfl rfl rfl rfl rfl ⟨rfl, rfl, rfl, rfl, rfl⟩ rfl rfl rfl rfl rfl (by kernel_rfl) Tryz.func4 closedF
    (of_decide_eq_true (by kernel_rfl)) (by unfold Func.isWrapper; first | (rw [if_pos (by decide +kernel)]; kernel_rfl) | (rw [if_neg (by decide +kernel)]; exact ⟨rfl, rfl⟩))
    (fun os started H enc _ => lifted os started H enc)

theorem plainF (f : FuncId) (fn : Func) (hf : Tryz.pinned.checked.prog.funcNamed "loop.example/g00447/laws.FnExactComesAhead" = some f) (hfn : Tryz.pinned.checked.prog.funcs[f]? = some fn) :
    true = Tryz.pinned.checked.prog.looks [] ∧ ∀ (j : Nat) t, fn.params[j]? = some t → Tryz.pinned.checked.prog.wantsStandIn t = false := by
  obtain rfl : f = 4 := Option.some.inj ((show Tryz.prog.funcNamed "loop.example/g00447/laws.FnExactComesAhead" = some 4 by kernel_rfl).symm.trans hf) |>.symm
  obtain rfl : fn = Tryz.f4 := (Option.some.inj (Tryz.func4.symm.trans hfn)).symm
  refine ⟨jzLooks, fun j t ht => ?_⟩
  rw [Tryz.params4] at ht
  have hm : t ∈ [37, 37, 2, 2] := by simpa using Array.mem_of_getElem? ht
  have hall : ([37, 37, 2, 2].all fun u => !Tryz.prog.wantsStandIn u) = true := by kernel_rfl
  exact (show Tryz.prog.wantsStandIn t = false by simpa using List.all_eq_true.1 hall t hm)
end Go.Proofs.YtfbjodbihenmjaaGreatDoor.fnExactComesAhead

namespace Go.Proofs.YtfbjodbihenmjaaGreatDoor
/-- THE TIED CARD. -/
theorem fnExactComesAhead_card : Rows.FnExactComesAheadCardSaid :=
  Claim7.holds_tied_plain_at .later [] _ _ _ _ fnExactComesAhead.over (fun _ h => by cases h) fnExactComesAhead.byText (fun _ h => by cases h) fnExactComesAhead_row_tie rfl ⟨rfl, rfl⟩ jzMain rfl fnExactComesAhead.plainF fnExactComesAhead.goesF
end Go.Proofs.YtfbjodbihenmjaaGreatDoor
