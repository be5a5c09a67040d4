/- Proved: called with any two commands, the law FnExactSameCmds returns true (the program's SameCmds answers as the model does and writes into no argument); no condition. -/
import Derived.Test.YtaiificlempeaaaRows
import Derived.Test.YtaiificlempeaaaCmv
import Derived.Test.YtaiificlempeaaaCmt
import Derived.Test.YtaiificlempeaaaCmu
import Derived.Test.YtaiificlempeaaaCmg
import Derived.WalkKit
import Derived.ProofKit
import Derived.OpenShut
import Derived.ShutString
import Derived.ChangeOld
import Derived.Below
namespace Go.Proofs.Ytaiificlempeaaa.fnExactSameCmds
open Go.ChangeShapes Go.WideShapes Go.ChangeAt Go.RowKit
open Go.ChangeMaps (open_string shut_string)
set_option linter.unusedVariables false

theorem own : ownKnob Try.prog.godebug = none := by kernel_rfl
theorem laidOut : laidOutB Try.prog = true := by kernel_rfl

/-! ### THE WALK -/
set_option maxHeartbeats 1600000 in
set_option maxRecDepth 100000 in
theorem walk (m0 : CmR) (q0 : SlC) (m1 : CmR) (q1 : SlC) (w : World) (w0 : IsCm 0 w q0 m0 ∧ OkC m0) (w1 : IsCm 0 w q1 m1 ∧ OkC m1) :
    Calls Try.prog 3 #[cmX m0 q0, cmX m1 q1] w fun e w' => e = .returned (.bool true) ∧ Below w.heap.size w w' := by
  obtain ⟨w0, hok⟩ := w0
  obtain ⟨w1, hok1⟩ := w1
  have hA0 : Below w.heap.size w (w.alloc (.cells #[.string m0.t, .int .i64 m0.k, .string m0.n, slW q0.1, .int .i64 m0.m, .int .i64 m0.f, .int .i64 m0.d, slW q0.2.1, .int .i64 m0.h, slW q0.2.2.1, .int .i64 m0.e, .bool m0.r, slW q0.2.2.2, .int .i64 m0.c] 27)) := (Below.refl _ _).alloc (Nat.le_refl _) _
  have hA1 : Below (w.heap.size + 1) (w.alloc (.cells #[.string m0.t, .int .i64 m0.k, .string m0.n, slW q0.1, .int .i64 m0.m, .int .i64 m0.f, .int .i64 m0.d, slW q0.2.1, .int .i64 m0.h, slW q0.2.2.1, .int .i64 m0.e, .bool m0.r, slW q0.2.2.2, .int .i64 m0.c] 27)) ((w.alloc (.cells #[.string m0.t, .int .i64 m0.k, .string m0.n, slW q0.1, .int .i64 m0.m, .int .i64 m0.f, .int .i64 m0.d, slW q0.2.1, .int .i64 m0.h, slW q0.2.2.1, .int .i64 m0.e, .bool m0.r, slW q0.2.2.2, .int .i64 m0.c] 27)).alloc (.cells #[.string m1.t, .int .i64 m1.k, .string m1.n, slW q1.1, .int .i64 m1.m, .int .i64 m1.f, .int .i64 m1.d, slW q1.2.1, .int .i64 m1.h, slW q1.2.2.1, .int .i64 m1.e, .bool m1.r, slW q1.2.2.2, .int .i64 m1.c] 27)) := (Below.refl _ _).alloc (by simp) _
  have hAA : Below w.heap.size w _ := hA0.trans (hA1.mono (by omega))
  have hP0 := (Qm.new w (.string m0.t) (.int .i64 m0.k) (.string m0.n) (slW q0.1) (.int .i64 m0.m) (.int .i64 m0.f) (.int .i64 m0.d) (slW q0.2.1) (.int .i64 m0.h) (slW q0.2.2.1) (.int .i64 m0.e) (.bool m0.r) (slW q0.2.2.2) (.int .i64 m0.c) 27).below hA1 (by omega)
  have hR0 := Qm.new (w.alloc (.cells #[.string m0.t, .int .i64 m0.k, .string m0.n, slW q0.1, .int .i64 m0.m, .int .i64 m0.f, .int .i64 m0.d, slW q0.2.1, .int .i64 m0.h, slW q0.2.2.1, .int .i64 m0.e, .bool m0.r, slW q0.2.2.2, .int .i64 m0.c] 27)) (.string m1.t) (.int .i64 m1.k) (.string m1.n) (slW q1.1) (.int .i64 m1.m) (.int .i64 m1.f) (.int .i64 m1.d) (slW q1.2.1) (.int .i64 m1.h) (slW q1.2.2.1) (.int .i64 m1.e) (.bool m1.r) (slW q1.2.2.2) (.int .i64 m1.c) 27
  have hg : (w.alloc (.cells #[.string m0.t, .int .i64 m0.k, .string m0.n, slW q0.1, .int .i64 m0.m, .int .i64 m0.f, .int .i64 m0.d, slW q0.2.1, .int .i64 m0.h, slW q0.2.2.1, .int .i64 m0.e, .bool m0.r, slW q0.2.2.2, .int .i64 m0.c] 27)).heap.size = w.heap.size + 1 := by simp
  rw [hg] at hR0
  have hu0 := w0.below hAA
  have hv0 := w1.below hAA
  clear w0 w1 hA0 hA1 hg
  go_enter Try.func3, Try.ntmps3
  go_wp2_with fail
  generalize ((w.alloc (.cells #[.string m0.t, .int .i64 m0.k, .string m0.n, slW q0.1, .int .i64 m0.m, .int .i64 m0.f, .int .i64 m0.d, slW q0.2.1, .int .i64 m0.h, slW q0.2.2.1, .int .i64 m0.e, .bool m0.r, slW q0.2.2.2, .int .i64 m0.c] 27)).alloc (.cells #[.string m1.t, .int .i64 m1.k, .string m1.n, slW q1.1, .int .i64 m1.m, .int .i64 m1.f, .int .i64 m1.d, slW q1.2.1, .int .i64 m1.h, slW q1.2.2.1, .int .i64 m1.e, .bool m1.r, slW q1.2.2.2, .int .i64 m1.c] 27)) = W0 at *
  refine (szCmd_ft m0 q0 1048576 W0 (by omega) (by omega) hu0 hok).mono ?_
  rintro e w1 ⟨r, rfl, hcase, hb1⟩
  have hB1 := hAA.trans (hb1.mono hAA.size)
  rcases hcase with rfl | ⟨r0, r0', hn⟩
  · go_wp2
    go_ret
    exact ⟨rfl, hB1⟩
  have hneg : ¬ r < 0 := by omega
  have hu1 := hu0.below hb1
  have hv1 := hv0.below hb1
  have hP1 := hP0.below hb1 hP0.lt
  have hR1 := hR0.below hb1 hR0.lt
  clear hu0 hv0 hP0 hR0 hAA hb1
  obtain ⟨c0, c1, c2, c3, c4, c5, c6, c7, c8, c9, c10, c11, c12, c13⟩ := id hR1
  dsimp only at c0 c1 c2 c3 c4 c5 c6 c7 c8 c9 c10 c11 c12 c13
  go_wp2_with fail
  refine (szCmd_ft m1 q1 r w1 (by omega) (by omega) hv1 hok1).mono ?_
  rintro e w2 ⟨r2, rfl, hcase, hb2⟩
  have hB2 := hB1.trans (hb2.mono hB1.size)
  rcases hcase with rfl | ⟨r20, -, hn1⟩
  · go_wp2
    go_ret
    exact ⟨rfl, hB2⟩
  · have hneg2 : ¬ r2 < 0 := by omega
    have hu2 := hu1.below hb2
    have hv2 := hv1.below hb2
    have hP2 := hP1.below hb2 hP1.lt
    have hR2 := hR1.below hb2 hR1.lt
    have HSP : Hid (∀ (s s' : SlC) (lo lo' : Nat) (w' : World), IsCm lo w' s m0 → IsCm lo' w' s' m1 → Calls Try.prog 6 #[cmX m0 s, cmX m1 s'] w' fun e w'' => e = .returned (.bool (smC m0 m1)) ∧ Below w'.heap.size w' w'') := fun s s' lo lo' w' h h' => specSameCmds_any m0 m1 s s' w' h h'
    have HIM : Hid (∀ (s s' : SlC) (lo lo' : Nat) (w' : World), IsCm lo w' s m0 → IsCm lo' w' s' m1 → Calls Try.prog 8 #[cmX m0 s, cmX m1 s'] w' fun e w'' => e = .returned (.bool (smC m0 m1)) ∧ Below w'.heap.size w' w'') := fun s s' lo lo' w' h h' => sameCmds_any m0 m1 s s' w' h h'
    generalize smC m0 m1 = rv at *
    clear c0 c1 c2 c3 c4 c5 c6 c7 c8 c9 c10 c11 c12 c13 hu1 hv1 hP1 hR1 hB1 hb2
    go_wp2_with fail
    refine wp_region_held_drew (S := fun w' => Qm w' w.heap.size (cmQ m0 q0) ∧ Qm w' (w.heap.size + 1) (cmQ m1 q1)) (by kernel_rfl) ?hS1 (fun hHeld => ?_)
    case hS1 => exact ⟨hP2, hR2⟩
    refine wpAnyH_take (i := 0) (v := ?_) rfl (by kernel_rfl) (by kernel_rfl) (by kernel_rfl) (fun _ _ _ h => h) (Or.inl ⟨by rfl, ?hy1⟩) (by assumption) ?ty1
    case hy1 => (intro w' hSw; obtain ⟨⟨e0, e1, e2, e3, e4, e5, e6, e7, e8, e9, e10, e11, e12, e13⟩, -⟩ := hSw; dsimp only at e0 e1 e2 e3 e4 e5 e6 e7 e8 e9 e10 e11 e12 e13; go_simp; all_goals with_reducible rfl)
    simp only [Act.put, List.getElem_toArray, List.getElem_cons_zero, List.setIfInBounds_toArray, List.set_cons_zero, List.set_cons_succ]
    refine wpAnyH_take (i := 2) (v := ?_) rfl (by kernel_rfl) (by kernel_rfl) (by kernel_rfl) (fun _ _ _ h => h) (Or.inl ⟨by rfl, ?hy2⟩) (by assumption) ?ty2
    case hy2 => (intro w' hSw; obtain ⟨-, ⟨e0, e1, e2, e3, e4, e5, e6, e7, e8, e9, e10, e11, e12, e13⟩⟩ := hSw; dsimp only at e0 e1 e2 e3 e4 e5 e6 e7 e8 e9 e10 e11 e12 e13; go_simp; all_goals with_reducible rfl)
    simp only [Act.put, List.getElem_toArray, List.getElem_cons_zero, List.getElem_cons_succ, List.setIfInBounds_toArray, List.set_cons_zero, List.set_cons_succ]
    refine wpAnyH_ready (rs := [1]) (by kernel_rfl) (by simp) ?_
    refine AllReadyH.cons rfl (fun K hK => ?_) AllReadyH.nil
    go_simp
    refine (toCmd_ft m0 q0 _ (hu2.below (Below.refl _ _).drew) hn).mono ?_
    rintro e w3 ⟨s3, rfl, ho3, hb3⟩
    have hb23 : Below w2.heap.size w2 w3 := (Below.refl _ _).drew.trans hb3
    have hB3 : Below w.heap.size w w3 := hB2.trans (hb23.mono hB2.size)
    have hu3 := hu2.below hb23
    have hv3 := hv2.below hb23
    have hP3 := hP2.below hb23 hP2.lt
    have hR3 := hR2.below hb23 hR2.lt
    refine hK.out _ _ ⟨hP3, hR3⟩ (fun hHeld => ?_)
    clear hK K hb23 hb3 hB2 hu2 hv2 hP2 hR2
    refine wpAnyH_ready (rs := [3]) (by kernel_rfl) (by simp) ?_
    refine AllReadyH.cons rfl (fun K hK => ?_) AllReadyH.nil
    go_simp
    refine (toCmd_ft m1 q1 _ hv3 hn1).mono ?_
    rintro e w4 ⟨s4, rfl, ho4, hb4⟩
    have hB4 : Below w.heap.size w w4 := hB3.trans (hb4.mono hB3.size)
    have hu4 := hu3.below hb4
    have hv4 := hv3.below hb4
    have hP4 := hP3.below hb4 hP3.lt
    have hR4 := hR3.below hb4 hR3.lt
    have ho3 := ho3.below hb4
    refine hK.out _ _ ⟨hP4, hR4⟩ (fun hHeld => ?_)
    clear hK K hb4 hB3 hu3 hv3 hP3 hR3
    refine wpAnyH_ready (rs := [4]) (by kernel_rfl) (by simp) ?_
    refine AllReadyH.cons rfl (fun K hK => ?_) AllReadyH.nil
    go_simp
    refine (HSP.out s3 s4 _ _ _ ho3 ho4).mono ?_
    rintro e w5 ⟨rfl, hb5⟩
    have hB5 : Below w.heap.size w w5 := hB4.trans (hb5.mono hB4.size)
    have hu5 := hu4.below hb5
    have hv5 := hv4.below hb5
    have hP5 := hP4.below hb5 hP4.lt
    have hR5 := hR4.below hb5 hR4.lt
    refine hK.out _ _ ⟨hP5, hR5⟩ (fun hHeld => ?_)
    clear hK K hb5 hB4 hu4 hv4 hP4 hR4 ho3 ho4 HSP
    refine wpAnyH_take (i := 5) (v := ?_) rfl (by kernel_rfl) (by kernel_rfl) (by kernel_rfl) (fun _ _ _ h => h) (Or.inl ⟨by rfl, ?hy3⟩) (by assumption) ?ty3
    case hy3 => (intro w' hSw; obtain ⟨-, -⟩ := hSw; go_simp; all_goals with_reducible rfl)
    simp only [Act.put, List.getElem_toArray, List.getElem_cons_zero, List.getElem_cons_succ, List.setIfInBounds_toArray, List.set_cons_zero, List.set_cons_succ]
    refine wpAnyH_done (by kernel_rfl) ?_ _
    clear hHeld
    obtain ⟨c0, c1, c2, c3, c4, c5, c6, c7, c8, c9, c10, c11, c12, c13⟩ := id hP5
    dsimp only at c0 c1 c2 c3 c4 c5 c6 c7 c8 c9 c10 c11 c12 c13
    go_wp2_with fail
    refine (toCmd_ft m0 q0 w5 hu5 hn).mono ?_
    rintro e w6 ⟨s6, rfl, ho6, hb6⟩
    have hB6 : Below w.heap.size w w6 := hB5.trans (hb6.mono hB5.size)
    have hu6 := hu5.below hb6
    have hv6 := hv5.below hb6
    have hP6 := hP5.below hb6 hP5.lt
    have hR6 := hR5.below hb6 hR5.lt
    clear c0 c1 c2 c3 c4 c5 c6 c7 c8 c9 c10 c11 c12 c13 hb6 hB5 hu5 hv5 hP5 hR5
    have hb7 : Below w6.heap.size w6 (w6.alloc (.cells #[.string m0.t, .int .i64 m0.k, .string m0.n, slW s6.1, .int .i64 m0.m, .int .i64 m0.f, .int .i64 m0.d, slW s6.2.1, .int .i64 m0.h, slW s6.2.2.1, .int .i64 m0.e, .bool m0.r, slW s6.2.2.2, .int .i64 m0.c] 33)) := (Below.refl _ _).alloc (Nat.le_refl _) _
    have hX7 := Qm.new w6 (.string m0.t) (.int .i64 m0.k) (.string m0.n) (slW s6.1) (.int .i64 m0.m) (.int .i64 m0.f) (.int .i64 m0.d) (slW s6.2.1) (.int .i64 m0.h) (slW s6.2.2.1) (.int .i64 m0.e) (.bool m0.r) (slW s6.2.2.2) (.int .i64 m0.c) 33
    have hu7 := hu6.below hb7
    have hv7 := hv6.below hb7
    have ho7 := ho6.below hb7
    have hP7 := hP6.below hb7 hP6.lt
    have hR7 := hR6.below hb7 hR6.lt
    have hB7 : Below w.heap.size w _ := hB6.trans (hb7.mono hB6.size)
    have hl6 := hR6.lt
    clear hb7 hu6 hv6 ho6 hP6 hR6 hB6
    obtain ⟨c0, c1, c2, c3, c4, c5, c6, c7, c8, c9, c10, c11, c12, c13⟩ := id hR7
    dsimp only at c0 c1 c2 c3 c4 c5 c6 c7 c8 c9 c10 c11 c12 c13
    go_wp2_with fail
    generalize (w6.alloc (.cells #[.string m0.t, .int .i64 m0.k, .string m0.n, slW s6.1, .int .i64 m0.m, .int .i64 m0.f, .int .i64 m0.d, slW s6.2.1, .int .i64 m0.h, slW s6.2.2.1, .int .i64 m0.e, .bool m0.r, slW s6.2.2.2, .int .i64 m0.c] 33)) = W7 at *
    generalize w6.heap.size = g7 at *
    refine (toCmd_ft m1 q1 W7 hv7 hn1).mono ?_
    rintro e w8 ⟨s8, rfl, ho8, hb8⟩
    have hB8 : Below w.heap.size w w8 := hB7.trans (hb8.mono hB7.size)
    have hu8 := hu7.below hb8
    have hv8 := hv7.below hb8
    have ho7 := ho7.below hb8
    have hP8 := hP7.below hb8 hP7.lt
    have hR8 := hR7.below hb8 hR7.lt
    have hX8 := hX7.below hb8 hX7.lt
    clear c0 c1 c2 c3 c4 c5 c6 c7 c8 c9 c10 c11 c12 c13 hb8 hB7 hu7 hv7 hP7 hR7 hX7
    have hb9 : Below w8.heap.size w8 (w8.alloc (.cells #[.string m1.t, .int .i64 m1.k, .string m1.n, slW s8.1, .int .i64 m1.m, .int .i64 m1.f, .int .i64 m1.d, slW s8.2.1, .int .i64 m1.h, slW s8.2.2.1, .int .i64 m1.e, .bool m1.r, slW s8.2.2.2, .int .i64 m1.c] 33)) := (Below.refl _ _).alloc (Nat.le_refl _) _
    have hY9 := Qm.new w8 (.string m1.t) (.int .i64 m1.k) (.string m1.n) (slW s8.1) (.int .i64 m1.m) (.int .i64 m1.f) (.int .i64 m1.d) (slW s8.2.1) (.int .i64 m1.h) (slW s8.2.2.1) (.int .i64 m1.e) (.bool m1.r) (slW s8.2.2.2) (.int .i64 m1.c) 33
    have hu9 := hu8.below hb9
    have hv9 := hv8.below hb9
    have hoA9 := ho7.below hb9
    have hoB9 := ho8.below hb9
    have hP9 := hP8.below hb9 hP8.lt
    have hR9 := hR8.below hb9 hR8.lt
    have hX9 := hX8.below hb9 hX8.lt
    have hB9 : Below w.heap.size w _ := hB8.trans (hb9.mono hB8.size)
    have hl8 := hX8.lt
    clear hb9 hu8 hv8 ho7 ho8 hP8 hR8 hX8 hB8
    obtain ⟨c0, c1, c2, c3, c4, c5, c6, c7, c8, c9, c10, c11, c12, c13⟩ := id hX9
    obtain ⟨d0, d1, d2, d3, d4, d5, d6, d7, d8, d9, d10, d11, d12, d13⟩ := id hY9
    dsimp only at c0 c1 c2 c3 c4 c5 c6 c7 c8 c9 c10 c11 c12 c13 d0 d1 d2 d3 d4 d5 d6 d7 d8 d9 d10 d11 d12 d13
    go_wp2_with fail
    generalize (w8.alloc (.cells #[.string m1.t, .int .i64 m1.k, .string m1.n, slW s8.1, .int .i64 m1.m, .int .i64 m1.f, .int .i64 m1.d, slW s8.2.1, .int .i64 m1.h, slW s8.2.2.1, .int .i64 m1.e, .bool m1.r, slW s8.2.2.2, .int .i64 m1.c] 33)) = W9 at *
    generalize w8.heap.size = g9 at *
    refine (HIM.out s6 s8 _ _ W9 hoA9 hoB9).mono ?_
    rintro e wa ⟨rfl, hba⟩
    have hBa : Below w.heap.size w wa := hB9.trans (hba.mono hB9.size)
    have hua := hu9.below hba
    have hva := hv9.below hba
    have hoAa := hoA9.below hba
    have hoBa := hoB9.below hba
    have hPa := hP9.below hba hP9.lt
    have hRa := hR9.below hba hR9.lt
    have hXa := hX9.below hba hX9.lt
    have hYa := hY9.below hba hY9.lt
    clear hba hu9 hv9 hoA9 hoB9 hP9 hR9 hX9 hY9 hB9 c0 c1 c2 c3 c4 c5 c6 c7 c8 c9 c10 c11 c12 c13 d0 d1 d2 d3 d4 d5 d6 d7 d8 d9 d10 d11 d12 d13 HIM
    go_wp2_with fail
    refine wp_region_held_drew (S := fun w' => Qm w' g7 (cmQ m0 s6) ∧ Qm w' w.heap.size (cmQ m0 q0)) (by kernel_rfl) ?hS2 (fun hHeld => ?_)
    case hS2 => exact ⟨hXa, hPa⟩
    refine wpAnyH_take (i := 0) (v := ?_) rfl (by kernel_rfl) (by kernel_rfl) (by kernel_rfl) (fun _ _ _ h => h) (Or.inl ⟨by rfl, ?hy4⟩) (by assumption) ?ty4
    case hy4 => (intro w' hSw; obtain ⟨⟨e0, e1, e2, e3, e4, e5, e6, e7, e8, e9, e10, e11, e12, e13⟩, -⟩ := hSw; dsimp only at e0 e1 e2 e3 e4 e5 e6 e7 e8 e9 e10 e11 e12 e13; go_simp; all_goals with_reducible rfl)
    simp only [Act.put, List.getElem_toArray, List.getElem_cons_zero, List.setIfInBounds_toArray, List.set_cons_zero, List.set_cons_succ]
    refine wpAnyH_take (i := 1) (v := ?_) rfl (by kernel_rfl) (by kernel_rfl) (by kernel_rfl) (fun _ _ _ h => h) (Or.inl ⟨by rfl, ?hy5⟩) (by assumption) ?ty5
    case hy5 => (intro w' hSw; obtain ⟨-, ⟨e0, e1, e2, e3, e4, e5, e6, e7, e8, e9, e10, e11, e12, e13⟩⟩ := hSw; dsimp only at e0 e1 e2 e3 e4 e5 e6 e7 e8 e9 e10 e11 e12 e13; go_simp; all_goals with_reducible rfl)
    simp only [Act.put, List.getElem_toArray, List.getElem_cons_zero, List.getElem_cons_succ, List.setIfInBounds_toArray, List.set_cons_zero, List.set_cons_succ]
    refine wpAnyH_ready (rs := [2]) (by kernel_rfl) (by simp) ?_
    refine AllReadyH.cons rfl (fun K hK => ?_) AllReadyH.nil
    go_simp
    refine (toCmd_ft m0 q0 _ (hua.below (Below.refl _ _).drew) hn).mono ?_
    rintro e wb ⟨sb, rfl, hob, hbb⟩
    have hbab : Below wa.heap.size wa wb := (Below.refl _ _).drew.trans hbb
    have hBb : Below w.heap.size w wb := hBa.trans (hbab.mono hBa.size)
    have hvb := hva.below hbab
    have hoAb := hoAa.below hbab
    have hoBb := hoBa.below hbab
    have hPb := hPa.below hbab hPa.lt
    have hRb := hRa.below hbab hRa.lt
    have hXb := hXa.below hbab hXa.lt
    have hYb := hYa.below hbab hYa.lt
    refine hK.out _ _ ⟨hXb, hPb⟩ (fun hHeld => ?_)
    clear hK K hbab hbb hBa hua hva hoAa hoBa hPa hRa hXa hYa
    refine wpAnyH_ready (rs := [3]) (by kernel_rfl) (by simp) ?_
    refine AllReadyH.cons rfl (fun K hK => ?_) AllReadyH.nil
    go_simp
    refine (eqCmd_ft m0 s6 sb _ hoAb hob hn).mono ?_
    rintro e wc ⟨rfl, hbc⟩
    have hBc : Below w.heap.size w wc := hBb.trans (hbc.mono hBb.size)
    have hvc := hvb.below hbc
    have hoBc := hoBb.below hbc
    have hRc := hRb.below hbc hRb.lt
    have hYc := hYb.below hbc hYb.lt
    refine hK.out _ _ ⟨hXb.below hbc hXb.lt, hPb.below hbc hPb.lt⟩ (fun hHeld => ?_)
    clear hK K hbc hBb hvb hoAb hoBb hPb hRb hXb hYb hob
    refine wpAnyH_take (i := 4) (v := ?_) rfl (by kernel_rfl) (by kernel_rfl) (by kernel_rfl) (fun _ _ _ h => h) (Or.inl ⟨by rfl, ?hy6⟩) (by assumption) ?ty6
    case hy6 => (intro w' hSw; obtain ⟨-, -⟩ := hSw; go_simp; all_goals with_reducible rfl)
    simp only [Act.put, List.getElem_toArray, List.getElem_cons_zero, List.getElem_cons_succ, List.setIfInBounds_toArray, List.set_cons_zero, List.set_cons_succ]
    refine wpAnyH_done (by kernel_rfl) ?_ _
    clear hHeld
    go_wp2_with fail
    refine wp_region_held_drew (S := fun w' => Qm w' g9 (cmQ m1 s8) ∧ Qm w' (w.heap.size + 1) (cmQ m1 q1)) (by kernel_rfl) ?hS3 (fun hHeld => ?_)
    case hS3 => exact ⟨hYc, hRc⟩
    refine wpAnyH_take (i := 0) (v := ?_) rfl (by kernel_rfl) (by kernel_rfl) (by kernel_rfl) (fun _ _ _ h => h) (Or.inl ⟨by rfl, ?hy7⟩) (by assumption) ?ty7
    case hy7 => (intro w' hSw; obtain ⟨⟨e0, e1, e2, e3, e4, e5, e6, e7, e8, e9, e10, e11, e12, e13⟩, -⟩ := hSw; dsimp only at e0 e1 e2 e3 e4 e5 e6 e7 e8 e9 e10 e11 e12 e13; go_simp; all_goals with_reducible rfl)
    simp only [Act.put, List.getElem_toArray, List.getElem_cons_zero, List.setIfInBounds_toArray, List.set_cons_zero, List.set_cons_succ]
    refine wpAnyH_take (i := 1) (v := ?_) rfl (by kernel_rfl) (by kernel_rfl) (by kernel_rfl) (fun _ _ _ h => h) (Or.inl ⟨by rfl, ?hy8⟩) (by assumption) ?ty8
    case hy8 => (intro w' hSw; obtain ⟨-, ⟨e0, e1, e2, e3, e4, e5, e6, e7, e8, e9, e10, e11, e12, e13⟩⟩ := hSw; dsimp only at e0 e1 e2 e3 e4 e5 e6 e7 e8 e9 e10 e11 e12 e13; go_simp; all_goals with_reducible rfl)
    simp only [Act.put, List.getElem_toArray, List.getElem_cons_zero, List.getElem_cons_succ, List.setIfInBounds_toArray, List.set_cons_zero, List.set_cons_succ]
    refine wpAnyH_ready (rs := [2]) (by kernel_rfl) (by simp) ?_
    refine AllReadyH.cons rfl (fun K hK => ?_) AllReadyH.nil
    go_simp
    refine (toCmd_ft m1 q1 _ (hvc.below (Below.refl _ _).drew) hn1).mono ?_
    rintro e wd ⟨sd, rfl, hod, hbd⟩
    have hbcd : Below wc.heap.size wc wd := (Below.refl _ _).drew.trans hbd
    have hBd : Below w.heap.size w wd := hBc.trans (hbcd.mono hBc.size)
    have hoBd := hoBc.below hbcd
    have hRd := hRc.below hbcd hRc.lt
    have hYd := hYc.below hbcd hYc.lt
    refine hK.out _ _ ⟨hYd, hRd⟩ (fun hHeld => ?_)
    clear hK K hbcd hbd hBc hvc hoBc hRc hYc
    refine wpAnyH_ready (rs := [3]) (by kernel_rfl) (by simp) ?_
    refine AllReadyH.cons rfl (fun K hK => ?_) AllReadyH.nil
    go_simp
    refine (eqCmd_ft m1 s8 sd _ hoBd hod hn1).mono ?_
    rintro e we ⟨rfl, hbe⟩
    have hBe : Below w.heap.size w we := hBd.trans (hbe.mono hBd.size)
    refine hK.out _ _ ⟨hYd.below hbe hYd.lt, hRd.below hbe hRd.lt⟩ (fun hHeld => ?_)
    clear hK K hbe hBd hoBd hRd hYd hod
    refine wpAnyH_take (i := 4) (v := ?_) rfl (by kernel_rfl) (by kernel_rfl) (by kernel_rfl) (fun _ _ _ h => h) (Or.inl ⟨by rfl, ?hy9⟩) (by assumption) ?ty9
    case hy9 => (intro w' hSw; obtain ⟨-, -⟩ := hSw; go_simp; all_goals with_reducible rfl)
    simp only [Act.put, List.getElem_toArray, List.getElem_cons_zero, List.getElem_cons_succ, List.setIfInBounds_toArray, List.set_cons_zero, List.set_cons_succ]
    refine wpAnyH_done (by kernel_rfl) ?_ _
    clear hHeld
    go_wp2
    go_ret
    exact ⟨rfl, hBe⟩

/-! ### THE ROW's STEP -/
set_option maxRecDepth 100000 in
theorem lifted (os : Os) (started : os.Started) (H : Type) (enc : TypeId × Value → H) :
    ReturnsInHanded {} Try.checked os 3 .any (Rows.fnExactSameCmdsSpec.pre6 enc Try.prog Try.f3 Rows.fnExactSameCmdsRow.domain false) (Rows.fnExactSameCmdsSpec.post enc Try.prog Try.f3 false true false false) := by
  refine returnsInHanded_of_change (C := Try.checked) own started (by kernel_rfl) Try.func3
    (ChangeSpec.witness6 (enc := enc) (C := Try.checked) false ⟨#[], #[.agg #[.string ByteArray.empty, .int .i64 0, .string ByteArray.empty, .slice none 0 0, .int .i64 0, .int .i64 0, .int .i64 0, .slice none 0 0, .int .i64 0, .slice none 0 0, .int .i64 0, .bool false, .slice none 0 0, .int .i64 0], .agg #[.string ByteArray.empty, .int .i64 0, .string ByteArray.empty, .slice none 0 0, .int .i64 0, .int .i64 0, .int .i64 0, .slice none 0 0, .int .i64 0, .slice none 0 0, .int .i64 0, .bool false, .slice none 0 0, .int .i64 0]], []⟩ 8 (by kernel_rfl) (by kernel_rfl) (by kernel_rfl) (by kernel_rfl)) ?_
  intro W base args ds gs before hval0 hW hcnd _
  have hval : ∀ (j : Nat) t v, Try.f3.params[j]? = some t → args[j]? = some v → Value.okWide Try.prog W .any base t v := hval0
  have hW' := hW
  obtain ⟨p, q, hA0, hV, rfl, hfz, hnd⟩ := hW
  have hA : DataW.TrodAll enc Try.prog W 0 (fun _ => true) true Try.f3.params.toList args.toList ds p := hA0
  rw [Try.params3] at hA hval
  obtain ⟨v0, vs0, d0, ds0, p0, q0, hargs, rfl, rfl, h0, r0⟩ := trodAll_cons hA
  obtain ⟨v1, vs1, d1, ds1, p1, q1, rfl, rfl, rfl, h1, r1⟩ := trodAll_cons r0
  obtain ⟨rfl, rfl, rfl⟩ := trodAll_nil r1
  obtain rfl : args = #[v0, v1] := by cases args; simp_all
  obtain ⟨rfl, rfl⟩ := trodVars_none hV
  obtain ⟨cs0, rfl, -⟩ := okWide_struct Try.underlying27 (hval 0 27 v0 rfl rfl)
  have k0 := h0
  have lt0 : ∀ x ∈ p0, x.block < W.heap.size := by obtain ⟨m, hm⟩ := k0; exact DataW.trod_lt m _ _ _ hm
  obtain ⟨fuel0, hf0⟩ := h0
  obtain ⟨m0, q0, hc0, w0⟩ := open_cm cmT hf0
  obtain rfl : cs0 = #[.string m0.t, .int .i64 m0.k, .string m0.n, slW q0.1, .int .i64 m0.m, .int .i64 m0.f, .int .i64 m0.d, slW q0.2.1, .int .i64 m0.h, slW q0.2.2.1, .int .i64 m0.e, .bool m0.r, slW q0.2.2.2, .int .i64 m0.c] := Array.toList_inj.1 hc0
  obtain ⟨cs1, rfl, -⟩ := okWide_struct Try.underlying27 (hval 1 27 v1 rfl rfl)
  have k1 := h1
  have lt1 : ∀ x ∈ p1, x.block < W.heap.size := by obtain ⟨m, hm⟩ := k1; exact DataW.trod_lt m _ _ _ hm
  obtain ⟨fuel1, hf1⟩ := h1
  obtain ⟨m1, q1, hc1, w1⟩ := open_cm cmT hf1
  obtain rfl : cs1 = #[.string m1.t, .int .i64 m1.k, .string m1.n, slW q1.1, .int .i64 m1.m, .int .i64 m1.f, .int .i64 m1.d, slW q1.2.1, .int .i64 m1.h, slW q1.2.2.1, .int .i64 m1.e, .bool m1.r, slW q1.2.2.2, .int .i64 m1.c] := Array.toList_inj.1 hc1
  clear hA0 hval0
  refine (walk m0 q0 m1 q1 W w0 w1).mono fun e W' ⟨he, bel⟩ => ?_
  subst he
  exact ⟨_, rfl, _, _, _, [], _, [], hW', trodAll_mk1 (shut_bool Try.underlying4 _), (trodAll_cons_mk (Below.trod laidOut (by kernel_rfl) (of_decide_eq_true (by kernel_rfl)) k0 bel lt0) (trodAll_cons_mk (Below.trod laidOut (by kernel_rfl) (of_decide_eq_true (by kernel_rfl)) k1 bel lt1) trodAll_mk0)), rfl, bel.frame _, fun h => by cases h⟩

theorem over : Rows.fnExactSameCmdsRow.holds Try.pinned (OpenSpec.ofChange Rows.fnExactSameCmdsSpec) :=
  OpenClaim.holds_of_wide 3 Try.f3 rfl rfl rfl rfl rfl rfl rfl ⟨rfl, rfl, rfl, rfl, rfl⟩ rfl rfl rfl rfl rfl (by kernel_rfl) Try.func3 (by kernel_rfl)
    (of_decide_eq_true (by kernel_rfl)) (by unfold Func.isWrapper; first | (rw [if_pos (by decide +kernel)]; kernel_rfl) | (rw [if_neg (by decide +kernel)]; exact ⟨rfl, rfl⟩))
    (fun os started H enc _ => lifted os started H enc)
end Go.Proofs.Ytaiificlempeaaa.fnExactSameCmds

namespace Go.Proofs.Ytaiificlempeaaa
theorem fnExactSameCmds_holds : Rows.FnExactSameCmdsSaid := fnExactSameCmds.over
end Go.Proofs.Ytaiificlempeaaa
