/- What stands behind the word of a command, the model's, kind by kind; no conditions beyond those that each fact names. -/
import Derived.Test.YtjogclofjollnaaGreatDoorEncB3ToTxm
import Derived.Test.YtjogclofjollnaaGreatDoorTxnToCfs
import Derived.Test.YtjogclofjollnaaGreatDoorTkwToIto
namespace Go.Proofs.YtjogclofjollnaaGreatDoor
open Go.RowKit
set_option linter.unusedVariables false
set_option maxHeartbeats 1600000 in
set_option maxRecDepth 100000 in
theorem ctl_2 (R : Nat) (w : World) (x1 : List Nat) (hx1 : x1.length ≤ 10000000) (HS : Hid (∀ W, Below w.heap.size w W → W.cell? ⟨R, 1, none⟩ = some (.int .i64 2) ∧ W.cell? ⟨R, 2, none⟩ = some (.string (str x1)))) :
  Calls Tryz.prog 37 #[.pointer (some ⟨R, 0, none⟩)] w fun e w' => e = .returned (.string (str (tlJ 32 [x1]))) ∧ Below w.heap.size w w' := by
 obtain ⟨c1, c2⟩ := HS.out w (Below.refl _ _)
 have sx1 : (str x1).size = x1.length := str_size _
 obtain ⟨y1, h1⟩ : ∃ y, (⟨#[32]⟩ : ByteArray) ++ str x1 = y := ⟨_, rfl⟩
 have e1 : y1 = str ([32] ++ x1) := by rw [← h1]; exact str_plusY ([32]) x1
 have s1 : y1.size ≤ 20000020 := by rw [e1, str_size]; simp only [List.length_append, List.length_cons, List.length_nil]; omega
 have z1 : ¬ 9223372036854775807 < 1 + (str x1).size := by omega
 have HY : Hid (y1 = str (tlJ 32 [x1])) := by show _ = _; rw [e1]; congr 1; simp [tlJ]
 clear e1 s1 sx1
 go_enter Tryz.func37, Tryz.ntmps37
 go_wp2
 go_ret
 exact ⟨by rw [← HY.out]; rfl, Below.refl _ _⟩
set_option maxHeartbeats 1600000 in
set_option maxRecDepth 100000 in
theorem ctl_3 (R : Nat) (w : World) (x1 : List Nat) (hx1 : x1.length ≤ 10000000) (HS : Hid (∀ W, Below w.heap.size w W → W.cell? ⟨R, 1, none⟩ = some (.int .i64 3) ∧ W.cell? ⟨R, 2, none⟩ = some (.string (str x1)))) :
  Calls Tryz.prog 37 #[.pointer (some ⟨R, 0, none⟩)] w fun e w' => e = .returned (.string (str (tlJ 32 [x1]))) ∧ Below w.heap.size w w' := by
 obtain ⟨c1, c2⟩ := HS.out w (Below.refl _ _)
 have sx1 : (str x1).size = x1.length := str_size _
 obtain ⟨y1, h1⟩ : ∃ y, (⟨#[32]⟩ : ByteArray) ++ str x1 = y := ⟨_, rfl⟩
 have e1 : y1 = str ([32] ++ x1) := by rw [← h1]; exact str_plusY ([32]) x1
 have s1 : y1.size ≤ 20000020 := by rw [e1, str_size]; simp only [List.length_append, List.length_cons, List.length_nil]; omega
 have z1 : ¬ 9223372036854775807 < 1 + (str x1).size := by omega
 have HY : Hid (y1 = str (tlJ 32 [x1])) := by show _ = _; rw [e1]; congr 1; simp [tlJ]
 clear e1 s1 sx1
 go_enter Tryz.func37, Tryz.ntmps37
 go_wp2
 go_ret
 exact ⟨by rw [← HY.out]; rfl, Below.refl _ _⟩
set_option maxHeartbeats 1600000 in
set_option maxRecDepth 100000 in
theorem ctl_4 (R : Nat) (w : World) (x1 : List Nat) (hx1 : x1.length ≤ 10000000) (HS : Hid (∀ W, Below w.heap.size w W → W.cell? ⟨R, 1, none⟩ = some (.int .i64 4) ∧ W.cell? ⟨R, 2, none⟩ = some (.string (str x1)))) :
  Calls Tryz.prog 37 #[.pointer (some ⟨R, 0, none⟩)] w fun e w' => e = .returned (.string (str (tlJ 32 [x1]))) ∧ Below w.heap.size w w' := by
 obtain ⟨c1, c2⟩ := HS.out w (Below.refl _ _)
 have sx1 : (str x1).size = x1.length := str_size _
 obtain ⟨y1, h1⟩ : ∃ y, (⟨#[32]⟩ : ByteArray) ++ str x1 = y := ⟨_, rfl⟩
 have e1 : y1 = str ([32] ++ x1) := by rw [← h1]; exact str_plusY ([32]) x1
 have s1 : y1.size ≤ 20000020 := by rw [e1, str_size]; simp only [List.length_append, List.length_cons, List.length_nil]; omega
 have z1 : ¬ 9223372036854775807 < 1 + (str x1).size := by omega
 have HY : Hid (y1 = str (tlJ 32 [x1])) := by show _ = _; rw [e1]; congr 1; simp [tlJ]
 clear e1 s1 sx1
 go_enter Tryz.func37, Tryz.ntmps37
 go_wp2
 go_ret
 exact ⟨by rw [← HY.out]; rfl, Below.refl _ _⟩
set_option maxHeartbeats 1600000 in
set_option maxRecDepth 100000 in
theorem ctl_6 (R : Nat) (w : World) (x1 x2 x3 x4 : List Nat) (hx1 : x1.length ≤ 10000000) (hx2 : x2.length ≤ 10000000) (hx3 : x3.length ≤ 10000000) (hx4 : x4.length ≤ 10000000) (f d : Int) (a : Option Addr) (n cap : Nat) (HS : Hid (∀ W, Below w.heap.size w W → W.cell? ⟨R, 1, none⟩ = some (.int .i64 6) ∧ W.cell? ⟨R, 2, none⟩ = some (.string (str x1)) ∧ W.cell? ⟨R, 5, none⟩ = some (.int .i64 f) ∧ W.cell? ⟨R, 6, none⟩ = some (.int .i64 d) ∧ W.cell? ⟨R, 7, none⟩ = some (.slice a n cap))) (H2 : Hid (∀ W, Below w.heap.size w W → Calls Tryz.prog 55 #[.int .i64 f] W fun e w' => e = .returned (.string (str x2)) ∧ Below W.heap.size W w')) (H3 : Hid (∀ W, Below w.heap.size w W → Calls Tryz.prog 55 #[.int .i64 d] W fun e w' => e = .returned (.string (str x3)) ∧ Below W.heap.size W w')) (H4 : Hid (∀ W, Below w.heap.size w W → Calls Tryz.prog 56 #[.slice a n cap] W fun e w' => e = .returned (.string (str x4)) ∧ Below W.heap.size W w')) :
  Calls Tryz.prog 37 #[.pointer (some ⟨R, 0, none⟩)] w fun e w' => e = .returned (.string (str (tlJ 32 [x1, x2, x3, x4]))) ∧ Below w.heap.size w w' := by
 obtain ⟨c1, c2, c5, c6, c7⟩ := HS.out w (Below.refl _ _)
 have sx1 : (str x1).size = x1.length := str_size _
 have sx2 : (str x2).size = x2.length := str_size _
 have sx3 : (str x3).size = x3.length := str_size _
 have sx4 : (str x4).size = x4.length := str_size _
 obtain ⟨y1, h1⟩ : ∃ y, (⟨#[32]⟩ : ByteArray) ++ str x1 = y := ⟨_, rfl⟩
 have e1 : y1 = str ([32] ++ x1) := by rw [← h1]; exact str_plusY ([32]) x1
 have s1 : y1.size ≤ 20000020 := by rw [e1, str_size]; simp only [List.length_append, List.length_cons, List.length_nil]; omega
 have z1 : ¬ 9223372036854775807 < 1 + (str x1).size := by omega
 obtain ⟨y2, h2⟩ : ∃ y, y1 ++ (⟨#[32]⟩ : ByteArray) = y := ⟨_, rfl⟩
 have e2 : y2 = str ([32] ++ x1 ++ [32]) := by rw [← h2, e1]; exact str_plusY ([32] ++ x1) [32]
 have s2 : y2.size ≤ 30000030 := by rw [e2, str_size]; simp only [List.length_append, List.length_cons, List.length_nil]; omega
 have z2 : ¬ 9223372036854775807 < y1.size + 1 := by omega
 obtain ⟨y3, h3⟩ : ∃ y, y2 ++ str x2 = y := ⟨_, rfl⟩
 have e3 : y3 = str ([32] ++ x1 ++ [32] ++ x2) := by rw [← h3, e2]; exact str_plusY ([32] ++ x1 ++ [32]) x2
 have s3 : y3.size ≤ 40000040 := by rw [e3, str_size]; simp only [List.length_append, List.length_cons, List.length_nil]; omega
 have z3 : ¬ 9223372036854775807 < y2.size + (str x2).size := by omega
 obtain ⟨y4, h4⟩ : ∃ y, y3 ++ (⟨#[32]⟩ : ByteArray) = y := ⟨_, rfl⟩
 have e4 : y4 = str ([32] ++ x1 ++ [32] ++ x2 ++ [32]) := by rw [← h4, e3]; exact str_plusY ([32] ++ x1 ++ [32] ++ x2) [32]
 have s4 : y4.size ≤ 50000050 := by rw [e4, str_size]; simp only [List.length_append, List.length_cons, List.length_nil]; omega
 have z4 : ¬ 9223372036854775807 < y3.size + 1 := by omega
 obtain ⟨y5, h5⟩ : ∃ y, y4 ++ str x3 = y := ⟨_, rfl⟩
 have e5 : y5 = str ([32] ++ x1 ++ [32] ++ x2 ++ [32] ++ x3) := by rw [← h5, e4]; exact str_plusY ([32] ++ x1 ++ [32] ++ x2 ++ [32]) x3
 have s5 : y5.size ≤ 60000060 := by rw [e5, str_size]; simp only [List.length_append, List.length_cons, List.length_nil]; omega
 have z5 : ¬ 9223372036854775807 < y4.size + (str x3).size := by omega
 obtain ⟨y6, h6⟩ : ∃ y, y5 ++ (⟨#[32]⟩ : ByteArray) = y := ⟨_, rfl⟩
 have e6 : y6 = str ([32] ++ x1 ++ [32] ++ x2 ++ [32] ++ x3 ++ [32]) := by rw [← h6, e5]; exact str_plusY ([32] ++ x1 ++ [32] ++ x2 ++ [32] ++ x3) [32]
 have s6 : y6.size ≤ 70000070 := by rw [e6, str_size]; simp only [List.length_append, List.length_cons, List.length_nil]; omega
 have z6 : ¬ 9223372036854775807 < y5.size + 1 := by omega
 obtain ⟨y7, h7⟩ : ∃ y, y6 ++ str x4 = y := ⟨_, rfl⟩
 have e7 : y7 = str ([32] ++ x1 ++ [32] ++ x2 ++ [32] ++ x3 ++ [32] ++ x4) := by rw [← h7, e6]; exact str_plusY ([32] ++ x1 ++ [32] ++ x2 ++ [32] ++ x3 ++ [32]) x4
 have s7 : y7.size ≤ 80000080 := by rw [e7, str_size]; simp only [List.length_append, List.length_cons, List.length_nil]; omega
 have z7 : ¬ 9223372036854775807 < y6.size + (str x4).size := by omega
 have HY : Hid (y7 = str (tlJ 32 [x1, x2, x3, x4])) := by show _ = _; rw [e7]; congr 1; simp [tlJ]
 clear e1 e2 e3 e4 e5 e6 e7 s1 s2 s3 s4 s5 s6 s7 sx1 sx2 sx3 sx4
 go_enter Tryz.func37, Tryz.ntmps37
 go_wp2_with fail
 refine wp_region_held_drew (S := fun W => W.cell? ⟨R, 1, none⟩ = some (.int .i64 6) ∧ W.cell? ⟨R, 2, none⟩ = some (.string (str x1)) ∧ W.cell? ⟨R, 5, none⟩ = some (.int .i64 f) ∧ W.cell? ⟨R, 6, none⟩ = some (.int .i64 d) ∧ W.cell? ⟨R, 7, none⟩ = some (.slice a n cap)) (by kernel_rfl) ?hS1 (fun hHeld => ?_)
 case hS1 => exact HS.out _ (Below.refl _ _).drew
 have hb0 : Below w.heap.size w w.drew := (Below.refl _ _).drew
 generalize w.drew = w0 at *
 refine tk (i := 0) (v := ?_) rfl (Or.inl ⟨by rfl, ?hy2⟩) ?ty2
 case hy2 => (intro w5 hSw; obtain ⟨c1, c2, c5, c6, c7⟩ := hSw; go_simp; all_goals with_reducible rfl)
 simp only [Act.put, J1, J2, J4, J5, J6]
 refine tk (i := 1) (v := ?_) rfl (Or.inl ⟨by rfl, ?hy3⟩) ?ty3
 case hy3 => (intro w5 hSw; obtain ⟨c1, c2, c5, c6, c7⟩ := hSw; go_simp; all_goals with_reducible rfl)
 simp only [Act.put, J1, J2, J3, J4, J5, J6]
 refine tk (i := 2) (v := ?_) rfl (Or.inl ⟨by rfl, ?hy4⟩) ?ty4
 case hy4 => (intro w5 hSw; obtain ⟨c1, c2, c5, c6, c7⟩ := hSw; go_simp; all_goals with_reducible rfl)
 simp only [Act.put, J1, J2, J3, J4, J5, J6]
 refine tk (i := 3) (v := ?_) rfl (Or.inl ⟨by rfl, ?hy5⟩) ?ty5
 case hy5 => (intro w5 hSw; obtain ⟨c1, c2, c5, c6, c7⟩ := hSw; go_simp; all_goals with_reducible rfl)
 simp only [Act.put, J1, J2, J3, J4, J5, J6]
 refine tk (i := 4) (v := ?_) rfl (Or.inl ⟨by rfl, ?hy6⟩) ?ty6
 case hy6 => (intro w5 hSw; obtain ⟨c1, c2, c5, c6, c7⟩ := hSw; go_simp; all_goals with_reducible rfl)
 simp only [Act.put, J1, J2, J3, J4, J5, J6]
 refine tk (i := 5) (v := ?_) rfl (Or.inl ⟨by rfl, ?hy7⟩) ?ty7
 case hy7 => (intro w5 hSw; obtain ⟨c1, c2, c5, c6, c7⟩ := hSw; go_simp; all_goals with_reducible rfl)
 simp only [Act.put, J1, J2, J3, J4, J5, J6]
 refine tk (i := 6) (v := ?_) rfl (Or.inl ⟨by rfl, ?hy8⟩) ?ty8
 case hy8 => (intro w5 hSw; obtain ⟨c1, c2, c5, c6, c7⟩ := hSw; go_simp; all_goals with_reducible rfl)
 simp only [Act.put, J1, J2, J3, J4, J5, J6]
 refine tk (i := 7) (v := ?_) rfl (Or.inl ⟨by rfl, ?hy9⟩) ?ty9
 case hy9 => (intro w5 hSw; obtain ⟨c1, c2, c5, c6, c7⟩ := hSw; go_simp; all_goals with_reducible rfl)
 simp only [Act.put, J1, J2, J3, J4, J5, J6]
 refine tk (i := 8) (v := ?_) rfl (Or.inl ⟨by rfl, ?hy10⟩) ?ty10
 case hy10 => (intro w5 hSw; obtain ⟨c1, c2, c5, c6, c7⟩ := hSw; go_simp; all_goals with_reducible rfl)
 simp only [Act.put, J1, J2, J3, J4, J5, J6]
 refine tk (i := 9) (v := ?_) rfl (Or.inl ⟨by rfl, ?hy11⟩) ?ty11
 case hy11 => (intro w5 hSw; obtain ⟨c1, c2, c5, c6, c7⟩ := hSw; go_simp; all_goals with_reducible rfl)
 simp only [Act.put, J1, J2, J3, J4, J5, J6]
 refine tk (i := 13) (v := ?_) rfl (Or.inl ⟨by rfl, ?hy12⟩) ?ty12
 case hy12 => (intro w5 hSw; obtain ⟨c1, c2, c5, c6, c7⟩ := hSw; go_simp; all_goals with_reducible rfl)
 simp only [Act.put, J1, J2, J3, J4, J5, J6]
 refine tk (i := 14) (v := ?_) rfl (Or.inl ⟨by rfl, ?hy13⟩) ?ty13
 case hy13 => (intro w5 hSw; obtain ⟨c1, c2, c5, c6, c7⟩ := hSw; go_simp; all_goals with_reducible rfl)
 simp only [Act.put, J1, J2, J3, J4, J5, J6]
 refine tk (i := 15) (v := ?_) rfl (Or.inl ⟨by rfl, ?hy14⟩) ?ty14
 case hy14 => (intro w5 hSw; obtain ⟨c1, c2, c5, c6, c7⟩ := hSw; go_simp; all_goals with_reducible rfl)
 simp only [Act.put, J1, J2, J3, J4, J5, J6]
 refine tk (i := 16) (v := ?_) rfl (Or.inl ⟨by rfl, ?hy15⟩) ?ty15
 case hy15 => (intro w5 hSw; obtain ⟨c1, c2, c5, c6, c7⟩ := hSw; go_simp; all_goals with_reducible rfl)
 simp only [Act.put, J1, J2, J3, J4, J5, J6]
 refine tk (i := 20) (v := ?_) rfl (Or.inl ⟨by rfl, ?hy16⟩) ?ty16
 case hy16 => (intro w5 hSw; obtain ⟨c1, c2, c5, c6, c7⟩ := hSw; go_simp; all_goals with_reducible rfl)
 simp only [Act.put, J1, J2, J3, J4, J5, J6]
 refine tk (i := 21) (v := ?_) rfl (Or.inl ⟨by rfl, ?hy17⟩) ?ty17
 case hy17 => (intro w5 hSw; obtain ⟨c1, c2, c5, c6, c7⟩ := hSw; go_simp; all_goals with_reducible rfl)
 simp only [Act.put, J1, J2, J3, J4, J5, J6]
 refine tk (i := 22) (v := ?_) rfl (Or.inl ⟨by rfl, ?hy18⟩) ?ty18
 case hy18 => (intro w5 hSw; obtain ⟨c1, c2, c5, c6, c7⟩ := hSw; go_simp; all_goals with_reducible rfl)
 simp only [Act.put, J1, J2, J3, J4, J5, J6]
 refine tk (i := 23) (v := ?_) rfl (Or.inl ⟨by rfl, ?hy19⟩) ?ty19
 case hy19 => (intro w5 hSw; obtain ⟨c1, c2, c5, c6, c7⟩ := hSw; go_simp; all_goals with_reducible rfl)
 simp only [Act.put, J1, J2, J3, J4, J5, J6]
 refine wpAnyH_ready (rs := [10]) (by kernel_rfl) (by simp) ?_
 refine AllReadyH.cons rfl (fun K hK => ?_) AllReadyH.nil
 go_simp
 refine (H2.out w0 hb0).mono ?_
 rintro e w1 ⟨rfl, hc1⟩
 have hb1 := hb0.trans (hc1.mono hb0.size)
 refine hK.out _ _ (HS.out _ hb1) (fun hHeld => ?_)
 clear hK K
 refine tk (i := 11) (v := ?_) rfl (Or.inl ⟨by rfl, ?hy20⟩) ?ty20
 case hy20 => (intro w5 hSw; obtain ⟨c1, c2, c5, c6, c7⟩ := hSw; go_simp; all_goals with_reducible rfl)
 simp only [Act.put, J1, J2, J3, J4, J5, J6]
 refine tk (i := 12) (v := ?_) rfl (Or.inl ⟨by rfl, ?hy21⟩) ?ty21
 case hy21 => (intro w5 hSw; obtain ⟨c1, c2, c5, c6, c7⟩ := hSw; go_simp; all_goals with_reducible rfl)
 simp only [Act.put, J1, J2, J3, J4, J5, J6]
 refine wpAnyH_ready (rs := [17]) (by kernel_rfl) (by simp) ?_
 refine AllReadyH.cons rfl (fun K hK => ?_) AllReadyH.nil
 go_simp
 refine (H3.out w1 hb1).mono ?_
 rintro e w2 ⟨rfl, hc2⟩
 have hb2 := hb1.trans (hc2.mono hb1.size)
 refine hK.out _ _ (HS.out _ hb2) (fun hHeld => ?_)
 clear hK K
 refine tk (i := 18) (v := ?_) rfl (Or.inl ⟨by rfl, ?hy22⟩) ?ty22
 case hy22 => (intro w5 hSw; obtain ⟨c1, c2, c5, c6, c7⟩ := hSw; go_simp; all_goals with_reducible rfl)
 simp only [Act.put, J1, J2, J3, J4, J5, J6]
 refine tk (i := 19) (v := ?_) rfl (Or.inl ⟨by rfl, ?hy23⟩) ?ty23
 case hy23 => (intro w5 hSw; obtain ⟨c1, c2, c5, c6, c7⟩ := hSw; go_simp; all_goals with_reducible rfl)
 simp only [Act.put, J1, J2, J3, J4, J5, J6]
 refine wpAnyH_ready (rs := [24]) (by kernel_rfl) (by simp) ?_
 refine AllReadyH.cons rfl (fun K hK => ?_) AllReadyH.nil
 go_simp
 refine (H4.out w2 hb2).mono ?_
 rintro e w3 ⟨rfl, hc3⟩
 have hb3 := hb2.trans (hc3.mono hb2.size)
 refine hK.out _ _ (HS.out _ hb3) (fun hHeld => ?_)
 clear hK K
 refine tk (i := 25) (v := ?_) rfl (Or.inl ⟨by rfl, ?hy24⟩) ?ty24
 case hy24 => (intro w5 hSw; obtain ⟨c1, c2, c5, c6, c7⟩ := hSw; go_simp; all_goals with_reducible rfl)
 simp only [Act.put, J1, J2, J3, J4, J5, J6]
 refine tk (i := 26) (v := ?_) rfl (Or.inl ⟨by rfl, ?hy25⟩) ?ty25
 case hy25 => (intro w5 hSw; obtain ⟨c1, c2, c5, c6, c7⟩ := hSw; go_simp; all_goals with_reducible rfl)
 simp only [Act.put, J1, J2, J3, J4, J5, J6]
 refine wpAnyH_done (by kernel_rfl) ?_ _
 clear hHeld
 go_wp2
 go_ret
 exact ⟨by rw [← HY.out]; rfl, hb3⟩
set_option maxHeartbeats 1600000 in
set_option maxRecDepth 100000 in
theorem ctl_7 (R : Nat) (w : World) (x1 x2 x3 : List Nat) (hx1 : x1.length ≤ 10000000) (hx2 : x2.length ≤ 10000000) (hx3 : x3.length ≤ 10000000) (m f : Int) (a : Option Addr) (n cap : Nat) (HS : Hid (∀ W, Below w.heap.size w W → W.cell? ⟨R, 1, none⟩ = some (.int .i64 7) ∧ W.cell? ⟨R, 3, none⟩ = some (.slice a n cap) ∧ W.cell? ⟨R, 4, none⟩ = some (.int .i64 m) ∧ W.cell? ⟨R, 5, none⟩ = some (.int .i64 f))) (H1 : Hid (∀ W, Below w.heap.size w W → Calls Tryz.prog 57 #[.slice a n cap] W fun e w' => e = .returned (.string (str x1)) ∧ Below W.heap.size W w')) (H2 : Hid (∀ W, Below w.heap.size w W → Calls Tryz.prog 58 #[.int .i64 m] W fun e w' => e = .returned (.string (str x2)) ∧ Below W.heap.size W w')) (H3 : Hid (∀ W, Below w.heap.size w W → Calls Tryz.prog 55 #[.int .i64 f] W fun e w' => e = .returned (.string (str x3)) ∧ Below W.heap.size W w')) :
  Calls Tryz.prog 37 #[.pointer (some ⟨R, 0, none⟩)] w fun e w' => e = .returned (.string (str (tlJ 32 [x1, x2, x3]))) ∧ Below w.heap.size w w' := by
 obtain ⟨c1, c3, c4, c5⟩ := HS.out w (Below.refl _ _)
 have sx1 : (str x1).size = x1.length := str_size _
 have sx2 : (str x2).size = x2.length := str_size _
 have sx3 : (str x3).size = x3.length := str_size _
 obtain ⟨y1, h1⟩ : ∃ y, (⟨#[32]⟩ : ByteArray) ++ str x1 = y := ⟨_, rfl⟩
 have e1 : y1 = str ([32] ++ x1) := by rw [← h1]; exact str_plusY ([32]) x1
 have s1 : y1.size ≤ 20000020 := by rw [e1, str_size]; simp only [List.length_append, List.length_cons, List.length_nil]; omega
 have z1 : ¬ 9223372036854775807 < 1 + (str x1).size := by omega
 obtain ⟨y2, h2⟩ : ∃ y, y1 ++ (⟨#[32]⟩ : ByteArray) = y := ⟨_, rfl⟩
 have e2 : y2 = str ([32] ++ x1 ++ [32]) := by rw [← h2, e1]; exact str_plusY ([32] ++ x1) [32]
 have s2 : y2.size ≤ 30000030 := by rw [e2, str_size]; simp only [List.length_append, List.length_cons, List.length_nil]; omega
 have z2 : ¬ 9223372036854775807 < y1.size + 1 := by omega
 obtain ⟨y3, h3⟩ : ∃ y, y2 ++ str x2 = y := ⟨_, rfl⟩
 have e3 : y3 = str ([32] ++ x1 ++ [32] ++ x2) := by rw [← h3, e2]; exact str_plusY ([32] ++ x1 ++ [32]) x2
 have s3 : y3.size ≤ 40000040 := by rw [e3, str_size]; simp only [List.length_append, List.length_cons, List.length_nil]; omega
 have z3 : ¬ 9223372036854775807 < y2.size + (str x2).size := by omega
 obtain ⟨y4, h4⟩ : ∃ y, y3 ++ (⟨#[32]⟩ : ByteArray) = y := ⟨_, rfl⟩
 have e4 : y4 = str ([32] ++ x1 ++ [32] ++ x2 ++ [32]) := by rw [← h4, e3]; exact str_plusY ([32] ++ x1 ++ [32] ++ x2) [32]
 have s4 : y4.size ≤ 50000050 := by rw [e4, str_size]; simp only [List.length_append, List.length_cons, List.length_nil]; omega
 have z4 : ¬ 9223372036854775807 < y3.size + 1 := by omega
 obtain ⟨y5, h5⟩ : ∃ y, y4 ++ str x3 = y := ⟨_, rfl⟩
 have e5 : y5 = str ([32] ++ x1 ++ [32] ++ x2 ++ [32] ++ x3) := by rw [← h5, e4]; exact str_plusY ([32] ++ x1 ++ [32] ++ x2 ++ [32]) x3
 have s5 : y5.size ≤ 60000060 := by rw [e5, str_size]; simp only [List.length_append, List.length_cons, List.length_nil]; omega
 have z5 : ¬ 9223372036854775807 < y4.size + (str x3).size := by omega
 have HY : Hid (y5 = str (tlJ 32 [x1, x2, x3])) := by show _ = _; rw [e5]; congr 1; simp [tlJ]
 clear e1 e2 e3 e4 e5 s1 s2 s3 s4 s5 sx1 sx2 sx3
 go_enter Tryz.func37, Tryz.ntmps37
 go_wp2_with fail
 refine wp_region_held_drew (S := fun W => W.cell? ⟨R, 1, none⟩ = some (.int .i64 7) ∧ W.cell? ⟨R, 3, none⟩ = some (.slice a n cap) ∧ W.cell? ⟨R, 4, none⟩ = some (.int .i64 m) ∧ W.cell? ⟨R, 5, none⟩ = some (.int .i64 f)) (by kernel_rfl) ?hS26 (fun hHeld => ?_)
 case hS26 => exact HS.out _ (Below.refl _ _).drew
 have hb0 : Below w.heap.size w w.drew := (Below.refl _ _).drew
 generalize w.drew = w0 at *
 refine tk (i := 0) (v := ?_) rfl (Or.inl ⟨by rfl, ?hy27⟩) ?ty27
 case hy27 => (intro w5 hSw; obtain ⟨c1, c3, c4, c5⟩ := hSw; go_simp; all_goals with_reducible rfl)
 simp only [Act.put, J1, J2, J4, J5, J6]
 refine tk (i := 1) (v := ?_) rfl (Or.inl ⟨by rfl, ?hy28⟩) ?ty28
 case hy28 => (intro w5 hSw; obtain ⟨c1, c3, c4, c5⟩ := hSw; go_simp; all_goals with_reducible rfl)
 simp only [Act.put, J1, J2, J3, J4, J5, J6]
 refine tk (i := 2) (v := ?_) rfl (Or.inl ⟨by rfl, ?hy29⟩) ?ty29
 case hy29 => (intro w5 hSw; obtain ⟨c1, c3, c4, c5⟩ := hSw; go_simp; all_goals with_reducible rfl)
 simp only [Act.put, J1, J2, J3, J4, J5, J6]
 refine tk (i := 3) (v := ?_) rfl (Or.inl ⟨by rfl, ?hy30⟩) ?ty30
 case hy30 => (intro w5 hSw; obtain ⟨c1, c3, c4, c5⟩ := hSw; go_simp; all_goals with_reducible rfl)
 simp only [Act.put, J1, J2, J3, J4, J5, J6]
 refine tk (i := 7) (v := ?_) rfl (Or.inl ⟨by rfl, ?hy31⟩) ?ty31
 case hy31 => (intro w5 hSw; obtain ⟨c1, c3, c4, c5⟩ := hSw; go_simp; all_goals with_reducible rfl)
 simp only [Act.put, J1, J2, J3, J4, J5, J6]
 refine tk (i := 8) (v := ?_) rfl (Or.inl ⟨by rfl, ?hy32⟩) ?ty32
 case hy32 => (intro w5 hSw; obtain ⟨c1, c3, c4, c5⟩ := hSw; go_simp; all_goals with_reducible rfl)
 simp only [Act.put, J1, J2, J3, J4, J5, J6]
 refine tk (i := 9) (v := ?_) rfl (Or.inl ⟨by rfl, ?hy33⟩) ?ty33
 case hy33 => (intro w5 hSw; obtain ⟨c1, c3, c4, c5⟩ := hSw; go_simp; all_goals with_reducible rfl)
 simp only [Act.put, J1, J2, J3, J4, J5, J6]
 refine tk (i := 10) (v := ?_) rfl (Or.inl ⟨by rfl, ?hy34⟩) ?ty34
 case hy34 => (intro w5 hSw; obtain ⟨c1, c3, c4, c5⟩ := hSw; go_simp; all_goals with_reducible rfl)
 simp only [Act.put, J1, J2, J3, J4, J5, J6]
 refine tk (i := 14) (v := ?_) rfl (Or.inl ⟨by rfl, ?hy35⟩) ?ty35
 case hy35 => (intro w5 hSw; obtain ⟨c1, c3, c4, c5⟩ := hSw; go_simp; all_goals with_reducible rfl)
 simp only [Act.put, J1, J2, J3, J4, J5, J6]
 refine tk (i := 15) (v := ?_) rfl (Or.inl ⟨by rfl, ?hy36⟩) ?ty36
 case hy36 => (intro w5 hSw; obtain ⟨c1, c3, c4, c5⟩ := hSw; go_simp; all_goals with_reducible rfl)
 simp only [Act.put, J1, J2, J3, J4, J5, J6]
 refine tk (i := 16) (v := ?_) rfl (Or.inl ⟨by rfl, ?hy37⟩) ?ty37
 case hy37 => (intro w5 hSw; obtain ⟨c1, c3, c4, c5⟩ := hSw; go_simp; all_goals with_reducible rfl)
 simp only [Act.put, J1, J2, J3, J4, J5, J6]
 refine tk (i := 17) (v := ?_) rfl (Or.inl ⟨by rfl, ?hy38⟩) ?ty38
 case hy38 => (intro w5 hSw; obtain ⟨c1, c3, c4, c5⟩ := hSw; go_simp; all_goals with_reducible rfl)
 simp only [Act.put, J1, J2, J3, J4, J5, J6]
 refine wpAnyH_ready (rs := [4]) (by kernel_rfl) (by simp) ?_
 refine AllReadyH.cons rfl (fun K hK => ?_) AllReadyH.nil
 go_simp
 refine (H1.out w0 hb0).mono ?_
 rintro e w1 ⟨rfl, hc1⟩
 have hb1 := hb0.trans (hc1.mono hb0.size)
 refine hK.out _ _ (HS.out _ hb1) (fun hHeld => ?_)
 clear hK K
 refine tk (i := 5) (v := ?_) rfl (Or.inl ⟨by rfl, ?hy39⟩) ?ty39
 case hy39 => (intro w5 hSw; obtain ⟨c1, c3, c4, c5⟩ := hSw; go_simp; all_goals with_reducible rfl)
 simp only [Act.put, J1, J2, J3, J4, J5, J6]
 refine tk (i := 6) (v := ?_) rfl (Or.inl ⟨by rfl, ?hy40⟩) ?ty40
 case hy40 => (intro w5 hSw; obtain ⟨c1, c3, c4, c5⟩ := hSw; go_simp; all_goals with_reducible rfl)
 simp only [Act.put, J1, J2, J3, J4, J5, J6]
 refine wpAnyH_ready (rs := [11]) (by kernel_rfl) (by simp) ?_
 refine AllReadyH.cons rfl (fun K hK => ?_) AllReadyH.nil
 go_simp
 refine (H2.out w1 hb1).mono ?_
 rintro e w2 ⟨rfl, hc2⟩
 have hb2 := hb1.trans (hc2.mono hb1.size)
 refine hK.out _ _ (HS.out _ hb2) (fun hHeld => ?_)
 clear hK K
 refine tk (i := 12) (v := ?_) rfl (Or.inl ⟨by rfl, ?hy41⟩) ?ty41
 case hy41 => (intro w5 hSw; obtain ⟨c1, c3, c4, c5⟩ := hSw; go_simp; all_goals with_reducible rfl)
 simp only [Act.put, J1, J2, J3, J4, J5, J6]
 refine tk (i := 13) (v := ?_) rfl (Or.inl ⟨by rfl, ?hy42⟩) ?ty42
 case hy42 => (intro w5 hSw; obtain ⟨c1, c3, c4, c5⟩ := hSw; go_simp; all_goals with_reducible rfl)
 simp only [Act.put, J1, J2, J3, J4, J5, J6]
 refine wpAnyH_ready (rs := [18]) (by kernel_rfl) (by simp) ?_
 refine AllReadyH.cons rfl (fun K hK => ?_) AllReadyH.nil
 go_simp
 refine (H3.out w2 hb2).mono ?_
 rintro e w3 ⟨rfl, hc3⟩
 have hb3 := hb2.trans (hc3.mono hb2.size)
 refine hK.out _ _ (HS.out _ hb3) (fun hHeld => ?_)
 clear hK K
 refine tk (i := 19) (v := ?_) rfl (Or.inl ⟨by rfl, ?hy43⟩) ?ty43
 case hy43 => (intro w5 hSw; obtain ⟨c1, c3, c4, c5⟩ := hSw; go_simp; all_goals with_reducible rfl)
 simp only [Act.put, J1, J2, J3, J4, J5, J6]
 refine tk (i := 20) (v := ?_) rfl (Or.inl ⟨by rfl, ?hy44⟩) ?ty44
 case hy44 => (intro w5 hSw; obtain ⟨c1, c3, c4, c5⟩ := hSw; go_simp; all_goals with_reducible rfl)
 simp only [Act.put, J1, J2, J3, J4, J5, J6]
 refine wpAnyH_done (by kernel_rfl) ?_ _
 clear hHeld
 go_wp2
 go_ret
 exact ⟨by rw [← HY.out]; rfl, hb3⟩
set_option maxHeartbeats 1600000 in
set_option maxRecDepth 100000 in
theorem ctl_8 (R : Nat) (w : World) (x1 x2 : List Nat) (hx1 : x1.length ≤ 10000000) (hx2 : x2.length ≤ 10000000) (a : Option Addr) (n cap : Nat) (HS : Hid (∀ W, Below w.heap.size w W → W.cell? ⟨R, 1, none⟩ = some (.int .i64 8) ∧ W.cell? ⟨R, 2, none⟩ = some (.string (str x2)) ∧ W.cell? ⟨R, 3, none⟩ = some (.slice a n cap))) (H1 : Hid (∀ W, Below w.heap.size w W → Calls Tryz.prog 57 #[.slice a n cap] W fun e w' => e = .returned (.string (str x1)) ∧ Below W.heap.size W w')) :
  Calls Tryz.prog 37 #[.pointer (some ⟨R, 0, none⟩)] w fun e w' => e = .returned (.string (str (tlJ 32 [x1, x2]))) ∧ Below w.heap.size w w' := by
 obtain ⟨c1, c2, c3⟩ := HS.out w (Below.refl _ _)
 have sx1 : (str x1).size = x1.length := str_size _
 have sx2 : (str x2).size = x2.length := str_size _
 obtain ⟨y1, h1⟩ : ∃ y, (⟨#[32]⟩ : ByteArray) ++ str x1 = y := ⟨_, rfl⟩
 have e1 : y1 = str ([32] ++ x1) := by rw [← h1]; exact str_plusY ([32]) x1
 have s1 : y1.size ≤ 20000020 := by rw [e1, str_size]; simp only [List.length_append, List.length_cons, List.length_nil]; omega
 have z1 : ¬ 9223372036854775807 < 1 + (str x1).size := by omega
 obtain ⟨y2, h2⟩ : ∃ y, y1 ++ (⟨#[32]⟩ : ByteArray) = y := ⟨_, rfl⟩
 have e2 : y2 = str ([32] ++ x1 ++ [32]) := by rw [← h2, e1]; exact str_plusY ([32] ++ x1) [32]
 have s2 : y2.size ≤ 30000030 := by rw [e2, str_size]; simp only [List.length_append, List.length_cons, List.length_nil]; omega
 have z2 : ¬ 9223372036854775807 < y1.size + 1 := by omega
 obtain ⟨y3, h3⟩ : ∃ y, y2 ++ str x2 = y := ⟨_, rfl⟩
 have e3 : y3 = str ([32] ++ x1 ++ [32] ++ x2) := by rw [← h3, e2]; exact str_plusY ([32] ++ x1 ++ [32]) x2
 have s3 : y3.size ≤ 40000040 := by rw [e3, str_size]; simp only [List.length_append, List.length_cons, List.length_nil]; omega
 have z3 : ¬ 9223372036854775807 < y2.size + (str x2).size := by omega
 have HY : Hid (y3 = str (tlJ 32 [x1, x2])) := by show _ = _; rw [e3]; congr 1; simp [tlJ]
 clear e1 e2 e3 s1 s2 s3 sx1 sx2
 go_enter Tryz.func37, Tryz.ntmps37
 go_wp2_with fail
 refine wp_region_held_drew (S := fun W => W.cell? ⟨R, 1, none⟩ = some (.int .i64 8) ∧ W.cell? ⟨R, 2, none⟩ = some (.string (str x2)) ∧ W.cell? ⟨R, 3, none⟩ = some (.slice a n cap)) (by kernel_rfl) ?hS45 (fun hHeld => ?_)
 case hS45 => exact HS.out _ (Below.refl _ _).drew
 have hb0 : Below w.heap.size w w.drew := (Below.refl _ _).drew
 generalize w.drew = w0 at *
 refine tk (i := 0) (v := ?_) rfl (Or.inl ⟨by rfl, ?hy46⟩) ?ty46
 case hy46 => (intro w5 hSw; obtain ⟨c1, c2, c3⟩ := hSw; go_simp; all_goals with_reducible rfl)
 simp only [Act.put, J1, J2, J4, J5, J6]
 refine tk (i := 1) (v := ?_) rfl (Or.inl ⟨by rfl, ?hy47⟩) ?ty47
 case hy47 => (intro w5 hSw; obtain ⟨c1, c2, c3⟩ := hSw; go_simp; all_goals with_reducible rfl)
 simp only [Act.put, J1, J2, J3, J4, J5, J6]
 refine tk (i := 2) (v := ?_) rfl (Or.inl ⟨by rfl, ?hy48⟩) ?ty48
 case hy48 => (intro w5 hSw; obtain ⟨c1, c2, c3⟩ := hSw; go_simp; all_goals with_reducible rfl)
 simp only [Act.put, J1, J2, J3, J4, J5, J6]
 refine tk (i := 3) (v := ?_) rfl (Or.inl ⟨by rfl, ?hy49⟩) ?ty49
 case hy49 => (intro w5 hSw; obtain ⟨c1, c2, c3⟩ := hSw; go_simp; all_goals with_reducible rfl)
 simp only [Act.put, J1, J2, J3, J4, J5, J6]
 refine tk (i := 7) (v := ?_) rfl (Or.inl ⟨by rfl, ?hy50⟩) ?ty50
 case hy50 => (intro w5 hSw; obtain ⟨c1, c2, c3⟩ := hSw; go_simp; all_goals with_reducible rfl)
 simp only [Act.put, J1, J2, J3, J4, J5, J6]
 refine tk (i := 8) (v := ?_) rfl (Or.inl ⟨by rfl, ?hy51⟩) ?ty51
 case hy51 => (intro w5 hSw; obtain ⟨c1, c2, c3⟩ := hSw; go_simp; all_goals with_reducible rfl)
 simp only [Act.put, J1, J2, J3, J4, J5, J6]
 refine tk (i := 9) (v := ?_) rfl (Or.inl ⟨by rfl, ?hy52⟩) ?ty52
 case hy52 => (intro w5 hSw; obtain ⟨c1, c2, c3⟩ := hSw; go_simp; all_goals with_reducible rfl)
 simp only [Act.put, J1, J2, J3, J4, J5, J6]
 refine tk (i := 10) (v := ?_) rfl (Or.inl ⟨by rfl, ?hy53⟩) ?ty53
 case hy53 => (intro w5 hSw; obtain ⟨c1, c2, c3⟩ := hSw; go_simp; all_goals with_reducible rfl)
 simp only [Act.put, J1, J2, J3, J4, J5, J6]
 refine wpAnyH_ready (rs := [4]) (by kernel_rfl) (by simp) ?_
 refine AllReadyH.cons rfl (fun K hK => ?_) AllReadyH.nil
 go_simp
 refine (H1.out w0 hb0).mono ?_
 rintro e w1 ⟨rfl, hc1⟩
 have hb1 := hb0.trans (hc1.mono hb0.size)
 refine hK.out _ _ (HS.out _ hb1) (fun hHeld => ?_)
 clear hK K
 refine tk (i := 5) (v := ?_) rfl (Or.inl ⟨by rfl, ?hy54⟩) ?ty54
 case hy54 => (intro w5 hSw; obtain ⟨c1, c2, c3⟩ := hSw; go_simp; all_goals with_reducible rfl)
 simp only [Act.put, J1, J2, J3, J4, J5, J6]
 refine tk (i := 6) (v := ?_) rfl (Or.inl ⟨by rfl, ?hy55⟩) ?ty55
 case hy55 => (intro w5 hSw; obtain ⟨c1, c2, c3⟩ := hSw; go_simp; all_goals with_reducible rfl)
 simp only [Act.put, J1, J2, J3, J4, J5, J6]
 refine tk (i := 11) (v := ?_) rfl (Or.inl ⟨by rfl, ?hy56⟩) ?ty56
 case hy56 => (intro w5 hSw; obtain ⟨c1, c2, c3⟩ := hSw; go_simp; all_goals with_reducible rfl)
 simp only [Act.put, J1, J2, J3, J4, J5, J6]
 refine tk (i := 12) (v := ?_) rfl (Or.inl ⟨by rfl, ?hy57⟩) ?ty57
 case hy57 => (intro w5 hSw; obtain ⟨c1, c2, c3⟩ := hSw; go_simp; all_goals with_reducible rfl)
 simp only [Act.put, J1, J2, J3, J4, J5, J6]
 refine wpAnyH_done (by kernel_rfl) ?_ _
 clear hHeld
 go_wp2
 go_ret
 exact ⟨by rw [← HY.out]; rfl, hb1⟩
set_option maxHeartbeats 1600000 in
set_option maxRecDepth 100000 in
theorem ctl_9 (R : Nat) (w : World) (x1 x2 : List Nat) (hx1 : x1.length ≤ 10000000) (hx2 : x2.length ≤ 10000000) (a : Option Addr) (n cap : Nat) (HS : Hid (∀ W, Below w.heap.size w W → W.cell? ⟨R, 1, none⟩ = some (.int .i64 9) ∧ W.cell? ⟨R, 2, none⟩ = some (.string (str x2)) ∧ W.cell? ⟨R, 3, none⟩ = some (.slice a n cap))) (H1 : Hid (∀ W, Below w.heap.size w W → Calls Tryz.prog 57 #[.slice a n cap] W fun e w' => e = .returned (.string (str x1)) ∧ Below W.heap.size W w')) :
  Calls Tryz.prog 37 #[.pointer (some ⟨R, 0, none⟩)] w fun e w' => e = .returned (.string (str (tlJ 32 [x1, x2]))) ∧ Below w.heap.size w w' := by
 obtain ⟨c1, c2, c3⟩ := HS.out w (Below.refl _ _)
 have sx1 : (str x1).size = x1.length := str_size _
 have sx2 : (str x2).size = x2.length := str_size _
 obtain ⟨y1, h1⟩ : ∃ y, (⟨#[32]⟩ : ByteArray) ++ str x1 = y := ⟨_, rfl⟩
 have e1 : y1 = str ([32] ++ x1) := by rw [← h1]; exact str_plusY ([32]) x1
 have s1 : y1.size ≤ 20000020 := by rw [e1, str_size]; simp only [List.length_append, List.length_cons, List.length_nil]; omega
 have z1 : ¬ 9223372036854775807 < 1 + (str x1).size := by omega
 obtain ⟨y2, h2⟩ : ∃ y, y1 ++ (⟨#[32]⟩ : ByteArray) = y := ⟨_, rfl⟩
 have e2 : y2 = str ([32] ++ x1 ++ [32]) := by rw [← h2, e1]; exact str_plusY ([32] ++ x1) [32]
 have s2 : y2.size ≤ 30000030 := by rw [e2, str_size]; simp only [List.length_append, List.length_cons, List.length_nil]; omega
 have z2 : ¬ 9223372036854775807 < y1.size + 1 := by omega
 obtain ⟨y3, h3⟩ : ∃ y, y2 ++ str x2 = y := ⟨_, rfl⟩
 have e3 : y3 = str ([32] ++ x1 ++ [32] ++ x2) := by rw [← h3, e2]; exact str_plusY ([32] ++ x1 ++ [32]) x2
 have s3 : y3.size ≤ 40000040 := by rw [e3, str_size]; simp only [List.length_append, List.length_cons, List.length_nil]; omega
 have z3 : ¬ 9223372036854775807 < y2.size + (str x2).size := by omega
 have HY : Hid (y3 = str (tlJ 32 [x1, x2])) := by show _ = _; rw [e3]; congr 1; simp [tlJ]
 clear e1 e2 e3 s1 s2 s3 sx1 sx2
 go_enter Tryz.func37, Tryz.ntmps37
 go_wp2_with fail
 refine wp_region_held_drew (S := fun W => W.cell? ⟨R, 1, none⟩ = some (.int .i64 9) ∧ W.cell? ⟨R, 2, none⟩ = some (.string (str x2)) ∧ W.cell? ⟨R, 3, none⟩ = some (.slice a n cap)) (by kernel_rfl) ?hS58 (fun hHeld => ?_)
 case hS58 => exact HS.out _ (Below.refl _ _).drew
 have hb0 : Below w.heap.size w w.drew := (Below.refl _ _).drew
 generalize w.drew = w0 at *
 refine tk (i := 0) (v := ?_) rfl (Or.inl ⟨by rfl, ?hy59⟩) ?ty59
 case hy59 => (intro w5 hSw; obtain ⟨c1, c2, c3⟩ := hSw; go_simp; all_goals with_reducible rfl)
 simp only [Act.put, J1, J2, J4, J5, J6]
 refine tk (i := 1) (v := ?_) rfl (Or.inl ⟨by rfl, ?hy60⟩) ?ty60
 case hy60 => (intro w5 hSw; obtain ⟨c1, c2, c3⟩ := hSw; go_simp; all_goals with_reducible rfl)
 simp only [Act.put, J1, J2, J3, J4, J5, J6]
 refine tk (i := 2) (v := ?_) rfl (Or.inl ⟨by rfl, ?hy61⟩) ?ty61
 case hy61 => (intro w5 hSw; obtain ⟨c1, c2, c3⟩ := hSw; go_simp; all_goals with_reducible rfl)
 simp only [Act.put, J1, J2, J3, J4, J5, J6]
 refine tk (i := 3) (v := ?_) rfl (Or.inl ⟨by rfl, ?hy62⟩) ?ty62
 case hy62 => (intro w5 hSw; obtain ⟨c1, c2, c3⟩ := hSw; go_simp; all_goals with_reducible rfl)
 simp only [Act.put, J1, J2, J3, J4, J5, J6]
 refine tk (i := 7) (v := ?_) rfl (Or.inl ⟨by rfl, ?hy63⟩) ?ty63
 case hy63 => (intro w5 hSw; obtain ⟨c1, c2, c3⟩ := hSw; go_simp; all_goals with_reducible rfl)
 simp only [Act.put, J1, J2, J3, J4, J5, J6]
 refine tk (i := 8) (v := ?_) rfl (Or.inl ⟨by rfl, ?hy64⟩) ?ty64
 case hy64 => (intro w5 hSw; obtain ⟨c1, c2, c3⟩ := hSw; go_simp; all_goals with_reducible rfl)
 simp only [Act.put, J1, J2, J3, J4, J5, J6]
 refine tk (i := 9) (v := ?_) rfl (Or.inl ⟨by rfl, ?hy65⟩) ?ty65
 case hy65 => (intro w5 hSw; obtain ⟨c1, c2, c3⟩ := hSw; go_simp; all_goals with_reducible rfl)
 simp only [Act.put, J1, J2, J3, J4, J5, J6]
 refine tk (i := 10) (v := ?_) rfl (Or.inl ⟨by rfl, ?hy66⟩) ?ty66
 case hy66 => (intro w5 hSw; obtain ⟨c1, c2, c3⟩ := hSw; go_simp; all_goals with_reducible rfl)
 simp only [Act.put, J1, J2, J3, J4, J5, J6]
 refine wpAnyH_ready (rs := [4]) (by kernel_rfl) (by simp) ?_
 refine AllReadyH.cons rfl (fun K hK => ?_) AllReadyH.nil
 go_simp
 refine (H1.out w0 hb0).mono ?_
 rintro e w1 ⟨rfl, hc1⟩
 have hb1 := hb0.trans (hc1.mono hb0.size)
 refine hK.out _ _ (HS.out _ hb1) (fun hHeld => ?_)
 clear hK K
 refine tk (i := 5) (v := ?_) rfl (Or.inl ⟨by rfl, ?hy67⟩) ?ty67
 case hy67 => (intro w5 hSw; obtain ⟨c1, c2, c3⟩ := hSw; go_simp; all_goals with_reducible rfl)
 simp only [Act.put, J1, J2, J3, J4, J5, J6]
 refine tk (i := 6) (v := ?_) rfl (Or.inl ⟨by rfl, ?hy68⟩) ?ty68
 case hy68 => (intro w5 hSw; obtain ⟨c1, c2, c3⟩ := hSw; go_simp; all_goals with_reducible rfl)
 simp only [Act.put, J1, J2, J3, J4, J5, J6]
 refine tk (i := 11) (v := ?_) rfl (Or.inl ⟨by rfl, ?hy69⟩) ?ty69
 case hy69 => (intro w5 hSw; obtain ⟨c1, c2, c3⟩ := hSw; go_simp; all_goals with_reducible rfl)
 simp only [Act.put, J1, J2, J3, J4, J5, J6]
 refine tk (i := 12) (v := ?_) rfl (Or.inl ⟨by rfl, ?hy70⟩) ?ty70
 case hy70 => (intro w5 hSw; obtain ⟨c1, c2, c3⟩ := hSw; go_simp; all_goals with_reducible rfl)
 simp only [Act.put, J1, J2, J3, J4, J5, J6]
 refine wpAnyH_done (by kernel_rfl) ?_ _
 clear hHeld
 go_wp2
 go_ret
 exact ⟨by rw [← HY.out]; rfl, hb1⟩
set_option maxHeartbeats 1600000 in
set_option maxRecDepth 100000 in
theorem ctl_11t (R : Nat) (w : World) (x1 x2 x3 : List Nat) (hx1 : x1.length ≤ 10000000) (hx2 : x2.length ≤ 10000000) (hx3 : x3.length ≤ 10000000) (h : Int) (a : Option Addr) (n cap : Nat) (pa : Option Addr) (pn pc : Nat) (HS : Hid (∀ W, Below w.heap.size w W → W.cell? ⟨R, 1, none⟩ = some (.int .i64 11) ∧ W.cell? ⟨R, 3, none⟩ = some (.slice a n cap) ∧ W.cell? ⟨R, 8, none⟩ = some (.int .i64 h) ∧ W.cell? ⟨R, 9, none⟩ = some (.slice pa pn pc))) (H1 : Hid (∀ W, Below w.heap.size w W → Calls Tryz.prog 57 #[.slice a n cap] W fun e w' => e = .returned (.string (str x1)) ∧ Below W.heap.size W w')) (H2 : Hid (∀ W, Below w.heap.size w W → Calls Tryz.prog 59 #[.int .i64 h] W fun e w' => e = .returned (.string (str x2)) ∧ Below W.heap.size W w')) (H3 : Hid (∀ W, Below w.heap.size w W → Calls Tryz.prog 60 #[.slice pa pn pc] W fun e w' => e = .returned (.string (str x3)) ∧ Below W.heap.size W w')) (hp : ptK h = true) :
  Calls Tryz.prog 37 #[.pointer (some ⟨R, 0, none⟩)] w fun e w' => e = .returned (.string (str (tlJ 32 [x1, x2, x3]))) ∧ Below w.heap.size w w' := by
 obtain ⟨c1, c3, c8, c9⟩ := HS.out w (Below.refl _ _)
 have sx1 : (str x1).size = x1.length := str_size _
 have sx2 : (str x2).size = x2.length := str_size _
 have sx3 : (str x3).size = x3.length := str_size _
 obtain ⟨y1, h1⟩ : ∃ y, (⟨#[32]⟩ : ByteArray) ++ str x1 = y := ⟨_, rfl⟩
 have e1 : y1 = str ([32] ++ x1) := by rw [← h1]; exact str_plusY ([32]) x1
 have s1 : y1.size ≤ 20000020 := by rw [e1, str_size]; simp only [List.length_append, List.length_cons, List.length_nil]; omega
 have z1 : ¬ 9223372036854775807 < 1 + (str x1).size := by omega
 obtain ⟨y2, h2⟩ : ∃ y, y1 ++ (⟨#[32]⟩ : ByteArray) = y := ⟨_, rfl⟩
 have e2 : y2 = str ([32] ++ x1 ++ [32]) := by rw [← h2, e1]; exact str_plusY ([32] ++ x1) [32]
 have s2 : y2.size ≤ 30000030 := by rw [e2, str_size]; simp only [List.length_append, List.length_cons, List.length_nil]; omega
 have z2 : ¬ 9223372036854775807 < y1.size + 1 := by omega
 obtain ⟨y3, h3⟩ : ∃ y, y2 ++ str x2 = y := ⟨_, rfl⟩
 have e3 : y3 = str ([32] ++ x1 ++ [32] ++ x2) := by rw [← h3, e2]; exact str_plusY ([32] ++ x1 ++ [32]) x2
 have s3 : y3.size ≤ 40000040 := by rw [e3, str_size]; simp only [List.length_append, List.length_cons, List.length_nil]; omega
 have z3 : ¬ 9223372036854775807 < y2.size + (str x2).size := by omega
 obtain ⟨y4, h4⟩ : ∃ y, y3 ++ (⟨#[32]⟩ : ByteArray) = y := ⟨_, rfl⟩
 have e4 : y4 = str ([32] ++ x1 ++ [32] ++ x2 ++ [32]) := by rw [← h4, e3]; exact str_plusY ([32] ++ x1 ++ [32] ++ x2) [32]
 have s4 : y4.size ≤ 50000050 := by rw [e4, str_size]; simp only [List.length_append, List.length_cons, List.length_nil]; omega
 have z4 : ¬ 9223372036854775807 < y3.size + 1 := by omega
 obtain ⟨y5, h5⟩ : ∃ y, y4 ++ str x3 = y := ⟨_, rfl⟩
 have e5 : y5 = str ([32] ++ x1 ++ [32] ++ x2 ++ [32] ++ x3) := by rw [← h5, e4]; exact str_plusY ([32] ++ x1 ++ [32] ++ x2 ++ [32]) x3
 have s5 : y5.size ≤ 60000060 := by rw [e5, str_size]; simp only [List.length_append, List.length_cons, List.length_nil]; omega
 have z5 : ¬ 9223372036854775807 < y4.size + (str x3).size := by omega
 have HY : Hid (y5 = str (tlJ 32 [x1, x2, x3])) := by show _ = _; rw [e5]; congr 1; simp [tlJ]
 clear e1 e2 e3 e4 e5 s1 s2 s3 s4 s5 sx1 sx2 sx3
 go_enter Tryz.func37, Tryz.ntmps37
 go_wp2_with fail
 refine wp_region_held_drew (S := fun W => W.cell? ⟨R, 1, none⟩ = some (.int .i64 11) ∧ W.cell? ⟨R, 3, none⟩ = some (.slice a n cap) ∧ W.cell? ⟨R, 8, none⟩ = some (.int .i64 h) ∧ W.cell? ⟨R, 9, none⟩ = some (.slice pa pn pc)) (by kernel_rfl) ?hS71 (fun hHeld => ?_)
 case hS71 => exact HS.out _ (Below.refl _ _).drew
 have hb0 : Below w.heap.size w w.drew := (Below.refl _ _).drew
 generalize w.drew = w0 at *
 refine tk (i := 0) (v := ?_) rfl (Or.inl ⟨by rfl, ?hy72⟩) ?ty72
 case hy72 => (intro w5 hSw; obtain ⟨c1, c3, c8, c9⟩ := hSw; go_simp; all_goals with_reducible rfl)
 simp only [Act.put, J1, J2, J4, J5, J6]
 refine tk (i := 1) (v := ?_) rfl (Or.inl ⟨by rfl, ?hy73⟩) ?ty73
 case hy73 => (intro w5 hSw; obtain ⟨c1, c3, c8, c9⟩ := hSw; go_simp; all_goals with_reducible rfl)
 simp only [Act.put, J1, J2, J3, J4, J5, J6]
 refine tk (i := 2) (v := ?_) rfl (Or.inl ⟨by rfl, ?hy74⟩) ?ty74
 case hy74 => (intro w5 hSw; obtain ⟨c1, c3, c8, c9⟩ := hSw; go_simp; all_goals with_reducible rfl)
 simp only [Act.put, J1, J2, J3, J4, J5, J6]
 refine tk (i := 3) (v := ?_) rfl (Or.inl ⟨by rfl, ?hy75⟩) ?ty75
 case hy75 => (intro w5 hSw; obtain ⟨c1, c3, c8, c9⟩ := hSw; go_simp; all_goals with_reducible rfl)
 simp only [Act.put, J1, J2, J3, J4, J5, J6]
 refine tk (i := 7) (v := ?_) rfl (Or.inl ⟨by rfl, ?hy76⟩) ?ty76
 case hy76 => (intro w5 hSw; obtain ⟨c1, c3, c8, c9⟩ := hSw; go_simp; all_goals with_reducible rfl)
 simp only [Act.put, J1, J2, J3, J4, J5, J6]
 refine tk (i := 8) (v := ?_) rfl (Or.inl ⟨by rfl, ?hy77⟩) ?ty77
 case hy77 => (intro w5 hSw; obtain ⟨c1, c3, c8, c9⟩ := hSw; go_simp; all_goals with_reducible rfl)
 simp only [Act.put, J1, J2, J3, J4, J5, J6]
 refine tk (i := 9) (v := ?_) rfl (Or.inl ⟨by rfl, ?hy78⟩) ?ty78
 case hy78 => (intro w5 hSw; obtain ⟨c1, c3, c8, c9⟩ := hSw; go_simp; all_goals with_reducible rfl)
 simp only [Act.put, J1, J2, J3, J4, J5, J6]
 refine tk (i := 10) (v := ?_) rfl (Or.inl ⟨by rfl, ?hy79⟩) ?ty79
 case hy79 => (intro w5 hSw; obtain ⟨c1, c3, c8, c9⟩ := hSw; go_simp; all_goals with_reducible rfl)
 simp only [Act.put, J1, J2, J3, J4, J5, J6]
 refine wpAnyH_ready (rs := [4]) (by kernel_rfl) (by simp) ?_
 refine AllReadyH.cons rfl (fun K hK => ?_) AllReadyH.nil
 go_simp
 refine (H1.out w0 hb0).mono ?_
 rintro e w1 ⟨rfl, hc1⟩
 have hb1 := hb0.trans (hc1.mono hb0.size)
 refine hK.out _ _ (HS.out _ hb1) (fun hHeld => ?_)
 clear hK K
 refine tk (i := 5) (v := ?_) rfl (Or.inl ⟨by rfl, ?hy80⟩) ?ty80
 case hy80 => (intro w5 hSw; obtain ⟨c1, c3, c8, c9⟩ := hSw; go_simp; all_goals with_reducible rfl)
 simp only [Act.put, J1, J2, J3, J4, J5, J6]
 refine tk (i := 6) (v := ?_) rfl (Or.inl ⟨by rfl, ?hy81⟩) ?ty81
 case hy81 => (intro w5 hSw; obtain ⟨c1, c3, c8, c9⟩ := hSw; go_simp; all_goals with_reducible rfl)
 simp only [Act.put, J1, J2, J3, J4, J5, J6]
 refine wpAnyH_ready (rs := [11]) (by kernel_rfl) (by simp) ?_
 refine AllReadyH.cons rfl (fun K hK => ?_) AllReadyH.nil
 go_simp
 refine (H2.out w1 hb1).mono ?_
 rintro e w2 ⟨rfl, hc2⟩
 have hb2 := hb1.trans (hc2.mono hb1.size)
 refine hK.out _ _ (HS.out _ hb2) (fun hHeld => ?_)
 clear hK K
 refine tk (i := 12) (v := ?_) rfl (Or.inl ⟨by rfl, ?hy82⟩) ?ty82
 case hy82 => (intro w5 hSw; obtain ⟨c1, c3, c8, c9⟩ := hSw; go_simp; all_goals with_reducible rfl)
 simp only [Act.put, J1, J2, J3, J4, J5, J6]
 refine tk (i := 13) (v := ?_) rfl (Or.inl ⟨by rfl, ?hy83⟩) ?ty83
 case hy83 => (intro w5 hSw; obtain ⟨c1, c3, c8, c9⟩ := hSw; go_simp; all_goals with_reducible rfl)
 simp only [Act.put, J1, J2, J3, J4, J5, J6]
 refine wpAnyH_done (by kernel_rfl) ?_ _
 clear hHeld
 obtain ⟨-, -, d8, d9⟩ := HS.out _ hb2
 have HP := l14Pathed_any h w2
 rw [hp] at HP
 go_wp2_with fail
 refine HP.mono ?_
 rintro e w5 ⟨rfl, rfl⟩
 go_wp2_with fail
 refine (H3.out _ hb2).mono ?_
 rintro e w6 ⟨rfl, hc6⟩
 have hb6 := hb2.trans (hc6.mono hb2.size)
 go_wp2
 go_ret
 exact ⟨by rw [← HY.out]; rfl, hb6⟩
set_option maxHeartbeats 1600000 in
set_option maxRecDepth 100000 in
theorem ctl_11f (R : Nat) (w : World) (x1 x2 : List Nat) (hx1 : x1.length ≤ 10000000) (hx2 : x2.length ≤ 10000000) (h : Int) (a : Option Addr) (n cap : Nat) (pa : Option Addr) (pn pc : Nat) (HS : Hid (∀ W, Below w.heap.size w W → W.cell? ⟨R, 1, none⟩ = some (.int .i64 11) ∧ W.cell? ⟨R, 3, none⟩ = some (.slice a n cap) ∧ W.cell? ⟨R, 8, none⟩ = some (.int .i64 h) ∧ W.cell? ⟨R, 9, none⟩ = some (.slice pa pn pc))) (H1 : Hid (∀ W, Below w.heap.size w W → Calls Tryz.prog 57 #[.slice a n cap] W fun e w' => e = .returned (.string (str x1)) ∧ Below W.heap.size W w')) (H2 : Hid (∀ W, Below w.heap.size w W → Calls Tryz.prog 59 #[.int .i64 h] W fun e w' => e = .returned (.string (str x2)) ∧ Below W.heap.size W w')) (hp : ptK h = false) :
  Calls Tryz.prog 37 #[.pointer (some ⟨R, 0, none⟩)] w fun e w' => e = .returned (.string (str (tlJ 32 [x1, x2]))) ∧ Below w.heap.size w w' := by
 obtain ⟨c1, c3, c8, c9⟩ := HS.out w (Below.refl _ _)
 have sx1 : (str x1).size = x1.length := str_size _
 have sx2 : (str x2).size = x2.length := str_size _
 obtain ⟨y1, h1⟩ : ∃ y, (⟨#[32]⟩ : ByteArray) ++ str x1 = y := ⟨_, rfl⟩
 have e1 : y1 = str ([32] ++ x1) := by rw [← h1]; exact str_plusY ([32]) x1
 have s1 : y1.size ≤ 20000020 := by rw [e1, str_size]; simp only [List.length_append, List.length_cons, List.length_nil]; omega
 have z1 : ¬ 9223372036854775807 < 1 + (str x1).size := by omega
 obtain ⟨y2, h2⟩ : ∃ y, y1 ++ (⟨#[32]⟩ : ByteArray) = y := ⟨_, rfl⟩
 have e2 : y2 = str ([32] ++ x1 ++ [32]) := by rw [← h2, e1]; exact str_plusY ([32] ++ x1) [32]
 have s2 : y2.size ≤ 30000030 := by rw [e2, str_size]; simp only [List.length_append, List.length_cons, List.length_nil]; omega
 have z2 : ¬ 9223372036854775807 < y1.size + 1 := by omega
 obtain ⟨y3, h3⟩ : ∃ y, y2 ++ str x2 = y := ⟨_, rfl⟩
 have e3 : y3 = str ([32] ++ x1 ++ [32] ++ x2) := by rw [← h3, e2]; exact str_plusY ([32] ++ x1 ++ [32]) x2
 have s3 : y3.size ≤ 40000040 := by rw [e3, str_size]; simp only [List.length_append, List.length_cons, List.length_nil]; omega
 have z3 : ¬ 9223372036854775807 < y2.size + (str x2).size := by omega
 have HY : Hid (y3 = str (tlJ 32 [x1, x2])) := by show _ = _; rw [e3]; congr 1; simp [tlJ]
 clear e1 e2 e3 s1 s2 s3 sx1 sx2
 go_enter Tryz.func37, Tryz.ntmps37
 go_wp2_with fail
 refine wp_region_held_drew (S := fun W => W.cell? ⟨R, 1, none⟩ = some (.int .i64 11) ∧ W.cell? ⟨R, 3, none⟩ = some (.slice a n cap) ∧ W.cell? ⟨R, 8, none⟩ = some (.int .i64 h) ∧ W.cell? ⟨R, 9, none⟩ = some (.slice pa pn pc)) (by kernel_rfl) ?hS84 (fun hHeld => ?_)
 case hS84 => exact HS.out _ (Below.refl _ _).drew
 have hb0 : Below w.heap.size w w.drew := (Below.refl _ _).drew
 generalize w.drew = w0 at *
 refine tk (i := 0) (v := ?_) rfl (Or.inl ⟨by rfl, ?hy85⟩) ?ty85
 case hy85 => (intro w5 hSw; obtain ⟨c1, c3, c8, c9⟩ := hSw; go_simp; all_goals with_reducible rfl)
 simp only [Act.put, J1, J2, J4, J5, J6]
 refine tk (i := 1) (v := ?_) rfl (Or.inl ⟨by rfl, ?hy86⟩) ?ty86
 case hy86 => (intro w5 hSw; obtain ⟨c1, c3, c8, c9⟩ := hSw; go_simp; all_goals with_reducible rfl)
 simp only [Act.put, J1, J2, J3, J4, J5, J6]
 refine tk (i := 2) (v := ?_) rfl (Or.inl ⟨by rfl, ?hy87⟩) ?ty87
 case hy87 => (intro w5 hSw; obtain ⟨c1, c3, c8, c9⟩ := hSw; go_simp; all_goals with_reducible rfl)
 simp only [Act.put, J1, J2, J3, J4, J5, J6]
 refine tk (i := 3) (v := ?_) rfl (Or.inl ⟨by rfl, ?hy88⟩) ?ty88
 case hy88 => (intro w5 hSw; obtain ⟨c1, c3, c8, c9⟩ := hSw; go_simp; all_goals with_reducible rfl)
 simp only [Act.put, J1, J2, J3, J4, J5, J6]
 refine tk (i := 7) (v := ?_) rfl (Or.inl ⟨by rfl, ?hy89⟩) ?ty89
 case hy89 => (intro w5 hSw; obtain ⟨c1, c3, c8, c9⟩ := hSw; go_simp; all_goals with_reducible rfl)
 simp only [Act.put, J1, J2, J3, J4, J5, J6]
 refine tk (i := 8) (v := ?_) rfl (Or.inl ⟨by rfl, ?hy90⟩) ?ty90
 case hy90 => (intro w5 hSw; obtain ⟨c1, c3, c8, c9⟩ := hSw; go_simp; all_goals with_reducible rfl)
 simp only [Act.put, J1, J2, J3, J4, J5, J6]
 refine tk (i := 9) (v := ?_) rfl (Or.inl ⟨by rfl, ?hy91⟩) ?ty91
 case hy91 => (intro w5 hSw; obtain ⟨c1, c3, c8, c9⟩ := hSw; go_simp; all_goals with_reducible rfl)
 simp only [Act.put, J1, J2, J3, J4, J5, J6]
 refine tk (i := 10) (v := ?_) rfl (Or.inl ⟨by rfl, ?hy92⟩) ?ty92
 case hy92 => (intro w5 hSw; obtain ⟨c1, c3, c8, c9⟩ := hSw; go_simp; all_goals with_reducible rfl)
 simp only [Act.put, J1, J2, J3, J4, J5, J6]
 refine wpAnyH_ready (rs := [4]) (by kernel_rfl) (by simp) ?_
 refine AllReadyH.cons rfl (fun K hK => ?_) AllReadyH.nil
 go_simp
 refine (H1.out w0 hb0).mono ?_
 rintro e w1 ⟨rfl, hc1⟩
 have hb1 := hb0.trans (hc1.mono hb0.size)
 refine hK.out _ _ (HS.out _ hb1) (fun hHeld => ?_)
 clear hK K
 refine tk (i := 5) (v := ?_) rfl (Or.inl ⟨by rfl, ?hy93⟩) ?ty93
 case hy93 => (intro w5 hSw; obtain ⟨c1, c3, c8, c9⟩ := hSw; go_simp; all_goals with_reducible rfl)
 simp only [Act.put, J1, J2, J3, J4, J5, J6]
 refine tk (i := 6) (v := ?_) rfl (Or.inl ⟨by rfl, ?hy94⟩) ?ty94
 case hy94 => (intro w5 hSw; obtain ⟨c1, c3, c8, c9⟩ := hSw; go_simp; all_goals with_reducible rfl)
 simp only [Act.put, J1, J2, J3, J4, J5, J6]
 refine wpAnyH_ready (rs := [11]) (by kernel_rfl) (by simp) ?_
 refine AllReadyH.cons rfl (fun K hK => ?_) AllReadyH.nil
 go_simp
 refine (H2.out w1 hb1).mono ?_
 rintro e w2 ⟨rfl, hc2⟩
 have hb2 := hb1.trans (hc2.mono hb1.size)
 refine hK.out _ _ (HS.out _ hb2) (fun hHeld => ?_)
 clear hK K
 refine tk (i := 12) (v := ?_) rfl (Or.inl ⟨by rfl, ?hy95⟩) ?ty95
 case hy95 => (intro w5 hSw; obtain ⟨c1, c3, c8, c9⟩ := hSw; go_simp; all_goals with_reducible rfl)
 simp only [Act.put, J1, J2, J3, J4, J5, J6]
 refine tk (i := 13) (v := ?_) rfl (Or.inl ⟨by rfl, ?hy96⟩) ?ty96
 case hy96 => (intro w5 hSw; obtain ⟨c1, c3, c8, c9⟩ := hSw; go_simp; all_goals with_reducible rfl)
 simp only [Act.put, J1, J2, J3, J4, J5, J6]
 refine wpAnyH_done (by kernel_rfl) ?_ _
 clear hHeld
 obtain ⟨-, -, d8, d9⟩ := HS.out _ hb2
 have HP := l14Pathed_any h w2
 rw [hp] at HP
 go_wp2_with fail
 refine HP.mono ?_
 rintro e w5 ⟨rfl, rfl⟩
 go_wp2
 go_ret
 exact ⟨by rw [← HY.out]; rfl, hb2⟩
set_option maxHeartbeats 1600000 in
set_option maxRecDepth 100000 in
theorem ctl_12 (R : Nat) (w : World) (x1 : List Nat) (hx1 : x1.length ≤ 10000000) (a : Option Addr) (n cap : Nat) (hn : 1 ≤ n ∧ n ≤ 12) (HS : Hid (∀ W, Below w.heap.size w W → W.cell? ⟨R, 1, none⟩ = some (.int .i64 12) ∧ W.cell? ⟨R, 12, none⟩ = some (.slice a n cap))) (H1 : Hid (∀ W, Below w.heap.size w W → Calls Tryz.prog 61 #[.slice a n cap, .int .i64 ((n : Int) - 1)] W fun e w' => e = .returned (.string (str x1)) ∧ Below W.heap.size W w')) :
  Calls Tryz.prog 37 #[.pointer (some ⟨R, 0, none⟩)] w fun e w' => e = .returned (.string (str (tlJ 32 [x1]))) ∧ Below w.heap.size w w' := by
 obtain ⟨c1, c12⟩ := HS.out w (Below.refl _ _)
 have sx1 : (str x1).size = x1.length := str_size _
 obtain ⟨y1, h1⟩ : ∃ y, (⟨#[32]⟩ : ByteArray) ++ str x1 = y := ⟨_, rfl⟩
 have e1 : y1 = str ([32] ++ x1) := by rw [← h1]; exact str_plusY ([32]) x1
 have s1 : y1.size ≤ 20000020 := by rw [e1, str_size]; simp only [List.length_append, List.length_cons, List.length_nil]; omega
 have z1 : ¬ 9223372036854775807 < 1 + (str x1).size := by omega
 have HY : Hid (y1 = str (tlJ 32 [x1])) := by show _ = _; rw [e1]; congr 1; simp [tlJ]
 clear e1 s1 sx1
 go_enter Tryz.func37, Tryz.ntmps37
 go_wp2_with fail
 refine wp_region_held_drew (S := fun W => W.cell? ⟨R, 1, none⟩ = some (.int .i64 12) ∧ W.cell? ⟨R, 12, none⟩ = some (.slice a n cap)) (by kernel_rfl) ?hS97 (fun hHeld => ?_)
 case hS97 => exact HS.out _ (Below.refl _ _).drew
 have hb0 : Below w.heap.size w w.drew := (Below.refl _ _).drew
 generalize w.drew = w0 at *
 refine tk (i := 0) (v := ?_) rfl (Or.inl ⟨by rfl, ?hy98⟩) ?ty98
 case hy98 => (intro w5 hSw; obtain ⟨c1, c12⟩ := hSw; go_simp; all_goals with_reducible rfl)
 simp only [Act.put, J1, J2, J4, J5, J6]
 refine tk (i := 1) (v := ?_) rfl (Or.inl ⟨by rfl, ?hy99⟩) ?ty99
 case hy99 => (intro w5 hSw; obtain ⟨c1, c12⟩ := hSw; go_simp; all_goals with_reducible rfl)
 simp only [Act.put, J1, J2, J3, J4, J5, J6]
 refine tk (i := 2) (v := ?_) rfl (Or.inl ⟨by rfl, ?hy100⟩) ?ty100
 case hy100 => (intro w5 hSw; obtain ⟨c1, c12⟩ := hSw; go_simp; all_goals with_reducible rfl)
 simp only [Act.put, J1, J2, J3, J4, J5, J6]
 refine tk (i := 3) (v := ?_) rfl (Or.inl ⟨by rfl, ?hy101⟩) ?ty101
 case hy101 => (intro w5 hSw; obtain ⟨c1, c12⟩ := hSw; go_simp; all_goals with_reducible rfl)
 simp only [Act.put, J1, J2, J3, J4, J5, J6]
 refine tk (i := 4) (v := ?_) rfl (Or.inl ⟨by rfl, ?hy102⟩) ?ty102
 case hy102 => (intro w5 hSw; obtain ⟨c1, c12⟩ := hSw; go_simp; all_goals with_reducible rfl)
 simp only [Act.put, J1, J2, J3, J4, J5, J6]
 refine tk (i := 5) (v := ?_) rfl (Or.inl ⟨by rfl, ?hy103⟩) ?ty103
 case hy103 => (intro w5 hSw; obtain ⟨c1, c12⟩ := hSw; go_simp; all_goals with_reducible rfl)
 simp only [Act.put, J1, J2, J3, J4, J5, J6]
 refine tk (i := 6) (v := ?_) rfl (Or.inl ⟨by rfl, ?hy104⟩) ?ty104
 case hy104 => (intro w5 hSw; obtain ⟨c1, c12⟩ := hSw; go_simp; all_goals with_reducible rfl)
 simp only [Act.put, J1, J2, J3, J4, J5, J6]
 refine tk (i := 7) (v := ?_) rfl (Or.inl ⟨by rfl, ?hy105⟩) ?ty105
 case hy105 => (intro w5 hSw; obtain ⟨c1, c12⟩ := hSw; go_simp; all_goals with_reducible rfl)
 simp only [Act.put, J1, J2, J3, J4, J5, J6]
 refine tk (i := 8) (v := ?_) rfl (Or.inl ⟨by rfl, ?hy106⟩) ?ty106
 case hy106 => (intro w5 hSw; obtain ⟨c1, c12⟩ := hSw; go_simp; all_goals with_reducible rfl)
 simp only [Act.put, J1, J2, J3, J4, J5, J6]
 refine tk (i := 9) (v := .int .i64 ((n : Int) - 1)) rfl (Or.inl ⟨by rfl, ?hy107⟩) ?ty107
 case hy107 => (intro w5 hSw; obtain ⟨c1, c12⟩ := hSw; go_simp; rw [IntKind.wrap_i64]; omega)
 simp only [Act.put, J1, J2, J3, J4, J5, J6]
 refine wpAnyH_ready (rs := [10]) (by kernel_rfl) (by simp) ?_
 refine AllReadyH.cons rfl (fun K hK => ?_) AllReadyH.nil
 go_simp
 refine (H1.out w0 hb0).mono ?_
 rintro e w1 ⟨rfl, hc1⟩
 have hb1 := hb0.trans (hc1.mono hb0.size)
 refine hK.out _ _ (HS.out _ hb1) (fun hHeld => ?_)
 clear hK K
 refine tk (i := 11) (v := ?_) rfl (Or.inl ⟨by rfl, ?hy108⟩) ?ty108
 case hy108 => (intro w5 hSw; obtain ⟨c1, c12⟩ := hSw; go_simp; all_goals with_reducible rfl)
 simp only [Act.put, J1, J2, J3, J4, J5, J6]
 refine tk (i := 12) (v := ?_) rfl (Or.inl ⟨by rfl, ?hy109⟩) ?ty109
 case hy109 => (intro w5 hSw; obtain ⟨c1, c12⟩ := hSw; go_simp; all_goals with_reducible rfl)
 simp only [Act.put, J1, J2, J3, J4, J5, J6]
 refine wpAnyH_done (by kernel_rfl) ?_ _
 clear hHeld
 go_wp2
 go_ret
 exact ⟨by rw [← HY.out]; rfl, hb1⟩
set_option maxHeartbeats 1600000 in
set_option maxRecDepth 100000 in
theorem ctl_13t (R : Nat) (w : World) (x1 x2 : List Nat) (hx1 : x1.length ≤ 10000000) (hx2 : x2.length ≤ 10000000) (m : Int) (a : Option Addr) (n cap : Nat) (hn : 1 ≤ n ∧ n ≤ 12) (HS : Hid (∀ W, Below w.heap.size w W → W.cell? ⟨R, 1, none⟩ = some (.int .i64 13) ∧ W.cell? ⟨R, 10, none⟩ = some (.int .i64 m) ∧ W.cell? ⟨R, 11, none⟩ = some (.bool true) ∧ W.cell? ⟨R, 12, none⟩ = some (.slice a n cap))) (H1 : Hid (∀ W, Below w.heap.size w W → Calls Tryz.prog 62 #[.int .i64 m] W fun e w' => e = .returned (.string (str x1)) ∧ Below W.heap.size W w')) (H2 : Hid (∀ W, Below w.heap.size w W → Calls Tryz.prog 61 #[.slice a n cap, .int .i64 ((n : Int) - 1)] W fun e w' => e = .returned (.string (str x2)) ∧ Below W.heap.size W w')) :
  Calls Tryz.prog 37 #[.pointer (some ⟨R, 0, none⟩)] w fun e w' => e = .returned (.string (str (tlJ 32 [x1, [100, 111, 119, 110], x2]))) ∧ Below w.heap.size w w' := by
 obtain ⟨c1, c10, c11, c12⟩ := HS.out w (Below.refl _ _)
 have sx1 : (str x1).size = x1.length := str_size _
 have sx2 : (str x2).size = x2.length := str_size _
 obtain ⟨y1, h1⟩ : ∃ y, (⟨#[32]⟩ : ByteArray) ++ str x1 = y := ⟨_, rfl⟩
 have e1 : y1 = str ([32] ++ x1) := by rw [← h1]; exact str_plusY ([32]) x1
 have s1 : y1.size ≤ 20000020 := by rw [e1, str_size]; simp only [List.length_append, List.length_cons, List.length_nil]; omega
 have z1 : ¬ 9223372036854775807 < 1 + (str x1).size := by omega
 obtain ⟨y2, h2⟩ : ∃ y, y1 ++ (⟨#[32, 100, 111, 119, 110, 32]⟩ : ByteArray) = y := ⟨_, rfl⟩
 have e2 : y2 = str ([32] ++ x1 ++ [32, 100, 111, 119, 110, 32]) := by rw [← h2, e1]; exact str_plusY ([32] ++ x1) [32, 100, 111, 119, 110, 32]
 have s2 : y2.size ≤ 30000030 := by rw [e2, str_size]; simp only [List.length_append, List.length_cons, List.length_nil]; omega
 have z2 : ¬ 9223372036854775807 < y1.size + 6 := by omega
 obtain ⟨y3, h3⟩ : ∃ y, y2 ++ str x2 = y := ⟨_, rfl⟩
 have e3 : y3 = str ([32] ++ x1 ++ [32, 100, 111, 119, 110, 32] ++ x2) := by rw [← h3, e2]; exact str_plusY ([32] ++ x1 ++ [32, 100, 111, 119, 110, 32]) x2
 have s3 : y3.size ≤ 40000040 := by rw [e3, str_size]; simp only [List.length_append, List.length_cons, List.length_nil]; omega
 have z3 : ¬ 9223372036854775807 < y2.size + (str x2).size := by omega
 have HY : Hid (y3 = str (tlJ 32 [x1, [100, 111, 119, 110], x2])) := by show _ = _; rw [e3]; congr 1; simp [tlJ]
 clear e1 e2 e3 s1 s2 s3 sx1 sx2
 go_enter Tryz.func37, Tryz.ntmps37
 go_wp2_with fail
 refine wp_region_held_drew (S := fun W => W.cell? ⟨R, 1, none⟩ = some (.int .i64 13) ∧ W.cell? ⟨R, 10, none⟩ = some (.int .i64 m) ∧ W.cell? ⟨R, 11, none⟩ = some (.bool true) ∧ W.cell? ⟨R, 12, none⟩ = some (.slice a n cap)) (by kernel_rfl) ?hS110 (fun hHeld => ?_)
 case hS110 => exact HS.out _ (Below.refl _ _).drew
 have hb0 : Below w.heap.size w w.drew := (Below.refl _ _).drew
 generalize w.drew = w0 at *
 refine tk (i := 0) (v := ?_) rfl (Or.inl ⟨by rfl, ?hy111⟩) ?ty111
 case hy111 => (intro w5 hSw; obtain ⟨c1, c10, c11, c12⟩ := hSw; go_simp; all_goals with_reducible rfl)
 simp only [Act.put, J1, J2, J4, J5, J6]
 refine tk (i := 1) (v := ?_) rfl (Or.inl ⟨by rfl, ?hy112⟩) ?ty112
 case hy112 => (intro w5 hSw; obtain ⟨c1, c10, c11, c12⟩ := hSw; go_simp; all_goals with_reducible rfl)
 simp only [Act.put, J1, J2, J3, J4, J5, J6]
 refine tk (i := 2) (v := ?_) rfl (Or.inl ⟨by rfl, ?hy113⟩) ?ty113
 case hy113 => (intro w5 hSw; obtain ⟨c1, c10, c11, c12⟩ := hSw; go_simp; all_goals with_reducible rfl)
 simp only [Act.put, J1, J2, J3, J4, J5, J6]
 refine tk (i := 3) (v := ?_) rfl (Or.inl ⟨by rfl, ?hy114⟩) ?ty114
 case hy114 => (intro w5 hSw; obtain ⟨c1, c10, c11, c12⟩ := hSw; go_simp; all_goals with_reducible rfl)
 simp only [Act.put, J1, J2, J3, J4, J5, J6]
 refine tk (i := 6) (v := ?_) rfl (Or.inl ⟨by rfl, ?hy115⟩) ?ty115
 case hy115 => (intro w5 hSw; obtain ⟨c1, c10, c11, c12⟩ := hSw; go_simp; all_goals with_reducible rfl)
 simp only [Act.put, J1, J2, J3, J4, J5, J6]
 refine tk (i := 8) (v := ?_) rfl (Or.inl ⟨by rfl, ?hy116⟩) ?ty116
 case hy116 => (intro w5 hSw; obtain ⟨c1, c10, c11, c12⟩ := hSw; go_simp; all_goals with_reducible rfl)
 simp only [Act.put, J1, J2, J3, J4, J5, J6]
 refine tk (i := 9) (v := ?_) rfl (Or.inl ⟨by rfl, ?hy117⟩) ?ty117
 case hy117 => (intro w5 hSw; obtain ⟨c1, c10, c11, c12⟩ := hSw; go_simp; all_goals with_reducible rfl)
 simp only [Act.put, J1, J2, J3, J4, J5, J6]
 refine tk (i := 10) (v := ?_) rfl (Or.inl ⟨by rfl, ?hy118⟩) ?ty118
 case hy118 => (intro w5 hSw; obtain ⟨c1, c10, c11, c12⟩ := hSw; go_simp; all_goals with_reducible rfl)
 simp only [Act.put, J1, J2, J3, J4, J5, J6]
 refine tk (i := 11) (v := ?_) rfl (Or.inl ⟨by rfl, ?hy119⟩) ?ty119
 case hy119 => (intro w5 hSw; obtain ⟨c1, c10, c11, c12⟩ := hSw; go_simp; all_goals with_reducible rfl)
 simp only [Act.put, J1, J2, J3, J4, J5, J6]
 refine tk (i := 12) (v := ?_) rfl (Or.inl ⟨by rfl, ?hy120⟩) ?ty120
 case hy120 => (intro w5 hSw; obtain ⟨c1, c10, c11, c12⟩ := hSw; go_simp; all_goals with_reducible rfl)
 simp only [Act.put, J1, J2, J3, J4, J5, J6]
 refine tk (i := 13) (v := ?_) rfl (Or.inl ⟨by rfl, ?hy121⟩) ?ty121
 case hy121 => (intro w5 hSw; obtain ⟨c1, c10, c11, c12⟩ := hSw; go_simp; all_goals with_reducible rfl)
 simp only [Act.put, J1, J2, J3, J4, J5, J6]
 refine tk (i := 14) (v := ?_) rfl (Or.inl ⟨by rfl, ?hy122⟩) ?ty122
 case hy122 => (intro w5 hSw; obtain ⟨c1, c10, c11, c12⟩ := hSw; go_simp; all_goals with_reducible rfl)
 simp only [Act.put, J1, J2, J3, J4, J5, J6]
 refine tk (i := 15) (v := ?_) rfl (Or.inl ⟨by rfl, ?hy123⟩) ?ty123
 case hy123 => (intro w5 hSw; obtain ⟨c1, c10, c11, c12⟩ := hSw; go_simp; all_goals with_reducible rfl)
 simp only [Act.put, J1, J2, J3, J4, J5, J6]
 refine tk (i := 16) (v := ?_) rfl (Or.inl ⟨by rfl, ?hy124⟩) ?ty124
 case hy124 => (intro w5 hSw; obtain ⟨c1, c10, c11, c12⟩ := hSw; go_simp; all_goals with_reducible rfl)
 simp only [Act.put, J1, J2, J3, J4, J5, J6]
 refine tk (i := 17) (v := .int .i64 ((n : Int) - 1)) rfl (Or.inl ⟨by rfl, ?hy125⟩) ?ty125
 case hy125 => (intro w5 hSw; obtain ⟨c1, c10, c11, c12⟩ := hSw; go_simp; rw [IntKind.wrap_i64]; omega)
 simp only [Act.put, J1, J2, J3, J4, J5, J6]
 refine wpAnyH_ready (rs := [4]) (by kernel_rfl) (by simp) ?_
 refine AllReadyH.cons rfl (fun K hK => ?_) AllReadyH.nil
 go_simp
 refine (H1.out w0 hb0).mono ?_
 rintro e w1 ⟨rfl, hc1⟩
 have hb1 := hb0.trans (hc1.mono hb0.size)
 refine hK.out _ _ (HS.out _ hb1) (fun hHeld => ?_)
 clear hK K
 refine tk (i := 5) (v := ?_) rfl (Or.inl ⟨by rfl, ?hy126⟩) ?ty126
 case hy126 => (intro w5 hSw; obtain ⟨c1, c10, c11, c12⟩ := hSw; go_simp; all_goals with_reducible rfl)
 simp only [Act.put, J1, J2, J3, J4, J5, J6]
 refine tk (i := 7) (v := ?_) rfl (Or.inl ⟨by rfl, ?hy127⟩) ?ty127
 case hy127 => (intro w5 hSw; obtain ⟨c1, c10, c11, c12⟩ := hSw; go_simp; all_goals with_reducible rfl)
 simp only [Act.put, J1, J2, J3, J4, J5, J6]
 refine wpAnyH_ready (rs := [18]) (by kernel_rfl) (by simp) ?_
 refine AllReadyH.cons rfl (fun K hK => ?_) AllReadyH.nil
 go_simp
 refine (H2.out w1 hb1).mono ?_
 rintro e w2 ⟨rfl, hc2⟩
 have hb2 := hb1.trans (hc2.mono hb1.size)
 refine hK.out _ _ (HS.out _ hb2) (fun hHeld => ?_)
 clear hK K
 refine tk (i := 19) (v := ?_) rfl (Or.inl ⟨by rfl, ?hy128⟩) ?ty128
 case hy128 => (intro w5 hSw; obtain ⟨c1, c10, c11, c12⟩ := hSw; go_simp; all_goals with_reducible rfl)
 simp only [Act.put, J1, J2, J3, J4, J5, J6]
 refine tk (i := 20) (v := ?_) rfl (Or.inl ⟨by rfl, ?hy129⟩) ?ty129
 case hy129 => (intro w5 hSw; obtain ⟨c1, c10, c11, c12⟩ := hSw; go_simp; all_goals with_reducible rfl)
 simp only [Act.put, J1, J2, J3, J4, J5, J6]
 refine wpAnyH_done (by kernel_rfl) ?_ _
 clear hHeld
 go_wp2
 go_ret
 exact ⟨by rw [← HY.out]; rfl, hb2⟩
set_option maxHeartbeats 1600000 in
set_option maxRecDepth 100000 in
theorem ctl_13f (R : Nat) (w : World) (x1 x2 : List Nat) (hx1 : x1.length ≤ 10000000) (hx2 : x2.length ≤ 10000000) (m : Int) (a : Option Addr) (n cap : Nat) (hn : 1 ≤ n ∧ n ≤ 12) (HS : Hid (∀ W, Below w.heap.size w W → W.cell? ⟨R, 1, none⟩ = some (.int .i64 13) ∧ W.cell? ⟨R, 10, none⟩ = some (.int .i64 m) ∧ W.cell? ⟨R, 11, none⟩ = some (.bool false) ∧ W.cell? ⟨R, 12, none⟩ = some (.slice a n cap))) (H1 : Hid (∀ W, Below w.heap.size w W → Calls Tryz.prog 62 #[.int .i64 m] W fun e w' => e = .returned (.string (str x1)) ∧ Below W.heap.size W w')) (H2 : Hid (∀ W, Below w.heap.size w W → Calls Tryz.prog 61 #[.slice a n cap, .int .i64 ((n : Int) - 1)] W fun e w' => e = .returned (.string (str x2)) ∧ Below W.heap.size W w')) :
  Calls Tryz.prog 37 #[.pointer (some ⟨R, 0, none⟩)] w fun e w' => e = .returned (.string (str (tlJ 32 [x1, [117, 112], x2]))) ∧ Below w.heap.size w w' := by
 obtain ⟨c1, c10, c11, c12⟩ := HS.out w (Below.refl _ _)
 have sx1 : (str x1).size = x1.length := str_size _
 have sx2 : (str x2).size = x2.length := str_size _
 obtain ⟨y1, h1⟩ : ∃ y, (⟨#[32]⟩ : ByteArray) ++ str x1 = y := ⟨_, rfl⟩
 have e1 : y1 = str ([32] ++ x1) := by rw [← h1]; exact str_plusY ([32]) x1
 have s1 : y1.size ≤ 20000020 := by rw [e1, str_size]; simp only [List.length_append, List.length_cons, List.length_nil]; omega
 have z1 : ¬ 9223372036854775807 < 1 + (str x1).size := by omega
 obtain ⟨y2, h2⟩ : ∃ y, y1 ++ (⟨#[32, 117, 112, 32]⟩ : ByteArray) = y := ⟨_, rfl⟩
 have e2 : y2 = str ([32] ++ x1 ++ [32, 117, 112, 32]) := by rw [← h2, e1]; exact str_plusY ([32] ++ x1) [32, 117, 112, 32]
 have s2 : y2.size ≤ 30000030 := by rw [e2, str_size]; simp only [List.length_append, List.length_cons, List.length_nil]; omega
 have z2 : ¬ 9223372036854775807 < y1.size + 4 := by omega
 obtain ⟨y3, h3⟩ : ∃ y, y2 ++ str x2 = y := ⟨_, rfl⟩
 have e3 : y3 = str ([32] ++ x1 ++ [32, 117, 112, 32] ++ x2) := by rw [← h3, e2]; exact str_plusY ([32] ++ x1 ++ [32, 117, 112, 32]) x2
 have s3 : y3.size ≤ 40000040 := by rw [e3, str_size]; simp only [List.length_append, List.length_cons, List.length_nil]; omega
 have z3 : ¬ 9223372036854775807 < y2.size + (str x2).size := by omega
 have HY : Hid (y3 = str (tlJ 32 [x1, [117, 112], x2])) := by show _ = _; rw [e3]; congr 1; simp [tlJ]
 clear e1 e2 e3 s1 s2 s3 sx1 sx2
 go_enter Tryz.func37, Tryz.ntmps37
 go_wp2_with fail
 refine wp_region_held_drew (S := fun W => W.cell? ⟨R, 1, none⟩ = some (.int .i64 13) ∧ W.cell? ⟨R, 10, none⟩ = some (.int .i64 m) ∧ W.cell? ⟨R, 11, none⟩ = some (.bool false) ∧ W.cell? ⟨R, 12, none⟩ = some (.slice a n cap)) (by kernel_rfl) ?hS130 (fun hHeld => ?_)
 case hS130 => exact HS.out _ (Below.refl _ _).drew
 have hb0 : Below w.heap.size w w.drew := (Below.refl _ _).drew
 generalize w.drew = w0 at *
 refine tk (i := 0) (v := ?_) rfl (Or.inl ⟨by rfl, ?hy131⟩) ?ty131
 case hy131 => (intro w5 hSw; obtain ⟨c1, c10, c11, c12⟩ := hSw; go_simp; all_goals with_reducible rfl)
 simp only [Act.put, J1, J2, J4, J5, J6]
 refine tk (i := 1) (v := ?_) rfl (Or.inl ⟨by rfl, ?hy132⟩) ?ty132
 case hy132 => (intro w5 hSw; obtain ⟨c1, c10, c11, c12⟩ := hSw; go_simp; all_goals with_reducible rfl)
 simp only [Act.put, J1, J2, J3, J4, J5, J6]
 refine tk (i := 2) (v := ?_) rfl (Or.inl ⟨by rfl, ?hy133⟩) ?ty133
 case hy133 => (intro w5 hSw; obtain ⟨c1, c10, c11, c12⟩ := hSw; go_simp; all_goals with_reducible rfl)
 simp only [Act.put, J1, J2, J3, J4, J5, J6]
 refine tk (i := 3) (v := ?_) rfl (Or.inl ⟨by rfl, ?hy134⟩) ?ty134
 case hy134 => (intro w5 hSw; obtain ⟨c1, c10, c11, c12⟩ := hSw; go_simp; all_goals with_reducible rfl)
 simp only [Act.put, J1, J2, J3, J4, J5, J6]
 refine tk (i := 6) (v := ?_) rfl (Or.inl ⟨by rfl, ?hy135⟩) ?ty135
 case hy135 => (intro w5 hSw; obtain ⟨c1, c10, c11, c12⟩ := hSw; go_simp; all_goals with_reducible rfl)
 simp only [Act.put, J1, J2, J3, J4, J5, J6]
 refine tk (i := 8) (v := ?_) rfl (Or.inl ⟨by rfl, ?hy136⟩) ?ty136
 case hy136 => (intro w5 hSw; obtain ⟨c1, c10, c11, c12⟩ := hSw; go_simp; all_goals with_reducible rfl)
 simp only [Act.put, J1, J2, J3, J4, J5, J6]
 refine tk (i := 9) (v := ?_) rfl (Or.inl ⟨by rfl, ?hy137⟩) ?ty137
 case hy137 => (intro w5 hSw; obtain ⟨c1, c10, c11, c12⟩ := hSw; go_simp; all_goals with_reducible rfl)
 simp only [Act.put, J1, J2, J3, J4, J5, J6]
 refine tk (i := 10) (v := ?_) rfl (Or.inl ⟨by rfl, ?hy138⟩) ?ty138
 case hy138 => (intro w5 hSw; obtain ⟨c1, c10, c11, c12⟩ := hSw; go_simp; all_goals with_reducible rfl)
 simp only [Act.put, J1, J2, J3, J4, J5, J6]
 refine tk (i := 11) (v := ?_) rfl (Or.inl ⟨by rfl, ?hy139⟩) ?ty139
 case hy139 => (intro w5 hSw; obtain ⟨c1, c10, c11, c12⟩ := hSw; go_simp; all_goals with_reducible rfl)
 simp only [Act.put, J1, J2, J3, J4, J5, J6]
 refine tk (i := 12) (v := ?_) rfl (Or.inl ⟨by rfl, ?hy140⟩) ?ty140
 case hy140 => (intro w5 hSw; obtain ⟨c1, c10, c11, c12⟩ := hSw; go_simp; all_goals with_reducible rfl)
 simp only [Act.put, J1, J2, J3, J4, J5, J6]
 refine tk (i := 13) (v := ?_) rfl (Or.inl ⟨by rfl, ?hy141⟩) ?ty141
 case hy141 => (intro w5 hSw; obtain ⟨c1, c10, c11, c12⟩ := hSw; go_simp; all_goals with_reducible rfl)
 simp only [Act.put, J1, J2, J3, J4, J5, J6]
 refine tk (i := 14) (v := ?_) rfl (Or.inl ⟨by rfl, ?hy142⟩) ?ty142
 case hy142 => (intro w5 hSw; obtain ⟨c1, c10, c11, c12⟩ := hSw; go_simp; all_goals with_reducible rfl)
 simp only [Act.put, J1, J2, J3, J4, J5, J6]
 refine tk (i := 15) (v := ?_) rfl (Or.inl ⟨by rfl, ?hy143⟩) ?ty143
 case hy143 => (intro w5 hSw; obtain ⟨c1, c10, c11, c12⟩ := hSw; go_simp; all_goals with_reducible rfl)
 simp only [Act.put, J1, J2, J3, J4, J5, J6]
 refine tk (i := 16) (v := ?_) rfl (Or.inl ⟨by rfl, ?hy144⟩) ?ty144
 case hy144 => (intro w5 hSw; obtain ⟨c1, c10, c11, c12⟩ := hSw; go_simp; all_goals with_reducible rfl)
 simp only [Act.put, J1, J2, J3, J4, J5, J6]
 refine tk (i := 17) (v := .int .i64 ((n : Int) - 1)) rfl (Or.inl ⟨by rfl, ?hy145⟩) ?ty145
 case hy145 => (intro w5 hSw; obtain ⟨c1, c10, c11, c12⟩ := hSw; go_simp; rw [IntKind.wrap_i64]; omega)
 simp only [Act.put, J1, J2, J3, J4, J5, J6]
 refine wpAnyH_ready (rs := [4]) (by kernel_rfl) (by simp) ?_
 refine AllReadyH.cons rfl (fun K hK => ?_) AllReadyH.nil
 go_simp
 refine (H1.out w0 hb0).mono ?_
 rintro e w1 ⟨rfl, hc1⟩
 have hb1 := hb0.trans (hc1.mono hb0.size)
 refine hK.out _ _ (HS.out _ hb1) (fun hHeld => ?_)
 clear hK K
 refine tk (i := 5) (v := ?_) rfl (Or.inl ⟨by rfl, ?hy146⟩) ?ty146
 case hy146 => (intro w5 hSw; obtain ⟨c1, c10, c11, c12⟩ := hSw; go_simp; all_goals with_reducible rfl)
 simp only [Act.put, J1, J2, J3, J4, J5, J6]
 refine tk (i := 7) (v := ?_) rfl (Or.inl ⟨by rfl, ?hy147⟩) ?ty147
 case hy147 => (intro w5 hSw; obtain ⟨c1, c10, c11, c12⟩ := hSw; go_simp; all_goals with_reducible rfl)
 simp only [Act.put, J1, J2, J3, J4, J5, J6]
 refine wpAnyH_ready (rs := [18]) (by kernel_rfl) (by simp) ?_
 refine AllReadyH.cons rfl (fun K hK => ?_) AllReadyH.nil
 go_simp
 refine (H2.out w1 hb1).mono ?_
 rintro e w2 ⟨rfl, hc2⟩
 have hb2 := hb1.trans (hc2.mono hb1.size)
 refine hK.out _ _ (HS.out _ hb2) (fun hHeld => ?_)
 clear hK K
 refine tk (i := 19) (v := ?_) rfl (Or.inl ⟨by rfl, ?hy148⟩) ?ty148
 case hy148 => (intro w5 hSw; obtain ⟨c1, c10, c11, c12⟩ := hSw; go_simp; all_goals with_reducible rfl)
 simp only [Act.put, J1, J2, J3, J4, J5, J6]
 refine tk (i := 20) (v := ?_) rfl (Or.inl ⟨by rfl, ?hy149⟩) ?ty149
 case hy149 => (intro w5 hSw; obtain ⟨c1, c10, c11, c12⟩ := hSw; go_simp; all_goals with_reducible rfl)
 simp only [Act.put, J1, J2, J3, J4, J5, J6]
 refine wpAnyH_done (by kernel_rfl) ?_ _
 clear hHeld
 go_wp2
 go_ret
 exact ⟨by rw [← HY.out]; rfl, hb2⟩
set_option maxHeartbeats 1600000 in
set_option maxRecDepth 100000 in
theorem ctl_14 (R : Nat) (w : World) (x1 : List Nat) (hx1 : x1.length ≤ 10000000) (m : Int) (HS : Hid (∀ W, Below w.heap.size w W → W.cell? ⟨R, 1, none⟩ = some (.int .i64 14) ∧ W.cell? ⟨R, 13, none⟩ = some (.int .i64 m))) (H1 : Hid (∀ W, Below w.heap.size w W → Calls Tryz.prog 63 #[.int .i64 m] W fun e w' => e = .returned (.string (str x1)) ∧ Below W.heap.size W w')) :
  Calls Tryz.prog 37 #[.pointer (some ⟨R, 0, none⟩)] w fun e w' => e = .returned (.string (str (tlJ 32 [x1]))) ∧ Below w.heap.size w w' := by
 obtain ⟨c1, c13⟩ := HS.out w (Below.refl _ _)
 have sx1 : (str x1).size = x1.length := str_size _
 obtain ⟨y1, h1⟩ : ∃ y, (⟨#[32]⟩ : ByteArray) ++ str x1 = y := ⟨_, rfl⟩
 have e1 : y1 = str ([32] ++ x1) := by rw [← h1]; exact str_plusY ([32]) x1
 have s1 : y1.size ≤ 20000020 := by rw [e1, str_size]; simp only [List.length_append, List.length_cons, List.length_nil]; omega
 have z1 : ¬ 9223372036854775807 < 1 + (str x1).size := by omega
 have HY : Hid (y1 = str (tlJ 32 [x1])) := by show _ = _; rw [e1]; congr 1; simp [tlJ]
 clear e1 s1 sx1
 go_enter Tryz.func37, Tryz.ntmps37
 go_wp2_with fail
 refine (H1.out _ (Below.refl _ _)).mono ?_
 rintro e w1 ⟨rfl, hb1⟩
 go_wp2
 go_ret
 exact ⟨by rw [← HY.out]; rfl, hb1⟩
set_option maxHeartbeats 1600000 in
set_option maxRecDepth 100000 in
theorem ctl_1 (R : Nat) (w : World) (HS : Hid (∀ W, Below w.heap.size w W → W.cell? ⟨R, 1, none⟩ = some (.int .i64 1) ∧ True)) :
  Calls Tryz.prog 37 #[.pointer (some ⟨R, 0, none⟩)] w fun e w' => e = .returned (.string (str (tlJ 32 []))) ∧ Below w.heap.size w w' := by
 obtain ⟨c1, -⟩ := HS.out w (Below.refl _ _)
 go_enter Tryz.func37, Tryz.ntmps37
 go_wp2
 go_ret
 exact ⟨rfl, Below.refl _ _⟩
set_option maxHeartbeats 1600000 in
set_option maxRecDepth 100000 in
theorem ctl_5 (R : Nat) (w : World) (HS : Hid (∀ W, Below w.heap.size w W → W.cell? ⟨R, 1, none⟩ = some (.int .i64 5) ∧ True)) :
  Calls Tryz.prog 37 #[.pointer (some ⟨R, 0, none⟩)] w fun e w' => e = .returned (.string (str (tlJ 32 []))) ∧ Below w.heap.size w w' := by
 obtain ⟨c1, -⟩ := HS.out w (Below.refl _ _)
 go_enter Tryz.func37, Tryz.ntmps37
 go_wp2
 go_ret
 exact ⟨rfl, Below.refl _ _⟩
set_option maxHeartbeats 1600000 in
set_option maxRecDepth 100000 in
theorem ctl_10 (R : Nat) (w : World) (HS : Hid (∀ W, Below w.heap.size w W → W.cell? ⟨R, 1, none⟩ = some (.int .i64 10) ∧ True)) :
  Calls Tryz.prog 37 #[.pointer (some ⟨R, 0, none⟩)] w fun e w' => e = .returned (.string (str (tlJ 32 []))) ∧ Below w.heap.size w w' := by
 obtain ⟨c1, -⟩ := HS.out w (Below.refl _ _)
 go_enter Tryz.func37, Tryz.ntmps37
 go_wp2
 go_ret
 exact ⟨rfl, Below.refl _ _⟩
end Go.Proofs.YtjogclofjollnaaGreatDoor
