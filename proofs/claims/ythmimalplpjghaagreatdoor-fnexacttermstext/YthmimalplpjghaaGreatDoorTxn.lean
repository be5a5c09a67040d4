/- The text of a term that is of two, the model's; no conditions beyond those that each fact names. -/
import Derived.Test.YthmimalplpjghaaGreatDoorTkwToTxm
namespace Go.Proofs.YthmimalplpjghaaGreatDoor
open Go.RowKit
set_option linter.unusedVariables false

set_option maxHeartbeats 1600000 in
set_option maxRecDepth 100000 in
theorem tail_two (b off n cap i : Nat) (w : World) (hi : i < n) (k : Int) (hk : k = 10 ∨ k = 11) (j j' : Nat) (x y : List Nat) (hx : x.length ≤ 9999000) (hy : y.length ≤ 9999000) (hbw : b < w.heap.size) (HX : Hid (∀ W, Below w.heap.size w W → Calls Tryz.prog 49 #[.slice (some ⟨b, off, none⟩) n cap, .int .i64 (j : Int)] W fun e w' => e = .returned (.string (str x)) ∧ Below W.heap.size W w')) (HD : Hid (∀ W, Below w.heap.size w W → Calls Tryz.prog 49 #[.slice (some ⟨b, off, none⟩) n cap, .int .i64 (j' : Int)] W fun e w' => e = .returned (.string (str y)) ∧ Below W.heap.size W w')) (c0 : w.cell? ⟨b, off + i * 6, none⟩ = some (.int .i64 k)) (c4 : w.cell? ⟨b, off + i * 6 + 4, none⟩ = some (.int .i64 (j : Int))) (c5 : w.cell? ⟨b, off + i * 6 + 5, none⟩ = some (.int .i64 (j' : Int))) :
    Calls Tryz.prog 95 #[.slice (some ⟨b, off, none⟩) n cap, .int .i64 (i : Int)] w fun e w' => e = .returned (.string (str ([32] ++ x ++ [32] ++ y))) ∧ Below w.heap.size w w' := by
  have hki : (i : Int) < (n : Int) := by omega
  have HS : Hid (∀ W, Below w.heap.size w W → W.cell? ⟨b, off + i * 6 + 4, none⟩ = some (.int .i64 (j : Int)) ∧ W.cell? ⟨b, off + i * 6 + 5, none⟩ = some (.int .i64 (j' : Int))) := fun W h => ⟨(h.cell (p := ⟨b, off + i * 6 + 4, none⟩) hbw).trans c4, (h.cell (p := ⟨b, off + i * 6 + 5, none⟩) hbw).trans c5⟩
  obtain ⟨y1, h1⟩ : ∃ y1, (⟨#[32]⟩ : ByteArray) ++ str x = y1 := ⟨_, rfl⟩
  obtain ⟨y2, h2⟩ : ∃ y2, y1 ++ (⟨#[32]⟩ : ByteArray) = y2 := ⟨_, rfl⟩
  obtain ⟨y3, h3⟩ : ∃ y3, y2 ++ str y = y3 := ⟨_, rfl⟩
  have e1 : y1 = str ([32] ++ x) := by rw [← h1, sp_str]
  have e2 : y2 = str ([32] ++ x ++ [32]) := by rw [← h2, e1]; exact str_plusY _ [32]
  have HY : Hid (y3 = str ([32] ++ x ++ [32] ++ y)) := by show _ = _; rw [← h3, e2]; exact str_plusY _ _
  have s1 : (str x).size = x.length := str_size _
  have s2 : y1.size = x.length + 1 := by rw [e1, str_size]; simp
  have s3 : y2.size = x.length + 2 := by rw [e2, str_size]; simp
  have s4 : (str y).size = y.length := str_size _
  have z1 : ¬ 9223372036854775807 < 1 + (str x).size := by omega
  have z2 : ¬ 9223372036854775807 < y1.size + 1 := by omega
  have z3 : ¬ 9223372036854775807 < y2.size + (str y).size := by omega
  clear e1 e2 s1 s2 s3 s4
  go_enter Tryz.func95, Tryz.ntmps95
  rcases hk with rfl | rfl
  · go_wp2_with fail
    refine wp_region_held_drew (S := (fun w' => w'.cell? ⟨b, off + i * 6 + 4, none⟩ = some (.int .i64 (j : Int)) ∧ w'.cell? ⟨b, off + i * 6 + 5, none⟩ = some (.int .i64 (j' : Int)))) (by kernel_rfl) ?hS1 (fun hHeld => ?_)
    case hS1 => exact ⟨c4, c5⟩
    refine tk (i := 0) (v := ?_) rfl (Or.inl ⟨by rfl, ?hz1000⟩) ?tz1000
    case hz1000 => (intro w' hSw; obtain ⟨e4, e5⟩ := hSw; go_simp; all_goals with_reducible rfl)
    simp only [Act.put, J1, J2, J4, J5, J6]
    refine tk (i := 1) (v := ?_) rfl (Or.inl ⟨by rfl, ?hz1001⟩) ?tz1001
    case hz1001 => (intro w' hSw; obtain ⟨e4, e5⟩ := hSw; go_simp; all_goals with_reducible rfl)
    simp only [Act.put, J1, J2, J3, J4, J5, J6]
    refine tk (i := 2) (v := ?_) rfl (Or.inl ⟨by rfl, ?hz1002⟩) ?tz1002
    case hz1002 => (intro w' hSw; obtain ⟨e4, e5⟩ := hSw; go_simp; all_goals with_reducible rfl)
    simp only [Act.put, J1, J2, J3, J4, J5, J6]
    refine tk (i := 3) (v := ?_) rfl (Or.inl ⟨by rfl, ?hz1003⟩) ?tz1003
    case hz1003 => (intro w' hSw; obtain ⟨e4, e5⟩ := hSw; go_simp; all_goals with_reducible rfl)
    simp only [Act.put, J1, J2, J3, J4, J5, J6]
    refine tk (i := 4) (v := ?_) rfl (Or.inl ⟨by rfl, ?hz1004⟩) ?tz1004
    case hz1004 => (intro w' hSw; obtain ⟨e4, e5⟩ := hSw; go_simp; all_goals with_reducible rfl)
    simp only [Act.put, J1, J2, J3, J4, J5, J6]
    refine tk (i := 8) (v := ?_) rfl (Or.inl ⟨by rfl, ?hz1008⟩) ?tz1008
    case hz1008 => (intro w' hSw; obtain ⟨e4, e5⟩ := hSw; go_simp; all_goals with_reducible rfl)
    simp only [Act.put, J1, J2, J3, J4, J5, J6]
    refine tk (i := 9) (v := ?_) rfl (Or.inl ⟨by rfl, ?hz1009⟩) ?tz1009
    case hz1009 => (intro w' hSw; obtain ⟨e4, e5⟩ := hSw; go_simp; all_goals with_reducible rfl)
    simp only [Act.put, J1, J2, J3, J4, J5, J6]
    refine tk (i := 10) (v := ?_) rfl (Or.inl ⟨by rfl, ?hz1010⟩) ?tz1010
    case hz1010 => (intro w' hSw; obtain ⟨e4, e5⟩ := hSw; go_simp; all_goals with_reducible rfl)
    simp only [Act.put, J1, J2, J3, J4, J5, J6]
    refine tk (i := 11) (v := ?_) rfl (Or.inl ⟨by rfl, ?hz1011⟩) ?tz1011
    case hz1011 => (intro w' hSw; obtain ⟨e4, e5⟩ := hSw; go_simp; all_goals with_reducible rfl)
    simp only [Act.put, J1, J2, J3, J4, J5, J6]
    refine tk (i := 12) (v := ?_) rfl (Or.inl ⟨by rfl, ?hz1012⟩) ?tz1012
    case hz1012 => (intro w' hSw; obtain ⟨e4, e5⟩ := hSw; go_simp; all_goals with_reducible rfl)
    simp only [Act.put, J1, J2, J3, J4, J5, J6]
    refine wpAnyH_ready (rs := [5]) (by kernel_rfl) (by simp) ?_
    refine AllReadyH.cons rfl (fun K hK => ?_) AllReadyH.nil
    go_simp
    refine (HX.out _ (Below.refl _ _).drew).mono ?_
    rintro e w1 ⟨rfl, hb1⟩
    have hB1 : Below w.heap.size w w1 := (Below.refl _ _).drew.trans hb1
    have hS1 := HS.out _ hB1
    refine hK.out _ _ hS1 (fun hHeld => ?_)
    clear hK K
    try simp only [Act.put, J1, J2, J3, J4, J5, J6]
    refine tk (i := 6) (v := .string y1) rfl (Or.inl ⟨by rfl, ?hz1006⟩) ?tz1006
    case hz1006 => (intro w' hSw; obtain ⟨e4, e5⟩ := hSw; go_simp; all_goals with_reducible rfl)
    simp only [Act.put, J1, J2, J3, J4, J5, J6]
    refine tk (i := 7) (v := .string y2) rfl (Or.inl ⟨by rfl, ?hz1007⟩) ?tz1007
    case hz1007 => (intro w' hSw; obtain ⟨e4, e5⟩ := hSw; go_simp; all_goals with_reducible rfl)
    simp only [Act.put, J1, J2, J3, J4, J5, J6]
    refine wpAnyH_ready (rs := [13]) (by kernel_rfl) (by simp) ?_
    refine AllReadyH.cons rfl (fun K hK => ?_) AllReadyH.nil
    go_simp
    refine (HD.out _ hB1).mono ?_
    rintro e w2 ⟨rfl, hb2⟩
    have hB2 := hB1.trans (hb2.mono hB1.size)
    refine hK.out _ _ (HS.out _ hB2) (fun hHeld => ?_)
    clear hK K
    try simp only [Act.put, J1, J2, J3, J4, J5, J6]
    refine tk (i := 14) (v := .string y3) rfl (Or.inl ⟨by rfl, ?hz1014⟩) ?tz1014
    case hz1014 => (intro w' hSw; obtain ⟨e4, e5⟩ := hSw; go_simp; all_goals with_reducible rfl)
    simp only [Act.put, J1, J2, J3, J4, J5, J6]
    refine tk (i := 15) (v := ?_) rfl (Or.inl ⟨by rfl, ?hz1015⟩) ?tz1015
    case hz1015 => (intro w' hSw; obtain ⟨e4, e5⟩ := hSw; go_simp; all_goals with_reducible rfl)
    simp only [Act.put, J1, J2, J3, J4, J5, J6]
    refine wpAnyH_done (by kernel_rfl) ?_ _
    clear hHeld
    go_wp2
    go_ret
    exact ⟨by rw [HY.out]; rfl, hB2⟩
  · go_wp2_with fail
    refine wp_region_held_drew (S := (fun w' => w'.cell? ⟨b, off + i * 6 + 4, none⟩ = some (.int .i64 (j : Int)) ∧ w'.cell? ⟨b, off + i * 6 + 5, none⟩ = some (.int .i64 (j' : Int)))) (by kernel_rfl) ?hR1 (fun hHeld => ?_)
    case hR1 => exact ⟨c4, c5⟩
    refine tk (i := 0) (v := ?_) rfl (Or.inl ⟨by rfl, ?hw1000⟩) ?tw1000
    case hw1000 => (intro w' hSw; obtain ⟨e4, e5⟩ := hSw; go_simp; all_goals with_reducible rfl)
    simp only [Act.put, J1, J2, J4, J5, J6]
    refine tk (i := 1) (v := ?_) rfl (Or.inl ⟨by rfl, ?hw1001⟩) ?tw1001
    case hw1001 => (intro w' hSw; obtain ⟨e4, e5⟩ := hSw; go_simp; all_goals with_reducible rfl)
    simp only [Act.put, J1, J2, J3, J4, J5, J6]
    refine tk (i := 2) (v := ?_) rfl (Or.inl ⟨by rfl, ?hw1002⟩) ?tw1002
    case hw1002 => (intro w' hSw; obtain ⟨e4, e5⟩ := hSw; go_simp; all_goals with_reducible rfl)
    simp only [Act.put, J1, J2, J3, J4, J5, J6]
    refine tk (i := 3) (v := ?_) rfl (Or.inl ⟨by rfl, ?hw1003⟩) ?tw1003
    case hw1003 => (intro w' hSw; obtain ⟨e4, e5⟩ := hSw; go_simp; all_goals with_reducible rfl)
    simp only [Act.put, J1, J2, J3, J4, J5, J6]
    refine tk (i := 4) (v := ?_) rfl (Or.inl ⟨by rfl, ?hw1004⟩) ?tw1004
    case hw1004 => (intro w' hSw; obtain ⟨e4, e5⟩ := hSw; go_simp; all_goals with_reducible rfl)
    simp only [Act.put, J1, J2, J3, J4, J5, J6]
    refine tk (i := 8) (v := ?_) rfl (Or.inl ⟨by rfl, ?hw1008⟩) ?tw1008
    case hw1008 => (intro w' hSw; obtain ⟨e4, e5⟩ := hSw; go_simp; all_goals with_reducible rfl)
    simp only [Act.put, J1, J2, J3, J4, J5, J6]
    refine tk (i := 9) (v := ?_) rfl (Or.inl ⟨by rfl, ?hw1009⟩) ?tw1009
    case hw1009 => (intro w' hSw; obtain ⟨e4, e5⟩ := hSw; go_simp; all_goals with_reducible rfl)
    simp only [Act.put, J1, J2, J3, J4, J5, J6]
    refine tk (i := 10) (v := ?_) rfl (Or.inl ⟨by rfl, ?hw1010⟩) ?tw1010
    case hw1010 => (intro w' hSw; obtain ⟨e4, e5⟩ := hSw; go_simp; all_goals with_reducible rfl)
    simp only [Act.put, J1, J2, J3, J4, J5, J6]
    refine tk (i := 11) (v := ?_) rfl (Or.inl ⟨by rfl, ?hw1011⟩) ?tw1011
    case hw1011 => (intro w' hSw; obtain ⟨e4, e5⟩ := hSw; go_simp; all_goals with_reducible rfl)
    simp only [Act.put, J1, J2, J3, J4, J5, J6]
    refine tk (i := 12) (v := ?_) rfl (Or.inl ⟨by rfl, ?hw1012⟩) ?tw1012
    case hw1012 => (intro w' hSw; obtain ⟨e4, e5⟩ := hSw; go_simp; all_goals with_reducible rfl)
    simp only [Act.put, J1, J2, J3, J4, J5, J6]
    refine wpAnyH_ready (rs := [5]) (by kernel_rfl) (by simp) ?_
    refine AllReadyH.cons rfl (fun K hK => ?_) AllReadyH.nil
    go_simp
    refine (HX.out _ (Below.refl _ _).drew).mono ?_
    rintro e w1 ⟨rfl, hb1⟩
    have hB1 : Below w.heap.size w w1 := (Below.refl _ _).drew.trans hb1
    have hS1 := HS.out _ hB1
    refine hK.out _ _ hS1 (fun hHeld => ?_)
    clear hK K
    try simp only [Act.put, J1, J2, J3, J4, J5, J6]
    refine tk (i := 6) (v := .string y1) rfl (Or.inl ⟨by rfl, ?hw1006⟩) ?tw1006
    case hw1006 => (intro w' hSw; obtain ⟨e4, e5⟩ := hSw; go_simp; all_goals with_reducible rfl)
    simp only [Act.put, J1, J2, J3, J4, J5, J6]
    refine tk (i := 7) (v := .string y2) rfl (Or.inl ⟨by rfl, ?hw1007⟩) ?tw1007
    case hw1007 => (intro w' hSw; obtain ⟨e4, e5⟩ := hSw; go_simp; all_goals with_reducible rfl)
    simp only [Act.put, J1, J2, J3, J4, J5, J6]
    refine wpAnyH_ready (rs := [13]) (by kernel_rfl) (by simp) ?_
    refine AllReadyH.cons rfl (fun K hK => ?_) AllReadyH.nil
    go_simp
    refine (HD.out _ hB1).mono ?_
    rintro e w2 ⟨rfl, hb2⟩
    have hB2 := hB1.trans (hb2.mono hB1.size)
    refine hK.out _ _ (HS.out _ hB2) (fun hHeld => ?_)
    clear hK K
    try simp only [Act.put, J1, J2, J3, J4, J5, J6]
    refine tk (i := 14) (v := .string y3) rfl (Or.inl ⟨by rfl, ?hw1014⟩) ?tw1014
    case hw1014 => (intro w' hSw; obtain ⟨e4, e5⟩ := hSw; go_simp; all_goals with_reducible rfl)
    simp only [Act.put, J1, J2, J3, J4, J5, J6]
    refine tk (i := 15) (v := ?_) rfl (Or.inl ⟨by rfl, ?hw1015⟩) ?tw1015
    case hw1015 => (intro w' hSw; obtain ⟨e4, e5⟩ := hSw; go_simp; all_goals with_reducible rfl)
    simp only [Act.put, J1, J2, J3, J4, J5, J6]
    refine wpAnyH_done (by kernel_rfl) ?_ _
    clear hHeld
    go_wp2
    go_ret
    exact ⟨by rw [HY.out]; rfl, hB2⟩
end Go.Proofs.YthmimalplpjghaaGreatDoor
