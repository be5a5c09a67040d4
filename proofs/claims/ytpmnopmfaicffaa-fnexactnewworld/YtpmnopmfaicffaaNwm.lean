/- A new world on both sides, for every number of sessions. -/
import Derived.Test.YtpmnopmfaicffaaNwv
namespace Go.Proofs.Ytpmnopmfaicffaa
open Go.RowKit
set_option linter.unusedVariables false

/-- A new world; none. -/
def nwA (v : Value) : Value := .agg #[.int .i64 0, .slice none 0 0, .bool true, .slice none 0 0, .slice none 0 0, .int .i64 1, .slice none 0 0, v]
def nwB : Value := .agg #[.int .i64 3, .slice none 0 0, .bool false, .slice none 0 0, .slice none 0 0, .int .i64 0, .slice none 0 0, .slice none 0 0]
theorem fld2 (W : World) : (Instr.field 41 (.agg #[.int .i64 0, .slice none 0 0, .bool true, .slice none 0 0, .slice none 0 0, .int .i64 1, .slice none 0 0]) 2).run Try.prog W = .ok (.agg #[.bool true, .slice none 0 0, .slice none 0 0, .int .i64 1, .slice none 0 0]) W := by kernel_rfl

set_option maxHeartbeats 1600000 in
set_option maxRecDepth 100000 in
theorem newWorld_bad (s : Int) (w : World) (h : s < 1 ∨ 3 < s) : Calls Try.prog 5 #[.int .i64 s] w fun e w' => e = .returned nwB ∧ Below w.heap.size w w' := by
  unfold nwB
  by_cases h1 : s < 1
  · have h2 : ¬ 1 ≤ s := by omega
    go_enter Try.func5, Try.ntmps5
    go_wp2
    go_returns
    exact ⟨rfl, by go_grown⟩
  · have h2 : 1 ≤ s := by omega
    have h3 : ¬ s ≤ 3 := by omega
    go_enter Try.func5, Try.ntmps5
    go_wp2
    go_returns
    exact ⟨rfl, by go_grown⟩
set_option maxHeartbeats 1600000 in
set_option maxRecDepth 100000 in
theorem specNewWorld_bad (s : Int) (w : World) (h : s < 1 ∨ 3 < s) : Calls Try.prog 4 #[.int .i64 s] w fun e w' => e = .returned nwB ∧ Below w.heap.size w w' := by
  unfold nwB
  by_cases h1 : s < 1
  · have h2 : ¬ 1 ≤ s := by omega
    go_enter Try.func4, Try.ntmps4
    go_wp2
    go_returns
    exact ⟨rfl, by go_grown⟩
  · have h2 : 1 ≤ s := by omega
    have h3 : ¬ s ≤ 3 := by omega
    go_enter Try.func4, Try.ntmps4
    go_wp2
    go_returns
    exact ⟨rfl, by go_grown⟩

theorem cells8 {w : World} {g : Nat} {a0 a1 a2 a3 a4 a5 a6 a7 : Value} {t : TypeId} (h : w.heap[g]? = some (.cells #[a0, a1, a2, a3, a4, a5, a6, a7] t (0, 0))) :
    (w.cell? ⟨g, 0, none⟩ = some a0 ∧ w.cell? ⟨g, 1, none⟩ = some a1 ∧ w.cell? ⟨g, 2, none⟩ = some a2 ∧ w.cell? ⟨g, 3, none⟩ = some a3 ∧ w.cell? ⟨g, 4, none⟩ = some a4 ∧ w.cell? ⟨g, 5, none⟩ = some a5 ∧ w.cell? ⟨g, 6, none⟩ = some a6 ∧ w.cell? ⟨g, 7, none⟩ = some a7) ∧ ∀ i, w.frozen? ⟨g, i, none⟩ = false :=
  ⟨⟨by simp [World.cell?, h], by simp [World.cell?, h], by simp [World.cell?, h], by simp [World.cell?, h], by simp [World.cell?, h], by simp [World.cell?, h], by simp [World.cell?, h], by simp [World.cell?, h]⟩, fun i => by simp [World.frozen?, h]⟩
theorem res_cells8 {wr : World} {sz : Nat} {x0 x1 x2 x3 x4 x5 x6 x7 : Value} (h : wr.cell? ⟨sz, 0, none⟩ = some x0 ∧ wr.cell? ⟨sz, 1, none⟩ = some x1 ∧ wr.cell? ⟨sz, 2, none⟩ = some x2 ∧ wr.cell? ⟨sz, 3, none⟩ = some x3 ∧ wr.cell? ⟨sz, 4, none⟩ = some x4 ∧ wr.cell? ⟨sz, 5, none⟩ = some x5 ∧ wr.cell? ⟨sz, 6, none⟩ = some x6 ∧ wr.cell? ⟨sz, 7, none⟩ = some x7) (v0 v1 v2 v3 v4 v5 v6 v7 : Value) :
    (wr.setCell ⟨sz, 0, none⟩ v0).cell? ⟨sz, 0, none⟩ = some v0 ∧ ((wr.setCell ⟨sz, 0, none⟩ v0).setCell ⟨sz, 1, none⟩ v1).cell? ⟨sz, 1, none⟩ = some v1 ∧ (((wr.setCell ⟨sz, 0, none⟩ v0).setCell ⟨sz, 1, none⟩ v1).setCell ⟨sz, 2, none⟩ v2).cell? ⟨sz, 2, none⟩ = some v2 ∧ ((((wr.setCell ⟨sz, 0, none⟩ v0).setCell ⟨sz, 1, none⟩ v1).setCell ⟨sz, 2, none⟩ v2).setCell ⟨sz, 3, none⟩ v3).cell? ⟨sz, 3, none⟩ = some v3 ∧ (((((wr.setCell ⟨sz, 0, none⟩ v0).setCell ⟨sz, 1, none⟩ v1).setCell ⟨sz, 2, none⟩ v2).setCell ⟨sz, 3, none⟩ v3).setCell ⟨sz, 4, none⟩ v4).cell? ⟨sz, 4, none⟩ = some v4 ∧ ((((((wr.setCell ⟨sz, 0, none⟩ v0).setCell ⟨sz, 1, none⟩ v1).setCell ⟨sz, 2, none⟩ v2).setCell ⟨sz, 3, none⟩ v3).setCell ⟨sz, 4, none⟩ v4).setCell ⟨sz, 5, none⟩ v5).cell? ⟨sz, 5, none⟩ = some v5 ∧ (((((((wr.setCell ⟨sz, 0, none⟩ v0).setCell ⟨sz, 1, none⟩ v1).setCell ⟨sz, 2, none⟩ v2).setCell ⟨sz, 3, none⟩ v3).setCell ⟨sz, 4, none⟩ v4).setCell ⟨sz, 5, none⟩ v5).setCell ⟨sz, 6, none⟩ v6).cell? ⟨sz, 6, none⟩ = some v6 ∧ ((((((((wr.setCell ⟨sz, 0, none⟩ v0).setCell ⟨sz, 1, none⟩ v1).setCell ⟨sz, 2, none⟩ v2).setCell ⟨sz, 3, none⟩ v3).setCell ⟨sz, 4, none⟩ v4).setCell ⟨sz, 5, none⟩ v5).setCell ⟨sz, 6, none⟩ v6).setCell ⟨sz, 7, none⟩ v7).cell? ⟨sz, 7, none⟩ = some v7 := by
  obtain ⟨h0, h1, h2, h3, h4, h5, h6, h7⟩ := h
  have k0 : wr.cell? ⟨sz, 0, none⟩ = some x0 := by simp [go_sem, h0]
  have k1 : (wr.setCell ⟨sz, 0, none⟩ v0).cell? ⟨sz, 1, none⟩ = some x1 := by simp [go_sem, h1]
  have k2 : ((wr.setCell ⟨sz, 0, none⟩ v0).setCell ⟨sz, 1, none⟩ v1).cell? ⟨sz, 2, none⟩ = some x2 := by simp [go_sem, h2]
  have k3 : (((wr.setCell ⟨sz, 0, none⟩ v0).setCell ⟨sz, 1, none⟩ v1).setCell ⟨sz, 2, none⟩ v2).cell? ⟨sz, 3, none⟩ = some x3 := by simp [go_sem, h3]
  have k4 : ((((wr.setCell ⟨sz, 0, none⟩ v0).setCell ⟨sz, 1, none⟩ v1).setCell ⟨sz, 2, none⟩ v2).setCell ⟨sz, 3, none⟩ v3).cell? ⟨sz, 4, none⟩ = some x4 := by simp [go_sem, h4]
  have k5 : (((((wr.setCell ⟨sz, 0, none⟩ v0).setCell ⟨sz, 1, none⟩ v1).setCell ⟨sz, 2, none⟩ v2).setCell ⟨sz, 3, none⟩ v3).setCell ⟨sz, 4, none⟩ v4).cell? ⟨sz, 5, none⟩ = some x5 := by simp [go_sem, h5]
  have k6 : ((((((wr.setCell ⟨sz, 0, none⟩ v0).setCell ⟨sz, 1, none⟩ v1).setCell ⟨sz, 2, none⟩ v2).setCell ⟨sz, 3, none⟩ v3).setCell ⟨sz, 4, none⟩ v4).setCell ⟨sz, 5, none⟩ v5).cell? ⟨sz, 6, none⟩ = some x6 := by simp [go_sem, h6]
  have k7 : (((((((wr.setCell ⟨sz, 0, none⟩ v0).setCell ⟨sz, 1, none⟩ v1).setCell ⟨sz, 2, none⟩ v2).setCell ⟨sz, 3, none⟩ v3).setCell ⟨sz, 4, none⟩ v4).setCell ⟨sz, 5, none⟩ v5).setCell ⟨sz, 6, none⟩ v6).cell? ⟨sz, 7, none⟩ = some x7 := by simp [go_sem, h7]
  exact ⟨World.cell?_setCell_same _ _ _ k0, World.cell?_setCell_same _ _ _ k1, World.cell?_setCell_same _ _ _ k2, World.cell?_setCell_same _ _ _ k3, World.cell?_setCell_same _ _ _ k4, World.cell?_setCell_same _ _ _ k5, World.cell?_setCell_same _ _ _ k6, World.cell?_setCell_same _ _ _ k7⟩

set_option maxHeartbeats 1600000 in
set_option maxRecDepth 100000 in
theorem newWorld_1 (w : World) : Calls Try.prog 5 #[.int .i64 1] w fun e w' => ∃ g, e = .returned (nwA (.slice (some ⟨g, 0, none⟩) 1 1)) ∧ w.heap.size ≤ g ∧ w'.heap[g]? = some (.cells (seC 1).toArray 44 (0, 0)) ∧ Below w.heap.size w w' := by
  unfold nwA
  have hf := fld2
  go_enter Try.func5, Try.ntmps5
  go_wp2_with (first | (go_at_call 13; go_in) | (go_at_call 23; go_in) | (go_at_call 12; go_in) | (go_at_call 22; go_in))
  refine (fresh_1 _).mono ?_
  rintro e w1 ⟨g, rfl, hg, hr, hb⟩
  have hR : w1.heap[w.heap.size]? = some (.cells #[.int .i64 0, .slice none 0 0, .bool false, .slice none 0 0, .slice none 0 0, .int .i64 0, .slice none 0 0, .slice none 0 0] 33 (0, 0)) := (hb.block w.heap.size (by simp; omega)).trans ((Below.heap_alloc _ _ _ (by simp; omega)).trans ((Below.heap_alloc _ _ _ (by simp)).trans (heap_alloc_new w _)))
  have HB : Hid (Below w.heap.size w w1) := (((((Below.refl _ w).alloc (Nat.le_refl _) _).alloc (by simp) _).alloc (by simp; omega) _).trans (hb.mono (by simp; omega)))
  have hgw : w.heap.size < g := by simp at hg; omega
  obtain ⟨hc8, hz⟩ := cells8 hR
  have hC := res_cells8 hc8 (.int .i64 0) (.slice none 0 0) (.bool true) (.slice none 0 0) (.slice none 0 0) (.int .i64 1) (.slice none 0 0) (.slice (some ⟨g, 0, none⟩) 1 1)
  obtain ⟨c0, c1, c2, c3, c4, c5, c6, c7⟩ := hc8
  obtain ⟨r0, r1, r2, r3, r4, r5, r6, r7⟩ := hC
  have z0 := hz 0
  have z1 := hz 1
  have z2 := hz 2
  have z3 := hz 3
  have z4 := hz 4
  have z5 := hz 5
  have z6 := hz 6
  have z7 := hz 7
  clear hR hz hb hg
  go_wp2
  refine bodyPost_ret (v := .agg #[.int .i64 0, .slice none 0 0, .bool true, .slice none 0 0, .slice none 0 0, .int .i64 1, .slice none 0 0, .slice (some ⟨g, 0, none⟩) 1 1]) (by simp [results, Try.results5, go_sem, r0, r1, r2, r3, r4, r5, r6, r7]) rfl ?_
  refine ⟨g, rfl, by omega, ?_, ?_⟩
  · rw [Below.heap_setCell _ _ _ _ (by show g ≠ w.heap.size; omega), Below.heap_setCell _ _ _ _ (by show g ≠ w.heap.size; omega), Below.heap_setCell _ _ _ _ (by show g ≠ w.heap.size; omega), Below.heap_setCell _ _ _ _ (by show g ≠ w.heap.size; omega), Below.heap_setCell _ _ _ _ (by show g ≠ w.heap.size; omega), Below.heap_setCell _ _ _ _ (by show g ≠ w.heap.size; omega), Below.heap_setCell _ _ _ _ (by show g ≠ w.heap.size; omega), Below.heap_setCell _ _ _ _ (by show g ≠ w.heap.size; omega)]
    exact hr
  · exact ((((((((HB.out.setCell (p := ⟨w.heap.size, 0, none⟩) (Nat.le_refl _) _).setCell (p := ⟨w.heap.size, 1, none⟩) (Nat.le_refl _) _).setCell (p := ⟨w.heap.size, 2, none⟩) (Nat.le_refl _) _).setCell (p := ⟨w.heap.size, 3, none⟩) (Nat.le_refl _) _).setCell (p := ⟨w.heap.size, 4, none⟩) (Nat.le_refl _) _).setCell (p := ⟨w.heap.size, 5, none⟩) (Nat.le_refl _) _).setCell (p := ⟨w.heap.size, 6, none⟩) (Nat.le_refl _) _).setCell (p := ⟨w.heap.size, 7, none⟩) (Nat.le_refl _) _)
set_option maxHeartbeats 1600000 in
set_option maxRecDepth 100000 in
theorem newWorld_2 (w : World) : Calls Try.prog 5 #[.int .i64 2] w fun e w' => ∃ g, e = .returned (nwA (.slice (some ⟨g, 0, none⟩) 2 2)) ∧ w.heap.size ≤ g ∧ w'.heap[g]? = some (.cells (seC 2).toArray 44 (0, 0)) ∧ Below w.heap.size w w' := by
  unfold nwA
  have hf := fld2
  go_enter Try.func5, Try.ntmps5
  go_wp2_with (first | (go_at_call 13; go_in) | (go_at_call 23; go_in) | (go_at_call 12; go_in) | (go_at_call 22; go_in))
  refine (fresh_2 _).mono ?_
  rintro e w1 ⟨g, rfl, hg, hr, hb⟩
  have hR : w1.heap[w.heap.size]? = some (.cells #[.int .i64 0, .slice none 0 0, .bool false, .slice none 0 0, .slice none 0 0, .int .i64 0, .slice none 0 0, .slice none 0 0] 33 (0, 0)) := (hb.block w.heap.size (by simp; omega)).trans ((Below.heap_alloc _ _ _ (by simp; omega)).trans ((Below.heap_alloc _ _ _ (by simp)).trans (heap_alloc_new w _)))
  have HB : Hid (Below w.heap.size w w1) := (((((Below.refl _ w).alloc (Nat.le_refl _) _).alloc (by simp) _).alloc (by simp; omega) _).trans (hb.mono (by simp; omega)))
  have hgw : w.heap.size < g := by simp at hg; omega
  obtain ⟨hc8, hz⟩ := cells8 hR
  have hC := res_cells8 hc8 (.int .i64 0) (.slice none 0 0) (.bool true) (.slice none 0 0) (.slice none 0 0) (.int .i64 1) (.slice none 0 0) (.slice (some ⟨g, 0, none⟩) 2 2)
  obtain ⟨c0, c1, c2, c3, c4, c5, c6, c7⟩ := hc8
  obtain ⟨r0, r1, r2, r3, r4, r5, r6, r7⟩ := hC
  have z0 := hz 0
  have z1 := hz 1
  have z2 := hz 2
  have z3 := hz 3
  have z4 := hz 4
  have z5 := hz 5
  have z6 := hz 6
  have z7 := hz 7
  clear hR hz hb hg
  go_wp2
  refine bodyPost_ret (v := .agg #[.int .i64 0, .slice none 0 0, .bool true, .slice none 0 0, .slice none 0 0, .int .i64 1, .slice none 0 0, .slice (some ⟨g, 0, none⟩) 2 2]) (by simp [results, Try.results5, go_sem, r0, r1, r2, r3, r4, r5, r6, r7]) rfl ?_
  refine ⟨g, rfl, by omega, ?_, ?_⟩
  · rw [Below.heap_setCell _ _ _ _ (by show g ≠ w.heap.size; omega), Below.heap_setCell _ _ _ _ (by show g ≠ w.heap.size; omega), Below.heap_setCell _ _ _ _ (by show g ≠ w.heap.size; omega), Below.heap_setCell _ _ _ _ (by show g ≠ w.heap.size; omega), Below.heap_setCell _ _ _ _ (by show g ≠ w.heap.size; omega), Below.heap_setCell _ _ _ _ (by show g ≠ w.heap.size; omega), Below.heap_setCell _ _ _ _ (by show g ≠ w.heap.size; omega), Below.heap_setCell _ _ _ _ (by show g ≠ w.heap.size; omega)]
    exact hr
  · exact ((((((((HB.out.setCell (p := ⟨w.heap.size, 0, none⟩) (Nat.le_refl _) _).setCell (p := ⟨w.heap.size, 1, none⟩) (Nat.le_refl _) _).setCell (p := ⟨w.heap.size, 2, none⟩) (Nat.le_refl _) _).setCell (p := ⟨w.heap.size, 3, none⟩) (Nat.le_refl _) _).setCell (p := ⟨w.heap.size, 4, none⟩) (Nat.le_refl _) _).setCell (p := ⟨w.heap.size, 5, none⟩) (Nat.le_refl _) _).setCell (p := ⟨w.heap.size, 6, none⟩) (Nat.le_refl _) _).setCell (p := ⟨w.heap.size, 7, none⟩) (Nat.le_refl _) _)
set_option maxHeartbeats 1600000 in
set_option maxRecDepth 100000 in
theorem newWorld_3 (w : World) : Calls Try.prog 5 #[.int .i64 3] w fun e w' => ∃ g, e = .returned (nwA (.slice (some ⟨g, 0, none⟩) 3 3)) ∧ w.heap.size ≤ g ∧ w'.heap[g]? = some (.cells (seC 3).toArray 44 (0, 0)) ∧ Below w.heap.size w w' := by
  unfold nwA
  have hf := fld2
  go_enter Try.func5, Try.ntmps5
  go_wp2_with (first | (go_at_call 13; go_in) | (go_at_call 23; go_in) | (go_at_call 12; go_in) | (go_at_call 22; go_in))
  refine (fresh_3 _).mono ?_
  rintro e w1 ⟨g, rfl, hg, hr, hb⟩
  have hR : w1.heap[w.heap.size]? = some (.cells #[.int .i64 0, .slice none 0 0, .bool false, .slice none 0 0, .slice none 0 0, .int .i64 0, .slice none 0 0, .slice none 0 0] 33 (0, 0)) := (hb.block w.heap.size (by simp; omega)).trans ((Below.heap_alloc _ _ _ (by simp; omega)).trans ((Below.heap_alloc _ _ _ (by simp)).trans (heap_alloc_new w _)))
  have HB : Hid (Below w.heap.size w w1) := (((((Below.refl _ w).alloc (Nat.le_refl _) _).alloc (by simp) _).alloc (by simp; omega) _).trans (hb.mono (by simp; omega)))
  have hgw : w.heap.size < g := by simp at hg; omega
  obtain ⟨hc8, hz⟩ := cells8 hR
  have hC := res_cells8 hc8 (.int .i64 0) (.slice none 0 0) (.bool true) (.slice none 0 0) (.slice none 0 0) (.int .i64 1) (.slice none 0 0) (.slice (some ⟨g, 0, none⟩) 3 3)
  obtain ⟨c0, c1, c2, c3, c4, c5, c6, c7⟩ := hc8
  obtain ⟨r0, r1, r2, r3, r4, r5, r6, r7⟩ := hC
  have z0 := hz 0
  have z1 := hz 1
  have z2 := hz 2
  have z3 := hz 3
  have z4 := hz 4
  have z5 := hz 5
  have z6 := hz 6
  have z7 := hz 7
  clear hR hz hb hg
  go_wp2
  refine bodyPost_ret (v := .agg #[.int .i64 0, .slice none 0 0, .bool true, .slice none 0 0, .slice none 0 0, .int .i64 1, .slice none 0 0, .slice (some ⟨g, 0, none⟩) 3 3]) (by simp [results, Try.results5, go_sem, r0, r1, r2, r3, r4, r5, r6, r7]) rfl ?_
  refine ⟨g, rfl, by omega, ?_, ?_⟩
  · rw [Below.heap_setCell _ _ _ _ (by show g ≠ w.heap.size; omega), Below.heap_setCell _ _ _ _ (by show g ≠ w.heap.size; omega), Below.heap_setCell _ _ _ _ (by show g ≠ w.heap.size; omega), Below.heap_setCell _ _ _ _ (by show g ≠ w.heap.size; omega), Below.heap_setCell _ _ _ _ (by show g ≠ w.heap.size; omega), Below.heap_setCell _ _ _ _ (by show g ≠ w.heap.size; omega), Below.heap_setCell _ _ _ _ (by show g ≠ w.heap.size; omega), Below.heap_setCell _ _ _ _ (by show g ≠ w.heap.size; omega)]
    exact hr
  · exact ((((((((HB.out.setCell (p := ⟨w.heap.size, 0, none⟩) (Nat.le_refl _) _).setCell (p := ⟨w.heap.size, 1, none⟩) (Nat.le_refl _) _).setCell (p := ⟨w.heap.size, 2, none⟩) (Nat.le_refl _) _).setCell (p := ⟨w.heap.size, 3, none⟩) (Nat.le_refl _) _).setCell (p := ⟨w.heap.size, 4, none⟩) (Nat.le_refl _) _).setCell (p := ⟨w.heap.size, 5, none⟩) (Nat.le_refl _) _).setCell (p := ⟨w.heap.size, 6, none⟩) (Nat.le_refl _) _).setCell (p := ⟨w.heap.size, 7, none⟩) (Nat.le_refl _) _)
end Go.Proofs.Ytpmnopmfaicffaa
