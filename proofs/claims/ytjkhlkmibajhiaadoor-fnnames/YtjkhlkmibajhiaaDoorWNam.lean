/- The law FnNames returns true at every input, and changes nothing that was there. -/
import Derived.Test.YtjkhlkmibajhiaaDoorDrn
import Derived.Test.YtjkhlkmibajhiaaDoorLow
import Derived.Deep.RegionHeld3
namespace Go.Proofs.YtjkhlkmibajhiaaDoor
open Go.RowKit

theorem fldI0 (x y : Value) (w : World) : (Instr.field 23 (.agg #[x, y]) 0).run Tryd.prog w = .ok x w := by
  simp [Instr.field, asAgg, go_sem]
theorem fldI1 (x y : Value) (w : World) : (Instr.field 23 (.agg #[x, y]) 1).run Tryd.prog w = .ok y w := by
  simp [Instr.field, asAgg, go_sem]
theorem fldT0 (x y : Value) (w : World) : (Instr.field 28 (.agg #[x, y]) 0).run Tryd.prog w = .ok x w := by
  simp [Instr.field, asAgg, go_sem]
theorem fldT1 (x y : Value) (w : World) : (Instr.field 28 (.agg #[x, y]) 1).run Tryd.prog w = .ok y w := by
  simp [Instr.field, asAgg, go_sem]
theorem csOf_name : ∀ j, j < 5 → ∃ t : List Nat, csN j = str t ∧ IsB t ∧ t.length ≤ 100 ∧ csV (str (t.map low)) = (0, (j : Int) + 1)
  | 0, _ => ⟨[117, 115, 45, 97, 115, 99, 105, 105], by decide +kernel, by unfold IsB; decide, by decide, by decide +kernel⟩
  | 1, _ => ⟨[105, 115, 111, 45, 56, 56, 53, 57, 45, 49], by decide +kernel, by unfold IsB; decide, by decide, by decide +kernel⟩
  | 2, _ => ⟨[105, 115, 111, 45, 56, 56, 53, 57, 45, 53], by decide +kernel, by unfold IsB; decide, by decide, by decide +kernel⟩
  | 3, _ => ⟨[117, 116, 102, 45, 56], by decide +kernel, by unfold IsB; decide, by decide, by decide +kernel⟩
  | 4, _ => ⟨[117, 116, 102, 45, 49, 54], by decide +kernel, by unfold IsB; decide, by decide, by decide +kernel⟩
  | j + 5, h => by omega

set_option maxHeartbeats 3200000 in
set_option maxRecDepth 100000 in
theorem walkNames (a : Option Addr) (n cap : Nat) (l : List Nat) (w : World) (hl : l.length = n) (hr : Rd w a l) (hB : IsB l) (htC : TabC w) (htK : TabK w) :
    Calls Tryd.prog 5 #[.slice a n cap] w fun e w' => e = .returned (.bool true) ∧ Below w.heap.size w w' := by
  by_cases hbig : 1048576 < n
  · go_enter Tryd.func5, Tryd.ntmps5
    go_wp2_with fail
    refine (lwBig_any a n cap w).mono ?_
    rintro e w1 ⟨rfl, rfl⟩
    rw [decide_eq_true (by omega)]
    go_wp2
    go_ret
    exact ⟨rfl, Below.refl _ _⟩
  · have fI0 := fldI0
    have fI1 := fldI1
    have fT0 := fldT0
    have fT1 := fldT1
    go_enter Tryd.func5, Tryd.ntmps5
    go_wp2_with fail
    refine (lwBig_any a n cap w).mono ?_
    rintro e w1 ⟨rfl, rfl⟩
    rw [decide_eq_false (by omega)]
    go_wp2_with fail
    refine (drawCharsetOf_any a n cap l w hl hr hB (by omega)).mono ?_
    rintro e w1 ⟨t, rfl, hBt, htl, hb1⟩
    have HI : Hid (∀ w, TabC w → Calls Tryd.prog 8 #[.string (str t)] w fun e w' => e = .returned (.agg #[.int .i64 (csV (str (t.map low))).1, .int .i64 (csV (str (t.map low))).2]) ∧ Below w.heap.size w w') := fun w ht => charsetOf_any t _ w rfl hBt (by omega) ht
    have HS : Hid (∀ w, Calls Tryd.prog 7 #[.string (str t)] w fun e w' => e = .returned (.agg #[.int .i64 (csV (str (t.map low))).1, .int .i64 (csV (str (t.map low))).2]) ∧ Below w.heap.size w w') := fun w => specCharsetOf_any t _ w rfl hBt (by omega)
    generalize (csV (str (t.map low))).1 = c at *
    generalize (csV (str (t.map low))).2 = x at *
    generalize str t = name at *
    have hz1 := hb1.size
    go_wp2_with fail
    refine (HI.out _ (htC.below hb1)).mono ?_
    rintro e w2 ⟨rfl, hb2⟩
    have hz2 := hb2.size
    have HB2 : Hid (Below w.heap.size w (w2.alloc (.cells #[.int .i64 c, .int .i64 x] 23))) := (hb1.trans (hb2.mono hz1)).alloc (by omega) _
    obtain ⟨k0, k1, -, -⟩ := res_block (w := w2) (wr := w2.alloc (.cells #[.int .i64 c, .int .i64 x] 23)) rfl (Below.refl _ _)
    have hsW : (w2.alloc (.cells #[.int .i64 c, .int .i64 x] 23)).heap.size = w2.heap.size + 1 := by simp
    clear hb1 hb2 HI
    go_wp2_with fail
    generalize w2.alloc (.cells #[.int .i64 c, .int .i64 x] 23) = W at *
    generalize w2.heap.size = g at *
    have hgg : g < W.heap.size := by omega
    refine wp_region_held_drew (S := fun w' => w'.cell? ⟨g, 0, none⟩ = some (.int .i64 c) ∧ w'.cell? ⟨g, 1, none⟩ = some (.int .i64 x)) (by kernel_rfl) ?hS1 (fun hHeld => ?_)
    case hS1 => exact ⟨k0, k1⟩
    refine wpAnyH_take (i := 0) (v := ?_) rfl (by kernel_rfl) (by kernel_rfl) (by kernel_rfl) (fun _ _ _ h => h) (Or.inl ⟨by rfl, ?hy2⟩) (by assumption) ?ty2
    case hy2 => (intro w hSw; (try dsimp only at hSw); go_simp; all_goals with_reducible rfl)
    simp only [Act.put, List.getElem_toArray, List.getElem_cons_zero, List.setIfInBounds_toArray, List.set_cons_zero, List.set_cons_succ]
    refine wpAnyH_take (i := 1) (v := ?_) rfl (by kernel_rfl) (by kernel_rfl) (by kernel_rfl) (fun _ _ _ h => h) (Or.inl ⟨by rfl, ?hy3⟩) (by assumption) ?ty3
    case hy3 => (intro w hSw; (try dsimp only at hSw); go_simp; all_goals with_reducible rfl)
    simp only [Act.put, List.getElem_toArray, List.getElem_cons_zero, List.getElem_cons_succ, List.setIfInBounds_toArray, List.set_cons_zero, List.set_cons_succ]
    refine wpAnyH_take (i := 2) (v := ?_) rfl (by kernel_rfl) (by kernel_rfl) (by kernel_rfl) (fun _ _ _ h => h) (Or.inl ⟨by rfl, ?hy4⟩) (by assumption) ?ty4
    case hy4 => (intro w hSw; (try dsimp only at hSw); go_simp; all_goals with_reducible rfl)
    simp only [Act.put, List.getElem_toArray, List.getElem_cons_zero, List.getElem_cons_succ, List.setIfInBounds_toArray, List.set_cons_zero, List.set_cons_succ]
    refine wpAnyH_ready (rs := [3]) (by kernel_rfl) (by simp) ?_
    refine AllReadyH.cons rfl (fun K hK => ?_) AllReadyH.nil
    go_simp
    refine (HS.out _).mono ?_
    rintro e u3 ⟨rfl, hb3⟩
    have n0 : u3.cell? ⟨g, 0, none⟩ = some (.int .i64 c) := (hb3.cell (p := ⟨g, 0, none⟩) (by exact hgg)).trans k0
    have n1 : u3.cell? ⟨g, 1, none⟩ = some (.int .i64 x) := (hb3.cell (p := ⟨g, 1, none⟩) (by exact hgg)).trans k1
    refine hK.out _ _ ⟨n0, n1⟩ (fun hHeld => ?_)
    clear hK K
    have hg3 : g < u3.heap.size := Nat.lt_of_lt_of_le hgg hb3.size
    have HU3 : Hid (Below W.heap.size W u3) := (Below.refl _ _).drew.trans hb3
    clear hb3 k0 k1
    refine wpAnyH_take (i := 4) (v := ?_) rfl (by kernel_rfl) (by kernel_rfl) (by kernel_rfl) (fun _ _ _ h => h) (Or.inl ⟨by rfl, ?hy5⟩) (by assumption) ?ty5
    case hy5 => (intro w hSw; (try dsimp only at hSw); go_simp; all_goals with_reducible rfl)
    simp only [Act.put, List.getElem_toArray, List.getElem_cons_zero, List.getElem_cons_succ, List.setIfInBounds_toArray, List.set_cons_zero, List.set_cons_succ]
    refine wpAnyH_take (i := 5) (v := .bool false) rfl (by kernel_rfl) (by kernel_rfl) (by kernel_rfl) (fun _ _ _ h => h) (Or.inl ⟨by rfl, ?hy6⟩) (by assumption) ?ty6
    case hy6 => (intro w hSw; (try dsimp only at hSw); go_simp; first | (simp; done) | (all_goals with_reducible rfl))
    simp only [Act.put, List.getElem_toArray, List.getElem_cons_zero, List.getElem_cons_succ, List.setIfInBounds_toArray, List.set_cons_zero, List.set_cons_succ]
    refine wpAnyH_take (i := 6) (v := ?_) rfl (by kernel_rfl) (by kernel_rfl) (by kernel_rfl) (fun _ _ _ h => h) (Or.inl ⟨by rfl, ?hy7⟩) (by assumption) ?ty7
    case hy7 => (intro w hSw; (try dsimp only at hSw); go_simp; all_goals with_reducible rfl)
    simp only [Act.put, List.getElem_toArray, List.getElem_cons_zero, List.getElem_cons_succ, List.setIfInBounds_toArray, List.set_cons_zero, List.set_cons_succ]
    refine wpAnyH_take (i := 7) (v := ?_) rfl (by kernel_rfl) (by kernel_rfl) (by kernel_rfl) (fun _ _ _ h => h) (Or.inl ⟨by rfl, ?hy8⟩) (by assumption) ?ty8
    case hy8 => (intro w hSw; (try dsimp only at hSw); go_simp; all_goals with_reducible rfl)
    simp only [Act.put, List.getElem_toArray, List.getElem_cons_zero, List.getElem_cons_succ, List.setIfInBounds_toArray, List.set_cons_zero, List.set_cons_succ]
    refine wpAnyH_take (i := 8) (v := ?_) rfl (by kernel_rfl) (by kernel_rfl) (by kernel_rfl) (fun _ _ _ h => h) (Or.inl ⟨by rfl, ?hy9⟩) (by assumption) ?ty9
    case hy9 => (intro w hSw; (try dsimp only at hSw); go_simp; all_goals with_reducible rfl)
    simp only [Act.put, List.getElem_toArray, List.getElem_cons_zero, List.getElem_cons_succ, List.setIfInBounds_toArray, List.set_cons_zero, List.set_cons_succ]
    refine wpAnyH_take (i := 9) (v := ?_) rfl (by kernel_rfl) (by kernel_rfl) (by kernel_rfl) (fun _ _ _ h => h) (Or.inl ⟨by rfl, ?hy10⟩) (by assumption) ?ty10
    case hy10 => (intro w hSw; (try dsimp only at hSw); go_simp; all_goals with_reducible rfl)
    simp only [Act.put, List.getElem_toArray, List.getElem_cons_zero, List.getElem_cons_succ, List.setIfInBounds_toArray, List.set_cons_zero, List.set_cons_succ]
    refine wpAnyH_ready (rs := [10]) (by kernel_rfl) (by simp) ?_
    refine AllReadyH.cons rfl (fun K hK => ?_) AllReadyH.nil
    go_simp
    refine (HS.out _).mono ?_
    rintro e u4 ⟨rfl, hb4⟩
    have p0 : u4.cell? ⟨g, 0, none⟩ = some (.int .i64 c) := (hb4.cell (p := ⟨g, 0, none⟩) (by exact hg3)).trans n0
    have p1 : u4.cell? ⟨g, 1, none⟩ = some (.int .i64 x) := (hb4.cell (p := ⟨g, 1, none⟩) (by exact hg3)).trans n1
    refine hK.out _ _ ⟨p0, p1⟩ (fun hHeld => ?_)
    clear hK K
    have HU4 : Hid (Below W.heap.size W u4) := HU3.out.trans (hb4.mono HU3.out.size)
    clear hb4 n0 n1 HU3 hg3
    refine wpAnyH_take (i := 11) (v := ?_) rfl (by kernel_rfl) (by kernel_rfl) (by kernel_rfl) (fun _ _ _ h => h) (Or.inl ⟨by rfl, ?hy11⟩) (by assumption) ?ty11
    case hy11 => (intro w hSw; (try dsimp only at hSw); go_simp; all_goals with_reducible rfl)
    simp only [Act.put, List.getElem_toArray, List.getElem_cons_zero, List.getElem_cons_succ, List.setIfInBounds_toArray, List.set_cons_zero, List.set_cons_succ]
    refine wpAnyH_take (i := 12) (v := .bool false) rfl (by kernel_rfl) (by kernel_rfl) (by kernel_rfl) (fun _ _ _ h => h) (Or.inl ⟨by rfl, ?hy12⟩) (by assumption) ?ty12
    case hy12 => (intro w hSw; (try dsimp only at hSw); go_simp; first | (simp; done) | (all_goals with_reducible rfl))
    simp only [Act.put, List.getElem_toArray, List.getElem_cons_zero, List.getElem_cons_succ, List.setIfInBounds_toArray, List.set_cons_zero, List.set_cons_succ]
    refine wpAnyH_take (i := 13) (v := ?_) rfl (by kernel_rfl) (by kernel_rfl) (by kernel_rfl) (fun _ _ _ h => h) (Or.inl ⟨by rfl, ?hy13⟩) (by assumption) ?ty13
    case hy13 => (intro w hSw; (try dsimp only at hSw); go_simp; all_goals with_reducible rfl)
    simp only [Act.put, List.getElem_toArray, List.getElem_cons_zero, List.getElem_cons_succ, List.setIfInBounds_toArray, List.set_cons_zero, List.set_cons_succ]
    refine wpAnyH_done (by kernel_rfl) ?_ _
    clear hHeld p0 p1
    have HB4 : Hid (Below w.heap.size w u4) := HB2.out.trans (HU4.out.mono HB2.out.size)
    clear HU4 HB2 HS hsW hgg hz1 hz2
    generalize u4 = wE at HB4 ⊢
    go_wp2_with fail
    refine (drawComparatorOf_any a n cap l _ hl (hr.below HB4.out) hB (by omega)).mono ?_
    rintro e w1 ⟨t, rfl, hBt, htl, hb1⟩
    have HI : Hid (∀ w, TabK w → Calls Tryd.prog 16 #[.string (str t)] w fun e w' => e = .returned (.agg #[.int .i64 (cmV (str t)).1, .int .i64 (cmV (str t)).2]) ∧ Below w.heap.size w w') := fun w ht => comparatorOf_any (str t) w ht
    have HS : Hid (∀ w, Calls Tryd.prog 17 #[.string (str t)] w fun e w' => e = .returned (.agg #[.int .i64 (cmV (str t)).1, .int .i64 (cmV (str t)).2]) ∧ Below w.heap.size w w') := fun w => specComparatorOf_any (str t) w
    generalize (cmV (str t)).1 = c at *
    generalize (cmV (str t)).2 = x at *
    generalize str t = name at *
    have HB1 : Hid (Below w.heap.size w w1) := HB4.out.trans (hb1.mono HB4.out.size)
    clear hb1 HB4
    go_wp2_with fail
    refine (HI.out _ (htK.below HB1.out)).mono ?_
    rintro e w2 ⟨rfl, hb2⟩
    have hz1 := HB1.out.size
    have hz2 := hb2.size
    have HB2 : Hid (Below w.heap.size w (w2.alloc (.cells #[.int .i64 c, .int .i64 x] 23))) := (HB1.out.trans (hb2.mono hz1)).alloc (by omega) _
    obtain ⟨k0, k1, -, -⟩ := res_block (w := w2) (wr := w2.alloc (.cells #[.int .i64 c, .int .i64 x] 23)) rfl (Below.refl _ _)
    have hsW : (w2.alloc (.cells #[.int .i64 c, .int .i64 x] 23)).heap.size = w2.heap.size + 1 := by simp
    clear hb2 HI HB1
    go_wp2_with fail
    generalize w2.alloc (.cells #[.int .i64 c, .int .i64 x] 23) = W at *
    generalize w2.heap.size = g at *
    have hgg : g < W.heap.size := by omega
    refine wp_region_held_drew (S := fun w' => w'.cell? ⟨g, 0, none⟩ = some (.int .i64 c) ∧ w'.cell? ⟨g, 1, none⟩ = some (.int .i64 x)) (by kernel_rfl) ?hS14 (fun hHeld => ?_)
    case hS14 => exact ⟨k0, k1⟩
    refine wpAnyH_take (i := 0) (v := ?_) rfl (by kernel_rfl) (by kernel_rfl) (by kernel_rfl) (fun _ _ _ h => h) (Or.inl ⟨by rfl, ?hy15⟩) (by assumption) ?ty15
    case hy15 => (intro w hSw; (try dsimp only at hSw); go_simp; all_goals with_reducible rfl)
    simp only [Act.put, List.getElem_toArray, List.getElem_cons_zero, List.setIfInBounds_toArray, List.set_cons_zero, List.set_cons_succ]
    refine wpAnyH_take (i := 1) (v := ?_) rfl (by kernel_rfl) (by kernel_rfl) (by kernel_rfl) (fun _ _ _ h => h) (Or.inl ⟨by rfl, ?hy16⟩) (by assumption) ?ty16
    case hy16 => (intro w hSw; (try dsimp only at hSw); go_simp; all_goals with_reducible rfl)
    simp only [Act.put, List.getElem_toArray, List.getElem_cons_zero, List.getElem_cons_succ, List.setIfInBounds_toArray, List.set_cons_zero, List.set_cons_succ]
    refine wpAnyH_take (i := 2) (v := ?_) rfl (by kernel_rfl) (by kernel_rfl) (by kernel_rfl) (fun _ _ _ h => h) (Or.inl ⟨by rfl, ?hy17⟩) (by assumption) ?ty17
    case hy17 => (intro w hSw; (try dsimp only at hSw); go_simp; all_goals with_reducible rfl)
    simp only [Act.put, List.getElem_toArray, List.getElem_cons_zero, List.getElem_cons_succ, List.setIfInBounds_toArray, List.set_cons_zero, List.set_cons_succ]
    refine wpAnyH_ready (rs := [3]) (by kernel_rfl) (by simp) ?_
    refine AllReadyH.cons rfl (fun K hK => ?_) AllReadyH.nil
    go_simp
    refine (HS.out _).mono ?_
    rintro e u3 ⟨rfl, hb3⟩
    have n0 : u3.cell? ⟨g, 0, none⟩ = some (.int .i64 c) := (hb3.cell (p := ⟨g, 0, none⟩) (by exact hgg)).trans k0
    have n1 : u3.cell? ⟨g, 1, none⟩ = some (.int .i64 x) := (hb3.cell (p := ⟨g, 1, none⟩) (by exact hgg)).trans k1
    refine hK.out _ _ ⟨n0, n1⟩ (fun hHeld => ?_)
    clear hK K
    have hg3 : g < u3.heap.size := Nat.lt_of_lt_of_le hgg hb3.size
    have HU3 : Hid (Below W.heap.size W u3) := (Below.refl _ _).drew.trans hb3
    clear hb3 k0 k1
    refine wpAnyH_take (i := 4) (v := ?_) rfl (by kernel_rfl) (by kernel_rfl) (by kernel_rfl) (fun _ _ _ h => h) (Or.inl ⟨by rfl, ?hy18⟩) (by assumption) ?ty18
    case hy18 => (intro w hSw; (try dsimp only at hSw); go_simp; all_goals with_reducible rfl)
    simp only [Act.put, List.getElem_toArray, List.getElem_cons_zero, List.getElem_cons_succ, List.setIfInBounds_toArray, List.set_cons_zero, List.set_cons_succ]
    refine wpAnyH_take (i := 5) (v := .bool false) rfl (by kernel_rfl) (by kernel_rfl) (by kernel_rfl) (fun _ _ _ h => h) (Or.inl ⟨by rfl, ?hy19⟩) (by assumption) ?ty19
    case hy19 => (intro w hSw; (try dsimp only at hSw); go_simp; first | (simp; done) | (all_goals with_reducible rfl))
    simp only [Act.put, List.getElem_toArray, List.getElem_cons_zero, List.getElem_cons_succ, List.setIfInBounds_toArray, List.set_cons_zero, List.set_cons_succ]
    refine wpAnyH_take (i := 6) (v := ?_) rfl (by kernel_rfl) (by kernel_rfl) (by kernel_rfl) (fun _ _ _ h => h) (Or.inl ⟨by rfl, ?hy20⟩) (by assumption) ?ty20
    case hy20 => (intro w hSw; (try dsimp only at hSw); go_simp; all_goals with_reducible rfl)
    simp only [Act.put, List.getElem_toArray, List.getElem_cons_zero, List.getElem_cons_succ, List.setIfInBounds_toArray, List.set_cons_zero, List.set_cons_succ]
    refine wpAnyH_take (i := 7) (v := ?_) rfl (by kernel_rfl) (by kernel_rfl) (by kernel_rfl) (fun _ _ _ h => h) (Or.inl ⟨by rfl, ?hy21⟩) (by assumption) ?ty21
    case hy21 => (intro w hSw; (try dsimp only at hSw); go_simp; all_goals with_reducible rfl)
    simp only [Act.put, List.getElem_toArray, List.getElem_cons_zero, List.getElem_cons_succ, List.setIfInBounds_toArray, List.set_cons_zero, List.set_cons_succ]
    refine wpAnyH_take (i := 8) (v := ?_) rfl (by kernel_rfl) (by kernel_rfl) (by kernel_rfl) (fun _ _ _ h => h) (Or.inl ⟨by rfl, ?hy22⟩) (by assumption) ?ty22
    case hy22 => (intro w hSw; (try dsimp only at hSw); go_simp; all_goals with_reducible rfl)
    simp only [Act.put, List.getElem_toArray, List.getElem_cons_zero, List.getElem_cons_succ, List.setIfInBounds_toArray, List.set_cons_zero, List.set_cons_succ]
    refine wpAnyH_take (i := 9) (v := ?_) rfl (by kernel_rfl) (by kernel_rfl) (by kernel_rfl) (fun _ _ _ h => h) (Or.inl ⟨by rfl, ?hy23⟩) (by assumption) ?ty23
    case hy23 => (intro w hSw; (try dsimp only at hSw); go_simp; all_goals with_reducible rfl)
    simp only [Act.put, List.getElem_toArray, List.getElem_cons_zero, List.getElem_cons_succ, List.setIfInBounds_toArray, List.set_cons_zero, List.set_cons_succ]
    refine wpAnyH_ready (rs := [10]) (by kernel_rfl) (by simp) ?_
    refine AllReadyH.cons rfl (fun K hK => ?_) AllReadyH.nil
    go_simp
    refine (HS.out _).mono ?_
    rintro e u4 ⟨rfl, hb4⟩
    have p0 : u4.cell? ⟨g, 0, none⟩ = some (.int .i64 c) := (hb4.cell (p := ⟨g, 0, none⟩) (by exact hg3)).trans n0
    have p1 : u4.cell? ⟨g, 1, none⟩ = some (.int .i64 x) := (hb4.cell (p := ⟨g, 1, none⟩) (by exact hg3)).trans n1
    refine hK.out _ _ ⟨p0, p1⟩ (fun hHeld => ?_)
    clear hK K
    have HU4 : Hid (Below W.heap.size W u4) := HU3.out.trans (hb4.mono HU3.out.size)
    clear hb4 n0 n1 HU3 hg3
    refine wpAnyH_take (i := 11) (v := ?_) rfl (by kernel_rfl) (by kernel_rfl) (by kernel_rfl) (fun _ _ _ h => h) (Or.inl ⟨by rfl, ?hy24⟩) (by assumption) ?ty24
    case hy24 => (intro w hSw; (try dsimp only at hSw); go_simp; all_goals with_reducible rfl)
    simp only [Act.put, List.getElem_toArray, List.getElem_cons_zero, List.getElem_cons_succ, List.setIfInBounds_toArray, List.set_cons_zero, List.set_cons_succ]
    refine wpAnyH_take (i := 12) (v := .bool false) rfl (by kernel_rfl) (by kernel_rfl) (by kernel_rfl) (fun _ _ _ h => h) (Or.inl ⟨by rfl, ?hy25⟩) (by assumption) ?ty25
    case hy25 => (intro w hSw; (try dsimp only at hSw); go_simp; first | (simp; done) | (all_goals with_reducible rfl))
    simp only [Act.put, List.getElem_toArray, List.getElem_cons_zero, List.getElem_cons_succ, List.setIfInBounds_toArray, List.set_cons_zero, List.set_cons_succ]
    refine wpAnyH_take (i := 13) (v := ?_) rfl (by kernel_rfl) (by kernel_rfl) (by kernel_rfl) (fun _ _ _ h => h) (Or.inl ⟨by rfl, ?hy26⟩) (by assumption) ?ty26
    case hy26 => (intro w hSw; (try dsimp only at hSw); go_simp; all_goals with_reducible rfl)
    simp only [Act.put, List.getElem_toArray, List.getElem_cons_zero, List.getElem_cons_succ, List.setIfInBounds_toArray, List.set_cons_zero, List.set_cons_succ]
    refine wpAnyH_done (by kernel_rfl) ?_ _
    clear hHeld p0 p1
    have HB4 : Hid (Below w.heap.size w u4) := HB2.out.trans (HU4.out.mono HB2.out.size)
    clear HU4 HB2 HS hsW hgg hz1 hz2
    generalize u4 = wE at HB4 ⊢
    go_wp2_with fail
    refine (drawCharsetName_any a n cap l _ hl (hr.below HB4.out) hB (by omega)).mono ?_
    rintro e w1 ⟨cs, rfl, hb1⟩
    have HB1 : Hid (Below w.heap.size w w1) := HB4.out.trans (hb1.mono HB4.out.size)
    clear hb1 HB4
    have HI : Hid (∀ w, TabC w → Calls Tryd.prog 11 #[.int .i64 cs] w fun e w' => TxtAns (nameV cs) w e w') := fun w ht => charsetName_any cs w ht
    have HS : Hid (∀ w, Calls Tryd.prog 10 #[.int .i64 cs] w fun e w' => TxtAns (nameV cs) w e w') := fun w => specCharsetName_any cs w
    have hz1 := HB1.out.size
    by_cases hcs : 1 ≤ cs ∧ cs ≤ 5
    · obtain ⟨j, hcj⟩ : ∃ j : Nat, cs = ((j + 1 : Nat) : Int) := ⟨(cs - 1).toNat, by omega⟩
      have hj : j < 5 := by omega
      have hN : nameV cs = (0, csN j) := by rw [hcj]; exact nameV_yes hj
      rw [hN] at HI HS
      have HC : Hid (∀ w, TabC w → Calls Tryd.prog 8 #[.string (csN j)] w fun e w' => e = .returned (.agg #[.int .i64 0, .int .i64 cs]) ∧ Below w.heap.size w w') := fun w ht => by
        obtain ⟨t, h1, h2, h3, h4⟩ := csOf_name j hj
        have h := charsetOf_any t _ w rfl h2 (by omega) ht
        rw [h4, ← h1] at h
        rw [hcj]
        exact h
      generalize csN j = s at *
      clear hcs hcj hN hj
      go_wp2_with fail
      refine (HI.out _ (htC.below HB1.out)).mono ?_
      rintro e w2 ⟨rfl, hb2⟩
      simp only
      have hz2 := hb2.size
      have HB2 : Hid (Below w.heap.size w (w2.alloc (.cells #[.int .i64 0, .string s] 28))) := (HB1.out.trans (hb2.mono hz1)).alloc (by omega) _
      obtain ⟨k0, k1, -, -⟩ := res_block (w := w2) (wr := w2.alloc (.cells #[.int .i64 0, .string s] 28)) rfl (Below.refl _ _)
      have hsW : (w2.alloc (.cells #[.int .i64 0, .string s] 28)).heap.size = w2.heap.size + 1 := by simp
      have ht2 : TabC (w2.alloc (.cells #[.int .i64 0, .string s] 28)) := htC.below HB2.out
      clear hb2 HI HB1
      go_wp2_with fail
      generalize w2.alloc (.cells #[.int .i64 0, .string s] 28) = W at *
      generalize w2.heap.size = g at *
      have hgg : g < W.heap.size := by omega
      refine wp_region_held_drew (S := fun w' => w'.cell? ⟨g, 1, none⟩ = some (.string s)) (by kernel_rfl) ?hS27 (fun hHeld => ?_)
      case hS27 => exact k1
      refine wpAnyH_take (i := 0) (v := ?_) rfl (by kernel_rfl) (by kernel_rfl) (by kernel_rfl) (fun _ _ _ h => h) (Or.inl ⟨by rfl, ?hy28⟩) (by assumption) ?ty28
      case hy28 => (intro w hSw; (try dsimp only at hSw); go_simp; all_goals with_reducible rfl)
      simp only [Act.put, List.getElem_toArray, List.getElem_cons_zero, List.setIfInBounds_toArray, List.set_cons_zero, List.set_cons_succ]
      refine wpAnyH_take (i := 1) (v := ?_) rfl (by kernel_rfl) (by kernel_rfl) (by kernel_rfl) (fun _ _ _ h => h) (Or.inl ⟨by rfl, ?hy29⟩) (by assumption) ?ty29
      case hy29 => (intro w hSw; (try dsimp only at hSw); go_simp; all_goals with_reducible rfl)
      simp only [Act.put, List.getElem_toArray, List.getElem_cons_zero, List.getElem_cons_succ, List.setIfInBounds_toArray, List.set_cons_zero, List.set_cons_succ]
      refine wpAnyH_take (i := 4) (v := ?_) rfl (by kernel_rfl) (by kernel_rfl) (by kernel_rfl) (fun _ _ _ h => h) (Or.inl ⟨by rfl, ?hy30⟩) (by assumption) ?ty30
      case hy30 => (intro w hSw; (try dsimp only at hSw); go_simp; all_goals with_reducible rfl)
      simp only [Act.put, List.getElem_toArray, List.getElem_cons_zero, List.getElem_cons_succ, List.setIfInBounds_toArray, List.set_cons_zero, List.set_cons_succ]
      refine wpAnyH_ready (rs := [2]) (by kernel_rfl) (by simp) ?_
      refine AllReadyH.cons rfl (fun K hK => ?_) AllReadyH.nil
      go_simp
      refine (HC.out _ (by exact ht2)).mono ?_
      rintro e u3 ⟨rfl, hb3⟩
      have n1 : u3.cell? ⟨g, 1, none⟩ = some (.string s) := (hb3.cell (p := ⟨g, 1, none⟩) (by exact hgg)).trans k1
      refine hK.out _ _ n1 (fun hHeld => ?_)
      clear hK K
      have HU3 : Hid (Below W.heap.size W u3) := (Below.refl _ _).drew.trans hb3
      have hg3 : g < u3.heap.size := Nat.lt_of_lt_of_le hgg HU3.out.size
      clear hb3 k1
      refine wpAnyH_take (i := 3) (v := ?_) rfl (by kernel_rfl) (by kernel_rfl) (by kernel_rfl) (fun _ _ _ h => h) (Or.inl ⟨by rfl, ?hy31⟩) (by assumption) ?ty31
      case hy31 => (intro w hSw; (try dsimp only at hSw); go_simp; all_goals with_reducible rfl)
      simp only [Act.put, List.getElem_toArray, List.getElem_cons_zero, List.getElem_cons_succ, List.setIfInBounds_toArray, List.set_cons_zero, List.set_cons_succ]
      refine wpAnyH_take (i := 5) (v := .bool true) rfl (by kernel_rfl) (by kernel_rfl) (by kernel_rfl) (fun _ _ _ h => h) (Or.inl ⟨by rfl, ?hy32⟩) (by assumption) ?ty32
      case hy32 => (intro w hSw; (try dsimp only at hSw); go_simp; first | (simp; done) | (all_goals with_reducible rfl))
      simp only [Act.put, List.getElem_toArray, List.getElem_cons_zero, List.getElem_cons_succ, List.setIfInBounds_toArray, List.set_cons_zero, List.set_cons_succ]
      refine wpAnyH_take (i := 6) (v := ?_) rfl (by kernel_rfl) (by kernel_rfl) (by kernel_rfl) (fun _ _ _ h => h) (Or.inl ⟨by rfl, ?hy33⟩) (by assumption) ?ty33
      case hy33 => (intro w hSw; (try dsimp only at hSw); go_simp; all_goals with_reducible rfl)
      simp only [Act.put, List.getElem_toArray, List.getElem_cons_zero, List.getElem_cons_succ, List.setIfInBounds_toArray, List.set_cons_zero, List.set_cons_succ]
      refine wpAnyH_take (i := 7) (v := ?_) rfl (by kernel_rfl) (by kernel_rfl) (by kernel_rfl) (fun _ _ _ h => h) (Or.inl ⟨by rfl, ?hy34⟩) (by assumption) ?ty34
      case hy34 => (intro w hSw; (try dsimp only at hSw); go_simp; all_goals with_reducible rfl)
      simp only [Act.put, List.getElem_toArray, List.getElem_cons_zero, List.getElem_cons_succ, List.setIfInBounds_toArray, List.set_cons_zero, List.set_cons_succ]
      refine wpAnyH_take (i := 8) (v := ?_) rfl (by kernel_rfl) (by kernel_rfl) (by kernel_rfl) (fun _ _ _ h => h) (Or.inl ⟨by rfl, ?hy35⟩) (by assumption) ?ty35
      case hy35 => (intro w hSw; (try dsimp only at hSw); go_simp; all_goals with_reducible rfl)
      simp only [Act.put, List.getElem_toArray, List.getElem_cons_zero, List.getElem_cons_succ, List.setIfInBounds_toArray, List.set_cons_zero, List.set_cons_succ]
      refine wpAnyH_ready (rs := [9]) (by kernel_rfl) (by simp) ?_
      refine AllReadyH.cons rfl (fun K hK => ?_) AllReadyH.nil
      go_simp
      refine (HC.out _ (by exact ht2.below HU3.out)).mono ?_
      rintro e u4 ⟨rfl, hb4⟩
      have p1 : u4.cell? ⟨g, 1, none⟩ = some (.string s) := (hb4.cell (p := ⟨g, 1, none⟩) (by exact hg3)).trans n1
      refine hK.out _ _ p1 (fun hHeld => ?_)
      clear hK K
      have HU4 : Hid (Below W.heap.size W u4) := HU3.out.trans (hb4.mono HU3.out.size)
      have hg4 : g < u4.heap.size := Nat.lt_of_lt_of_le hgg HU4.out.size
      clear hb4 n1 HU3 hg3
      refine wpAnyH_take (i := 10) (v := ?_) rfl (by kernel_rfl) (by kernel_rfl) (by kernel_rfl) (fun _ _ _ h => h) (Or.inl ⟨by rfl, ?hy36⟩) (by assumption) ?ty36
      case hy36 => (intro w hSw; (try dsimp only at hSw); go_simp; all_goals with_reducible rfl)
      simp only [Act.put, List.getElem_toArray, List.getElem_cons_zero, List.getElem_cons_succ, List.setIfInBounds_toArray, List.set_cons_zero, List.set_cons_succ]
      refine wpAnyH_take (i := 11) (v := .bool true) rfl (by kernel_rfl) (by kernel_rfl) (by kernel_rfl) (fun _ _ _ h => h) (Or.inl ⟨by rfl, ?hy37⟩) (by assumption) ?ty37
      case hy37 => (intro w hSw; (try dsimp only at hSw); go_simp; first | (simp; done) | (all_goals with_reducible rfl))
      simp only [Act.put, List.getElem_toArray, List.getElem_cons_zero, List.getElem_cons_succ, List.setIfInBounds_toArray, List.set_cons_zero, List.set_cons_succ]
      refine wpAnyH_take (i := 12) (v := ?_) rfl (by kernel_rfl) (by kernel_rfl) (by kernel_rfl) (fun _ _ _ h => h) (Or.inl ⟨by rfl, ?hy38⟩) (by assumption) ?ty38
      case hy38 => (intro w hSw; (try dsimp only at hSw); go_simp; all_goals with_reducible rfl)
      simp only [Act.put, List.getElem_toArray, List.getElem_cons_zero, List.getElem_cons_succ, List.setIfInBounds_toArray, List.set_cons_zero, List.set_cons_succ]
      refine wpAnyH_take (i := 13) (v := ?_) rfl (by kernel_rfl) (by kernel_rfl) (by kernel_rfl) (fun _ _ _ h => h) (Or.inl ⟨by rfl, ?hy39⟩) (by assumption) ?ty39
      case hy39 => (intro w hSw; (try dsimp only at hSw); go_simp; all_goals with_reducible rfl)
      simp only [Act.put, List.getElem_toArray, List.getElem_cons_zero, List.getElem_cons_succ, List.setIfInBounds_toArray, List.set_cons_zero, List.set_cons_succ]
      refine wpAnyH_take (i := 14) (v := ?_) rfl (by kernel_rfl) (by kernel_rfl) (by kernel_rfl) (fun _ _ _ h => h) (Or.inl ⟨by rfl, ?hy40⟩) (by assumption) ?ty40
      case hy40 => (intro w hSw; (try dsimp only at hSw); go_simp; all_goals with_reducible rfl)
      simp only [Act.put, List.getElem_toArray, List.getElem_cons_zero, List.getElem_cons_succ, List.setIfInBounds_toArray, List.set_cons_zero, List.set_cons_succ]
      refine wpAnyH_take (i := 15) (v := ?_) rfl (by kernel_rfl) (by kernel_rfl) (by kernel_rfl) (fun _ _ _ h => h) (Or.inl ⟨by rfl, ?hy41⟩) (by assumption) ?ty41
      case hy41 => (intro w hSw; (try dsimp only at hSw); go_simp; all_goals with_reducible rfl)
      simp only [Act.put, List.getElem_toArray, List.getElem_cons_zero, List.getElem_cons_succ, List.setIfInBounds_toArray, List.set_cons_zero, List.set_cons_succ]
      refine wpAnyH_take (i := 16) (v := ?_) rfl (by kernel_rfl) (by kernel_rfl) (by kernel_rfl) (fun _ _ _ h => h) (Or.inl ⟨by rfl, ?hy42⟩) (by assumption) ?ty42
      case hy42 => (intro w hSw; (try dsimp only at hSw); go_simp; all_goals with_reducible rfl)
      simp only [Act.put, List.getElem_toArray, List.getElem_cons_zero, List.getElem_cons_succ, List.setIfInBounds_toArray, List.set_cons_zero, List.set_cons_succ]
      refine wpAnyH_ready (rs := [17]) (by kernel_rfl) (by simp) ?_
      refine AllReadyH.cons rfl (fun K hK => ?_) AllReadyH.nil
      go_simp
      refine (HS.out _).mono ?_
      rintro e u5 ⟨rfl, hb5⟩
      have q1 : u5.cell? ⟨g, 1, none⟩ = some (.string s) := (hb5.cell (p := ⟨g, 1, none⟩) (by exact hg4)).trans p1
      refine hK.out _ _ q1 (fun hHeld => ?_)
      clear hK K
      have HU5 : Hid (Below W.heap.size W u5) := HU4.out.trans (hb5.mono HU4.out.size)
      clear hb5 p1 HU4 hg4
      refine wpAnyH_take (i := 18) (v := ?_) rfl (by kernel_rfl) (by kernel_rfl) (by kernel_rfl) (fun _ _ _ h => h) (Or.inl ⟨by rfl, ?hy43⟩) (by assumption) ?ty43
      case hy43 => (intro w hSw; (try dsimp only at hSw); go_simp; all_goals with_reducible rfl)
      simp only [Act.put, List.getElem_toArray, List.getElem_cons_zero, List.getElem_cons_succ, List.setIfInBounds_toArray, List.set_cons_zero, List.set_cons_succ]
      refine wpAnyH_take (i := 19) (v := .bool true) rfl (by kernel_rfl) (by kernel_rfl) (by kernel_rfl) (fun _ _ _ h => h) (Or.inl ⟨by rfl, ?hy44⟩) (by assumption) ?ty44
      case hy44 => (intro w hSw; (try dsimp only at hSw); go_simp; first | (simp; done) | (all_goals with_reducible rfl))
      simp only [Act.put, List.getElem_toArray, List.getElem_cons_zero, List.getElem_cons_succ, List.setIfInBounds_toArray, List.set_cons_zero, List.set_cons_succ]
      refine wpAnyH_take (i := 20) (v := ?_) rfl (by kernel_rfl) (by kernel_rfl) (by kernel_rfl) (fun _ _ _ h => h) (Or.inl ⟨by rfl, ?hy45⟩) (by assumption) ?ty45
      case hy45 => (intro w hSw; (try dsimp only at hSw); go_simp; all_goals with_reducible rfl)
      simp only [Act.put, List.getElem_toArray, List.getElem_cons_zero, List.getElem_cons_succ, List.setIfInBounds_toArray, List.set_cons_zero, List.set_cons_succ]
      refine wpAnyH_take (i := 21) (v := ?_) rfl (by kernel_rfl) (by kernel_rfl) (by kernel_rfl) (fun _ _ _ h => h) (Or.inl ⟨by rfl, ?hy46⟩) (by assumption) ?ty46
      case hy46 => (intro w hSw; (try dsimp only at hSw); go_simp; all_goals with_reducible rfl)
      simp only [Act.put, List.getElem_toArray, List.getElem_cons_zero, List.getElem_cons_succ, List.setIfInBounds_toArray, List.set_cons_zero, List.set_cons_succ]
      refine wpAnyH_done (by kernel_rfl) ?_ _
      have HB3 : Hid (Below w.heap.size w u5) := HB2.out.trans (HU5.out.mono HB2.out.size)
      clear hHeld q1 HB2 HS HC HU5
      go_wp2
      go_ret
      exact ⟨rfl, HB3.out⟩
    · rw [nameV_no hcs] at HI HS
      clear hcs
      go_wp2_with fail
      refine (HI.out _ (htC.below HB1.out)).mono ?_
      rintro e w2 ⟨rfl, hb2⟩
      simp only
      have hz2 := hb2.size
      have HB2 : Hid (Below w.heap.size w (w2.alloc (.cells #[.int .i64 4, .string ByteArray.empty] 28))) := (HB1.out.trans (hb2.mono hz1)).alloc (by omega) _
      obtain ⟨k0, k1, -, -⟩ := res_block (w := w2) (wr := w2.alloc (.cells #[.int .i64 4, .string ByteArray.empty] 28)) rfl (Below.refl _ _)
      have hsW : (w2.alloc (.cells #[.int .i64 4, .string ByteArray.empty] 28)).heap.size = w2.heap.size + 1 := by simp
      clear hb2 HI HB1
      go_wp2_with fail
      generalize w2.alloc (.cells #[.int .i64 4, .string ByteArray.empty] 28) = W at *
      generalize w2.heap.size = g at *
      have hgg : g < W.heap.size := by omega
      refine wp_region_held_drew (S := fun w' => w'.cell? ⟨g, 0, none⟩ = some (.int .i64 4)) (by kernel_rfl) ?hS47 (fun hHeld => ?_)
      case hS47 => exact k0
      refine wpAnyH_take (i := 0) (v := ?_) rfl (by kernel_rfl) (by kernel_rfl) (by kernel_rfl) (fun _ _ _ h => h) (Or.inl ⟨by rfl, ?hy48⟩) (by assumption) ?ty48
      case hy48 => (intro w hSw; (try dsimp only at hSw); go_simp; all_goals with_reducible rfl)
      simp only [Act.put, List.getElem_toArray, List.getElem_cons_zero, List.setIfInBounds_toArray, List.set_cons_zero, List.set_cons_succ]
      refine wpAnyH_take (i := 3) (v := ?_) rfl (by kernel_rfl) (by kernel_rfl) (by kernel_rfl) (fun _ _ _ h => h) (Or.inl ⟨by rfl, ?hy49⟩) (by assumption) ?ty49
      case hy49 => (intro w hSw; (try dsimp only at hSw); go_simp; all_goals with_reducible rfl)
      simp only [Act.put, List.getElem_toArray, List.getElem_cons_zero, List.getElem_cons_succ, List.setIfInBounds_toArray, List.set_cons_zero, List.set_cons_succ]
      refine wpAnyH_take (i := 4) (v := ?_) rfl (by kernel_rfl) (by kernel_rfl) (by kernel_rfl) (fun _ _ _ h => h) (Or.inl ⟨by rfl, ?hy50⟩) (by assumption) ?ty50
      case hy50 => (intro w hSw; (try dsimp only at hSw); go_simp; all_goals with_reducible rfl)
      simp only [Act.put, List.getElem_toArray, List.getElem_cons_zero, List.getElem_cons_succ, List.setIfInBounds_toArray, List.set_cons_zero, List.set_cons_succ]
      refine wpAnyH_ready (rs := [1]) (by kernel_rfl) (by simp) ?_
      refine AllReadyH.cons rfl (fun K hK => ?_) AllReadyH.nil
      go_simp
      refine (HS.out _).mono ?_
      rintro e u3 ⟨rfl, hb3⟩
      simp only
      have n0 : u3.cell? ⟨g, 0, none⟩ = some (.int .i64 4) := (hb3.cell (p := ⟨g, 0, none⟩) (by exact hgg)).trans k0
      refine hK.out _ _ n0 (fun hHeld => ?_)
      clear hK K
      refine wpAnyH_take (i := 2) (v := ?_) rfl (by kernel_rfl) (by kernel_rfl) (by kernel_rfl) (fun _ _ _ h => h) (Or.inl ⟨by rfl, ?hy51⟩) (by assumption) ?ty51
      case hy51 => (intro w hSw; (try dsimp only at hSw); go_simp; all_goals with_reducible rfl)
      simp only [Act.put, List.getElem_toArray, List.getElem_cons_zero, List.getElem_cons_succ, List.setIfInBounds_toArray, List.set_cons_zero, List.set_cons_succ]
      refine wpAnyH_take (i := 5) (v := .bool true) rfl (by kernel_rfl) (by kernel_rfl) (by kernel_rfl) (fun _ _ _ h => h) (Or.inl ⟨by rfl, ?hy52⟩) (by assumption) ?ty52
      case hy52 => (intro w hSw; (try dsimp only at hSw); go_simp; first | (simp; done) | (all_goals with_reducible rfl))
      simp only [Act.put, List.getElem_toArray, List.getElem_cons_zero, List.getElem_cons_succ, List.setIfInBounds_toArray, List.set_cons_zero, List.set_cons_succ]
      refine wpAnyH_take (i := 6) (v := ?_) rfl (by kernel_rfl) (by kernel_rfl) (by kernel_rfl) (fun _ _ _ h => h) (Or.inl ⟨by rfl, ?hy53⟩) (by assumption) ?ty53
      case hy53 => (intro w hSw; (try dsimp only at hSw); go_simp; all_goals with_reducible rfl)
      simp only [Act.put, List.getElem_toArray, List.getElem_cons_zero, List.getElem_cons_succ, List.setIfInBounds_toArray, List.set_cons_zero, List.set_cons_succ]
      refine wpAnyH_done (by kernel_rfl) ?_ _
      have HB3 : Hid (Below w.heap.size w u3) := HB2.out.trans (((Below.refl _ _).drew.trans hb3).mono HB2.out.size)
      clear hHeld k0 n0 hb3 HB2 HS
      go_wp2
      go_ret
      exact ⟨rfl, HB3.out⟩
end Go.Proofs.YtjkhlkmibajhiaaDoor
