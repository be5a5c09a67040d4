/- WhatOf, the program's and the model's, at every text: both by one plain function. -/
import Derived.Test.YtaiificlempeaaaDoorNam2
namespace Go.Proofs.YtaiificlempeaaaDoor
open Go.RowKit

/-- The words of what is fetched, at the places of their numbers. -/
def whZ : List (List UInt8) := [[], [102, 108, 97, 103, 115], [115, 105, 122, 101], [98, 111, 100, 121], [98, 121, 116, 101, 115], [116, 101, 120, 116], [112, 114, 101, 118, 105, 101, 119], [115, 117, 98, 106, 101, 99, 116]]
def whN (i : Nat) : ByteArray := txt (whZ.getD (i + 1) [])
/-- THE TABLE LIES IN ITS VARIABLE. -/
def TabH (w : World) : Prop := ∀ v, v < 7 → w.cell? ⟨0, v + 1, none⟩ = some (.string (whN v))
theorem TabH.below {w w' : World} (h : TabH w) (hb : Below w.heap.size w w') : TabH w' := fun v hv =>
  (hb.cell (p := ⟨0, v + 1, none⟩) (World.block_lt_of_cell? w ⟨0, 1, none⟩ (h 0 (by decide)))).trans (h v hv)
theorem whRow_at (w : World) (t : TypeId) (j : Nat) (hj : j < 7) : (w.alloc (.cells #[.string ⟨#[]⟩, .string ⟨#[102, 108, 97, 103, 115]⟩, .string ⟨#[115, 105, 122, 101]⟩, .string ⟨#[98, 111, 100, 121]⟩, .string ⟨#[98, 121, 116, 101, 115]⟩, .string ⟨#[116, 101, 120, 116]⟩, .string ⟨#[112, 114, 101, 118, 105, 101, 119]⟩, .string ⟨#[115, 117, 98, 106, 101, 99, 116]⟩] t)).cell? ⟨w.heap.size, j + 1, none⟩ = some (.string (whN j)) := by
  rw [World.cell?_alloc_mark]
  match j, hj with
  | 0, _ => rfl
  | 1, _ => rfl
  | 2, _ => rfl
  | 3, _ => rfl
  | 4, _ => rfl
  | 5, _ => rfl
  | 6, _ => rfl
def whV (s : ByteArray) : Int × Int := ofV (findN whN s 7)
theorem whV_none {s : ByteArray} (h : ∀ i, i < 7 → whN i ≠ s) : whV s = (4, 0) := by unfold whV; rw [findN_none h]; rfl
theorem whV_some {s : ByteArray} {j : Nat} (h : ∀ i, i < j → whN i ≠ s) (hj : whN j = s) (h3 : j < 7) : whV s = (0, (j : Int) + 1) := by unfold whV; rw [findN_some h hj h3]; rfl

set_option maxHeartbeats 1600000 in
set_option maxRecDepth 100000 in
theorem whatWord_any (j : Nat) (w : World) (hj : j < 7) (ht : TabH w) : Calls Tryd.prog 9 #[.int .i64 ((j : Int) + 1)] w fun e w' => e = .returned (.string (whN j)) ∧ w' = w := by
  have hc := ht j hj
  have h4 : (j : Int) + 1 < 8 := by omega
  have h5 : (0 : Int) ≤ (j : Int) + 1 := by omega
  have h6 : ((j : Int) + 1).toNat = j + 1 := by omega
  generalize whN j = x at *
  clear ht
  go_enter Tryd.func9, Tryd.ntmps9
  go_wp2
  go_ret
  exact ⟨rfl, rfl⟩

set_option maxHeartbeats 1600000 in
set_option maxRecDepth 100000 in
theorem numberOfWhat_any (s : ByteArray) (w : World) (ht : TabH w) : Calls Tryd.prog 8 #[.string s, .int .i64 7, .func (.func 9) #[] #[]] w fun e w' => e = .returned (.int .i64 (whV s).2) ∧ w' = w := by
  have HC : Hid (∀ j : Nat, j < 7 → Calls Tryd.prog 9 #[.int .i64 ((j : Int) + 1)] w fun e w' => e = .returned (.string (whN j)) ∧ w' = w) := fun j hj => whatWord_any j w hj ht
  clear ht
  go_enter Tryd.func8, Tryd.ntmps8
  go_wp2
  go_loopw [7] (fun v wr => ∃ j : Nat, j ≤ 7 ∧ v = .int .i64 ((j : Int) + 1) ∧ (∀ i, i < j → whN i ≠ s) ∧ wr = w) (fun v _ => 9 - (intOf v).toNat)
  case atStart => exact ⟨0, by omega, rfl, fun i hi => by omega, rfl⟩
  case round =>
    obtain ⟨j, hj, rfl, hno, rfl⟩ := hrel
    by_cases hj7 : j < 7
    · have h4 : (j : Int) + 1 ≤ 7 := by omega
      have HW := HC.out j hj7
      by_cases hx : whN j = s
      · have HX : Hid (whV s = (0, (j : Int) + 1)) := whV_some hno hx hj7
        rw [hx] at HW
        clear hno hx
        go_wp2_with fail
        refine HW.mono ?_
        rintro e w' ⟨rfl, rfl⟩
        go_wp2
        go_ret
        exact ⟨by rw [HX.out]; rfl, rfl⟩
      · have HN : Hid (∀ i, i < j + 1 → whN i ≠ s) := fun i hi => by
          by_cases hij : i < j
          · exact hno i hij
          · have : i = j := by omega
            subst this; exact hx
        generalize whN j = x at HW hx
        have e0 := txt_ne hx
        clear hno
        go_wp2_with fail
        refine HW.mono ?_
        rintro e w' ⟨rfl, rfl⟩
        go_wp2
        go_roundw
        case rel => exact ⟨j + 1, by omega, by go_num, HN.out, by trivial⟩
        case measure => simp [intOf]; omega
    · have HX : Hid (whV s = (4, 0)) := whV_none (fun i hi => hno i (by omega))
      have h3 : ¬ (j : Int) + 1 ≤ 7 := by omega
      clear hno
      go_wp2
      go_ret
      exact ⟨by rw [HX.out]; rfl, rfl⟩

theorem whV_or (s : ByteArray) : (whV s).1 = 4 ∧ (whV s).2 = 0 ∨ (whV s).1 = 0 ∧ 0 < (whV s).2 := by
  unfold whV ofV
  cases findN whN s 7 with
  | none => exact .inl ⟨rfl, rfl⟩
  | some j => exact .inr ⟨rfl, by show (0 : Int) < (j : Int) + 1; omega⟩

set_option maxHeartbeats 1600000 in
set_option maxRecDepth 100000 in
theorem whatOf_any (s : ByteArray) (w : World) (ht : TabH w) : Calls Tryd.prog 5 #[.string s] w fun e w' => IntEnd (whV s) w e w' := by
  have hb0 : Below w.heap.size w (w.alloc (.cells #[.int .i64 0, .int .i64 0] 23)) := (Below.refl _ _).alloc (Nat.le_refl _) _
  have ht0 := ht.below hb0
  have hWs : (w.alloc (.cells #[.int .i64 0, .int .i64 0] 23)).heap.size = w.heap.size + 1 := by simp
  have HC := numberOfWhat_any s _ ht0
  have hor := whV_or s
  generalize whV s = v at *
  obtain ⟨c, x⟩ := v
  dsimp only at hor HC
  clear ht ht0
  go_enter Tryd.func5, Tryd.ntmps5
  go_wp2_with fail
  refine HC.mono ?_
  rintro e w1 ⟨rfl, rfl⟩
  generalize hW : w.alloc (.cells #[.int .i64 0, .int .i64 0] 23) = W at *
  obtain ⟨hcw, hcw1, hfw, hfw1⟩ := res_block hW (Below.refl _ _)
  rcases hor with ⟨rfl, rfl⟩ | ⟨rfl, hx⟩
  · obtain ⟨hk0, hk1⟩ := res_cells hcw hcw1 (.int .i64 4) (.int .i64 0)
    go_wp2
    refine bodyPost_ret (v := .agg #[.int .i64 4, .int .i64 0]) (by simp [results, Tryd.results5, go_sem, hk0, hk1]) rfl ?_
    exact IntEnd.put hb0 _ _
  · have hx0 : ¬ x = 0 := by omega
    obtain ⟨hk0, hk1⟩ := res_cells hcw hcw1 (.int .i64 0) (.int .i64 x)
    go_wp2
    refine bodyPost_ret (v := .agg #[.int .i64 0, .int .i64 x]) (by simp [results, Tryd.results5, go_sem, hk0, hk1]) rfl ?_
    exact IntEnd.put hb0 _ _

set_option maxHeartbeats 1600000 in
set_option maxRecDepth 100000 in
theorem l14What_any (j : Nat) (w : World) (hj : j < 7) : Calls Tryd.prog 7 #[.int .i64 ((j : Int) + 1)] w fun e w' => e = .returned (.string (whN j)) ∧ Below w.heap.size w w' := by
  have hc := whRow_at w 9 j hj
  have hbV : Below w.heap.size w (w.alloc (.cells #[.string ⟨#[]⟩, .string ⟨#[102, 108, 97, 103, 115]⟩, .string ⟨#[115, 105, 122, 101]⟩, .string ⟨#[98, 111, 100, 121]⟩, .string ⟨#[98, 121, 116, 101, 115]⟩, .string ⟨#[116, 101, 120, 116]⟩, .string ⟨#[112, 114, 101, 118, 105, 101, 119]⟩, .string ⟨#[115, 117, 98, 106, 101, 99, 116]⟩] 9)) := (Below.refl _ _).alloc (by omega) _
  have h4 : (j : Int) + 1 < 8 := by omega
  have h5 : (0 : Int) ≤ (j : Int) + 1 := by omega
  have h6 : ((j : Int) + 1).toNat = j + 1 := by omega
  generalize whN j = x at *
  go_enter Tryd.func7, Tryd.ntmps7
  go_wp2
  go_ret
  exact ⟨rfl, hbV⟩

set_option maxHeartbeats 1600000 in
set_option maxRecDepth 100000 in
theorem specWhatOf_any (s : ByteArray) (w : World) : Calls Tryd.prog 4 #[.string s] w fun e w' => IntEnd (whV s) w e w' := by
  have hb0 : Below w.heap.size w (w.alloc (.cells #[.int .i64 0, .int .i64 0] 23)) := (Below.refl _ _).alloc (Nat.le_refl _) _
  have hWs : (w.alloc (.cells #[.int .i64 0, .int .i64 0] 23)).heap.size = w.heap.size + 1 := by simp
  go_enter Tryd.func4, Tryd.ntmps4
  go_wp2
  generalize hW : w.alloc (.cells #[.int .i64 0, .int .i64 0] 23) = W at *
  go_loopw [3] (fun v wr => ∃ j : Nat, j ≤ 7 ∧ v = .int .i64 ((j : Int) + 1) ∧ (∀ i, i < j → whN i ≠ s) ∧ Below (w.heap.size + 1) W wr) (fun v _ => 9 - (intOf v).toNat)
  case atStart => exact ⟨0, by omega, rfl, fun i hi => by omega, Below.refl _ _⟩
  case round =>
    obtain ⟨j, hj, rfl, hno, hbl⟩ := hrel
    have hz : w.heap.size + 1 ≤ wr.heap.size := by have := hbl.size; omega
    by_cases hj7 : j < 7
    · have h4 : (j : Int) + 1 ≤ 7 := by omega
      have HW := l14What_any j wr hj7
      by_cases hx : whN j = s
      · have HX : Hid (whV s = (0, (j : Int) + 1)) := whV_some hno hx hj7
        rw [hx] at HW
        clear hno hx
        go_wp2_with fail
        refine HW.mono ?_
        rintro e w1 ⟨rfl, hb1⟩
        have hbl1 := hbl.trans (hb1.mono hz)
        obtain ⟨hcw, hcw1, hfw, hfw1⟩ := res_block hW hbl1
        have hbE : Below w.heap.size w w1 := hb0.trans (hbl1.mono (by omega))
        obtain ⟨hk0, hk1⟩ := res_cells hcw hcw1 (.int .i64 0) (.int .i64 ((j : Int) + 1))
        go_wp2
        refine bodyPost_ret (v := .agg #[.int .i64 0, .int .i64 ((j : Int) + 1)]) (by simp [results, Tryd.results4, go_sem, hk0, hk1]) rfl ?_
        rw [HX.out]
        exact IntEnd.put hbE _ _
      · have HN : Hid (∀ i, i < j + 1 → whN i ≠ s) := fun i hi => by
          by_cases hij : i < j
          · exact hno i hij
          · have : i = j := by omega
            subst this; exact hx
        generalize whN j = x at HW hx
        have e0 := txt_ne hx
        clear hno
        go_wp2_with fail
        refine HW.mono ?_
        rintro e w1 ⟨rfl, hb1⟩
        have hbl1 := hbl.trans (hb1.mono hz)
        go_wp2
        go_roundw
        case rel => exact ⟨j + 1, by omega, by go_num, HN.out, hbl1⟩
        case measure => simp [intOf]; omega
    · have HX : Hid (whV s = (4, 0)) := whV_none (fun i hi => hno i (by omega))
      have h3 : ¬ (j : Int) + 1 ≤ 7 := by omega
      obtain ⟨hcw, hcw1, hfw, hfw1⟩ := res_block hW hbl
      have hbE : Below w.heap.size w wr := hb0.trans (hbl.mono (by omega))
      obtain ⟨hk0, hk1⟩ := res_cells hcw hcw1 (.int .i64 4) (.int .i64 0)
      clear hno
      go_wp2
      refine bodyPost_ret (v := .agg #[.int .i64 4, .int .i64 0]) (by simp [results, Tryd.results4, go_sem, hk0, hk1]) rfl ?_
      rw [HX.out]
      exact IntEnd.put hbE _ _
end Go.Proofs.YtaiificlempeaaaDoor
