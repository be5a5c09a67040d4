/- KeyOf, the program's and the model's, at every text: both by one plain function. -/
import Derived.Test.YtahalpbgoganmaaDoorNam2
namespace Go.Proofs.YtahalpbgoganmaaDoor
open Go.RowKit

/-- The words of the keys. -/
def kyZ : List (List UInt8) := [[100, 97, 116, 101], [115, 105, 122, 101], [115, 117, 98, 106, 101, 99, 116], [97, 114, 114, 105, 118, 97, 108]]
def kyN (i : Nat) : ByteArray := txt (kyZ.getD i [])
/-- THE TABLE LIES IN ITS VARIABLE. -/
def TabE (w : World) : Prop := ∀ v, v < 4 → w.cell? ⟨0, v, none⟩ = some (.string (kyN v))
theorem TabE.below {w w' : World} (h : TabE w) (hb : Below w.heap.size w w') : TabE w' := fun v hv =>
  (hb.cell (p := ⟨0, v, none⟩) (World.block_lt_of_cell? w ⟨0, 0, none⟩ (h 0 (by decide)))).trans (h v hv)
theorem kyRow_at (w : World) (t : TypeId) (j : Nat) (hj : j < 4) : (w.alloc (.cells #[.string ⟨#[]⟩, .string ⟨#[100, 97, 116, 101]⟩, .string ⟨#[115, 105, 122, 101]⟩, .string ⟨#[115, 117, 98, 106, 101, 99, 116]⟩, .string ⟨#[97, 114, 114, 105, 118, 97, 108]⟩] t)).cell? ⟨w.heap.size, j + 1, none⟩ = some (.string (kyN j)) := by
  rw [World.cell?_alloc_mark]
  match j, hj with
  | 0, _ => rfl
  | 1, _ => rfl
  | 2, _ => rfl
  | 3, _ => rfl
def kyV (s : ByteArray) : Int × Int := ofV (findN kyN s 4)
theorem kyV_none {s : ByteArray} (h : ∀ i, i < 4 → kyN i ≠ s) : kyV s = (4, 0) := by unfold kyV; rw [findN_none h]; rfl
theorem kyV_some {s : ByteArray} {j : Nat} (h : ∀ i, i < j → kyN i ≠ s) (hj : kyN j = s) (h3 : j < 4) : kyV s = (0, (j : Int) + 1) := by unfold kyV; rw [findN_some h hj h3]; rfl

set_option maxHeartbeats 1600000 in
set_option maxRecDepth 100000 in
theorem keyOf_any (s : ByteArray) (w : World) (ht : TabE w) : Calls Tryd.prog 5 #[.string s] w fun e w' => IntEnd (kyV s) w e w' := by
  have hb0 : Below w.heap.size w (w.alloc (.cells #[.int .i64 0, .int .i64 0] 23)) := (Below.refl _ _).alloc (Nat.le_refl _) _
  have ht0 := ht.below hb0
  have hWs : (w.alloc (.cells #[.int .i64 0, .int .i64 0] 23)).heap.size = w.heap.size + 1 := by simp
  go_enter Tryd.func5, Tryd.ntmps5
  go_wp2
  generalize hW : w.alloc (.cells #[.int .i64 0, .int .i64 0] 23) = W at *
  go_loopw [4] (fun v wr => ∃ j : Nat, j ≤ 4 ∧ v = .int .i64 j ∧ (∀ i, i < j → kyN i ≠ s) ∧ wr = W) (fun v _ => 4 - (intOf v).toNat)
  case atStart => exact ⟨0, by omega, rfl, fun i hi => by omega, rfl⟩
  case round =>
    obtain ⟨j, hj, rfl, hno, rfl⟩ := hrel
    obtain ⟨hcw, hcw1, hfw, hfw1⟩ := res_block hW (Below.refl _ _)
    by_cases hj4 : j < 4
    · have hc := ht0 j hj4
      have hlt : 0 < w.heap.size + 1 := by rw [← hWs]; exact World.block_lt_of_cell? _ _ hc
      have h3 : (j : Int) < 4 := by omega
      by_cases hx : kyN j = s
      · have HX : Hid (kyV s = (0, (j : Int) + 1)) := kyV_some hno hx hj4
        rw [hx] at hc
        clear hno hx ht0 ht
        obtain ⟨hk0, hk1⟩ := res_cells hcw hcw1 (.int .i64 0) (.int .i64 ((j : Int) + 1))
        go_wp2
        refine bodyPost_ret (v := .agg #[.int .i64 0, .int .i64 ((j : Int) + 1)]) (by simp [results, Tryd.results5, go_sem, hk0, hk1]) rfl ?_
        rw [HX.out]
        exact IntEnd.put hb0 _ _
      · have HN : Hid (∀ i, i < j + 1 → kyN i ≠ s) := fun i hi => by
          by_cases hij : i < j
          · exact hno i hij
          · have : i = j := by omega
            subst this; exact hx
        generalize kyN j = x at *
        have e0 := txt_ne hx
        clear hno ht0 ht hcw hcw1 hfw hfw1
        go_wp2
        go_roundw
        case rel => exact ⟨j + 1, by omega, by go_num, HN.out, by trivial⟩
        case measure => simp [intOf]; omega
    · have HX : Hid (kyV s = (4, 0)) := kyV_none (fun i hi => hno i (by omega))
      have h3 : ¬ (j : Int) < 4 := by omega
      obtain ⟨hk0, hk1⟩ := res_cells hcw hcw1 (.int .i64 4) (.int .i64 0)
      clear hno
      go_wp2
      refine bodyPost_ret (v := .agg #[.int .i64 4, .int .i64 0]) (by simp [results, Tryd.results5, go_sem, hk0, hk1]) rfl ?_
      rw [HX.out]
      exact IntEnd.put hb0 _ _

set_option maxHeartbeats 1600000 in
set_option maxRecDepth 100000 in
theorem specKeyOf_any (s : ByteArray) (w : World) : Calls Tryd.prog 4 #[.string s] w fun e w' => IntEnd (kyV s) w e w' := by
  have hb0 : Below w.heap.size w (w.alloc (.cells #[.int .i64 0, .int .i64 0] 23)) := (Below.refl _ _).alloc (Nat.le_refl _) _
  have hWs : (w.alloc (.cells #[.int .i64 0, .int .i64 0] 23)).heap.size = w.heap.size + 1 := by simp
  have hr : ∀ j, j < 4 → _ := fun j hj => kyRow_at (w.alloc (.cells #[.int .i64 0, .int .i64 0] 23)) 9 j hj
  rw [hWs] at hr
  go_enter Tryd.func4, Tryd.ntmps4
  go_wp2
  generalize hW : w.alloc (.cells #[.int .i64 0, .int .i64 0] 23) = W at *
  have hbV : Below (w.heap.size + 1) W (W.alloc (.cells #[.string ⟨#[]⟩, .string ⟨#[100, 97, 116, 101]⟩, .string ⟨#[115, 105, 122, 101]⟩, .string ⟨#[115, 117, 98, 106, 101, 99, 116]⟩, .string ⟨#[97, 114, 114, 105, 118, 97, 108]⟩] 9)) := (Below.refl _ _).alloc (by omega) _
  have hVs : (W.alloc (.cells #[.string ⟨#[]⟩, .string ⟨#[100, 97, 116, 101]⟩, .string ⟨#[115, 105, 122, 101]⟩, .string ⟨#[115, 117, 98, 106, 101, 99, 116]⟩, .string ⟨#[97, 114, 114, 105, 118, 97, 108]⟩] 9)).heap.size = w.heap.size + 2 := by simp [hWs]
  generalize hV : W.alloc (.cells #[.string ⟨#[]⟩, .string ⟨#[100, 97, 116, 101]⟩, .string ⟨#[115, 105, 122, 101]⟩, .string ⟨#[115, 117, 98, 106, 101, 99, 116]⟩, .string ⟨#[97, 114, 114, 105, 118, 97, 108]⟩] 9) = V at *
  have hbE : Below w.heap.size w V := hb0.trans (hbV.mono (by omega))
  go_loopw [4] (fun v wr => ∃ j : Nat, j ≤ 4 ∧ v = .int .i64 ((j : Int) + 1) ∧ (∀ i, i < j → kyN i ≠ s) ∧ wr = V) (fun v _ => 6 - (intOf v).toNat)
  case atStart => exact ⟨0, by omega, rfl, fun i hi => by omega, rfl⟩
  case round =>
    obtain ⟨j, hj, rfl, hno, rfl⟩ := hrel
    obtain ⟨hcw, hcw1, hfw, hfw1⟩ := res_block hW hbV
    by_cases hj4 : j < 4
    · have hc := hr j hj4
      have h4 : (j : Int) + 1 ≤ 4 := by omega
      have h5 : (j : Int) + 1 < 5 := by omega
      have h6 : ((j : Int) + 1).toNat = j + 1 := by omega
      by_cases hx : kyN j = s
      · have HX : Hid (kyV s = (0, (j : Int) + 1)) := kyV_some hno hx hj4
        rw [hx] at hc
        clear hno hx hr
        obtain ⟨hk0, hk1⟩ := res_cells hcw hcw1 (.int .i64 0) (.int .i64 ((j : Int) + 1))
        go_wp2
        refine bodyPost_ret (v := .agg #[.int .i64 0, .int .i64 ((j : Int) + 1)]) (by simp [results, Tryd.results4, go_sem, hk0, hk1]) rfl ?_
        rw [HX.out]
        exact IntEnd.put hbE _ _
      · have HN : Hid (∀ i, i < j + 1 → kyN i ≠ s) := fun i hi => by
          by_cases hij : i < j
          · exact hno i hij
          · have : i = j := by omega
            subst this; exact hx
        generalize kyN j = x at *
        have e0 := txt_ne hx
        clear hno hr hcw hcw1 hfw hfw1
        go_wp2
        go_roundw
        case rel => exact ⟨j + 1, by omega, by go_num, HN.out, by trivial⟩
        case measure => simp [intOf]; omega
    · have HX : Hid (kyV s = (4, 0)) := kyV_none (fun i hi => hno i (by omega))
      have h3 : ¬ (j : Int) + 1 ≤ 4 := by omega
      obtain ⟨hk0, hk1⟩ := res_cells hcw hcw1 (.int .i64 4) (.int .i64 0)
      clear hno hr
      go_wp2
      refine bodyPost_ret (v := .agg #[.int .i64 4, .int .i64 0]) (by simp [results, Tryd.results4, go_sem, hk0, hk1]) rfl ?_
      rw [HX.out]
      exact IntEnd.put hbE _ _
end Go.Proofs.YtahalpbgoganmaaDoor
