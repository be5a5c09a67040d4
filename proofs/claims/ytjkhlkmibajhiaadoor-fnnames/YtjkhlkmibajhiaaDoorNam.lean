/- The names of the charsets and of the comparators: the program's and the model's functions answer by one plain function each. -/
import Derived.Test.YtjkhlkmibajhiaaDoorTbs
namespace Go.Proofs.YtjkhlkmibajhiaaDoor
open Go.RowKit

/-- The names of the charsets, and those of the comparators. -/
def csZ : List (List UInt8) := [[117, 115, 45, 97, 115, 99, 105, 105], [105, 115, 111, 45, 56, 56, 53, 57, 45, 49], [105, 115, 111, 45, 56, 56, 53, 57, 45, 53], [117, 116, 102, 45, 56], [117, 116, 102, 45, 49, 54]]
def cmZ : List (List UInt8) := [[105, 59, 111, 99, 116, 101, 116], [105, 59, 97, 115, 99, 105, 105, 45, 99, 97, 115, 101, 109, 97, 112], [105, 59, 117, 110, 105, 99, 111, 100, 101, 45, 99, 97, 115, 101, 109, 97, 112]]
/-- The name at a place. -/
def csN (i : Nat) : ByteArray := txt (csZ.getD i [])
def cmN (i : Nat) : ByteArray := txt (cmZ.getD i [])
/-- THE TABLES LIE IN THEIR VARIABLES. -/
def TabC (w : World) : Prop := ∀ v, v < 5 → w.cell? ⟨0, v, none⟩ = some (.string (csN v))
theorem TabC.below {w w' : World} (h : TabC w) (hb : Below w.heap.size w w') : TabC w' := fun v hv =>
  (hb.cell (p := ⟨0, v, none⟩) (World.block_lt_of_cell? w ⟨0, 0, none⟩ (h 0 (by decide)))).trans (h v hv)
def TabK (w : World) : Prop := ∀ v, v < 3 → w.cell? ⟨1, v, none⟩ = some (.string (cmN v))
theorem TabK.below {w w' : World} (h : TabK w) (hb : Below w.heap.size w w') : TabK w' := fun v hv =>
  (hb.cell (p := ⟨1, v, none⟩) (World.block_lt_of_cell? w ⟨1, 0, none⟩ (h 0 (by decide)))).trans (h v hv)

/-- A number lies between two others: a plain word. -/
def inB (v a b : Int) : Bool := decide (a ≤ v ∧ v ≤ b)
theorem inB_yes {v a b : Int} (h : a ≤ v ∧ v ≤ b) : inB v a b = true := decide_eq_true h
theorem inB_no {v a b : Int} (h : ¬ (a ≤ v ∧ v ≤ b)) : inB v a b = false := decide_eq_false h
theorem l1In_any (v a b : Int) (w : World) : Calls Tryd.prog 28 #[.int .i64 v, .int .i64 a, .int .i64 b] w fun e w' => e = .returned (.bool (inB v a b)) ∧ w = w' := by
  by_cases h1 : a ≤ v
  · by_cases h2 : v ≤ b
    · have H : Hid (inB v a b = true) := inB_yes ⟨h1, h2⟩
      go_enter Tryd.func28, Tryd.ntmps28
      go_wp2
      go_ret
      exact ⟨by rw [H.out]; rfl, rfl⟩
    · have H : Hid (inB v a b = false) := inB_no (fun h => h2 h.2)
      go_enter Tryd.func28, Tryd.ntmps28
      go_wp2
      go_ret
      exact ⟨by rw [H.out]; rfl, rfl⟩
  · have H : Hid (inB v a b = false) := inB_no (fun h => h1 h.1)
    go_enter Tryd.func28, Tryd.ntmps28
    go_wp2
    go_ret
    exact ⟨by rw [H.out]; rfl, rfl⟩
theorem l2Set_any (cs : Int) (w : World) : Calls Tryd.prog 21 #[.int .i64 cs] w fun e w' => e = .returned (.bool (inB cs 1 5)) ∧ w = w' := by
  go_enter Tryd.func21, Tryd.ntmps21
  go_wp2_with fail
  refine (l1In_any _ _ _ _).mono ?_
  rintro e w' ⟨rfl, rfl⟩
  go_wp2
  go_ret
  exact ⟨rfl, rfl⟩

theorem csRow_at (w : World) (t : TypeId) (j : Nat) (hj : j < 5) : (w.alloc (.cells #[.string ⟨#[]⟩, .string ⟨#[117, 115, 45, 97, 115, 99, 105, 105]⟩, .string ⟨#[105, 115, 111, 45, 56, 56, 53, 57, 45, 49]⟩, .string ⟨#[105, 115, 111, 45, 56, 56, 53, 57, 45, 53]⟩, .string ⟨#[117, 116, 102, 45, 56]⟩, .string ⟨#[117, 116, 102, 45, 49, 54]⟩] t)).cell? ⟨w.heap.size, j + 1, none⟩ = some (.string (csN j)) := by
  rw [World.cell?_alloc_mark]
  match j, hj with
  | 0, _ => rfl
  | 1, _ => rfl
  | 2, _ => rfl
  | 3, _ => rfl
  | 4, _ => rfl
theorem cmRow_at (w : World) (t : TypeId) (j : Nat) (hj : j < 3) : (w.alloc (.cells #[.string ⟨#[]⟩, .string ⟨#[105, 59, 111, 99, 116, 101, 116]⟩, .string ⟨#[105, 59, 97, 115, 99, 105, 105, 45, 99, 97, 115, 101, 109, 97, 112]⟩, .string ⟨#[105, 59, 117, 110, 105, 99, 111, 100, 101, 45, 99, 97, 115, 101, 109, 97, 112]⟩] t)).cell? ⟨w.heap.size, j + 1, none⟩ = some (.string (cmN j)) := by
  rw [World.cell?_alloc_mark]
  match j, hj with
  | 0, _ => rfl
  | 1, _ => rfl
  | 2, _ => rfl

set_option maxHeartbeats 1600000 in
set_option maxRecDepth 100000 in
theorem l2Name_any (j : Nat) (hj : j < 5) (w : World) : Calls Tryd.prog 22 #[.int .i64 ((j + 1 : Nat) : Int)] w fun e w' => e = .returned (.string (csN j)) ∧ Below w.heap.size w w' := by
  have hc := csRow_at w 9 j hj
  have h1 : ((j + 1 : Nat) : Int) < 6 := by omega
  go_enter Tryd.func22, Tryd.ntmps22
  go_wp2
  go_ret
  exact ⟨rfl, by go_grown⟩
set_option maxHeartbeats 1600000 in
set_option maxRecDepth 100000 in
theorem l3Name_any (j : Nat) (hj : j < 3) (w : World) : Calls Tryd.prog 25 #[.int .i64 ((j + 1 : Nat) : Int)] w fun e w' => e = .returned (.string (cmN j)) ∧ Below w.heap.size w w' := by
  have hc := cmRow_at w 9 j hj
  have h1 : ((j + 1 : Nat) : Int) < 4 := by omega
  go_enter Tryd.func25, Tryd.ntmps25
  go_wp2
  go_ret
  exact ⟨rfl, by go_grown⟩

/-- What CharsetName answers. -/
def nameV (cs : Int) : Int × ByteArray := if 1 ≤ cs ∧ cs ≤ 5 then (0, csN (cs.toNat - 1)) else (4, ByteArray.empty)
theorem nameV_no {cs : Int} (h : ¬ (1 ≤ cs ∧ cs ≤ 5)) : nameV cs = (4, ByteArray.empty) := if_neg h
theorem nameV_yes {j : Nat} (h : j < 5) : nameV ((j + 1 : Nat) : Int) = (0, csN j) := by
  unfold nameV; rw [if_pos (by omega)]; congr 2
/-- An answer with a text. -/
def TxtAns (r : Int × ByteArray) (w : World) (e : Ending) (w' : World) : Prop := e = .returned (.agg #[.int .i64 r.1, .string r.2]) ∧ Below w.heap.size w w'

set_option maxHeartbeats 1600000 in
set_option maxRecDepth 100000 in
theorem charsetName_any (cs : Int) (w : World) (ht : TabC w) : Calls Tryd.prog 11 #[.int .i64 cs] w fun e w' => TxtAns (nameV cs) w e w' := by
  by_cases h : 1 ≤ cs ∧ cs ≤ 5
  · obtain ⟨j, rfl⟩ : ∃ j : Nat, cs = ((j + 1 : Nat) : Int) := ⟨(cs - 1).toNat, by omega⟩
    have hj : j < 5 := by omega
    rw [nameV_yes hj]
    have hc := ht j hj
    have hlt : 0 < w.heap.size := World.block_lt_of_cell? w _ hc
    generalize csN j = s at *
    rw [show ((j + 1 : Nat) : Int) = (j : Int) + 1 by omega] at *
    have h1 : ¬ (j : Int) + 1 < 1 := by omega
    have h2 : ¬ (5 : Int) < (j : Int) + 1 := by omega
    have h3 : (j : Int) + 1 - 1 = (j : Int) := by omega
    have h4 : (j : Int) < 5 := by omega
    clear h
    go_enter Tryd.func11, Tryd.ntmps11
    go_wp2
    go_returns
    exact ⟨rfl, by go_grown⟩
  · rw [nameV_no h]
    by_cases h1 : cs < 1
    · go_enter Tryd.func11, Tryd.ntmps11
      go_wp2
      go_returns
      exact ⟨rfl, by go_grown⟩
    · have h2 : 5 < cs := by omega
      go_enter Tryd.func11, Tryd.ntmps11
      go_wp2
      go_returns
      exact ⟨rfl, by go_grown⟩

set_option maxHeartbeats 1600000 in
set_option maxRecDepth 100000 in
theorem specCharsetName_any (cs : Int) (w : World) : Calls Tryd.prog 10 #[.int .i64 cs] w fun e w' => TxtAns (nameV cs) w e w' := by
  by_cases h : 1 ≤ cs ∧ cs ≤ 5
  · obtain ⟨j, rfl⟩ : ∃ j : Nat, cs = ((j + 1 : Nat) : Int) := ⟨(cs - 1).toNat, by omega⟩
    have hj : j < 5 := by omega
    rw [nameV_yes hj]
    have H : Hid (inB ((j + 1 : Nat) : Int) 1 5 = true) := inB_yes h
    have HN : Hid (∀ w, Calls Tryd.prog 22 #[.int .i64 ((j + 1 : Nat) : Int)] w fun e w' => e = .returned (.string (csN j)) ∧ Below w.heap.size w w') := fun w => l2Name_any j hj w
    have hb0 : Below w.heap.size w (w.alloc (.cells #[.int .i64 0, .string ByteArray.empty] 28)) := (Below.refl _ _).alloc (Nat.le_refl _) _
    generalize csN j = s at *
    generalize ((j + 1 : Nat) : Int) = x at *
    go_enter Tryd.func10, Tryd.ntmps10
    go_wp2_with fail
    refine (l2Set_any _ _).mono ?_
    rintro e w' ⟨rfl, rfl⟩
    rw [H.out]
    go_wp2_with fail
    refine (HN.out _).mono ?_
    rintro e w1 ⟨rfl, hb1⟩
    have hbl : Below (w.heap.size + 1) (w.alloc (.cells #[.int .i64 0, .string ByteArray.empty] 28)) w1 := hb1.mono (by simp)
    obtain ⟨hcw, hcw1, hfw, hfw1⟩ := res_block rfl hbl
    have hbE : Below w.heap.size w w1 := hb0.trans (hbl.mono (by omega))
    obtain ⟨hk0, hk1⟩ := res_cells hcw hcw1 (.int .i64 0) (.string s)
    clear hb1 hbl HN H
    go_wp2
    refine bodyPost_ret (v := .agg #[.int .i64 0, .string s]) (by simp [results, Tryd.results10, go_sem, hk0, hk1]) rfl ?_
    exact ⟨rfl, (hbE.setCell (by simp) _).setCell (by simp) _⟩
  · rw [nameV_no h]
    have H : Hid (inB cs 1 5 = false) := inB_no h
    go_enter Tryd.func10, Tryd.ntmps10
    go_wp2_with fail
    refine (l2Set_any _ _).mono ?_
    rintro e w' ⟨rfl, rfl⟩
    rw [H.out]
    go_wp2
    go_returns
    exact ⟨rfl, by go_grown⟩

theorem eqTextResult_same (c : Int) (s : ByteArray) (w : World) :
    Calls Tryd.prog 12 #[.agg #[.int .i64 c, .string s], .agg #[.int .i64 c, .string s]] w fun e w' => e = .returned (.bool true) ∧ Below w.heap.size w w' := by
  go_enter Tryd.func12, Tryd.ntmps12
  go_wp2
  go_ret
  exact ⟨rfl, by go_grown⟩
theorem eqIntResult_same (c v : Int) (w : World) :
    Calls Tryd.prog 9 #[.agg #[.int .i64 c, .int .i64 v], .agg #[.int .i64 c, .int .i64 v]] w fun e w' => e = .returned (.bool true) ∧ Below w.heap.size w w' := by
  go_enter Tryd.func9, Tryd.ntmps9
  go_wp2
  go_ret
  exact ⟨rfl, by go_grown⟩
end Go.Proofs.YtjkhlkmibajhiaaDoor
