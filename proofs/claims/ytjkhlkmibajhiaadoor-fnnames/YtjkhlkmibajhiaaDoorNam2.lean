/- ComparatorOf, the program's and the model's, at every text: both by one plain function. -/
import Derived.Test.YtjkhlkmibajhiaaDoorNam
namespace Go.Proofs.YtjkhlkmibajhiaaDoor
open Go.RowKit

theorem toList_txt (l : List Nat) : (str l).toList = l.map UInt8.ofNat := by
  rw [ByteArray.toList_eq]; simp [str]
theorem txt_ne {x s : ByteArray} (h : x ≠ s) : (x.toList == s.toList) = false := by
  rw [beq_eq_false_iff_ne]
  intro he
  apply h
  obtain ⟨a, rfl, _⟩ := str_surj x
  obtain ⟨b, rfl, _⟩ := str_surj s
  rw [toList_txt, toList_txt] at he
  unfold str
  rw [he]

/-- The place of a name among the first n of a table. -/
def findN (f : Nat → ByteArray) (s : ByteArray) : Nat → Option Nat
  | 0 => none
  | n + 1 => match findN f s n with
    | some i => some i
    | none => if f n = s then some n else none
theorem findN_none {f : Nat → ByteArray} {s : ByteArray} : ∀ {n : Nat}, (∀ i, i < n → f i ≠ s) → findN f s n = none
  | 0, _ => rfl
  | n + 1, h => by
    rw [findN, findN_none (fun i hi => h i (by omega))]
    exact if_neg (h n (by omega))
theorem findN_some {f : Nat → ByteArray} {s : ByteArray} {j : Nat} (h : ∀ i, i < j → f i ≠ s) (hj : f j = s) : ∀ {n : Nat}, j < n → findN f s n = some j
  | 0, hn => by omega
  | n + 1, hn => by
    by_cases e : j = n
    · subst e
      rw [findN, findN_none h]
      exact if_pos hj
    · rw [findN, findN_some h hj (n := n) (by omega)]
/-- The answer of a look for a name. -/
def ofV (o : Option Nat) : Int × Int := match o with
  | some i => (0, (i : Int) + 1)
  | none => (4, 0)
def cmV (s : ByteArray) : Int × Int := ofV (findN cmN s 3)
theorem cmV_none {s : ByteArray} (h : ∀ i, i < 3 → cmN i ≠ s) : cmV s = (4, 0) := by unfold cmV; rw [findN_none h]; rfl
theorem cmV_some {s : ByteArray} {j : Nat} (h : ∀ i, i < j → cmN i ≠ s) (hj : cmN j = s) (h3 : j < 3) : cmV s = (0, (j : Int) + 1) := by unfold cmV; rw [findN_some h hj h3]; rfl
/-- An answer with one number. -/
def IntEnd (r : Int × Int) (w : World) (e : Ending) (w' : World) : Prop := e = .returned (.agg #[.int .i64 r.1, .int .i64 r.2]) ∧ Below w.heap.size w w'
theorem IntEnd.put {r : Int × Int} {w w1 : World} (hbel : Below w.heap.size w w1) (x y : Value) : IntEnd r w (.returned (.agg #[.int .i64 r.1, .int .i64 r.2])) ((w1.setCell ⟨w.heap.size, 0, none⟩ x).setCell ⟨w.heap.size, 1, none⟩ y) :=
  ⟨rfl, (hbel.setCell (by simp) _).setCell (by simp) _⟩

set_option maxHeartbeats 1600000 in
set_option maxRecDepth 100000 in
theorem comparatorOf_any (s : ByteArray) (w : World) (ht : TabK w) : Calls Tryd.prog 16 #[.string s] w fun e w' => IntEnd (cmV s) w e w' := by
  have hb0 : Below w.heap.size w (w.alloc (.cells #[.int .i64 0, .int .i64 0] 23)) := (Below.refl _ _).alloc (Nat.le_refl _) _
  have ht0 := ht.below hb0
  have hWs : (w.alloc (.cells #[.int .i64 0, .int .i64 0] 23)).heap.size = w.heap.size + 1 := by simp
  go_enter Tryd.func16, Tryd.ntmps16
  go_wp2
  generalize hW : w.alloc (.cells #[.int .i64 0, .int .i64 0] 23) = W at *
  go_loopw [4] (fun v wr => ∃ j : Nat, j ≤ 3 ∧ v = .int .i64 j ∧ (∀ i, i < j → cmN i ≠ s) ∧ wr = W) (fun v _ => 3 - (intOf v).toNat)
  case atStart => exact ⟨0, by omega, rfl, fun i hi => by omega, rfl⟩
  case round =>
    obtain ⟨j, hj, rfl, hno, rfl⟩ := hrel
    obtain ⟨hcw, hcw1, hfw, hfw1⟩ := res_block hW (Below.refl _ _)
    by_cases hj3 : j < 3
    · have hc := ht0 j hj3
      have hlt : 1 < w.heap.size + 1 := by rw [← hWs]; exact World.block_lt_of_cell? _ _ hc
      have h3 : (j : Int) < 3 := by omega
      by_cases hx : cmN j = s
      · have HX : Hid (cmV s = (0, (j : Int) + 1)) := cmV_some hno hx hj3
        rw [hx] at hc
        clear hno hx ht0 ht
        obtain ⟨hk0, hk1⟩ := res_cells hcw hcw1 (.int .i64 0) (.int .i64 ((j : Int) + 1))
        go_wp2
        refine bodyPost_ret (v := .agg #[.int .i64 0, .int .i64 ((j : Int) + 1)]) (by simp [results, Tryd.results16, go_sem, hk0, hk1]) rfl ?_
        rw [HX.out]
        exact IntEnd.put hb0 _ _
      · have HN : Hid (∀ i, i < j + 1 → cmN i ≠ s) := fun i hi => by
          by_cases hij : i < j
          · exact hno i hij
          · have : i = j := by omega
            subst this; exact hx
        generalize cmN j = x at *
        have e0 := txt_ne hx
        clear hno ht0 ht hcw hcw1 hfw hfw1
        go_wp2
        go_roundw
        case rel => exact ⟨j + 1, by omega, by go_num, HN.out, by trivial⟩
        case measure => simp [intOf]; omega
    · have HX : Hid (cmV s = (4, 0)) := cmV_none (fun i hi => hno i (by omega))
      have h3 : ¬ (j : Int) < 3 := by omega
      obtain ⟨hk0, hk1⟩ := res_cells hcw hcw1 (.int .i64 4) (.int .i64 0)
      clear hno
      go_wp2
      refine bodyPost_ret (v := .agg #[.int .i64 4, .int .i64 0]) (by simp [results, Tryd.results16, go_sem, hk0, hk1]) rfl ?_
      rw [HX.out]
      exact IntEnd.put hb0 _ _

set_option maxHeartbeats 1600000 in
set_option maxRecDepth 100000 in
theorem specComparatorOf_any (s : ByteArray) (w : World) : Calls Tryd.prog 17 #[.string s] w fun e w' => IntEnd (cmV s) w e w' := by
  have hb0 : Below w.heap.size w (w.alloc (.cells #[.int .i64 0, .int .i64 0] 23)) := (Below.refl _ _).alloc (Nat.le_refl _) _
  have hWs : (w.alloc (.cells #[.int .i64 0, .int .i64 0] 23)).heap.size = w.heap.size + 1 := by simp
  go_enter Tryd.func17, Tryd.ntmps17
  go_wp2
  generalize hW : w.alloc (.cells #[.int .i64 0, .int .i64 0] 23) = W at *
  go_loopw [3] (fun v wr => ∃ j : Nat, j ≤ 3 ∧ v = .int .i64 ((j : Int) + 1) ∧ (∀ i, i < j → cmN i ≠ s) ∧ Below (w.heap.size + 1) W wr) (fun v _ => 5 - (intOf v).toNat)
  case atStart => exact ⟨0, by omega, rfl, fun i hi => by omega, Below.refl _ _⟩
  case round =>
    obtain ⟨j, hj, rfl, hno, hbel⟩ := hrel
    have hz := hbel.size
    rw [hWs] at hz
    by_cases hj3 : j < 3
    · have h3 : (j : Int) + 1 ≤ 3 := by omega
      have HC : Hid (∀ w, Calls Tryd.prog 25 #[.int .i64 ((j : Int) + 1)] w fun e w' => e = .returned (.string (cmN j)) ∧ Below w.heap.size w w') := fun w => l3Name_any j hj3 w
      have HY : Hid (cmN j = s → cmV s = (0, (j : Int) + 1)) := fun hx => cmV_some hno hx hj3
      have HN : Hid (cmN j ≠ s → ∀ i, i < j + 1 → cmN i ≠ s) := fun hx i hi => by
        by_cases hij : i < j
        · exact hno i hij
        · have : i = j := by omega
          subst this; exact hx
      generalize cmN j = x at *
      clear hno
      go_wp2_with fail
      refine (HC.out _).mono ?_
      rintro e w1 ⟨rfl, hb1⟩
      have hbl : Below (w.heap.size + 1) W w1 := hbel.trans (hb1.mono hz)
      clear hb1 HC
      by_cases hx : x = s
      · have HX : Hid (_) := HY.out hx
        subst hx
        clear HY HN
        obtain ⟨hcw, hcw1, hfw, hfw1⟩ := res_block hW hbl
        have hbE : Below w.heap.size w w1 := hb0.trans (hbl.mono (by omega))
        obtain ⟨hk0, hk1⟩ := res_cells hcw hcw1 (.int .i64 0) (.int .i64 ((j : Int) + 1))
        go_wp2
        refine bodyPost_ret (v := .agg #[.int .i64 0, .int .i64 ((j : Int) + 1)]) (by simp [results, Tryd.results17, go_sem, hk0, hk1]) rfl ?_
        rw [HX.out]
        exact IntEnd.put hbE _ _
      · have HM : Hid (_) := HN.out hx
        have e0 := txt_ne hx
        clear HY HN
        go_wp2
        go_roundw
        case rel => exact ⟨j + 1, by omega, by go_num, HM.out, hbl⟩
        case measure => simp [intOf]; omega
    · have HX : Hid (cmV s = (4, 0)) := cmV_none (fun i hi => hno i (by omega))
      have h3 : ¬ (j : Int) + 1 ≤ 3 := by omega
      obtain ⟨hcw, hcw1, hfw, hfw1⟩ := res_block hW hbel
      have hbE : Below w.heap.size w wr := hb0.trans (hbel.mono (by omega))
      obtain ⟨hk0, hk1⟩ := res_cells hcw hcw1 (.int .i64 4) (.int .i64 0)
      clear hno
      go_wp2
      refine bodyPost_ret (v := .agg #[.int .i64 4, .int .i64 0]) (by simp [results, Tryd.results17, go_sem, hk0, hk1]) rfl ?_
      rw [HX.out]
      exact IntEnd.put hbE _ _
end Go.Proofs.YtjkhlkmibajhiaaDoor
