/- Small letters, the program's and the model's: both by one plain function; texts of at most 1048576 bytes · CharsetOf, the program's and the model's: both by one plain function; texts of at most 1048576 bytes. -/
import Derived.Test.YtknbndebfickpaaDoorTbsToCv
namespace Go.Proofs.YtknbndebfickpaaDoor
open Go.RowKit

/-- The small letter of a large one. -/
def low (b : Nat) : Nat := if 65 ≤ b ∧ b ≤ 90 then b + 32 else b
theorem low_yes {b : Nat} (h : 65 ≤ b ∧ b ≤ 90) : low b = b + 32 := if_pos h
theorem low_no {b : Nat} (h : ¬ (65 ≤ b ∧ b ≤ 90)) : low b = b := if_neg h
/-- A text, its first k letters small. -/
def lowK (l : List Nat) (k : Nat) : List Nat := (l.take k).map low ++ l.drop k
theorem lowK_zero (l : List Nat) : lowK l 0 = l := by simp [lowK]
theorem lowK_all (l : List Nat) : lowK l l.length = l.map low := by simp [lowK]
theorem lowK_len (l : List Nat) (k : Nat) (h : k ≤ l.length) : (lowK l k).length = l.length := by simp [lowK]; omega
theorem lowK_nth (l : List Nat) (k : Nat) (h : k < l.length) : nth (lowK l k) k = nth l k := by
  have hl := lowK_len l k (by omega)
  rw [nth_get (by omega), nth_get h]
  unfold lowK
  rw [List.getElem_append_right (by simp; omega)]
  simp [Nat.min_eq_left (Nat.le_of_lt h)]
theorem lowK_set (l : List Nat) (k : Nat) (h : k < l.length) : (lowK l k).set k (low (nth l k)) = lowK l (k + 1) := by
  unfold lowK
  have hm : ((l.take k).map low).length = k := by simp; omega
  rw [take_snoc l k h, List.map_append, List.set_append, hm, if_neg (Nat.lt_irrefl k), Nat.sub_self, drop_cons l k h]
  simp
theorem lowK_same (l : List Nat) (k : Nat) (h : k < l.length) (hx : low (nth l k) = nth l k) : lowK l k = lowK l (k + 1) := by
  rw [← lowK_set l k h, hx]
  apply List.ext_getElem (by simp)
  intro i h1 h2
  rw [List.getElem_set]
  split
  · rename_i e
    subst e
    have := lowK_nth l k h
    rw [nth_get h1] at this
    exact this
  · rfl

set_option maxHeartbeats 1600000 in
set_option maxRecDepth 100000 in
theorem smallLetters_any (t : List Nat) (n : Nat) (w : World) (hl : t.length = n) (hB : IsB t) (hn : n ≤ 1048576) :
    Calls Tryd.prog 69 #[.string (str t)] w fun e w' => e = .returned (.string (str (t.map low))) ∧ Below w.heap.size w w' := by
  have hsz : (str t).size = n := by rw [str_size, hl]
  have hcv := fun wx => run_bytes_of_string (P := Tryd.prog) wx 9 44 5 (str t) Tryd.underlying9 Tryd.underlying44 Tryd.underlying5
  rw [hsz] at hcv
  go_enter Tryd.func69, Tryd.ntmps69
  go_wp2
  have hcap := grownCap_ge w n 0 5
  clear hcv
  generalize grownCap w n 0 5 = cp at *
  have hC : Cv (w.alloc (.cells (bytesRow (str t) cp) 5 ((bytesRow (str t) cp).size, (bytesRow (str t) cp).size + 1))).drew w.heap.size n cp t := by
    have := Cv.conv w t hB cp (by omega)
    rw [hl] at this
    exact this
  have hb0 : Below w.heap.size w (w.alloc (.cells (bytesRow (str t) cp) 5 ((bytesRow (str t) cp).size, (bytesRow (str t) cp).size + 1))).drew := ((Below.refl _ _).alloc (Nat.le_refl _) _).drew
  generalize (w.alloc (.cells (bytesRow (str t) cp) 5 ((bytesRow (str t) cp).size, (bytesRow (str t) cp).size + 1))).drew = W at *
  go_loopw [10] (fun i wr => ∃ k : Nat, k ≤ n ∧ i = .int .i64 k ∧ Cv wr w.heap.size n cp (lowK t k) ∧ Below w.heap.size w wr) (fun i _ => n - (intOf i).toNat)
  case atStart => exact ⟨0, Nat.zero_le _, rfl, by rw [lowK_zero]; exact hC, hb0⟩
  case round =>
    obtain ⟨k, hk, rfl, hcv, hbel⟩ := hrel
    clear hC hb0
    by_cases hkn : k < n
    · have hki : (k : Int) < (n : Int) := by omega
      have hc : wr.cell? ⟨w.heap.size, k, none⟩ = some (.int .u8 (nth t k : Int)) := by
        have := hcv.2.2.2.1 k hkn
        rw [lowK_nth t k (by omega)] at this
        exact this
      have hx := nth_lt hB k
      have HS : Hid ((lowK t k).set k (low (nth t k)) = lowK t (k + 1)) := lowK_set t k (by omega)
      have HE : Hid (low (nth t k) = nth t k → lowK t k = lowK t (k + 1)) := fun h => lowK_same t k (by omega) h
      have hf := (hcv.2.2.2.2 k (by omega)).2
      have hlt := hcv.2.2.1
      generalize nth t k = x at *
      by_cases hL : 65 ≤ x ∧ x ≤ 90
      · have h1 : (65 : Int) ≤ (x : Int) := by omega
        have h2 : (x : Int) ≤ 90 := by omega
        have HP : Hid (Cv (wr.setCell ⟨w.heap.size, k, none⟩ (.int .u8 ((x + 32 : Nat) : Int))) w.heap.size n cp (lowK t (k + 1))) := by
          show Cv _ _ _ _ _
          rw [← HS.out, low_yes hL]
          exact hcv.put hkn
        have hb' : Below w.heap.size w (wr.setCell ⟨w.heap.size, k, none⟩ (.int .u8 ((x + 32 : Nat) : Int))) := hbel.setCell (by simp) _
        have ex : ((x + 32 : Nat) : Int) = (x : Int) + 97 - 65 := by omega
        rw [ex] at HP hb'
        clear HS HE hcv ex
        go_wp2
        go_roundw
        case rel => exact ⟨k + 1, by omega, by go_num, HP.out, hb'⟩
        case measure => simp [intOf]; omega
      · have HQ : Hid (Cv wr w.heap.size n cp (lowK t (k + 1))) := by
          show Cv _ _ _ _ _
          rw [← HE.out (low_no hL)]; exact hcv
        have hL' : decide (65 ≤ (x : Int)) = false ∨ (65 ≤ (x : Int)) ∧ ¬ ((x : Int) ≤ 90) := by
          by_cases h : (65 : Int) ≤ (x : Int)
          · exact .inr ⟨h, by omega⟩
          · exact .inl (decide_eq_false h)
        clear HS HE hcv hL
        rcases hL' with h1 | ⟨h1, h2⟩
        · go_wp2
          go_roundw
          case rel => exact ⟨k + 1, by omega, by go_num, HQ.out, hbel⟩
          case measure => simp [intOf]; omega
        · go_wp2
          go_roundw
          case rel => exact ⟨k + 1, by omega, by go_num, HQ.out, hbel⟩
          case measure => simp [intOf]; omega
    · have hkk : k = n := by omega
      subst hkk
      have hst := fun c' => run_str (cap := c') (n := k) (l := t.map low) (w := wr) (by simp; omega) (by
        have := hcv.rd
        rw [← hl, lowK_all] at this
        exact this)
      have h3 : ¬ (k : Int) < (k : Int) := by omega
      clear hcv
      go_wp2
      go_ret
      exact ⟨rfl, hbel⟩

set_option maxHeartbeats 1600000 in
set_option maxRecDepth 100000 in
theorem l2Lower_any (t : List Nat) (n : Nat) (w : World) (hl : t.length = n) (hB : IsB t) (hn : n ≤ 1048576) :
    Calls Tryd.prog 63 #[.string (str t)] w fun e w' => e = .returned (.string (str (t.map low))) ∧ Below w.heap.size w w' := by
  have hsz : (str t).size = n := by rw [str_size, hl]
  have hcv := fun wx => run_bytes_of_string (P := Tryd.prog) wx 9 44 5 (str t) Tryd.underlying9 Tryd.underlying44 Tryd.underlying5
  rw [hsz] at hcv
  go_enter Tryd.func63, Tryd.ntmps63
  go_wp2
  have hcap := grownCap_ge w n 0 5
  clear hcv
  generalize grownCap w n 0 5 = cp at *
  have hC : Cv (w.alloc (.cells (bytesRow (str t) cp) 5 ((bytesRow (str t) cp).size, (bytesRow (str t) cp).size + 1))).drew w.heap.size n cp t := by
    have := Cv.conv w t hB cp (by omega)
    rw [hl] at this
    exact this
  have hb0 : Below w.heap.size w (w.alloc (.cells (bytesRow (str t) cp) 5 ((bytesRow (str t) cp).size, (bytesRow (str t) cp).size + 1))).drew := ((Below.refl _ _).alloc (Nat.le_refl _) _).drew
  generalize (w.alloc (.cells (bytesRow (str t) cp) 5 ((bytesRow (str t) cp).size, (bytesRow (str t) cp).size + 1))).drew = W at *
  go_loopw [4] (fun i wr => ∃ k : Nat, k ≤ n ∧ i = .int .i64 k ∧ Cv wr w.heap.size n cp (lowK t k) ∧ Below w.heap.size w wr) (fun i _ => n - (intOf i).toNat)
  case atStart => exact ⟨0, Nat.zero_le _, rfl, by rw [lowK_zero]; exact hC, hb0⟩
  case round =>
    obtain ⟨k, hk, rfl, hcv, hbel⟩ := hrel
    clear hC hb0
    by_cases hkn : k < n
    · have hki : (k : Int) < (n : Int) := by omega
      have hc : wr.cell? ⟨w.heap.size, k, none⟩ = some (.int .u8 (nth t k : Int)) := by
        have := hcv.2.2.2.1 k hkn
        rw [lowK_nth t k (by omega)] at this
        exact this
      have hx := nth_lt hB k
      have HS : Hid ((lowK t k).set k (low (nth t k)) = lowK t (k + 1)) := lowK_set t k (by omega)
      have HE : Hid (low (nth t k) = nth t k → lowK t k = lowK t (k + 1)) := fun h => lowK_same t k (by omega) h
      have hf := (hcv.2.2.2.2 k (by omega)).2
      have hlt := hcv.2.2.1
      generalize nth t k = x at *
      by_cases hL : 65 ≤ x ∧ x ≤ 90
      · have h1 : (65 : Int) ≤ (x : Int) := by omega
        have h2 : (x : Int) ≤ 90 := by omega
        have HP : Hid (Cv (wr.setCell ⟨w.heap.size, k, none⟩ (.int .u8 ((x + 32 : Nat) : Int))) w.heap.size n cp (lowK t (k + 1))) := by
          show Cv _ _ _ _ _
          rw [← HS.out, low_yes hL]
          exact hcv.put hkn
        have hb' : Below w.heap.size w (wr.setCell ⟨w.heap.size, k, none⟩ (.int .u8 ((x + 32 : Nat) : Int))) := hbel.setCell (by simp) _
        have ex : ((x + 32 : Nat) : Int) = (x : Int) + 32 := by omega
        rw [ex] at HP hb'
        clear HS HE hcv ex
        go_wp2
        go_roundw
        case rel => exact ⟨k + 1, by omega, by go_num, HP.out, hb'⟩
        case measure => simp [intOf]; omega
      · have HQ : Hid (Cv wr w.heap.size n cp (lowK t (k + 1))) := by
          show Cv _ _ _ _ _
          rw [← HE.out (low_no hL)]; exact hcv
        have hL' : decide (65 ≤ (x : Int)) = false ∨ (65 ≤ (x : Int)) ∧ ¬ ((x : Int) ≤ 90) := by
          by_cases h : (65 : Int) ≤ (x : Int)
          · exact .inr ⟨h, by omega⟩
          · exact .inl (decide_eq_false h)
        clear HS HE hcv hL
        rcases hL' with h1 | ⟨h1, h2⟩
        · go_wp2
          go_roundw
          case rel => exact ⟨k + 1, by omega, by go_num, HQ.out, hbel⟩
          case measure => simp [intOf]; omega
        · go_wp2
          go_roundw
          case rel => exact ⟨k + 1, by omega, by go_num, HQ.out, hbel⟩
          case measure => simp [intOf]; omega
    · have hkk : k = n := by omega
      subst hkk
      have hst := fun c' => run_str (cap := c') (n := k) (l := t.map low) (w := wr) (by simp; omega) (by
        have := hcv.rd
        rw [← hl, lowK_all] at this
        exact this)
      have h3 : ¬ (k : Int) < (k : Int) := by omega
      clear hcv
      go_wp2
      go_ret
      exact ⟨rfl, hbel⟩
end Go.Proofs.YtknbndebfickpaaDoor

namespace Go.Proofs.YtknbndebfickpaaDoor
open Go.RowKit

/-- What CharsetOf answers of a text. -/
def csfV (s : ByteArray) : Int × Int := ofV (findN csN s 5)
theorem csfV_none {s : ByteArray} (h : ∀ i, i < 5 → csN i ≠ s) : csfV s = (4, 0) := by unfold csfV; rw [findN_none h]; rfl
theorem csfV_some {s : ByteArray} {j : Nat} (h : ∀ i, i < j → csN i ≠ s) (hj : csN j = s) (h3 : j < 5) : csfV s = (0, (j : Int) + 1) := by unfold csfV; rw [findN_some h hj h3]; rfl
/-- The number that the model looks for. -/
def ofN (o : Option Nat) : Int := match o with
  | some i => (i : Int) + 1
  | none => 0
def csI (s : ByteArray) : Int := ofN (findN csN s 5)
theorem csI_none {s : ByteArray} (h : ∀ i, i < 5 → csN i ≠ s) : csI s = 0 := by unfold csI; rw [findN_none h]; rfl
theorem csI_some {s : ByteArray} {j : Nat} (h : ∀ i, i < j → csN i ≠ s) (hj : csN j = s) (h3 : j < 5) : csI s = (j : Int) + 1 := by unfold csI; rw [findN_some h hj h3]; rfl
theorem csfV_csI (s : ByteArray) : csI s = 0 ∧ csfV s = (4, 0) ∨ csI s ≠ 0 ∧ csfV s = (0, csI s) := by
  unfold csI csfV
  cases findN csN s 5 with
  | none => exact .inl ⟨rfl, rfl⟩
  | some i => exact .inr ⟨by show (i : Int) + 1 ≠ 0; omega, rfl⟩

set_option maxHeartbeats 1600000 in
set_option maxRecDepth 100000 in
theorem charsetOf_any (t : List Nat) (n : Nat) (w : World) (hl : t.length = n) (hB : IsB t) (hn : n ≤ 1048576) (ht : TabC w) : Calls Tryd.prog 52 #[.string (str t)] w fun e w' => IntEnd (csfV (str (t.map low))) w e w' := by
  have hb0 : Below w.heap.size w (w.alloc (.cells #[.int .i64 0, .int .i64 0] 83)) := (Below.refl _ _).alloc (Nat.le_refl _) _
  have ht0 := ht.below hb0
  have hWs : (w.alloc (.cells #[.int .i64 0, .int .i64 0] 83)).heap.size = w.heap.size + 1 := by simp
  have HS : Hid (∀ w, Calls Tryd.prog 69 #[.string (str t)] w fun e w' => e = .returned (.string (str (t.map low))) ∧ Below w.heap.size w w') := fun w => smallLetters_any t n w hl hB hn
  generalize str (t.map low) = s at *
  go_enter Tryd.func52, Tryd.ntmps52
  go_wp2_with fail
  refine (HS.out _).mono ?_
  rintro e w1 ⟨rfl, hb1⟩
  generalize hW : w.alloc (.cells #[.int .i64 0, .int .i64 0] 83) = W at *
  have hbl : Below (w.heap.size + 1) W w1 := by rw [← hWs]; exact hb1
  have ht1 := ht0.below hb1
  have hbE : Below w.heap.size w w1 := hb0.trans (hbl.mono (by omega))
  obtain ⟨hcw, hcw1, hfw, hfw1⟩ := res_block hW hbl
  clear ht ht0 hb1
  go_wp2
  go_loopw [4] (fun v wr => ∃ j : Nat, j ≤ 5 ∧ v = .int .i64 ((j : Int) + 1) ∧ (∀ i, i < j → csN i ≠ s) ∧ wr = w1) (fun v _ => 7 - (intOf v).toNat)
  case atStart => exact ⟨0, by omega, rfl, fun i hi => by omega, rfl⟩
  case round =>
    obtain ⟨j, hj, rfl, hno, rfl⟩ := hrel
    by_cases hj3 : j < 5
    · have hc := ht1 j hj3
      have hlt : 1 < wr.heap.size := World.block_lt_of_cell? _ _ hc
      have h3 : (j : Int) + 1 ≤ 5 := by omega
      have h4 : (j : Int) + 1 - 1 = (j : Int) := by omega
      have h5 : (j : Int) < 5 := by omega
      by_cases hx : csN j = s
      · have HX : Hid (csfV s = (0, (j : Int) + 1)) := csfV_some hno hx hj3
        rw [hx] at hc
        clear hno hx ht1
        obtain ⟨hk0, hk1⟩ := res_cells hcw hcw1 (.int .i64 0) (.int .i64 ((j : Int) + 1))
        go_wp2
        refine bodyPost_ret (v := .agg #[.int .i64 0, .int .i64 ((j : Int) + 1)]) (by simp [results, Tryd.results52, go_sem, hk0, hk1]) rfl ?_
        rw [HX.out]
        exact IntEnd.put hbE _ _
      · have HN : Hid (∀ i, i < j + 1 → csN i ≠ s) := fun i hi => by
          by_cases hij : i < j
          · exact hno i hij
          · have : i = j := by omega
            subst this; exact hx
        generalize csN j = x at *
        have e0 := txt_ne hx
        clear hno ht1 hcw hcw1 hfw hfw1
        go_wp2
        go_roundw
        case rel => exact ⟨j + 1, by omega, by go_num, HN.out, by trivial⟩
        case measure => simp [intOf]; omega
    · have HX : Hid (csfV s = (4, 0)) := csfV_none (fun i hi => hno i (by omega))
      have h3 : ¬ (j : Int) + 1 ≤ 5 := by omega
      obtain ⟨hk0, hk1⟩ := res_cells hcw hcw1 (.int .i64 4) (.int .i64 0)
      clear hno
      go_wp2
      refine bodyPost_ret (v := .agg #[.int .i64 4, .int .i64 0]) (by simp [results, Tryd.results52, go_sem, hk0, hk1]) rfl ?_
      rw [HX.out]
      exact IntEnd.put hbE _ _

set_option maxHeartbeats 1600000 in
set_option maxRecDepth 100000 in
theorem l2Of_any (t : List Nat) (n : Nat) (w : World) (hl : t.length = n) (hB : IsB t) (hn : n ≤ 1048576) : Calls Tryd.prog 46 #[.string (str t)] w fun e w' => e = .returned (.int .i64 (csI (str (t.map low)))) ∧ Below w.heap.size w w' := by
  have HL : Hid (∀ w, Calls Tryd.prog 63 #[.string (str t)] w fun e w' => e = .returned (.string (str (t.map low))) ∧ Below w.heap.size w w') := fun w => l2Lower_any t n w hl hB hn
  generalize str (t.map low) = s at *
  go_enter Tryd.func46, Tryd.ntmps46
  go_wp2
  go_loopw [3] (fun v wr => ∃ j : Nat, j ≤ 5 ∧ v = .int .i64 ((j : Int) + 1) ∧ (∀ i, i < j → csN i ≠ s) ∧ Below w.heap.size w wr) (fun v _ => 7 - (intOf v).toNat)
  case atStart => exact ⟨0, by omega, rfl, fun i hi => by omega, Below.refl _ _⟩
  case round =>
    obtain ⟨j, hj, rfl, hno, hbel⟩ := hrel
    have hz := hbel.size
    by_cases hj3 : j < 5
    · have h3 : (j : Int) + 1 ≤ 5 := by omega
      have HC : Hid (∀ w, Calls Tryd.prog 62 #[.int .i64 ((j : Int) + 1)] w fun e w' => e = .returned (.string (csN j)) ∧ Below w.heap.size w w') := fun w => l2Name_any j hj3 w
      have HY : Hid (csN j = s → csI s = (j : Int) + 1) := fun hx => csI_some hno hx hj3
      have HN : Hid (csN j ≠ s → ∀ i, i < j + 1 → csN i ≠ s) := fun hx i hi => by
        by_cases hij : i < j
        · exact hno i hij
        · have : i = j := by omega
          subst this; exact hx
      generalize csN j = x at *
      clear hno
      go_wp2_with fail
      refine (HC.out _).mono ?_
      rintro e w1 ⟨rfl, hb1⟩
      go_wp2_with fail
      refine (HL.out _).mono ?_
      rintro e w2 ⟨rfl, hb2⟩
      have hbl : Below w.heap.size w w2 := (hbel.trans (hb1.mono hz)).trans (hb2.mono (by have := hb1.size; omega))
      clear hb1 hb2 HC HL
      by_cases hx : x = s
      · have HX : Hid (_) := HY.out hx
        clear HY HN
        subst hx
        go_wp2
        go_ret
        exact ⟨by rw [HX.out]; rfl, hbl⟩
      · have HM : Hid (_) := HN.out hx
        have e0 := txt_ne hx
        clear HY HN
        go_wp2
        go_roundw
        case rel => exact ⟨j + 1, by omega, by go_num, HM.out, hbl⟩
        case measure => simp [intOf]; omega
    · have HX : Hid (csI s = 0) := csI_none (fun i hi => hno i (by omega))
      have h3 : ¬ (j : Int) + 1 ≤ 5 := by omega
      clear hno
      go_wp2
      go_ret
      exact ⟨by rw [HX.out]; rfl, hbel⟩

end Go.Proofs.YtknbndebfickpaaDoor
