/- A slice of bytes that was made of a text: it may be written; no conditions beyond those that each fact names · Small letters, the program's and the model's: both by one plain function; texts of at most 1048576 bytes. -/
import Derived.Test.YtaefomiofoakhaaGreatDoorAppToMemF
namespace Go.Proofs.YtaefomiofoakhaaGreatDoor
open Go.RowKit

/-- A slice of bytes out of a text: n bytes l, room up to cap, in block g, which may be written. -/
def Cv (w : World) (g n cap : Nat) (l : List Nat) : Prop := l.length = n ∧ n ≤ cap ∧ g < w.heap.size ∧ (∀ i, i < n → w.cell? ⟨g, i, none⟩ = some (.int .u8 (nth l i : Int))) ∧ ∀ i, i < cap → (w.cell? ⟨g, i, none⟩).isSome = true ∧ w.frozen? ⟨g, i, none⟩ = false
theorem Cv.rd {w : World} {g n cap : Nat} {l : List Nat} (h : Cv w g n cap l) : Rd w (some ⟨g, 0, none⟩) l := by
  obtain ⟨hl, _, hg, hc, _⟩ := h
  exact .inr ⟨g, 0, rfl, hg, fun i hi => by rw [Nat.zero_add]; exact hc i (by omega)⟩
theorem Cv.kept {w w' : World} {g n cap b : Nat} {l : List Nat} (h : Cv w g n cap l) (hg : w.grownBy w' (some b)) (hb : b ≠ g) : Cv w' g n cap l := by
  obtain ⟨hl, hn, hlt, hc, hf⟩ := h
  have e1 : ∀ i, w'.cell? ⟨g, i, none⟩ = w.cell? ⟨g, i, none⟩ := fun i => hg.cell_far ⟨g, i, none⟩ hlt (by simp; omega)
  have e2 : ∀ i, w'.frozen? ⟨g, i, none⟩ = w.frozen? ⟨g, i, none⟩ := fun i => hg.frozen_far ⟨g, i, none⟩ hlt (by simp; omega)
  exact ⟨hl, hn, Nat.lt_of_lt_of_le hlt hg.size, fun i hi => (e1 i).trans (hc i hi), fun i hi => by rw [e1, e2]; exact hf i hi⟩
theorem Cv.below {w w' : World} {g n cap C : Nat} {l : List Nat} (h : Cv w g n cap l) (hb : Below C w w') (hC : g < C) : Cv w' g n cap l := by
  obtain ⟨hl, hn, hlt, hc, hf⟩ := h
  have e1 : ∀ i, w'.cell? ⟨g, i, none⟩ = w.cell? ⟨g, i, none⟩ := fun i => hb.cell (p := ⟨g, i, none⟩) hC
  have e2 : ∀ i, w'.frozen? ⟨g, i, none⟩ = w.frozen? ⟨g, i, none⟩ := fun i => hb.frozen (p := ⟨g, i, none⟩) hC
  exact ⟨hl, hn, Nat.lt_of_lt_of_le hlt hb.size, fun i hi => (e1 i).trans (hc i hi), fun i hi => by rw [e1, e2]; exact hf i hi⟩
theorem bytesRow_size (l : List Nat) (cap : Nat) (h : l.length ≤ cap) : (bytesRow (str l) cap).size = cap := by
  have := str_size l
  have e : (str l).data.size = (str l).size := rfl
  simp [bytesRow, e, this]; omega
theorem Cv.conv (w : World) (l : List Nat) (hB : IsB l) (cap : Nat) (h : l.length ≤ cap) : Cv (w.alloc (.cells (bytesRow (str l) cap) 5 ((bytesRow (str l) cap).size, (bytesRow (str l) cap).size + 1))) w.heap.size l.length cap l := by
  have hs := bytesRow_size l cap h
  refine ⟨rfl, h, by simp, fun i hi => ?_, fun i hi => ⟨?_, ?_⟩⟩
  · rw [World.cell?_alloc_mark, ← Array.getElem?_toList, ← bc_get hi, ← bytesRow_take l hB cap, List.getElem?_take, if_pos hi]
  · rw [World.cell?_alloc_mark, Array.getElem?_eq_getElem (by omega)]; rfl
  · rw [World.frozen?_alloc_mark, hs, decide_eq_false (by omega), Bool.false_and]
theorem below_setCells (g : Nat) : ∀ (vs : List Value) (o : Nat) (w : World), Below g w (w.setCells g o vs)
  | [], _, _ => Below.refl _ _
  | v :: r, o, w => ((Below.refl _ _).setCell (p := ⟨g, o, none⟩) (Nat.le_refl _) v).trans (below_setCells g r (o + 1) (w.setCell ⟨g, o, none⟩ v))

/-- A byte of such a slice, written. -/
theorem Cv.put {w : World} {g n cap j y : Nat} {l : List Nat} (h : Cv w g n cap l) (hj : j < n) : Cv (w.setCell ⟨g, j, none⟩ (.int .u8 (y : Int))) g n cap (l.set j y) := by
  obtain ⟨hl, hn, hg, hc, hf⟩ := h
  have hcell : ∀ i, j ≠ i → (w.setCell ⟨g, j, none⟩ (.int .u8 (y : Int))).cell? ⟨g, i, none⟩ = w.cell? ⟨g, i, none⟩ := fun i e => World.cell?_setCell_other _ _ _ _ (fun h => e (by cases h; rfl))
  refine ⟨by rw [List.length_set]; exact hl, hn, by simpa using hg, fun i hi => ?_, fun i hi => ⟨?_, ?_⟩⟩
  · by_cases e : j = i
    · subst e
      rw [World.cell?_setCell_same _ _ _ (hc j hj), nth_get (by rw [List.length_set]; omega)]
      simp
    · rw [hcell i e, hc i hi, nth_get (by omega), nth_get (by rw [List.length_set]; omega), List.getElem_set, if_neg e]
  · by_cases e : j = i
    · subst e
      rw [World.cell?_setCell_same _ _ _ (hc j hj)]; rfl
    · rw [hcell i e]; exact (hf i hi).1
  · rw [World.frozen?_setCell]; exact (hf i hi).2
end Go.Proofs.YtaefomiofoakhaaGreatDoor

namespace Go.Proofs.YtaefomiofoakhaaGreatDoor
open Go.RowKit

/-- The small letter of a large one. -/
def low (b : Nat) : Nat := if 65 ≤ b ∧ b ≤ 90 then b + 32 else b
theorem low_yes {b : Nat} (h : 65 ≤ b ∧ b ≤ 90) : low b = b + 32 := if_pos h
theorem low_no {b : Nat} (h : ¬ (65 ≤ b ∧ b ≤ 90)) : low b = b := if_neg h
/-- A text, its first k letters small. -/
def lowK (l : List Nat) (k : Nat) : List Nat := (l.take k).map low ++ l.drop k
theorem lowK_zero (l : List Nat) : lowK l 0 = l := by simp [lowK]
theorem lowK_all (l : List Nat) : lowK l l.length = l.map low := by simp [lowK]
theorem lowK_len (l : List Nat) (k : Nat) (h : k ≤ l.length) : (lowK l k).length = l.length := by simp [lowK]; omega
theorem lowK_nth (l : List Nat) (k : Nat) (h : k < l.length) : nth (lowK l k) k = nth l k := by
  have hl := lowK_len l k (by omega)
  rw [nth_get (by omega), nth_get h]
  unfold lowK
  rw [List.getElem_append_right (by simp; omega)]
  simp [Nat.min_eq_left (Nat.le_of_lt h)]
theorem lowK_set (l : List Nat) (k : Nat) (h : k < l.length) : (lowK l k).set k (low (nth l k)) = lowK l (k + 1) := by
  unfold lowK
  have hm : ((l.take k).map low).length = k := by simp; omega
  rw [take_snoc l k h, List.map_append, List.set_append, hm, if_neg (Nat.lt_irrefl k), Nat.sub_self, drop_cons l k h]
  simp
theorem lowK_same (l : List Nat) (k : Nat) (h : k < l.length) (hx : low (nth l k) = nth l k) : lowK l k = lowK l (k + 1) := by
  rw [← lowK_set l k h, hx]
  apply List.ext_getElem (by simp)
  intro i h1 h2
  rw [List.getElem_set]
  split
  · rename_i e
    subst e
    have := lowK_nth l k h
    rw [nth_get h1] at this
    exact this
  · rfl

set_option maxHeartbeats 1600000 in
set_option maxRecDepth 100000 in
theorem smallLetters_any (t : List Nat) (n : Nat) (w : World) (hl : t.length = n) (hB : IsB t) (hn : n ≤ 1048576) :
    Calls Tryz.prog 22 #[.string (str t)] w fun e w' => e = .returned (.string (str (t.map low))) ∧ Below w.heap.size w w' := by
  have hsz : (str t).size = n := by rw [str_size, hl]
  have hcv := fun wx => run_bytes_of_string (P := Tryz.prog) wx 9 22 5 (str t) Tryz.underlying9 Tryz.underlying22 Tryz.underlying5
  rw [hsz] at hcv
  go_enter Tryz.func22, Tryz.ntmps22
  go_wp2
  have hcap := grownCap_ge w n 0 5
  clear hcv
  generalize grownCap w n 0 5 = cp at *
  have hC : Cv (w.alloc (.cells (bytesRow (str t) cp) 5 ((bytesRow (str t) cp).size, (bytesRow (str t) cp).size + 1))).drew w.heap.size n cp t := by
    have := Cv.conv w t hB cp (by omega)
    rw [hl] at this
    exact this
  have hb0 : Below w.heap.size w (w.alloc (.cells (bytesRow (str t) cp) 5 ((bytesRow (str t) cp).size, (bytesRow (str t) cp).size + 1))).drew := ((Below.refl _ _).alloc (Nat.le_refl _) _).drew
  generalize (w.alloc (.cells (bytesRow (str t) cp) 5 ((bytesRow (str t) cp).size, (bytesRow (str t) cp).size + 1))).drew = W at *
  go_loopw [10] (fun i wr => ∃ k : Nat, k ≤ n ∧ i = .int .i64 k ∧ Cv wr w.heap.size n cp (lowK t k) ∧ Below w.heap.size w wr) (fun i _ => n - (intOf i).toNat)
  case atStart => exact ⟨0, Nat.zero_le _, rfl, by rw [lowK_zero]; exact hC, hb0⟩
  case round =>
    obtain ⟨k, hk, rfl, hcv, hbel⟩ := hrel
    clear hC hb0
    by_cases hkn : k < n
    · have hki : (k : Int) < (n : Int) := by omega
      have hc : wr.cell? ⟨w.heap.size, k, none⟩ = some (.int .u8 (nth t k : Int)) := by
        have := hcv.2.2.2.1 k hkn
        rw [lowK_nth t k (by omega)] at this
        exact this
      have hx := nth_lt hB k
      have HS : Hid ((lowK t k).set k (low (nth t k)) = lowK t (k + 1)) := lowK_set t k (by omega)
      have HE : Hid (low (nth t k) = nth t k → lowK t k = lowK t (k + 1)) := fun h => lowK_same t k (by omega) h
      have hf := (hcv.2.2.2.2 k (by omega)).2
      have hlt := hcv.2.2.1
      generalize nth t k = x at *
      by_cases hL : 65 ≤ x ∧ x ≤ 90
      · have h1 : (65 : Int) ≤ (x : Int) := by omega
        have h2 : (x : Int) ≤ 90 := by omega
        have HP : Hid (Cv (wr.setCell ⟨w.heap.size, k, none⟩ (.int .u8 ((x + 32 : Nat) : Int))) w.heap.size n cp (lowK t (k + 1))) := by
          show Cv _ _ _ _ _
          rw [← HS.out, low_yes hL]
          exact hcv.put hkn
        have hb' : Below w.heap.size w (wr.setCell ⟨w.heap.size, k, none⟩ (.int .u8 ((x + 32 : Nat) : Int))) := hbel.setCell (by simp) _
        have ex : ((x + 32 : Nat) : Int) = (x : Int) + 97 - 65 := by omega
        rw [ex] at HP hb'
        clear HS HE hcv ex
        go_wp2
        go_roundw
        case rel => exact ⟨k + 1, by omega, by go_num, HP.out, hb'⟩
        case measure => simp [intOf]; omega
      · have HQ : Hid (Cv wr w.heap.size n cp (lowK t (k + 1))) := by
          show Cv _ _ _ _ _
          rw [← HE.out (low_no hL)]; exact hcv
        have hL' : decide (65 ≤ (x : Int)) = false ∨ (65 ≤ (x : Int)) ∧ ¬ ((x : Int) ≤ 90) := by
          by_cases h : (65 : Int) ≤ (x : Int)
          · exact .inr ⟨h, by omega⟩
          · exact .inl (decide_eq_false h)
        clear HS HE hcv hL
        rcases hL' with h1 | ⟨h1, h2⟩
        · go_wp2
          go_roundw
          case rel => exact ⟨k + 1, by omega, by go_num, HQ.out, hbel⟩
          case measure => simp [intOf]; omega
        · go_wp2
          go_roundw
          case rel => exact ⟨k + 1, by omega, by go_num, HQ.out, hbel⟩
          case measure => simp [intOf]; omega
    · have hkk : k = n := by omega
      subst hkk
      have hst := fun c' => run_str (cap := c') (n := k) (l := t.map low) (w := wr) (by simp; omega) (by
        have := hcv.rd
        rw [← hl, lowK_all] at this
        exact this)
      have h3 : ¬ (k : Int) < (k : Int) := by omega
      clear hcv
      go_wp2
      go_ret
      exact ⟨rfl, hbel⟩

set_option maxHeartbeats 1600000 in
set_option maxRecDepth 100000 in
theorem l2Lower_any (t : List Nat) (n : Nat) (w : World) (hl : t.length = n) (hB : IsB t) (hn : n ≤ 1048576) :
    Calls Tryz.prog 62 #[.string (str t)] w fun e w' => e = .returned (.string (str (t.map low))) ∧ Below w.heap.size w w' := by
  have hsz : (str t).size = n := by rw [str_size, hl]
  have hcv := fun wx => run_bytes_of_string (P := Tryz.prog) wx 9 22 5 (str t) Tryz.underlying9 Tryz.underlying22 Tryz.underlying5
  rw [hsz] at hcv
  go_enter Tryz.func62, Tryz.ntmps62
  go_wp2
  have hcap := grownCap_ge w n 0 5
  clear hcv
  generalize grownCap w n 0 5 = cp at *
  have hC : Cv (w.alloc (.cells (bytesRow (str t) cp) 5 ((bytesRow (str t) cp).size, (bytesRow (str t) cp).size + 1))).drew w.heap.size n cp t := by
    have := Cv.conv w t hB cp (by omega)
    rw [hl] at this
    exact this
  have hb0 : Below w.heap.size w (w.alloc (.cells (bytesRow (str t) cp) 5 ((bytesRow (str t) cp).size, (bytesRow (str t) cp).size + 1))).drew := ((Below.refl _ _).alloc (Nat.le_refl _) _).drew
  generalize (w.alloc (.cells (bytesRow (str t) cp) 5 ((bytesRow (str t) cp).size, (bytesRow (str t) cp).size + 1))).drew = W at *
  go_loopw [4] (fun i wr => ∃ k : Nat, k ≤ n ∧ i = .int .i64 k ∧ Cv wr w.heap.size n cp (lowK t k) ∧ Below w.heap.size w wr) (fun i _ => n - (intOf i).toNat)
  case atStart => exact ⟨0, Nat.zero_le _, rfl, by rw [lowK_zero]; exact hC, hb0⟩
  case round =>
    obtain ⟨k, hk, rfl, hcv, hbel⟩ := hrel
    clear hC hb0
    by_cases hkn : k < n
    · have hki : (k : Int) < (n : Int) := by omega
      have hc : wr.cell? ⟨w.heap.size, k, none⟩ = some (.int .u8 (nth t k : Int)) := by
        have := hcv.2.2.2.1 k hkn
        rw [lowK_nth t k (by omega)] at this
        exact this
      have hx := nth_lt hB k
      have HS : Hid ((lowK t k).set k (low (nth t k)) = lowK t (k + 1)) := lowK_set t k (by omega)
      have HE : Hid (low (nth t k) = nth t k → lowK t k = lowK t (k + 1)) := fun h => lowK_same t k (by omega) h
      have hf := (hcv.2.2.2.2 k (by omega)).2
      have hlt := hcv.2.2.1
      generalize nth t k = x at *
      by_cases hL : 65 ≤ x ∧ x ≤ 90
      · have h1 : (65 : Int) ≤ (x : Int) := by omega
        have h2 : (x : Int) ≤ 90 := by omega
        have HP : Hid (Cv (wr.setCell ⟨w.heap.size, k, none⟩ (.int .u8 ((x + 32 : Nat) : Int))) w.heap.size n cp (lowK t (k + 1))) := by
          show Cv _ _ _ _ _
          rw [← HS.out, low_yes hL]
          exact hcv.put hkn
        have hb' : Below w.heap.size w (wr.setCell ⟨w.heap.size, k, none⟩ (.int .u8 ((x + 32 : Nat) : Int))) := hbel.setCell (by simp) _
        have ex : ((x + 32 : Nat) : Int) = (x : Int) + 32 := by omega
        rw [ex] at HP hb'
        clear HS HE hcv ex
        go_wp2
        go_roundw
        case rel => exact ⟨k + 1, by omega, by go_num, HP.out, hb'⟩
        case measure => simp [intOf]; omega
      · have HQ : Hid (Cv wr w.heap.size n cp (lowK t (k + 1))) := by
          show Cv _ _ _ _ _
          rw [← HE.out (low_no hL)]; exact hcv
        have hL' : decide (65 ≤ (x : Int)) = false ∨ (65 ≤ (x : Int)) ∧ ¬ ((x : Int) ≤ 90) := by
          by_cases h : (65 : Int) ≤ (x : Int)
          · exact .inr ⟨h, by omega⟩
          · exact .inl (decide_eq_false h)
        clear HS HE hcv hL
        rcases hL' with h1 | ⟨h1, h2⟩
        · go_wp2
          go_roundw
          case rel => exact ⟨k + 1, by omega, by go_num, HQ.out, hbel⟩
          case measure => simp [intOf]; omega
        · go_wp2
          go_roundw
          case rel => exact ⟨k + 1, by omega, by go_num, HQ.out, hbel⟩
          case measure => simp [intOf]; omega
    · have hkk : k = n := by omega
      subst hkk
      have hst := fun c' => run_str (cap := c') (n := k) (l := t.map low) (w := wr) (by simp; omega) (by
        have := hcv.rd
        rw [← hl, lowK_all] at this
        exact this)
      have h3 : ¬ (k : Int) < (k : Int) := by omega
      clear hcv
      go_wp2
      go_ret
      exact ⟨rfl, hbel⟩
end Go.Proofs.YtaefomiofoakhaaGreatDoor
