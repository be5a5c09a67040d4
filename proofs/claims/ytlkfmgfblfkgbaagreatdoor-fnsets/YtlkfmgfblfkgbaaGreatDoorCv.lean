/- A slice of bytes that was made of a text: it may be written; no conditions beyond those that each fact names. -/
import Derived.Test.YtlkfmgfblfkgbaaGreatDoorMrk0
namespace Go.Proofs.YtlkfmgfblfkgbaaGreatDoor
open Go.RowKit

/-- A slice of bytes out of a text: n bytes l, room up to cap, in block g, which may be written. -/
def Cv (w : World) (g n cap : Nat) (l : List Nat) : Prop := l.length = n ∧ n ≤ cap ∧ g < w.heap.size ∧ (∀ i, i < n → w.cell? ⟨g, i, none⟩ = some (.int .u8 (nth l i : Int))) ∧ ∀ i, i < cap → (w.cell? ⟨g, i, none⟩).isSome = true ∧ w.frozen? ⟨g, i, none⟩ = false
theorem Cv.rd {w : World} {g n cap : Nat} {l : List Nat} (h : Cv w g n cap l) : Rd w (some ⟨g, 0, none⟩) l := by
  obtain ⟨hl, _, hg, hc, _⟩ := h
  exact .inr ⟨g, 0, rfl, hg, fun i hi => by rw [Nat.zero_add]; exact hc i (by omega)⟩
theorem Cv.kept {w w' : World} {g n cap b : Nat} {l : List Nat} (h : Cv w g n cap l) (hg : w.grownBy w' (some b)) (hb : b ≠ g) : Cv w' g n cap l := by
  obtain ⟨hl, hn, hlt, hc, hf⟩ := h
  have e1 : ∀ i, w'.cell? ⟨g, i, none⟩ = w.cell? ⟨g, i, none⟩ := fun i => hg.cell_far ⟨g, i, none⟩ hlt (by simp; omega)
  have e2 : ∀ i, w'.frozen? ⟨g, i, none⟩ = w.frozen? ⟨g, i, none⟩ := fun i => hg.frozen_far ⟨g, i, none⟩ hlt (by simp; omega)
  exact ⟨hl, hn, Nat.lt_of_lt_of_le hlt hg.size, fun i hi => (e1 i).trans (hc i hi), fun i hi => by rw [e1, e2]; exact hf i hi⟩
theorem Cv.below {w w' : World} {g n cap C : Nat} {l : List Nat} (h : Cv w g n cap l) (hb : Below C w w') (hC : g < C) : Cv w' g n cap l := by
  obtain ⟨hl, hn, hlt, hc, hf⟩ := h
  have e1 : ∀ i, w'.cell? ⟨g, i, none⟩ = w.cell? ⟨g, i, none⟩ := fun i => hb.cell (p := ⟨g, i, none⟩) hC
  have e2 : ∀ i, w'.frozen? ⟨g, i, none⟩ = w.frozen? ⟨g, i, none⟩ := fun i => hb.frozen (p := ⟨g, i, none⟩) hC
  exact ⟨hl, hn, Nat.lt_of_lt_of_le hlt hb.size, fun i hi => (e1 i).trans (hc i hi), fun i hi => by rw [e1, e2]; exact hf i hi⟩
theorem bytesRow_size (l : List Nat) (cap : Nat) (h : l.length ≤ cap) : (bytesRow (str l) cap).size = cap := by
  have := str_size l
  have e : (str l).data.size = (str l).size := rfl
  simp [bytesRow, e, this]; omega
theorem Cv.conv (w : World) (l : List Nat) (hB : IsB l) (cap : Nat) (h : l.length ≤ cap) : Cv (w.alloc (.cells (bytesRow (str l) cap) 5 ((bytesRow (str l) cap).size, (bytesRow (str l) cap).size + 1))) w.heap.size l.length cap l := by
  have hs := bytesRow_size l cap h
  refine ⟨rfl, h, by simp, fun i hi => ?_, fun i hi => ⟨?_, ?_⟩⟩
  · rw [World.cell?_alloc_mark, ← Array.getElem?_toList, ← bc_get hi, ← bytesRow_take l hB cap, List.getElem?_take, if_pos hi]
  · rw [World.cell?_alloc_mark, Array.getElem?_eq_getElem (by omega)]; rfl
  · rw [World.frozen?_alloc_mark, hs, decide_eq_false (by omega), Bool.false_and]
theorem below_setCells (g : Nat) : ∀ (vs : List Value) (o : Nat) (w : World), Below g w (w.setCells g o vs)
  | [], _, _ => Below.refl _ _
  | v :: r, o, w => ((Below.refl _ _).setCell (p := ⟨g, o, none⟩) (Nat.le_refl _) v).trans (below_setCells g r (o + 1) (w.setCell ⟨g, o, none⟩ v))

/-- A byte of such a slice, written. -/
theorem Cv.put {w : World} {g n cap j y : Nat} {l : List Nat} (h : Cv w g n cap l) (hj : j < n) : Cv (w.setCell ⟨g, j, none⟩ (.int .u8 (y : Int))) g n cap (l.set j y) := by
  obtain ⟨hl, hn, hg, hc, hf⟩ := h
  have hcell : ∀ i, j ≠ i → (w.setCell ⟨g, j, none⟩ (.int .u8 (y : Int))).cell? ⟨g, i, none⟩ = w.cell? ⟨g, i, none⟩ := fun i e => World.cell?_setCell_other _ _ _ _ (fun h => e (by cases h; rfl))
  refine ⟨by rw [List.length_set]; exact hl, hn, by simpa using hg, fun i hi => ?_, fun i hi => ⟨?_, ?_⟩⟩
  · by_cases e : j = i
    · subst e
      rw [World.cell?_setCell_same _ _ _ (hc j hj), nth_get (by rw [List.length_set]; omega)]
      simp
    · rw [hcell i e, hc i hi, nth_get (by omega), nth_get (by rw [List.length_set]; omega), List.getElem_set, if_neg e]
  · by_cases e : j = i
    · subst e
      rw [World.cell?_setCell_same _ _ _ (hc j hj)]; rfl
    · rw [hcell i e]; exact (hf i hi).1
  · rw [World.frozen?_setCell]; exact (hf i hi).2
end Go.Proofs.YtlkfmgfblfkgbaaGreatDoor
