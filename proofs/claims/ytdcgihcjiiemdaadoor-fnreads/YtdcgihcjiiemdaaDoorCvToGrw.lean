/- A slice of bytes that was made of a text: it may be written; no conditions beyond those that each fact names · A slice of bytes that may be written and grows by appends, whether it was made of a text or is a row of the call's own; no conditions beyond those that each fact names. -/
import Derived.Test.YtdcgihcjiiemdaaDoorMrk0ToDrw
import Derived.Test.YtdcgihcjiiemdaaDoorMemToApp
import Derived.ArgAppend
import Derived.Deep.MidRow
namespace Go.Proofs.YtdcgihcjiiemdaaDoor
open Go.RowKit

/-- A slice of bytes out of a text: n bytes l, room up to cap, in block g, which may be written. -/
def Cv (w : World) (g n cap : Nat) (l : List Nat) : Prop := l.length = n ∧ n ≤ cap ∧ g < w.heap.size ∧ (∀ i, i < n → w.cell? ⟨g, i, none⟩ = some (.int .u8 (nth l i : Int))) ∧ ∀ i, i < cap → (w.cell? ⟨g, i, none⟩).isSome = true ∧ w.frozen? ⟨g, i, none⟩ = false
theorem Cv.rd {w : World} {g n cap : Nat} {l : List Nat} (h : Cv w g n cap l) : Rd w (some ⟨g, 0, none⟩) l := by
  obtain ⟨hl, _, hg, hc, _⟩ := h
  exact .inr ⟨g, 0, rfl, hg, fun i hi => by rw [Nat.zero_add]; exact hc i (by omega)⟩
theorem Cv.kept {w w' : World} {g n cap b : Nat} {l : List Nat} (h : Cv w g n cap l) (hg : w.grownBy w' (some b)) (hb : b ≠ g) : Cv w' g n cap l := by
  obtain ⟨hl, hn, hlt, hc, hf⟩ := h
  have e1 : ∀ i, w'.cell? ⟨g, i, none⟩ = w.cell? ⟨g, i, none⟩ := fun i => hg.cell_far ⟨g, i, none⟩ hlt (by simp; omega)
  have e2 : ∀ i, w'.frozen? ⟨g, i, none⟩ = w.frozen? ⟨g, i, none⟩ := fun i => hg.frozen_far ⟨g, i, none⟩ hlt (by simp; omega)
  exact ⟨hl, hn, Nat.lt_of_lt_of_le hlt hg.size, fun i hi => (e1 i).trans (hc i hi), fun i hi => by rw [e1, e2]; exact hf i hi⟩
theorem Cv.below {w w' : World} {g n cap C : Nat} {l : List Nat} (h : Cv w g n cap l) (hb : Below C w w') (hC : g < C) : Cv w' g n cap l := by
  obtain ⟨hl, hn, hlt, hc, hf⟩ := h
  have e1 : ∀ i, w'.cell? ⟨g, i, none⟩ = w.cell? ⟨g, i, none⟩ := fun i => hb.cell (p := ⟨g, i, none⟩) hC
  have e2 : ∀ i, w'.frozen? ⟨g, i, none⟩ = w.frozen? ⟨g, i, none⟩ := fun i => hb.frozen (p := ⟨g, i, none⟩) hC
  exact ⟨hl, hn, Nat.lt_of_lt_of_le hlt hb.size, fun i hi => (e1 i).trans (hc i hi), fun i hi => by rw [e1, e2]; exact hf i hi⟩
theorem bytesRow_size (l : List Nat) (cap : Nat) (h : l.length ≤ cap) : (bytesRow (str l) cap).size = cap := by
  have := str_size l
  have e : (str l).data.size = (str l).size := rfl
  simp [bytesRow, e, this]; omega
theorem Cv.conv (w : World) (l : List Nat) (hB : IsB l) (cap : Nat) (h : l.length ≤ cap) : Cv (w.alloc (.cells (bytesRow (str l) cap) 5 ((bytesRow (str l) cap).size, (bytesRow (str l) cap).size + 1))) w.heap.size l.length cap l := by
  have hs := bytesRow_size l cap h
  refine ⟨rfl, h, by simp, fun i hi => ?_, fun i hi => ⟨?_, ?_⟩⟩
  · rw [World.cell?_alloc_mark, ← Array.getElem?_toList, ← bc_get hi, ← bytesRow_take l hB cap, List.getElem?_take, if_pos hi]
  · rw [World.cell?_alloc_mark, Array.getElem?_eq_getElem (by omega)]; rfl
  · rw [World.frozen?_alloc_mark, hs, decide_eq_false (by omega), Bool.false_and]
theorem below_setCells (g : Nat) : ∀ (vs : List Value) (o : Nat) (w : World), Below g w (w.setCells g o vs)
  | [], _, _ => Below.refl _ _
  | v :: r, o, w => ((Below.refl _ _).setCell (p := ⟨g, o, none⟩) (Nat.le_refl _) v).trans (below_setCells g r (o + 1) (w.setCell ⟨g, o, none⟩ v))

/-- A byte of such a slice, written. -/
theorem Cv.put {w : World} {g n cap j y : Nat} {l : List Nat} (h : Cv w g n cap l) (hj : j < n) : Cv (w.setCell ⟨g, j, none⟩ (.int .u8 (y : Int))) g n cap (l.set j y) := by
  obtain ⟨hl, hn, hg, hc, hf⟩ := h
  have hcell : ∀ i, j ≠ i → (w.setCell ⟨g, j, none⟩ (.int .u8 (y : Int))).cell? ⟨g, i, none⟩ = w.cell? ⟨g, i, none⟩ := fun i e => World.cell?_setCell_other _ _ _ _ (fun h => e (by cases h; rfl))
  refine ⟨by rw [List.length_set]; exact hl, hn, by simpa using hg, fun i hi => ?_, fun i hi => ⟨?_, ?_⟩⟩
  · by_cases e : j = i
    · subst e
      rw [World.cell?_setCell_same _ _ _ (hc j hj), nth_get (by rw [List.length_set]; omega)]
      simp
    · rw [hcell i e, hc i hi, nth_get (by omega), nth_get (by rw [List.length_set]; omega), List.getElem_set, if_neg e]
  · by_cases e : j = i
    · subst e
      rw [World.cell?_setCell_same _ _ _ (hc j hj)]; rfl
    · rw [hcell i e]; exact (hf i hi).1
  · rw [World.frozen?_setCell]; exact (hf i hi).2
end Go.Proofs.YtdcgihcjiiemdaaDoor

namespace Go.Proofs.YtdcgihcjiiemdaaDoor
open Go.RowKit

/-- The slice v holds l, at a block of B or behind it, and may be written up to its room. -/
def Gr (w : World) (B : Nat) (v : Value) (l : List Nat) : Prop := ∃ g cap, v = .slice (some ⟨g, 0, none⟩) l.length cap ∧ B ≤ g ∧ cap ≤ maxLen ∧ Cv w g l.length cap l
theorem Gr.rd {w : World} {B : Nat} {v : Value} {l : List Nat} (h : Gr w B v l) : ∃ g cap, v = .slice (some ⟨g, 0, none⟩) l.length cap ∧ Rd w (some ⟨g, 0, none⟩) l ∧ l.length ≤ cap := by
  obtain ⟨g, cap, e, _, _, hc⟩ := h
  exact ⟨g, cap, e, hc.rd, hc.2.1⟩
theorem Gr.below {w w' : World} {B C : Nat} {v : Value} {l : List Nat} (h : Gr w B v l) (hb : Below C w w') (hC : w.heap.size ≤ C) : Gr w' B v l := by
  obtain ⟨g, cap, e, h1, h2, hc⟩ := h
  exact ⟨g, cap, e, h1, h2, hc.below hb (Nat.lt_of_lt_of_le hc.2.2.1 hC)⟩
theorem Gr.alloc {w : World} {B : Nat} {v : Value} {l : List Nat} (h : Gr w B v l) (o : Obj) : Gr (w.alloc o) B v l := h.below ((Below.refl _ _).alloc (Nat.le_refl _) o) (Nat.le_refl _)
theorem Gr.drew {w : World} {B : Nat} {v : Value} {l : List Nat} (h : Gr w B v l) : Gr w.drew B v l := h.below (Below.refl _ _).drew (Nat.le_refl _)
theorem Gr.low {w : World} {B C : Nat} {v : Value} {l : List Nat} (h : Gr w B v l) (hC : C ≤ B) : Gr w C v l := by
  obtain ⟨g, cap, e, h1, h2, hc⟩ := h
  exact ⟨g, cap, e, by omega, h2, hc⟩
theorem Gr.conv (w : World) (l : List Nat) (hB : IsB l) (B cap : Nat) (hBw : B ≤ w.heap.size) (h : l.length ≤ cap) (hm : cap ≤ maxLen) : Gr (w.alloc (.cells (bytesRow (str l) cap) 5 ((bytesRow (str l) cap).size, (bytesRow (str l) cap).size + 1))) B (.slice (some ⟨w.heap.size, 0, none⟩) l.length cap) l :=
  ⟨w.heap.size, cap, rfl, hBw, hm, Cv.conv w l hB cap h⟩
/-- A row of the call's own may be written up to its room. -/
theorem Gr.own {w : World} {B : Nat} {v : Value} {l : List Nat} (h : Own w B v l) (hp : 0 < l.length) : Gr w B v l := by
  obtain ⟨a, cap, hv, h1, h2⟩ := h.form
  subst hv
  obtain ⟨hlen, hrd⟩ := h.rd
  rcases h.2 with ⟨h', h0⟩ | ⟨g, cap', cur, e, hB, hh, hc1, hc2, hcs, -⟩
  · omega
  · injection e with e1 _ e2
    subst e1 e2
    have hlt : g < w.heap.size := (Array.getElem?_eq_some_iff.1 hh).1
    refine ⟨g, cap, rfl, hB, h2, rfl, h1, hlt, ?_, ?_⟩
    · obtain ⟨b', off', e', -, hc⟩ := hrd.at_ hp
      cases e'
      intro i hi
      have := hc i hi
      rw [Nat.zero_add] at this
      exact this
    · intro i hi
      have hs : cur.size = cap := by simpa using hcs
      refine ⟨?_, ?_⟩
      · simp [World.cell?, hh, hs, hi]
      · simp [World.frozen?, hh]
end Go.Proofs.YtdcgihcjiiemdaaDoor
