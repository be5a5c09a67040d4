/- A slice of fields of the call's own: a value that is written into it. -/
import Derived.Test.YtknbndebfickpaaAppF
import Derived.Laws.Rows
namespace Go.Proofs.Ytknbndebfickpaa
open Go.RowKit

theorem fc_setV : ∀ (l : List FldP) (i : Nat) (y : ByteArray), i < l.length → (fc l).set (i * 2 + 1) (.string y) = fc (l.set i ((nthF l i).1, y))
  | [], _, _, h => by simp at h
  | p :: l, 0, y, _ => rfl
  | p :: l, i + 1, y, h => by
    have := fc_setV l i y (by simpa using h)
    rw [fc_cons, show (i + 1) * 2 + 1 = (i * 2 + 1) + 1 + 1 by omega, List.set_cons_succ, List.set_cons_succ, this, List.set_cons_succ, fc_cons]
    rfl
/-- The row of a slice of the call's own. -/
theorem OwnF.at_ {w : World} {B : Nat} {v : Value} {l : List FldP} (h : OwnF w B v l) (hp : 0 < l.length) : ∃ g cap, v = .slice (some ⟨g, 0, none⟩) l.length cap ∧ B ≤ g ∧ g < w.heap.size ∧
    (∀ i, i < l.length → w.cell? ⟨g, i * 2, none⟩ = some (.string (nthF l i).1) ∧ w.cell? ⟨g, i * 2 + 1, none⟩ = some (.string (nthF l i).2) ∧ w.frozen? ⟨g, i * 2 + 1, none⟩ = false) ∧
    ∀ i, i < l.length → ∀ y, OwnF (w.setCell ⟨g, i * 2 + 1, none⟩ (.string y)) B v (l.set i ((nthF l i).1, y)) := by
  rcases h.2 with ⟨h', h0⟩ | ⟨g, cap, cur, h1, h2, h3, h4, h5, h6, h7⟩
  · omega
  · subst h1
    have hg : g < w.heap.size := by
      rcases Nat.lt_or_ge g w.heap.size with hlt | hge
      · exact hlt
      · simp [Array.getElem?_eq_none hge] at h3
    have hcell : ∀ j, j < l.length * 2 → w.cell? ⟨g, j, none⟩ = (fc l)[j]? := fun j hj => by
      rw [← h7, List.getElem?_take, if_pos hj, Array.getElem?_toList]
      simp [World.cell?, h3]
    refine ⟨g, cap, rfl, h2, hg, fun i hi => ⟨?_, ?_, ?_⟩, fun i hi y => ⟨?_, .inr ⟨g, cap, cur.setIfInBounds (i * 2 + 1) (.string y), ?_, h2, heap_setCell_same w g _ cur _ _ h3, ?_, h5, ?_, ?_⟩⟩⟩
    · rw [hcell _ (by omega)]; exact (fc_get l i hi).1
    · rw [hcell _ (by omega)]; exact (fc_get l i hi).2
    · simp [World.frozen?, h3]
    · rw [fc_len]
    · rw [List.length_set]
    · rw [List.length_set]; exact h4
    · rw [Array.size_setIfInBounds]; exact h6
    · rw [List.length_set, ← fc_setV l i y hi, ← h7, Array.toList_setIfInBounds, List.take_set]
end Go.Proofs.Ytknbndebfickpaa
