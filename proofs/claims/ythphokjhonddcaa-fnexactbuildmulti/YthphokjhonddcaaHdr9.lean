/- ParseHeader, the model's, at every slice of bytes: by a plain function. -/
import Derived.Test.YthphokjhonddcaaHdr8
namespace Go.Proofs.Ythphokjhonddcaa
open Go.RowKit

/-- What ParseHeader answers. -/
def phV (d : List Nat) : Int × Nat × List FldP := if 400 < d.length then (2, 0, []) else match prH d (d.length + 1) 0 [] with
  | none => (1, 0, [])
  | some (fs, k) => if fdF fs = 0 then (0, k, fs) else (1, 0, [])
theorem phV_many {d : List Nat} (h : 400 < d.length) : phV d = (2, 0, []) := if_pos h
theorem phV_none {d : List Nat} (h : ¬ 400 < d.length) (h1 : prH d (d.length + 1) 0 [] = none) : phV d = (1, 0, []) := by unfold phV; rw [if_neg h, h1]
theorem phV_bad {d : List Nat} {fs : List FldP} {k : Nat} (h : ¬ 400 < d.length) (h1 : prH d (d.length + 1) 0 [] = some (fs, k)) (h2 : fdF fs ≠ 0) : phV d = (1, 0, []) := by
  unfold phV; rw [if_neg h, h1]; exact if_neg h2
theorem phV_ok {d : List Nat} {fs : List FldP} {k : Nat} (h : ¬ 400 < d.length) (h1 : prH d (d.length + 1) 0 [] = some (fs, k)) (h2 : fdF fs = 0) : phV d = (0, k, fs) := by
  unfold phV; rw [if_neg h, h1]; exact if_pos h2
/-- The block of a result of three cells that a function lays first, far on. -/
theorem res_block3 {w W wr : World} {c0 c1 c2 : Value} {t : TypeId} (hW : w.alloc (.cells #[c0, c1, c2] t) = W) (hb : Below (w.heap.size + 1) W wr) :
    (wr.cell? ⟨w.heap.size, 0, none⟩ = some c0 ∧ wr.cell? ⟨w.heap.size, 1, none⟩ = some c1 ∧ wr.cell? ⟨w.heap.size, 2, none⟩ = some c2) ∧ wr.frozen? ⟨w.heap.size, 0, none⟩ = false ∧ wr.frozen? ⟨w.heap.size, 1, none⟩ = false ∧ wr.frozen? ⟨w.heap.size, 2, none⟩ = false := by
  subst hW
  refine ⟨⟨?_, ?_, ?_⟩, ?_, ?_, ?_⟩
  · rw [hb.cell (p := ⟨w.heap.size, 0, none⟩) (by simp)]; simp
  · rw [hb.cell (p := ⟨w.heap.size, 1, none⟩) (by simp)]; simp
  · rw [hb.cell (p := ⟨w.heap.size, 2, none⟩) (by simp)]; simp
  · rw [hb.frozen (p := ⟨w.heap.size, 0, none⟩) (by simp)]; simp
  · rw [hb.frozen (p := ⟨w.heap.size, 1, none⟩) (by simp)]; simp
  · rw [hb.frozen (p := ⟨w.heap.size, 2, none⟩) (by simp)]; simp
theorem res_cells3 {wr : World} {sz : Nat} {x0 x1 x2 : Value} (h : wr.cell? ⟨sz, 0, none⟩ = some x0 ∧ wr.cell? ⟨sz, 1, none⟩ = some x1 ∧ wr.cell? ⟨sz, 2, none⟩ = some x2) (c t u : Value) :
    (wr.setCell ⟨sz, 0, none⟩ c).cell? ⟨sz, 0, none⟩ = some c ∧ ((wr.setCell ⟨sz, 0, none⟩ c).setCell ⟨sz, 1, none⟩ t).cell? ⟨sz, 1, none⟩ = some t ∧
    (((wr.setCell ⟨sz, 0, none⟩ c).setCell ⟨sz, 1, none⟩ t).setCell ⟨sz, 2, none⟩ u).cell? ⟨sz, 2, none⟩ = some u := by
  obtain ⟨h0, h1, h2⟩ := h
  have h1' : (wr.setCell ⟨sz, 0, none⟩ c).cell? ⟨sz, 1, none⟩ = some x1 := by simp [go_sem, h1]
  have h2' : ((wr.setCell ⟨sz, 0, none⟩ c).setCell ⟨sz, 1, none⟩ t).cell? ⟨sz, 2, none⟩ = some x2 := by simp [go_sem, h2]
  exact ⟨World.cell?_setCell_same _ _ _ h0, World.cell?_setCell_same _ _ _ h1', World.cell?_setCell_same _ _ _ h2'⟩
end Go.Proofs.Ythphokjhonddcaa
