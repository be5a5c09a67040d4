/- Messages: the laws' helpers: a message's size, a copy, whether two are the same; no conditions beyond those that each fact names. -/
import Derived.Test.YtaiificlempeaaaMsa
namespace Go.Proofs.Ytaiificlempeaaa
open Go.RowKit

/-- How the reckoning of a size ends. -/
def SzQ (left : Int) (C : Prop) (w : World) (e : Ending) (w' : World) : Prop := ∃ r : Int, e = .returned (.int .i64 r) ∧ (r = -1 ∨ 0 ≤ r ∧ r ≤ left ∧ C) ∧ Below w.heap.size w w'

theorem szByteS_any (s : SlQ) (left : Int) (w : World) (h0 : 0 ≤ left) (h1 : left ≤ 1048576) (hn : s.2.1 ≤ maxLen) :
    Calls Try.prog 14 #[slW s, .int .i64 left] w fun e w' => SzQ left (s.2.1 ≤ 1048576) w e w' := by
  obtain ⟨a, n, cap⟩ := s
  dsimp only at *
  unfold maxLen at hn
  by_cases c1 : left - (n : Int) < 0
  · go_enter Try.func14, Try.ntmps14
    go_wp2
    go_ret
    exact ⟨-1, rfl, .inl rfl, by go_grown⟩
  · go_enter Try.func14, Try.ntmps14
    go_wp2
    go_ret
    exact ⟨left - (n : Int), rfl, .inr ⟨by omega, by omega, by omega⟩, by go_grown⟩

/-- A block of four cells, far on. -/
theorem qd_block {w W wr : World} {c0 c1 c2 c3 : Value} {t : TypeId} (hW : w.alloc (.cells #[c0, c1, c2, c3] t) = W) (hb : Below (w.heap.size + 1) W wr) :
    wr.cell? ⟨w.heap.size, 0, none⟩ = some c0 ∧ wr.cell? ⟨w.heap.size, 1, none⟩ = some c1 ∧ wr.cell? ⟨w.heap.size, 2, none⟩ = some c2 ∧ wr.cell? ⟨w.heap.size, 3, none⟩ = some c3 ∧ wr.frozen? ⟨w.heap.size, 0, none⟩ = false ∧ wr.frozen? ⟨w.heap.size, 1, none⟩ = false ∧ wr.frozen? ⟨w.heap.size, 2, none⟩ = false ∧ wr.frozen? ⟨w.heap.size, 3, none⟩ = false := by
  subst hW
  refine ⟨?_, ?_, ?_, ?_, ?_, ?_, ?_, ?_⟩
  · rw [hb.cell (p := ⟨w.heap.size, 0, none⟩) (by simp)]; simp
  · rw [hb.cell (p := ⟨w.heap.size, 1, none⟩) (by simp)]; simp
  · rw [hb.cell (p := ⟨w.heap.size, 2, none⟩) (by simp)]; simp
  · rw [hb.cell (p := ⟨w.heap.size, 3, none⟩) (by simp)]; simp
  · rw [hb.frozen (p := ⟨w.heap.size, 0, none⟩) (by simp)]; simp
  · rw [hb.frozen (p := ⟨w.heap.size, 1, none⟩) (by simp)]; simp
  · rw [hb.frozen (p := ⟨w.heap.size, 2, none⟩) (by simp)]; simp
  · rw [hb.frozen (p := ⟨w.heap.size, 3, none⟩) (by simp)]; simp
theorem qd_cells {wr : World} {sz : Nat} {x0 x1 x2 x3 : Value} (h0 : wr.cell? ⟨sz, 0, none⟩ = some x0) (h1 : wr.cell? ⟨sz, 1, none⟩ = some x1) (h2 : wr.cell? ⟨sz, 2, none⟩ = some x2) (h3 : wr.cell? ⟨sz, 3, none⟩ = some x3) (c t u v : Value) :
    (wr.setCell ⟨sz, 0, none⟩ c).cell? ⟨sz, 0, none⟩ = some c ∧ ((wr.setCell ⟨sz, 0, none⟩ c).setCell ⟨sz, 1, none⟩ t).cell? ⟨sz, 1, none⟩ = some t ∧
    (((wr.setCell ⟨sz, 0, none⟩ c).setCell ⟨sz, 1, none⟩ t).setCell ⟨sz, 2, none⟩ u).cell? ⟨sz, 2, none⟩ = some u ∧
    ((((wr.setCell ⟨sz, 0, none⟩ c).setCell ⟨sz, 1, none⟩ t).setCell ⟨sz, 2, none⟩ u).setCell ⟨sz, 3, none⟩ v).cell? ⟨sz, 3, none⟩ = some v := by
  have h1' : (wr.setCell ⟨sz, 0, none⟩ c).cell? ⟨sz, 1, none⟩ = some x1 := by simp [go_sem, h1]
  have h2' : ((wr.setCell ⟨sz, 0, none⟩ c).setCell ⟨sz, 1, none⟩ t).cell? ⟨sz, 2, none⟩ = some x2 := by simp [go_sem, h2]
  have h3' : (((wr.setCell ⟨sz, 0, none⟩ c).setCell ⟨sz, 1, none⟩ t).setCell ⟨sz, 2, none⟩ u).cell? ⟨sz, 3, none⟩ = some x3 := by simp [go_sem, h3]
  exact ⟨World.cell?_setCell_same _ _ _ h0, World.cell?_setCell_same _ _ _ h1', World.cell?_setCell_same _ _ _ h2', World.cell?_setCell_same _ _ _ h3'⟩
/-- Two blocks of four cells that were laid one behind the other, far on. -/
theorem qd_blocks {w0 w wr : World} {c0 c1 c2 c3 z0 z1 z2 z3 : Value} {o : Obj} {t t' : TypeId} (h0 : w = w0.alloc o)
    (hb : Below (w0.heap.size + 3) ((w.alloc (.cells #[z0, z1, z2, z3] t)).alloc (.cells #[c0, c1, c2, c3] t')) wr) :
    (wr.cell? ⟨w0.heap.size + 1, 0, none⟩ = some z0 ∧ wr.cell? ⟨w0.heap.size + 1, 1, none⟩ = some z1 ∧ wr.cell? ⟨w0.heap.size + 1, 2, none⟩ = some z2 ∧ wr.cell? ⟨w0.heap.size + 1, 3, none⟩ = some z3 ∧ wr.frozen? ⟨w0.heap.size + 1, 0, none⟩ = false ∧ wr.frozen? ⟨w0.heap.size + 1, 1, none⟩ = false ∧ wr.frozen? ⟨w0.heap.size + 1, 2, none⟩ = false ∧ wr.frozen? ⟨w0.heap.size + 1, 3, none⟩ = false) ∧
    (wr.cell? ⟨w0.heap.size + 1 + 1, 0, none⟩ = some c0 ∧ wr.cell? ⟨w0.heap.size + 1 + 1, 1, none⟩ = some c1 ∧ wr.cell? ⟨w0.heap.size + 1 + 1, 2, none⟩ = some c2 ∧ wr.cell? ⟨w0.heap.size + 1 + 1, 3, none⟩ = some c3 ∧ wr.frozen? ⟨w0.heap.size + 1 + 1, 0, none⟩ = false ∧ wr.frozen? ⟨w0.heap.size + 1 + 1, 1, none⟩ = false ∧ wr.frozen? ⟨w0.heap.size + 1 + 1, 2, none⟩ = false ∧ wr.frozen? ⟨w0.heap.size + 1 + 1, 3, none⟩ = false) := by
  have e1 : w.heap.size = w0.heap.size + 1 := by rw [h0]; simp
  have e2 : (w.alloc (.cells #[z0, z1, z2, z3] t)).heap.size = w0.heap.size + 1 + 1 := by simp [e1]
  have hA : Below (w.heap.size + 1) (w.alloc (.cells #[z0, z1, z2, z3] t)) wr := ((Below.refl _ _).alloc (by simp) _).trans (hb.mono (by omega))
  have k1 := qd_block rfl hA
  have k2 := qd_block (w := w.alloc (.cells #[z0, z1, z2, z3] t)) rfl (hb.mono (by omega))
  rw [e1] at k1
  rw [e2] at k2
  exact ⟨k1, k2⟩

/-- Four cells of a block. -/
def Qc (w : World) (g : Nat) (q : Qd) : Prop := w.cell? ⟨g, 0, none⟩ = some q.1 ∧ w.cell? ⟨g, 1, none⟩ = some q.2.1 ∧ w.cell? ⟨g, 2, none⟩ = some q.2.2.1 ∧ w.cell? ⟨g, 3, none⟩ = some q.2.2.2
theorem Qc.below {C : Nat} {w w' : World} {g : Nat} {q : Qd} (h : Qc w g q) (hb : Below C w w') (hg : g < C) : Qc w' g q :=
  ⟨(hb.cell (p := ⟨g, 0, none⟩) hg).trans h.1, (hb.cell (p := ⟨g, 1, none⟩) hg).trans h.2.1, (hb.cell (p := ⟨g, 2, none⟩) hg).trans h.2.2.1, (hb.cell (p := ⟨g, 3, none⟩) hg).trans h.2.2.2⟩
theorem Qc.new (w : World) (c0 c1 c2 c3 : Value) (t : TypeId) : Qc (w.alloc (.cells #[c0, c1, c2, c3] t)) w.heap.size (c0, c1, c2, c3) := ⟨by simp, by simp, by simp, by simp⟩
theorem Qc.lt {w : World} {g : Nat} {q : Qd} (h : Qc w g q) : g < w.heap.size := World.block_lt_of_cell? w ⟨g, 0, none⟩ h.1

/-- What the laws let through. -/
def FtM (m : Msg) : Prop := m.b.length ≤ 1048576
def OkM (_ : Msg) : Prop := True
end Go.Proofs.Ytaiificlempeaaa
