/- What ReadOp answers, as its law takes it: whether two are the same, marks; no conditions beyond those that each fact names. -/
import Derived.Test.YtdcgihcjiiemdaaDoorRjc
namespace Go.Proofs.YtdcgihcjiiemdaaDoor
open Go.RowKit
set_option linter.unusedVariables false
def Tc (w : World) (g : Nat) (c : Int) (n : Nat) (o : OpR) (p : SlO) : Prop := w.cell? ⟨g, 0, none⟩ = some (.int .i64 c) ∧ w.cell? ⟨g, 1, none⟩ = some (.int .i64 (n : Int)) ∧ w.cell? ⟨g, 2, none⟩ = some (.int .i64 o.k) ∧ w.cell? ⟨g, 3, none⟩ = some (.string o.x) ∧ w.cell? ⟨g, 4, none⟩ = some (.string o.t) ∧ w.cell? ⟨g, 5, none⟩ = some (slW p.1) ∧ w.cell? ⟨g, 6, none⟩ = some (.int .i64 o.m) ∧ w.cell? ⟨g, 7, none⟩ = some (.int .i64 o.f) ∧ w.cell? ⟨g, 8, none⟩ = some (.int .i64 o.d) ∧ w.cell? ⟨g, 9, none⟩ = some (slW p.2)
theorem Tc.below {C : Nat} {w w' : World} {g n : Nat} {c : Int} {o : OpR} {p : SlO} (h : Tc w g c n o p) (hb : Below C w w') (hg : g < C) : Tc w' g c n o p := by
 obtain ⟨h0, h1, h2, h3, h4, h5, h6, h7, h8, h9⟩ := h
 exact ⟨(hb.cell (p := ⟨g, 0, none⟩) hg).trans h0, (hb.cell (p := ⟨g, 1, none⟩) hg).trans h1, (hb.cell (p := ⟨g, 2, none⟩) hg).trans h2, (hb.cell (p := ⟨g, 3, none⟩) hg).trans h3, (hb.cell (p := ⟨g, 4, none⟩) hg).trans h4, (hb.cell (p := ⟨g, 5, none⟩) hg).trans h5, (hb.cell (p := ⟨g, 6, none⟩) hg).trans h6, (hb.cell (p := ⟨g, 7, none⟩) hg).trans h7, (hb.cell (p := ⟨g, 8, none⟩) hg).trans h8, (hb.cell (p := ⟨g, 9, none⟩) hg).trans h9⟩
theorem Tc.lt {w : World} {g n : Nat} {c : Int} {o : OpR} {p : SlO} (h : Tc w g c n o p) : g < w.heap.size := World.block_lt_of_cell? w ⟨g, 0, none⟩ h.1
theorem Tc.new (w : World) (c : Int) (n : Nat) (o : OpR) (p : SlO) (t : TypeId) : Tc (w.alloc (.cells #[.int .i64 c, .int .i64 (n : Int), .int .i64 o.k, .string o.x, .string o.t, slW p.1, .int .i64 o.m, .int .i64 o.f, .int .i64 o.d, slW p.2] t)) w.heap.size c n o p := ⟨by simp, by simp, by simp, by simp, by simp, by simp, by simp, by simp, by simp, by simp⟩
end Go.Proofs.YtdcgihcjiiemdaaDoor
