/- The set of some numbers, on both sides (more of it): the rows of the program, its answer, the model's answer. -/
import Derived.Test.YtlkfmgfblfkgbaaDoorYso
namespace Go.Proofs.YtlkfmgfblfkgbaaDoor
open Go.RowKit

/-- How an answer of ranges lies there. -/
def RngEndY (r : Int × List YgP) (w : World) (e : Ending) (w' : World) : Prop := ∃ v, e = .returned (.agg #[.int .i64 r.1, v]) ∧ OwnY w' w.heap.size v r.2 ∧ Below w.heap.size w w'
theorem RngEndY.code {c : Int} {w w1 : World} (hbel : Below w.heap.size w w1) (x y : Value) : RngEndY (c, []) w (.returned (.agg #[.int .i64 c, .slice none 0 0])) ((w1.setCell ⟨w.heap.size, 0, none⟩ x).setCell ⟨w.heap.size, 1, none⟩ y) :=
  ⟨_, rfl, OwnY.nil _ _, (hbel.setCell (Nat.le_refl _) _).setCell (Nat.le_refl _) _⟩
theorem RngEndY.some {c : Int} {w w1 : World} {v : Value} {l : List YgP} (hbel : Below w.heap.size w w1) (hown : OwnY w1 (w.heap.size + 1) v l) (x y : Value) : RngEndY (c, l) w (.returned (.agg #[.int .i64 c, v])) ((w1.setCell ⟨w.heap.size, 0, none⟩ x).setCell ⟨w.heap.size, 1, none⟩ y) :=
  ⟨_, rfl, ((hown.kept _ (Nat.lt_succ_self _) _).kept _ (Nat.lt_succ_self _) _).low (Nat.le_succ _), (hbel.setCell (Nat.le_refl _) _).setCell (Nat.le_refl _) _⟩
theorem OwnZ.lowY {w : World} {B C : Nat} {v : Value} {l : List YgP} (h : OwnZ w B v l) (hC : C ≤ B) : OwnZ w C v l := by
  refine ⟨h.1, ?_⟩
  rcases h.2 with h' | ⟨g, cap, cur, h1, h2, h3⟩
  · exact .inl h'
  · exact .inr ⟨g, cap, cur, h1, Nat.le_trans hC h2, h3⟩

end Go.Proofs.YtlkfmgfblfkgbaaDoor
