/- The draws of chapters 2 and 3, each whole: some numbers and slices of memory of the draw's own; nothing that was there is turned; sources of at most 1048576 bytes. -/
import Derived.Test.YtknbndebfickpaaGreatDoorDrl2
import Derived.Test.YtknbndebfickpaaGreatDoorMrk0
namespace Go.Proofs.YtknbndebfickpaaGreatDoor
open Go.RowKit

/-- How a draw of two numbers ends. -/
def PairEnd (w : World) (e : Ending) (w' : World) : Prop := ∃ r x : Int, e = .returned (.tuple #[.int .i64 r, .int .i64 x]) ∧ Below w.heap.size w w'
/-- A slice of numbers that can be read. -/
def Sl (w : World) (v : Value) (l : List Int) : Prop := ∃ (a : Option Addr) (n cap : Nat), v = .slice a n cap ∧ l.length = n ∧ n ≤ cap ∧ n ≤ 1000 ∧ RdI w a l
theorem Sl.below {w w' : World} {v : Value} {l : List Int} (h : Sl w v l) (hb : Below w.heap.size w w') : Sl w' v l := by
  obtain ⟨a, n, cap, e, h1, h2, h3, h4⟩ := h
  exact ⟨a, n, cap, e, h1, h2, h3, h4.below hb⟩
theorem OwnI.sl {w : World} {B : Nat} {v : Value} {l : List Int} (h : OwnI w B v l) (hl : l.length ≤ 1000) : Sl w v l := by
  obtain ⟨a, cap, rfl, h2, _⟩ := h.form
  exact ⟨a, _, cap, rfl, rfl, h2, hl, h.rd.2⟩
/-- How a draw of a number and a text ends. -/
def TxtEndD (w : World) (e : Ending) (w' : World) : Prop := ∃ (r : Int) (v : Value) (l : List Int), e = .returned (.tuple #[.int .i64 r, v]) ∧ Sl w' v l ∧ Below w.heap.size w w'
/-- How a draw of a number and two texts ends. -/
def TwoTxtD (w : World) (e : Ending) (w' : World) : Prop := ∃ (r : Int) (v u : Value) (l s : List Int), e = .returned (.tuple #[.int .i64 r, v, u]) ∧ Sl w' v l ∧ Sl w' u s ∧ Below w.heap.size w w'

end Go.Proofs.YtknbndebfickpaaGreatDoor
