/- SequenceOf, on both sides; no conditions beyond those that each fact names. -/
import Derived.Test.YtmidjgpegdodcaaDoorBxh
import Derived.Test.YtmidjgpegdodcaaDoorIxf
namespace Go.Proofs.YtmidjgpegdodcaaDoor
open Go.RowKit

/-- The message of a Uid. -/
def uidB (l : List Msg) (u : Int) (k : Nat) : Bool := decide ((nthM l k).u = u)
/-- What SequenceOf answers. -/
def sqV (b : Bx) (u : Int) : Int × Int := if bfV b = 0 then (if ixG b.m.length (uidB b.m u) < 0 then (4, 0) else (0, ixG b.m.length (uidB b.m u) + 1)) else (bfV b, 0)

/-- What a result of two numbers needs at its end. -/
theorem int_end {w w1 : World} {R : Nat} (hR : w.heap.size ≤ R) (hb : Below w.heap.size w w1) (c t : Value) : Below w.heap.size w ((w1.setCell ⟨R, 0, none⟩ c).setCell ⟨R, 1, none⟩ t) := (hb.setCell (by simpa using hR) _).setCell (by simpa using hR) _

/-- Two cells of a block. -/
def Dc (w : World) (g : Nat) (q : Value × Value) : Prop := w.cell? ⟨g, 0, none⟩ = some q.1 ∧ w.cell? ⟨g, 1, none⟩ = some q.2
theorem Dc.below {C : Nat} {w w' : World} {g : Nat} {q : Value × Value} (h : Dc w g q) (hb : Below C w w') (hg : g < C) : Dc w' g q :=
  ⟨(hb.cell (p := ⟨g, 0, none⟩) hg).trans h.1, (hb.cell (p := ⟨g, 1, none⟩) hg).trans h.2⟩
theorem Dc.new (w : World) (c0 c1 : Value) (t : TypeId) : Dc (w.alloc (.cells #[c0, c1] t)) w.heap.size (c0, c1) := ⟨by simp, by simp⟩
theorem Dc.lt {w : World} {g : Nat} {q : Value × Value} (h : Dc w g q) : g < w.heap.size := World.block_lt_of_cell? w ⟨g, 0, none⟩ h.1

end Go.Proofs.YtmidjgpegdodcaaDoor
