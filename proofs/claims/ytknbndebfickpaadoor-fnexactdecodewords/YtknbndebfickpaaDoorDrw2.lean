/- More of the model's draws: a source, a chance, a pick, some bytes; each ends within small bounds and turns nothing but its source. -/
import Derived.Test.YtknbndebfickpaaDoorDrw
namespace Go.Proofs.YtknbndebfickpaaDoor
open Go.RowKit

/-- A row of whole numbers in a block of its own. -/
def Nums (w : World) (g : Nat) (vs : List Int) : Prop := ∀ i, i < vs.length → w.cell? ⟨g, i, none⟩ = some (.int .i64 (vs.getD i 0))

theorem nums_new {w : World} {cs : Array Value} {vs : List Int} {t : TypeId} (h : cs.toList = vs.map (Value.int .i64)) : Nums (w.alloc (.cells cs t)) w.heap.size vs := by
  intro i hi
  rw [World.cell?_alloc_mark, ← Array.getElem?_toList, h]
  simp [hi]

end Go.Proofs.YtknbndebfickpaaDoor
