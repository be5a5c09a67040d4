/- Words on rows of memory, and on texts: no program in them. -/
import Derived.Test.YtmidjgpegdodcaaDoorApp
import Derived.Handy
namespace Go.Proofs.YtmidjgpegdodcaaDoor
open Go.RowKit

theorem ownBlock_slice (a : Option Addr) (n cap : Nat) : (Value.slice a n cap).ownBlock = a.map (·.block) := by cases a <;> rfl
theorem grown_alloc {w w' : World} {o : Obj} {row : Option Nat} (h : (w.alloc o).grownBy w' row) : w.grownBy w' row :=
  ⟨h.os, h.tape, h.output, Nat.le_trans (by simp) h.size, fun b hb hne => (h.block b (by simp; omega) hne).trans (Below.heap_alloc w o b hb)⟩

/-- Every text is the text of some bytes. -/
theorem str_surj (s : ByteArray) : ∃ t, s = str t ∧ IsB t := by
  refine ⟨s.data.toList.map UInt8.toNat, ?_, ?_⟩
  · obtain ⟨d⟩ := s
    unfold str
    congr 1
    rw [List.map_map]
    have : (UInt8.ofNat ∘ UInt8.toNat) = id := by funext b; simp
    rw [this]
    simp
  · intro b hb
    simp only [List.mem_map] at hb
    obtain ⟨u, _, rfl⟩ := hb
    exact u.toNat_lt
end Go.Proofs.YtmidjgpegdodcaaDoor
