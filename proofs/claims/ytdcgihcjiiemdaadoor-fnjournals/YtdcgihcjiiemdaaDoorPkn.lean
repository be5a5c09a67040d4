/- What PackOp answers, as its law takes it; no conditions beyond those that each fact names. -/
import Derived.Test.YtdcgihcjiiemdaaDoorPkm
namespace Go.Proofs.YtdcgihcjiiemdaaDoor
open Go.RowKit
theorem GrJ.wr {w : World} {B : Nat} {v : Value} {l : List Nat} (h : GrJ w B v l) (g0 : Nat) : ∃ a cap, v = .slice a l.length cap ∧ Rd w a l ∧ ∃ g, (l.length = 0 ∨ a = some ⟨g, 0, none⟩) ∧ (g = g0 ∨ B ≤ g ∧ g < w.heap.size) ∧ ∀ i, i < l.length → (w.cell? ⟨g, i, none⟩).isSome = true ∧ w.frozen? ⟨g, i, none⟩ = false := by
 rcases h with ⟨rfl, rfl⟩ | ⟨g, cap, rfl, hB, hm, hc⟩
 ·exact ⟨none, 0, rfl, .inl rfl, g0, .inl rfl, .inl rfl, fun i hi => absurd hi (Nat.not_lt_zero _)⟩
 ·exact ⟨_, cap, rfl, hc.rd, g, .inr rfl, .inr ⟨hB, hc.2.2.1⟩, fun i hi => hc.2.2.2.2 i (Nat.lt_of_lt_of_le hi hc.2.1)⟩
end Go.Proofs.YtdcgihcjiiemdaaDoor
