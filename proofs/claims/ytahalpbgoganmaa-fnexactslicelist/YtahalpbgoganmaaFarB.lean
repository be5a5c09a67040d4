/- A row of bytes of the call's own is kept where another one grows. -/
import Derived.Test.YtahalpbgoganmaaMrk
namespace Go.Proofs.Ytahalpbgoganmaa
open Go.RowKit

theorem Own.far {w w' : World} {B : Nat} {v : Value} {l : List Nat} {row : Option Nat} (h : Own w B v l) (hg : w.grownBy w' row) (hne : ∀ b, v.ownBlock = some b → some b ≠ row) : Own w' B v l := by
  refine ⟨h.1, ?_⟩
  rcases h.2 with h' | ⟨g, cap, cur, h1, h2, h3, h4⟩
  · exact .inl h'
  · refine .inr ⟨g, cap, cur, h1, h2, ?_, h4⟩
    have hlt : g < w.heap.size := by
      rcases Nat.lt_or_ge g w.heap.size with hlt | hge
      · exact hlt
      · simp [Array.getElem?_eq_none hge] at h3
    rw [hg.block g hlt (hne g (by rw [h1]; rfl))]; exact h3
end Go.Proofs.Ytahalpbgoganmaa
