/- A header read, the model's: the walk. -/
import Derived.Test.YthphokjhonddcaaHdr7
namespace Go.Proofs.Ythphokjhonddcaa
open Go.RowKit

theorem FitK.fit {k : Nat} {l : List FldP} (h : FitK k l) (hk : k ≤ 1048576) : Fit l := fun p hp => by have := h.2 p hp; omega
theorem FitK.mono {k m : Nat} {l : List FldP} (h : FitK k l) (hk : k ≤ m) : FitK m l := ⟨Nat.le_trans h.1 hk, fun p hp => by have := h.2 p hp; omega⟩
theorem rd_takeH {w : World} {a : Option Addr} {l : List Nat} (h : Rd w a l) (k : Nat) : Rd w a (l.take k) := by
  rcases h with h | ⟨b, off, e, hlt, hc⟩
  · subst h; exact .inl (by simp)
  · refine .inr ⟨b, off, e, hlt, fun i hi => ?_⟩
    rw [List.length_take] at hi
    rw [hc i (by omega), nth_get (by omega), nth_get (by rw [List.length_take]; omega), List.getElem_take]

end Go.Proofs.Ythphokjhonddcaa
