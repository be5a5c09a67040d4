/- Plain facts on flags and their words, on places by names and by Uids; with no program in it. -/
import Derived.Test.YtilepbbcinbmhaaDoorFli
import Derived.Test.YtilepbbcinbmhaaDoorSte
import Derived.Test.YtilepbbcinbmhaaDoorSeq
namespace Go.Proofs.YtilepbbcinbmhaaDoor
open Go.RowKit

theorem pf_ft {s : ByteArray} (h : (pfV s).1 = 0) : str (ftV (pfV s).2).2 = s := by
  unfold pfV at h ⊢
  cases hf : (List.range 16).find? (pfB s) with
  | none => rw [hf] at h; simp at h
  | some k =>
    obtain ⟨h1, h2, -⟩ := List.find?_range_eq_some.1 hf
    have hk : k < 16 := by simpa using h2
    have e : str (fxL k) = s := of_decide_eq_true h1
    simp only
    unfold ftV
    rw [if_pos ⟨by omega, by omega⟩]
    simpa using e
theorem ft_pf : ∀ k : Nat, k < 16 → pfV (str (fxL k)) = (0, (k : Int)) := by decide +kernel
theorem ixG_spec (n : Nat) (p : Nat → Bool) (h : ¬ ixG n p < 0) : ∃ i : Nat, ixG n p = (i : Int) ∧ i < n ∧ p i = true := by
  unfold ixG at h ⊢
  cases hf : (List.range n).find? p with
  | none => rw [hf] at h; simp at h
  | some k =>
    obtain ⟨h1, h2, -⟩ := List.find?_range_eq_some.1 hf
    exact ⟨k, rfl, by simpa using h2, h1⟩
theorem bo_in {v : Int} {l : List Bx} {nm : ByteArray} (h : (boV v l nm).1 = 0) : ∃ i : Nat, (boV v l nm).2 = (i : Int) ∧ i < l.length ∧ (nthX l i).n = nm := by
  unfold boV at h ⊢
  by_cases hs : stV v l = 0
  · rw [if_pos hs] at h ⊢
    by_cases hx : ixG l.length (nmX l nm) < 0
    · rw [if_pos hx] at h; simp at h
    · rw [if_neg hx]
      obtain ⟨i, e, hi, hp⟩ := ixG_spec _ _ hx
      exact ⟨i, e, hi, of_decide_eq_true hp⟩
  · rw [if_neg hs] at h; exact absurd h hs
theorem sq_in {b : Bx} {u : Int} (h : (sqV b u).1 = 0) : ∃ i : Nat, (sqV b u).2 = (i : Int) + 1 ∧ i < b.m.length ∧ (nthM b.m i).u = u := by
  unfold sqV at h ⊢
  by_cases hs : bfV b = 0
  · rw [if_pos hs] at h ⊢
    by_cases hx : ixG b.m.length (uidB b.m u) < 0
    · rw [if_pos hx] at h; simp at h
    · rw [if_neg hx]
      obtain ⟨i, e, hi, hp⟩ := ixG_spec _ _ hx
      exact ⟨i, by rw [e], hi, of_decide_eq_true hp⟩
  · rw [if_neg hs] at h; exact absurd h hs
end Go.Proofs.YtilepbbcinbmhaaDoor
