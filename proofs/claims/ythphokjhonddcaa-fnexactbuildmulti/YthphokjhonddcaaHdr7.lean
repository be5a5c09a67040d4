/- A header read, the model's: by a plain function. -/
import Derived.Test.YthphokjhonddcaaHdr6
namespace Go.Proofs.Ythphokjhonddcaa
open Go.RowKit

/-- The lines of a header, from a place on: the fields, and the place behind. -/
def prH (d : List Nat) : Nat → Nat → List FldP → Option (List FldP × Nat)
  | 0, k, fs => some (fs, k)
  | f + 1, k, fs => if k < d.length then (if eoL d k = k then some (fs, k + 1) else match lnV fs ((d.take (eoL d k)).drop k) with
    | none => none
    | some fs' => prH d f (if eoL d k < d.length then eoL d k + 1 else eoL d k) fs') else some (fs, k)
theorem prH_end {d : List Nat} {f k : Nat} {fs : List FldP} (h : ¬ k < d.length) : prH d f k fs = some (fs, k) := by
  cases f with
  | zero => rfl
  | succ f => unfold prH; rw [if_neg h]
theorem prH_stop {d : List Nat} {f k : Nat} {fs : List FldP} (h : k < d.length) (he : eoL d k = k) : prH d (f + 1) k fs = some (fs, k + 1) := by
  unfold prH; rw [if_pos h, if_pos he]
theorem prH_bad {d : List Nat} {f k : Nat} {fs : List FldP} (h : k < d.length) (he : eoL d k ≠ k) (hv : lnV fs ((d.take (eoL d k)).drop k) = none) : prH d (f + 1) k fs = none := by
  unfold prH; rw [if_pos h, if_neg he, hv]
theorem prH_on {d : List Nat} {f k : Nat} {fs fs' : List FldP} (h : k < d.length) (he : eoL d k ≠ k) (hv : lnV fs ((d.take (eoL d k)).drop k) = some fs') :
    prH d (f + 1) k fs = prH d f (if eoL d k < d.length then eoL d k + 1 else eoL d k) fs' := by
  conv => lhs; unfold prH
  rw [if_pos h, if_neg he, hv]
/-- Fields that are no longer than the bytes read. -/
def FitK (k : Nat) (l : List FldP) : Prop := l.length ≤ k ∧ ∀ p ∈ l, p.1.size ≤ k ∧ p.2.size ≤ k
theorem lnV_fit {fs fs' : List FldP} {t : List Nat} {k : Nat} (ht : 0 < t.length) (h : FitK k fs) (hv : lnV fs t = some fs') : FitK (k + t.length) fs' ∧ 0 < fs'.length := by
  obtain ⟨h1, h2⟩ := h
  unfold lnV at hv
  split at hv
  · split at hv
    · cases hv
    · rename_i h0
      cases hv
      unfold goOn
      refine ⟨⟨by rw [List.length_set]; omega, fun p hp => ?_⟩, by rw [List.length_set]; omega⟩
      rcases List.mem_or_eq_of_mem_set hp with hm | rfl
      · have := h2 p hm; omega
      · have hm := h2 (nthF fs (fs.length - 1)) (by rw [nthF_get (by omega)]; exact List.getElem_mem _)
        refine ⟨by have := hm.1; simp only; omega, ?_⟩
        simp only [str_size, List.length_append, bts_len]
        omega
  · split at hv
    · rename_i hc
      cases hv
      refine ⟨⟨by rw [List.length_append, List.length_cons, List.length_nil]; omega, fun p hp => ?_⟩, by rw [List.length_append, List.length_cons]; omega⟩
      rcases List.mem_append.1 hp with hm | hm
      · have := h2 p hm; omega
      · rw [List.mem_singleton.1 hm]
        simp only [fdL, str_size, List.length_take]
        have ho : (oneOff (t.drop (clN t + 1))).length ≤ t.length := by
          unfold oneOff
          split
          · rw [List.length_drop, List.length_drop]; omega
          · rw [List.length_drop]; omega
        omega
    · cases hv
end Go.Proofs.Ythphokjhonddcaa
