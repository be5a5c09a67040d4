/- Small letters, the program's and the model's: both by one plain function; texts of at most 1048576 bytes. -/
import Derived.Test.YthphokjhonddcaaCv
namespace Go.Proofs.Ythphokjhonddcaa
open Go.RowKit

/-- The small letter of a large one. -/
def low (b : Nat) : Nat := if 65 ≤ b ∧ b ≤ 90 then b + 32 else b
theorem low_yes {b : Nat} (h : 65 ≤ b ∧ b ≤ 90) : low b = b + 32 := if_pos h
theorem low_no {b : Nat} (h : ¬ (65 ≤ b ∧ b ≤ 90)) : low b = b := if_neg h
/-- A text, its first k letters small. -/
def lowK (l : List Nat) (k : Nat) : List Nat := (l.take k).map low ++ l.drop k
theorem lowK_zero (l : List Nat) : lowK l 0 = l := by simp [lowK]
theorem lowK_all (l : List Nat) : lowK l l.length = l.map low := by simp [lowK]
theorem lowK_len (l : List Nat) (k : Nat) (h : k ≤ l.length) : (lowK l k).length = l.length := by simp [lowK]; omega
theorem lowK_nth (l : List Nat) (k : Nat) (h : k < l.length) : nth (lowK l k) k = nth l k := by
  have hl := lowK_len l k (by omega)
  rw [nth_get (by omega), nth_get h]
  unfold lowK
  rw [List.getElem_append_right (by simp; omega)]
  simp [Nat.min_eq_left (Nat.le_of_lt h)]
theorem lowK_set (l : List Nat) (k : Nat) (h : k < l.length) : (lowK l k).set k (low (nth l k)) = lowK l (k + 1) := by
  unfold lowK
  have hm : ((l.take k).map low).length = k := by simp; omega
  rw [take_snoc l k h, List.map_append, List.set_append, hm, if_neg (Nat.lt_irrefl k), Nat.sub_self, drop_cons l k h]
  simp
theorem lowK_same (l : List Nat) (k : Nat) (h : k < l.length) (hx : low (nth l k) = nth l k) : lowK l k = lowK l (k + 1) := by
  rw [← lowK_set l k h, hx]
  apply List.ext_getElem (by simp)
  intro i h1 h2
  rw [List.getElem_set]
  split
  · rename_i e
    subst e
    have := lowK_nth l k h
    rw [nth_get h1] at this
    exact this
  · rfl


end Go.Proofs.Ythphokjhonddcaa
