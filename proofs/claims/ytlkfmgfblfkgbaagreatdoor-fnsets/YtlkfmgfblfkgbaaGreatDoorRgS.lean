/- The laws' helpers over slices of ranges: they copy one, reckon its size, and hold two against each other. -/
import Derived.Test.YtlkfmgfblfkgbaaGreatDoorOpnY
import Derived.Test.YtlkfmgfblfkgbaaGreatDoorBytI
import Derived.Deep.RegionHeld3
import Derived.Handy
import Derived.Below
namespace Go.Proofs.YtlkfmgfblfkgbaaGreatDoor
open Go.RowKit

/-- What the making of a row of n fields lays. -/
theorem made_ranges (n : Nat) : (madeCells #[Value.int .i64 0, Value.int .i64 0] (n * 2)).toList = yc (List.replicate n (0, 0)) := by
  apply List.ext_getElem?
  intro j
  by_cases hj : j < n * 2
  · have h1 : (madeCells #[Value.int .i64 0, Value.int .i64 0] (n * 2)).toList[j]? = some (.int .i64 0) := by
      have hm : j % 2 = 0 ∨ j % 2 = 1 := by omega
      rcases hm with hm | hm <;> simp [madeCells, hj, hm]
    have hi : j / 2 < (List.replicate n ((0, 0) : YgP)).length := by rw [List.length_replicate]; omega
    have hf := yc_get (List.replicate n (0, 0)) (j / 2) hi
    rw [nthY_get hi, List.getElem_replicate] at hf
    rw [h1]
    have hm : j = j / 2 * 2 ∨ j = j / 2 * 2 + 1 := by omega
    rcases hm with hm | hm
    · rw [hm]; exact hf.1.symm
    · rw [hm]; exact hf.2.symm
  · rw [List.getElem?_eq_none (by simp [madeCells]; omega), List.getElem?_eq_none (by rw [yc_len, List.length_replicate]; omega)]

/-- A copy in the making. -/
def halfY (l : List YgP) (k : Nat) : List YgP := l.take k ++ List.replicate (l.length - k) (0, 0)
theorem halfY_zero (l : List YgP) : halfY l 0 = List.replicate l.length (0, 0) := by simp [halfY]
theorem halfY_all (l : List YgP) : halfY l l.length = l := by simp [halfY]
theorem halfY_len (l : List YgP) (k : Nat) (h : k ≤ l.length) : (halfY l k).length = l.length := by simp [halfY]; omega
theorem yc_set : ∀ (l : List YgP) (k : Nat) (p : YgP), k < l.length → ((yc l).set (k * 2) (.int .i64 p.1)).set (k * 2 + 1) (.int .i64 p.2) = yc (l.set k p)
  | [], _, _, h => by simp at h
  | q :: l, 0, p, _ => rfl
  | q :: l, k + 1, p, h => by
    have := yc_set l k p (by simpa using h)
    rw [yc_cons, show (k + 1) * 2 = k * 2 + 1 + 1 by omega, List.set_cons_succ, List.set_cons_succ, List.set_cons_succ, List.set_cons_succ, this, List.set_cons_succ, yc_cons]
theorem halfY_set (l : List YgP) (k : Nat) (h : k < l.length) : (halfY l k).set k (nthY l k) = halfY l (k + 1) := by
  have e : l.length - k = (l.length - (k + 1)) + 1 := by omega
  unfold halfY
  have hk : (l.take k).length = k := by simp; omega
  rw [take_snocY l k h, List.set_append, hk, if_neg (Nat.lt_irrefl k), e, List.replicate_succ, Nat.sub_self]
  simp
end Go.Proofs.YtlkfmgfblfkgbaaGreatDoor
