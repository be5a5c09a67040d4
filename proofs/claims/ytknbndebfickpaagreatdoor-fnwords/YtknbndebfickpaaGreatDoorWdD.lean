/- A told word: plain functions, with no program in them. -/
import Derived.Test.YtknbndebfickpaaGreatDoorWrd3
import Derived.Test.YtknbndebfickpaaGreatDoorWPm
import Derived.Test.YtknbndebfickpaaGreatDoorLow
import Derived.Test.YtknbndebfickpaaGreatDoorDecL
import Derived.Lib.Strings
namespace Go.Proofs.YtknbndebfickpaaGreatDoor
open Go.RowKit

/-- The place of the question mark behind the charset. -/
def wdA (v : List Nat) : Nat := 2 + runL noQu v 2
/-- The place of the question mark behind the letters. -/
def wdZ (v : List Nat) : Nat := wdA v + 3 + runL noQu v (wdA v + 3)
/-- Has it the form? -/
def wdF (v : List Nat) : Prop := nth v 0 = 61 ∧ nth v 1 = 63 ∧ nth v (wdA v + 2) = 63 ∧ nth v (wdZ v + 1) = 61
instance (v : List Nat) : Decidable (wdF v) := by unfold wdF; infer_instance
/-- Its charset. -/
def wdC (v : List Nat) : Int := csI (str (((v.take (wdA v)).drop 2).map low))
/-- Its bytes. -/
def wdB (v : List Nat) : Option (List Nat) := toldV (nth v (wdA v + 1)) ((v.take (wdZ v)).drop (wdA v + 3))
/-- Its characters, and how many bytes it has. -/
def wdV (v : List Nat) : Option (List Int × Nat) := if wdF v then (if wdC v = 0 then none else match wdB v with
  | none => none
  | some bs => (decL (wdC v) bs).map fun u => (u, wdZ v + 2)) else none
theorem wdV_form {v : List Nat} (h : ¬ wdF v) : wdV v = none := if_neg h
theorem wdV_cs {v : List Nat} (h : wdC v = 0) : wdV v = none := by
  unfold wdV
  split
  · rfl
  · rfl
theorem wdV_by {v : List Nat} (h : wdB v = none) : wdV v = none := by
  unfold wdV
  split
  · split
    · rfl
    · rw [h]
  · rfl
theorem wdV_dec {v : List Nat} {bs : List Nat} (hf : wdF v) (hc : wdC v ≠ 0) (h : wdB v = some bs) : wdV v = (decL (wdC v) bs).map fun u => (u, wdZ v + 2) := by
  unfold wdV
  rw [if_pos hf, if_neg hc, h]
theorem wdV_some {v : List Nat} {r : List Int × Nat} (h : wdV v = some r) : wdF v ∧ wdC v ≠ 0 ∧ ∃ bs, wdB v = some bs ∧ decL (wdC v) bs = some r.1 ∧ r.2 = wdZ v + 2 := by
  by_cases hf : wdF v
  · by_cases hc : wdC v = 0
    · rw [wdV_cs hc] at h; cases h
    · cases hb : wdB v with
      | none => rw [wdV_by hb] at h; cases h
      | some bs =>
        rw [wdV_dec hf hc hb] at h
        cases hd : decL (wdC v) bs with
        | none => rw [hd] at h; cases h
        | some u =>
          rw [hd] at h
          have e : (u, wdZ v + 2) = r := by simpa using h
          subst e
          exact ⟨hf, hc, bs, rfl, hd, rfl⟩
  · rw [wdV_form hf] at h; cases h
theorem wdF_at (t : List Nat) (i : Nat) : wdF (t.drop i) ↔ nth t i = 61 ∧ nth t (i + 1) = 63 ∧ nth t (i + (wdA (t.drop i) + 2)) = 63 ∧ nth t (i + (wdZ (t.drop i) + 1)) = 61 := by
  unfold wdF
  rw [nth_drop, nth_drop, nth_drop, nth_drop, Nat.add_zero]
theorem mk_at (t : List Nat) (i j : Nat) : mkV t (i + j) = if i + (j + runL noQu (t.drop i) j) < t.length then ((i + (j + runL noQu (t.drop i) j) : Nat) : Int) else -1 := by
  unfold mkV
  rw [runL_drop, Nat.add_assoc]
theorem nth_lt_len {l : List Nat} {k : Nat} (h : nth l k ≠ 0) : k < l.length := by
  rcases Nat.lt_or_ge k l.length with h1 | h1
  · exact h1
  · exfalso; apply h; unfold nth; rw [List.getD_eq_getElem?_getD, List.getElem?_eq_none h1]; rfl
theorem findN_lt {f : Nat → ByteArray} {s : ByteArray} : ∀ {n i : Nat}, findN f s n = some i → i < n
  | 0, i, h => by cases h
  | n + 1, i, h => by
    unfold findN at h
    cases e : findN f s n with
    | some j =>
      rw [e] at h
      have e2 : j = i := by simpa using h
      have := findN_lt e
      omega
    | none =>
      rw [e] at h
      simp only at h
      split at h
      · have e2 : n = i := by simpa using h
        omega
      · cases h
theorem csI_in (s : ByteArray) : csI s = 0 ∨ 1 ≤ csI s ∧ csI s ≤ 5 := by
  unfold csI
  cases h : findN csN s 5 with
  | none => exact .inl rfl
  | some i =>
    right
    have : i < 5 := findN_lt h
    show 1 ≤ (i : Int) + 1 ∧ (i : Int) + 1 ≤ 5
    omega
/-- A character of a text that is no told word. -/
def cuV (v : List Nat) : Int × Nat := if (rdC 4 v).2 = 0 then (65533, 1) else (((rdC 4 v).1 : Int), (rdC 4 v).2)
theorem cuV_no {v : List Nat} (h : (rdC 4 v).2 = 0) : cuV v = (65533, 1) := if_pos h
theorem cuV_yes {v : List Nat} (h : (rdC 4 v).2 ≠ 0) : cuV v = (((rdC 4 v).1 : Int), (rdC 4 v).2) := if_neg h
theorem cuV_pos (v : List Nat) : 0 < (cuV v).2 := by
  unfold cuV
  split
  · exact Nat.one_pos
  · rename_i h; simp only; omega
theorem wdOk : WdOk wdV cuV where
  pos := fun v r h => by obtain ⟨_, _, _, _, _, e⟩ := wdV_some h; omega
  head := fun v r h => (wdV_some h).1.1
  one := fun v _ => cuV_pos v
  gap := fun v h hg => by
    have hg' := of_decide_eq_true hg
    have e := rdC_4_one (l := v) (by omega) (by omega)
    rw [cuV_yes (by rw [e]; simp), e]
/-- The text of a piece of a text. -/
theorem str_piece (t : List Nat) (a b : Nat) : (str t).extract a b = str ((t.take b).drop a) := by
  rw [Lib.extract_eq, show (str t).data.toList = t.map UInt8.ofNat by simp [str], ← List.map_drop, ← List.map_take, List.drop_take]
  rfl
theorem piece_drop (t : List Nat) (i a b : Nat) : (t.take (i + b)).drop (i + a) = ((t.drop i).take b).drop a := by
  rw [List.drop_take, List.drop_take, List.drop_drop]
  congr 1
  omega
end Go.Proofs.YtknbndebfickpaaGreatDoor
