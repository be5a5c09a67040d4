/- A line of a header, the model's: by a plain function. -/
import Derived.Test.YthphokjhonddcaaHdr4
import Derived.Test.YthphokjhonddcaaSetF
namespace Go.Proofs.Ythphokjhonddcaa
open Go.RowKit

/-- No colon. -/
def noCl (c : Nat) : Bool := decide (c ≠ 58)
/-- Where the first colon stands. -/
def clN (t : List Nat) : Nat := (t.takeWhile noCl).length
/-- Without one blank. -/
def oneOff (t : List Nat) : List Nat := if nth t 0 = 32 then t.drop 1 else t
/-- The last field, its value going on. -/
def goOn (l : List FldP) (t : List Nat) : List FldP := l.set (l.length - 1) ((nthF l (l.length - 1)).1, str (bts (nthF l (l.length - 1)).2 ++ t))
/-- The field that a line tells. -/
def fdL (t : List Nat) : FldP := (str (t.take (clN t)), str (oneOff (t.drop (clN t + 1))))
/-- What a line makes of the fields ahead. -/
def lnV (l : List FldP) (t : List Nat) : Option (List FldP) :=
  if nth t 0 = 32 ∨ nth t 0 = 9 then (if l.length = 0 then none else some (goOn l t)) else if clN t < t.length then some (l ++ [fdL t]) else none
theorem lnV_first {l : List FldP} {t : List Nat} (h : nth t 0 = 32 ∨ nth t 0 = 9) (h1 : l.length = 0) : lnV l t = none := by unfold lnV; rw [if_pos h, if_pos h1]
theorem lnV_on {l : List FldP} {t : List Nat} (h : nth t 0 = 32 ∨ nth t 0 = 9) (h1 : l.length ≠ 0) : lnV l t = some (goOn l t) := by unfold lnV; rw [if_pos h, if_neg h1]
theorem lnV_new {l : List FldP} {t : List Nat} (h : ¬ (nth t 0 = 32 ∨ nth t 0 = 9)) (h1 : clN t < t.length) : lnV l t = some (l ++ [fdL t]) := by unfold lnV; rw [if_neg h, if_pos h1]
theorem lnV_none {l : List FldP} {t : List Nat} (h : ¬ (nth t 0 = 32 ∨ nth t 0 = 9)) (h1 : ¬ clN t < t.length) : lnV l t = none := by unfold lnV; rw [if_neg h, if_neg h1]
theorem add_fields (x : ByteArray) (t : List Nat) (hx : x.size ≤ 1048576) (ht : t.length ≤ 1048576) : ∀ w, (Op.stringOp .add x (str t)).run Try.prog w = .ok (.string (str (bts x ++ t))) w := by
  intro w
  rw [str_app, str_bts]
  exact run_string_add_sum w _ _ (by rw [str_size]; omega)

end Go.Proofs.Ythphokjhonddcaa
