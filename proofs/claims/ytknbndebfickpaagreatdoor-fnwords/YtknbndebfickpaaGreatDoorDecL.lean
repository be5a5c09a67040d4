/- The characters that some bytes tell: plain functions, with no program in them, and how an answer with numbers ends. -/
import Derived.Test.YtknbndebfickpaaGreatDoorDec2
namespace Go.Proofs.YtknbndebfickpaaGreatDoor
open Go.RowKit

/-- The characters of some bytes, if they tell any. -/
def decL (cs : Int) (l : List Nat) : Option (List Int) :=
  if _h : 1 ≤ l.length ∧ (rdC cs l).2 ≠ 0 then (decL cs (l.drop (rdC cs l).2)).map (((rdC cs l).1 : Int) :: ·) else if l.length = 0 then some [] else none
termination_by l.length
decreasing_by
  rw [List.length_drop]
  omega
theorem decL_nil {cs : Int} {l : List Nat} (h : l.length = 0) : decL cs l = some [] := by
  rw [decL, dif_neg (by omega), if_pos h]
theorem decL_none {cs : Int} {l : List Nat} (h : 1 ≤ l.length) (h0 : (rdC cs l).2 = 0) : decL cs l = none := by
  rw [decL, dif_neg (by intro h'; exact h'.2 h0), if_neg (by omega)]
theorem decL_step {cs : Int} {l : List Nat} {c s : Nat} (h : 1 ≤ l.length) (hs : s ≠ 0) (hr : rdC cs l = (c, s)) : decL cs l = (decL cs (l.drop s)).map ((c : Int) :: ·) := by
  rw [decL, dif_pos ⟨h, by rw [hr]; exact hs⟩, hr]
/-- What DecodeText answers. -/
def decT (cs : Int) (l : List Nat) : Int × List Int := if 1 ≤ cs ∧ cs ≤ 5 then (if 400 < l.length then (2, []) else match decL cs l with | some u => (0, u) | none => (8, [])) else (4, [])
theorem decT_cs {cs : Int} {l : List Nat} (h : ¬ (1 ≤ cs ∧ cs ≤ 5)) : decT cs l = (4, []) := if_neg h
theorem decT_many {cs : Int} {l : List Nat} (h : 1 ≤ cs ∧ cs ≤ 5) (h4 : 400 < l.length) : decT cs l = (2, []) := by unfold decT; rw [if_pos h, if_pos h4]
theorem decT_no {cs : Int} {l : List Nat} (h : 1 ≤ cs ∧ cs ≤ 5) (h4 : ¬ 400 < l.length) (hd : decL cs l = none) : decT cs l = (8, []) := by unfold decT; rw [if_pos h, if_neg h4, hd]
theorem decT_ok {cs : Int} {l : List Nat} {u : List Int} (h : 1 ≤ cs ∧ cs ≤ 5) (h4 : ¬ 400 < l.length) (hd : decL cs l = some u) : decT cs l = (0, u) := by unfold decT; rw [if_pos h, if_neg h4, hd]
theorem omap_app {o : Option (List Int)} {a : List Int} {c : Int} : (o.map (c :: ·)).map (a ++ ·) = o.map ((a ++ [c]) ++ ·) := by cases o <;> simp

/-- An answer with numbers. -/
def CodEnd (r : Int × List Int) (w : World) (e : Ending) (w' : World) : Prop := ∃ v, e = .returned (.agg #[.int .i64 r.1, v]) ∧ OwnI w' w.heap.size v r.2 ∧ Below w.heap.size w w'
theorem CodEnd.code {c : Int} {w w1 : World} (hbel : Below w.heap.size w w1) (x y : Value) : CodEnd (c, []) w (.returned (.agg #[.int .i64 c, .slice none 0 0])) ((w1.setCell ⟨w.heap.size, 0, none⟩ x).setCell ⟨w.heap.size, 1, none⟩ y) :=
  ⟨_, rfl, OwnI.nil _ _, (hbel.setCell (by simp) _).setCell (by simp) _⟩
theorem CodEnd.some {c : Int} {w w1 : World} {v : Value} {l : List Int} (hbel : Below w.heap.size w w1) (hown : OwnI w1 (w.heap.size + 1) v l) (x y : Value) : CodEnd (c, l) w (.returned (.agg #[.int .i64 c, v])) ((w1.setCell ⟨w.heap.size, 0, none⟩ x).setCell ⟨w.heap.size, 1, none⟩ y) :=
  ⟨_, rfl, ((hown.kept _ (by simp) _).kept _ (by simp) _).lower (by omega), (hbel.setCell (by simp) _).setCell (by simp) _⟩

end Go.Proofs.YtknbndebfickpaaGreatDoor
