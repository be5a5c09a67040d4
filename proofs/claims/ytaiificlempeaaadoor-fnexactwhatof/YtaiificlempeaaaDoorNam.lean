/- The names of the charsets and of the comparators: the program's and the model's functions answer by one plain function each. -/
import Derived.Test.YtaiificlempeaaaDoorTbs
namespace Go.Proofs.YtaiificlempeaaaDoor
open Go.RowKit

/-- The names of the charsets, and those of the comparators. -/
def csZ : List (List UInt8) := [[117, 115, 45, 97, 115, 99, 105, 105], [105, 115, 111, 45, 56, 56, 53, 57, 45, 49], [105, 115, 111, 45, 56, 56, 53, 57, 45, 53], [117, 116, 102, 45, 56], [117, 116, 102, 45, 49, 54]]
def cmZ : List (List UInt8) := [[105, 59, 111, 99, 116, 101, 116], [105, 59, 97, 115, 99, 105, 105, 45, 99, 97, 115, 101, 109, 97, 112], [105, 59, 117, 110, 105, 99, 111, 100, 101, 45, 99, 97, 115, 101, 109, 97, 112]]
/-- The name at a place. -/
def csN (i : Nat) : ByteArray := txt (csZ.getD i [])
def cmN (i : Nat) : ByteArray := txt (cmZ.getD i [])
/-- A number lies between two others: a plain word. -/
def inN (v a b : Int) : Bool := decide (a ≤ v ∧ v ≤ b)
theorem inN_yes {v a b : Int} (h : a ≤ v ∧ v ≤ b) : inN v a b = true := decide_eq_true h
theorem inN_no {v a b : Int} (h : ¬ (a ≤ v ∧ v ≤ b)) : inN v a b = false := decide_eq_false h
theorem csRow_at (w : World) (t : TypeId) (j : Nat) (hj : j < 5) : (w.alloc (.cells #[.string ⟨#[]⟩, .string ⟨#[117, 115, 45, 97, 115, 99, 105, 105]⟩, .string ⟨#[105, 115, 111, 45, 56, 56, 53, 57, 45, 49]⟩, .string ⟨#[105, 115, 111, 45, 56, 56, 53, 57, 45, 53]⟩, .string ⟨#[117, 116, 102, 45, 56]⟩, .string ⟨#[117, 116, 102, 45, 49, 54]⟩] t)).cell? ⟨w.heap.size, j + 1, none⟩ = some (.string (csN j)) := by
  rw [World.cell?_alloc_mark]
  match j, hj with
  | 0, _ => rfl
  | 1, _ => rfl
  | 2, _ => rfl
  | 3, _ => rfl
  | 4, _ => rfl
theorem cmRow_at (w : World) (t : TypeId) (j : Nat) (hj : j < 3) : (w.alloc (.cells #[.string ⟨#[]⟩, .string ⟨#[105, 59, 111, 99, 116, 101, 116]⟩, .string ⟨#[105, 59, 97, 115, 99, 105, 105, 45, 99, 97, 115, 101, 109, 97, 112]⟩, .string ⟨#[105, 59, 117, 110, 105, 99, 111, 100, 101, 45, 99, 97, 115, 101, 109, 97, 112]⟩] t)).cell? ⟨w.heap.size, j + 1, none⟩ = some (.string (cmN j)) := by
  rw [World.cell?_alloc_mark]
  match j, hj with
  | 0, _ => rfl
  | 1, _ => rfl
  | 2, _ => rfl

/-- What CharsetName answers. -/
def nameV (cs : Int) : Int × ByteArray := if 1 ≤ cs ∧ cs ≤ 5 then (0, csN (cs.toNat - 1)) else (4, ByteArray.empty)
theorem nameV_no {cs : Int} (h : ¬ (1 ≤ cs ∧ cs ≤ 5)) : nameV cs = (4, ByteArray.empty) := if_neg h
theorem nameV_yes {j : Nat} (h : j < 5) : nameV ((j + 1 : Nat) : Int) = (0, csN j) := by
  unfold nameV; rw [if_pos (by omega)]; congr 2
/-- An answer with a text. -/
def TxtAns (r : Int × ByteArray) (w : World) (e : Ending) (w' : World) : Prop := e = .returned (.agg #[.int .i64 r.1, .string r.2]) ∧ Below w.heap.size w w'

theorem eqIntResult_nam (c v : Int) (w : World) :
    Calls Tryd.prog 6 #[.agg #[.int .i64 c, .int .i64 v], .agg #[.int .i64 c, .int .i64 v]] w fun e w' => e = .returned (.bool true) ∧ Below w.heap.size w w' := by
  go_enter Tryd.func6, Tryd.ntmps6
  go_wp2
  go_ret
  exact ⟨rfl, by go_grown⟩
end Go.Proofs.YtaiificlempeaaaDoor
