/- ComparatorOf, the program's and the model's, at every text: both by one plain function. -/
import Derived.Test.YtaiificlempeaaaDoorNam
namespace Go.Proofs.YtaiificlempeaaaDoor
open Go.RowKit

theorem toList_txt (l : List Nat) : (str l).toList = l.map UInt8.ofNat := by
  rw [ByteArray.toList_eq]; simp [str]
theorem txt_ne {x s : ByteArray} (h : x ≠ s) : (x.toList == s.toList) = false := by
  rw [beq_eq_false_iff_ne]
  intro he
  apply h
  obtain ⟨a, rfl, _⟩ := str_surj x
  obtain ⟨b, rfl, _⟩ := str_surj s
  rw [toList_txt, toList_txt] at he
  unfold str
  rw [he]

/-- The place of a name among the first n of a table. -/
def findN (f : Nat → ByteArray) (s : ByteArray) : Nat → Option Nat
  | 0 => none
  | n + 1 => match findN f s n with
    | some i => some i
    | none => if f n = s then some n else none
theorem findN_none {f : Nat → ByteArray} {s : ByteArray} : ∀ {n : Nat}, (∀ i, i < n → f i ≠ s) → findN f s n = none
  | 0, _ => rfl
  | n + 1, h => by
    rw [findN, findN_none (fun i hi => h i (by omega))]
    exact if_neg (h n (by omega))
theorem findN_some {f : Nat → ByteArray} {s : ByteArray} {j : Nat} (h : ∀ i, i < j → f i ≠ s) (hj : f j = s) : ∀ {n : Nat}, j < n → findN f s n = some j
  | 0, hn => by omega
  | n + 1, hn => by
    by_cases e : j = n
    · subst e
      rw [findN, findN_none h]
      exact if_pos hj
    · rw [findN, findN_some h hj (n := n) (by omega)]
/-- The answer of a look for a name. -/
def ofV (o : Option Nat) : Int × Int := match o with
  | some i => (0, (i : Int) + 1)
  | none => (4, 0)
def cmV (s : ByteArray) : Int × Int := ofV (findN cmN s 3)
theorem cmV_none {s : ByteArray} (h : ∀ i, i < 3 → cmN i ≠ s) : cmV s = (4, 0) := by unfold cmV; rw [findN_none h]; rfl
theorem cmV_some {s : ByteArray} {j : Nat} (h : ∀ i, i < j → cmN i ≠ s) (hj : cmN j = s) (h3 : j < 3) : cmV s = (0, (j : Int) + 1) := by unfold cmV; rw [findN_some h hj h3]; rfl
/-- An answer with one number. -/
def IntEnd (r : Int × Int) (w : World) (e : Ending) (w' : World) : Prop := e = .returned (.agg #[.int .i64 r.1, .int .i64 r.2]) ∧ Below w.heap.size w w'
theorem IntEnd.put {r : Int × Int} {w w1 : World} (hbel : Below w.heap.size w w1) (x y : Value) : IntEnd r w (.returned (.agg #[.int .i64 r.1, .int .i64 r.2])) ((w1.setCell ⟨w.heap.size, 0, none⟩ x).setCell ⟨w.heap.size, 1, none⟩ y) :=
  ⟨rfl, (hbel.setCell (by simp) _).setCell (by simp) _⟩

end Go.Proofs.YtaiificlempeaaaDoor
