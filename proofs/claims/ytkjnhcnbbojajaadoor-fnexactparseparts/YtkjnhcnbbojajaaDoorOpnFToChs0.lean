/- A slice of fields that came in: what the row tells of it gives its cells; no program in it · The laws' helpers over slices of fields: they copy one, reckon its size, and hold two against each other · More of the laws' helpers over slices of fields: a slice's size, and whether two are the same · Which numbers are characters, and which lie between two others: plain functions; at every number. -/
import Derived.Test.YtkjnhcnbbojajaaDoorMrk0ToMemF
import Derived.ChangeArms
import Derived.DataReads
import Derived.Test.YtkjnhcnbbojajaaDoorAppF
import Derived.Deep.RegionHeld3
import Derived.Test.YtkjnhcnbbojajaaDoorProg
import Derived.WalkKit
import Derived.Handy
import Derived.Below
namespace Go.Proofs.YtkjnhcnbbojajaaDoor
open Go.RowKit

/-- A slice of fields, as it came in. -/
def IsFlds (w : World) (a : Option Addr) (len cap : Nat) (l : List FldP) : Prop := l.length = len ∧ len ≤ cap ∧ cap ≤ maxLen ∧ RdF w a l ∧ ∀ p ∈ l, p.1.size ≤ maxLen ∧ p.2.size ≤ maxLen

theorem add_zero (a : Addr) : a.add 0 = a := by cases a; simp [Addr.add]
theorem add_add (a : Addr) (i j : Nat) : (a.add i).add j = a.add (i + j) := by
  unfold Addr.add
  by_cases hi : i = 0 <;> by_cases hj : j = 0 <;> simp [hi, hj, Nat.add_assoc]
theorem open_flds {H : Type} {enc : TypeId × Value → H} {P : Program} {w : World} {base : Nat} {sp : Nat → Bool} {held : Bool} {fuel : Nat} {t e s : TypeId} {f0 f1 : Field} {a0 : Option Addr} {len0 cap0 : Nat} {x : DataW H × List MemPlace}
    (ht : P.underlying t = some (.slice e)) (he : P.underlying e = some (.struct #[f0, f1])) (hs : P.underlying s = some .string) (h0 : f0.type = s) (h1 : f1.type = s) (o0 : f0.offset = 0) (o1 : f1.offset = 1) (cs1 : P.cellsOf s = 1) (ce : P.cellsOf e = 2)
    (h : DataW.trod enc P w base sp held fuel t [.slice a0 len0 cap0] = some x) : ∃ l, IsFlds w a0 len0 cap0 l := by
  rcases DataW.trod_slice ht h with ⟨hcs, _⟩ | ⟨a, len, cap, elems, rest, n, _, hcs, _, _, hl, hm, hlen, hel, _, _⟩
  · simp at hcs
    obtain ⟨rfl, rfl, rfl⟩ := hcs
    exact ⟨[], rfl, by omega, by decide, .inl rfl, fun p hp => by simp at hp⟩
  · simp at hcs
    obtain ⟨rfl, rfl, rfl⟩ := hcs
    have each : ∀ i, i < len0 → ∃ p : FldP, (w.cell? (a.add (i * 2)) = some (.string p.1) ∧ w.cell? (a.add (i * 2 + 1)) = some (.string p.2)) ∧ p.1.size ≤ maxLen ∧ p.2.size ≤ maxLen := by
      intro i hi
      have hb := hel i hi
      rw [List.getElem?_eq_getElem (by omega), Option.bind_eq_some_iff] at hb
      obtain ⟨cs', hc, hy⟩ := hb
      rw [ce] at hc
      obtain ⟨xs, n', _, _, hcl, _, hfs⟩ := DataW.trod_struct he hy
      obtain ⟨-, hcl2, hcell⟩ := World.cells?_some hc
      have hxl : xs.length = 2 := by assumption
      have g0 := hfs 0 f0 rfl
      have g1 := hfs 1 f1 rfl
      rw [h0, o0, cs1, List.getElem?_eq_getElem (by omega)] at g0
      rw [h1, o1, cs1, List.getElem?_eq_getElem (by omega)] at g1
      obtain ⟨s0, e0, _, z0⟩ := DataW.trod_string hs g0
      obtain ⟨s1, e1, _, z1⟩ := DataW.trod_string hs g1
      have c0 : cs'[0]? = some (.string s0) := by
        have := congrArg (·[0]?) e0
        simpa using this
      have c1 : cs'[1]? = some (.string s1) := by
        have := congrArg (·[0]?) e1
        simpa [List.getElem?_drop] using this
      refine ⟨(s0, s1), ⟨?_, ?_⟩, z0, z1⟩
      · have := hcell 0 (by omega)
        rw [c0, add_zero] at this
        exact this
      · have := hcell 1 (by omega)
        rw [c1, add_add] at this
        exact this
    have hsz : ∀ i (h : i < len0), _ := fun i h => Classical.choose_spec (each i h)
    refine ⟨(List.range len0).map fun i => if h : i < len0 then Classical.choose (each i h) else (ByteArray.empty, ByteArray.empty), by simp, hl, hm, ?_, ?_⟩
    · by_cases hz : len0 = 0
      · left; subst hz; rfl
      · right
        obtain ⟨b, off, spot⟩ := a
        have hspot : spot = none := by
          have := World.cell?_spot (hsz 0 (by omega)).1.1
          simpa [Addr.add] using this
        subst hspot
        refine ⟨b, off, rfl, World.block_lt_of_cell? w _ (hsz 0 (by omega)).1.1, fun i hi => ?_⟩
        have hi' : i < len0 := by simpa using hi
        have hn : nthF ((List.range len0).map fun i => if h : i < len0 then Classical.choose (each i h) else (ByteArray.empty, ByteArray.empty)) i = Classical.choose (each i hi') := by
          rw [nthF_get hi]; simp [hi']
        rw [hn]
        have := (hsz i hi').1
        generalize Classical.choose (each i hi') = q at this ⊢
        rw [Go.WideShapes.add_plain, Go.WideShapes.add_plain] at this
        exact this
    · intro p hp
      simp only [List.mem_map, List.mem_range] at hp
      obtain ⟨i, hi, rfl⟩ := hp
      rw [dif_pos hi]
      exact (hsz i hi).2
end Go.Proofs.YtkjnhcnbbojajaaDoor

namespace Go.Proofs.YtkjnhcnbbojajaaDoor
open Go.RowKit

end Go.Proofs.YtkjnhcnbbojajaaDoor

namespace Go.Proofs.YtkjnhcnbbojajaaDoor
open Go.RowKit

/-- How the reckoning of a field's size ends. -/
def SzEnd (left : Int) (x y : ByteArray) (w : World) (e : Ending) (w' : World) : Prop := ∃ r : Int, e = .returned (.int .i64 r) ∧ (r = -1 ∨ 0 ≤ r ∧ r ≤ left ∧ x.size ≤ 1048576 ∧ y.size ≤ 1048576) ∧ Below w.heap.size w w'

/-- How the reckoning of a slice's size ends. -/
def SzsEnd (n : Nat) (l : List FldP) (w : World) (e : Ending) (w' : World) : Prop := ∃ r : Int, e = .returned (.int .i64 r) ∧ (r = -1 ∨ 0 ≤ r ∧ n ≤ 1048576 ∧ ∀ p ∈ l, p.1.size ≤ 1048576 ∧ p.2.size ≤ 1048576) ∧ Below w.heap.size w w'

end Go.Proofs.YtkjnhcnbbojajaaDoor

namespace Go.Proofs.YtkjnhcnbbojajaaDoor
open Go.RowKit

/-- A character. -/
def chr (c : Int) : Bool := decide (0 ≤ c ∧ c ≤ 65535 ∧ (c < 55296 ∨ 57343 < c))
theorem chr_iff {c : Int} : chr c = true ↔ (0 ≤ c ∧ c ≤ 65535 ∧ (c < 55296 ∨ 57343 < c)) := decide_eq_true_iff
theorem chr_no {c : Int} (h : ¬ (0 ≤ c ∧ c ≤ 65535 ∧ (c < 55296 ∨ 57343 < c))) : chr c = false := decide_eq_false h
theorem ret_bool {b b' : Bool} {w : World} (h : b = b') : Ending.returned (Value.bool b) = .returned (.bool b') ∧ w = w := ⟨by rw [h], rfl⟩
theorem ret_int {b b' : Int} {w : World} (h : b = b') : Ending.returned (Value.int .i64 b) = .returned (.int .i64 b') ∧ w = w := ⟨by rw [h], rfl⟩

theorem ret_boolB {b b' : Bool} {w w' : World} {n : Nat} (h : b = b') (hb : Below n w w') : Ending.returned (Value.bool b) = .returned (.bool b') ∧ Below n w w' := ⟨by rw [h], hb⟩


theorem l1In_any (c a b : Int) (w : World) : Calls Tryd.prog 54 #[.int .i64 c, .int .i64 a, .int .i64 b] w fun e w' => e = .returned (.bool (decide (a ≤ c ∧ c ≤ b))) ∧ w = w' := by
  go_enter Tryd.func54, Tryd.ntmps54
  go_wp2
  all_goals (go_ret; refine ret_bool ?_; rw [Bool.eq_iff_iff]; simp; try omega)

end Go.Proofs.YtkjnhcnbbojajaaDoor
