/- A slice of fields that came in: what the row tells of it gives its cells; no program in it. -/
import Derived.Test.YthphokjhonddcaaMemF
import Derived.ChangeArms
import Derived.DataReads
namespace Go.Proofs.Ythphokjhonddcaa
open Go.RowKit

/-- A slice of fields, as it came in. -/
def IsFlds (w : World) (a : Option Addr) (len cap : Nat) (l : List FldP) : Prop := l.length = len ∧ len ≤ cap ∧ cap ≤ maxLen ∧ RdF w a l ∧ ∀ p ∈ l, p.1.size ≤ maxLen ∧ p.2.size ≤ maxLen

theorem add_zero (a : Addr) : a.add 0 = a := by cases a; simp [Addr.add]
theorem add_add (a : Addr) (i j : Nat) : (a.add i).add j = a.add (i + j) := by
  unfold Addr.add
  by_cases hi : i = 0 <;> by_cases hj : j = 0 <;> simp [hi, hj, Nat.add_assoc]
theorem open_flds {H : Type} {enc : TypeId × Value → H} {P : Program} {w : World} {base : Nat} {sp : Nat → Bool} {held : Bool} {fuel : Nat} {t e s : TypeId} {f0 f1 : Field} {a0 : Option Addr} {len0 cap0 : Nat} {x : DataW H × List MemPlace}
    (ht : P.underlying t = some (.slice e)) (he : P.underlying e = some (.struct #[f0, f1])) (hs : P.underlying s = some .string) (h0 : f0.type = s) (h1 : f1.type = s) (o0 : f0.offset = 0) (o1 : f1.offset = 1) (cs1 : P.cellsOf s = 1) (ce : P.cellsOf e = 2)
    (h : DataW.trod enc P w base sp held fuel t [.slice a0 len0 cap0] = some x) : ∃ l, IsFlds w a0 len0 cap0 l := by
  rcases DataW.trod_slice ht h with ⟨hcs, _⟩ | ⟨a, len, cap, elems, rest, n, _, hcs, _, _, hl, hm, hlen, hel, _, _⟩
  · simp at hcs
    obtain ⟨rfl, rfl, rfl⟩ := hcs
    exact ⟨[], rfl, by omega, by decide, .inl rfl, fun p hp => by simp at hp⟩
  · simp at hcs
    obtain ⟨rfl, rfl, rfl⟩ := hcs
    have each : ∀ i, i < len0 → ∃ p : FldP, (w.cell? (a.add (i * 2)) = some (.string p.1) ∧ w.cell? (a.add (i * 2 + 1)) = some (.string p.2)) ∧ p.1.size ≤ maxLen ∧ p.2.size ≤ maxLen := by
      intro i hi
      have hb := hel i hi
      rw [List.getElem?_eq_getElem (by omega), Option.bind_eq_some_iff] at hb
      obtain ⟨cs', hc, hy⟩ := hb
      rw [ce] at hc
      obtain ⟨xs, n', _, _, hcl, _, hfs⟩ := DataW.trod_struct he hy
      obtain ⟨-, hcl2, hcell⟩ := World.cells?_some hc
      have hxl : xs.length = 2 := by assumption
      have g0 := hfs 0 f0 rfl
      have g1 := hfs 1 f1 rfl
      rw [h0, o0, cs1, List.getElem?_eq_getElem (by omega)] at g0
      rw [h1, o1, cs1, List.getElem?_eq_getElem (by omega)] at g1
      obtain ⟨s0, e0, _, z0⟩ := DataW.trod_string hs g0
      obtain ⟨s1, e1, _, z1⟩ := DataW.trod_string hs g1
      have c0 : cs'[0]? = some (.string s0) := by
        have := congrArg (·[0]?) e0
        simpa using this
      have c1 : cs'[1]? = some (.string s1) := by
        have := congrArg (·[0]?) e1
        simpa [List.getElem?_drop] using this
      refine ⟨(s0, s1), ⟨?_, ?_⟩, z0, z1⟩
      · have := hcell 0 (by omega)
        rw [c0, add_zero] at this
        exact this
      · have := hcell 1 (by omega)
        rw [c1, add_add] at this
        exact this
    have hsz : ∀ i (h : i < len0), _ := fun i h => Classical.choose_spec (each i h)
    refine ⟨(List.range len0).map fun i => if h : i < len0 then Classical.choose (each i h) else (ByteArray.empty, ByteArray.empty), by simp, hl, hm, ?_, ?_⟩
    · by_cases hz : len0 = 0
      · left; subst hz; rfl
      · right
        obtain ⟨b, off, spot⟩ := a
        have hspot : spot = none := by
          have := World.cell?_spot (hsz 0 (by omega)).1.1
          simpa [Addr.add] using this
        subst hspot
        refine ⟨b, off, rfl, World.block_lt_of_cell? w _ (hsz 0 (by omega)).1.1, fun i hi => ?_⟩
        have hi' : i < len0 := by simpa using hi
        have hn : nthF ((List.range len0).map fun i => if h : i < len0 then Classical.choose (each i h) else (ByteArray.empty, ByteArray.empty)) i = Classical.choose (each i hi') := by
          rw [nthF_get hi]; simp [hi']
        rw [hn]
        have := (hsz i hi').1
        generalize Classical.choose (each i hi') = q at this ⊢
        rw [Go.WideShapes.add_plain, Go.WideShapes.add_plain] at this
        exact this
    · intro p hp
      simp only [List.mem_map, List.mem_range] at hp
      obtain ⟨i, hi, rfl⟩ := hp
      rw [dif_pos hi]
      exact (hsz i hi).2
end Go.Proofs.Ythphokjhonddcaa
