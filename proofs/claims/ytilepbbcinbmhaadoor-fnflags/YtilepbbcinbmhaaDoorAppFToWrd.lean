/- A slice of fields of the call's own, and what an append to it leaves: laws for this program's types · A slice of fields that came in: what the row tells of it gives its cells; no program in it · The laws' helpers over slices of fields: they copy one, reckon its size, and hold two against each other · More of the laws' helpers over slices of fields: a slice's size, and whether two are the same · FieldsFault, the model's, at every slice of fields: by a plain function · Told words, the model's: the place of a question mark, blanks and tabs. -/
import Derived.Test.YtilepbbcinbmhaaDoorMemF
import Derived.Test.YtilepbbcinbmhaaDoorMemToInf
import Derived.ChangeArms
import Derived.DataReads
import Derived.Deep.RegionHeld3
import Derived.Test.YtilepbbcinbmhaaDoorChs0ToTel2
namespace Go.Proofs.YtilepbbcinbmhaaDoor
open Go.RowKit

/-- A field as a value. -/
def fv (p : FldP) : Value := .agg #[.string p.1, .string p.2]
def zeroF : Value := .agg #[.string ⟨#[]⟩, .string ⟨#[]⟩]
end Go.Proofs.YtilepbbcinbmhaaDoor

namespace Go.Proofs.YtilepbbcinbmhaaDoor
open Go.RowKit

/-- A slice of fields, as it came in. -/
def IsFlds (w : World) (a : Option Addr) (len cap : Nat) (l : List FldP) : Prop := l.length = len ∧ len ≤ cap ∧ cap ≤ maxLen ∧ RdF w a l ∧ ∀ p ∈ l, p.1.size ≤ maxLen ∧ p.2.size ≤ maxLen

theorem add_zero (a : Addr) : a.add 0 = a := by cases a; simp [Addr.add]
theorem add_add (a : Addr) (i j : Nat) : (a.add i).add j = a.add (i + j) := by
  unfold Addr.add
  by_cases hi : i = 0 <;> by_cases hj : j = 0 <;> simp [hi, hj, Nat.add_assoc]
theorem open_flds {H : Type} {enc : TypeId × Value → H} {P : Program} {w : World} {base : Nat} {sp : Nat → Bool} {held : Bool} {fuel : Nat} {t e s : TypeId} {f0 f1 : Field} {a0 : Option Addr} {len0 cap0 : Nat} {x : DataW H × List MemPlace}
    (ht : P.underlying t = some (.slice e)) (he : P.underlying e = some (.struct #[f0, f1])) (hs : P.underlying s = some .string) (h0 : f0.type = s) (h1 : f1.type = s) (o0 : f0.offset = 0) (o1 : f1.offset = 1) (cs1 : P.cellsOf s = 1) (ce : P.cellsOf e = 2)
    (h : DataW.trod enc P w base sp held fuel t [.slice a0 len0 cap0] = some x) : ∃ l, IsFlds w a0 len0 cap0 l := by
  rcases DataW.trod_slice ht h with ⟨hcs, _⟩ | ⟨a, len, cap, elems, rest, n, _, hcs, _, _, hl, hm, hlen, hel, _, _⟩
  · simp at hcs
    obtain ⟨rfl, rfl, rfl⟩ := hcs
    exact ⟨[], rfl, by omega, by decide, .inl rfl, fun p hp => by simp at hp⟩
  · simp at hcs
    obtain ⟨rfl, rfl, rfl⟩ := hcs
    have each : ∀ i, i < len0 → ∃ p : FldP, (w.cell? (a.add (i * 2)) = some (.string p.1) ∧ w.cell? (a.add (i * 2 + 1)) = some (.string p.2)) ∧ p.1.size ≤ maxLen ∧ p.2.size ≤ maxLen := by
      intro i hi
      have hb := hel i hi
      rw [List.getElem?_eq_getElem (by omega), Option.bind_eq_some_iff] at hb
      obtain ⟨cs', hc, hy⟩ := hb
      rw [ce] at hc
      obtain ⟨xs, n', _, _, hcl, _, hfs⟩ := DataW.trod_struct he hy
      obtain ⟨-, hcl2, hcell⟩ := World.cells?_some hc
      have hxl : xs.length = 2 := by assumption
      have g0 := hfs 0 f0 rfl
      have g1 := hfs 1 f1 rfl
      rw [h0, o0, cs1, List.getElem?_eq_getElem (by omega)] at g0
      rw [h1, o1, cs1, List.getElem?_eq_getElem (by omega)] at g1
      obtain ⟨s0, e0, _, z0⟩ := DataW.trod_string hs g0
      obtain ⟨s1, e1, _, z1⟩ := DataW.trod_string hs g1
      have c0 : cs'[0]? = some (.string s0) := by
        have := congrArg (·[0]?) e0
        simpa using this
      have c1 : cs'[1]? = some (.string s1) := by
        have := congrArg (·[0]?) e1
        simpa [List.getElem?_drop] using this
      refine ⟨(s0, s1), ⟨?_, ?_⟩, z0, z1⟩
      · have := hcell 0 (by omega)
        rw [c0, add_zero] at this
        exact this
      · have := hcell 1 (by omega)
        rw [c1, add_add] at this
        exact this
    have hsz : ∀ i (h : i < len0), _ := fun i h => Classical.choose_spec (each i h)
    refine ⟨(List.range len0).map fun i => if h : i < len0 then Classical.choose (each i h) else (ByteArray.empty, ByteArray.empty), by simp, hl, hm, ?_, ?_⟩
    · by_cases hz : len0 = 0
      · left; subst hz; rfl
      · right
        obtain ⟨b, off, spot⟩ := a
        have hspot : spot = none := by
          have := World.cell?_spot (hsz 0 (by omega)).1.1
          simpa [Addr.add] using this
        subst hspot
        refine ⟨b, off, rfl, World.block_lt_of_cell? w _ (hsz 0 (by omega)).1.1, fun i hi => ?_⟩
        have hi' : i < len0 := by simpa using hi
        have hn : nthF ((List.range len0).map fun i => if h : i < len0 then Classical.choose (each i h) else (ByteArray.empty, ByteArray.empty)) i = Classical.choose (each i hi') := by
          rw [nthF_get hi]; simp [hi']
        rw [hn]
        have := (hsz i hi').1
        generalize Classical.choose (each i hi') = q at this ⊢
        rw [Go.WideShapes.add_plain, Go.WideShapes.add_plain] at this
        exact this
    · intro p hp
      simp only [List.mem_map, List.mem_range] at hp
      obtain ⟨i, hi, rfl⟩ := hp
      rw [dif_pos hi]
      exact (hsz i hi).2
end Go.Proofs.YtilepbbcinbmhaaDoor

namespace Go.Proofs.YtilepbbcinbmhaaDoor
open Go.RowKit

end Go.Proofs.YtilepbbcinbmhaaDoor

namespace Go.Proofs.YtilepbbcinbmhaaDoor
open Go.RowKit

/-- How the reckoning of a field's size ends. -/
def SzEnd (left : Int) (x y : ByteArray) (w : World) (e : Ending) (w' : World) : Prop := ∃ r : Int, e = .returned (.int .i64 r) ∧ (r = -1 ∨ 0 ≤ r ∧ r ≤ left ∧ x.size ≤ 1048576 ∧ y.size ≤ 1048576) ∧ Below w.heap.size w w'

/-- How the reckoning of a slice's size ends. -/
def SzsEnd (n : Nat) (l : List FldP) (w : World) (e : Ending) (w' : World) : Prop := ∃ r : Int, e = .returned (.int .i64 r) ∧ (r = -1 ∨ 0 ≤ r ∧ n ≤ 1048576 ∧ ∀ p ∈ l, p.1.size ≤ 1048576 ∧ p.2.size ≤ 1048576) ∧ Below w.heap.size w w'

end Go.Proofs.YtilepbbcinbmhaaDoor

namespace Go.Proofs.YtilepbbcinbmhaaDoor
open Go.RowKit

/-- The bytes of a text. -/
def bts (s : ByteArray) : List Nat := s.data.toList.map UInt8.toNat
theorem str_bts (s : ByteArray) : str (bts s) = s := by
  obtain ⟨d⟩ := s
  unfold str bts
  congr 1
  rw [List.map_map]
  have : (UInt8.ofNat ∘ UInt8.toNat) = id := by funext b; simp
  rw [this]
  simp
theorem bts_isB (s : ByteArray) : IsB (bts s) := by
  intro b hb
  simp only [bts, List.mem_map] at hb
  obtain ⟨u, _, rfl⟩ := hb
  exact u.toNat_lt
theorem bts_len (s : ByteArray) : (bts s).length = s.size := by unfold bts; rw [List.length_map, Array.length_toList]; rfl

/-- A byte of a name. -/
def nmB (c : Nat) : Bool := decide ((97 ≤ c ∧ c ≤ 122) ∨ (65 ≤ c ∧ c ≤ 90) ∨ (48 ≤ c ∧ c ≤ 57) ∨ c = 45)
/-- A name. -/
def nmOk (t : List Nat) : Bool := t.all nmB && decide (1 ≤ t.length ∧ t.length ≤ 30)
/-- A byte of a value. -/
def vlB (c : Nat) : Bool := decide (32 ≤ c ∧ c ≠ 127)
/-- A value. -/
def vlOk (t : List Nat) : Bool := t.all vlB && decide (t.length ≤ 120)
/-- A field. -/
def fdOk (p : FldP) : Bool := nmOk (bts p.1) && vlOk (bts p.2)
/-- The fault of some fields. -/
def fdF (l : List FldP) : Int := if 8 < l.length then 2 else if l.all fdOk then 0 else 5
theorem fdF_many {l : List FldP} (h : 8 < l.length) : fdF l = 2 := if_pos h
theorem fdF_ok {l : List FldP} (h : ¬ 8 < l.length) (ha : l.all fdOk = true) : fdF l = 0 := by unfold fdF; rw [if_neg h, if_pos ha]
theorem fdF_bad {l : List FldP} (h : ¬ 8 < l.length) (ha : l.all fdOk = false) : fdF l = 5 := by unfold fdF; rw [if_neg h, ha]; rfl

theorem allN_bad {p : Nat → Bool} {t : List Nat} {k : Nat} (h : k < t.length) (hb : p (nth t k) = false) : t.all p = false := by
  rw [List.all_eq_false]
  exact ⟨nth t k, by rw [nth_get h]; exact List.getElem_mem h, by rw [hb]; simp⟩
theorem allN_step {p : Nat → Bool} {t : List Nat} {k : Nat} (h : k < t.length) (h0 : (t.take k).all p = true) (hb : p (nth t k) = true) : (t.take (k + 1)).all p = true := by
  rw [take_snoc t k h, List.all_append, h0]
  simp [hb]

theorem allF_bad {p : FldP → Bool} {l : List FldP} {k : Nat} (h : k < l.length) (hb : p (nthF l k) = false) : l.all p = false := by
  rw [List.all_eq_false]
  exact ⟨nthF l k, by rw [nthF_get h]; exact List.getElem_mem h, by rw [hb]; simp⟩
theorem allF_step {p : FldP → Bool} {l : List FldP} {k : Nat} (h : k < l.length) (h0 : (l.take k).all p = true) (hb : p (nthF l k) = true) : (l.take (k + 1)).all p = true := by
  rw [take_snocF l k h, List.all_append, h0]
  simp [hb]
/-- Fields whose texts are not too great for the laws. -/
def Fit (l : List FldP) : Prop := ∀ p ∈ l, p.1.size ≤ 1048576 ∧ p.2.size ≤ 1048576

end Go.Proofs.YtilepbbcinbmhaaDoor

namespace Go.Proofs.YtilepbbcinbmhaaDoor
open Go.RowKit

/-- How many bytes from a place on are such. -/
def runL (p : Nat → Bool) (t : List Nat) (i : Nat) : Nat := ((t.drop i).takeWhile p).length
theorem runL_step {p : Nat → Bool} {t : List Nat} {i : Nat} (h : i < t.length) (hc : p (nth t i) = true) : runL p t i = runL p t (i + 1) + 1 := by
  unfold runL
  rw [drop_cons t i h, List.takeWhile_cons, if_pos hc, List.length_cons]
theorem runL_here {p : Nat → Bool} {t : List Nat} {i : Nat} (h : i < t.length) (hc : p (nth t i) = false) : runL p t i = 0 := by
  unfold runL
  rw [drop_cons t i h, List.takeWhile_cons, if_neg (by rw [hc]; simp)]; rfl
theorem runL_end {p : Nat → Bool} {t : List Nat} {i : Nat} (h : t.length ≤ i) : runL p t i = 0 := by
  unfold runL
  rw [List.drop_eq_nil_of_le h]; rfl
/-- No question mark. -/
def noQu (c : Nat) : Bool := decide (c ≠ 63)
/-- A blank or a tab. -/
def gapB (c : Nat) : Bool := decide (c = 32 ∨ c = 9)
/-- The place of a question mark. -/
def mkV (t : List Nat) (i : Nat) : Int := if i + runL noQu t i < t.length then ((i + runL noQu t i : Nat) : Int) else -1
theorem mkV_step {t : List Nat} {i : Nat} (h : i < t.length) (hc : nth t i ≠ 63) : mkV t i = mkV t (i + 1) := by
  unfold mkV
  rw [runL_step h (by simp [noQu, hc]), show i + (runL noQu t (i + 1) + 1) = i + 1 + runL noQu t (i + 1) by omega]
theorem mkV_here {t : List Nat} {i : Nat} (h : i < t.length) (hc : nth t i = 63) : mkV t i = i := by
  unfold mkV
  rw [runL_here h (by simp [noQu, hc]), if_pos (by omega)]; rfl
theorem mkV_end {t : List Nat} {i : Nat} (h : t.length ≤ i) : mkV t i = -1 := by
  unfold mkV
  rw [runL_end h, if_neg (by omega)]

end Go.Proofs.YtilepbbcinbmhaaDoor
