/- Words on memory, with no program in them: where a slice of fields (two texts each) is read, what a row of the call's own holds · A slice of fields of the call's own, and what an append to it leaves: laws for this program's types · A slice of fields that came in: what the row tells of it gives its cells; no program in it · The laws' helpers over slices of fields: they copy one, reckon its size, and hold two against each other · More of the laws' helpers over slices of fields: a slice's size, and whether two are the same · FieldsFault, the model's, at every slice of fields: by a plain function. -/
import Derived.Test.YtknbndebfickpaaGreatDoorDecLToDrw3a
import Derived.OpenShut
import Derived.Test.YtknbndebfickpaaGreatDoorFltToPln
import Derived.ChangeArms
import Derived.DataReads
import Derived.Deep.RegionHeld3
import Derived.Test.YtknbndebfickpaaGreatDoorChs0ToChs2
namespace Go.Proofs.YtknbndebfickpaaGreatDoor
open Go.RowKit

/-- A field: its name and its value. -/
abbrev FldP := ByteArray × ByteArray
def nthF (l : List FldP) (i : Nat) : FldP := l.getD i (ByteArray.empty, ByteArray.empty)
/-- Fields as cells. -/
def fc (l : List FldP) : List Value := l.flatMap fun p => [Value.string p.1, Value.string p.2]
theorem nthF_get {l : List FldP} {i : Nat} (h : i < l.length) : nthF l i = l[i] := by
  unfold nthF; rw [List.getD_eq_getElem?_getD, List.getElem?_eq_getElem h]; rfl
theorem fc_nil : fc [] = [] := rfl
theorem fc_cons (p : FldP) (l : List FldP) : fc (p :: l) = .string p.1 :: .string p.2 :: fc l := rfl
theorem fc_len : ∀ l : List FldP, (fc l).length = l.length * 2
  | [] => rfl
  | p :: l => by rw [fc_cons, List.length_cons, List.length_cons, fc_len l, List.length_cons]; omega
theorem fc_app (a b : List FldP) : fc (a ++ b) = fc a ++ fc b := by simp [fc]
theorem fc_one (l : List FldP) : ∀ u ∈ fc l, u.oneCell' = true := by
  intro u hu
  simp only [fc, List.mem_flatMap, List.mem_cons, List.not_mem_nil, or_false] at hu
  obtain ⟨p, _, rfl | rfl⟩ := hu <;> rfl
theorem fc_get : ∀ (l : List FldP) (i : Nat), i < l.length → (fc l)[i * 2]? = some (.string (nthF l i).1) ∧ (fc l)[i * 2 + 1]? = some (.string (nthF l i).2)
  | [], _, h => by simp at h
  | p :: l, 0, _ => ⟨rfl, rfl⟩
  | p :: l, i + 1, h => by
    have := fc_get l i (by simpa using h)
    rw [fc_cons, show (i + 1) * 2 = i * 2 + 2 by omega]
    exact this
theorem take_snocF (l : List FldP) (k : Nat) (h : k < l.length) : l.take (k + 1) = l.take k ++ [nthF l k] := by
  rw [List.take_succ_eq_append_getElem h, nthF_get h]
theorem drop_consF (l : List FldP) (k : Nat) (h : k < l.length) : l.drop k = nthF l k :: l.drop (k + 1) := by
  rw [nthF_get h]; exact List.drop_eq_getElem_cons h

/-- WHERE A SLICE OF FIELDS IS READ. -/
def RdF (w : World) (a : Option Addr) (l : List FldP) : Prop :=
  l = [] ∨ ∃ b off, a = some ⟨b, off, none⟩ ∧ b < w.heap.size ∧ ∀ i, i < l.length → w.cell? ⟨b, off + i * 2, none⟩ = some (.string (nthF l i).1) ∧ w.cell? ⟨b, off + i * 2 + 1, none⟩ = some (.string (nthF l i).2)
theorem RdF.below {w w' : World} {a : Option Addr} {l : List FldP} (h : RdF w a l) (hb : Below w.heap.size w w') : RdF w' a l := by
  rcases h with h | ⟨b, off, e, hlt, hc⟩
  · exact .inl h
  · exact .inr ⟨b, off, e, Nat.lt_of_lt_of_le hlt hb.size, fun i hi => ⟨(hb.cell (p := ⟨b, off + i * 2, none⟩) hlt).trans (hc i hi).1, (hb.cell (p := ⟨b, off + i * 2 + 1, none⟩) hlt).trans (hc i hi).2⟩⟩
theorem RdF.at_ {w : World} {a : Option Addr} {l : List FldP} (h : RdF w a l) (hp : 0 < l.length) :
    ∃ b off, a = some ⟨b, off, none⟩ ∧ b < w.heap.size ∧ ∀ i, i < l.length → w.cell? ⟨b, off + i * 2, none⟩ = some (.string (nthF l i).1) ∧ w.cell? ⟨b, off + i * 2 + 1, none⟩ = some (.string (nthF l i).2) := by
  rcases h with h | h
  · rw [h] at hp; simp at hp
  · exact h
theorem RdF.own {w : World} {base e n cap : Nat} {a : Option Addr} {l : List FldP} (h : w.ownsRow base e 2 (.slice a n cap) n (fc l)) : RdF w a l := by
  have hl : l.length = n := by have := h.1; rw [fc_len] at this; omega
  rcases h.2 with ⟨_, h0⟩ | ⟨g, cap', cur, h', _, hg, _, _, _, htake⟩
  · left; exact List.length_eq_zero_iff.1 (by omega)
  · simp only [Value.slice.injEq] at h'
    obtain ⟨rfl, _, rfl⟩ := h'
    right
    refine ⟨g, 0, rfl, ?_, fun i hi => ?_⟩
    · rcases Nat.lt_or_ge g w.heap.size with hlt | hge
      · exact hlt
      · simp [Array.getElem?_eq_none hge] at hg
    · have hf := fc_get l i hi
      refine ⟨?_, ?_⟩
      · rw [cell_of_row w g (0 + i * 2) cur e (0, 0) hg, ← hf.1, ← htake, List.getElem?_take, if_pos (by omega)]
        simp
      · rw [cell_of_row w g (0 + i * 2 + 1) cur e (0, 0) hg, ← hf.2, ← htake, List.getElem?_take, if_pos (by omega)]
        simp

/-- What the making of a row of n fields lays. -/
theorem made_fields (n : Nat) : (madeCells #[Value.string ByteArray.empty, Value.string ByteArray.empty] (n * 2)).toList = fc (List.replicate n (ByteArray.empty, ByteArray.empty)) := by
  apply List.ext_getElem?
  intro j
  by_cases hj : j < n * 2
  · have h1 : (madeCells #[Value.string ByteArray.empty, Value.string ByteArray.empty] (n * 2)).toList[j]? = some (.string ByteArray.empty) := by
      have hm : j % 2 = 0 ∨ j % 2 = 1 := by omega
      rcases hm with hm | hm <;> simp [madeCells, hj, hm]
    have hi : j / 2 < (List.replicate n ((ByteArray.empty, ByteArray.empty) : FldP)).length := by rw [List.length_replicate]; omega
    have hf := fc_get (List.replicate n (ByteArray.empty, ByteArray.empty)) (j / 2) hi
    rw [nthF_get hi, List.getElem_replicate] at hf
    rw [h1]
    have hm : j = j / 2 * 2 ∨ j = j / 2 * 2 + 1 := by omega
    rcases hm with hm | hm
    · rw [hm]; exact hf.1.symm
    · rw [hm]; exact hf.2.symm
  · rw [List.getElem?_eq_none (by simp [madeCells]; omega), List.getElem?_eq_none (by rw [fc_len, List.length_replicate]; omega)]

/-- A copy in the making. -/
def halfF (l : List FldP) (k : Nat) : List FldP := l.take k ++ List.replicate (l.length - k) (ByteArray.empty, ByteArray.empty)
theorem halfF_zero (l : List FldP) : halfF l 0 = List.replicate l.length (ByteArray.empty, ByteArray.empty) := by simp [halfF]
theorem halfF_all (l : List FldP) : halfF l l.length = l := by simp [halfF]
theorem halfF_len (l : List FldP) (k : Nat) (h : k ≤ l.length) : (halfF l k).length = l.length := by simp [halfF]; omega
theorem fc_set : ∀ (l : List FldP) (k : Nat) (p : FldP), k < l.length → ((fc l).set (k * 2) (.string p.1)).set (k * 2 + 1) (.string p.2) = fc (l.set k p)
  | [], _, _, h => by simp at h
  | q :: l, 0, p, _ => rfl
  | q :: l, k + 1, p, h => by
    have := fc_set l k p (by simpa using h)
    rw [fc_cons, show (k + 1) * 2 = k * 2 + 1 + 1 by omega, List.set_cons_succ, List.set_cons_succ, List.set_cons_succ, List.set_cons_succ, this, List.set_cons_succ, fc_cons]
theorem halfF_set (l : List FldP) (k : Nat) (h : k < l.length) : (halfF l k).set k (nthF l k) = halfF l (k + 1) := by
  have e : l.length - k = (l.length - (k + 1)) + 1 := by omega
  unfold halfF
  have hk : (l.take k).length = k := by simp; omega
  rw [take_snocF l k h, List.set_append, hk, if_neg (Nat.lt_irrefl k), e, List.replicate_succ, Nat.sub_self]
  simp
end Go.Proofs.YtknbndebfickpaaGreatDoor

namespace Go.Proofs.YtknbndebfickpaaGreatDoor
open Go.RowKit

/-- A field as a value. -/
def fv (p : FldP) : Value := .agg #[.string p.1, .string p.2]
def zeroF : Value := .agg #[.string ⟨#[]⟩, .string ⟨#[]⟩]
end Go.Proofs.YtknbndebfickpaaGreatDoor

namespace Go.Proofs.YtknbndebfickpaaGreatDoor
open Go.RowKit

/-- A slice of fields, as it came in. -/
def IsFlds (w : World) (a : Option Addr) (len cap : Nat) (l : List FldP) : Prop := l.length = len ∧ len ≤ cap ∧ cap ≤ maxLen ∧ RdF w a l ∧ ∀ p ∈ l, p.1.size ≤ maxLen ∧ p.2.size ≤ maxLen

theorem add_zero (a : Addr) : a.add 0 = a := by cases a; simp [Addr.add]
theorem add_add (a : Addr) (i j : Nat) : (a.add i).add j = a.add (i + j) := by
  unfold Addr.add
  by_cases hi : i = 0 <;> by_cases hj : j = 0 <;> simp [hi, hj, Nat.add_assoc]
theorem open_flds {H : Type} {enc : TypeId × Value → H} {P : Program} {w : World} {base : Nat} {sp : Nat → Bool} {held : Bool} {fuel : Nat} {t e s : TypeId} {f0 f1 : Field} {a0 : Option Addr} {len0 cap0 : Nat} {x : DataW H × List MemPlace}
    (ht : P.underlying t = some (.slice e)) (he : P.underlying e = some (.struct #[f0, f1])) (hs : P.underlying s = some .string) (h0 : f0.type = s) (h1 : f1.type = s) (o0 : f0.offset = 0) (o1 : f1.offset = 1) (cs1 : P.cellsOf s = 1) (ce : P.cellsOf e = 2)
    (h : DataW.trod enc P w base sp held fuel t [.slice a0 len0 cap0] = some x) : ∃ l, IsFlds w a0 len0 cap0 l := by
  rcases DataW.trod_slice ht h with ⟨hcs, _⟩ | ⟨a, len, cap, elems, rest, n, _, hcs, _, _, hl, hm, hlen, hel, _, _⟩
  · simp at hcs
    obtain ⟨rfl, rfl, rfl⟩ := hcs
    exact ⟨[], rfl, by omega, by decide, .inl rfl, fun p hp => by simp at hp⟩
  · simp at hcs
    obtain ⟨rfl, rfl, rfl⟩ := hcs
    have each : ∀ i, i < len0 → ∃ p : FldP, (w.cell? (a.add (i * 2)) = some (.string p.1) ∧ w.cell? (a.add (i * 2 + 1)) = some (.string p.2)) ∧ p.1.size ≤ maxLen ∧ p.2.size ≤ maxLen := by
      intro i hi
      have hb := hel i hi
      rw [List.getElem?_eq_getElem (by omega), Option.bind_eq_some_iff] at hb
      obtain ⟨cs', hc, hy⟩ := hb
      rw [ce] at hc
      obtain ⟨xs, n', _, _, hcl, _, hfs⟩ := DataW.trod_struct he hy
      obtain ⟨-, hcl2, hcell⟩ := World.cells?_some hc
      have hxl : xs.length = 2 := by assumption
      have g0 := hfs 0 f0 rfl
      have g1 := hfs 1 f1 rfl
      rw [h0, o0, cs1, List.getElem?_eq_getElem (by omega)] at g0
      rw [h1, o1, cs1, List.getElem?_eq_getElem (by omega)] at g1
      obtain ⟨s0, e0, _, z0⟩ := DataW.trod_string hs g0
      obtain ⟨s1, e1, _, z1⟩ := DataW.trod_string hs g1
      have c0 : cs'[0]? = some (.string s0) := by
        have := congrArg (·[0]?) e0
        simpa using this
      have c1 : cs'[1]? = some (.string s1) := by
        have := congrArg (·[0]?) e1
        simpa [List.getElem?_drop] using this
      refine ⟨(s0, s1), ⟨?_, ?_⟩, z0, z1⟩
      · have := hcell 0 (by omega)
        rw [c0, add_zero] at this
        exact this
      · have := hcell 1 (by omega)
        rw [c1, add_add] at this
        exact this
    have hsz : ∀ i (h : i < len0), _ := fun i h => Classical.choose_spec (each i h)
    refine ⟨(List.range len0).map fun i => if h : i < len0 then Classical.choose (each i h) else (ByteArray.empty, ByteArray.empty), by simp, hl, hm, ?_, ?_⟩
    · by_cases hz : len0 = 0
      · left; subst hz; rfl
      · right
        obtain ⟨b, off, spot⟩ := a
        have hspot : spot = none := by
          have := World.cell?_spot (hsz 0 (by omega)).1.1
          simpa [Addr.add] using this
        subst hspot
        refine ⟨b, off, rfl, World.block_lt_of_cell? w _ (hsz 0 (by omega)).1.1, fun i hi => ?_⟩
        have hi' : i < len0 := by simpa using hi
        have hn : nthF ((List.range len0).map fun i => if h : i < len0 then Classical.choose (each i h) else (ByteArray.empty, ByteArray.empty)) i = Classical.choose (each i hi') := by
          rw [nthF_get hi]; simp [hi']
        rw [hn]
        have := (hsz i hi').1
        generalize Classical.choose (each i hi') = q at this ⊢
        rw [Go.WideShapes.add_plain, Go.WideShapes.add_plain] at this
        exact this
    · intro p hp
      simp only [List.mem_map, List.mem_range] at hp
      obtain ⟨i, hi, rfl⟩ := hp
      rw [dif_pos hi]
      exact (hsz i hi).2
end Go.Proofs.YtknbndebfickpaaGreatDoor

namespace Go.Proofs.YtknbndebfickpaaGreatDoor
open Go.RowKit

end Go.Proofs.YtknbndebfickpaaGreatDoor

namespace Go.Proofs.YtknbndebfickpaaGreatDoor
open Go.RowKit

/-- How the reckoning of a field's size ends. -/
def SzEnd (left : Int) (x y : ByteArray) (w : World) (e : Ending) (w' : World) : Prop := ∃ r : Int, e = .returned (.int .i64 r) ∧ (r = -1 ∨ 0 ≤ r ∧ r ≤ left ∧ x.size ≤ 1048576 ∧ y.size ≤ 1048576) ∧ Below w.heap.size w w'

/-- How the reckoning of a slice's size ends. -/
def SzsEnd (n : Nat) (l : List FldP) (w : World) (e : Ending) (w' : World) : Prop := ∃ r : Int, e = .returned (.int .i64 r) ∧ (r = -1 ∨ 0 ≤ r ∧ n ≤ 1048576 ∧ ∀ p ∈ l, p.1.size ≤ 1048576 ∧ p.2.size ≤ 1048576) ∧ Below w.heap.size w w'

end Go.Proofs.YtknbndebfickpaaGreatDoor

namespace Go.Proofs.YtknbndebfickpaaGreatDoor
open Go.RowKit

/-- The bytes of a text. -/
def bts (s : ByteArray) : List Nat := s.data.toList.map UInt8.toNat
theorem str_bts (s : ByteArray) : str (bts s) = s := by
  obtain ⟨d⟩ := s
  unfold str bts
  congr 1
  rw [List.map_map]
  have : (UInt8.ofNat ∘ UInt8.toNat) = id := by funext b; simp
  rw [this]
  simp
theorem bts_isB (s : ByteArray) : IsB (bts s) := by
  intro b hb
  simp only [bts, List.mem_map] at hb
  obtain ⟨u, _, rfl⟩ := hb
  exact u.toNat_lt
theorem bts_len (s : ByteArray) : (bts s).length = s.size := by unfold bts; rw [List.length_map, Array.length_toList]; rfl

/-- A byte of a name. -/
def nmB (c : Nat) : Bool := decide ((97 ≤ c ∧ c ≤ 122) ∨ (65 ≤ c ∧ c ≤ 90) ∨ (48 ≤ c ∧ c ≤ 57) ∨ c = 45)
/-- A name. -/
def nmOk (t : List Nat) : Bool := t.all nmB && decide (1 ≤ t.length ∧ t.length ≤ 30)
/-- A byte of a value. -/
def vlB (c : Nat) : Bool := decide (32 ≤ c ∧ c ≠ 127)
/-- A value. -/
def vlOk (t : List Nat) : Bool := t.all vlB && decide (t.length ≤ 120)
/-- A field. -/
def fdOk (p : FldP) : Bool := nmOk (bts p.1) && vlOk (bts p.2)
/-- The fault of some fields. -/
def fdF (l : List FldP) : Int := if 8 < l.length then 2 else if l.all fdOk then 0 else 5
theorem fdF_many {l : List FldP} (h : 8 < l.length) : fdF l = 2 := if_pos h
theorem fdF_ok {l : List FldP} (h : ¬ 8 < l.length) (ha : l.all fdOk = true) : fdF l = 0 := by unfold fdF; rw [if_neg h, if_pos ha]
theorem fdF_bad {l : List FldP} (h : ¬ 8 < l.length) (ha : l.all fdOk = false) : fdF l = 5 := by unfold fdF; rw [if_neg h, ha]; rfl

theorem allN_bad {p : Nat → Bool} {t : List Nat} {k : Nat} (h : k < t.length) (hb : p (nth t k) = false) : t.all p = false := by
  rw [List.all_eq_false]
  exact ⟨nth t k, by rw [nth_get h]; exact List.getElem_mem h, by rw [hb]; simp⟩
theorem allN_step {p : Nat → Bool} {t : List Nat} {k : Nat} (h : k < t.length) (h0 : (t.take k).all p = true) (hb : p (nth t k) = true) : (t.take (k + 1)).all p = true := by
  rw [take_snoc t k h, List.all_append, h0]
  simp [hb]

theorem allF_bad {p : FldP → Bool} {l : List FldP} {k : Nat} (h : k < l.length) (hb : p (nthF l k) = false) : l.all p = false := by
  rw [List.all_eq_false]
  exact ⟨nthF l k, by rw [nthF_get h]; exact List.getElem_mem h, by rw [hb]; simp⟩
theorem allF_step {p : FldP → Bool} {l : List FldP} {k : Nat} (h : k < l.length) (h0 : (l.take k).all p = true) (hb : p (nthF l k) = true) : (l.take (k + 1)).all p = true := by
  rw [take_snocF l k h, List.all_append, h0]
  simp [hb]
/-- Fields whose texts are not too great for the laws. -/
def Fit (l : List FldP) : Prop := ∀ p ∈ l, p.1.size ≤ 1048576 ∧ p.2.size ≤ 1048576

end Go.Proofs.YtknbndebfickpaaGreatDoor
