/- FieldsFault, the model's, at every slice of fields: by a plain function. -/
import Derived.Test.YthphokjhonddcaaFldS2
import Derived.Test.YthphokjhonddcaaChs0
namespace Go.Proofs.Ythphokjhonddcaa
open Go.RowKit

/-- The bytes of a text. -/
def bts (s : ByteArray) : List Nat := s.data.toList.map UInt8.toNat
theorem str_bts (s : ByteArray) : str (bts s) = s := by
  obtain ⟨d⟩ := s
  unfold str bts
  congr 1
  rw [List.map_map]
  have : (UInt8.ofNat ∘ UInt8.toNat) = id := by funext b; simp
  rw [this]
  simp
theorem bts_isB (s : ByteArray) : IsB (bts s) := by
  intro b hb
  simp only [bts, List.mem_map] at hb
  obtain ⟨u, _, rfl⟩ := hb
  exact u.toNat_lt
theorem bts_len (s : ByteArray) : (bts s).length = s.size := by unfold bts; rw [List.length_map, Array.length_toList]; rfl

/-- A byte of a name. -/
def nmB (c : Nat) : Bool := decide ((97 ≤ c ∧ c ≤ 122) ∨ (65 ≤ c ∧ c ≤ 90) ∨ (48 ≤ c ∧ c ≤ 57) ∨ c = 45)
/-- A name. -/
def nmOk (t : List Nat) : Bool := t.all nmB && decide (1 ≤ t.length ∧ t.length ≤ 30)
/-- A byte of a value. -/
def vlB (c : Nat) : Bool := decide (32 ≤ c ∧ c ≠ 127)
/-- A value. -/
def vlOk (t : List Nat) : Bool := t.all vlB && decide (t.length ≤ 120)
/-- A field. -/
def fdOk (p : FldP) : Bool := nmOk (bts p.1) && vlOk (bts p.2)
/-- The fault of some fields. -/
def fdF (l : List FldP) : Int := if 8 < l.length then 2 else if l.all fdOk then 0 else 5
theorem fdF_many {l : List FldP} (h : 8 < l.length) : fdF l = 2 := if_pos h
theorem fdF_ok {l : List FldP} (h : ¬ 8 < l.length) (ha : l.all fdOk = true) : fdF l = 0 := by unfold fdF; rw [if_neg h, if_pos ha]
theorem fdF_bad {l : List FldP} (h : ¬ 8 < l.length) (ha : l.all fdOk = false) : fdF l = 5 := by unfold fdF; rw [if_neg h, ha]; rfl

theorem allN_bad {p : Nat → Bool} {t : List Nat} {k : Nat} (h : k < t.length) (hb : p (nth t k) = false) : t.all p = false := by
  rw [List.all_eq_false]
  exact ⟨nth t k, by rw [nth_get h]; exact List.getElem_mem h, by rw [hb]; simp⟩
theorem allN_step {p : Nat → Bool} {t : List Nat} {k : Nat} (h : k < t.length) (h0 : (t.take k).all p = true) (hb : p (nth t k) = true) : (t.take (k + 1)).all p = true := by
  rw [take_snoc t k h, List.all_append, h0]
  simp [hb]

theorem allF_bad {p : FldP → Bool} {l : List FldP} {k : Nat} (h : k < l.length) (hb : p (nthF l k) = false) : l.all p = false := by
  rw [List.all_eq_false]
  exact ⟨nthF l k, by rw [nthF_get h]; exact List.getElem_mem h, by rw [hb]; simp⟩
theorem allF_step {p : FldP → Bool} {l : List FldP} {k : Nat} (h : k < l.length) (h0 : (l.take k).all p = true) (hb : p (nthF l k) = true) : (l.take (k + 1)).all p = true := by
  rw [take_snocF l k h, List.all_append, h0]
  simp [hb]
/-- Fields whose texts are not too great for the laws. -/
def Fit (l : List FldP) : Prop := ∀ p ∈ l, p.1.size ≤ 1048576 ∧ p.2.size ≤ 1048576

end Go.Proofs.Ythphokjhonddcaa
