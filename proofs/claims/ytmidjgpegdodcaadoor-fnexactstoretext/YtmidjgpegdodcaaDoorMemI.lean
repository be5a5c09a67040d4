/- Words on memory, with no program in them: where a slice of whole numbers is read, what a row of the call's own holds; no conditions beyond those that each fact names. -/
import Derived.Test.YtmidjgpegdodcaaDoorMem
namespace Go.Proofs.YtmidjgpegdodcaaDoor
open Go.RowKit

/-- The i-th number of a list (0 behind its end). -/
def nthI (l : List Int) (i : Nat) : Int := l.getD i 0
/-- Numbers as cells. -/
def ic (l : List Int) : List Value := l.map fun (b : Int) => Value.int .i64 b

theorem nthI_get {l : List Int} {i : Nat} (h : i < l.length) : nthI l i = l[i] := by
  unfold nthI; rw [List.getD_eq_getElem?_getD, List.getElem?_eq_getElem h]; rfl

theorem ic_len (l : List Int) : (ic l).length = l.length := by simp [ic]
theorem ic_one (l : List Int) : ∀ u ∈ ic l, u.oneCell' = true := by
  intro u hu
  simp only [ic, List.mem_map] at hu
  obtain ⟨b, _, rfl⟩ := hu
  rfl
theorem ic_app (a b : List Int) : ic (a ++ b) = ic a ++ ic b := by simp [ic]
theorem ic_get {l : List Int} {i : Nat} (h : i < l.length) : (ic l)[i]? = some (.int .i64 (nthI l i)) := by
  rw [nthI_get h]; simp [ic, h]

theorem nthI_drop (l : List Int) (k i : Nat) : nthI (l.drop k) i = nthI l (k + i) := by
  simp [nthI, List.getD_eq_getElem?_getD, List.getElem?_drop]
theorem take_snocI (l : List Int) (k : Nat) (h : k < l.length) : l.take (k + 1) = l.take k ++ [nthI l k] := by
  rw [List.take_succ_eq_append_getElem h, nthI_get h]
theorem drop_consI (l : List Int) (k : Nat) (h : k < l.length) : l.drop k = nthI l k :: l.drop (k + 1) := by
  rw [nthI_get h]; exact List.drop_eq_getElem_cons h


/-- WHERE A SLICE OF BYTES IS READ: at its address stand the bytes l. -/
def RdI (w : World) (a : Option Addr) (l : List Int) : Prop :=
  l = [] ∨ ∃ b off, a = some ⟨b, off, none⟩ ∧ b < w.heap.size ∧ ∀ i, i < l.length → w.cell? ⟨b, off + i, none⟩ = some (.int .i64 (nthI l i))

theorem RdI.below {w w' : World} {a : Option Addr} {l : List Int} (h : RdI w a l) (hb : Below w.heap.size w w') : RdI w' a l := by
  rcases h with h | ⟨b, off, e, hlt, hc⟩
  · exact .inl h
  · exact .inr ⟨b, off, e, Nat.lt_of_lt_of_le hlt hb.size, fun i hi => (hb.cell (p := ⟨b, off + i, none⟩) hlt).trans (hc i hi)⟩
/-- Where there is an element there is an address. -/
theorem RdI.at_ {w : World} {a : Option Addr} {l : List Int} (h : RdI w a l) (hp : 0 < l.length) :
    ∃ b off, a = some ⟨b, off, none⟩ ∧ b < w.heap.size ∧ ∀ i, i < l.length → w.cell? ⟨b, off + i, none⟩ = some (.int .i64 (nthI l i)) := by
  rcases h with h | h
  · rw [h] at hp; simp at hp
  · exact h
theorem RdI.drop {w : World} {b off : Nat} {l : List Int} (h : RdI w (some ⟨b, off, none⟩) l) (k : Nat) : RdI w (some ⟨b, off + k, none⟩) (l.drop k) := by
  rcases h with h | ⟨b', off', e, hlt, hc⟩
  · left; simp [h]
  · obtain ⟨rfl, rfl⟩ : b = b' ∧ off = off' := by simpa using e
    right
    refine ⟨b, off + k, rfl, hlt, fun i hi => ?_⟩
    rw [List.length_drop] at hi
    rw [nthI_drop, Nat.add_assoc]
    exact hc (k + i) (by omega)


/-- A row of the call's own, read. -/
theorem RdI.own {w : World} {base e n cap : Nat} {a : Option Addr} {l : List Int} (h : w.ownsRow base e 1 (.slice a n cap) n (ic l)) : RdI w a l := by
  have hl : l.length = n := by simpa [ic_len] using h.1
  rcases h.2 with ⟨_, h0⟩ | ⟨g, cap', cur, h', _, hg, _, _, _, htake⟩
  · left; exact List.length_eq_zero_iff.1 (by omega)
  · simp only [Value.slice.injEq] at h'
    obtain ⟨rfl, _, rfl⟩ := h'
    right
    refine ⟨g, 0, rfl, ?_, fun i hi => ?_⟩
    · rcases Nat.lt_or_ge g w.heap.size with hlt | hge
      · exact hlt
      · simp [Array.getElem?_eq_none hge] at hg
    · rw [cell_of_row w g (0 + i) cur e (0, 0) hg, ← ic_get hi, ← htake, List.getElem?_take, if_pos (by omega)]
      simp


/-- What the making of a row of n bytes lays. -/
theorem made_bytesI (n : Nat) : (madeCells (Value.int .i64 0).cells (n * 1)).toList = ic (List.replicate n 0) := by
  rw [Nat.mul_one]
  show (madeCells #[Value.int .i64 0] n).toList = _
  rw [toList_madeCells_one]
  simp [ic]

/-- A copy in the making: k bytes are there, the others are 0 yet. -/
def halfI (l : List Int) (k : Nat) : List Int := l.take k ++ List.replicate (l.length - k) 0
theorem halfI_zero (l : List Int) : halfI l 0 = List.replicate l.length 0 := by simp [halfI]
theorem halfI_all (l : List Int) : halfI l l.length = l := by simp [halfI]
theorem halfI_len (l : List Int) (k : Nat) (h : k ≤ l.length) : (halfI l k).length = l.length := by simp [halfI]; omega
theorem halfI_set (l : List Int) (k : Nat) (h : k < l.length) : (ic (halfI l k)).set k (.int .i64 (nthI l k)) = ic (halfI l (k + 1)) := by
  have e : l.length - k = (l.length - (k + 1)) + 1 := by omega
  unfold halfI
  have hk : (ic (l.take k)).length = k := by simp [ic]; omega
  rw [take_snocI l k h, ic_app, List.set_append, hk, if_neg (Nat.lt_irrefl k), e, List.replicate_succ, Nat.sub_self]
  simp [ic]


/-- A slice of numbers that came in. -/
theorem IsRow.rdI {w : World} {a : Option Addr} {len cap : Nat} {zs : List Int} (h : IsRow .i64 w a len cap zs) : ∃ l : List Int, l.length = len ∧ RdI w a l ∧ len ≤ maxLen := by
  rcases h with ⟨_, rfl, _, rfl⟩ | ⟨x, rfl, hl, hm, hz, hcell, hwz⟩
  · exact ⟨[], rfl, .inl rfl, by decide⟩
  · refine ⟨zs.take len, by simp; omega, ?_, by omega⟩
    by_cases h0 : zs.length = 0
    · left
      have : zs = [] := List.length_eq_zero_iff.1 h0
      subst this; simp
    · obtain ⟨b, off, rfl, hc⟩ := ints_at hcell (by omega)
      right
      refine ⟨b, off, rfl, World.block_lt_of_cell? w _ (hc 0 (by omega)), fun i hi => ?_⟩
      have hi' : i < len := by simp at hi; omega
      have hiz : i < zs.length := by omega
      rw [hc i hiz, nthI_get hi]
      simp [hiz]
end Go.Proofs.YtmidjgpegdodcaaDoor
