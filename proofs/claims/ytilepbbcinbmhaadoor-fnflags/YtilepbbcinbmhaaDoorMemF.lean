/- Words on memory, with no program in them: where a slice of fields (two texts each) is read, what a row of the call's own holds. -/
import Derived.Test.YtilepbbcinbmhaaDoorAppToMrk0
import Derived.OpenShut
namespace Go.Proofs.YtilepbbcinbmhaaDoor
open Go.RowKit

/-- A field: its name and its value. -/
abbrev FldP := ByteArray × ByteArray
def nthF (l : List FldP) (i : Nat) : FldP := l.getD i (ByteArray.empty, ByteArray.empty)
/-- Fields as cells. -/
def fc (l : List FldP) : List Value := l.flatMap fun p => [Value.string p.1, Value.string p.2]
theorem nthF_get {l : List FldP} {i : Nat} (h : i < l.length) : nthF l i = l[i] := by
  unfold nthF; rw [List.getD_eq_getElem?_getD, List.getElem?_eq_getElem h]; rfl
theorem fc_nil : fc [] = [] := rfl
theorem fc_cons (p : FldP) (l : List FldP) : fc (p :: l) = .string p.1 :: .string p.2 :: fc l := rfl
theorem fc_len : ∀ l : List FldP, (fc l).length = l.length * 2
  | [] => rfl
  | p :: l => by rw [fc_cons, List.length_cons, List.length_cons, fc_len l, List.length_cons]; omega
theorem fc_app (a b : List FldP) : fc (a ++ b) = fc a ++ fc b := by simp [fc]
theorem fc_one (l : List FldP) : ∀ u ∈ fc l, u.oneCell' = true := by
  intro u hu
  simp only [fc, List.mem_flatMap, List.mem_cons, List.not_mem_nil, or_false] at hu
  obtain ⟨p, _, rfl | rfl⟩ := hu <;> rfl
theorem fc_get : ∀ (l : List FldP) (i : Nat), i < l.length → (fc l)[i * 2]? = some (.string (nthF l i).1) ∧ (fc l)[i * 2 + 1]? = some (.string (nthF l i).2)
  | [], _, h => by simp at h
  | p :: l, 0, _ => ⟨rfl, rfl⟩
  | p :: l, i + 1, h => by
    have := fc_get l i (by simpa using h)
    rw [fc_cons, show (i + 1) * 2 = i * 2 + 2 by omega]
    exact this
theorem take_snocF (l : List FldP) (k : Nat) (h : k < l.length) : l.take (k + 1) = l.take k ++ [nthF l k] := by
  rw [List.take_succ_eq_append_getElem h, nthF_get h]
theorem drop_consF (l : List FldP) (k : Nat) (h : k < l.length) : l.drop k = nthF l k :: l.drop (k + 1) := by
  rw [nthF_get h]; exact List.drop_eq_getElem_cons h

/-- WHERE A SLICE OF FIELDS IS READ. -/
def RdF (w : World) (a : Option Addr) (l : List FldP) : Prop :=
  l = [] ∨ ∃ b off, a = some ⟨b, off, none⟩ ∧ b < w.heap.size ∧ ∀ i, i < l.length → w.cell? ⟨b, off + i * 2, none⟩ = some (.string (nthF l i).1) ∧ w.cell? ⟨b, off + i * 2 + 1, none⟩ = some (.string (nthF l i).2)
theorem RdF.below {w w' : World} {a : Option Addr} {l : List FldP} (h : RdF w a l) (hb : Below w.heap.size w w') : RdF w' a l := by
  rcases h with h | ⟨b, off, e, hlt, hc⟩
  · exact .inl h
  · exact .inr ⟨b, off, e, Nat.lt_of_lt_of_le hlt hb.size, fun i hi => ⟨(hb.cell (p := ⟨b, off + i * 2, none⟩) hlt).trans (hc i hi).1, (hb.cell (p := ⟨b, off + i * 2 + 1, none⟩) hlt).trans (hc i hi).2⟩⟩
theorem RdF.at_ {w : World} {a : Option Addr} {l : List FldP} (h : RdF w a l) (hp : 0 < l.length) :
    ∃ b off, a = some ⟨b, off, none⟩ ∧ b < w.heap.size ∧ ∀ i, i < l.length → w.cell? ⟨b, off + i * 2, none⟩ = some (.string (nthF l i).1) ∧ w.cell? ⟨b, off + i * 2 + 1, none⟩ = some (.string (nthF l i).2) := by
  rcases h with h | h
  · rw [h] at hp; simp at hp
  · exact h
theorem RdF.own {w : World} {base e n cap : Nat} {a : Option Addr} {l : List FldP} (h : w.ownsRow base e 2 (.slice a n cap) n (fc l)) : RdF w a l := by
  have hl : l.length = n := by have := h.1; rw [fc_len] at this; omega
  rcases h.2 with ⟨_, h0⟩ | ⟨g, cap', cur, h', _, hg, _, _, _, htake⟩
  · left; exact List.length_eq_zero_iff.1 (by omega)
  · simp only [Value.slice.injEq] at h'
    obtain ⟨rfl, _, rfl⟩ := h'
    right
    refine ⟨g, 0, rfl, ?_, fun i hi => ?_⟩
    · rcases Nat.lt_or_ge g w.heap.size with hlt | hge
      · exact hlt
      · simp [Array.getElem?_eq_none hge] at hg
    · have hf := fc_get l i hi
      refine ⟨?_, ?_⟩
      · rw [cell_of_row w g (0 + i * 2) cur e (0, 0) hg, ← hf.1, ← htake, List.getElem?_take, if_pos (by omega)]
        simp
      · rw [cell_of_row w g (0 + i * 2 + 1) cur e (0, 0) hg, ← hf.2, ← htake, List.getElem?_take, if_pos (by omega)]
        simp

/-- What the making of a row of n fields lays. -/
theorem made_fields (n : Nat) : (madeCells #[Value.string ByteArray.empty, Value.string ByteArray.empty] (n * 2)).toList = fc (List.replicate n (ByteArray.empty, ByteArray.empty)) := by
  apply List.ext_getElem?
  intro j
  by_cases hj : j < n * 2
  · have h1 : (madeCells #[Value.string ByteArray.empty, Value.string ByteArray.empty] (n * 2)).toList[j]? = some (.string ByteArray.empty) := by
      have hm : j % 2 = 0 ∨ j % 2 = 1 := by omega
      rcases hm with hm | hm <;> simp [madeCells, hj, hm]
    have hi : j / 2 < (List.replicate n ((ByteArray.empty, ByteArray.empty) : FldP)).length := by rw [List.length_replicate]; omega
    have hf := fc_get (List.replicate n (ByteArray.empty, ByteArray.empty)) (j / 2) hi
    rw [nthF_get hi, List.getElem_replicate] at hf
    rw [h1]
    have hm : j = j / 2 * 2 ∨ j = j / 2 * 2 + 1 := by omega
    rcases hm with hm | hm
    · rw [hm]; exact hf.1.symm
    · rw [hm]; exact hf.2.symm
  · rw [List.getElem?_eq_none (by simp [madeCells]; omega), List.getElem?_eq_none (by rw [fc_len, List.length_replicate]; omega)]

/-- A copy in the making. -/
def halfF (l : List FldP) (k : Nat) : List FldP := l.take k ++ List.replicate (l.length - k) (ByteArray.empty, ByteArray.empty)
theorem halfF_zero (l : List FldP) : halfF l 0 = List.replicate l.length (ByteArray.empty, ByteArray.empty) := by simp [halfF]
theorem halfF_all (l : List FldP) : halfF l l.length = l := by simp [halfF]
theorem halfF_len (l : List FldP) (k : Nat) (h : k ≤ l.length) : (halfF l k).length = l.length := by simp [halfF]; omega
theorem fc_set : ∀ (l : List FldP) (k : Nat) (p : FldP), k < l.length → ((fc l).set (k * 2) (.string p.1)).set (k * 2 + 1) (.string p.2) = fc (l.set k p)
  | [], _, _, h => by simp at h
  | q :: l, 0, p, _ => rfl
  | q :: l, k + 1, p, h => by
    have := fc_set l k p (by simpa using h)
    rw [fc_cons, show (k + 1) * 2 = k * 2 + 1 + 1 by omega, List.set_cons_succ, List.set_cons_succ, List.set_cons_succ, List.set_cons_succ, this, List.set_cons_succ, fc_cons]
theorem halfF_set (l : List FldP) (k : Nat) (h : k < l.length) : (halfF l k).set k (nthF l k) = halfF l (k + 1) := by
  have e : l.length - k = (l.length - (k + 1)) + 1 := by omega
  unfold halfF
  have hk : (l.take k).length = k := by simp; omega
  rw [take_snocF l k h, List.set_append, hk, if_neg (Nat.lt_irrefl k), e, List.replicate_succ, Nat.sub_self]
  simp
end Go.Proofs.YtilepbbcinbmhaaDoor
