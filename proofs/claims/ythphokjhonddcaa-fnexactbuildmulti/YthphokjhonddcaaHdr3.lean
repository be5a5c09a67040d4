/- PackHeader, the model's, at every slice of fields: by a plain function. -/
import Derived.Test.YthphokjhonddcaaHdr2
import Derived.Test.YthphokjhonddcaaBye
import Derived.Deep.RegionHeld3
namespace Go.Proofs.Ythphokjhonddcaa
open Go.RowKit

/-- A line of a header. -/
def lnF (p : FldP) : List Nat := bts p.1 ++ [58, 32] ++ bts p.2 ++ [10]
/-- The lines of a header. -/
def pkH (l : List FldP) : List Nat := l.flatMap lnF
theorem pkH_snoc (l : List FldP) (k : Nat) (h : k < l.length) : pkH (l.take (k + 1)) = pkH (l.take k) ++ lnF (nthF l k) := by
  rw [take_snocF l k h]; simp [pkH]
theorem lnF_isB (p : FldP) : IsB (lnF p) := by
  intro b hb
  simp only [lnF, List.mem_append, List.mem_cons, List.not_mem_nil, or_false] at hb
  rcases hb with ((h | h) | h) | h
  · exact bts_isB _ b h
  · omega
  · exact bts_isB _ b h
  · omega
theorem str_app (a b : List Nat) : str (a ++ b) = str a ++ str b := by
  apply ByteArray.ext
  simp [str, ByteArray.data_append]
/-- The texts of a line, one by one. -/
theorem lnF_str (x y : ByteArray) (h : (lnF (x, y)).length ≤ 1048576) : ∃ u1 u2 : ByteArray, (∀ w, (Op.stringOp .add x ⟨#[58, 32]⟩).run Try.prog w = .ok (.string u1) w) ∧
    (∀ w, (Op.stringOp .add u1 y).run Try.prog w = .ok (.string u2) w) ∧ ∀ w, (Op.stringOp .add u2 ⟨#[10]⟩).run Try.prog w = .ok (.string (str (lnF (x, y)))) w := by
  have hx := bts_len x
  have hy := bts_len y
  have e0 : (⟨#[58, 32]⟩ : ByteArray) = str [58, 32] := rfl
  have e1 : (⟨#[10]⟩ : ByteArray) = str [10] := rfl
  have h' : (bts x).length + 2 + (bts y).length + 1 ≤ 1048576 := by
    simp [lnF] at h; omega
  refine ⟨str (bts x ++ [58, 32]), str (bts x ++ [58, 32] ++ bts y), fun w => ?_, fun w => ?_, fun w => ?_⟩
  · rw [str_app, str_bts, e0]
    exact run_string_add_sum w _ _ (by simp only [str_size, List.length_cons, List.length_nil]; omega)
  · rw [str_app (bts x ++ [58, 32]), str_bts y]
    exact run_string_add_sum w _ _ (by simp only [str_size, List.length_append, List.length_cons, List.length_nil]; omega)
  · unfold lnF
    rw [str_app (bts x ++ [58, 32] ++ bts y), e1]
    exact run_string_add_sum w _ _ (by simp only [str_size, List.length_append, List.length_cons, List.length_nil]; omega)

theorem pkH_le (l : List FldP) (k : Nat) : (pkH (l.take k)).length ≤ (pkH l).length := by
  have h : pkH l = pkH (l.take k) ++ pkH (l.drop k) := by
    unfold pkH; rw [← List.flatMap_append, List.take_append_drop]
  rw [h, List.length_append]; omega

theorem lnF_len (p : FldP) (h : fdOk p = true) : (lnF p).length ≤ 153 := by
  simp only [fdOk, nmOk, vlOk, Bool.and_eq_true, decide_eq_true_eq] at h
  obtain ⟨⟨_, h1⟩, _, h2⟩ := h
  simp only [lnF, List.length_append, List.length_cons, List.length_nil]
  omega
theorem pkH_len : ∀ l : List FldP, l.all fdOk = true → (pkH l).length ≤ l.length * 153
  | [], _ => by simp [pkH]
  | p :: l, h => by
    simp only [List.all_cons, Bool.and_eq_true] at h
    have h1 := lnF_len p h.1
    have h2 := pkH_len l h.2
    have e : pkH (p :: l) = lnF p ++ pkH l := rfl
    rw [e, List.length_append, List.length_cons]
    omega
theorem fdF_zero {l : List FldP} (h : fdF l = 0) : l.length ≤ 8 ∧ l.all fdOk = true := by
  unfold fdF at h
  by_cases h8 : 8 < l.length
  · rw [if_pos h8] at h; cases h
  · rw [if_neg h8] at h
    refine ⟨by omega, ?_⟩
    cases ha : l.all fdOk with
    | true => rfl
    | false => rw [ha] at h; simp at h
theorem pkH_fit {l : List FldP} (h : fdF l = 0) : (pkH l).length ≤ 1224 := by
  have h1 := fdF_zero h
  have h2 := pkH_len l h1.2
  omega
/-- What PackHeader answers. -/
def pkV (l : List FldP) : Int × List Nat := if fdF l = 0 then (if 400 < (pkH l ++ [10]).length then (2, []) else (0, pkH l ++ [10])) else (fdF l, [])
theorem pkV_bad {l : List FldP} (h : fdF l ≠ 0) : pkV l = (fdF l, []) := if_neg h
theorem pkV_many {l : List FldP} (h : fdF l = 0) (h1 : 400 < (pkH l ++ [10]).length) : pkV l = (2, []) := by unfold pkV; rw [if_pos h, if_pos h1]
theorem pkV_ok {l : List FldP} (h : fdF l = 0) (h1 : ¬ 400 < (pkH l ++ [10]).length) : pkV l = (0, pkH l ++ [10]) := by unfold pkV; rw [if_pos h, if_neg h1]

end Go.Proofs.Ythphokjhonddcaa
