/- Letters of a told word as quoted text; a text cut at question marks: plain functions, with no program in them. -/
import Derived.Test.YtknbndebfickpaaGreatDoorWdD
import Derived.Test.YtknbndebfickpaaGreatDoorEwM
import Derived.Lib.Replace
import Derived.Lib.IndexBytes
import Derived.Lib.SplitLaws
namespace Go.Proofs.YtknbndebfickpaaGreatDoor
open Go.RowKit

theorem u8_neW {b c : Nat} (hb : b < 256) (hc : c < 256) (h : b ≠ c) : (UInt8.ofNat b == UInt8.ofNat c) = false := by
  rw [beq_eq_false_iff_ne]
  intro e
  have := congrArg UInt8.toNat e
  rw [UInt8.toNat_ofNat', UInt8.toNat_ofNat'] at this
  omega
theorem idx_natW {c : Nat} (hc : c < 256) {p : Nat → Bool} (hp : ∀ b, p b = decide (b ≠ c)) : ∀ l : List Nat, IsB l → Lib.indexByte (l.map UInt8.ofNat) (UInt8.ofNat c) = if (l.takeWhile p).length < l.length then ((l.takeWhile p).length : Int) else -1
  | [], _ => rfl
  | b :: l, h => by
    have hb := h b (by simp)
    have ih := idx_natW hc hp l (fun x hx => h x (by simp [hx]))
    rw [List.map_cons, Lib.indexByte, List.takeWhile_cons, hp b]
    by_cases e : b = c
    · subst e
      simp
    · rw [u8_neW hb hc e, decide_eq_true e]
      simp only [if_true, List.length_cons, Bool.false_eq_true, if_false]
      by_cases hl : (l.takeWhile p).length < l.length
      · have ih' := ih.trans (if_pos hl)
        rw [ih', if_pos (show (l.takeWhile p).length + 1 < l.length + 1 by omega), if_neg (by simp)]
        omega
      · have ih' := ih.trans (if_neg hl)
        rw [ih', if_neg (show ¬ (l.takeWhile p).length + 1 < l.length + 1 by omega), if_pos (by simp)]
theorem tw_split {p : Nat → Bool} : ∀ l : List Nat, (l.takeWhile p).length < l.length → ∃ x r, l = l.takeWhile p ++ x :: r ∧ p x = false ∧ l.drop ((l.takeWhile p).length + 1) = r ∧ l.take (l.takeWhile p).length = l.takeWhile p
  | [], h => by simp at h
  | b :: l, h => by
    rw [List.takeWhile_cons] at h ⊢
    cases e : p b with
    | false => exact ⟨b, l, by simp, e, by simp, by simp⟩
    | true =>
      rw [e] at h
      simp only [if_true, List.length_cons] at h ⊢
      obtain ⟨x, r, h1, h2, h3, h4⟩ := tw_split (p := p) l (by omega)
      refine ⟨x, r, ?_, h2, ?_, ?_⟩
      · rw [List.cons_append, ← h1]
      · rw [List.drop_succ_cons]; exact h3
      · rw [List.take_succ_cons, h4]
theorem tw_all {p : Nat → Bool} : ∀ l : List Nat, ¬ (l.takeWhile p).length < l.length → l.all p = true
  | [], _ => rfl
  | b :: l, h => by
    rw [List.takeWhile_cons] at h
    cases e : p b with
    | false => rw [e] at h; simp at h
    | true =>
      rw [e] at h
      simp only [if_true, List.length_cons] at h
      rw [List.all_cons, e, tw_all l (by omega)]; rfl
/-- No letter for a blank. -/
def noUs (c : Nat) : Bool := decide (c ≠ 95)
theorem repU_none {l : List Nat} (h : l.all noUs = true) : repU l = l := by
  induction l with
  | nil => rfl
  | cons c l ih =>
    rw [List.all_cons, Bool.and_eq_true] at h
    have hc := of_decide_eq_true h.1
    rw [repU_cons, if_neg hc, ih h.2]; rfl
theorem repU_app (a b : List Nat) : repU (a ++ b) = repU a ++ repU b := by simp [repU, List.flatMap_append]
theorem tw_allp (p : Nat → Bool) (l : List Nat) : (l.takeWhile p).all p = true := by
  rw [List.all_eq_true]
  intro x hx
  induction l with
  | nil => cases hx
  | cons b l ih =>
    rw [List.takeWhile_cons] at hx
    cases e : p b with
    | false => rw [e] at hx; cases hx
    | true =>
      rw [e] at hx
      rcases List.mem_cons.1 hx with rfl | hx
      · exact e
      · exact ih hx
theorem replK : ∀ (k : Nat) (t : List Nat), IsB t → (Lib.countByte (t.map UInt8.ofNat) 95) = k → Lib.replaceK [95] [61, 50, 48] k (t.map UInt8.ofNat) = (repU t).map UInt8.ofNat := by
  intro k
  induction k with
  | zero =>
    intro t hB hc
    have hall : t.all noUs = true := by
      rw [List.all_eq_true]
      intro x hx
      refine decide_eq_true (fun e => ?_)
      subst e
      have h0 : List.count (95 : UInt8) (t.map UInt8.ofNat) = 0 := hc
      rw [List.count_eq_zero] at h0
      exact h0 (List.mem_map.2 ⟨95, hx, rfl⟩)
    rw [repU_none hall]
    rfl
  | succ k ih =>
    intro t hB hc
    have hi := idx_natW (c := 95) (by omega) (p := noUs) (fun b => rfl) t hB
    rw [show (UInt8.ofNat 95) = (95 : UInt8) from rfl] at hi
    by_cases hl : (t.takeWhile noUs).length < t.length
    · rw [if_pos hl] at hi
      obtain ⟨x, r, h1, h2, h3, h4⟩ := tw_split t hl
      have hx : x = 95 := by
        have := of_decide_eq_false h2
        omega
      subst hx
      rw [Lib.replaceK_hit _ _ k _ (t.takeWhile noUs).length (by rw [Lib.index_one]; exact hi), ← List.map_take, ← List.map_drop, h4]
      rw [show (t.takeWhile noUs).length + [(95 : UInt8)].length = (t.takeWhile noUs).length + 1 from rfl, h3]
      have hBr : IsB r := fun y hy => hB y (by rw [h1]; simp [hy])
      have hcr : Lib.countByte (r.map UInt8.ofNat) 95 = k := by
        have h5 : List.count (95 : UInt8) (t.map UInt8.ofNat) = k + 1 := hc
        rw [h1, List.map_append, List.map_cons, List.count_append, List.count_cons] at h5
        have h6 : List.count (95 : UInt8) ((t.takeWhile noUs).map UInt8.ofNat) = 0 := by
          rw [List.count_eq_zero]
          intro hm
          obtain ⟨y, hy, e⟩ := List.mem_map.1 hm
          have hy' := of_decide_eq_true (List.all_eq_true.1 (tw_allp noUs t) y hy)
          have hyB := hB y (by rw [h1]; simp [hy])
          have := u8_neW hyB (by omega : (95 : Nat) < 256) hy'
          rw [show (UInt8.ofNat 95) = (95 : UInt8) from rfl, e] at this
          simp at this
        rw [h6] at h5
        have h7 : ((UInt8.ofNat 95 == (95 : UInt8)) = true) := rfl
        rw [if_pos h7] at h5
        show List.count (95 : UInt8) (r.map UInt8.ofNat) = k
        omega
      rw [ih r hBr hcr]
      conv => rhs; rw [h1]
      rw [repU_app, repU_cons, if_pos rfl, repU_none (tw_allp noUs t), List.map_append, List.map_append, List.append_assoc]
      rfl
    · exfalso
      have hall := tw_all t hl
      have h0 : List.count (95 : UInt8) (t.map UInt8.ofNat) = 0 := by
        rw [List.count_eq_zero]
        intro hm
        obtain ⟨y, hy, e⟩ := List.mem_map.1 hm
        have hy' := of_decide_eq_true (List.all_eq_true.1 hall y hy)
        have := u8_neW (hB y hy) (by omega : (95 : Nat) < 256) hy'
        rw [show (UInt8.ofNat 95) = (95 : UInt8) from rfl, e] at this
        simp at this
      have h5 : List.count (95 : UInt8) (t.map UInt8.ofNat) = k + 1 := hc
      omega
theorem replAll (t : List Nat) (hB : IsB t) : (⟨(Lib.replaceAll (str t).data.toList [95] [61, 50, 48]).toArray⟩ : ByteArray) = str (repU t) := by
  have e : (str t).data.toList = t.map UInt8.ofNat := by simp [str]
  rw [e]
  unfold Lib.replaceAll Lib.replace
  rw [if_neg (by decide)]
  unfold Lib.replaceNum
  rw [if_pos (.inl (by decide)), Lib.count_one]
  have hk := replK _ t hB rfl
  unfold Lib.countByte at hk
  rw [hk]
  rfl
theorem repU_len : ∀ t : List Nat, (repU t).length ≤ 3 * t.length
  | [] => by simp [repU]
  | c :: t => by
    have := repU_len t
    rw [repU_cons, List.length_append, List.length_cons]
    split
    · simp only [List.length_cons, List.length_nil]; omega
    · simp only [List.length_cons, List.length_nil]; omega
theorem repU_isB {t : List Nat} (hB : IsB t) : IsB (repU t) := by
  intro b hb
  unfold repU at hb
  obtain ⟨c, hc, hb⟩ := List.mem_flatMap.1 hb
  split at hb
  · simp only [List.mem_cons, List.not_mem_nil, or_false] at hb; omega
  · simp only [List.mem_cons, List.not_mem_nil, or_false] at hb; rw [hb]; exact hB c hc

/-- A text cut at its first question marks. -/
def spl : Nat → List Nat → List (List Nat)
  | 0, v => [v]
  | k + 1, v => if (v.takeWhile noQu).length < v.length then v.takeWhile noQu :: spl k (v.drop ((v.takeWhile noQu).length + 1)) else [v]
theorem splB (k : Nat) : ∀ v : List Nat, IsB v → Lib.splitB ⟨#[63]⟩ 0 k (str v) = (spl k v).map str := by
  induction k with
  | zero => intro v _; rfl
  | succ k ih =>
    intro v hB
    have hi := idx_natW (c := 63) (by omega) (p := noQu) (fun b => rfl) v hB
    rw [show (UInt8.ofNat 63) = (63 : UInt8) from rfl] at hi
    have e : Lib.indexB (str v) ⟨#[63]⟩ = Lib.indexByte (v.map UInt8.ofNat) 63 := by
      rw [← Lib.index_one]
      show Lib.index (str v).data.toList [63] = _
      rw [show (str v).data.toList = v.map UInt8.ofNat by simp [str]]
    unfold spl
    by_cases hl : (v.takeWhile noQu).length < v.length
    · rw [if_pos hl] at hi ⊢
      rw [Lib.splitB_hit _ _ _ _ (v.takeWhile noQu).length (e.trans hi), List.map_cons]
      obtain ⟨x, r, h1, h2, h3, h4⟩ := tw_split v hl
      rw [str_piece, str_piece, str_size, List.take_length, List.drop_zero, Nat.add_zero, h4]
      rw [show (v.takeWhile noQu).length + (⟨#[63]⟩ : ByteArray).size = (v.takeWhile noQu).length + 1 from rfl, ih _ (isB_drop hB _)]
    · rw [if_neg hl] at hi ⊢
      rw [Lib.splitB_miss _ _ _ _ (e.trans hi)]
      rfl
end Go.Proofs.YtknbndebfickpaaGreatDoor
