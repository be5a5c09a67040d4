/- Words of characters: plain functions, with no program in them; what stands for itself by its characters does so by its bytes · Where a byte stands first in bytes: plain functions, with no program in them · Letters of a told word as quoted text; a text cut at question marks: plain functions, with no program in them. -/
import Derived.Test.YtfbjodbihenmjaaGreatDoorTel3ToDec2
import Derived.Test.YtfbjodbihenmjaaGreatDoorDecLToWrd2
import Derived.Test.YtfbjodbihenmjaaGreatDoorMath
import Derived.Lib.IndexMore
import Derived.Test.YtfbjodbihenmjaaGreatDoorAppToMemF
import Derived.Lib.Replace
import Derived.Lib.IndexBytes
import Derived.Lib.SplitLaws
namespace Go.Proofs.YtfbjodbihenmjaaGreatDoor
open Go.RowKit

/-- A blank, or a byte that is seen. -/
def bosB (c : Nat) : Bool := decide (32 ≤ c ∧ c ≤ 126)
/-- Is there `=?`? -/
def eqq : List Nat → Bool
  | [] => false
  | a :: r => (decide (a = 61 ∧ nth r 0 = 63)) || eqq r
theorem nth_cons (a : Nat) (r : List Nat) (k : Nat) : nth (a :: r) (k + 1) = nth r k := by simp [nth]
theorem nth_head (a : Nat) (r : List Nat) : nth (a :: r) 0 = a := by simp [nth]
theorem nth_out {l : List Nat} {k : Nat} (h : l.length ≤ k) : nth l k = 0 := by
  unfold nth; rw [List.getD_eq_getElem?_getD, List.getElem?_eq_none h]; rfl
theorem eqq_iff : ∀ t : List Nat, eqq t = true ↔ ∃ k, nth t k = 61 ∧ nth t (k + 1) = 63
  | [] => by
    constructor
    · intro h; cases h
    · rintro ⟨k, h, _⟩; rw [nth_out (by simp)] at h; cases h
  | a :: r => by
    rw [eqq, Bool.or_eq_true, decide_eq_true_iff, eqq_iff r]
    constructor
    · rintro (⟨h1, h2⟩ | ⟨k, h1, h2⟩)
      · exact ⟨0, by rw [nth_head]; exact h1, by rw [nth_cons]; exact h2⟩
      · exact ⟨k + 1, by rw [nth_cons]; exact h1, by rw [nth_cons]; exact h2⟩
    · rintro ⟨k, h1, h2⟩
      cases k with
      | zero => left; rw [nth_head] at h1; rw [nth_cons] at h2; exact ⟨h1, h2⟩
      | succ k => right; rw [nth_cons] at h1 h2; exact ⟨k, h1, h2⟩
theorem pre2 (a : Nat) (r : List Nat) (hB : IsB (a :: r)) : ([(61 : UInt8), 63].isPrefixOf ((a :: r).map UInt8.ofNat)) = decide (a = 61 ∧ nth r 0 = 63) := by
  have ha := hB a (by simp)
  have e1 : ∀ x c : Nat, x < 256 → c < 256 → (UInt8.ofNat c == UInt8.ofNat x) = decide (x = c) := fun x c hx hc => by
    rw [Bool.eq_iff_iff, beq_iff_eq, decide_eq_true_iff]
    constructor
    · intro h
      have := congrArg UInt8.toNat h
      rw [UInt8.toNat_ofNat', UInt8.toNat_ofNat'] at this
      omega
    · intro h; rw [h]
  match r, hB with
  | [], _ =>
    rw [decide_eq_false (by intro h; have := h.2; rw [nth_out (by simp)] at this; cases this)]
    rw [List.map_cons, List.map_nil, List.isPrefixOf_cons_cons]
    simp
  | b :: r, hB =>
    have hb := hB b (by simp)
    rw [List.map_cons, List.map_cons, List.isPrefixOf_cons_cons, List.isPrefixOf_cons_cons, List.isPrefixOf_nil_left, Bool.and_true, nth_head]
    have h1 := e1 a 61 ha (by omega)
    have h2 := e1 b 63 hb (by omega)
    rw [show (UInt8.ofNat 61) = (61 : UInt8) from rfl] at h1
    rw [show (UInt8.ofNat 63) = (63 : UInt8) from rfl] at h2
    rw [h1, h2, Bool.eq_iff_iff]
    simp
theorem contains_eqq : ∀ t : List Nat, IsB t → Lib.contains (t.map UInt8.ofNat) [61, 63] = eqq t
  | [], _ => rfl
  | a :: r, hB => by
    have ih := contains_eqq r (fun x hx => hB x (by simp [hx]))
    have hp := pre2 a r hB
    rw [eqq, ← hp, ← ih]
    unfold Lib.contains
    rw [List.map_cons] at *
    rw [Lib.index]
    have hge := Lib.index_ge (r.map UInt8.ofNat) [61, 63]
    cases h : ([(61 : UInt8), 63].isPrefixOf (UInt8.ofNat a :: r.map UInt8.ofNat)) with
    | true => simp
    | false =>
      simp only [Bool.false_eq_true, if_false, Bool.false_or]
      by_cases hm : Lib.index (r.map UInt8.ofNat) [61, 63] = -1
      · rw [hm]; rfl
      · rw [if_neg (by simp [hm])]
        exact decide_eq_decide.2 (by omega)

theorem nthI_out {l : List Int} {k : Nat} (h : l.length ≤ k) : nthI l k = 0 := by
  unfold nthI; rw [List.getD_eq_getElem?_getD, List.getElem?_eq_none h]; rfl
theorem nthI_toNat (l : List Int) (k : Nat) : nth (l.map Int.toNat) k = (nthI l k).toNat := by
  unfold nth nthI
  rw [List.getD_eq_getElem?_getD, List.getD_eq_getElem?_getD, List.getElem?_map]
  cases l[k]? <;> rfl
/-- A character that may stand for itself. -/
def slfB (c : Int) : Bool := decide (32 ≤ c ∧ c ≤ 126)
theorem sfV_eq (l : List Int) : sfV l = (l.all slfB && !eqq (l.map Int.toNat)) := by
  rw [Bool.eq_iff_iff, Bool.and_eq_true, Bool.not_eq_true', ← Bool.not_eq_true, eqq_iff]
  unfold sfV
  rw [List.all_eq_true, List.all_eq_true]
  constructor
  · intro h
    refine ⟨fun x hx => ?_, ?_⟩
    · obtain ⟨k, hk, rfl⟩ := List.getElem_of_mem hx
      have := h k (List.mem_range.2 hk)
      unfold sfB at this
      rw [Bool.and_eq_true] at this
      have h1 := of_decide_eq_true this.1
      rw [nthI_get hk] at h1
      exact decide_eq_true h1
    · rintro ⟨k, h1, h2⟩
      rw [nthI_toNat] at h1 h2
      by_cases hk : k + 1 < l.length
      · have := h (k + 1) (List.mem_range.2 hk)
        unfold sfB at this
        rw [Bool.and_eq_true, Bool.not_eq_true', decide_eq_false_iff_not] at this
        exact this.2 ⟨by omega, by rw [show k + 1 - 1 = k by omega]; omega, by omega⟩
      · rw [nthI_out (by omega)] at h2; cases h2
  · rintro ⟨h1, h2⟩ k hk
    have hk := List.mem_range.1 hk
    unfold sfB
    rw [Bool.and_eq_true, Bool.not_eq_true', decide_eq_false_iff_not]
    have hx := of_decide_eq_true (h1 (nthI l k) (by rw [nthI_get hk]; exact List.getElem_mem hk))
    refine ⟨decide_eq_true hx, ?_⟩
    rintro ⟨h0, h3, h4⟩
    refine h2 ⟨k - 1, ?_, ?_⟩
    · rw [nthI_toNat, h3]; rfl
    · rw [nthI_toNat, show k - 1 + 1 = k by omega, h4]; rfl
theorem tell4 (c : Int) : tellL 4 c = u8L c.toNat := by unfold tellL; rw [if_neg (by decide), if_pos rfl]
theorem u8_self {c : Int} (h : slfB c = true) : tellL 4 c = [c.toNat] := by
  have h' := of_decide_eq_true h
  rw [tell4]; unfold u8L; rw [if_pos (by omega)]
theorem u8_bos {c : Int} (hc : chr c = true) : (tellL 4 c).all bosB = slfB c := by
  have h := chr_iff.1 hc
  rw [tell4]
  unfold u8L
  by_cases h1 : c.toNat < 128
  · rw [if_pos h1, List.all_cons, List.all_nil, Bool.and_true]
    exact decide_eq_decide.2 (by omega)
  · have hs : slfB c = false := decide_eq_false (by omega)
    rw [if_neg h1, hs]
    split
    · rw [List.all_cons, show bosB (192 + c.toNat / 64) = false from decide_eq_false (by omega)]; rfl
    · rw [List.all_cons, show bosB (224 + c.toNat / 4096) = false from decide_eq_false (by omega)]; rfl
theorem flat_bos : ∀ l : List Int, (∀ x ∈ l, chr x = true) → (l.flatMap (tellL 4)).all bosB = l.all slfB
  | [], _ => rfl
  | c :: l, h => by
    rw [List.flatMap_cons, List.all_append, u8_bos (h c (by simp)), flat_bos l (fun x hx => h x (by simp [hx])), List.all_cons]
theorem flat_self : ∀ l : List Int, l.all slfB = true → l.flatMap (tellL 4) = l.map Int.toNat
  | [], _ => rfl
  | c :: l, h => by
    rw [List.all_cons, Bool.and_eq_true] at h
    rw [List.flatMap_cons, u8_self h.1, flat_self l h.2]; rfl
theorem self_bytes (l : List Int) (h : ∀ x ∈ l, chr x = true) : ((l.flatMap (tellL 4)).all bosB && !eqq (l.flatMap (tellL 4))) = sfV l := by
  rw [sfV_eq, flat_bos l h]
  cases ha : l.all slfB with
  | false => rfl
  | true => rw [flat_self l ha]
/-- The letters around a told word. -/
def twB : List Nat := [61, 63, 117, 116, 102, 45, 56, 63, 66, 63]
/-- One told word. -/
def toldW (o : List Nat) : List Nat := (twB ++ Xf.enc o) ++ [63, 61]
theorem toldW_len (o : List Nat) : (toldW o).length = (Xf.enc o).length + 12 := by
  unfold toldW twB
  rw [List.length_append, List.length_append]
  simp only [List.length_cons, List.length_nil]
  omega
/-- What EncodeWords answers. -/
def ewV (l : List Int) : Int × List Nat := if (encT 4 l).1 = 0 then (if sfV l then (0, (encT 4 l).2) else if 400 < (toldW (encT 4 l).2).length then (2, []) else (0, toldW (encT 4 l).2)) else ((encT 4 l).1, [])
theorem ewV_bad {l : List Int} (h : (encT 4 l).1 ≠ 0) : ewV l = ((encT 4 l).1, []) := if_neg h
theorem ewV_self {l : List Int} (h : (encT 4 l).1 = 0) (hs : sfV l = true) : ewV l = (0, (encT 4 l).2) := by unfold ewV; rw [if_pos h, if_pos hs]
theorem ewV_many {l : List Int} (h : (encT 4 l).1 = 0) (hs : sfV l = false) (h4 : 400 < (toldW (encT 4 l).2).length) : ewV l = (2, []) := by unfold ewV; rw [if_pos h, hs, if_neg (by simp), if_pos h4]
theorem ewV_told {l : List Int} (h : (encT 4 l).1 = 0) (hs : sfV l = false) (h4 : ¬ 400 < (toldW (encT 4 l).2).length) : ewV l = (0, toldW (encT 4 l).2) := by unfold ewV; rw [if_pos h, hs, if_neg (by simp), if_neg h4]
/-- What stands behind an answer without a code. -/
theorem encT_zero {l : List Int} (h : (encT 4 l).1 = 0) : flt l = 0 ∧ (encT 4 l).2 = l.flatMap (tellL 4) ∧ (encT 4 l).2.length ≤ 400 := by
  by_cases hf : flt l = 0
  · rw [encT_ok (by omega) hf] at h ⊢
    refine ⟨hf, ?_⟩
    cases ha : l.all (hasC 4) with
    | false => rw [encV_bad ha] at h; cases h
    | true =>
      by_cases h4 : 400 < (l.flatMap (tellL 4)).length
      · rw [encV_many ha h4] at h; cases h
      · rw [encV_ok ha h4]; exact ⟨rfl, by simp only; omega⟩
  · rw [encT_fault (by omega) hf] at h; exact absurd h hf
theorem u8L_isB (k : Nat) (h : k ≤ 65535) : IsB (u8L k) := by
  unfold u8L
  split
  · intro b hb; simp only [List.mem_cons, List.not_mem_nil, or_false] at hb; omega
  · split
    · intro b hb; simp only [List.mem_cons, List.not_mem_nil, or_false] at hb; omega
    · intro b hb; simp only [List.mem_cons, List.not_mem_nil, or_false] at hb; omega
theorem encT_isB {l : List Int} (h : (encT 4 l).1 = 0) : IsB (encT 4 l).2 := by
  obtain ⟨hf, he, _⟩ := encT_zero h
  rw [he]
  intro b hb
  obtain ⟨c, hc, hb⟩ := List.mem_flatMap.1 hb
  have := chr_iff.1 ((flt_zero hf).2 c hc)
  rw [tell4] at hb
  exact u8L_isB c.toNat (by omega) b hb
end Go.Proofs.YtfbjodbihenmjaaGreatDoor

namespace Go.Proofs.YtfbjodbihenmjaaGreatDoor
open Go.RowKit

theorem u8_neW {b c : Nat} (hb : b < 256) (hc : c < 256) (h : b ≠ c) : (UInt8.ofNat b == UInt8.ofNat c) = false := by
  rw [beq_eq_false_iff_ne]
  intro e
  have := congrArg UInt8.toNat e
  rw [UInt8.toNat_ofNat', UInt8.toNat_ofNat'] at this
  omega
theorem idx_natW {c : Nat} (hc : c < 256) {p : Nat → Bool} (hp : ∀ b, p b = decide (b ≠ c)) : ∀ l : List Nat, IsB l → Lib.indexByte (l.map UInt8.ofNat) (UInt8.ofNat c) = if (l.takeWhile p).length < l.length then ((l.takeWhile p).length : Int) else -1
  | [], _ => rfl
  | b :: l, h => by
    have hb := h b (by simp)
    have ih := idx_natW hc hp l (fun x hx => h x (by simp [hx]))
    rw [List.map_cons, Lib.indexByte, List.takeWhile_cons, hp b]
    by_cases e : b = c
    · subst e
      simp
    · rw [u8_neW hb hc e, decide_eq_true e]
      simp only [if_true, List.length_cons, Bool.false_eq_true, if_false]
      by_cases hl : (l.takeWhile p).length < l.length
      · have ih' := ih.trans (if_pos hl)
        rw [ih', if_pos (show (l.takeWhile p).length + 1 < l.length + 1 by omega), if_neg (by simp)]
        omega
      · have ih' := ih.trans (if_neg hl)
        rw [ih', if_neg (show ¬ (l.takeWhile p).length + 1 < l.length + 1 by omega), if_pos (by simp)]
theorem tw_split {p : Nat → Bool} : ∀ l : List Nat, (l.takeWhile p).length < l.length → ∃ x r, l = l.takeWhile p ++ x :: r ∧ p x = false ∧ l.drop ((l.takeWhile p).length + 1) = r ∧ l.take (l.takeWhile p).length = l.takeWhile p
  | [], h => by simp at h
  | b :: l, h => by
    rw [List.takeWhile_cons] at h ⊢
    cases e : p b with
    | false => exact ⟨b, l, by simp, e, by simp, by simp⟩
    | true =>
      rw [e] at h
      simp only [if_true, List.length_cons] at h ⊢
      obtain ⟨x, r, h1, h2, h3, h4⟩ := tw_split (p := p) l (by omega)
      refine ⟨x, r, ?_, h2, ?_, ?_⟩
      · rw [List.cons_append, ← h1]
      · rw [List.drop_succ_cons]; exact h3
      · rw [List.take_succ_cons, h4]
theorem tw_all {p : Nat → Bool} : ∀ l : List Nat, ¬ (l.takeWhile p).length < l.length → l.all p = true
  | [], _ => rfl
  | b :: l, h => by
    rw [List.takeWhile_cons] at h
    cases e : p b with
    | false => rw [e] at h; simp at h
    | true =>
      rw [e] at h
      simp only [if_true, List.length_cons] at h
      rw [List.all_cons, e, tw_all l (by omega)]; rfl
theorem tw_allp (p : Nat → Bool) (l : List Nat) : (l.takeWhile p).all p = true := by
  rw [List.all_eq_true]
  intro x hx
  induction l with
  | nil => cases hx
  | cons b l ih =>
    rw [List.takeWhile_cons] at hx
    cases e : p b with
    | false => rw [e] at hx; cases hx
    | true =>
      rw [e] at hx
      rcases List.mem_cons.1 hx with rfl | hx
      · exact e
      · exact ih hx
end Go.Proofs.YtfbjodbihenmjaaGreatDoor

namespace Go.Proofs.YtfbjodbihenmjaaGreatDoor
open Go.RowKit

/-- No letter for a blank. -/
def noUs (c : Nat) : Bool := decide (c ≠ 95)
theorem repU_none {l : List Nat} (h : l.all noUs = true) : repU l = l := by
  induction l with
  | nil => rfl
  | cons c l ih =>
    rw [List.all_cons, Bool.and_eq_true] at h
    have hc := of_decide_eq_true h.1
    rw [repU_cons, if_neg hc, ih h.2]; rfl
theorem repU_app (a b : List Nat) : repU (a ++ b) = repU a ++ repU b := by simp [repU, List.flatMap_append]
theorem replK : ∀ (k : Nat) (t : List Nat), IsB t → (Lib.countByte (t.map UInt8.ofNat) 95) = k → Lib.replaceK [95] [61, 50, 48] k (t.map UInt8.ofNat) = (repU t).map UInt8.ofNat := by
  intro k
  induction k with
  | zero =>
    intro t hB hc
    have hall : t.all noUs = true := by
      rw [List.all_eq_true]
      intro x hx
      refine decide_eq_true (fun e => ?_)
      subst e
      have h0 : List.count (95 : UInt8) (t.map UInt8.ofNat) = 0 := hc
      rw [List.count_eq_zero] at h0
      exact h0 (List.mem_map.2 ⟨95, hx, rfl⟩)
    rw [repU_none hall]
    rfl
  | succ k ih =>
    intro t hB hc
    have hi := idx_natW (c := 95) (by omega) (p := noUs) (fun b => rfl) t hB
    rw [show (UInt8.ofNat 95) = (95 : UInt8) from rfl] at hi
    by_cases hl : (t.takeWhile noUs).length < t.length
    · rw [if_pos hl] at hi
      obtain ⟨x, r, h1, h2, h3, h4⟩ := tw_split t hl
      have hx : x = 95 := by
        have := of_decide_eq_false h2
        omega
      subst hx
      rw [Lib.replaceK_hit _ _ k _ (t.takeWhile noUs).length (by rw [Lib.index_one]; exact hi), ← List.map_take, ← List.map_drop, h4]
      rw [show (t.takeWhile noUs).length + [(95 : UInt8)].length = (t.takeWhile noUs).length + 1 from rfl, h3]
      have hBr : IsB r := fun y hy => hB y (by rw [h1]; simp [hy])
      have hcr : Lib.countByte (r.map UInt8.ofNat) 95 = k := by
        have h5 : List.count (95 : UInt8) (t.map UInt8.ofNat) = k + 1 := hc
        rw [h1, List.map_append, List.map_cons, List.count_append, List.count_cons] at h5
        have h6 : List.count (95 : UInt8) ((t.takeWhile noUs).map UInt8.ofNat) = 0 := by
          rw [List.count_eq_zero]
          intro hm
          obtain ⟨y, hy, e⟩ := List.mem_map.1 hm
          have hy' := of_decide_eq_true (List.all_eq_true.1 (tw_allp noUs t) y hy)
          have hyB := hB y (by rw [h1]; simp [hy])
          have := u8_neW hyB (by omega : (95 : Nat) < 256) hy'
          rw [show (UInt8.ofNat 95) = (95 : UInt8) from rfl, e] at this
          simp at this
        rw [h6] at h5
        have h7 : ((UInt8.ofNat 95 == (95 : UInt8)) = true) := rfl
        rw [if_pos h7] at h5
        show List.count (95 : UInt8) (r.map UInt8.ofNat) = k
        omega
      rw [ih r hBr hcr]
      conv => rhs; rw [h1]
      rw [repU_app, repU_cons, if_pos rfl, repU_none (tw_allp noUs t), List.map_append, List.map_append, List.append_assoc]
      rfl
    · exfalso
      have hall := tw_all t hl
      have h0 : List.count (95 : UInt8) (t.map UInt8.ofNat) = 0 := by
        rw [List.count_eq_zero]
        intro hm
        obtain ⟨y, hy, e⟩ := List.mem_map.1 hm
        have hy' := of_decide_eq_true (List.all_eq_true.1 hall y hy)
        have := u8_neW (hB y hy) (by omega : (95 : Nat) < 256) hy'
        rw [show (UInt8.ofNat 95) = (95 : UInt8) from rfl, e] at this
        simp at this
      have h5 : List.count (95 : UInt8) (t.map UInt8.ofNat) = k + 1 := hc
      omega
theorem replAll (t : List Nat) (hB : IsB t) : (⟨(Lib.replaceAll (str t).data.toList [95] [61, 50, 48]).toArray⟩ : ByteArray) = str (repU t) := by
  have e : (str t).data.toList = t.map UInt8.ofNat := by simp [str]
  rw [e]
  unfold Lib.replaceAll Lib.replace
  rw [if_neg (by decide)]
  unfold Lib.replaceNum
  rw [if_pos (.inl (by decide)), Lib.count_one]
  have hk := replK _ t hB rfl
  unfold Lib.countByte at hk
  rw [hk]
  rfl
theorem repU_len : ∀ t : List Nat, (repU t).length ≤ 3 * t.length
  | [] => by simp [repU]
  | c :: t => by
    have := repU_len t
    rw [repU_cons, List.length_append, List.length_cons]
    split
    · simp only [List.length_cons, List.length_nil]; omega
    · simp only [List.length_cons, List.length_nil]; omega
theorem repU_isB {t : List Nat} (hB : IsB t) : IsB (repU t) := by
  intro b hb
  unfold repU at hb
  obtain ⟨c, hc, hb⟩ := List.mem_flatMap.1 hb
  split at hb
  · simp only [List.mem_cons, List.not_mem_nil, or_false] at hb; omega
  · simp only [List.mem_cons, List.not_mem_nil, or_false] at hb; rw [hb]; exact hB c hc

/-- A text cut at its first question marks. -/
def spl : Nat → List Nat → List (List Nat)
  | 0, v => [v]
  | k + 1, v => if (v.takeWhile noQu).length < v.length then v.takeWhile noQu :: spl k (v.drop ((v.takeWhile noQu).length + 1)) else [v]
theorem splB (k : Nat) : ∀ v : List Nat, IsB v → Lib.splitB ⟨#[63]⟩ 0 k (str v) = (spl k v).map str := by
  induction k with
  | zero => intro v _; rfl
  | succ k ih =>
    intro v hB
    have hi := idx_natW (c := 63) (by omega) (p := noQu) (fun b => rfl) v hB
    rw [show (UInt8.ofNat 63) = (63 : UInt8) from rfl] at hi
    have e : Lib.indexB (str v) ⟨#[63]⟩ = Lib.indexByte (v.map UInt8.ofNat) 63 := by
      rw [← Lib.index_one]
      show Lib.index (str v).data.toList [63] = _
      rw [show (str v).data.toList = v.map UInt8.ofNat by simp [str]]
    unfold spl
    by_cases hl : (v.takeWhile noQu).length < v.length
    · rw [if_pos hl] at hi ⊢
      rw [Lib.splitB_hit _ _ _ _ (v.takeWhile noQu).length (e.trans hi), List.map_cons]
      obtain ⟨x, r, h1, h2, h3, h4⟩ := tw_split v hl
      rw [str_piece, str_piece, str_size, List.take_length, List.drop_zero, Nat.add_zero, h4]
      rw [show (v.takeWhile noQu).length + (⟨#[63]⟩ : ByteArray).size = (v.takeWhile noQu).length + 1 from rfl, ih _ (isB_drop hB _)]
    · rw [if_neg hl] at hi ⊢
      rw [Lib.splitB_miss _ _ _ _ (e.trans hi)]
      rfl
end Go.Proofs.YtfbjodbihenmjaaGreatDoor
