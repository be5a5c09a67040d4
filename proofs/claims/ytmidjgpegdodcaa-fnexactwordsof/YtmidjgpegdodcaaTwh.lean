/- Where a byte stands first in bytes: plain functions, with no program in them. -/
import Derived.Test.YtmidjgpegdodcaaApp
import Derived.Lib.Replace
import Derived.Lib.IndexBytes
import Derived.Lib.SplitLaws
namespace Go.Proofs.Ytmidjgpegdodcaa
open Go.RowKit

theorem u8_neW {b c : Nat} (hb : b < 256) (hc : c < 256) (h : b ≠ c) : (UInt8.ofNat b == UInt8.ofNat c) = false := by
  rw [beq_eq_false_iff_ne]
  intro e
  have := congrArg UInt8.toNat e
  rw [UInt8.toNat_ofNat', UInt8.toNat_ofNat'] at this
  omega
theorem idx_natW {c : Nat} (hc : c < 256) {p : Nat → Bool} (hp : ∀ b, p b = decide (b ≠ c)) : ∀ l : List Nat, IsB l → Lib.indexByte (l.map UInt8.ofNat) (UInt8.ofNat c) = if (l.takeWhile p).length < l.length then ((l.takeWhile p).length : Int) else -1
  | [], _ => rfl
  | b :: l, h => by
    have hb := h b (by simp)
    have ih := idx_natW hc hp l (fun x hx => h x (by simp [hx]))
    rw [List.map_cons, Lib.indexByte, List.takeWhile_cons, hp b]
    by_cases e : b = c
    · subst e
      simp
    · rw [u8_neW hb hc e, decide_eq_true e]
      simp only [if_true, List.length_cons, Bool.false_eq_true, if_false]
      by_cases hl : (l.takeWhile p).length < l.length
      · have ih' := ih.trans (if_pos hl)
        rw [ih', if_pos (show (l.takeWhile p).length + 1 < l.length + 1 by omega), if_neg (by simp)]
        omega
      · have ih' := ih.trans (if_neg hl)
        rw [ih', if_neg (show ¬ (l.takeWhile p).length + 1 < l.length + 1 by omega), if_pos (by simp)]
theorem tw_split {p : Nat → Bool} : ∀ l : List Nat, (l.takeWhile p).length < l.length → ∃ x r, l = l.takeWhile p ++ x :: r ∧ p x = false ∧ l.drop ((l.takeWhile p).length + 1) = r ∧ l.take (l.takeWhile p).length = l.takeWhile p
  | [], h => by simp at h
  | b :: l, h => by
    rw [List.takeWhile_cons] at h ⊢
    cases e : p b with
    | false => exact ⟨b, l, by simp, e, by simp, by simp⟩
    | true =>
      rw [e] at h
      simp only [if_true, List.length_cons] at h ⊢
      obtain ⟨x, r, h1, h2, h3, h4⟩ := tw_split (p := p) l (by omega)
      refine ⟨x, r, ?_, h2, ?_, ?_⟩
      · rw [List.cons_append, ← h1]
      · rw [List.drop_succ_cons]; exact h3
      · rw [List.take_succ_cons, h4]
theorem tw_all {p : Nat → Bool} : ∀ l : List Nat, ¬ (l.takeWhile p).length < l.length → l.all p = true
  | [], _ => rfl
  | b :: l, h => by
    rw [List.takeWhile_cons] at h
    cases e : p b with
    | false => rw [e] at h; simp at h
    | true =>
      rw [e] at h
      simp only [if_true, List.length_cons] at h
      rw [List.all_cons, e, tw_all l (by omega)]; rfl
theorem tw_allp (p : Nat → Bool) (l : List Nat) : (l.takeWhile p).all p = true := by
  rw [List.all_eq_true]
  intro x hx
  induction l with
  | nil => cases hx
  | cons b l ih =>
    rw [List.takeWhile_cons] at hx
    cases e : p b with
    | false => rw [e] at hx; cases hx
    | true =>
      rw [e] at hx
      rcases List.mem_cons.1 hx with rfl | hx
      · exact e
      · exact ih hx
end Go.Proofs.Ytmidjgpegdodcaa
