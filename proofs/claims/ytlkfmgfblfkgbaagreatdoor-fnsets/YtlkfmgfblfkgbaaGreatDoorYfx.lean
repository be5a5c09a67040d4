/- What is told of a set is just what is in it: plain facts; and the law's look for a number. -/
import Derived.Test.YtlkfmgfblfkgbaaGreatDoorYex
namespace Go.Proofs.YtlkfmgfblfkgbaaGreatDoor
open Go.RowKit

theorem fldN0 (x y : Value) (w : World) : (Instr.field 37 (.agg #[x, y]) 0).run Tryz.prog w = .ok x w := by
  simp [Instr.field, asAgg, go_sem]
theorem fldN1 (x y : Value) (w : World) : (Instr.field 37 (.agg #[x, y]) 1).run Tryz.prog w = .ok y w := by
  simp [Instr.field, asAgg, go_sem]
theorem mem_xsY {l : List YgP} {most n : Int} : ∀ {k : Nat}, n ∈ xsY l most k ↔ (1 ≤ n ∧ n ≤ (k : Int)) ∧ inY l n most = true
  | 0 => by
    constructor
    · intro h; cases h
    · intro h; omega
  | k + 1 => by
    unfold xsY
    split
    · rename_i hx
      rw [List.mem_append, mem_xsY (k := k), List.mem_singleton]
      constructor
      · rintro (⟨h1, h2⟩ | h)
        · exact ⟨by omega, h2⟩
        · subst h; exact ⟨by omega, hx⟩
      · rintro ⟨h1, h2⟩
        by_cases he : n = (k : Int) + 1
        · exact .inr he
        · exact .inl ⟨by omega, h2⟩
    · rename_i hx
      rw [mem_xsY (k := k)]
      constructor
      · rintro ⟨h1, h2⟩; exact ⟨by omega, h2⟩
      · rintro ⟨h1, h2⟩
        by_cases he : n = (k : Int) + 1
        · subst he; exact absurd h2 hx
        · exact ⟨by omega, h2⟩
theorem xsY_rise (l : List YgP) (most : Int) : ∀ k, (xsY l most k).Pairwise (· < ·)
  | 0 => List.Pairwise.nil
  | k + 1 => by
    unfold xsY
    split
    · rw [List.pairwise_append]
      refine ⟨xsY_rise l most k, List.pairwise_singleton _ _, fun a ha b hb => ?_⟩
      rw [List.mem_singleton] at hb
      have := (mem_xsY.1 ha).1
      omega
    · exact xsY_rise l most k
theorem xs_at {l : List YgP} {most : Int} {k i : Nat} (h : i < (xsY l most k).length) : 1 ≤ nthI (xsY l most k) i ∧ nthI (xsY l most k) i ≤ (k : Int) := by
  have := (mem_xsY (l := l) (most := most) (k := k)).1 (List.getElem_mem h)
  rw [nthI_get h]; exact this.1
theorem xs_up {l : List YgP} {most : Int} {k i : Nat} (h : i + 1 < (xsY l most k).length) : nthI (xsY l most k) i < nthI (xsY l most k) (i + 1) := by
  rw [nthI_get h, nthI_get (Nat.lt_of_succ_lt h)]
  exact List.pairwise_iff_getElem.1 (xsY_rise l most k) i (i + 1) _ _ (Nat.lt_succ_self i)
theorem in_has {l : List YgP} {most n : Int} (h0 : rfV l = 0) (hm : bty most 0 999 = true) (h1 : 1 ≤ n) (h2 : n ≤ most) : isY l n most = decide (n ∈ xsY l most most.toNat) := by
  have hb := of_decide_eq_true hm
  unfold isY
  rw [h0, show bty most 1 999 = true from decide_eq_true (by omega), show bty n 1 most = true from decide_eq_true (by omega)]
  show inY l n most = _
  cases hi : inY l n most with
  | true => exact (decide_eq_true (mem_xsY.2 ⟨by omega, hi⟩)).symm
  | false => exact (decide_eq_false fun h => by have := (mem_xsY.1 h).2; rw [hi] at this; cases this).symm
theorem exV_ok {l : List YgP} {most : Int} (h : (exV l most).1 = 0) : rfV l = 0 ∧ bty most 0 999 = true ∧ exV l most = (0, xsY l most most.toNat) := by
  unfold exV at h ⊢
  split
  · rename_i h0
    rw [if_pos h0] at h
    split
    · exact ⟨h0, by assumption, rfl⟩
    · rename_i h1
      rw [if_neg h1] at h
      cases h
  · rename_i h0
    rw [if_neg h0] at h
    exact absurd h h0
theorem exV_bad {l : List YgP} {most : Int} (h : (exV l most).1 ≠ 0) : exV l most = ((exV l most).1, []) := by
  unfold exV at h ⊢
  split
  · rename_i h0
    rw [if_pos h0] at h
    split
    · rename_i h1
      rw [if_pos h1] at h
      exact absurd rfl h
    · rfl
  · rfl

end Go.Proofs.YtlkfmgfblfkgbaaGreatDoor
