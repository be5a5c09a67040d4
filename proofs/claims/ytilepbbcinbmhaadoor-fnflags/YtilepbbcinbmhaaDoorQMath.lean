/- Plain facts on lists of bytes, with no program in them: quoted text is read back as the bytes that it was told of, and it is plain; no conditions. -/
import Derived.Test.YtilepbbcinbmhaaDoorMemToInf
namespace Go.Proofs.YtilepbbcinbmhaaDoor
namespace Xq

/-- Does a byte stand as itself, ahead of r? -/
def self (b : Nat) (r : List Nat) : Bool :=
  if b = 10 then true else if b = 32 ∨ b = 9 then decide (0 < r.length ∧ nth r 0 ≠ 10) else decide (33 ≤ b ∧ b ≤ 126 ∧ b ≠ 61)
def hex (v : Nat) : Nat := if v < 10 then 48 + v else 55 + v
theorem hex_lt {v : Nat} (h : v < 16) : hex v < 128 ∧ 1 ≤ hex v ∧ hex v ≠ 10 := by unfold hex; split <;> omega
/-- The quoted text of some bytes. -/
def quo : List Nat → List Nat
  | [] => []
  | b :: r => if self b r = true then b :: quo r else 61 :: hex (b / 16) :: hex (b % 16) :: quo r
/-- The value of a digit; 16: it is none. -/
def unhex (c : Nat) : Nat := if 48 ≤ c ∧ c ≤ 57 then c - 48 else if 65 ≤ c ∧ c ≤ 70 then c - 55 else 16
theorem unhex_le (c : Nat) : unhex c ≤ 16 := by unfold unhex; split <;> (try split) <;> omega
theorem unhex_hex {v : Nat} (h : v < 16) : unhex (hex v) = v := by
  have : ∀ v, v < 16 → unhex (hex v) = v := by decide
  exact this v h
theorem hex_unhex {c : Nat} (h : unhex c < 16) : hex (unhex c) = c := by
  by_cases h1 : 48 ≤ c ∧ c ≤ 57
  · have e : unhex c = c - 48 := by unfold unhex; rw [if_pos h1]
    rw [e]; unfold hex; rw [if_pos (by omega)]; omega
  · by_cases h2 : 65 ≤ c ∧ c ≤ 70
    · have e : unhex c = c - 55 := by unfold unhex; rw [if_neg h1, if_pos h2]
      rw [e]; unfold hex; rw [if_neg (by omega)]; omega
    · have e : unhex c = 16 := by unfold unhex; rw [if_neg h1, if_neg h2]
      omega
/-- Up to the place of a digit a loop finds it nowhere, and there it finds it. -/
theorem hex_eq_iff {c v : Nat} (h : v < 16) (_hle : v ≤ unhex c) : hex v = c ↔ v = unhex c := by
  constructor
  · intro e; rw [← e, unhex_hex h]
  · intro e; rw [e]; exact hex_unhex (by omega)

theorem quo_len_ge : ∀ l : List Nat, l.length ≤ (quo l).length
  | [] => by simp [quo]
  | b :: r => by
    have := quo_len_ge r
    rw [quo]
    split <;> simp <;> omega
theorem quo_len_le : ∀ l : List Nat, (quo l).length ≤ 3 * l.length
  | [] => by simp [quo]
  | b :: r => by
    have := quo_len_le r
    rw [quo]
    split <;> simp <;> omega
theorem self_plain {b : Nat} {r : List Nat} (h : self b r = true) : 1 ≤ b ∧ b < 128 ∧ b ≠ 61 := by
  unfold self at h
  split at h
  · omega
  · split at h
    · omega
    · simp at h; omega
theorem quo_plain : ∀ l : List Nat, IsB l → ∀ x ∈ quo l, 1 ≤ x ∧ x < 128
  | [], _ => by simp [quo]
  | b :: r, h => by
    have hb := h b (by simp)
    have ih := quo_plain r (fun y hy => h y (by simp [hy]))
    rw [quo]
    split
    · rename_i hs
      have := self_plain hs
      intro x hx
      rcases List.mem_cons.1 hx with rfl | hx
      · omega
      · exact ih x hx
    · intro x hx
      have h1 := hex_lt (v := b / 16) (by omega)
      have h2 := hex_lt (v := b % 16) (by omega)
      simp only [List.mem_cons] at hx
      rcases hx with rfl | rfl | rfl | hx
      · omega
      · omega
      · omega
      · exact ih x hx

/-- A quoted text, read. -/
def unq : List Nat → Option (List Nat)
  | [] => some []
  | c :: r => if self c r = true then (unq r).map (c :: ·)
    else if c ≠ 61 then none
    else match r with
      | [] => none
      | a :: r1 => if a = 10 then unq r1
        else match r1 with
          | [] => none
          | b :: r2 => if unhex a < 16 ∧ unhex b < 16 then (unq r2).map ((unhex a * 16 + unhex b) :: ·) else none

theorem unq_self {c : Nat} {r : List Nat} (h : self c r = true) : unq (c :: r) = (unq r).map (c :: ·) := by rw [unq.eq_def]; simp only [h, if_true]
theorem unq_none {c : Nat} {r : List Nat} (h : self c r = false) (hc : c ≠ 61) : unq (c :: r) = none := by rw [unq.eq_def]; simp only [h, hc, ne_eq, not_false_eq_true, if_true]; rfl
theorem unq_break (r : List Nat) : unq (61 :: 10 :: r) = unq r := by rw [unq.eq_def]; simp [self]
theorem unq_byte {a b : Nat} {r : List Nat} (ha : a ≠ 10) (h : unhex a < 16 ∧ unhex b < 16) : unq (61 :: a :: b :: r) = (unq r).map ((unhex a * 16 + unhex b) :: ·) := by rw [unq.eq_def]; simp [self, ha, h]
theorem unq_bad {a b : Nat} {r : List Nat} (ha : a ≠ 10) (h : ¬ (unhex a < 16 ∧ unhex b < 16)) : unq (61 :: a :: b :: r) = none := by rw [unq.eq_def]; simp only [self, ha]; simp; intro h1 h2; exact absurd ⟨h1, h2⟩ h
theorem unq_short1 : unq [61] = none := by rw [unq.eq_def]; simp [self]
theorem unq_short2 {a : Nat} (ha : a ≠ 10) : unq [61, a] = none := by rw [unq.eq_def]; simp [self, ha]

/-- The quoted text begins with a line feed where the bytes do. -/
theorem quo_head (r : List Nat) (h : 0 < r.length) : 0 < (quo r).length ∧ (nth (quo r) 0 = 10 ↔ nth r 0 = 10) := by
  match r, h with
  | c :: r, _ =>
    rw [quo]
    by_cases hc : c = 10
    · subst hc
      simp [self, nth]
    · split
      · simp [nth]
      · simp [nth, hc]
theorem self_quo (b : Nat) (r : List Nat) : self b (quo r) = self b r := by
  unfold self
  by_cases h1 : b = 10
  · simp [h1]
  · by_cases h2 : b = 32 ∨ b = 9
    · rw [if_neg h1, if_pos h2, if_neg h1, if_pos h2]
      by_cases hr : 0 < r.length
      · obtain ⟨q1, q2⟩ := quo_head r hr
        simp only [q1, hr, true_and, ne_eq, q2]
      · have : r = [] := List.length_eq_zero_iff.1 (by omega)
        subst this
        simp [quo]
    · rw [if_neg h1, if_neg h2, if_neg h1, if_neg h2]
theorem self_fill (r : List Nat) : self 61 r = false := by simp [self]
theorem unq_quo : ∀ l : List Nat, IsB l → unq (quo l) = some l
  | [], _ => rfl
  | b :: r, h => by
    have hb := h b (by simp)
    have ih := unq_quo r (fun y hy => h y (by simp [hy]))
    rw [quo]
    by_cases hs : self b r = true
    · rw [if_pos hs, unq_self (by rw [self_quo]; exact hs), ih]
      rfl
    · have h1 := unhex_hex (v := b / 16) (by omega)
      have h2 := unhex_hex (v := b % 16) (by omega)
      have h3 := hex_lt (v := b / 16) (by omega)
      rw [if_neg hs, unq_byte h3.2.2 (by rw [h1, h2]; omega), h1, h2, ih]
      simp
      omega
end Xq
end Go.Proofs.YtilepbbcinbmhaaDoor
