/- The character at the beginning of some bytes, by each charset: plain functions, with no program in them; what is guessed and told again is just what the model reads · readChar, at each charset: the character that some bytes begin with, as the plain function reads it; at least one byte · The draw of bytes of a charset: some number and some bytes, in memory of the draw's own; nothing that was there is turned; sources of at most 1048576 bytes. -/
import Derived.Test.YtilepbbcinbmhaaDoorDrw6ToDec
import Derived.Test.YtilepbbcinbmhaaDoorFltToWrd2
import Derived.Deep.RegionHeld3
namespace Go.Proofs.YtilepbbcinbmhaaDoor
open Go.RowKit

/-- What a charset guesses: a character and how many bytes; 0 bytes: none. -/
def gss (cs : Int) (l : List Nat) : Nat × Nat :=
  if cs = 3 then (cyU (nth l 0), 1) else
  if cs = 4 then (if nth l 0 < 128 then (nth l 0, 1) else if 2 ≤ l.length ∧ nth l 0 < 224 then (nth l 0 % 32 * 64 + nth l 1 % 64, 2) else if 3 ≤ l.length then (nth l 0 % 16 * 4096 + nth l 1 % 64 * 64 + nth l 2 % 64, 3) else (0, 0)) else
  if cs = 5 then (if 2 ≤ l.length then (nth l 0 * 256 + nth l 1, 2) else (0, 0)) else (nth l 0, 1)
/-- What is read: the guess, where it is told in just these bytes. -/
def rdC (cs : Int) (l : List Nat) : Nat × Nat :=
  if (gss cs l).2 = 0 ∨ chr ((gss cs l).1 : Int) = false ∨ hasC cs ((gss cs l).1 : Int) = false ∨ tellL cs ((gss cs l).1 : Int) ≠ l.take (gss cs l).2 then (0, 0) else gss cs l
theorem rdC_no {cs : Int} {l : List Nat} (h : (gss cs l).2 = 0 ∨ chr ((gss cs l).1 : Int) = false ∨ hasC cs ((gss cs l).1 : Int) = false ∨ tellL cs ((gss cs l).1 : Int) ≠ l.take (gss cs l).2) : rdC cs l = (0, 0) := if_pos h
theorem rdC_yes {cs : Int} {l : List Nat} (h1 : (gss cs l).2 ≠ 0) (h2 : chr ((gss cs l).1 : Int) = true) (h3 : hasC cs ((gss cs l).1 : Int) = true) (h4 : tellL cs ((gss cs l).1 : Int) = l.take (gss cs l).2) : rdC cs l = gss cs l := by
  unfold rdC
  rw [if_neg]
  rintro (h | h | h | h)
  · exact h1 h
  · rw [h2] at h; cases h
  · rw [h3] at h; cases h
  · exact h h4
theorem gss_le (cs : Int) (l : List Nat) (h : 1 ≤ l.length) : (gss cs l).2 ≤ l.length := by
  unfold gss
  split
  · exact h
  · split
    · split
      · exact h
      · split
        · rename_i h2; exact h2.1
        · split
          · assumption
          · exact Nat.zero_le _
    · split
      · split
        · assumption
        · exact Nat.zero_le _
      · exact h
theorem rdC_le (cs : Int) (l : List Nat) (h : 1 ≤ l.length) : (rdC cs l).2 ≤ l.length := by
  unfold rdC
  split
  · exact Nat.zero_le _
  · exact gss_le cs l h
theorem take_one {l : List Nat} (h : 1 ≤ l.length) : l.take 1 = [nth l 0] := by
  rw [show (1 : Nat) = 0 + 1 from rfl, take_snoc l 0 (by omega)]; simp
theorem take_two {l : List Nat} (h : 2 ≤ l.length) : l.take 2 = [nth l 0, nth l 1] := by
  rw [show (2 : Nat) = 1 + 1 from rfl, take_snoc l 1 (by omega), take_one (by omega)]; rfl
theorem take_three {l : List Nat} (h : 3 ≤ l.length) : l.take 3 = [nth l 0, nth l 1, nth l 2] := by
  rw [show (3 : Nat) = 2 + 1 from rfl, take_snoc l 2 (by omega), take_two (by omega)]; rfl

theorem list2 {a b c d : Nat} (h1 : a = c) (h2 : b = d) : [a, b] = [c, d] := by rw [h1, h2]
theorem list3 {a b c d e f : Nat} (h1 : a = d) (h2 : b = e) (h3 : c = f) : [a, b, c] = [d, e, f] := by rw [h1, h2, h3]
/-- What the model reads. -/
theorem rdC_1 {l : List Nat} (h : 1 ≤ l.length) : rdC 1 l = if nth l 0 < 128 then (nth l 0, 1) else (0, 0) := by
  have hg : gss 1 l = (nth l 0, 1) := by simp [gss]
  split
  · rename_i hx
    rw [rdC_yes (by rw [hg]; simp) (by rw [hg, chr_iff]; simp only; omega) (by rw [hg]; simp only [hasC, if_true]; exact decide_eq_true (by omega)) (by rw [hg, tellL_1, take_one h]; simp), hg]
  · rename_i hx
    exact rdC_no (.inr (.inr (.inl (by rw [hg]; simp only [hasC, if_true]; exact decide_eq_false (by omega)))))
theorem rdC_2 {l : List Nat} (hB : IsB l) (h : 1 ≤ l.length) : rdC 2 l = (nth l 0, 1) := by
  have hg : gss 2 l = (nth l 0, 1) := by simp [gss]
  have hx := nth_lt hB 0
  rw [rdC_yes (by rw [hg]; simp) (by rw [hg, chr_iff]; simp only; omega) (by rw [hg, hasC_2]; exact decide_eq_true (by simp only; omega)) (by rw [hg, tellL_2, take_one h]; simp), hg]
theorem cyU_ok {b : Nat} (h : b < 256) : chr (cyU b : Int) = true ∧ cyr (cyU b : Int) = (b : Int) := by
  unfold cyU
  split
  · subst b; exact ⟨by decide, by decide⟩
  · split
    · subst b; exact ⟨by decide, by decide⟩
    · split
      · exact ⟨by rw [chr_iff]; omega, cyr_same (by omega)⟩
      · exact ⟨by rw [chr_iff]; omega, by rw [cyr_far (by omega)]; omega⟩
theorem rdC_3 {l : List Nat} (hB : IsB l) (h : 1 ≤ l.length) : rdC 3 l = (cyU (nth l 0), 1) := by
  have hg : gss 3 l = (cyU (nth l 0), 1) := by simp [gss]
  have hx := cyU_ok (nth_lt hB 0)
  rw [rdC_yes (by rw [hg]; simp) (by rw [hg]; exact hx.1) (by rw [hg, hasC_3]; exact decide_eq_true (by simp only [hx.2]; omega)) (by rw [hg, tellL_3, take_one h]; simp [hx.2]), hg]
theorem rdC_5 {l : List Nat} (hB : IsB l) : rdC 5 l = if 2 ≤ l.length ∧ chr ((nth l 0 * 256 + nth l 1 : Nat) : Int) = true then (nth l 0 * 256 + nth l 1, 2) else (0, 0) := by
  have hx := nth_lt hB 0
  have hy := nth_lt hB 1
  split
  · rename_i h
    have hg : gss 5 l = (nth l 0 * 256 + nth l 1, 2) := by simp [gss, h.1]
    rw [rdC_yes (by rw [hg]; simp) (by rw [hg]; exact h.2) (by rw [hg, hasC_5]; rfl) (by rw [hg, tellL_5, take_two h.1, Int.toNat_natCast]; simp only; exact list2 (by omega) (by omega)), hg]
  · rename_i h
    by_cases h2 : 2 ≤ l.length
    · have hg : gss 5 l = (nth l 0 * 256 + nth l 1, 2) := by simp [gss, h2]
      refine rdC_no (.inr (.inl ?_))
      rw [hg]
      cases hc : chr ((nth l 0 * 256 + nth l 1 : Nat) : Int)
      · rfl
      · exact absurd ⟨h2, hc⟩ h
    · have hg : gss 5 l = (0, 0) := by simp [gss, h2]
      exact rdC_no (.inl (by rw [hg]))
theorem rdC_4_one {l : List Nat} (h : 1 ≤ l.length) (hx : nth l 0 < 128) : rdC 4 l = (nth l 0, 1) := by
  have hg : gss 4 l = (nth l 0, 1) := by simp [gss, hx]
  rw [rdC_yes (by rw [hg]; simp) (by rw [hg, chr_iff]; simp only; omega) (by rw [hg, hasC_4]; rfl) (by rw [hg, tellL_4, take_one h, Int.toNat_natCast, u8L_one hx]), hg]
theorem rdC_4_two {l : List Nat} (h : 2 ≤ l.length) (hx : 194 ≤ nth l 0 ∧ nth l 0 < 224) (hy : 128 ≤ nth l 1 ∧ nth l 1 ≤ 191) : rdC 4 l = ((nth l 0 - 192) * 64 + (nth l 1 - 128), 2) := by
  have hg : gss 4 l = ((nth l 0 - 192) * 64 + (nth l 1 - 128), 2) := by
    have e : nth l 0 % 32 * 64 + nth l 1 % 64 = (nth l 0 - 192) * 64 + (nth l 1 - 128) := by omega
    simp [gss, show ¬ nth l 0 < 128 by omega, h, hx.2, e]
  rw [rdC_yes (by rw [hg]; simp) (by rw [hg, chr_iff]; simp only; omega) (by rw [hg, hasC_4]; rfl) (by rw [hg, tellL_4, take_two h, Int.toNat_natCast, u8L_two (by omega) (by omega)]; exact list2 (by omega) (by omega)), hg]
theorem rdC_4_three {l : List Nat} (h : 3 ≤ l.length) (hx : 224 ≤ nth l 0 ∧ nth l 0 < 240) (hy : 128 ≤ nth l 1 ∧ nth l 1 ≤ 191) (hz : 128 ≤ nth l 2 ∧ nth l 2 ≤ 191) (hc : 2048 ≤ (nth l 0 - 224) * 4096 + (nth l 1 - 128) * 64 + (nth l 2 - 128))
    (hch : chr (((nth l 0 - 224) * 4096 + (nth l 1 - 128) * 64 + (nth l 2 - 128) : Nat) : Int) = true) : rdC 4 l = ((nth l 0 - 224) * 4096 + (nth l 1 - 128) * 64 + (nth l 2 - 128), 3) := by
  have hg : gss 4 l = ((nth l 0 - 224) * 4096 + (nth l 1 - 128) * 64 + (nth l 2 - 128), 3) := by
    have e : nth l 0 % 16 * 4096 + nth l 1 % 64 * 64 + nth l 2 % 64 = (nth l 0 - 224) * 4096 + (nth l 1 - 128) * 64 + (nth l 2 - 128) := by omega
    simp [gss, show ¬ nth l 0 < 128 by omega, show ¬ nth l 0 < 224 by omega, h, e]
  rw [rdC_yes (by rw [hg]; simp) (by rw [hg]; exact hch) (by rw [hg, hasC_4]; rfl) (by rw [hg, tellL_4, take_three h, Int.toNat_natCast, u8L_three (by omega) (by omega)]; exact list3 (by omega) (by omega) (by omega)), hg]
theorem rdC_4_no {l : List Nat} (hB : IsB l) (h0 : 128 ≤ nth l 0) (h2 : ¬ (2 ≤ l.length ∧ 194 ≤ nth l 0 ∧ nth l 0 < 224 ∧ 128 ≤ nth l 1 ∧ nth l 1 ≤ 191))
    (h3 : ¬ (3 ≤ l.length ∧ 224 ≤ nth l 0 ∧ nth l 0 < 240 ∧ 128 ≤ nth l 1 ∧ nth l 1 ≤ 191 ∧ 128 ≤ nth l 2 ∧ nth l 2 ≤ 191 ∧ 2048 ≤ (nth l 0 - 224) * 4096 + (nth l 1 - 128) * 64 + (nth l 2 - 128) ∧ chr (((nth l 0 - 224) * 4096 + (nth l 1 - 128) * 64 + (nth l 2 - 128) : Nat) : Int) = true)) : rdC 4 l = (0, 0) := by
  have hx := nth_lt hB 0
  have hy := nth_lt hB 1
  have hz := nth_lt hB 2
  by_cases hn2 : 2 ≤ l.length ∧ nth l 0 < 224
  · have hg : gss 4 l = (nth l 0 % 32 * 64 + nth l 1 % 64, 2) := by simp [gss, show ¬ nth l 0 < 128 by omega, hn2]
    refine rdC_no (.inr (.inr (.inr ?_)))
    rw [hg, tellL_4, take_two hn2.1, Int.toNat_natCast]
    by_cases hs : nth l 0 % 32 * 64 + nth l 1 % 64 < 128
    · simp only; rw [u8L_one hs]; simp
    · simp only; rw [u8L_two hs (by omega)]
      intro he
      simp only [List.cons.injEq, and_true] at he
      omega
  · by_cases hn3 : 3 ≤ l.length
    · have hg : gss 4 l = (nth l 0 % 16 * 4096 + nth l 1 % 64 * 64 + nth l 2 % 64, 3) := by simp [gss, show ¬ nth l 0 < 128 by omega, hn2, hn3]
      cases hc : chr ((nth l 0 % 16 * 4096 + nth l 1 % 64 * 64 + nth l 2 % 64 : Nat) : Int) with
      | false => exact rdC_no (.inr (.inl (by rw [hg]; exact hc)))
      | true =>
        refine rdC_no (.inr (.inr (.inr ?_)))
        rw [hg, tellL_4, take_three hn3, Int.toNat_natCast]
        by_cases hs : nth l 0 % 16 * 4096 + nth l 1 % 64 * 64 + nth l 2 % 64 < 128
        · simp only; rw [u8L_one hs]; simp
        · by_cases ht : nth l 0 % 16 * 4096 + nth l 1 % 64 * 64 + nth l 2 % 64 < 2048
          · simp only; rw [u8L_two hs ht]; simp
          · simp only; rw [u8L_three hs ht]
            intro he
            simp only [List.cons.injEq, and_true] at he
            have e : nth l 0 % 16 * 4096 + nth l 1 % 64 * 64 + nth l 2 % 64 = (nth l 0 - 224) * 4096 + (nth l 1 - 128) * 64 + (nth l 2 - 128) := by omega
            rw [e] at hc
            exact h3 ⟨hn3, by omega, by omega, by omega, by omega, by omega, by omega, by omega, hc⟩
    · have hg : gss 4 l = (0, 0) := by simp [gss, show ¬ nth l 0 < 128 by omega, hn2, hn3]
      exact rdC_no (.inl (by rw [hg]))
end Go.Proofs.YtilepbbcinbmhaaDoor

namespace Go.Proofs.YtilepbbcinbmhaaDoor
open Go.RowKit

/-- How a guess, or a reading, ends. -/
def TwoEnd (r : Nat × Nat) (w : World) (e : Ending) (w' : World) : Prop := e = .returned (.tuple #[.int .i64 (r.1 : Int), .int .i64 (r.2 : Int)]) ∧ Below w.heap.size w w'


theorem rd_takeD {w : World} {a : Option Addr} {l : List Nat} (h : Rd w a l) (k : Nat) : Rd w a (l.take k) := by
  rcases h with h | ⟨g, o, e, hg, hc⟩
  · exact .inl (by rw [h]; simp)
  · refine .inr ⟨g, o, e, hg, fun i hi => ?_⟩
    rw [List.length_take] at hi
    rw [hc i (by omega), nth_get (by omega), nth_get (by rw [List.length_take]; omega), List.getElem_take]
theorem tellL_isB {cs c : Int} (hcs : 1 ≤ cs ∧ cs ≤ 5) (h2 : chr c = true) (h3 : hasC cs c = true) : IsB (tellL cs c) := by
  have hc := chr_iff.1 h2
  intro x hx
  unfold tellL at hx
  split at hx
  · rename_i h
    subst h
    rw [hasC_3] at h3
    have h4 := cyr_pos.1 (decide_eq_true_iff.1 (show decide (0 ≤ cyr c) = true from h3))
    have h5 : cyr c ≤ 255 := by
      unfold cyr
      split
      · omega
      · split
        · omega
        · split
          · omega
          · split <;> omega
    simp at hx
    omega
  · split at hx
    · unfold u8L at hx
      split at hx
      · simp at hx; omega
      · split at hx
        · simp at hx; omega
        · simp at hx; omega
    · split at hx
      · simp at hx; omega
      · simp at hx
        rename_i hn3 hn4 hn5
        unfold hasC at h3
        split at h3
        · simp at h3; omega
        · split at h3
          · simp at h3; omega
          · omega
end Go.Proofs.YtilepbbcinbmhaaDoor

namespace Go.Proofs.YtilepbbcinbmhaaDoor
open Go.RowKit

theorem encV_isB {cs : Int} {l : List Int} (hcs : 1 ≤ cs ∧ cs ≤ 5) (hch : ∀ x ∈ l, chr x = true) : IsB (encV cs l).2 := by
  unfold encV
  split
  · rename_i ha
    split
    · intro b hb; simp at hb
    · intro b hb
      obtain ⟨x, hx, hbx⟩ := List.mem_flatMap.1 hb
      exact tellL_isB hcs (hch x hx) (List.all_eq_true.1 ha x hx) b hbx
  · intro b hb; simp at hb
theorem encV_short (cs : Int) (l : List Int) : (encV cs l).2.length ≤ 400 := by
  unfold encV
  split
  · split
    · simp
    · simp only; omega
  · simp
theorem Drawn.chr {l : List Int} (h : Drawn l) : ∀ x ∈ l, Go.Proofs.YtilepbbcinbmhaaDoor.chr x = true := fun x hx => by
  have := h x hx
  simp only [List.mem_cons, List.not_mem_nil, or_false] at this
  rw [chr_iff]
  omega
/-- A slice of bytes that can be read. -/
def SlB (w : World) (v : Value) (l : List Nat) : Prop := ∃ (a : Option Addr) (n cap : Nat), v = .slice a n cap ∧ l.length = n ∧ n ≤ cap ∧ n ≤ 1000 ∧ Rd w a l
theorem Own.slB {w : World} {B : Nat} {v : Value} {l : List Nat} (h : Own w B v l) (hl : l.length ≤ 1000) : SlB w v l := by
  obtain ⟨a, cap, rfl, h2, _⟩ := h.form
  exact ⟨a, _, cap, rfl, rfl, h2, hl, h.rd.2⟩
/-- How a draw of a number and some bytes ends. -/
def BTxtEnd (w : World) (e : Ending) (w' : World) : Prop := ∃ (r : Int) (v : Value) (l : List Nat), e = .returned (.tuple #[.int .i64 r, v]) ∧ SlB w' v l ∧ IsB l ∧ Below w.heap.size w w'

end Go.Proofs.YtilepbbcinbmhaaDoor
