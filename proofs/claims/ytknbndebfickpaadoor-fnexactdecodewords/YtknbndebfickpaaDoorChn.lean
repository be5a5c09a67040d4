/- Characters told in bytes are read back from them, and bytes that are read are told so again: plain facts, with no program in them. -/
import Derived.Test.YtknbndebfickpaaDoorDec7ToDrl4
namespace Go.Proofs.YtknbndebfickpaaDoor
open Go.RowKit

theorem cyU_cyr {c : Int} (h : 0 ≤ cyr c) : cyU (cyr c).toNat = c.toNat := by
  have hp := cyr_pos.1 h
  by_cases h1 : 0 ≤ c ∧ c ≤ 160 ∨ c = 173
  · rw [cyr_same h1]
    unfold cyU
    rw [if_neg (by omega), if_neg (by omega), if_pos (by omega)]
  · by_cases h2 : c = 167
    · subst h2; rw [cyr_167]; rfl
    · by_cases h3 : c = 8470
      · subst h3; rw [cyr_8470]; rfl
      · rw [cyr_far (by omega)]
        unfold cyU
        rw [if_neg (by omega), if_neg (by omega), if_neg (by omega)]
        omega
theorem gss_tell {cs c : Int} (hcs : 1 ≤ cs ∧ cs ≤ 5) (hch : chr c = true) (hh : hasC cs c = true) (rest : List Nat) : gss cs (tellL cs c ++ rest) = (c.toNat, (tellL cs c).length) := by
  have hc := chr_iff.1 hch
  rcases cs_cases hcs with rfl | rfl | rfl | rfl | rfl
  · rw [tellL_1]; simp [gss, nth]
  · rw [tellL_2]; simp [gss, nth]
  · rw [tellL_3]
    rw [hasC_3] at hh
    have h0 : 0 ≤ cyr c := decide_eq_true_iff.1 (show decide (0 ≤ cyr c) = true from hh)
    simp [gss, nth, cyU_cyr h0]
  · rw [tellL_4]
    generalize hk : c.toNat = k
    have hk' : k ≤ 65535 := by omega
    by_cases h1 : k < 128
    · rw [u8L_one h1]; simp [gss, nth, h1]
    · by_cases h2 : k < 2048
      · rw [u8L_two h1 h2]
        have e1 : ¬ 192 + k / 64 < 128 := by omega
        have e2 : 192 + k / 64 < 224 := by omega
        have e3 : (192 + k / 64) % 32 * 64 + (128 + k % 64) % 64 = k := by omega
        unfold gss
        rw [if_neg (by decide), if_pos rfl, if_neg (show ¬ nth ([192 + k / 64, 128 + k % 64] ++ rest) 0 < 128 from e1), if_pos (show 2 ≤ ([192 + k / 64, 128 + k % 64] ++ rest).length ∧ nth ([192 + k / 64, 128 + k % 64] ++ rest) 0 < 224 from ⟨by simp, e2⟩)]
        exact Prod.ext e3 rfl
      · rw [u8L_three h1 h2]
        have e1 : ¬ 224 + k / 4096 < 128 := by omega
        have e2 : ¬ 224 + k / 4096 < 224 := by omega
        have e3 : (224 + k / 4096) % 16 * 4096 + (128 + k / 64 % 64) % 64 * 64 + (128 + k % 64) % 64 = k := by omega
        unfold gss
        rw [if_neg (by decide), if_pos rfl, if_neg (show ¬ nth ([224 + k / 4096, 128 + k / 64 % 64, 128 + k % 64] ++ rest) 0 < 128 from e1), if_neg (show ¬ (2 ≤ ([224 + k / 4096, 128 + k / 64 % 64, 128 + k % 64] ++ rest).length ∧ nth ([224 + k / 4096, 128 + k / 64 % 64, 128 + k % 64] ++ rest) 0 < 224) from fun h => e2 h.2), if_pos (show 3 ≤ ([224 + k / 4096, 128 + k / 64 % 64, 128 + k % 64] ++ rest).length by simp)]
        exact Prod.ext e3 rfl
  · rw [tellL_5]
    have e3 : c.toNat / 256 * 256 + c.toNat % 256 = c.toNat := by omega
    simp [gss, nth, e3]
theorem rdC_tell {cs c : Int} (hcs : 1 ≤ cs ∧ cs ≤ 5) (hch : chr c = true) (hh : hasC cs c = true) (rest : List Nat) : rdC cs (tellL cs c ++ rest) = (c.toNat, (tellL cs c).length) := by
  have hg := gss_tell hcs hch hh rest
  have h0 : ((c.toNat : Nat) : Int) = c := Int.toNat_of_nonneg (chr_iff.1 hch).1
  have hlen := (tellL_len cs c).1
  rw [rdC_yes (by rw [hg]; simp only; omega) (by rw [hg]; simp only; rw [h0]; exact hch) (by rw [hg]; simp only; rw [h0]; exact hh) (by rw [hg]; simp only; rw [h0, List.take_left]), hg]
theorem decL_tell {cs : Int} (hcs : 1 ≤ cs ∧ cs ≤ 5) : ∀ u : List Int, (∀ x ∈ u, chr x = true) → (∀ x ∈ u, hasC cs x = true) → decL cs (u.flatMap (tellL cs)) = some u
  | [], _, _ => decL_nil rfl
  | c :: u, h1, h2 => by
    have hc := h1 c (List.mem_cons_self ..)
    have hh := h2 c (List.mem_cons_self ..)
    have hlen := (tellL_len cs c).1
    rw [List.flatMap_cons, decL_step (by rw [List.length_append]; omega) (by omega) (rdC_tell hcs hc hh _), List.drop_left, decL_tell hcs u (fun x hx => h1 x (List.mem_cons_of_mem _ hx)) (fun x hx => h2 x (List.mem_cons_of_mem _ hx))]
    simp [Int.toNat_of_nonneg (chr_iff.1 hc).1]
theorem decL_told {cs : Int} : ∀ (n : Nat) (l : List Nat) (u : List Int), l.length ≤ n → decL cs l = some u → u.flatMap (tellL cs) = l ∧ (∀ x ∈ u, chr x = true) ∧ (∀ x ∈ u, hasC cs x = true) := by
  intro n
  induction n with
  | zero =>
    intro l u hl h
    have hl0 : l = [] := List.length_eq_zero_iff.1 (by omega)
    subst hl0
    rw [decL_nil rfl] at h
    cases h
    exact ⟨rfl, fun x hx => by simp at hx, fun x hx => by simp at hx⟩
  | succ n ih =>
    intro l u hl h
    by_cases h0 : l.length = 0
    · have hl0 : l = [] := List.length_eq_zero_iff.1 h0
      subst hl0
      rw [decL_nil rfl] at h
      cases h
      exact ⟨rfl, fun x hx => by simp at hx, fun x hx => by simp at hx⟩
    · by_cases hs : (rdC cs l).2 = 0
      · rw [decL_none (by omega) hs] at h; cases h
      · have hr : (gss cs l).2 ≠ 0 ∧ chr ((gss cs l).1 : Int) = true ∧ hasC cs ((gss cs l).1 : Int) = true ∧ tellL cs ((gss cs l).1 : Int) = l.take (gss cs l).2 ∧ rdC cs l = gss cs l := by
          unfold rdC at hs
          split at hs
          · exact absurd rfl hs
          · rename_i hn
            have n1 : (gss cs l).2 ≠ 0 := fun e => hn (.inl e)
            have n2 : chr ((gss cs l).1 : Int) = true := by
              cases hx : chr ((gss cs l).1 : Int)
              · exact absurd (.inr (.inl hx)) hn
              · rfl
            have n3 : hasC cs ((gss cs l).1 : Int) = true := by
              cases hx : hasC cs ((gss cs l).1 : Int)
              · exact absurd (.inr (.inr (.inl hx))) hn
              · rfl
            have n4 : tellL cs ((gss cs l).1 : Int) = l.take (gss cs l).2 := by
              by_cases hx : tellL cs ((gss cs l).1 : Int) = l.take (gss cs l).2
              · exact hx
              · exact absurd (.inr (.inr (.inr hx))) hn
            exact ⟨n1, n2, n3, n4, rdC_yes n1 n2 n3 n4⟩
        obtain ⟨n1, n2, n3, n4, n5⟩ := hr
        rw [decL_step (c := (gss cs l).1) (s := (gss cs l).2) (by omega) n1 n5] at h
        cases hd : decL cs (l.drop (gss cs l).2) with
        | none => rw [hd] at h; cases h
        | some v =>
          rw [hd] at h
          simp only [Option.map_some, Option.some.injEq] at h
          subst h
          obtain ⟨e1, e2, e3⟩ := ih _ _ (by rw [List.length_drop]; omega) hd
          refine ⟨?_, ?_, ?_⟩
          · rw [List.flatMap_cons, e1, n4, List.take_append_drop]
          · intro x hx
            rcases List.mem_cons.1 hx with rfl | hx
            · exact n2
            · exact e2 x hx
          · intro x hx
            rcases List.mem_cons.1 hx with rfl | hx
            · exact n3
            · exact e3 x hx

/-- What was read is told so again. -/
theorem enc_dec {cs : Int} {l : List Nat} {u : List Int} (h : decT cs l = (0, u)) : encT cs u = (0, l) := by
  unfold decT at h
  split at h
  · rename_i hcs
    split at h
    · cases h
    · rename_i h4
      cases hd : decL cs l with
      | none => rw [hd] at h; cases h
      | some v =>
        rw [hd] at h
        simp only [Prod.mk.injEq, true_and] at h
        subst h
        obtain ⟨e1, e2, e3⟩ := decL_told l.length l v (Nat.le_refl _) hd
        have hlen := decL_len cs l.length l v (Nat.le_refl _) hd
        rw [encT_ok hcs (flt_ok (by omega) (List.all_eq_true.2 e2)), encV_ok (List.all_eq_true.2 e3) (by rw [e1]; exact h4), e1]
  · cases h
/-- What was told is read back; and all of it is there. -/
theorem dec_enc {cs : Int} {u : List Int} {l : List Nat} (h : encT cs u = (0, l)) : decT cs l = (0, u) ∧ flt u = 0 ∧ u.all (hasV cs) = true ∧ IsB l := by
  unfold encT at h
  split at h
  · rename_i hcs
    split at h
    · rename_i hf
      obtain ⟨h4, hch⟩ := flt_zero hf
      have hE := h
      unfold encV at h
      split at h
      · rename_i ha
        split at h
        · cases h
        · rename_i hn
          simp only [Prod.mk.injEq, true_and] at h
          refine ⟨?_, hf, ?_, ?_⟩
          · rw [← h]
            exact decT_ok hcs hn (decL_tell hcs u hch (fun x hx => List.all_eq_true.1 ha x hx))
          · rw [List.all_eq_true]
            intro x hx
            unfold hasV
            rw [decide_eq_true hcs, hch x hx, List.all_eq_true.1 ha x hx]
            rfl
          · have := encV_isB (l := u) hcs hch
            rw [hE] at this
            exact this
      · cases h
    · rename_i hf
      exact absurd (Prod.mk.inj h).1 hf
  · cases h
/-- Where a character is lacking not all are there. -/
theorem enc_lacks {cs : Int} {u : List Int} {l : List Nat} (h : encT cs u = (8, l)) : u.all (hasV cs) = false := by
  unfold encT at h
  split at h
  · rename_i hcs
    split at h
    · rename_i hf
      obtain ⟨h4, hch⟩ := flt_zero hf
      unfold encV at h
      split at h
      · split at h <;> cases h
      · rename_i ha
        have ha' : u.all (hasC cs) = false := by cases hx : u.all (hasC cs); rfl; exact absurd hx ha
        rw [List.all_eq_false] at ha' ⊢
        obtain ⟨x, hx, hn⟩ := ha'
        refine ⟨x, hx, fun hv => hn ?_⟩
        unfold hasV at hv
        simp only [Bool.and_eq_true] at hv
        exact hv.2
    · rename_i hf
      have := (Prod.mk.inj h).1
      rcases flt_cases u with h' | h' | h' <;> omega
  · cases h
theorem encT_codes (cs : Int) (u : List Int) : (encT cs u).1 = 0 ∨ (encT cs u).1 ≠ 0 ∧ (encT cs u).2 = [] := by
  unfold encT
  split
  · split
    · unfold encV
      split
      · split
        · exact .inr ⟨by decide, rfl⟩
        · exact .inl rfl
      · exact .inr ⟨by decide, rfl⟩
    · exact .inr ⟨by assumption, rfl⟩
  · exact .inr ⟨by decide, rfl⟩
theorem decT_codes (cs : Int) (l : List Nat) : (decT cs l).1 = 0 ∨ (decT cs l).1 ≠ 0 ∧ (decT cs l).2 = [] := by
  unfold decT
  split
  · split
    · exact .inr ⟨by decide, rfl⟩
    · cases decL cs l with
      | none => exact .inr ⟨by decide, rfl⟩
      | some v => exact .inl rfl
  · exact .inr ⟨by decide, rfl⟩
end Go.Proofs.YtknbndebfickpaaDoor
