/- Words that were told are read back; what is read is of characters: plain functions, with no program in them. -/
import Derived.Test.YtknbndebfickpaaGreatDoorWrd6
import Derived.Test.YtknbndebfickpaaGreatDoorWpE
import Derived.Test.YtknbndebfickpaaGreatDoorEwM
namespace Go.Proofs.YtknbndebfickpaaGreatDoor
open Go.RowKit

theorem cuV_chr (v : List Nat) : chr (cuV v).1 = true := by
  by_cases h : (rdC 4 v).2 = 0
  · rw [cuV_no h]; decide
  · rw [cuV_yes h]
    unfold rdC at h ⊢
    split at h
    · exact absurd rfl h
    · rename_i hn
      rw [if_neg hn]
      cases hx : chr ((gss 4 v).1 : Int)
      · exact absurd (.inr (.inl hx)) hn
      · rfl
theorem words_chr : ∀ (f : Nat) (b : Bool) (v : List Nat), ∀ x ∈ wdsM wdV cuV f b v, chr x = true := by
  intro f
  induction f with
  | zero => intro b v x hx; cases hx
  | succ f ih =>
    intro b v x hx
    by_cases hv : v.length = 0
    · rw [wdsM_nil hv] at hx; cases hx
    · cases hw : wdV (skp wdV b v) with
      | some r =>
        rw [wdsM_word hv hw] at hx
        obtain ⟨_, _, bs, _, hd, _⟩ := wdV_some hw
        rcases List.mem_append.1 hx with h | h
        · exact (decL_told bs.length bs r.1 (Nat.le_refl _) hd).2.1 x h
        · exact ih _ _ x h
      | none =>
        rw [wdsM_char hv hw] at hx
        rcases List.mem_cons.1 hx with h | h
        · rw [h]; exact cuV_chr _
        · exact ih _ _ x h
/-- What DecodeWords answers without a code has no fault. -/
theorem dw_fault (t : List Nat) (hB : IsB t) (h : (dwV t).1 = 0) : flt (dwV t).2 = 0 := by
  by_cases h4 : 400 < t.length
  · rw [dwV_many h4] at h; cases h
  · rw [dwV_ok h4]
    have := words_few t hB t.length false
    refine flt_ok (by show ¬ 400 < (wdsM wdV cuV t.length false t).length; omega) ?_
    exact List.all_eq_true.2 (fun x hx => words_chr _ _ _ x hx)
theorem enc_noQu : ∀ l : List Nat, IsB l → (Xf.enc l).all noQu = true
  | [], _ => rfl
  | [a], h => by
    have ha := h a (by simp)
    have d : ∀ v, v < 64 → noQu (Xf.dig v) = true := by decide
    rw [Xf.enc, List.all_cons, List.all_cons, d _ (by omega), d _ (by omega)]; rfl
  | [a, b], h => by
    have ha := h a (by simp)
    have hb := h b (by simp)
    have d : ∀ v, v < 64 → noQu (Xf.dig v) = true := by decide
    rw [Xf.enc, List.all_cons, List.all_cons, List.all_cons, d _ (by omega), d _ (by omega), d _ (by omega)]; rfl
  | a :: b :: c :: r, h => by
    have ha := h a (by simp)
    have hb := h b (by simp)
    have hc := h c (by simp)
    have d : ∀ v, v < 64 → noQu (Xf.dig v) = true := by decide
    rw [Xf.enc, List.all_cons, List.all_cons, List.all_cons, List.all_cons, d _ (by omega), d _ (by omega), d _ (by omega), d _ (by omega), enc_noQu r (fun x hx => h x (by simp [hx]))]; rfl
theorem csI_utf8 : csI (str (([117, 116, 102, 45, 56] : List Nat).map low)) = 4 := by kernel_rfl
/-- One told word, read back. -/
theorem wd_told (l : List Int) (o : List Nat) (ho : IsB o) (hd : decL 4 o = some l) : wdV (toldW o) = some (l, (toldW o).length) := by
  have hv : toldW o = 61 :: 63 :: ([117, 116, 102, 45, 56] ++ 63 :: (66 :: 63 :: (Xf.enc o ++ 63 :: (61 :: [])))) := by
    unfold toldW twB
    simp
  obtain ⟨hA, hZ, hf, hq1, hqc, hq3, hlen⟩ := wd_form [117, 116, 102, 45, 56] (Xf.enc o) [] 66 (by decide) (enc_noQu o ho) (toldW o) hv
  have hc : wdC (toldW o) = 4 := by unfold wdC; rw [hq1]; exact csI_utf8
  have hb : wdB (toldW o) = some o := by unfold wdB; rw [hqc, hq3, toldV_b (.inl rfl)]; exact Xf.dec_enc o ho
  rw [wdV_dec hf (by rw [hc]; decide) hb, hc, hd, hlen]
  rfl
theorem no_eqq {v : List Nat} (h : eqq v = false) (k : Nat) : ¬ (nth v k = 61 ∧ nth v (k + 1) = 63) := fun e => by
  have := (eqq_iff v).2 ⟨k, e⟩
  rw [h] at this; cases this
theorem wd_none {v : List Nat} (h : eqq v = false) (k : Nat) : wdV (v.drop k) = none := by
  refine wdV_form (fun hf => ?_)
  have := (wdF_at v k).1 hf
  exact no_eqq h k ⟨this.1, this.2.1⟩
theorem eqq_drop {v : List Nat} (h : eqq v = false) (k : Nat) : eqq (v.drop k) = false := by
  cases e : eqq (v.drop k) with
  | false => rfl
  | true =>
    obtain ⟨j, h1, h2⟩ := (eqq_iff _).1 e
    rw [nth_drop] at h1 h2
    exact absurd ⟨h1, h2⟩ (no_eqq h (k + j))
/-- A text without told words is read as it stands. -/
theorem wds_self : ∀ (f : Nat) (b : Bool) (v : List Nat), v.length ≤ f → v.all bosB = true → eqq v = false → wdsM wdV cuV f b v = asI v
  | 0, _, v, h, _, _ => by
    have : v = [] := List.eq_nil_of_length_eq_zero (by omega)
    subst this; rfl
  | f + 1, b, v, h, ha, he => by
    match v, h, ha, he with
    | [], _, _, _ => exact wdsM_nil rfl
    | c :: r, h, ha, he =>
      have hs : skp wdV b (c :: r) = c :: r := skp_no (fun hx => by rw [wd_none he] at hx; cases hx.2.2)
      have h0 : wdV (c :: r) = none := wd_none (k := 0) he
      rw [List.all_cons, Bool.and_eq_true] at ha
      have hc := of_decide_eq_true ha.1
      have e := rdC_4_one (l := c :: r) (by simp) (by show c < 128; omega)
      have hcu : cuV (c :: r) = ((c : Int), 1) := by rw [cuV_yes (by rw [e]; simp), e]; rfl
      rw [wdsM_char (by simp) (by rw [hs]; exact h0), hs, hcu]
      have ih := wds_self f false r (by rw [List.length_cons] at h; omega) ha.2 (eqq_drop he 1)
      show (c : Int) :: wdsM wdV cuV f false r = asI (c :: r)
      rw [ih]; rfl
theorem asI_back : ∀ l : List Int, l.all slfB = true → asI (l.map Int.toNat) = l
  | [], _ => rfl
  | c :: l, h => by
    rw [List.all_cons, Bool.and_eq_true] at h
    have hc := of_decide_eq_true h.1
    have ih := asI_back l h.2
    show ((c.toNat : Nat) : Int) :: asI (l.map Int.toNat) = c :: l
    rw [ih, Int.toNat_of_nonneg (by omega)]
/-- What EncodeWords tells, DecodeWords reads. -/
theorem dw_ew (l : List Int) (h : (ewV l).1 = 0) : dwV (ewV l).2 = (0, l) := by
  by_cases hz : (encT 4 l).1 = 0
  · obtain ⟨hf, he, hlen⟩ := encT_zero hz
    have hch := (flt_zero hf).2
    cases hs : sfV l with
    | true =>
      rw [ewV_self hz hs]
      have hs' := hs
      rw [sfV_eq, Bool.and_eq_true, Bool.not_eq_true'] at hs'
      have ht : (encT 4 l).2 = l.map Int.toNat := by rw [he, flat_self l hs'.1]
      rw [dwV_ok (by show ¬ 400 < (encT 4 l).2.length; omega)]
      simp only
      rw [ht]
      have hb : (l.map Int.toNat).all bosB = true := by
        rw [← flat_self l hs'.1, flat_bos l hch]; exact hs'.1
      rw [wds_self _ _ _ (Nat.le_refl _) hb hs'.2, asI_back l hs'.1]
    | false =>
      by_cases h4 : 400 < (toldW (encT 4 l).2).length
      · rw [ewV_many hz hs h4] at h; cases h
      · rw [ewV_told hz hs h4]
        have hB := encT_isB hz
        have hd : decL 4 (encT 4 l).2 = some l := by
          rw [he]; exact decL_tell (by decide) l hch (fun x _ => by rw [hasC_4]; rfl)
        generalize (encT 4 l).2 = o at *
        have hw := wd_told l o hB hd
        have hl := toldW_len o
        rw [dwV_ok h4]
        obtain ⟨n, hn⟩ : ∃ n, (toldW o).length = n + 1 := ⟨(toldW o).length - 1, by omega⟩
        rw [hn, wdsM_word (by omega) (by rw [skp_false]; exact hw), wdsM_nil (by rw [skp_false, List.length_drop]; omega), List.append_nil]
  · rw [ewV_bad hz] at h; exact absurd h hz
end Go.Proofs.YtknbndebfickpaaGreatDoor
