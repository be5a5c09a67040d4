/- What kind of part a value tells, the program's: by the same plain function as the model's. -/
import Derived.Test.YtaefomiofoakhaaGreatDoorFdoToTyp4
namespace Go.Proofs.YtaefomiofoakhaaGreatDoor
open Go.RowKit

set_option maxHeartbeats 1600000 in
set_option maxRecDepth 100000 in
theorem specTypeOf_any (t : List Nat) (n : Nat) (w : World) (hl : t.length = n) (hB : IsB t) (hn : n ≤ 1048576) : Calls Tryz.prog 12 #[.string (str t)] w fun e w' => e = .returned (ptV (tyV t)) ∧ Below w.heap.size w w' := by
  have hb0 : Below w.heap.size w (w.alloc (.cells #[.int .i64 0, .int .i64 0, .int .i64 0, .int .i64 0, .int .i64 0, .int .i64 0, .int .i64 0] 30)) := (Below.refl _ _).alloc (Nat.le_refl _) _
  have hsW : (w.alloc (.cells #[.int .i64 0, .int .i64 0, .int .i64 0, .int .i64 0, .int .i64 0, .int .i64 0, .int .i64 0] 30)).heap.size = w.heap.size + 1 := by simp
  have HP := l5Type_any t n (w.alloc (.cells #[.int .i64 0, .int .i64 0, .int .i64 0, .int .i64 0, .int .i64 0, .int .i64 0, .int .i64 0] 30)) hl hB hn
  generalize tyV t = r at *
  obtain ⟨k, c⟩ := r
  unfold ptV at *
  simp only at HP
  go_enter Tryz.func12, Tryz.ntmps12
  go_wp2_with fail
  refine HP.mono ?_
  rintro e w1 ⟨rfl, hb1⟩
  have hbl : Below (w.heap.size + 1) (w.alloc (.cells #[.int .i64 0, .int .i64 0, .int .i64 0, .int .i64 0, .int .i64 0, .int .i64 0, .int .i64 0] 30)) w1 := hb1.mono (by simp)
  clear HP hb1
  generalize hW : w.alloc (.cells #[.int .i64 0, .int .i64 0, .int .i64 0, .int .i64 0, .int .i64 0, .int .i64 0, .int .i64 0] 30) = W at *
  have hbw := hb0.trans (hbl.mono (by omega))
  obtain ⟨⟨hc0, hc1, hc2, hc3, hc4, hc5, hc6⟩, ⟨hf0, hf1, hf2, hf3, hf4, hf5, hf6⟩⟩ := res_block7 hW hbl
  obtain ⟨hk0, hk1, hk2, hk3, hk4, hk5, hk6⟩ := res_cells7 ⟨hc0, hc1, hc2, hc3, hc4, hc5, hc6⟩ (.int .i64 k) (.int .i64 c) (.int .i64 0) (.int .i64 0) (.int .i64 0) (.int .i64 0) (.int .i64 0)
  go_wp2
  refine bodyPost_ret (v := .agg #[.int .i64 k, .int .i64 c, .int .i64 0, .int .i64 0, .int .i64 0, .int .i64 0, .int .i64 0]) (by simp [results, Tryz.results12, go_sem, hk0, hk1, hk2, hk3, hk4, hk5, hk6]) rfl ?_
  exact ⟨rfl, below_sets7 hbw _ _ _ _ _ _ _⟩

theorem RdS.oneT {w : World} {b off : Nat} {p : List Nat} {l : List (List Nat)} (h : RdS w (some ⟨b, off, none⟩) (p :: l)) : RdS w (some ⟨b, off + 1, none⟩) l := h.drop 1

set_option maxHeartbeats 3200000 in
set_option maxRecDepth 100000 in
theorem typeOf_any (t : List Nat) (w : World) (hB : IsB t) (hn : t.length ≤ 1048576) (ht : TabC w) : Calls Tryz.prog 11 #[.string (str t)] w fun e w' => e = .returned (ptV (tyV t)) ∧ Below w.heap.size w w' := by
  have hb0 : Below w.heap.size w (w.alloc (.cells #[.int .i64 0, .int .i64 0, .int .i64 0, .int .i64 0, .int .i64 0, .int .i64 0, .int .i64 0] 30)) := (Below.refl _ _).alloc (Nat.le_refl _) _
  have hsW : (w.alloc (.cells #[.int .i64 0, .int .i64 0, .int .i64 0, .int .i64 0, .int .i64 0, .int .i64 0, .int .i64 0] 30)).heap.size = w.heap.size + 1 := by simp
  have HP := piecesOf_any t (w.alloc (.cells #[.int .i64 0, .int .i64 0, .int .i64 0, .int .i64 0, .int .i64 0, .int .i64 0, .int .i64 0] 30)) hB hn
  have hpl := pcs_len t
  have hpi := pcs_in hB
  have HN : Hid (pcs t = [] → tyV t = (3, 0)) := tyV_nil
  have HM2 : Hid (∀ p l, pcs t = p :: l → bgN p wMulti = true → tyV t = (2, 0)) := fun p l h h1 => tyV_multi h h1
  have HT2 : Hid (∀ p l, pcs t = p :: l → bgN p wText = true → tyV t = (1, chN l)) := fun p l h h2 => tyV_text h (tm_apart h2) h2
  have HE2 : Hid (∀ p l, pcs t = p :: l → bgN p wMulti = false → bgN p wText = false → tyV t = (3, 0)) := fun p l h h1 h2 => tyV_else h h1 h2
  have HOK : Hid (PcOk (pcs t)) := fun p hp => ⟨(hpi p hp).1, by have := (hpi p hp).2; omega⟩
  have hpn : (pcs t).length ≤ 1048576 := by omega
  generalize tyV t = r at *
  generalize pcs t = ps at *
  clear hpi hB hpl hn
  have ht0 := ht.below hb0
  go_enter Tryz.func11, Tryz.ntmps11
  go_wp2_with fail
  refine HP.mono ?_
  rintro e w1 ⟨v, rfl, hown, hb1⟩
  obtain ⟨a, cap, rfl, hcap, -⟩ := hown.form
  have hrd := hown.rd.2
  have hbl : Below (w.heap.size + 1) (w.alloc (.cells #[.int .i64 0, .int .i64 0, .int .i64 0, .int .i64 0, .int .i64 0, .int .i64 0, .int .i64 0] 30)) w1 := hb1.mono (by simp)
  have ht1 := ht0.below hb1
  clear HP hb1 hown
  generalize hW : w.alloc (.cells #[.int .i64 0, .int .i64 0, .int .i64 0, .int .i64 0, .int .i64 0, .int .i64 0, .int .i64 0] 30) = W at *
  have hbw := hb0.trans (hbl.mono (by omega))
  obtain ⟨⟨hc0, hc1, hc2, hc3, hc4, hc5, hc6⟩, ⟨hf0, hf1, hf2, hf3, hf4, hf5, hf6⟩⟩ := res_block7 hW hbl
  cases ps with
  | nil =>
    have HM : Hid (_) := HN.out rfl
    clear HN HM2 HT2 HE2 HOK hrd
    obtain ⟨hk0, hk1, hk2, hk3, hk4, hk5, hk6⟩ := res_cells7 ⟨hc0, hc1, hc2, hc3, hc4, hc5, hc6⟩ (.int .i64 3) (.int .i64 0) (.int .i64 0) (.int .i64 0) (.int .i64 0) (.int .i64 0) (.int .i64 0)
    go_wp2
    refine bodyPost_ret (v := .agg #[.int .i64 3, .int .i64 0, .int .i64 0, .int .i64 0, .int .i64 0, .int .i64 0, .int .i64 0]) (by simp [results, Tryz.results11, go_sem, hk0, hk1, hk2, hk3, hk4, hk5, hk6]) rfl ?_
    exact ⟨by rw [HM.out]; rfl, below_sets7 hbw _ _ _ _ _ _ _⟩
  | cons p l =>
    obtain ⟨b, off, rfl, hblt, hcell⟩ := hrd.at_ (by simp)
    have hcp : w1.cell? ⟨b, off, none⟩ = some (.string (str p)) := hcell 0 (by simp)
    have hp1 := HOK.out p (by simp)
    have hne : ((((p :: l).length : Nat) : Int) == 0) = false := by simp only [List.length_cons, beq_eq_false_iff_ne, ne_eq]; omega
    have hlt0 : (0 : Int) < (((p :: l).length : Nat) : Int) := by simp only [List.length_cons]; omega
    have HSm : Hid (∀ w, Calls Tryz.prog 22 #[.string (str p)] w fun e w' => e = .returned (.string (str (p.map low))) ∧ Below w.heap.size w w') := fun w => smallLetters_any p _ w rfl hp1.1 hp1.2
    have HMul : Hid (∀ w, Calls Tryz.prog 23 #[.string (str (p.map low)), .string ⟨#[109, 117, 108, 116, 105, 112, 97, 114, 116, 47]⟩] w fun e w' => e = .returned (.bool (bgN p wMulti)) ∧ w' = w) := fun w => hasPrefix_bg p wMulti w hp1.1 (by unfold wMulti IsB; decide)
    have HTx : Hid (∀ w, Calls Tryz.prog 23 #[.string (str (p.map low)), .string ⟨#[116, 101, 120, 116, 47]⟩] w fun e w' => e = .returned (.bool (bgN p wText)) ∧ w' = w) := fun w => hasPrefix_bg p wText w hp1.1 (by unfold wText IsB; decide)
    have HCh : Hid (∀ a cap w, RdS w a l → TabC w → Calls Tryz.prog 24 #[.slice a l.length cap] w fun e w' => e = .returned (.int .i64 (chN l)) ∧ Below w.heap.size w w') := fun a cap w hr htw => charsetIn_any a _ cap l w rfl hr (by have h := hpn; rw [List.length_cons] at h; omega) (fun q hq => HOK.out q (by simp [hq])) htw
    have HM2' : Hid (_) := HM2.out p l rfl
    have HT2' : Hid (_) := HT2.out p l rfl
    have HE2' : Hid (_) := HE2.out p l rfl
    have hcap1 : l.length + 1 ≤ cap := hcap
    clear HN HM2 HT2 HE2 HOK hcell
    generalize bgN p wMulti = qm at *
    generalize bgN p wText = qt at *
    generalize chN l = ch at *
    generalize p.map low = pl at *
    go_wp2_with fail
    refine (HSm.out _).mono ?_
    rintro e w2 ⟨rfl, hb2⟩
    have hrd2 := hrd.below hb2
    have ht2 := ht1.below hb2
    have hz2 := hbl.size
    rw [hsW] at hz2
    have hbl2 := hbl.trans (hb2.mono hz2)
    have hbw2 := hb0.trans (hbl2.mono (by omega))
    have hbz2 := hb2.size
    clear hc0 hc1 hc2 hc3 hc4 hc5 hc6 hf0 hf1 hf2 hf3 hf4 hf5 hf6 hbw hcp hrd HSm hb2
    obtain ⟨⟨hc0, hc1, hc2, hc3, hc4, hc5, hc6⟩, ⟨hf0, hf1, hf2, hf3, hf4, hf5, hf6⟩⟩ := res_block7 hW hbl2
    go_wp2_with fail
    refine (HTx.out _).mono ?_
    rintro e w2' ⟨rfl, rfl⟩
    clear HTx
    cases qt with
    | true =>
      have HM : Hid (_) := HT2'.out rfl
      clear HM2' HT2' HE2' HMul hc0 hc1 hc2 hc3 hc4 hc5 hc6 hf0 hf1 hf2 hf3 hf4 hf5 hf6
      have hl1 : (1 : Int) ≤ ((l.length + 1 : Nat) : Int) := by omega
      have hl2 : (1 : Int) ≤ (cap : Int) := by omega
      have hl3 : (1 : Int) ≤ (l.length : Int) + 1 := by omega
      by_cases hc1 : cap = 1
      · subst hc1
        have hl0 : l = [] := List.eq_nil_of_length_eq_zero (by omega)
        subst hl0
        have HC := HCh.out (some ⟨b, off, none⟩) 0 w2' (.inl rfl) ht2
        clear HCh
        go_wp2_with fail
        refine HC.mono ?_
        rintro e w3 ⟨rfl, hb3⟩
        have hz3 := hbl2.size
        rw [hsW] at hz3
        have hbl3 := hbl2.trans (hb3.mono hz3)
        have hbw3 := hb0.trans (hbl3.mono (by omega))
        obtain ⟨⟨hc0, hc1, hc2, hc3, hc4, hc5, hc6⟩, ⟨hf0, hf1, hf2, hf3, hf4, hf5, hf6⟩⟩ := res_block7 hW hbl3
        clear HC hb3
        obtain ⟨hk0, hk1, hk2, hk3, hk4, hk5, hk6⟩ := res_cells7 ⟨hc0, hc1, hc2, hc3, hc4, hc5, hc6⟩ (.int .i64 1) (.int .i64 ch) (.int .i64 0) (.int .i64 0) (.int .i64 0) (.int .i64 0) (.int .i64 0)
        go_wp2
        refine bodyPost_ret (v := .agg #[.int .i64 1, .int .i64 ch, .int .i64 0, .int .i64 0, .int .i64 0, .int .i64 0, .int .i64 0]) (by simp [results, Tryz.results11, go_sem, hk0, hk1, hk2, hk3, hk4, hk5, hk6]) rfl ?_
        exact ⟨by rw [HM.out]; rfl, below_sets7 hbw3 _ _ _ _ _ _ _⟩
      · have HC := HCh.out (some ⟨b, off + 1, none⟩) (cap - 1) w2' hrd2.oneT ht2
        clear HCh
        go_wp2_with fail
        refine HC.mono ?_
        rintro e w3 ⟨rfl, hb3⟩
        have hz3 := hbl2.size
        rw [hsW] at hz3
        have hbl3 := hbl2.trans (hb3.mono hz3)
        have hbw3 := hb0.trans (hbl3.mono (by omega))
        obtain ⟨⟨hc0, hc1, hc2, hc3, hc4, hc5, hc6⟩, ⟨hf0, hf1, hf2, hf3, hf4, hf5, hf6⟩⟩ := res_block7 hW hbl3
        clear HC hb3
        obtain ⟨hk0, hk1, hk2, hk3, hk4, hk5, hk6⟩ := res_cells7 ⟨hc0, hc1, hc2, hc3, hc4, hc5, hc6⟩ (.int .i64 1) (.int .i64 ch) (.int .i64 0) (.int .i64 0) (.int .i64 0) (.int .i64 0) (.int .i64 0)
        go_wp2
        refine bodyPost_ret (v := .agg #[.int .i64 1, .int .i64 ch, .int .i64 0, .int .i64 0, .int .i64 0, .int .i64 0, .int .i64 0]) (by simp [results, Tryz.results11, go_sem, hk0, hk1, hk2, hk3, hk4, hk5, hk6]) rfl ?_
        exact ⟨by rw [HM.out]; rfl, below_sets7 hbw3 _ _ _ _ _ _ _⟩
    | false =>
      clear HCh HT2'
      go_wp2_with fail
      refine (HMul.out _).mono ?_
      rintro e w3 ⟨rfl, rfl⟩
      clear HMul
      cases qm with
      | true =>
        have HM : Hid (_) := HM2'.out rfl
        clear HM2' HE2'
        obtain ⟨hk0, hk1, hk2, hk3, hk4, hk5, hk6⟩ := res_cells7 ⟨hc0, hc1, hc2, hc3, hc4, hc5, hc6⟩ (.int .i64 2) (.int .i64 0) (.int .i64 0) (.int .i64 0) (.int .i64 0) (.int .i64 0) (.int .i64 0)
        go_wp2
        refine bodyPost_ret (v := .agg #[.int .i64 2, .int .i64 0, .int .i64 0, .int .i64 0, .int .i64 0, .int .i64 0, .int .i64 0]) (by simp [results, Tryz.results11, go_sem, hk0, hk1, hk2, hk3, hk4, hk5, hk6]) rfl ?_
        exact ⟨by rw [HM.out]; rfl, below_sets7 hbw2 _ _ _ _ _ _ _⟩
      | false =>
        have HM : Hid (_) := HE2'.out rfl (by first | rfl | trivial)
        clear HM2' HE2'
        obtain ⟨hk0, hk1, hk2, hk3, hk4, hk5, hk6⟩ := res_cells7 ⟨hc0, hc1, hc2, hc3, hc4, hc5, hc6⟩ (.int .i64 3) (.int .i64 0) (.int .i64 0) (.int .i64 0) (.int .i64 0) (.int .i64 0) (.int .i64 0)
        go_wp2
        refine bodyPost_ret (v := .agg #[.int .i64 3, .int .i64 0, .int .i64 0, .int .i64 0, .int .i64 0, .int .i64 0, .int .i64 0]) (by simp [results, Tryz.results11, go_sem, hk0, hk1, hk2, hk3, hk4, hk5, hk6]) rfl ?_
        exact ⟨by rw [HM.out]; rfl, below_sets7 hbw2 _ _ _ _ _ _ _⟩


end Go.Proofs.YtaefomiofoakhaaGreatDoor
