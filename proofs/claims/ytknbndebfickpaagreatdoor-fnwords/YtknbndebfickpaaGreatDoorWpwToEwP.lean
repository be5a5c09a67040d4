/- DecodeWords: what both answer · Words that were told are read back; what is read is of characters: plain functions, with no program in them · EncodeWords, the model's, at every slice of characters · DrawEncodeWords: some numbers of memory of the draw's own; sources of at most 1048576 bytes · What EncodeWords tells: plain, of 400 bytes at most: plain functions, with no program in them. -/
import Derived.Test.YtknbndebfickpaaGreatDoorWpv
import Derived.Test.YtknbndebfickpaaGreatDoorWrd6
import Derived.Test.YtknbndebfickpaaGreatDoorWpEToFld
import Derived.Test.YtknbndebfickpaaGreatDoorEwMToWpm
import Derived.Test.YtknbndebfickpaaGreatDoorEwp
import Derived.Test.YtknbndebfickpaaGreatDoorDec7ToDrl4
namespace Go.Proofs.YtknbndebfickpaaGreatDoor
open Go.RowKit

/-- The tables that the program reads. -/
structure Tabs (w : World) : Prop where
  c : TabC w
  b : TabB w
  h : TabH w
  m : MaxI w
theorem Tabs.below {w w' : World} (h : Tabs w) (hb : Below w.heap.size w w') : Tabs w' := ⟨h.c.below hb, h.b.below hb, h.h.below hb, h.m.below hb⟩
theorem bothWords (t : List Nat) (hB : IsB t) (hn : ¬ 1048576 < t.length) : ∃ (c : Int) (l : List Int), l.length ≤ 1048576 ∧
    (∀ w, Calls Tryz.prog 7 #[.string (str t)] w fun e w' => ∃ v, e = .returned (.agg #[.int .i64 c, v]) ∧ OwnI w' w.heap.size v l ∧ Below w.heap.size w w') ∧
    (∀ w, Tabs w → Calls Tryz.prog 6 #[.string (str t)] w fun e w' => ∃ v, e = .returned (.agg #[.int .i64 c, v]) ∧ OwnI w' w.heap.size v l ∧ Below w.heap.size w w') := by
  refine ⟨(dwV t).1, (dwV t).2, ?_, fun w => specDecodeWords_any t _ w rfl hB (by omega), fun w h => decodeWords_any t _ w rfl hB (by omega) h.c h.b h.h h.m⟩
  by_cases h : 400 < t.length
  · rw [dwV_many h]; exact Nat.zero_le _
  · rw [dwV_ok h]
    have := words_few t hB t.length false
    show (wdsM wdV cuV t.length false t).length ≤ _
    omega
end Go.Proofs.YtknbndebfickpaaGreatDoor

namespace Go.Proofs.YtknbndebfickpaaGreatDoor
open Go.RowKit

theorem cuV_chr (v : List Nat) : chr (cuV v).1 = true := by
  by_cases h : (rdC 4 v).2 = 0
  · rw [cuV_no h]; decide
  · rw [cuV_yes h]
    unfold rdC at h ⊢
    split at h
    · exact absurd rfl h
    · rename_i hn
      rw [if_neg hn]
      cases hx : chr ((gss 4 v).1 : Int)
      · exact absurd (.inr (.inl hx)) hn
      · rfl
theorem words_chr : ∀ (f : Nat) (b : Bool) (v : List Nat), ∀ x ∈ wdsM wdV cuV f b v, chr x = true := by
  intro f
  induction f with
  | zero => intro b v x hx; cases hx
  | succ f ih =>
    intro b v x hx
    by_cases hv : v.length = 0
    · rw [wdsM_nil hv] at hx; cases hx
    · cases hw : wdV (skp wdV b v) with
      | some r =>
        rw [wdsM_word hv hw] at hx
        obtain ⟨_, _, bs, _, hd, _⟩ := wdV_some hw
        rcases List.mem_append.1 hx with h | h
        · exact (decL_told bs.length bs r.1 (Nat.le_refl _) hd).2.1 x h
        · exact ih _ _ x h
      | none =>
        rw [wdsM_char hv hw] at hx
        rcases List.mem_cons.1 hx with h | h
        · rw [h]; exact cuV_chr _
        · exact ih _ _ x h
/-- What DecodeWords answers without a code has no fault. -/
theorem dw_fault (t : List Nat) (hB : IsB t) (h : (dwV t).1 = 0) : flt (dwV t).2 = 0 := by
  by_cases h4 : 400 < t.length
  · rw [dwV_many h4] at h; cases h
  · rw [dwV_ok h4]
    have := words_few t hB t.length false
    refine flt_ok (by show ¬ 400 < (wdsM wdV cuV t.length false t).length; omega) ?_
    exact List.all_eq_true.2 (fun x hx => words_chr _ _ _ x hx)
theorem enc_noQu : ∀ l : List Nat, IsB l → (Xf.enc l).all noQu = true
  | [], _ => rfl
  | [a], h => by
    have ha := h a (by simp)
    have d : ∀ v, v < 64 → noQu (Xf.dig v) = true := by decide
    rw [Xf.enc, List.all_cons, List.all_cons, d _ (by omega), d _ (by omega)]; rfl
  | [a, b], h => by
    have ha := h a (by simp)
    have hb := h b (by simp)
    have d : ∀ v, v < 64 → noQu (Xf.dig v) = true := by decide
    rw [Xf.enc, List.all_cons, List.all_cons, List.all_cons, d _ (by omega), d _ (by omega), d _ (by omega)]; rfl
  | a :: b :: c :: r, h => by
    have ha := h a (by simp)
    have hb := h b (by simp)
    have hc := h c (by simp)
    have d : ∀ v, v < 64 → noQu (Xf.dig v) = true := by decide
    rw [Xf.enc, List.all_cons, List.all_cons, List.all_cons, List.all_cons, d _ (by omega), d _ (by omega), d _ (by omega), d _ (by omega), enc_noQu r (fun x hx => h x (by simp [hx]))]; rfl
theorem csI_utf8 : csI (str (([117, 116, 102, 45, 56] : List Nat).map low)) = 4 := by kernel_rfl
/-- One told word, read back. -/
theorem wd_told (l : List Int) (o : List Nat) (ho : IsB o) (hd : decL 4 o = some l) : wdV (toldW o) = some (l, (toldW o).length) := by
  have hv : toldW o = 61 :: 63 :: ([117, 116, 102, 45, 56] ++ 63 :: (66 :: 63 :: (Xf.enc o ++ 63 :: (61 :: [])))) := by
    unfold toldW twB
    simp
  obtain ⟨hA, hZ, hf, hq1, hqc, hq3, hlen⟩ := wd_form [117, 116, 102, 45, 56] (Xf.enc o) [] 66 (by decide) (enc_noQu o ho) (toldW o) hv
  have hc : wdC (toldW o) = 4 := by unfold wdC; rw [hq1]; exact csI_utf8
  have hb : wdB (toldW o) = some o := by unfold wdB; rw [hqc, hq3, toldV_b (.inl rfl)]; exact Xf.dec_enc o ho
  rw [wdV_dec hf (by rw [hc]; decide) hb, hc, hd, hlen]
  rfl
theorem no_eqq {v : List Nat} (h : eqq v = false) (k : Nat) : ¬ (nth v k = 61 ∧ nth v (k + 1) = 63) := fun e => by
  have := (eqq_iff v).2 ⟨k, e⟩
  rw [h] at this; cases this
theorem wd_none {v : List Nat} (h : eqq v = false) (k : Nat) : wdV (v.drop k) = none := by
  refine wdV_form (fun hf => ?_)
  have := (wdF_at v k).1 hf
  exact no_eqq h k ⟨this.1, this.2.1⟩
theorem eqq_drop {v : List Nat} (h : eqq v = false) (k : Nat) : eqq (v.drop k) = false := by
  cases e : eqq (v.drop k) with
  | false => rfl
  | true =>
    obtain ⟨j, h1, h2⟩ := (eqq_iff _).1 e
    rw [nth_drop] at h1 h2
    exact absurd ⟨h1, h2⟩ (no_eqq h (k + j))
/-- A text without told words is read as it stands. -/
theorem wds_self : ∀ (f : Nat) (b : Bool) (v : List Nat), v.length ≤ f → v.all bosB = true → eqq v = false → wdsM wdV cuV f b v = asI v
  | 0, _, v, h, _, _ => by
    have : v = [] := List.eq_nil_of_length_eq_zero (by omega)
    subst this; rfl
  | f + 1, b, v, h, ha, he => by
    match v, h, ha, he with
    | [], _, _, _ => exact wdsM_nil rfl
    | c :: r, h, ha, he =>
      have hs : skp wdV b (c :: r) = c :: r := skp_no (fun hx => by rw [wd_none he] at hx; cases hx.2.2)
      have h0 : wdV (c :: r) = none := wd_none (k := 0) he
      rw [List.all_cons, Bool.and_eq_true] at ha
      have hc := of_decide_eq_true ha.1
      have e := rdC_4_one (l := c :: r) (by simp) (by show c < 128; omega)
      have hcu : cuV (c :: r) = ((c : Int), 1) := by rw [cuV_yes (by rw [e]; simp), e]; rfl
      rw [wdsM_char (by simp) (by rw [hs]; exact h0), hs, hcu]
      have ih := wds_self f false r (by rw [List.length_cons] at h; omega) ha.2 (eqq_drop he 1)
      show (c : Int) :: wdsM wdV cuV f false r = asI (c :: r)
      rw [ih]; rfl
theorem asI_back : ∀ l : List Int, l.all slfB = true → asI (l.map Int.toNat) = l
  | [], _ => rfl
  | c :: l, h => by
    rw [List.all_cons, Bool.and_eq_true] at h
    have hc := of_decide_eq_true h.1
    have ih := asI_back l h.2
    show ((c.toNat : Nat) : Int) :: asI (l.map Int.toNat) = c :: l
    rw [ih, Int.toNat_of_nonneg (by omega)]
/-- What EncodeWords tells, DecodeWords reads. -/
theorem dw_ew (l : List Int) (h : (ewV l).1 = 0) : dwV (ewV l).2 = (0, l) := by
  by_cases hz : (encT 4 l).1 = 0
  · obtain ⟨hf, he, hlen⟩ := encT_zero hz
    have hch := (flt_zero hf).2
    cases hs : sfV l with
    | true =>
      rw [ewV_self hz hs]
      have hs' := hs
      rw [sfV_eq, Bool.and_eq_true, Bool.not_eq_true'] at hs'
      have ht : (encT 4 l).2 = l.map Int.toNat := by rw [he, flat_self l hs'.1]
      rw [dwV_ok (by show ¬ 400 < (encT 4 l).2.length; omega)]
      simp only
      rw [ht]
      have hb : (l.map Int.toNat).all bosB = true := by
        rw [← flat_self l hs'.1, flat_bos l hch]; exact hs'.1
      rw [wds_self _ _ _ (Nat.le_refl _) hb hs'.2, asI_back l hs'.1]
    | false =>
      by_cases h4 : 400 < (toldW (encT 4 l).2).length
      · rw [ewV_many hz hs h4] at h; cases h
      · rw [ewV_told hz hs h4]
        have hB := encT_isB hz
        have hd : decL 4 (encT 4 l).2 = some l := by
          rw [he]; exact decL_tell (by decide) l hch (fun x _ => by rw [hasC_4]; rfl)
        generalize (encT 4 l).2 = o at *
        have hw := wd_told l o hB hd
        have hl := toldW_len o
        rw [dwV_ok h4]
        obtain ⟨n, hn⟩ : ∃ n, (toldW o).length = n + 1 := ⟨(toldW o).length - 1, by omega⟩
        rw [hn, wdsM_word (by omega) (by rw [skp_false]; exact hw), wdsM_nil (by rw [skp_false, List.length_drop]; omega), List.append_nil]
  · rw [ewV_bad hz] at h; exact absurd h hz
end Go.Proofs.YtknbndebfickpaaGreatDoor

namespace Go.Proofs.YtknbndebfickpaaGreatDoor
open Go.RowKit

/-- How the model's answer lies. -/
def TwoTxt (r : Int × List Nat) (w : World) (e : Ending) (w' : World) : Prop := e = .returned (.tuple #[.string (str r.2), .int .i64 r.1]) ∧ Below w.heap.size w w'
theorem encT_few4 {l : List Int} (hf : flt l = 0) : encT 4 l = encV 4 l := encT_ok (by omega) hf

set_option maxHeartbeats 3200000 in
set_option maxRecDepth 100000 in
theorem l4Encode_any (a : Option Addr) (n cap : Nat) (l : List Int) (w : World) (hl : l.length = n) (hr : RdI w a l) (hf : flt l = 0) :
    Calls Tryz.prog 30 #[.slice a n cap] w fun e w' => TwoTxt (ewV l) w e w' := by
  obtain ⟨hn, hch⟩ := flt_zero hf
  rw [hl] at hn
  have HE := l2Encode_any 4 a n cap l w (by omega) hl hr hn hch
  have HSf := fun w' (hb : Below w.heap.size w w') => l4Self_any a n cap l w' hl (hr.below hb) (by omega)
  have HB : Hid ((encT 4 l).1 ≠ 0 → ewV l = ((encT 4 l).1, [])) := ewV_bad
  have HS : Hid ((encT 4 l).1 = 0 → sfV l = true → ewV l = (0, (encT 4 l).2)) := ewV_self
  have HMn : Hid ((encT 4 l).1 = 0 → sfV l = false → 400 < (toldW (encT 4 l).2).length → ewV l = (2, [])) := ewV_many
  have HT : Hid ((encT 4 l).1 = 0 → sfV l = false → ¬ 400 < (toldW (encT 4 l).2).length → ewV l = (0, toldW (encT 4 l).2)) := ewV_told
  have HI : Hid ((encT 4 l).1 = 0 → IsB (encT 4 l).2 ∧ (encT 4 l).2.length ≤ 400) := fun h => ⟨encT_isB h, (encT_zero h).2.2⟩
  unfold EncEnd at HE
  rw [← encT_few4 hf] at HE
  clear hr hl hf hch
  generalize encT 4 l = r at *
  obtain ⟨c, o⟩ := r
  generalize sfV l = sf at *
  generalize ewV l = x at *
  simp only at HB HS HMn HT HI
  go_enter Tryz.func30, Tryz.ntmps30
  go_wp2_with fail
  refine HE.mono ?_
  rintro e w1 ⟨v, rfl, hown, hb1⟩
  obtain ⟨ao, oc, rfl, ho1, ho2⟩ := hown.form
  have hrd := hown.rd.2
  clear HE
  by_cases hc : c = 0
  · subst hc
    obtain ⟨hBo, h4o⟩ := HI.out (by first | rfl | trivial)
    have hst := run_str (cap := oc) (n := o.length) rfl hrd
    have HEb := l1Encode_any ao o.length oc o _ rfl hrd hBo (by omega)
    obtain ⟨tu, ht1, ht2⟩ := told_sum o (by rw [toldW_len]; have := enc_few h4o; omega)
    go_wp2_with fail
    refine (HSf _ hb1).mono ?_
    rintro e w' ⟨rfl, rfl⟩
    clear HSf
    cases sf with
    | true =>
      have HM : Hid (_) := HS.out (by first | rfl | trivial) (by first | rfl | trivial)
      clear HS HMn HT HI HB HEb ht1 ht2
      go_wp2
      go_ret2
      rw [HM.out]
      exact ⟨rfl, hb1⟩
    | false =>
      go_wp2_with fail
      refine HEb.mono ?_
      rintro e w2 ⟨rfl, hb2⟩
      have hbw2 := hb1.trans (hb2.mono hb1.size)
      clear hb2 HEb
      by_cases h4 : 400 < (toldW o).length
      · have h4' : (400 : Int) < ((toldW o).length : Int) := by omega
        have HM : Hid (_) := HMn.out (by first | rfl | trivial) (by first | rfl | trivial) h4
        have hsz : (str (toldW o)).size = (toldW o).length := str_size _
        clear HS HMn HT HI HB
        generalize toldW o = tw at *
        go_wp2
        go_ret2
        rw [HM.out]
        exact ⟨rfl, hbw2⟩
      · have h4' : ¬ (400 : Int) < ((toldW o).length : Int) := by omega
        have HM : Hid (_) := HT.out (by first | rfl | trivial) (by first | rfl | trivial) h4
        have hsz : (str (toldW o)).size = (toldW o).length := str_size _
        clear HS HMn HT HI HB
        generalize toldW o = tw at *
        go_wp2
        go_ret2
        rw [HM.out]
        exact ⟨rfl, hbw2⟩
  · have HM : Hid (_) := HB.out hc
    clear HS HMn HT HI HB HSf
    have hc' : (c == 0) = false := by simp [hc]
    go_wp2
    go_ret2
    rw [HM.out]
    exact ⟨rfl, hb1⟩

set_option maxHeartbeats 1600000 in
set_option maxRecDepth 100000 in
theorem specEncodeWords_any (a : Option Addr) (n cap : Nat) (l : List Int) (w : World) (hl : l.length = n) (hr : RdI w a l) (hn : n ≤ 1048576) :
    Calls Tryz.prog 12 #[.slice a n cap] w fun e w' => TxtEnd (ewV l) w e w' := by
  have hb0 : Below w.heap.size w (w.alloc (.cells #[.int .i64 0, .string ⟨#[]⟩] 33)) := (Below.refl _ _).alloc (Nat.le_refl _) _
  have HF := l2Fault_any a n cap l _ hl (hr.below hb0) hn
  have HO : Hid (flt l = 0 → ∀ w', Below w.heap.size w w' → Calls Tryz.prog 30 #[.slice a n cap] w' fun e w'' => TwoTxt (ewV l) w' e w'') := fun h w' hb => l4Encode_any a n cap l w' hl (hr.below hb) h
  have HB : Hid (flt l ≠ 0 → ewV l = (flt l, [])) := fun h => by
    have e := encT_fault (cs := 4) (by omega) h
    show _ = _
    rw [ewV_bad (by rw [e]; exact h), e]
  have hsW : (w.alloc (.cells #[.int .i64 0, .string ⟨#[]⟩] 33)).heap.size = w.heap.size + 1 := by simp
  clear hr hl
  generalize flt l = c at *
  generalize ewV l = x at *
  obtain ⟨xc, xo⟩ := x
  go_enter Tryz.func12, Tryz.ntmps12
  go_wp2_with fail
  refine HF.mono ?_
  rintro e w1 ⟨rfl, hb1⟩
  have hbl : Below (w.heap.size + 1) (w.alloc (.cells #[.int .i64 0, .string ⟨#[]⟩] 33)) w1 := hb1.mono (by simp)
  clear HF hb1
  generalize hW : w.alloc (.cells #[.int .i64 0, .string ⟨#[]⟩] 33) = W at *
  have hbw := hb0.trans (hbl.mono (by omega))
  have hz1 := hbl.size
  rw [hsW] at hz1
  by_cases hc : c = 0
  · subst hc
    go_wp2_with fail
    refine (HO.out (by first | rfl | trivial) _ hbw).mono ?_
    rintro e w2 ⟨rfl, hb2⟩
    have hbl2 := hbl.trans (hb2.mono hz1)
    have hbw2 := hb0.trans (hbl2.mono (by omega))
    obtain ⟨hcw, hcw1, hfw, hfw1⟩ := res_block hW hbl2
    obtain ⟨hk0, hk1⟩ := res_cells hcw hcw1 (.int .i64 xc) (.string (str xo))
    clear hb2 HO HB
    go_wp2
    refine bodyPost_ret (v := .agg #[.int .i64 xc, .string (str xo)]) (by simp [results, Tryz.results12, go_sem, hk0, hk1]) rfl ?_
    exact TxtEnd.put (r := (xc, xo)) hbw2 _ _
  · have HM : Hid (_) := HB.out hc
    obtain ⟨hcw, hcw1, hfw, hfw1⟩ := res_block hW hbl
    obtain ⟨hk0, hk1⟩ := res_cells hcw hcw1 (.int .i64 c) (.string ⟨#[]⟩)
    have hc' : (c == 0) = false := by simp [hc]
    clear HO HB
    go_wp2
    refine bodyPost_ret (v := .agg #[.int .i64 c, .string ⟨#[]⟩]) (by simp [results, Tryz.results12, go_sem, hk0, hk1]) rfl ?_
    rw [HM.out]
    exact TxtEnd.put (r := (c, [])) hbw _ _
end Go.Proofs.YtknbndebfickpaaGreatDoor

namespace Go.Proofs.YtknbndebfickpaaGreatDoor
open Go.RowKit

/-- How a draw of numbers ends. -/
def NumAns (w : World) (e : Ending) (w' : World) : Prop := ∃ (v : Value) (out : List Int), e = .returned v ∧ OwnI w' w.heap.size v out ∧ out.length ≤ 403 ∧ Below w.heap.size w w'

set_option maxHeartbeats 1600000 in
set_option maxRecDepth 100000 in
theorem drawEncodeWords_any (a : Option Addr) (n cap : Nat) (l : List Nat) (w : World) (hl : l.length = n) (hr : Rd w a l) (hB : IsB l) (hn : n ≤ 1048576) :
    Calls Tryz.prog 10 #[.slice a n cap] w fun e w' => NumAns w e w' := by
  go_enter Tryz.func10, Tryz.ntmps10
  go_wp2_with fail
  refine (l1Source_any a n cap l _ hl hr hB hn).mono ?_
  rintro e w1 ⟨rfl, hs, hb⟩
  have hlt : w.heap.size < w1.heap.size := (id hs).2.1
  go_wp2_with fail
  refine (l2Bent_any w.heap.size w.heap.size 0 _ hs (by omega)).mono ?_
  rintro e w2 ⟨v, out, rfl, ho, hol, -, hs2, hg2⟩
  have hz2 := hg2.size
  go_wp2_with fail
  refine (l1Chance_any w.heap.size w.heap.size _ 6 _ hs2 (by omega) (by omega) (by omega)).mono ?_
  rintro e w3 ⟨q, rfl, hs3, hg3⟩
  have ho3 := ho.keptG hg3 hlt
  have hg := gthen hg2 hg3
  have hb3 := hb.trans (gbelow hg hlt)
  have hz3 := hg.size
  clear hs hs2 hs3 hg2 hg3 ho hg
  cases q with
  | true =>
    go_wp2_with (at_builtin; refine wpList_app_newI rfl _ _ rfl w1.heap.size _ out rfl ho3 2 2 [61, 63] rfl rfl rfl (by omega) (by omega) ?_; intro v' w4 hown' hb')
    have HF : Hid (NumAns w (.returned v') w4) := ⟨v', _, rfl, hown'.lowG (by omega), by simp; omega, hb3.trans (hb'.mono (by omega))⟩
    clear hown' hb' ho3
    go_wp2
    go_ret
    exact HF.out
  | false =>
    have HF : Hid (NumAns w (.returned v) w3) := ⟨v, out, rfl, ho3.lowG (by omega), by omega, hb3⟩
    clear ho3
    go_wp2
    go_ret
    exact HF.out
end Go.Proofs.YtknbndebfickpaaGreatDoor

namespace Go.Proofs.YtknbndebfickpaaGreatDoor
open Go.RowKit

/-- What EncodeWords tells is plain. -/
theorem ew_plain (l : List Int) : ∀ x ∈ (ewV l).2, 1 ≤ x ∧ x ≤ 127 := by
  by_cases hz : (encT 4 l).1 = 0
  · obtain ⟨hf, he, hlen⟩ := encT_zero hz
    have hch := (flt_zero hf).2
    cases hs : sfV l with
    | true =>
      rw [ewV_self hz hs]
      have hs' := hs
      rw [sfV_eq, Bool.and_eq_true] at hs'
      intro x hx
      rw [he] at hx
      have hb := List.all_eq_true.1 ((flat_bos l hch).trans hs'.1) x hx
      have := of_decide_eq_true hb
      omega
    | false =>
      by_cases h4 : 400 < (toldW (encT 4 l).2).length
      · rw [ewV_many hz hs h4]; intro x hx; cases hx
      · rw [ewV_told hz hs h4]
        intro x hx
        unfold toldW at hx
        have hp := Xf.enc_plain (encT 4 l).2 (encT_isB hz)
        rcases List.mem_append.1 hx with hx | hx
        · rcases List.mem_append.1 hx with hx | hx
          · have : ∀ y ∈ twB, 1 ≤ y ∧ y ≤ 127 := by decide
            exact this x hx
          · have := hp x hx; omega
        · have : ∀ y ∈ ([63, 61] : List Nat), 1 ≤ y ∧ y ≤ 127 := by decide
          exact this x hx
  · rw [ewV_bad hz]; intro x hx; cases hx
theorem ew_len (l : List Int) : (ewV l).2.length ≤ 400 := by
  by_cases hz : (encT 4 l).1 = 0
  · cases hs : sfV l with
    | true => rw [ewV_self hz hs]; exact (encT_zero hz).2.2
    | false =>
      by_cases h4 : 400 < (toldW (encT 4 l).2).length
      · rw [ewV_many hz hs h4]; exact Nat.zero_le _
      · rw [ewV_told hz hs h4]; show (toldW (encT 4 l).2).length ≤ 400; omega
  · rw [ewV_bad hz]; exact Nat.zero_le _
theorem ew_isB (l : List Int) : IsB (ewV l).2 := fun x hx => by have := ew_plain l x hx; omega
end Go.Proofs.YtknbndebfickpaaGreatDoor
