/- EncodeWords, the model's, at every slice of characters · EncodeQuoted, the program's and the model's: of at most 400 bytes each answers their quoted text, of more the code 2; slices of at most 1048576 bytes · The program's EncodeQuoted: of at most 400 bytes it answers their quoted text, of more the code 2. -/
import Derived.Test.YtdcgihcjiiemdaaDoorMemFToEwp
import Derived.Test.YtdcgihcjiiemdaaDoorMemToApp
import Derived.Test.YtdcgihcjiiemdaaDoorMathToEncB2
import Derived.Deep.RegionHeld3
import Derived.WalkLawsBesides
namespace Go.Proofs.YtdcgihcjiiemdaaDoor
open Go.RowKit

/-- How the model's answer lies. -/
def TwoTxt (r : Int × List Nat) (w : World) (e : Ending) (w' : World) : Prop := e = .returned (.tuple #[.string (str r.2), .int .i64 r.1]) ∧ Below w.heap.size w w'
theorem encT_few4 {l : List Int} (hf : flt l = 0) : encT 4 l = encV 4 l := encT_ok (by omega) hf

set_option maxHeartbeats 3200000 in
set_option maxRecDepth 100000 in
theorem l4Encode_any (a : Option Addr) (n cap : Nat) (l : List Int) (w : World) (hl : l.length = n) (hr : RdI w a l) (hf : flt l = 0) :
    Calls Tryd.prog 70 #[.slice a n cap] w fun e w' => TwoTxt (ewV l) w e w' := by
  obtain ⟨hn, hch⟩ := flt_zero hf
  rw [hl] at hn
  have HE := l2Encode_any 4 a n cap l w (by omega) hl hr hn hch
  have HSf := fun w' (hb : Below w.heap.size w w') => l4Self_any a n cap l w' hl (hr.below hb) (by omega)
  have HB : Hid ((encT 4 l).1 ≠ 0 → ewV l = ((encT 4 l).1, [])) := ewV_bad
  have HS : Hid ((encT 4 l).1 = 0 → sfV l = true → ewV l = (0, (encT 4 l).2)) := ewV_self
  have HMn : Hid ((encT 4 l).1 = 0 → sfV l = false → 400 < (toldW (encT 4 l).2).length → ewV l = (2, [])) := ewV_many
  have HT : Hid ((encT 4 l).1 = 0 → sfV l = false → ¬ 400 < (toldW (encT 4 l).2).length → ewV l = (0, toldW (encT 4 l).2)) := ewV_told
  have HI : Hid ((encT 4 l).1 = 0 → IsB (encT 4 l).2 ∧ (encT 4 l).2.length ≤ 400) := fun h => ⟨encT_isB h, (encT_zero h).2.2⟩
  unfold EncEnd at HE
  rw [← encT_few4 hf] at HE
  clear hr hl hf hch
  generalize encT 4 l = r at *
  obtain ⟨c, o⟩ := r
  generalize sfV l = sf at *
  generalize ewV l = x at *
  simp only at HB HS HMn HT HI
  go_enter Tryd.func70, Tryd.ntmps70
  go_wp2_with fail
  refine HE.mono ?_
  rintro e w1 ⟨v, rfl, hown, hb1⟩
  obtain ⟨ao, oc, rfl, ho1, ho2⟩ := hown.form
  have hrd := hown.rd.2
  clear HE
  by_cases hc : c = 0
  · subst hc
    obtain ⟨hBo, h4o⟩ := HI.out (by first | rfl | trivial)
    have hst := run_str (cap := oc) (n := o.length) rfl hrd
    have HEb := l1Encode_any ao o.length oc o _ rfl hrd hBo (by omega)
    obtain ⟨tu, ht1, ht2⟩ := told_sum o (by rw [toldW_len]; have := enc_few h4o; omega)
    go_wp2_with fail
    refine (HSf _ hb1).mono ?_
    rintro e w' ⟨rfl, rfl⟩
    clear HSf
    cases sf with
    | true =>
      have HM : Hid (_) := HS.out (by first | rfl | trivial) (by first | rfl | trivial)
      clear HS HMn HT HI HB HEb ht1 ht2
      go_wp2
      go_ret2
      rw [HM.out]
      exact ⟨rfl, hb1⟩
    | false =>
      go_wp2_with fail
      refine HEb.mono ?_
      rintro e w2 ⟨rfl, hb2⟩
      have hbw2 := hb1.trans (hb2.mono hb1.size)
      clear hb2 HEb
      by_cases h4 : 400 < (toldW o).length
      · have h4' : (400 : Int) < ((toldW o).length : Int) := by omega
        have HM : Hid (_) := HMn.out (by first | rfl | trivial) (by first | rfl | trivial) h4
        have hsz : (str (toldW o)).size = (toldW o).length := str_size _
        clear HS HMn HT HI HB
        generalize toldW o = tw at *
        go_wp2
        go_ret2
        rw [HM.out]
        exact ⟨rfl, hbw2⟩
      · have h4' : ¬ (400 : Int) < ((toldW o).length : Int) := by omega
        have HM : Hid (_) := HT.out (by first | rfl | trivial) (by first | rfl | trivial) h4
        have hsz : (str (toldW o)).size = (toldW o).length := str_size _
        clear HS HMn HT HI HB
        generalize toldW o = tw at *
        go_wp2
        go_ret2
        rw [HM.out]
        exact ⟨rfl, hbw2⟩
  · have HM : Hid (_) := HB.out hc
    clear HS HMn HT HI HB HSf
    have hc' : (c == 0) = false := by simp [hc]
    go_wp2
    go_ret2
    rw [HM.out]
    exact ⟨rfl, hb1⟩

end Go.Proofs.YtdcgihcjiiemdaaDoor

namespace Go.Proofs.YtdcgihcjiiemdaaDoor
open Go.RowKit

/-- Does the first byte of l stand as itself? -/
def selfL (l : List Nat) : Bool := Xq.self (nth l 0) (l.drop 1)
theorem selfL_lf {l : List Nat} (h : nth l 0 = 10) : selfL l = true := by simp [selfL, Xq.self, h]
theorem selfL_bl {l : List Nat} (h : nth l 0 = 32 ∨ nth l 0 = 9) (hn : 1 < l.length) (hc : nth l 1 ≠ 10) : selfL l = true := by
  have h1 : nth l 0 ≠ 10 := by omega
  unfold selfL Xq.self
  rw [if_neg h1, if_pos h]
  exact decide_eq_true ⟨by simp; omega, by rw [nth_drop]; exact hc⟩
theorem selfL_bl_no {l : List Nat} (h : nth l 0 = 32 ∨ nth l 0 = 9) (hc : ¬ (1 < l.length ∧ nth l 1 ≠ 10)) : selfL l = false := by
  have h1 : nth l 0 ≠ 10 := by omega
  unfold selfL Xq.self
  rw [if_neg h1, if_pos h]
  refine decide_eq_false (fun hh => hc ⟨?_, ?_⟩)
  · have := hh.1; simp at this; omega
  · have := hh.2; rw [nth_drop] at this; exact this
theorem selfL_other {l : List Nat} (h1 : nth l 0 ≠ 10) (h2 : ¬ (nth l 0 = 32 ∨ nth l 0 = 9)) : selfL l = decide (33 ≤ nth l 0 ∧ nth l 0 ≤ 126 ∧ nth l 0 ≠ 61) := by
  unfold selfL Xq.self
  rw [if_neg h1, if_neg h2]

theorem hex_text (k : Nat) (h : k < 16) : ((⟨#[48, 49, 50, 51, 52, 53, 54, 55, 56, 57, 65, 66, 67, 68, 69, 70]⟩ : ByteArray)[k]'h).toNat = Xq.hex k := by
  have : ∀ k (h : k < 16), ((⟨#[48, 49, 50, 51, 52, 53, 54, 55, 56, 57, 65, 66, 67, 68, 69, 70]⟩ : ByteArray)[k]'h).toNat = Xq.hex k := by decide +kernel
  exact this k h
set_option maxHeartbeats 800000 in
set_option maxRecDepth 100000 in
theorem l1Hex_any (k : Nat) (h : k < 16) (w : World) : Calls Tryd.prog 78 #[.int .u8 (k : Int)] w fun e w' => e = .returned (.int .u8 (Xq.hex k : Int)) ∧ w' = w := by
  have h' : (k : Int) < 16 := by omega
  go_enter Tryd.func78, Tryd.ntmps78
  go_wp2
  go_ret
  exact ⟨ret_intD (by rw [← hex_text k h]), rfl⟩

/-- What is still to be told, byte by byte. -/
theorem quo_step_self {l : List Nat} {k : Nat} (hk : k < l.length) (h : selfL (l.drop k) = true) : Xq.quo (l.drop k) = nth l k :: Xq.quo (l.drop (k + 1)) := by
  have e0 : nth (l.drop k) 0 = nth l k := by rw [nth_drop, Nat.add_zero]
  have e1 : (l.drop k).drop 1 = l.drop (k + 1) := by rw [List.drop_drop]
  unfold selfL at h
  rw [e0, e1] at h
  rw [drop_cons l k hk, Xq.quo, if_pos h]
theorem quo_step_hex {l : List Nat} {k : Nat} (hk : k < l.length) (h : selfL (l.drop k) = false) : Xq.quo (l.drop k) = 61 :: Xq.hex (nth l k / 16) :: Xq.hex (nth l k % 16) :: Xq.quo (l.drop (k + 1)) := by
  have e0 : nth (l.drop k) 0 = nth l k := by rw [nth_drop, Nat.add_zero]
  have e1 : (l.drop k).drop 1 = l.drop (k + 1) := by rw [List.drop_drop]
  unfold selfL at h
  rw [e0, e1] at h
  rw [drop_cons l k hk, Xq.quo, if_neg (by rw [h]; simp)]

end Go.Proofs.YtdcgihcjiiemdaaDoor

namespace Go.Proofs.YtdcgihcjiiemdaaDoor
open Go.RowKit

end Go.Proofs.YtdcgihcjiiemdaaDoor
