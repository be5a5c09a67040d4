/- Words of characters: plain functions, with no program in them; what stands for itself by its characters does so by its bytes · Told words, the model's: the place of a question mark, blanks and tabs · Told words: plain functions, with no program in them · EncodeWords, the program's, at every slice of characters; the bytes that are seen · EncodeWords, the model's, at every slice of characters. -/
import Derived.Test.YtaefomiofoakhaaGreatDoorTel3ToWrd2
import Derived.Test.YtaefomiofoakhaaGreatDoorPspToDig
import Derived.Lib.IndexMore
import Derived.Test.YtaefomiofoakhaaGreatDoorAppFToHdr
import Derived.Test.YtaefomiofoakhaaGreatDoorEncBToVwm
import Derived.Test.YtaefomiofoakhaaGreatDoorShf
import Derived.Test.YtaefomiofoakhaaGreatDoorFldToJmp
import Derived.Test.YtaefomiofoakhaaGreatDoorPsmToEncQ3
import Derived.Handy
namespace Go.Proofs.YtaefomiofoakhaaGreatDoor
open Go.RowKit

/-- A blank, or a byte that is seen. -/
def bosB (c : Nat) : Bool := decide (32 ≤ c ∧ c ≤ 126)
/-- Is there `=?`? -/
def eqq : List Nat → Bool
  | [] => false
  | a :: r => (decide (a = 61 ∧ nth r 0 = 63)) || eqq r
theorem nth_cons (a : Nat) (r : List Nat) (k : Nat) : nth (a :: r) (k + 1) = nth r k := by simp [nth]
theorem nth_head (a : Nat) (r : List Nat) : nth (a :: r) 0 = a := by simp [nth]
theorem nth_out {l : List Nat} {k : Nat} (h : l.length ≤ k) : nth l k = 0 := by
  unfold nth; rw [List.getD_eq_getElem?_getD, List.getElem?_eq_none h]; rfl
theorem eqq_iff : ∀ t : List Nat, eqq t = true ↔ ∃ k, nth t k = 61 ∧ nth t (k + 1) = 63
  | [] => by
    constructor
    · intro h; cases h
    · rintro ⟨k, h, _⟩; rw [nth_out (by simp)] at h; cases h
  | a :: r => by
    rw [eqq, Bool.or_eq_true, decide_eq_true_iff, eqq_iff r]
    constructor
    · rintro (⟨h1, h2⟩ | ⟨k, h1, h2⟩)
      · exact ⟨0, by rw [nth_head]; exact h1, by rw [nth_cons]; exact h2⟩
      · exact ⟨k + 1, by rw [nth_cons]; exact h1, by rw [nth_cons]; exact h2⟩
    · rintro ⟨k, h1, h2⟩
      cases k with
      | zero => left; rw [nth_head] at h1; rw [nth_cons] at h2; exact ⟨h1, h2⟩
      | succ k => right; rw [nth_cons] at h1 h2; exact ⟨k, h1, h2⟩
theorem nthI_out {l : List Int} {k : Nat} (h : l.length ≤ k) : nthI l k = 0 := by
  unfold nthI; rw [List.getD_eq_getElem?_getD, List.getElem?_eq_none h]; rfl
theorem nthI_toNat (l : List Int) (k : Nat) : nth (l.map Int.toNat) k = (nthI l k).toNat := by
  unfold nth nthI
  rw [List.getD_eq_getElem?_getD, List.getD_eq_getElem?_getD, List.getElem?_map]
  cases l[k]? <;> rfl
/-- A character that may stand for itself. -/
def slfB (c : Int) : Bool := decide (32 ≤ c ∧ c ≤ 126)
theorem sfV_eq (l : List Int) : sfV l = (l.all slfB && !eqq (l.map Int.toNat)) := by
  rw [Bool.eq_iff_iff, Bool.and_eq_true, Bool.not_eq_true', ← Bool.not_eq_true, eqq_iff]
  unfold sfV
  rw [List.all_eq_true, List.all_eq_true]
  constructor
  · intro h
    refine ⟨fun x hx => ?_, ?_⟩
    · obtain ⟨k, hk, rfl⟩ := List.getElem_of_mem hx
      have := h k (List.mem_range.2 hk)
      unfold sfB at this
      rw [Bool.and_eq_true] at this
      have h1 := of_decide_eq_true this.1
      rw [nthI_get hk] at h1
      exact decide_eq_true h1
    · rintro ⟨k, h1, h2⟩
      rw [nthI_toNat] at h1 h2
      by_cases hk : k + 1 < l.length
      · have := h (k + 1) (List.mem_range.2 hk)
        unfold sfB at this
        rw [Bool.and_eq_true, Bool.not_eq_true', decide_eq_false_iff_not] at this
        exact this.2 ⟨by omega, by rw [show k + 1 - 1 = k by omega]; omega, by omega⟩
      · rw [nthI_out (by omega)] at h2; cases h2
  · rintro ⟨h1, h2⟩ k hk
    have hk := List.mem_range.1 hk
    unfold sfB
    rw [Bool.and_eq_true, Bool.not_eq_true', decide_eq_false_iff_not]
    have hx := of_decide_eq_true (h1 (nthI l k) (by rw [nthI_get hk]; exact List.getElem_mem hk))
    refine ⟨decide_eq_true hx, ?_⟩
    rintro ⟨h0, h3, h4⟩
    refine h2 ⟨k - 1, ?_, ?_⟩
    · rw [nthI_toNat, h3]; rfl
    · rw [nthI_toNat, show k - 1 + 1 = k by omega, h4]; rfl
theorem tell4 (c : Int) : tellL 4 c = u8L c.toNat := by unfold tellL; rw [if_neg (by decide), if_pos rfl]
theorem u8_bos {c : Int} (hc : chr c = true) : (tellL 4 c).all bosB = slfB c := by
  have h := chr_iff.1 hc
  rw [tell4]
  unfold u8L
  by_cases h1 : c.toNat < 128
  · rw [if_pos h1, List.all_cons, List.all_nil, Bool.and_true]
    exact decide_eq_decide.2 (by omega)
  · have hs : slfB c = false := decide_eq_false (by omega)
    rw [if_neg h1, hs]
    split
    · rw [List.all_cons, show bosB (192 + c.toNat / 64) = false from decide_eq_false (by omega)]; rfl
    · rw [List.all_cons, show bosB (224 + c.toNat / 4096) = false from decide_eq_false (by omega)]; rfl
theorem flat_bos : ∀ l : List Int, (∀ x ∈ l, chr x = true) → (l.flatMap (tellL 4)).all bosB = l.all slfB
  | [], _ => rfl
  | c :: l, h => by
    rw [List.flatMap_cons, List.all_append, u8_bos (h c (by simp)), flat_bos l (fun x hx => h x (by simp [hx])), List.all_cons]
/-- The letters around a told word. -/
def twB : List Nat := [61, 63, 117, 116, 102, 45, 56, 63, 66, 63]
/-- One told word. -/
def toldW (o : List Nat) : List Nat := (twB ++ Xf.enc o) ++ [63, 61]
theorem toldW_len (o : List Nat) : (toldW o).length = (Xf.enc o).length + 12 := by
  unfold toldW twB
  rw [List.length_append, List.length_append]
  simp only [List.length_cons, List.length_nil]
  omega
/-- What EncodeWords answers. -/
def ewV (l : List Int) : Int × List Nat := if (encT 4 l).1 = 0 then (if sfV l then (0, (encT 4 l).2) else if 400 < (toldW (encT 4 l).2).length then (2, []) else (0, toldW (encT 4 l).2)) else ((encT 4 l).1, [])
theorem ewV_bad {l : List Int} (h : (encT 4 l).1 ≠ 0) : ewV l = ((encT 4 l).1, []) := if_neg h
theorem ewV_self {l : List Int} (h : (encT 4 l).1 = 0) (hs : sfV l = true) : ewV l = (0, (encT 4 l).2) := by unfold ewV; rw [if_pos h, if_pos hs]
theorem ewV_many {l : List Int} (h : (encT 4 l).1 = 0) (hs : sfV l = false) (h4 : 400 < (toldW (encT 4 l).2).length) : ewV l = (2, []) := by unfold ewV; rw [if_pos h, hs, if_neg (by simp), if_pos h4]
theorem ewV_told {l : List Int} (h : (encT 4 l).1 = 0) (hs : sfV l = false) (h4 : ¬ 400 < (toldW (encT 4 l).2).length) : ewV l = (0, toldW (encT 4 l).2) := by unfold ewV; rw [if_pos h, hs, if_neg (by simp), if_neg h4]
/-- What stands behind an answer without a code. -/
theorem encT_zero {l : List Int} (h : (encT 4 l).1 = 0) : flt l = 0 ∧ (encT 4 l).2 = l.flatMap (tellL 4) ∧ (encT 4 l).2.length ≤ 400 := by
  by_cases hf : flt l = 0
  · rw [encT_ok (by omega) hf] at h ⊢
    refine ⟨hf, ?_⟩
    cases ha : l.all (hasC 4) with
    | false => rw [encV_bad ha] at h; cases h
    | true =>
      by_cases h4 : 400 < (l.flatMap (tellL 4)).length
      · rw [encV_many ha h4] at h; cases h
      · rw [encV_ok ha h4]; exact ⟨rfl, by simp only; omega⟩
  · rw [encT_fault (by omega) hf] at h; exact absurd h hf
theorem u8L_isB (k : Nat) (h : k ≤ 65535) : IsB (u8L k) := by
  unfold u8L
  split
  · intro b hb; simp only [List.mem_cons, List.not_mem_nil, or_false] at hb; omega
  · split
    · intro b hb; simp only [List.mem_cons, List.not_mem_nil, or_false] at hb; omega
    · intro b hb; simp only [List.mem_cons, List.not_mem_nil, or_false] at hb; omega
theorem encT_isB {l : List Int} (h : (encT 4 l).1 = 0) : IsB (encT 4 l).2 := by
  obtain ⟨hf, he, _⟩ := encT_zero h
  rw [he]
  intro b hb
  obtain ⟨c, hc, hb⟩ := List.mem_flatMap.1 hb
  have := chr_iff.1 ((flt_zero hf).2 c hc)
  rw [tell4] at hb
  exact u8L_isB c.toNat (by omega) b hb
end Go.Proofs.YtaefomiofoakhaaGreatDoor

namespace Go.Proofs.YtaefomiofoakhaaGreatDoor
open Go.RowKit

end Go.Proofs.YtaefomiofoakhaaGreatDoor

namespace Go.Proofs.YtaefomiofoakhaaGreatDoor
open Go.RowKit

end Go.Proofs.YtaefomiofoakhaaGreatDoor

namespace Go.Proofs.YtaefomiofoakhaaGreatDoor
open Go.RowKit

theorem str_sum (a b : List Nat) : str (a ++ b) = str a ++ str b := by
  unfold str
  apply ByteArray.ext
  simp [ByteArray.data_append]
theorem told_sum (o : List Nat) (h : (toldW o).length ≤ 1048576) : ∃ u : ByteArray, (∀ w, (Op.stringOp .add ⟨#[61, 63, 117, 116, 102, 45, 56, 63, 66, 63]⟩ (str (Xf.enc o))).run Tryz.prog w = .ok (.string u) w) ∧ ∀ w, (Op.stringOp .add u ⟨#[63, 61]⟩).run Tryz.prog w = .ok (.string (str (toldW o))) w := by
  rw [toldW_len] at h
  have e0 : (⟨#[61, 63, 117, 116, 102, 45, 56, 63, 66, 63]⟩ : ByteArray) = str twB := rfl
  have e1 : (⟨#[63, 61]⟩ : ByteArray) = str [63, 61] := rfl
  refine ⟨str (twB ++ Xf.enc o), fun w => ?_, fun w => ?_⟩
  · rw [e0, str_sum]
    exact run_string_add_sum w _ _ (by rw [str_size, str_size]; simp only [twB, List.length_cons, List.length_nil]; omega)
  · unfold toldW
    rw [e1, str_sum (twB ++ Xf.enc o)]
    exact run_string_add_sum w _ _ (by rw [str_size, str_size, List.length_append]; simp only [twB, List.length_cons, List.length_nil]; omega)
theorem enc_few {o : List Nat} (h : o.length ≤ 400) : (Xf.enc o).length ≤ 1000 := by
  rw [Xf.enc_len]; omega

/-- An answer with a text. -/
def TxtEnd (r : Int × List Nat) (w : World) (e : Ending) (w' : World) : Prop := e = .returned (.agg #[.int .i64 r.1, .string (str r.2)]) ∧ Below w.heap.size w w'
theorem TxtEnd.put {r : Int × List Nat} {w w1 : World} (hbel : Below w.heap.size w w1) (x y : Value) : TxtEnd r w (.returned (.agg #[.int .i64 r.1, .string (str r.2)])) ((w1.setCell ⟨w.heap.size, 0, none⟩ x).setCell ⟨w.heap.size, 1, none⟩ y) :=
  ⟨rfl, (hbel.setCell (by simp) _).setCell (by simp) _⟩

end Go.Proofs.YtaefomiofoakhaaGreatDoor

namespace Go.Proofs.YtaefomiofoakhaaGreatDoor
open Go.RowKit

/-- How the model's answer lies. -/
def TwoTxt (r : Int × List Nat) (w : World) (e : Ending) (w' : World) : Prop := e = .returned (.tuple #[.string (str r.2), .int .i64 r.1]) ∧ Below w.heap.size w w'
theorem encT_few4 {l : List Int} (hf : flt l = 0) : encT 4 l = encV 4 l := encT_ok (by omega) hf

set_option maxHeartbeats 3200000 in
set_option maxRecDepth 100000 in
theorem l4Encode_any (a : Option Addr) (n cap : Nat) (l : List Int) (w : World) (hl : l.length = n) (hr : RdI w a l) (hf : flt l = 0) :
    Calls Tryz.prog 68 #[.slice a n cap] w fun e w' => TwoTxt (ewV l) w e w' := by
  obtain ⟨hn, hch⟩ := flt_zero hf
  rw [hl] at hn
  have HE := l2Encode_any 4 a n cap l w (by omega) hl hr hn hch
  have HSf := fun w' (hb : Below w.heap.size w w') => l4Self_any a n cap l w' hl (hr.below hb) (by omega)
  have HB : Hid ((encT 4 l).1 ≠ 0 → ewV l = ((encT 4 l).1, [])) := ewV_bad
  have HS : Hid ((encT 4 l).1 = 0 → sfV l = true → ewV l = (0, (encT 4 l).2)) := ewV_self
  have HMn : Hid ((encT 4 l).1 = 0 → sfV l = false → 400 < (toldW (encT 4 l).2).length → ewV l = (2, [])) := ewV_many
  have HT : Hid ((encT 4 l).1 = 0 → sfV l = false → ¬ 400 < (toldW (encT 4 l).2).length → ewV l = (0, toldW (encT 4 l).2)) := ewV_told
  have HI : Hid ((encT 4 l).1 = 0 → IsB (encT 4 l).2 ∧ (encT 4 l).2.length ≤ 400) := fun h => ⟨encT_isB h, (encT_zero h).2.2⟩
  unfold EncEnd at HE
  rw [← encT_few4 hf] at HE
  clear hr hl hf hch
  generalize encT 4 l = r at *
  obtain ⟨c, o⟩ := r
  generalize sfV l = sf at *
  generalize ewV l = x at *
  simp only at HB HS HMn HT HI
  go_enter Tryz.func68, Tryz.ntmps68
  go_wp2_with fail
  refine HE.mono ?_
  rintro e w1 ⟨v, rfl, hown, hb1⟩
  obtain ⟨ao, oc, rfl, ho1, ho2⟩ := hown.form
  have hrd := hown.rd.2
  clear HE
  by_cases hc : c = 0
  · subst hc
    obtain ⟨hBo, h4o⟩ := HI.out (by first | rfl | trivial)
    have hst := run_str (cap := oc) (n := o.length) rfl hrd
    have HEb := l1Encode_any ao o.length oc o _ rfl hrd hBo (by omega)
    obtain ⟨tu, ht1, ht2⟩ := told_sum o (by rw [toldW_len]; have := enc_few h4o; omega)
    go_wp2_with fail
    refine (HSf _ hb1).mono ?_
    rintro e w' ⟨rfl, rfl⟩
    clear HSf
    cases sf with
    | true =>
      have HM : Hid (_) := HS.out (by first | rfl | trivial) (by first | rfl | trivial)
      clear HS HMn HT HI HB HEb ht1 ht2
      go_wp2
      go_ret2
      rw [HM.out]
      exact ⟨rfl, hb1⟩
    | false =>
      go_wp2_with fail
      refine HEb.mono ?_
      rintro e w2 ⟨rfl, hb2⟩
      have hbw2 := hb1.trans (hb2.mono hb1.size)
      clear hb2 HEb
      by_cases h4 : 400 < (toldW o).length
      · have h4' : (400 : Int) < ((toldW o).length : Int) := by omega
        have HM : Hid (_) := HMn.out (by first | rfl | trivial) (by first | rfl | trivial) h4
        have hsz : (str (toldW o)).size = (toldW o).length := str_size _
        clear HS HMn HT HI HB
        generalize toldW o = tw at *
        go_wp2
        go_ret2
        rw [HM.out]
        exact ⟨rfl, hbw2⟩
      · have h4' : ¬ (400 : Int) < ((toldW o).length : Int) := by omega
        have HM : Hid (_) := HT.out (by first | rfl | trivial) (by first | rfl | trivial) h4
        have hsz : (str (toldW o)).size = (toldW o).length := str_size _
        clear HS HMn HT HI HB
        generalize toldW o = tw at *
        go_wp2
        go_ret2
        rw [HM.out]
        exact ⟨rfl, hbw2⟩
  · have HM : Hid (_) := HB.out hc
    clear HS HMn HT HI HB HSf
    have hc' : (c == 0) = false := by simp [hc]
    go_wp2
    go_ret2
    rw [HM.out]
    exact ⟨rfl, hb1⟩

end Go.Proofs.YtaefomiofoakhaaGreatDoor
