/- A field of a result that is held as a value: plain reading · EncodeWords, the program's, at every slice of characters; the bytes that are seen · EncodeWords, the model's, at every slice of characters · What EncodeWords tells: plain, of 400 bytes at most: plain functions, with no program in them. -/
import Derived.Test.YtpgjichcpnjeoaaApp
import Derived.Test.YtpgjichcpnjeoaaEwM
import Derived.Test.YtpgjichcpnjeoaaDigToEncB2
import Derived.Test.YtpgjichcpnjeoaaEncB3
import Derived.Test.YtpgjichcpnjeoaaWPl
import Derived.Test.YtpgjichcpnjeoaaShf
import Derived.Handy
namespace Go.Proofs.Ytpgjichcpnjeoaa
open Go.RowKit

theorem fldB0 (x y : Value) (w : World) : (Instr.field 32 (.agg #[x, y]) 0).run Try.prog w = .ok x w := by
  simp [Instr.field, asAgg, go_sem]
theorem fldB1 (x y : Value) (w : World) : (Instr.field 32 (.agg #[x, y]) 1).run Try.prog w = .ok y w := by
  simp [Instr.field, asAgg, go_sem]
theorem fldT0 (x y : Value) (w : World) : (Instr.field 37 (.agg #[x, y]) 0).run Try.prog w = .ok x w := by
  simp [Instr.field, asAgg, go_sem]
theorem fldT1 (x y : Value) (w : World) : (Instr.field 37 (.agg #[x, y]) 1).run Try.prog w = .ok y w := by
  simp [Instr.field, asAgg, go_sem]
end Go.Proofs.Ytpgjichcpnjeoaa

namespace Go.Proofs.Ytpgjichcpnjeoaa
open Go.RowKit

/-- The library's own bound lies in its variable. -/
def MaxI (w : World) : Prop := ∃ m, w.cell? ⟨0, 0, none⟩ = some (.int .i64 m)
theorem MaxI.below {w w' : World} (h : MaxI w) (hb : Below w.heap.size w w') : MaxI w' := by
  obtain ⟨m, hm⟩ := h
  exact ⟨m, (hb.cell (p := ⟨0, 0, none⟩) (World.block_lt_of_cell? _ _ hm)).trans hm⟩
theorem contains_any (t : List Nat) (n : Nat) (w : World) (hl : t.length = n) (hB : IsB t) (hn : n ≤ 1048576) (hm : MaxI w) : Calls Try.prog 70 #[.string (str t), .string ⟨#[61, 63]⟩] w fun e w' => e = .returned (.bool (eqq t)) ∧ w = w' := by
  obtain ⟨m, hm⟩ := hm
  have h := Try.strings_Contains (str t) ⟨#[61, 63]⟩ m w (by rw [str_size]; omega) hm
  rw [show (⟨#[61, 63]⟩ : ByteArray).data.toList = [61, 63] from rfl, show (str t).data.toList = t.map UInt8.ofNat by simp [str], contains_eqq t hB] at h
  exact h.mono fun e w' h => ⟨h.1, h.2.symm⟩
theorem str_sum (a b : List Nat) : str (a ++ b) = str a ++ str b := by
  unfold str
  apply ByteArray.ext
  simp [ByteArray.data_append]
theorem told_sum (o : List Nat) (h : (toldW o).length ≤ 1048576) : ∃ u : ByteArray, (∀ w, (Op.stringOp .add ⟨#[61, 63, 117, 116, 102, 45, 56, 63, 66, 63]⟩ (str (Xf.enc o))).run Try.prog w = .ok (.string u) w) ∧ ∀ w, (Op.stringOp .add u ⟨#[63, 61]⟩).run Try.prog w = .ok (.string (str (toldW o))) w := by
  rw [toldW_len] at h
  have e0 : (⟨#[61, 63, 117, 116, 102, 45, 56, 63, 66, 63]⟩ : ByteArray) = str twB := rfl
  have e1 : (⟨#[63, 61]⟩ : ByteArray) = str [63, 61] := rfl
  refine ⟨str (twB ++ Xf.enc o), fun w => ?_, fun w => ?_⟩
  · rw [e0, str_sum]
    exact run_string_add_sum w _ _ (by rw [str_size, str_size]; simp only [twB, List.length_cons, List.length_nil]; omega)
  · unfold toldW
    rw [e1, str_sum (twB ++ Xf.enc o)]
    exact run_string_add_sum w _ _ (by rw [str_size, str_size, List.length_append]; simp only [twB, List.length_cons, List.length_nil]; omega)
theorem enc_few {o : List Nat} (h : o.length ≤ 400) : (Xf.enc o).length ≤ 1000 := by
  rw [Xf.enc_len]; omega

/-- An answer with a text. -/
def TxtEnd (r : Int × List Nat) (w : World) (e : Ending) (w' : World) : Prop := e = .returned (.agg #[.int .i64 r.1, .string (str r.2)]) ∧ Below w.heap.size w w'
theorem TxtEnd.put {r : Int × List Nat} {w w1 : World} (hbel : Below w.heap.size w w1) (x y : Value) : TxtEnd r w (.returned (.agg #[.int .i64 r.1, .string (str r.2)])) ((w1.setCell ⟨w.heap.size, 0, none⟩ x).setCell ⟨w.heap.size, 1, none⟩ y) :=
  ⟨rfl, (hbel.setCell (by simp) _).setCell (by simp) _⟩

end Go.Proofs.Ytpgjichcpnjeoaa

namespace Go.Proofs.Ytpgjichcpnjeoaa
open Go.RowKit

/-- How the model's answer lies. -/
def TwoTxt (r : Int × List Nat) (w : World) (e : Ending) (w' : World) : Prop := e = .returned (.tuple #[.string (str r.2), .int .i64 r.1]) ∧ Below w.heap.size w w'
theorem encT_few4 {l : List Int} (hf : flt l = 0) : encT 4 l = encV 4 l := encT_ok (by omega) hf

set_option maxHeartbeats 3200000 in
set_option maxRecDepth 100000 in
theorem l4Encode_any (a : Option Addr) (n cap : Nat) (l : List Int) (w : World) (hl : l.length = n) (hr : RdI w a l) (hf : flt l = 0) :
    Calls Try.prog 66 #[.slice a n cap] w fun e w' => TwoTxt (ewV l) w e w' := by
  obtain ⟨hn, hch⟩ := flt_zero hf
  rw [hl] at hn
  have HE := l2Encode_any 4 a n cap l w (by omega) hl hr hn hch
  have HSf := fun w' (hb : Below w.heap.size w w') => l4Self_any a n cap l w' hl (hr.below hb) (by omega)
  have HB : Hid ((encT 4 l).1 ≠ 0 → ewV l = ((encT 4 l).1, [])) := ewV_bad
  have HS : Hid ((encT 4 l).1 = 0 → sfV l = true → ewV l = (0, (encT 4 l).2)) := ewV_self
  have HMn : Hid ((encT 4 l).1 = 0 → sfV l = false → 400 < (toldW (encT 4 l).2).length → ewV l = (2, [])) := ewV_many
  have HT : Hid ((encT 4 l).1 = 0 → sfV l = false → ¬ 400 < (toldW (encT 4 l).2).length → ewV l = (0, toldW (encT 4 l).2)) := ewV_told
  have HI : Hid ((encT 4 l).1 = 0 → IsB (encT 4 l).2 ∧ (encT 4 l).2.length ≤ 400) := fun h => ⟨encT_isB h, (encT_zero h).2.2⟩
  unfold EncEnd at HE
  rw [← encT_few4 hf] at HE
  clear hr hl hf hch
  generalize encT 4 l = r at *
  obtain ⟨c, o⟩ := r
  generalize sfV l = sf at *
  generalize ewV l = x at *
  simp only at HB HS HMn HT HI
  go_enter Try.func66, Try.ntmps66
  go_wp2_with fail
  refine HE.mono ?_
  rintro e w1 ⟨v, rfl, hown, hb1⟩
  obtain ⟨ao, oc, rfl, ho1, ho2⟩ := hown.form
  have hrd := hown.rd.2
  clear HE
  by_cases hc : c = 0
  · subst hc
    obtain ⟨hBo, h4o⟩ := HI.out (by first | rfl | trivial)
    have hst := run_str (cap := oc) (n := o.length) rfl hrd
    have HEb := l1Encode_any ao o.length oc o _ rfl hrd hBo (by omega)
    obtain ⟨tu, ht1, ht2⟩ := told_sum o (by rw [toldW_len]; have := enc_few h4o; omega)
    go_wp2_with fail
    refine (HSf _ hb1).mono ?_
    rintro e w' ⟨rfl, rfl⟩
    clear HSf
    cases sf with
    | true =>
      have HM : Hid (_) := HS.out (by first | rfl | trivial) (by first | rfl | trivial)
      clear HS HMn HT HI HB HEb ht1 ht2
      go_wp2
      go_ret2
      rw [HM.out]
      exact ⟨rfl, hb1⟩
    | false =>
      go_wp2_with fail
      refine HEb.mono ?_
      rintro e w2 ⟨rfl, hb2⟩
      have hbw2 := hb1.trans (hb2.mono hb1.size)
      clear hb2 HEb
      by_cases h4 : 400 < (toldW o).length
      · have h4' : (400 : Int) < ((toldW o).length : Int) := by omega
        have HM : Hid (_) := HMn.out (by first | rfl | trivial) (by first | rfl | trivial) h4
        have hsz : (str (toldW o)).size = (toldW o).length := str_size _
        clear HS HMn HT HI HB
        generalize toldW o = tw at *
        go_wp2
        go_ret2
        rw [HM.out]
        exact ⟨rfl, hbw2⟩
      · have h4' : ¬ (400 : Int) < ((toldW o).length : Int) := by omega
        have HM : Hid (_) := HT.out (by first | rfl | trivial) (by first | rfl | trivial) h4
        have hsz : (str (toldW o)).size = (toldW o).length := str_size _
        clear HS HMn HT HI HB
        generalize toldW o = tw at *
        go_wp2
        go_ret2
        rw [HM.out]
        exact ⟨rfl, hbw2⟩
  · have HM : Hid (_) := HB.out hc
    clear HS HMn HT HI HB HSf
    have hc' : (c == 0) = false := by simp [hc]
    go_wp2
    go_ret2
    rw [HM.out]
    exact ⟨rfl, hb1⟩

end Go.Proofs.Ytpgjichcpnjeoaa

namespace Go.Proofs.Ytpgjichcpnjeoaa
open Go.RowKit

/-- What EncodeWords tells is plain. -/
theorem ew_plain (l : List Int) : ∀ x ∈ (ewV l).2, 1 ≤ x ∧ x ≤ 127 := by
  by_cases hz : (encT 4 l).1 = 0
  · obtain ⟨hf, he, hlen⟩ := encT_zero hz
    have hch := (flt_zero hf).2
    cases hs : sfV l with
    | true =>
      rw [ewV_self hz hs]
      have hs' := hs
      rw [sfV_eq, Bool.and_eq_true] at hs'
      intro x hx
      rw [he] at hx
      have hb := List.all_eq_true.1 ((flat_bos l hch).trans hs'.1) x hx
      have := of_decide_eq_true hb
      omega
    | false =>
      by_cases h4 : 400 < (toldW (encT 4 l).2).length
      · rw [ewV_many hz hs h4]; intro x hx; cases hx
      · rw [ewV_told hz hs h4]
        intro x hx
        unfold toldW at hx
        have hp := Xf.enc_plain (encT 4 l).2 (encT_isB hz)
        rcases List.mem_append.1 hx with hx | hx
        · rcases List.mem_append.1 hx with hx | hx
          · have : ∀ y ∈ twB, 1 ≤ y ∧ y ≤ 127 := by decide
            exact this x hx
          · have := hp x hx; omega
        · have : ∀ y ∈ ([63, 61] : List Nat), 1 ≤ y ∧ y ≤ 127 := by decide
          exact this x hx
  · rw [ewV_bad hz]; intro x hx; cases hx
theorem ew_len (l : List Int) : (ewV l).2.length ≤ 400 := by
  by_cases hz : (encT 4 l).1 = 0
  · cases hs : sfV l with
    | true => rw [ewV_self hz hs]; exact (encT_zero hz).2.2
    | false =>
      by_cases h4 : 400 < (toldW (encT 4 l).2).length
      · rw [ewV_many hz hs h4]; exact Nat.zero_le _
      · rw [ewV_told hz hs h4]; show (toldW (encT 4 l).2).length ≤ 400; omega
  · rw [ewV_bad hz]; exact Nat.zero_le _
theorem ew_isB (l : List Int) : IsB (ewV l).2 := fun x hx => by have := ew_plain l x hx; omega
end Go.Proofs.Ytpgjichcpnjeoaa
