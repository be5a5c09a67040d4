/- EncodeWords, the program's, at every slice of characters; the bytes that are seen. -/
import Derived.Test.YtknbndebfickpaaDoorEwMToWpm
import Derived.Test.YtknbndebfickpaaDoorEncBToEncB2
import Derived.Test.YtknbndebfickpaaDoorEncB3ToDecB3
import Derived.Test.YtknbndebfickpaaDoorWPl
import Derived.Test.YtknbndebfickpaaDoorShfToFld
import Derived.Handy
namespace Go.Proofs.YtknbndebfickpaaDoor
open Go.RowKit

theorem isSeen_any (c : Nat) (w : World) (hc : c < 256) : Calls Tryd.prog 42 #[.int .u8 (c : Int)] w fun e w' => e = .returned (.bool (seenB c)) ∧ w = w' := by
  go_enter Tryd.func42, Tryd.ntmps42
  go_wp2
  all_goals (go_ret; refine ret_bool ?_; rw [Bool.eq_iff_iff]; unfold seenB; simp; try omega)
theorem isBlankOrSeen_any (c : Nat) (w : World) (hc : c < 256) : Calls Tryd.prog 24 #[.int .u8 (c : Int)] w fun e w' => e = .returned (.bool (bosB c)) ∧ w = w' := by
  by_cases h : c = 32
  · subst h
    go_enter Tryd.func24, Tryd.ntmps24
    go_wp2
    go_ret
    exact ⟨rfl, rfl⟩
  · have h' : ((c : Int) == 32) = false := by simp; omega
    have HM : Hid (bosB c = seenB c) := decide_eq_decide.2 (by omega)
    have HC := isSeen_any c w hc
    generalize seenB c = b at *
    go_enter Tryd.func24, Tryd.ntmps24
    go_wp2_with fail
    refine HC.mono ?_
    rintro e w' ⟨rfl, rfl⟩
    go_wp2
    go_ret
    exact ⟨by rw [HM.out]; simp, rfl⟩

set_option maxHeartbeats 1600000 in
set_option maxRecDepth 100000 in
theorem areBytes_seen (t : List Nat) (n : Nat) (w : World) (hl : t.length = n) (hB : IsB t) (hn : n ≤ 1048576) :
    Calls Tryd.prog 23 #[.string (str t), .func (.func 42) #[] #[]] w fun e w' => e = .returned (.bool (t.all seenB)) ∧ w = w' := by
  have hsz : (str t).size = n := by rw [str_size, hl]
  have HL : Hid (t.length = n) := hl
  clear hl
  go_enter Tryd.func23, Tryd.ntmps23
  go_wp2
  go_loop [8] (fun v => ∃ k : Nat, k ≤ n ∧ v = .int .i64 k ∧ (t.take k).all seenB = true) (fun v => n - (intOf v).toNat)
  case atStart => exact ⟨0, Nat.zero_le _, rfl, by simp⟩
  case round =>
    obtain ⟨k, hk, rfl, hall⟩ := hrel
    by_cases hkn : k < n
    · have hki : (k : Int) < (n : Int) := by omega
      have g0 := str_get hB (i := k) (by rw [hsz]; exact hkn)
      have HY : Hid (seenB (nth t k) = true → (t.take (k + 1)).all seenB = true) := fun h => allN_step (by have := HL.out; omega) hall h
      have HN : Hid (seenB (nth t k) = false → t.all seenB = false) := fun h => allN_bad (by have := HL.out; omega) h
      have hx := nth_lt hB k
      have HC : Hid (∀ w, Calls Tryd.prog 42 #[.int .u8 (nth t k : Int)] w fun e w' => e = .returned (.bool (seenB (nth t k))) ∧ w = w') := fun w => isSeen_any (nth t k) w hx
      generalize hbv : seenB (nth t k) = bv at *
      clear hbv hall
      generalize nth t k = x at *
      cases bv with
      | true =>
        have HM : Hid (_) := HY.out rfl
        clear HY HN
        go_wp2_with fail
        refine (HC.out _).mono ?_
        rintro e w' ⟨rfl, rfl⟩
        go_wp2
        go_round
        case rel => exact ⟨k + 1, by omega, by go_num, HM.out⟩
        case measure => simp [intOf]; omega
      | false =>
        have HM : Hid (_) := HN.out rfl
        clear HY HN
        go_wp2_with fail
        refine (HC.out _).mono ?_
        rintro e w' ⟨rfl, rfl⟩
        go_wp2
        go_ret
        exact ⟨by rw [HM.out]; rfl, rfl⟩
    · have hki : ¬ (k : Int) < (n : Int) := by omega
      have HM : Hid (t.all seenB = true) := by
        show _ = _
        rw [show k = t.length by have := HL.out; omega, List.take_length] at hall
        exact hall
      clear hall
      go_wp2
      go_ret
      exact ⟨by rw [HM.out]; rfl, rfl⟩

set_option maxHeartbeats 1600000 in
set_option maxRecDepth 100000 in
theorem areBytes_self (t : List Nat) (n : Nat) (w : World) (hl : t.length = n) (hB : IsB t) (hn : n ≤ 1048576) :
    Calls Tryd.prog 23 #[.string (str t), .func (.func 24) #[] #[]] w fun e w' => e = .returned (.bool (t.all bosB)) ∧ w = w' := by
  have hsz : (str t).size = n := by rw [str_size, hl]
  have HL : Hid (t.length = n) := hl
  clear hl
  go_enter Tryd.func23, Tryd.ntmps23
  go_wp2
  go_loop [8] (fun v => ∃ k : Nat, k ≤ n ∧ v = .int .i64 k ∧ (t.take k).all bosB = true) (fun v => n - (intOf v).toNat)
  case atStart => exact ⟨0, Nat.zero_le _, rfl, by simp⟩
  case round =>
    obtain ⟨k, hk, rfl, hall⟩ := hrel
    by_cases hkn : k < n
    · have hki : (k : Int) < (n : Int) := by omega
      have g0 := str_get hB (i := k) (by rw [hsz]; exact hkn)
      have HY : Hid (bosB (nth t k) = true → (t.take (k + 1)).all bosB = true) := fun h => allN_step (by have := HL.out; omega) hall h
      have HN : Hid (bosB (nth t k) = false → t.all bosB = false) := fun h => allN_bad (by have := HL.out; omega) h
      have hx := nth_lt hB k
      have HC : Hid (∀ w, Calls Tryd.prog 24 #[.int .u8 (nth t k : Int)] w fun e w' => e = .returned (.bool (bosB (nth t k))) ∧ w = w') := fun w => isBlankOrSeen_any (nth t k) w hx
      generalize hbv : bosB (nth t k) = bv at *
      clear hbv hall
      generalize nth t k = x at *
      cases bv with
      | true =>
        have HM : Hid (_) := HY.out rfl
        clear HY HN
        go_wp2_with fail
        refine (HC.out _).mono ?_
        rintro e w' ⟨rfl, rfl⟩
        go_wp2
        go_round
        case rel => exact ⟨k + 1, by omega, by go_num, HM.out⟩
        case measure => simp [intOf]; omega
      | false =>
        have HM : Hid (_) := HN.out rfl
        clear HY HN
        go_wp2_with fail
        refine (HC.out _).mono ?_
        rintro e w' ⟨rfl, rfl⟩
        go_wp2
        go_ret
        exact ⟨by rw [HM.out]; rfl, rfl⟩
    · have hki : ¬ (k : Int) < (n : Int) := by omega
      have HM : Hid (t.all bosB = true) := by
        show _ = _
        rw [show k = t.length by have := HL.out; omega, List.take_length] at hall
        exact hall
      clear hall
      go_wp2
      go_ret
      exact ⟨by rw [HM.out]; rfl, rfl⟩

/-- The library's own bound lies in its variable. -/
def MaxI (w : World) : Prop := ∃ m, w.cell? ⟨2, 0, none⟩ = some (.int .i64 m)
theorem MaxI.below {w w' : World} (h : MaxI w) (hb : Below w.heap.size w w') : MaxI w' := by
  obtain ⟨m, hm⟩ := h
  exact ⟨m, (hb.cell (p := ⟨2, 0, none⟩) (World.block_lt_of_cell? _ _ hm)).trans hm⟩
theorem contains_any (t : List Nat) (n : Nat) (w : World) (hl : t.length = n) (hB : IsB t) (hn : n ≤ 1048576) (hm : MaxI w) : Calls Tryd.prog 25 #[.string (str t), .string ⟨#[61, 63]⟩] w fun e w' => e = .returned (.bool (eqq t)) ∧ w = w' := by
  obtain ⟨m, hm⟩ := hm
  have h := Tryd.strings_Contains (str t) ⟨#[61, 63]⟩ m w (by rw [str_size]; omega) hm
  rw [show (⟨#[61, 63]⟩ : ByteArray).data.toList = [61, 63] from rfl, show (str t).data.toList = t.map UInt8.ofNat by simp [str], contains_eqq t hB] at h
  exact h.mono fun e w' h => ⟨h.1, h.2.symm⟩
theorem str_sum (a b : List Nat) : str (a ++ b) = str a ++ str b := by
  unfold str
  apply ByteArray.ext
  simp [ByteArray.data_append]
theorem told_sum (o : List Nat) (h : (toldW o).length ≤ 1048576) : ∃ u : ByteArray, (∀ w, (Op.stringOp .add ⟨#[61, 63, 117, 116, 102, 45, 56, 63, 66, 63]⟩ (str (Xf.enc o))).run Tryd.prog w = .ok (.string u) w) ∧ ∀ w, (Op.stringOp .add u ⟨#[63, 61]⟩).run Tryd.prog w = .ok (.string (str (toldW o))) w := by
  rw [toldW_len] at h
  have e0 : (⟨#[61, 63, 117, 116, 102, 45, 56, 63, 66, 63]⟩ : ByteArray) = str twB := rfl
  have e1 : (⟨#[63, 61]⟩ : ByteArray) = str [63, 61] := rfl
  refine ⟨str (twB ++ Xf.enc o), fun w => ?_, fun w => ?_⟩
  · rw [e0, str_sum]
    exact run_string_add_sum w _ _ (by rw [str_size, str_size]; simp only [twB, List.length_cons, List.length_nil]; omega)
  · unfold toldW
    rw [e1, str_sum (twB ++ Xf.enc o)]
    exact run_string_add_sum w _ _ (by rw [str_size, str_size, List.length_append]; simp only [twB, List.length_cons, List.length_nil]; omega)
theorem enc_few {o : List Nat} (h : o.length ≤ 400) : (Xf.enc o).length ≤ 1000 := by
  rw [Xf.enc_len]; omega

/-- An answer with a text. -/
def TxtEnd (r : Int × List Nat) (w : World) (e : Ending) (w' : World) : Prop := e = .returned (.agg #[.int .i64 r.1, .string (str r.2)]) ∧ Below w.heap.size w w'
theorem TxtEnd.put {r : Int × List Nat} {w w1 : World} (hbel : Below w.heap.size w w1) (x y : Value) : TxtEnd r w (.returned (.agg #[.int .i64 r.1, .string (str r.2)])) ((w1.setCell ⟨w.heap.size, 0, none⟩ x).setCell ⟨w.heap.size, 1, none⟩ y) :=
  ⟨rfl, (hbel.setCell (by simp) _).setCell (by simp) _⟩

set_option maxHeartbeats 3200000 in
set_option maxRecDepth 100000 in
theorem encodeWords_any (a : Option Addr) (n cap : Nat) (l : List Int) (w : World) (hl : l.length = n) (hr : RdI w a l) (hn : n ≤ 1048576) (ht : TabB w) (hm : MaxI w) :
    Calls Tryd.prog 12 #[.slice a n cap] w fun e w' => TxtEnd (ewV l) w e w' := by
  have hb0 : Below w.heap.size w (w.alloc (.cells #[.int .i64 0, .string ⟨#[]⟩] 30)) := (Below.refl _ _).alloc (Nat.le_refl _) _
  have HE := encodeText_any 4 a n cap l _ hl (hr.below hb0) hn
  have hsW : (w.alloc (.cells #[.int .i64 0, .string ⟨#[]⟩] 30)).heap.size = w.heap.size + 1 := by simp
  have HB : Hid ((encT 4 l).1 ≠ 0 → ewV l = ((encT 4 l).1, [])) := ewV_bad
  have HS : Hid ((encT 4 l).1 = 0 → sfV l = true → ewV l = (0, (encT 4 l).2)) := ewV_self
  have HMn : Hid ((encT 4 l).1 = 0 → sfV l = false → 400 < (toldW (encT 4 l).2).length → ewV l = (2, [])) := ewV_many
  have HT : Hid ((encT 4 l).1 = 0 → sfV l = false → ¬ 400 < (toldW (encT 4 l).2).length → ewV l = (0, toldW (encT 4 l).2)) := ewV_told
  have HI : Hid ((encT 4 l).1 = 0 → IsB (encT 4 l).2 ∧ (encT 4 l).2.length ≤ 400 ∧ ((encT 4 l).2.all bosB && !eqq (encT 4 l).2) = sfV l) := fun h => by
    obtain ⟨hf, he, h4⟩ := encT_zero h
    exact ⟨encT_isB h, h4, by rw [he]; exact self_bytes l (flt_zero hf).2⟩
  clear hr hl
  generalize encT 4 l = r at *
  obtain ⟨c, o⟩ := r
  generalize sfV l = sf at *
  generalize ewV l = x at *
  simp only at HB HS HMn HT HI
  go_enter Tryd.func12, Tryd.ntmps12
  go_wp2_with fail
  refine HE.mono ?_
  rintro e w1 ⟨v, rfl, hown, hb1⟩
  simp only at hown
  have hbl : Below (w.heap.size + 1) (w.alloc (.cells #[.int .i64 0, .string ⟨#[]⟩] 30)) w1 := hb1.mono (by simp)
  clear HE hb1
  generalize hW : w.alloc (.cells #[.int .i64 0, .string ⟨#[]⟩] 30) = W at *
  rw [hsW] at hown
  have hz1 := hbl.size
  rw [hsW] at hz1
  obtain ⟨ao, oc, rfl, ho1, ho2⟩ := hown.form
  have hrd := hown.rd.2
  have hbA : Below w1.heap.size w1 (w1.alloc (.cells #[.int .i64 c, .slice ao o.length oc] 46)) := (Below.refl _ _).alloc (Nat.le_refl _) _
  have hblA := hbl.trans (hbA.mono hz1)
  have hbwA := hb0.trans (hblA.mono (by omega))
  have hrA := hrd.below hbA
  have htA := ht.below hbwA
  have hmA := hm.below hbwA
  obtain ⟨hcw, hcw1, hfw, hfw1⟩ := res_block hW hblA
  have hne : w.heap.size ≠ w1.heap.size := by omega
  have hlt1 : w.heap.size < w1.heap.size := by omega
  by_cases hc : c = 0
  · subst hc
    obtain ⟨hBo, h4o, HX⟩ := HI.out (by first | rfl | trivial)
    have HX' : Hid (_) := HX
    clear HX
    have hst := run_str (cap := oc) (n := o.length) rfl hrA
    have HA : ∀ w, Calls Tryd.prog 23 #[.string (str o), .func (.func 24) #[] #[]] w fun e w' => e = .returned (.bool (o.all bosB)) ∧ w = w' := fun w => areBytes_self o o.length w rfl hBo (by omega)
    have HC := contains_any o o.length _ rfl hBo (by omega) hmA
    have HEb := implEncodeBase_few ao o.length oc o _ rfl hrA hBo ho1 h4o htA
    clear hrd hown hrA htA hmA hbA ht hm hbl
    obtain ⟨tu, ht1, ht2⟩ := told_sum o (by rw [toldW_len]; have := enc_few h4o; omega)
    have fT1 := fldT1
    go_wp2_with fail
    generalize hWA : w1.alloc (.cells #[.int .i64 0, .slice ao o.length oc] 46) = WA at *
    have hA1 : WA.cell? ⟨w1.heap.size, 1, none⟩ = some (.slice ao o.length oc) := by rw [← hWA]; simp
    generalize o.all bosB = b1 at *
    generalize eqq o = b2 at *
    cases b1 with
    | false =>
      have HF : Hid (sf = false) := HX'.out.symm
      clear HC HX'
      refine (HA _).mono ?_
      rintro e w' ⟨rfl, rfl⟩
      go_wp2_with fail
      refine HEb.mono ?_
      rintro e w2 ⟨rfl, hb2⟩
      have hsA : w.heap.size + 1 ≤ WA.heap.size := by have := hblA.size; omega
      have hbl2 := hblA.trans (hb2.mono hsA)
      have hbw2 := hb0.trans (hbl2.mono (by omega))
      obtain ⟨hcw2, hcw21, hfw2, hfw21⟩ := res_block hW hbl2
      clear hb2 HEb hcw hcw1 hfw hfw1 hA1 hWA
      by_cases h4 : 400 < (toldW o).length
      · have h4' : (400 : Int) < ((toldW o).length : Int) := by omega
        have HM : Hid (_) := HMn.out (by first | rfl | trivial) HF.out h4
        have hsz : (str (toldW o)).size = (toldW o).length := str_size _
        clear HS HMn HT HI HB
        generalize toldW o = tw at *
        obtain ⟨hk0, hk1⟩ := res_cells hcw2 hcw21 (.int .i64 2) (.string ⟨#[]⟩)
        go_wp2
        refine bodyPost_ret (v := .agg #[.int .i64 2, .string ⟨#[]⟩]) (by simp [results, Tryd.results12, go_sem, hk0, hk1]) rfl ?_
        rw [HM.out]
        exact TxtEnd.put (r := (2, [])) hbw2 _ _
      · have h4' : ¬ (400 : Int) < ((toldW o).length : Int) := by omega
        have HM : Hid (_) := HT.out (by first | rfl | trivial) HF.out h4
        have hsz : (str (toldW o)).size = (toldW o).length := str_size _
        clear HS HMn HT HI HB
        generalize toldW o = tw at *
        obtain ⟨hk0, hk1⟩ := res_cells hcw2 hcw21 (.int .i64 0) (.string (str tw))
        go_wp2
        refine bodyPost_ret (v := .agg #[.int .i64 0, .string (str tw)]) (by simp [results, Tryd.results12, go_sem, hk0, hk1]) rfl ?_
        rw [HM.out]
        exact TxtEnd.put (r := (0, tw)) hbw2 _ _
    | true =>
      cases b2 with
      | false =>
        have HF : Hid (sf = true) := HX'.out.symm
        have HM : Hid (_) := HS.out (by first | rfl | trivial) HF.out
        clear HX' HS HMn HT HI HB HEb ht1 ht2
        obtain ⟨hk0, hk1⟩ := res_cells hcw hcw1 (.int .i64 0) (.string (str o))
        refine (HA _).mono ?_
        rintro e w' ⟨rfl, rfl⟩
        go_wp2_with fail
        refine HC.mono ?_
        rintro e w' ⟨rfl, rfl⟩
        go_wp2
        refine bodyPost_ret (v := .agg #[.int .i64 0, .string (str o)]) (by simp [results, Tryd.results12, go_sem, hk0, hk1]) rfl ?_
        rw [HM.out]
        exact TxtEnd.put (r := (0, o)) hbwA _ _
      | true =>
        have HF : Hid (sf = false) := HX'.out.symm
        clear HX'
        refine (HA _).mono ?_
        rintro e w' ⟨rfl, rfl⟩
        go_wp2_with fail
        refine HC.mono ?_
        rintro e w' ⟨rfl, rfl⟩
        clear HC
        go_wp2_with fail
        refine HEb.mono ?_
        rintro e w2 ⟨rfl, hb2⟩
        have hsA : w.heap.size + 1 ≤ WA.heap.size := by have := hblA.size; omega
        have hbl2 := hblA.trans (hb2.mono hsA)
        have hbw2 := hb0.trans (hbl2.mono (by omega))
        obtain ⟨hcw2, hcw21, hfw2, hfw21⟩ := res_block hW hbl2
        clear hb2 HEb hcw hcw1 hfw hfw1 hA1 hWA
        by_cases h4 : 400 < (toldW o).length
        · have h4' : (400 : Int) < ((toldW o).length : Int) := by omega
          have HM : Hid (_) := HMn.out (by first | rfl | trivial) HF.out h4
          have hsz : (str (toldW o)).size = (toldW o).length := str_size _
          clear HS HMn HT HI HB
          generalize toldW o = tw at *
          obtain ⟨hk0, hk1⟩ := res_cells hcw2 hcw21 (.int .i64 2) (.string ⟨#[]⟩)
          go_wp2
          refine bodyPost_ret (v := .agg #[.int .i64 2, .string ⟨#[]⟩]) (by simp [results, Tryd.results12, go_sem, hk0, hk1]) rfl ?_
          rw [HM.out]
          exact TxtEnd.put (r := (2, [])) hbw2 _ _
        · have h4' : ¬ (400 : Int) < ((toldW o).length : Int) := by omega
          have HM : Hid (_) := HT.out (by first | rfl | trivial) HF.out h4
          have hsz : (str (toldW o)).size = (toldW o).length := str_size _
          clear HS HMn HT HI HB
          generalize toldW o = tw at *
          obtain ⟨hk0, hk1⟩ := res_cells hcw2 hcw21 (.int .i64 0) (.string (str tw))
          go_wp2
          refine bodyPost_ret (v := .agg #[.int .i64 0, .string (str tw)]) (by simp [results, Tryd.results12, go_sem, hk0, hk1]) rfl ?_
          rw [HM.out]
          exact TxtEnd.put (r := (0, tw)) hbw2 _ _
  · have HM : Hid (_) := HB.out hc
    clear HS HMn HT HI HB
    have hc' : (c == 0) = false := by simp [hc]
    obtain ⟨hdw, hdw1, hdf, hdf1⟩ := res_block hW hbl
    obtain ⟨hk0, hk1⟩ := res_cells hdw hdw1 (.int .i64 c) (.string ⟨#[]⟩)
    have hbw1 := hb0.trans (hbl.mono (by omega))
    have hq0 : ∀ ob, (((w1.setCell ⟨w.heap.size, 0, none⟩ (.int .i64 c)).setCell ⟨w.heap.size, 1, none⟩ (.string ⟨#[]⟩)).alloc ob).cell? ⟨w.heap.size, 0, none⟩ = some (.int .i64 c) := fun ob => by
      rw [World.cell?_alloc_old _ _ _ (by simp; omega)]
      simp [go_sem, hk0]
    have hq1 : ∀ ob, (((w1.setCell ⟨w.heap.size, 0, none⟩ (.int .i64 c)).setCell ⟨w.heap.size, 1, none⟩ (.string ⟨#[]⟩)).alloc ob).cell? ⟨w.heap.size, 1, none⟩ = some (.string ⟨#[]⟩) := fun ob => by
      rw [World.cell?_alloc_old _ _ _ (by simp; omega)]
      exact hk1
    clear hcw hcw1 hfw hfw1 hrA htA hmA
    go_wp2
    refine bodyPost_ret (v := .agg #[.int .i64 c, .string ⟨#[]⟩]) (by simp [results, Tryd.results12, go_sem, hq0, hq1]) rfl ?_
    rw [HM.out]
    exact ⟨rfl, ((hbw1.setCell (by simp) _).setCell (by simp) _).alloc (by simp; omega) _⟩
end Go.Proofs.YtknbndebfickpaaDoor
