/- The bytes that a told word tells, the program's. -/
import Derived.Test.YtknbndebfickpaaGreatDoorWpEToFld
import Derived.Test.YtknbndebfickpaaGreatDoorEwp
import Derived.Test.YtknbndebfickpaaGreatDoorDecB2
import Derived.Test.YtknbndebfickpaaGreatDoorDecQ2
import Derived.Test.YtknbndebfickpaaGreatDoorWrd4a
namespace Go.Proofs.YtknbndebfickpaaGreatDoor
open Go.RowKit

/-- Bytes, or a code. -/
def obV (o : Option (List Nat)) : Int × List Nat := match o with
  | some bs => (0, bs)
  | none => (7, [])
theorem decQ_rep {t : List Nat} (ht : t.length ≤ 400) (ha : t.all seenB = true) : decQ (repU t) = obV (ltV t) := by
  unfold decQ
  have h1 := repU_len t
  rw [if_neg (by omega), unq_repU t.length t (Nat.le_refl _) ha]
  cases h : ltV t with
  | none => rfl
  | some bs =>
    have := (ltV_len t.length t bs (Nat.le_refl _) h).1
    show (if 400 < bs.length then _ else _) = _
    rw [if_neg (by omega)]; rfl
theorem decB_obV {t : List Nat} (ht : t.length ≤ 400) : decB t = obV (Xf.dec t) := by
  unfold decB
  rw [if_neg (by omega)]
  cases h : Xf.dec t with
  | none => rfl
  | some bs =>
    have := (dec_few h).1
    show (if 400 < bs.length then _ else _) = _
    rw [if_neg (by omega)]; rfl

set_option maxHeartbeats 1600000 in
set_option maxRecDepth 100000 in
theorem quotedBytes_any (t : List Nat) (n : Nat) (w : World) (hl : t.length = n) (hB : IsB t) (hn : n ≤ 400) (hh : TabH w) (hm : MaxI w) :
    Calls Tryz.prog 69 #[.string (str t)] w fun e w' => BytEnd (obV (ltV t)) w e w' := by
  have hb0 : Below w.heap.size w (w.alloc (.cells #[.int .i64 0, .slice none 0 0] 50)) := (Below.refl _ _).alloc (Nat.le_refl _) _
  have hsW : (w.alloc (.cells #[.int .i64 0, .slice none 0 0] 50)).heap.size = w.heap.size + 1 := by simp
  have HA := fun w => areBytes_seen t n w hl hB (by omega)
  cases ha : t.all seenB with
  | false =>
    have HM : Hid (ltV t = none) := ltV_unseen t.length t (Nat.le_refl _) ha
    rw [ha] at HA
    go_enter Tryz.func69, Tryz.ntmps69
    go_wp2_with fail
    refine (HA _).mono ?_
    rintro e w1 ⟨rfl, rfl⟩
    go_wp2
    go_returns
    rw [HM.out]
    exact ⟨_, rfl, Own.nil _ _, by go_grown⟩
  | true =>
    obtain ⟨m, hm'⟩ := hm.below hb0
    have HR := Tryz.strings_ReplaceAll (str t) ⟨#[95]⟩ ⟨#[61, 50, 48]⟩ m _ (by rw [str_size]; omega) hm' (by decide) (by
      have := Lib.countB_le ⟨#[95]⟩ (by decide) (str t).size (str t) (Nat.le_refl _)
      rw [str_size] at this ⊢
      have e : (⟨#[61, 50, 48]⟩ : ByteArray).size = 3 := rfl
      rw [e]; omega)
    rw [show (⟨#[95]⟩ : ByteArray).data.toList = [95] from rfl, show (⟨#[61, 50, 48]⟩ : ByteArray).data.toList = [61, 50, 48] from rfl, replAll t hB] at HR
    have HD := fun w (hw : TabH w) => implDecodeQuoted_any (repU t) _ w rfl (repU_isB hB) hw
    rw [decQ_rep (by omega) ha] at HD
    rw [ha] at HA
    have hh0 := hh.below hb0
    generalize obV (ltV t) = r at *
    generalize str (repU t) = s at *
    go_enter Tryz.func69, Tryz.ntmps69
    go_wp2_with fail
    refine (HA _).mono ?_
    rintro e w1 ⟨rfl, rfl⟩
    go_wp2_with fail
    refine HR.mono ?_
    rintro e w2 ⟨rfl, hb2⟩
    go_wp2_with fail
    refine (HD _ (hh0.below hb2)).mono ?_
    rintro e w3 ⟨v, rfl, hown, hb3⟩
    generalize hW : w.alloc (.cells #[.int .i64 0, .slice none 0 0] 50) = W at *
    have hbl : Below (w.heap.size + 1) W w3 := (hb2.trans (hb3.mono hb2.size)).mono (by omega)
    have hown3 := hown.lower (C := w.heap.size + 1) (by have := hb2.size; omega)
    have hbw := hb0.trans (hbl.mono (by omega))
    obtain ⟨hcw, hcw1, hfw, hfw1⟩ := res_block hW hbl
    obtain ⟨c, o⟩ := r
    simp only at hown3
    obtain ⟨ao, oc, rfl, -, -⟩ := hown3.form
    obtain ⟨hk0, hk1⟩ := res_cells hcw hcw1 (.int .i64 c) (.slice ao o.length oc)
    clear hown hb2 hb3 HR HD HA
    go_wp2
    refine bodyPost_ret (v := .agg #[.int .i64 c, .slice ao o.length oc]) (by simp [results, Tryz.results69, go_sem, hk0, hk1]) rfl ?_
    exact BytEnd.some hbw hown3 _ _
theorem str_eqB {p : List Nat} {c : Nat} (hB : IsB p) (hc : c < 256) : ((str p).toList == [UInt8.ofNat c]) = decide (p = [c]) := by
  rw [Bool.eq_iff_iff, beq_iff_eq, decide_eq_true_iff, ByteArray.toList_eq, show (str p).data.toList = p.map UInt8.ofNat by simp [str]]
  constructor
  · intro h
    match p, hB, h with
    | [], _, h => cases h
    | [x], hB, h =>
      have hx := hB x (by simp)
      have := congrArg UInt8.toNat (List.cons.inj h).1
      rw [UInt8.toNat_ofNat', UInt8.toNat_ofNat'] at this
      congr 1
      omega
    | x :: y :: p, _, h => simp at h
  · intro h; rw [h]; rfl
theorem BytEnd.store {r : Int × List Nat} {w W w3 : World} {v : Value} (hW : w.alloc (.cells #[.int .i64 0, .slice none 0 0] 50) = W) (hown : Own w3 W.heap.size v r.2) (hb3 : Below W.heap.size W w3) :
    Below (w.heap.size + 1) W w3 ∧ Own w3 (w.heap.size + 1) v r.2 := by
  have hs : W.heap.size = w.heap.size + 1 := by rw [← hW]; simp
  exact ⟨hb3.mono (by omega), hown.lower (by omega)⟩

set_option maxHeartbeats 1600000 in
set_option maxRecDepth 100000 in
theorem toldBytes_any (p t : List Nat) (n : Nat) (w : World) (hBp : IsB p) (hl : t.length = n) (hB : IsB t) (hn : n ≤ 400) (ht : TabB w) (hh : TabH w) (hm : MaxI w) :
    Calls Tryz.prog 52 #[.string (str p), .string (str t)] w fun e w' => BytEnd (obV (toldP p t)) w e w' := by
  have hb0 : Below w.heap.size w (w.alloc (.cells #[.int .i64 0, .slice none 0 0] 50)) := (Below.refl _ _).alloc (Nat.le_refl _) _
  have c1 := str_eqB (p := p) (c := 66) hBp (by omega)
  have c2 := str_eqB (p := p) (c := 98) hBp (by omega)
  have c3 := str_eqB (p := p) (c := 81) hBp (by omega)
  have c4 := str_eqB (p := p) (c := 113) hBp (by omega)
  rw [show UInt8.ofNat 66 = (66 : UInt8) from rfl] at c1
  rw [show UInt8.ofNat 98 = (98 : UInt8) from rfl] at c2
  rw [show UInt8.ofNat 81 = (81 : UInt8) from rfl] at c3
  rw [show UInt8.ofNat 113 = (113 : UInt8) from rfl] at c4
  generalize str p = s at *
  by_cases h1 : p = [66] ∨ p = [98]
  · have HM : Hid (obV (toldP p t) = decB t) := by
      show _ = _
      rw [decB_obV (by omega)]
      rcases h1 with rfl | rfl <;> rfl
    have HD := implDecodeBase_any t n _ hl hB (ht.below hb0)
    rw [HM.out]
    generalize decB t = r at *
    clear HM c3 c4 hBp
    by_cases h2 : p = [66]
    · rw [decide_eq_true h2] at c1
      clear c2 h1 h2
      go_enter Tryz.func52, Tryz.ntmps52
      go_wp2_with fail
      refine HD.mono ?_
      rintro e w3 ⟨v, rfl, hown, hb3⟩
      generalize hW : w.alloc (.cells #[.int .i64 0, .slice none 0 0] 50) = W at *
      obtain ⟨hbl, hown3⟩ := BytEnd.store (r := r) hW hown hb3
      have hbw := hb0.trans (hbl.mono (by omega))
      obtain ⟨hcw, hcw1, hfw, hfw1⟩ := res_block hW hbl
      obtain ⟨c, o⟩ := r
      simp only at hown3
      obtain ⟨ao, oc, rfl, -, -⟩ := hown3.form
      obtain ⟨hk0, hk1⟩ := res_cells hcw hcw1 (.int .i64 c) (.slice ao o.length oc)
      clear hown hb3 HD
      go_wp2
      refine bodyPost_ret (v := .agg #[.int .i64 c, .slice ao o.length oc]) (by simp [results, Tryz.results52, go_sem, hk0, hk1]) rfl ?_
      exact BytEnd.some hbw hown3 _ _
    · have h3 : p = [98] := h1.resolve_left h2
      rw [decide_eq_false h2] at c1
      rw [decide_eq_true h3] at c2
      clear h1 h2 h3
      go_enter Tryz.func52, Tryz.ntmps52
      go_wp2_with fail
      refine HD.mono ?_
      rintro e w3 ⟨v, rfl, hown, hb3⟩
      generalize hW : w.alloc (.cells #[.int .i64 0, .slice none 0 0] 50) = W at *
      obtain ⟨hbl, hown3⟩ := BytEnd.store (r := r) hW hown hb3
      have hbw := hb0.trans (hbl.mono (by omega))
      obtain ⟨hcw, hcw1, hfw, hfw1⟩ := res_block hW hbl
      obtain ⟨c, o⟩ := r
      simp only at hown3
      obtain ⟨ao, oc, rfl, -, -⟩ := hown3.form
      obtain ⟨hk0, hk1⟩ := res_cells hcw hcw1 (.int .i64 c) (.slice ao o.length oc)
      clear hown hb3 HD
      go_wp2
      refine bodyPost_ret (v := .agg #[.int .i64 c, .slice ao o.length oc]) (by simp [results, Tryz.results52, go_sem, hk0, hk1]) rfl ?_
      exact BytEnd.some hbw hown3 _ _
  · have n1 : p ≠ [66] := fun h => h1 (.inl h)
    have n2 : p ≠ [98] := fun h => h1 (.inr h)
    rw [decide_eq_false n1] at c1
    rw [decide_eq_false n2] at c2
    by_cases h2 : p = [81] ∨ p = [113]
    · have HM : Hid (obV (toldP p t) = obV (ltV t)) := by
        show _ = _
        rcases h2 with rfl | rfl <;> rfl
      have HD := quotedBytes_any t n _ hl hB hn (hh.below hb0) (hm.below hb0)
      rw [HM.out]
      generalize obV (ltV t) = r at *
      clear HM hBp n1 n2 h1
      by_cases h4 : p = [81]
      · rw [decide_eq_true h4] at c3
        clear c4 h2 h4
        go_enter Tryz.func52, Tryz.ntmps52
        go_wp2_with fail
        refine HD.mono ?_
        rintro e w3 ⟨v, rfl, hown, hb3⟩
        generalize hW : w.alloc (.cells #[.int .i64 0, .slice none 0 0] 50) = W at *
        obtain ⟨hbl, hown3⟩ := BytEnd.store (r := r) hW hown hb3
        have hbw := hb0.trans (hbl.mono (by omega))
        obtain ⟨hcw, hcw1, hfw, hfw1⟩ := res_block hW hbl
        obtain ⟨c, o⟩ := r
        simp only at hown3
        obtain ⟨ao, oc, rfl, -, -⟩ := hown3.form
        obtain ⟨hk0, hk1⟩ := res_cells hcw hcw1 (.int .i64 c) (.slice ao o.length oc)
        clear hown hb3 HD
        go_wp2
        refine bodyPost_ret (v := .agg #[.int .i64 c, .slice ao o.length oc]) (by simp [results, Tryz.results52, go_sem, hk0, hk1]) rfl ?_
        exact BytEnd.some hbw hown3 _ _
      · have h3 : p = [113] := h2.resolve_left h4
        rw [decide_eq_false h4] at c3
        rw [decide_eq_true h3] at c4
        clear h2 h3 h4
        go_enter Tryz.func52, Tryz.ntmps52
        go_wp2_with fail
        refine HD.mono ?_
        rintro e w3 ⟨v, rfl, hown, hb3⟩
        generalize hW : w.alloc (.cells #[.int .i64 0, .slice none 0 0] 50) = W at *
        obtain ⟨hbl, hown3⟩ := BytEnd.store (r := r) hW hown hb3
        have hbw := hb0.trans (hbl.mono (by omega))
        obtain ⟨hcw, hcw1, hfw, hfw1⟩ := res_block hW hbl
        obtain ⟨c, o⟩ := r
        simp only at hown3
        obtain ⟨ao, oc, rfl, -, -⟩ := hown3.form
        obtain ⟨hk0, hk1⟩ := res_cells hcw hcw1 (.int .i64 c) (.slice ao o.length oc)
        clear hown hb3 HD
        go_wp2
        refine bodyPost_ret (v := .agg #[.int .i64 c, .slice ao o.length oc]) (by simp [results, Tryz.results52, go_sem, hk0, hk1]) rfl ?_
        exact BytEnd.some hbw hown3 _ _
    · have n3 : p ≠ [81] := fun h => h2 (.inl h)
      have n4 : p ≠ [113] := fun h => h2 (.inr h)
      rw [decide_eq_false n3] at c3
      rw [decide_eq_false n4] at c4
      have HM : Hid (toldP p t = none) := by
        show _ = _
        unfold toldP
        split
        · rename_i h
          match p, h with
          | [x], _ =>
            refine toldV_no (fun h => ?_) (fun h => ?_)
            · rcases h with h | h
              · exact n1 (congrArg (fun y => [y]) h)
              · exact n2 (congrArg (fun y => [y]) h)
            · rcases h with h | h
              · exact n3 (congrArg (fun y => [y]) h)
              · exact n4 (congrArg (fun y => [y]) h)
        · rfl
      rw [HM.out]
      clear h1 h2 n1 n2 n3 n4 HM hBp
      go_enter Tryz.func52, Tryz.ntmps52
      go_wp2
      go_returns
      exact ⟨_, rfl, Own.nil _ _, by go_grown⟩
end Go.Proofs.YtknbndebfickpaaGreatDoor
