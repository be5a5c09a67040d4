/- PackHeader, the program's, at every slice of fields: by the same plain function as the model's. -/
import Derived.Test.YtpgjichcpnjeoaaAppS
import Derived.Test.YtpgjichcpnjeoaaFdp
namespace Go.Proofs.Ytpgjichcpnjeoaa
open Go.RowKit

theorem lnF_parts (x y : ByteArray) : lnF (x, y) = ((bts x ++ [58, 32]) ++ bts y) ++ [10] := rfl

set_option maxHeartbeats 1600000 in
set_option maxRecDepth 100000 in
theorem packHeader_any (a : Option Addr) (n cap : Nat) (l : List FldP) (w : World) (hl : l.length = n) (hr : RdF w a l) (hn : n ≤ 1048576) (hfit : Fit l) :
    Calls Try.prog 11 #[.slice a n cap] w fun e w' => BytEnd (pkV l) w e w' := by
  have hb0 : Below w.heap.size w (w.alloc (.cells #[.int .i64 0, .slice none 0 0] 32)) := (Below.refl _ _).alloc (Nat.le_refl _) _
  have HF := fieldsFault_any a n cap l _ hl (hr.below hb0) hn hfit
  have HL : Hid (l.length = n) := hl
  have HB : Hid (fdF l ≠ 0 → pkV l = (fdF l, [])) := pkV_bad
  have HN : Hid (fdF l = 0 → 400 < (pkH l ++ [10]).length → pkV l = (2, [])) := pkV_many
  have HS : Hid (fdF l = 0 → ¬ 400 < (pkH l ++ [10]).length → pkV l = (0, pkH l ++ [10])) := pkV_ok
  have HT : Hid (fdF l = 0 → (pkH l).length ≤ 1224) := pkH_fit
  clear hfit hl
  generalize fdF l = c at *
  generalize pkV l = r at *
  go_enter Try.func11, Try.ntmps11
  go_wp2_with fail
  refine HF.mono ?_
  rintro e w1 ⟨rfl, hb1⟩
  have hbl : Below (w.heap.size + 1) (w.alloc (.cells #[.int .i64 0, .slice none 0 0] 32)) w1 := hb1.mono (by simp)
  have hsW : (w.alloc (.cells #[.int .i64 0, .slice none 0 0] 32)).heap.size = w.heap.size + 1 := by simp
  have hrW := hr.below hb0
  clear HF hb1 hr
  generalize hW : w.alloc (.cells #[.int .i64 0, .slice none 0 0] 32) = W at *
  have hbw := hb0.trans (hbl.mono (by omega))
  by_cases hc : c = 0
  · subst hc
    have hfit : (pkH l).length ≤ 1224 := HT.out rfl
    have hz1 := hbl.size
    rw [hsW] at hz1
    go_wp2
    go_loopw [4, 15] (fun v i wr => ∃ k : Nat, k ≤ n ∧ i = .int .i64 k ∧ Own wr (w.heap.size + 1) v (pkH (l.take k)) ∧ Below (w.heap.size + 1) W wr) (fun _ i _ => n - (intOf i).toNat)
    case atStart => exact ⟨0, Nat.zero_le _, rfl, Own.nil _ _, hbl⟩
    case round =>
      obtain ⟨k, hk, rfl, hown, hbel⟩ := hrel
      have hz := hbel.size
      rw [hsW] at hz
      by_cases hkn : k < n
      · obtain ⟨b, off, rfl, hblt, hcell⟩ := hrW.at_ (by have := HL.out; omega)
        rw [hsW] at hblt
        have hc0 : wr.cell? ⟨b, off + k * 2, none⟩ = some (.string (nthF l k).1) := (hbel.cell (p := ⟨b, off + k * 2, none⟩) hblt).trans (hcell k (by have := HL.out; omega)).1
        have hc1 : wr.cell? ⟨b, off + k * 2 + 1, none⟩ = some (.string (nthF l k).2) := (hbel.cell (p := ⟨b, off + k * 2 + 1, none⟩) hblt).trans (hcell k (by have := HL.out; omega)).2
        have hki : (k : Int) < (n : Int) := by omega
        have HK : Hid (pkH (l.take (k + 1)) = pkH (l.take k) ++ lnF (nthF l k)) := pkH_snoc l k (by have := HL.out; omega)
        have hle : (pkH (l.take k)).length + (lnF (nthF l k)).length ≤ 1224 := by
          rw [← List.length_append, ← HK.out]
          exact Nat.le_trans (pkH_le l (k + 1)) hfit
        clear hcell
        generalize nthF l k = p at *
        obtain ⟨x, y⟩ := p
        simp only at hc0 hc1
        rw [lnF_parts] at HK hle
        simp only [List.length_append, bts_len, List.length_cons, List.length_nil] at hle
        generalize pkH (l.take k) = out at *
        have hF0 := FldAt.new wr x y
        have hownA := hown.alloc (.cells #[.string x, .string y] 35)
        have hbA : Below (w.heap.size + 1) W (wr.alloc (.cells #[.string x, .string y] 35)) := hbel.alloc hz _
        have hsA : w.heap.size + 1 ≤ (wr.alloc (.cells #[.string x, .string y] 35)).heap.size := by simp; omega
        clear hown hbel
        go_wp2_with (first
          | (at_builtin; refine wpList_appS rfl _ _ rfl (w.heap.size + 1) _ _ rfl hownA x rfl (by omega) hsA ?_; intro v2 w2 hown2 hb2 hF2; have hq2 := hF2 _ _ _ hF0; have hc2 := hq2.cell1; have hlt2 := hq2.lt; have hz2 := Nat.le_trans hsA hb2.size; have hbel2 := hbA.trans hb2; clear hF2 hb2 hbA hownA hF0)
          | (at_builtin; refine wpList_appL rfl _ _ rfl (w.heap.size + 1) _ _ rfl hown2 2 2 [58, 32] rfl rfl rfl (by rw [List.length_append, bts_len]; omega) hz2 ?_; intro v3 w3 hown3 hb3 hF3; have hq3 := hF3 _ _ _ hq2; have hc3 := hq3.cell1; have hlt3 := hq3.lt; have hz3 := Nat.le_trans hz2 hb3.size; have hbel3 := hbel2.trans hb3; clear hF3 hb3 hbel2 hown2 hq2 hc2 hlt2)
          | (at_builtin; refine wpList_appS rfl _ _ rfl (w.heap.size + 1) _ _ rfl hown3 y rfl (by rw [List.length_append, List.length_append, bts_len, List.length_cons, List.length_cons, List.length_nil]; omega) hz3 ?_; intro v4 w4 hown4 hb4 hF4; have hz4 := Nat.le_trans hz3 hb4.size; have hbel4 := hbel3.trans hb4; clear hF4 hb4 hbel3 hown3 hq3 hc3 hlt3)
          | (at_builtin; refine wpList_appL rfl _ _ rfl (w.heap.size + 1) _ _ rfl hown4 1 1 [10] rfl rfl rfl (by simp only [List.length_append, bts_len, List.length_cons, List.length_nil]; omega) hz4 ?_; intro v5 w5 hown5 hb5 hF5; have hbel5 := hbel4.trans hb5; clear hF5 hb5 hbel4 hown4))
        go_roundw
        case rel => exact ⟨k + 1, by omega, by go_num, by rw [HK.out]; simpa [List.append_assoc] using hown5, hbel5⟩
        case measure => simp [intOf]; omega
      · have hki : ¬ (k : Int) < (n : Int) := by omega
        have HM : Hid (pkH (l.take k) = pkH l) := by
          show _ = _
          rw [show k = l.length by have := HL.out; omega, List.take_length]
        rw [HM.out] at hown
        generalize pkH l = o at *
        obtain ⟨q, HQ⟩ : ∃ q, Hid (q = o ++ [10]) := ⟨o ++ [10], (rfl : o ++ [10] = o ++ [10])⟩
        rw [← HQ.out] at HN HS
        by_cases h4 : 400 < q.length
        · have h4' : (400 : Int) < (q.length : Int) := by omega
          have HM : Hid (_) := HN.out trivial h4
          clear HN HS HB
          go_wp2_with (at_builtin; refine wpList_appL rfl _ _ rfl (w.heap.size + 1) _ _ rfl hown 1 1 [10] rfl rfl rfl (by omega) hz ?_; intro v2 w2 hown2 hb2 hF2; rw [← HQ.out] at hown2; obtain ⟨ao, oc, rfl, ho1, ho2⟩ := hown2.form; have hbel2 := hbel.trans hb2; have hbw2 := hb0.trans (hbel2.mono (by omega)); obtain ⟨hcw, hcw1, hfw, hfw1⟩ := res_block hW hbel2; have hz2 := Nat.le_trans hz hb2.size; clear hF2 hb2 hown)
          obtain ⟨hk0, hk1⟩ := res_cells hcw hcw1 (.int .i64 2) (.slice none 0 0)
          refine bodyPost_ret (v := .agg #[.int .i64 2, .slice none 0 0]) (by simp [results, Try.results11, go_sem, hk0, hk1]) rfl ?_
          rw [HM.out]
          exact BytEnd.code hbw2 _ _
        · have h4' : ¬ (400 : Int) < (q.length : Int) := by omega
          have HM : Hid (_) := HS.out trivial h4
          clear HN HS HB
          go_wp2_with (at_builtin; refine wpList_appL rfl _ _ rfl (w.heap.size + 1) _ _ rfl hown 1 1 [10] rfl rfl rfl (by omega) hz ?_; intro v2 w2 hown2 hb2 hF2; rw [← HQ.out] at hown2; obtain ⟨ao, oc, rfl, ho1, ho2⟩ := hown2.form; have hbel2 := hbel.trans hb2; have hbw2 := hb0.trans (hbel2.mono (by omega)); obtain ⟨hcw, hcw1, hfw, hfw1⟩ := res_block hW hbel2; have hz2 := Nat.le_trans hz hb2.size; clear hF2 hb2 hown)
          obtain ⟨hk0, hk1⟩ := res_cells hcw hcw1 (.int .i64 0) (.slice ao q.length oc)
          refine bodyPost_ret (v := .agg #[.int .i64 0, .slice ao q.length oc]) (by simp [results, Try.results11, go_sem, hk0, hk1]) rfl ?_
          rw [HM.out]
          exact BytEnd.some hbw2 hown2 _ _
  · have HM : Hid (_) := HB.out hc
    clear HN HS HB
    obtain ⟨hcw, hcw1, hfw, hfw1⟩ := res_block hW hbl
    obtain ⟨hk0, hk1⟩ := res_cells hcw hcw1 (.int .i64 c) (.slice none 0 0)
    have hc' : (c == 0) = false := by simp [hc]
    go_wp2
    refine bodyPost_ret (v := .agg #[.int .i64 c, .slice none 0 0]) (by simp [results, Try.results11, go_sem, hk0, hk1]) rfl ?_
    rw [HM.out]
    exact BytEnd.code hbw _ _
end Go.Proofs.Ytpgjichcpnjeoaa
