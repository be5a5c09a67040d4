/- The set of some numbers, on both sides (more of it): the rows of the program, its answer, the model's answer. -/
import Derived.Test.YtlkfmgfblfkgbaaGreatDoorYso
namespace Go.Proofs.YtlkfmgfblfkgbaaGreatDoor
open Go.RowKit

/-- How an answer of ranges lies there. -/
def RngEndY (r : Int × List YgP) (w : World) (e : Ending) (w' : World) : Prop := ∃ v, e = .returned (.agg #[.int .i64 r.1, v]) ∧ OwnY w' w.heap.size v r.2 ∧ Below w.heap.size w w'
theorem RngEndY.code {c : Int} {w w1 : World} (hbel : Below w.heap.size w w1) (x y : Value) : RngEndY (c, []) w (.returned (.agg #[.int .i64 c, .slice none 0 0])) ((w1.setCell ⟨w.heap.size, 0, none⟩ x).setCell ⟨w.heap.size, 1, none⟩ y) :=
  ⟨_, rfl, OwnY.nil _ _, (hbel.setCell (Nat.le_refl _) _).setCell (Nat.le_refl _) _⟩
theorem RngEndY.some {c : Int} {w w1 : World} {v : Value} {l : List YgP} (hbel : Below w.heap.size w w1) (hown : OwnY w1 (w.heap.size + 1) v l) (x y : Value) : RngEndY (c, l) w (.returned (.agg #[.int .i64 c, v])) ((w1.setCell ⟨w.heap.size, 0, none⟩ x).setCell ⟨w.heap.size, 1, none⟩ y) :=
  ⟨_, rfl, ((hown.kept _ (Nat.lt_succ_self _) _).kept _ (Nat.lt_succ_self _) _).low (Nat.le_succ _), (hbel.setCell (Nat.le_refl _) _).setCell (Nat.le_refl _) _⟩
theorem OwnZ.lowY {w : World} {B C : Nat} {v : Value} {l : List YgP} (h : OwnZ w B v l) (hC : C ≤ B) : OwnZ w C v l := by
  refine ⟨h.1, ?_⟩
  rcases h.2 with h' | ⟨g, cap, cur, h1, h2, h3⟩
  · exact .inl h'
  · exact .inr ⟨g, cap, cur, h1, Nat.le_trans hC h2, h3⟩

set_option maxHeartbeats 1600000 in
set_option maxRecDepth 100000 in
theorem rowsOf_any (a : Option Addr) (n cap : Nat) (l : List Int) (w : World) (hl : l.length = n) (hr : RdI w a l) (hn : n ≤ 60) (hok : riY l = true) :
    Calls Tryz.prog 29 #[.slice a n cap] w fun e w' => RoEnd (rwY l n) w e w' := by
  have HO := reachOf_any
  go_enter Tryz.func29, Tryz.ntmps29
  go_wp2
  go_loopw [3, 9] (fun v i wr => ∃ k : Nat, k ≤ n ∧ i = .int .i64 k ∧ OwnZ wr w.heap.size v (rwY l k) ∧ Below w.heap.size w wr) (fun _ i _ => n - (intOf i).toNat)
  case atStart => exact ⟨0, Nat.zero_le _, rfl, OwnZ.nil _ _, Below.refl _ _⟩
  case round =>
    obtain ⟨k, hk, rfl, hown, hbel⟩ := hrel
    by_cases hkn : k < n
    · obtain ⟨b, off, rfl, hblt, hcell⟩ := hr.at_ (by omega)
      have hc : wr.cell? ⟨b, off + k, none⟩ = some (.int .i64 (nthI l k)) := (hbel.cell (p := ⟨b, off + k, none⟩) hblt).trans (hcell k (by omega))
      have hki : (k : Int) < (n : Int) := by omega
      have hrl := rwY_len l k
      have hA : rfA (rwY l k) = true := rwY_ok fun i hi => riY_up hok (by omega)
      have hnb := upY_b (riY_up hok (i := k) (by omega))
      have HQ : Hid (rwY l (k + 1) = stY (rwY l k) (nthI l k)) := rfl
      clear hcell
      generalize nthI l k = x at *
      generalize hrr : rwY l k = r at *
      clear hrr
      obtain ⟨av, cv, ev, _, _⟩ := hown.form
      subst ev
      by_cases h0 : 0 < r.length
      · obtain ⟨L, hL⟩ : ∃ L, r.length = L + 1 := ⟨r.length - 1, by omega⟩
        obtain ⟨g, off', eav, hglt, hgc⟩ := hown.rd.2.at_ h0
        obtain ⟨g', hform⟩ : ∃ g', av = some ⟨g', 0, none⟩ := by
          rcases hown.2 with ⟨h0', h1⟩ | ⟨g', cap', cur, h', _⟩
          · omega
          · simp at h'; exact ⟨g', h'.1⟩
        rw [hform] at eav
        obtain ⟨rfl, rfl⟩ : g' = g ∧ 0 = off' := by simpa using eav
        subst hform
        clear eav
        have hgL : wr.cell? ⟨g', L, none⟩ = some (cz (nthY r L)) := by have := hgc L (by omega); rw [Nat.zero_add] at this; exact this
        obtain ⟨b1, b2⟩ := rfA_nth hA (i := L) (by omega)
        have ho2 : wr.ownsRow w.heap.size 71 1 (.slice (some ⟨g', 0, none⟩) (L + 1) cv) (L + 1) (zc r) := by have := hown; unfold OwnZ at this; rw [hL] at this; exact this
        have hfz := ho2.frozenAt L
        obtain ⟨hst, hgr2⟩ := ho2.stored L (cz ((nthY r L).1, (nthY r L).2 + 1))
        rw [zc_set] at hst
        have HST : Hid (stY r x = if (nthY r L).2 + 1 = x then r.set L ((nthY r L).1, x) else r ++ [(x, x)]) := by
          show stY r x = _
          unfold stY
          rw [hL, Nat.add_sub_cancel]
          by_cases hh : (nthY r L).2 + 1 = x
          · rw [if_pos ⟨by omega, hh⟩, if_pos hh]
          · rw [if_neg (fun h => hh h.2), if_neg hh]
        have hBS : Hid (Below w.heap.size w (wr.setCell ⟨g', L, none⟩ (cz ((nthY r L).1, (nthY r L).2 + 1)))) := hbel.setCell (by have := (hown.lt g' rfl).1; omega) _
        have HST2 : Hid (_) := hst
        clear hgc hst hgr2 ho2
        have hlen : r.length = L + 1 := hL
        rw [hL] at hown
        have HT : Hid (_) := fun w => reachTo_any (nthY r L) w b2
        obtain ⟨p, q, hpq⟩ : ∃ p q, nthY r L = (p, q) := ⟨_, _, rfl⟩
        rw [hpq] at hgL HST hBS HST2 b1 b2 HT
        clear hpq
        simp only at hBS HST2 HST b1 b2 HT
        rw [hL]
        have hb1' := of_decide_eq_true b1
        have hb2' := of_decide_eq_true b2
        rw [show cz (p, q) = .complex .f64 (fB p) (fB q) from rfl] at hgL HT
        rw [show cz (p, q + 1) = .complex .f64 (fB p) (fB (q + 1)) from rfl] at hBS HST2
        have hLi : ((L + 1 : Nat) : Int) - 1 = (L : Int) := by omega
        go_wp2_with fail
        refine (HT.out _).mono ?_
        rintro e w1 ⟨rfl, rfl⟩
        by_cases hh : q + 1 = x
        · have hop := fun t w => run_complex_sum (P := Tryz.prog) w .add (Or.inl rfl) t .f64 (fB p) (fB q) 0 4607182418800017408 (fB p) (fB (q + 1)) (cz_up b1 (decide_eq_true (by omega)))
          rw [if_pos hh] at HST
          subst hh
          have hsc := fun (a : Addr) (m : Mode) (w : World) => run_store Tryz.prog w a (.complex .f64 (fB p) (fB (q + 1))) m rfl
          go_wp2
          go_roundw
          case rel =>
            refine ⟨k + 1, by omega, by go_num, ?_, hBS.out⟩
            rw [HQ.out, HST.out]
            unfold OwnZ
            rw [List.length_set, hlen]
            exact HST2.out
          case measure => simp [intOf]; omega
        · rw [if_neg hh] at HST
          clear hBS HST2
          go_wp2_with fail
          refine (HO x x _).mono ?_
          rintro e w1 ⟨rfl, rfl⟩
          rw [show cz (x, x) = .complex .f64 (fB x) (fB x) from rfl]
          go_wp2_with (at_builtin; refine wpList_app_newZ rfl _ _ rfl w.heap.size _ r rfl hown 1 1 [(x, x)] rfl rfl rfl (by omega) hbel.size ?_; intro v' w3 ho3 hb3)
          have hB3 := hbel.trans hb3
          clear hb3
          go_roundw
          case rel => exact ⟨k + 1, by omega, by go_num, by rw [HQ.out, HST.out]; exact ho3, hB3⟩
          case measure => simp [intOf]; omega
      · have hL0 : r.length = 0 := by omega
        obtain rfl : r = [] := List.length_eq_zero_iff.1 hL0
        have HST : Hid (stY [] x = [(x, x)]) := rfl
        go_wp2_with fail
        refine (HO x x _).mono ?_
        rintro e w1 ⟨rfl, rfl⟩
        rw [show cz (x, x) = .complex .f64 (fB x) (fB x) from rfl]
        go_wp2_with (at_builtin; refine wpList_app_newZ rfl _ _ rfl w.heap.size _ [] rfl hown 1 1 [(x, x)] rfl rfl rfl (by simp) hbel.size ?_; intro v' w3 ho3 hb3)
        have hB3 := hbel.trans hb3
        clear hb3
        go_roundw
        case rel => exact ⟨k + 1, by omega, by go_num, by rw [HQ.out, HST.out]; exact ho3, hB3⟩
        case measure => simp [intOf]; omega
    · have hki : ¬ (k : Int) < (n : Int) := by omega
      obtain rfl : k = n := by omega
      go_wp2
      go_ret
      exact ⟨_, rfl, hown, hbel⟩

set_option maxHeartbeats 1600000 in
set_option maxRecDepth 100000 in
theorem setOf_any (a : Option Addr) (n cap : Nat) (l : List Int) (w : World) (hl : l.length = n) (hr : RdI w a l) (hn : n ≤ 1048576) :
    Calls Tryz.prog 10 #[.slice a n cap] w fun e w' => RngEndY (soV l) w e w' := by
  have hb0 : Below w.heap.size w (w.alloc (.cells #[.int .i64 0, .slice none 0 0] 27)) := (Below.refl _ _).alloc (Nat.le_refl _) _
  have hr0 := hr.below hb0
  have hWs : (w.alloc (.cells #[.int .i64 0, .slice none 0 0] 27)).heap.size = w.heap.size + 1 := by simp
  by_cases h1 : 1 ≤ n ∧ n ≤ 60
  · have hb : bty (n : Int) 1 60 = true := decide_eq_true (by omega)
    go_enter Tryz.func10, Tryz.ntmps10
    go_wp2_with fail
    refine (isBetween_y (n : Int) 1 60 _).mono ?_
    rintro e w1 ⟨rfl, rfl⟩
    rw [hb]
    go_wp2_with fail
    refine (doRise_any a n cap l _ hl hr0 hn).mono ?_
    rintro e w1 ⟨rfl, rfl⟩
    generalize hW : w.alloc (.cells #[.int .i64 0, .slice none 0 0] 27) = W at *
    have hblW : Below (w.heap.size + 1) W W := Below.refl _ _
    cases hri : riY l with
    | false =>
      have H : Hid (soV l = (3, [])) := by
        show soV l = _
        unfold soV
        rw [if_pos (by omega), hri]; rfl
      obtain ⟨hcw, hcw1, hfw, hfw1⟩ := res_block hW hblW
      obtain ⟨hk0, hk1⟩ := res_cells hcw hcw1 (.int .i64 3) (.slice none 0 0)
      clear hr hr0
      go_wp2
      refine bodyPost_ret (v := .agg #[.int .i64 3, .slice none 0 0]) (by simp [results, Tryz.results10, go_sem, hk0, hk1]) rfl ?_
      rw [H.out]
      exact RngEndY.code hb0 _ _
    | true =>
      go_wp2_with fail
      refine (rowsOf_any a n cap l _ hl hr0 h1.2 hri).mono ?_
      rintro e w2 ⟨v, rfl, hown, hb2⟩
      obtain ⟨av, cv, ev, _, _⟩ := hown.form
      subst ev
      have hA : rfA (rwY l n) = true := rwY_ok fun i hi => riY_up hri (by omega)
      have hrl := rwY_len l n
      have hbl2 : Below (w.heap.size + 1) W w2 := by rw [← hWs]; exact hb2
      have hz2 : w.heap.size + 1 ≤ w2.heap.size := by have := hbl2.size; omega
      have hrz := hown.rd.2
      have hbel2 : Below w.heap.size w w2 := hb0.trans (hbl2.mono (by omega))
      have HS : Hid (soV l = if (rwY l n).length ≤ 8 then (0, rwY l n) else (2, [])) := by
        show soV l = _
        unfold soV
        rw [hl, if_pos h1, hri]; rfl
      clear hown hb2
      generalize rwY l n = r at *
      by_cases h8 : r.length ≤ 8
      · rw [if_pos h8] at HS
        have h8' : ¬ (r.length : Int) > 8 := by omega
        go_wp2_with fail
        refine (rangesOf_any av r.length cv r _ rfl hrz (by omega) hA).mono ?_
        rintro e w3 ⟨v, rfl, hown, hb3⟩
        have hbl3 : Below (w.heap.size + 1) W w3 := hbl2.trans (hb3.mono hz2)
        obtain ⟨hcw, hcw1, hfw, hfw1⟩ := res_block hW hbl3
        have hbE : Below w.heap.size w w3 := hb0.trans (hbl3.mono (by omega))
        have hown' := hown.low hz2
        obtain ⟨ao, ocap, hv, -, -⟩ := hown'.form
        rw [hv] at hown' ⊢
        clear hv hown hb3 hbl2 hrz hbel2
        have HO : Hid (OwnY w3 (w.heap.size + 1) (.slice ao r.length ocap) r) := hown'
        clear hown'
        obtain ⟨hk0, hk1⟩ := res_cells hcw hcw1 (.int .i64 0) (.slice ao r.length ocap)
        go_wp2
        refine bodyPost_ret (v := .agg #[.int .i64 0, .slice ao r.length ocap]) (by simp [results, Tryz.results10, go_sem, hk0, hk1]) rfl ?_
        rw [HS.out]
        exact RngEndY.some hbE HO.out _ _
      · rw [if_neg h8] at HS
        have h8' : (r.length : Int) > 8 := by omega
        obtain ⟨hcw, hcw1, hfw, hfw1⟩ := res_block hW hbl2
        obtain ⟨hk0, hk1⟩ := res_cells hcw hcw1 (.int .i64 2) (.slice none 0 0)
        clear hr hr0 hrz
        go_wp2
        refine bodyPost_ret (v := .agg #[.int .i64 2, .slice none 0 0]) (by simp [results, Tryz.results10, go_sem, hk0, hk1]) rfl ?_
        rw [HS.out]
        exact RngEndY.code hbel2 _ _
  · have hb : bty (n : Int) 1 60 = false := decide_eq_false (by omega)
    have H : Hid (soV l = (2, [])) := if_neg (by omega)
    go_enter Tryz.func10, Tryz.ntmps10
    go_wp2_with fail
    refine (isBetween_y (n : Int) 1 60 _).mono ?_
    rintro e w1 ⟨rfl, rfl⟩
    rw [hb]
    go_wp2
    go_returns
    exact ⟨.slice none 0 0, by rw [H.out], by rw [H.out]; exact OwnY.nil _ _, by go_grown⟩
end Go.Proofs.YtlkfmgfblfkgbaaGreatDoor
