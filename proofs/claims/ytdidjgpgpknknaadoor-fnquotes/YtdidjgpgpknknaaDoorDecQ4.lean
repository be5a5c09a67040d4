/- The model's l1Unquote and DecodeQuoted at every text of at most 1048576 letters. -/
import Derived.Test.YtdidjgpgpknknaaDoorDecQ3
namespace Go.Proofs.YtdidjgpgpknknaaDoor
open Go.RowKit

theorem self_blk {t : List Nat} {i : Nat} (h10 : nth t i ≠ 10) (h : ¬ (33 ≤ nth t i ∧ nth t i ≤ 126)) : selfL (t.drop i) = blk t i := by
  obtain ⟨e0, e1⟩ := selfL_at (l := t) (k := i)
  by_cases hb : nth t i = 32 ∨ nth t i = 9
  · by_cases hc : i + 1 < t.length ∧ nth t (i + 1) ≠ 10
    · rw [selfL_bl (by rw [e0]; exact hb) (by simp; omega) (by rw [e1]; exact hc.2)]
      exact (decide_eq_true ⟨hb, hc.1, hc.2⟩).symm
    · rw [selfL_bl_no (by rw [e0]; exact hb) (by rw [e1, List.length_drop]; omega)]
      exact (decide_eq_false (fun h => hc ⟨h.2.1, h.2.2⟩)).symm
  · rw [selfL_other (by rw [e0]; exact h10) (by rw [e0]; exact hb), e0]
    have h1 : decide (33 ≤ nth t i ∧ nth t i ≤ 126 ∧ nth t i ≠ 61) = false := decide_eq_false (fun hh => h ⟨hh.1, hh.2.1⟩)
    rw [h1]
    exact (decide_eq_false (fun hh => hb hh.1)).symm

/-- What is read, and whether. -/
def UnqSays (t : List Nat) (ok : Bool) (l : List Nat) : Prop := (ok = true ∧ Xq.unq t = some l) ∨ (ok = false ∧ Xq.unq t = none ∧ l = [])

/-- How l1Unquote ends: a plain word, so that no walk opens it. -/
def UnqEnd (t : List Nat) (w : World) (e : Ending) (w' : World) : Prop := ∃ v ok l, e = .returned (.tuple #[v, .bool ok]) ∧ Own w' w.heap.size v l ∧ Below w.heap.size w w' ∧ UnqSays t ok l
theorem unqEnd_no {t : List Nat} {w w' : World} (hb : Below w.heap.size w w') (h : Xq.unq t = none) : UnqEnd t w (.returned (.tuple #[.slice none 0 0, .bool false])) w' := ⟨_, _, [], rfl, Own.nil _ _, hb, .inr ⟨rfl, h, rfl⟩⟩
theorem unqEnd_yes {t l : List Nat} {w w' : World} {v : Value} (ho : Own w' w.heap.size v l) (hb : Below w.heap.size w w') (h : Xq.unq t = some l) : UnqEnd t w (.returned (.tuple #[v, .bool true])) w' := ⟨_, _, l, rfl, ho, hb, .inl ⟨rfl, h⟩⟩

set_option maxHeartbeats 4000000 in
set_option maxRecDepth 100000 in
theorem l1Unquote_any (t : List Nat) (n : Nat) (w : World) (hl : t.length = n) (hB : IsB t) (hn : n ≤ 1048576) :
    Calls Tryd.prog 54 #[.string (str t)] w fun e w' => UnqEnd t w e w' := by
  have hsz : (str t).size = n := by rw [str_size, hl]
  go_enter Tryd.func54, Tryd.ntmps54
  go_wp2
  have hown0 : Own (w.alloc (.cells #[] 5)) w.heap.size (.slice (some ⟨w.heap.size, 0, none⟩) 0 0) [] := Own.lit w _ (Nat.le_refl _) #[] [] rfl (by decide)
  have hbel0 : Below w.heap.size w (w.alloc (.cells #[] 5)) := (Below.refl _ _).alloc (Nat.le_refl _) _
  go_loopw [4, 5] (fun v i wr => ∃ (k : Nat) (out : List Nat), k ≤ n ∧ i = .int .i64 k ∧ Own wr w.heap.size v out ∧ Below w.heap.size w wr ∧ Hid (Xq.unq t = (Xq.unq (t.drop k)).map (out ++ ·)) ∧ out.length ≤ k)
    (fun _ i _ => n - (intOf i).toNat)
  case atStart => exact ⟨0, [], Nat.zero_le _, rfl, hown0, hbel0, by show _ = _; rw [List.drop_zero]; cases Xq.unq t <;> simp, Nat.le_refl _⟩
  case round =>
    obtain ⟨k, out, hk, rfl, hown, hbel, hq, hol⟩ := hrel
    clear hown0 hbel0
    have hz := hbel.size
    by_cases hkn : k < n
    · have g0 := str_get hB (i := k) (by rw [hsz]; exact hkn)
      have hk' : (k : Int) < (n : Int) := by omega
      have hlk : (t.drop k).length = n - k := by rw [List.length_drop, hl]
      obtain ⟨e0, e1⟩ := selfL_at (l := t) (k := k)
      have hstep : selfL (t.drop k) = true → Hid (Xq.unq t = (Xq.unq (t.drop (k + 1))).map ((out ++ [nth t k]) ++ ·)) := fun hs => by
        show _ = _
        rw [hq.out, unq_step_self (by omega) hs, List.drop_drop, e0]
        cases Xq.unq (t.drop (k + 1)) <;> simp
      have hx := nth_lt hB k
      by_cases h61 : nth t k = 61
      · have hs : selfL (t.drop k) = false := by rw [selfL_other (by omega) (by omega), e0]; exact decide_eq_false (fun h => h.2.2 h61)
        rw [h61] at g0
        clear hstep hx
        by_cases hn1 : k + 1 < n
        · have g1 := str_get hB (i := k + 1) (by rw [hsz]; exact hn1)
          have hn1' : (k : Int) + 1 < (n : Int) := by omega
          by_cases h10 : nth t (k + 1) = 10
          · have hbk : brk (t.drop k) = true := decide_eq_true ⟨by omega, by omega, by omega⟩
            have HQ : Hid (Xq.unq t = (Xq.unq (t.drop (k + 2))).map (out ++ ·)) := by
              show _ = _
              rw [hq.out, unq_step_brk hbk, List.drop_drop]
            rw [h10] at g1
            clear hq hs hbk e0 e1 hlk h61
            go_wp2
            go_roundw
            case rel => exact ⟨k + 2, out, by omega, by go_num, hown, hbel, HQ, by omega⟩
            case measure => simp [intOf]; omega
          · have hbk : brk (t.drop k) = false := decide_eq_false (fun h => h10 (by omega))
            have ec : (((nth t (k + 1) : Nat) : Int) == 10) = false := beq_eq_false_iff_ne.2 (by omega)
            have x1 := nth_lt hB (k + 1)
            by_cases hn2 : k + 2 < n
            · have g2 := str_get hB (i := k + 2) (by rw [hsz]; exact hn2)
              have hn2' : (k : Int) + 2 < (n : Int) := by omega
              have hn2'' : ¬ (n : Int) ≤ (k : Int) + 2 := by omega
              have x2 := nth_lt hB (k + 2)
              have e2 : nth (t.drop k) 2 = nth t (k + 2) := nth_drop _ _ _
              by_cases ha : Xq.unhex (nth t (k + 1)) < 16
              · have Ha : Hid (hexI (nth t (k + 1)) = (Xq.unhex (nth t (k + 1)) : Int)) := hexI_in ha
                by_cases hb : Xq.unhex (nth t (k + 2)) < 16
                · have Hb : Hid (hexI (nth t (k + 2)) = (Xq.unhex (nth t (k + 2)) : Int)) := hexI_in hb
                  obtain ⟨q, hq'⟩ : ∃ q, q = Xq.unhex (nth t (k + 1)) * 16 + Xq.unhex (nth t (k + 2)) := ⟨_, rfl⟩
                  have hr : rdq (t.drop k) = some q := by unfold rdq; rw [if_pos ⟨by omega, by omega, by rw [e1]; exact ha, by rw [e2]; exact hb⟩, e1, e2, hq']
                  have HQ : Hid (Xq.unq t = (Xq.unq (t.drop (k + 3))).map ((out ++ [q]) ++ ·)) := by
                    show _ = _
                    rw [hq.out, unq_step_hex hbk hr, List.drop_drop]
                    cases Xq.unq (t.drop (k + 3)) <;> simp
                  have ev : 16 * (Xq.unhex (nth t (k + 1)) : Int) + (Xq.unhex (nth t (k + 2)) : Int) = (q : Int) := by omega
                  have hq256 : q < 256 := by omega
                  have p1 : ¬ (Xq.unhex (nth t (k + 1)) : Int) < 0 := by omega
                  have p2 : ¬ (Xq.unhex (nth t (k + 2)) : Int) < 0 := by omega
                  clear hq hs hbk e0 e1 e2 hlk h61 hq' hr
                  go_wp2_with fail
                  refine (l1HexValue_any (nth t (k + 1)) _ x1).mono ?_
                  rintro e w1 ⟨rfl, rfl⟩
                  rw [Ha.out]
                  go_wp2_with fail
                  refine (l1HexValue_any (nth t (k + 2)) _ x2).mono ?_
                  rintro e w1 ⟨rfl, rfl⟩
                  rw [Hb.out]
                  go_wp2_with (at_builtin; refine wpList_app_new rfl _ _ rfl (w.heap.size) _ out rfl hown 1 1 [q] rfl rfl rfl (by omega) hz ?_; intro v' w2 hown' hb')
                  go_wp2
                  go_roundw
                  case rel => exact ⟨k + 3, out ++ [q], by omega, by go_num, hown', hbel.trans hb', HQ, by simp; omega⟩
                  case measure => simp [intOf]; omega
                · have Hb : Hid (hexI (nth t (k + 2)) = -1) := hexI_out hb
                  have hr : rdq (t.drop k) = none := by unfold rdq; rw [if_neg (fun h => hb (by rw [← e2]; exact h.2.2.2))]
                  have HN : Hid (Xq.unq t = none) := by
                    show _ = _
                    rw [hq.out, unq_step_bad (by omega) hs hbk hr]; rfl
                  have p1 : ¬ (Xq.unhex (nth t (k + 1)) : Int) < 0 := by omega
                  clear hq hs hbk e0 e1 e2 hlk h61 hr
                  go_wp2_with fail
                  refine (l1HexValue_any (nth t (k + 1)) _ x1).mono ?_
                  rintro e w1 ⟨rfl, rfl⟩
                  rw [Ha.out]
                  go_wp2_with fail
                  refine (l1HexValue_any (nth t (k + 2)) _ x2).mono ?_
                  rintro e w1 ⟨rfl, rfl⟩
                  rw [Hb.out]
                  go_wp2
                  go_ret2
                  exact unqEnd_no hbel HN.out
              · have Ha : Hid (hexI (nth t (k + 1)) = -1) := hexI_out ha
                have hr : rdq (t.drop k) = none := by unfold rdq; rw [if_neg (fun h => ha (by rw [← e1]; exact h.2.2.1))]
                have HN : Hid (Xq.unq t = none) := by
                  show _ = _
                  rw [hq.out, unq_step_bad (by omega) hs hbk hr]; rfl
                clear hq hs hbk e0 e1 e2 hlk h61 hr
                go_wp2_with fail
                refine (l1HexValue_any (nth t (k + 1)) _ x1).mono ?_
                rintro e w1 ⟨rfl, rfl⟩
                rw [Ha.out]
                go_wp2_with fail
                refine (l1HexValue_any (nth t (k + 2)) _ x2).mono ?_
                rintro e w1 ⟨rfl, rfl⟩
                go_wp2
                go_ret2
                exact unqEnd_no hbel HN.out
            · have hn2' : (n : Int) ≤ (k : Int) + 2 := by omega
              have hr : rdq (t.drop k) = none := by unfold rdq; rw [if_neg (fun h => by have := h.1; omega)]
              have HN : Hid (Xq.unq t = none) := by
                show _ = _
                rw [hq.out, unq_step_bad (by omega) hs hbk hr]; rfl
              clear hq hs hbk e0 e1 hlk h61 hr
              go_wp2
              go_ret2
              exact unqEnd_no hbel HN.out
        · have hn1' : ¬ (k : Int) + 1 < (n : Int) := by omega
          have hn2' : (n : Int) ≤ (k : Int) + 2 := by omega
          have hbk : brk (t.drop k) = false := decide_eq_false (fun h => by have := h.1; omega)
          have hr : rdq (t.drop k) = none := by unfold rdq; rw [if_neg (fun h => by have := h.1; omega)]
          have HN : Hid (Xq.unq t = none) := by
            show _ = _
            rw [hq.out, unq_step_bad (by omega) hs hbk hr]; rfl
          clear hq hs hbk e0 e1 hlk h61 hr
          go_wp2
          go_ret2
          exact unqEnd_no hbel HN.out
      · have n61 : (((nth t k : Nat) : Int) != 61) = true := by rw [bne_iff_ne]; omega
        by_cases h10 : nth t k = 10
        · have HQ := hstep (selfL_lf (by omega))
          rw [h10] at g0 HQ
          clear hq hstep e0 e1 hlk n61 h61
          go_wp2_with (at_builtin; refine wpList_app_new rfl _ _ rfl (w.heap.size) _ out rfl hown 1 1 [10] rfl rfl rfl (by omega) hz ?_; intro v' w2 hown' hb')
          go_wp2
          go_roundw
          case rel => exact ⟨k + 1, out ++ [10], by omega, by go_num, hown', hbel.trans hb', HQ, by simp; omega⟩
          case measure => simp [intOf]; omega
        · have n10 : (((nth t k : Nat) : Int) == 10) = false := beq_eq_false_iff_ne.2 (by omega)
          by_cases hr : 33 ≤ nth t k ∧ nth t k ≤ 126
          · have HQ := hstep (by rw [selfL_other (by omega) (by omega), e0]; exact decide_eq_true ⟨hr.1, hr.2, h61⟩)
            have r1 : (33 : Int) ≤ ((nth t k : Nat) : Int) := by omega
            have r2 : ((nth t k : Nat) : Int) ≤ 126 := by omega
            generalize nth t k = x at *
            clear hq hstep e0 e1 hlk h61
            go_wp2_with (at_builtin; refine wpList_app_new rfl _ _ rfl (w.heap.size) _ out rfl hown 1 1 [x] rfl rfl rfl (by omega) hz ?_; intro v' w2 hown' hb')
            go_wp2
            go_roundw
            case rel => exact ⟨k + 1, out ++ [x], by omega, by go_num, hown', hbel.trans hb', HQ, by simp; omega⟩
            case measure => simp [intOf]; omega
          · have hsb := self_blk h10 hr
            by_cases h33 : 33 ≤ nth t k
            · have r1 : (33 : Int) ≤ ((nth t k : Nat) : Int) := by omega
              have r2 : ¬ ((nth t k : Nat) : Int) ≤ 126 := by omega
              have hbf : blk t k = false := decide_eq_false (fun h => by have := h.1; omega)
              have HB : Hid (blk t k = false) := hbf
              have hnr : rdq (t.drop k) = none := by unfold rdq; rw [if_neg (fun h => h61 (by omega))]
              have HN : Hid (Xq.unq t = none) := by
                show _ = _
                rw [hq.out, unq_step_bad (by omega) (hsb.trans hbf) (decide_eq_false (fun h => h61 (by omega))) hnr]; rfl
              clear hq hstep e0 e1 hlk h61 hsb hnr hbf
              go_wp2_with fail
              refine (l1Blank_any t n k _ hl hB hkn hn).mono ?_
              rintro e w1 ⟨rfl, rfl⟩
              rw [HB.out]
              go_wp2
              go_ret2
              exact unqEnd_no hbel HN.out
            · have r1 : ¬ (33 : Int) ≤ ((nth t k : Nat) : Int) := by omega
              cases hbf : blk t k with
              | true =>
                have HB : Hid (blk t k = true) := hbf
                have HQ := hstep (hsb.trans hbf)
                clear hq hstep e0 e1 hlk h61 hsb hbf
                go_wp2_with fail
                refine (l1Blank_any t n k _ hl hB hkn hn).mono ?_
                rintro e w1 ⟨rfl, rfl⟩
                rw [HB.out]
                go_wp2_with (at_builtin; refine wpList_app_new rfl _ _ rfl (w.heap.size) _ out rfl hown 1 1 [nth t k] rfl rfl rfl (by omega) hz ?_; intro v' w2 hown' hb')
                go_wp2
                go_roundw
                case rel => exact ⟨k + 1, out ++ [nth t k], by omega, by go_num, hown', hbel.trans hb', HQ, by simp; omega⟩
                case measure => simp [intOf]; omega
              | false =>
                have HB : Hid (blk t k = false) := hbf
                have hnr : rdq (t.drop k) = none := by unfold rdq; rw [if_neg (fun h => h61 (by omega))]
                have HN : Hid (Xq.unq t = none) := by
                  show _ = _
                  rw [hq.out, unq_step_bad (by omega) (hsb.trans hbf) (decide_eq_false (fun h => h61 (by omega))) hnr]; rfl
                clear hq hstep e0 e1 hlk h61 hsb hnr hbf
                go_wp2_with fail
                refine (l1Blank_any t n k _ hl hB hkn hn).mono ?_
                rintro e w1 ⟨rfl, rfl⟩
                rw [HB.out]
                go_wp2
                go_ret2
                exact unqEnd_no hbel HN.out
    · have hkk : k = n := by omega
      have HS : Hid (Xq.unq t = some out) := by
        show _ = _
        rw [hq.out, List.drop_of_length_le (by omega)]; simp [Xq.unq]
      have hk' : ¬ (k : Int) < (n : Int) := by omega
      clear hq hkk
      go_wp2
      go_ret2
      exact unqEnd_yes hown hbel HS.out

set_option maxHeartbeats 1600000 in
set_option maxRecDepth 100000 in
theorem specDecodeQuoted_any (t : List Nat) (n : Nat) (w : World) (hl : t.length = n) (hB : IsB t) :
    Calls Tryd.prog 24 #[.string (str t)] w fun e w' => ∃ v, e = .returned (.agg #[.int .i64 (decQ t).1, v]) ∧ Own w' w.heap.size v (decQ t).2 ∧ Below w.heap.size w w' := by
  have hsz : (str t).size = n := by rw [str_size, hl]
  by_cases hbig : 1600 < n
  · have H : Hid (decQ t = (2, [])) := decQ_long (by omega)
    have hn' : (1600 : Int) < (n : Int) := by omega
    go_enter Tryd.func24, Tryd.ntmps24
    go_wp2
    go_returns
    exact ⟨.slice none 0 0, by rw [H.out], by rw [H.out]; exact Own.nil _ _, by go_grown⟩
  · have hn' : ¬ (1600 : Int) < (n : Int) := by omega
    have hb0 : Below w.heap.size w (w.alloc (.cells #[.int .i64 0, .slice none 0 0] 26)) := (Below.refl _ _).alloc (Nat.le_refl _) _
    go_enter Tryd.func24, Tryd.ntmps24
    go_wp2_with fail
    refine (l1Unquote_any t n _ hl hB (by omega)).mono ?_
    rintro e w1 ⟨v, ok, l, rfl, hown, hb1, hsay⟩
    have hbl : Below (w.heap.size + 1) (w.alloc (.cells #[.int .i64 0, .slice none 0 0] 26)) w1 := hb1.mono (by simp)
    have hown' : Own w1 (w.heap.size + 1) v l := hown.low (by simp)
    obtain ⟨hcw, hcw1, hfw, hfw1⟩ := res_block rfl hbl
    have hbel : Below w.heap.size w w1 := hb0.trans (hbl.mono (by omega))
    clear hown hb1
    rcases hsay with ⟨rfl, hu⟩ | ⟨rfl, hu, rfl⟩
    · obtain ⟨ao, ocap, hv, hoc⟩ := hown'.form
      rw [hv] at hown' ⊢
      clear hv
      generalize hN : l.length = N at *
      by_cases h4 : 400 < N
      · have h4' : (400 : Int) < (N : Int) := by omega
        have H : Hid (decQ t = (2, [])) := decQ_many (by omega) hu (by omega)
        obtain ⟨hk0, hk1⟩ := res_cells hcw hcw1 (.int .i64 2) (.slice none 0 0)
        clear hu hN
        go_wp2
        refine bodyPost_ret (v := .agg #[.int .i64 2, .slice none 0 0]) (by simp [results, Tryd.results24, go_sem, hk0, hk1]) rfl ?_
        exact ⟨.slice none 0 0, by rw [H.out], by rw [H.out]; exact Own.nil _ _, (hbel.setCell (by simp) _).setCell (by simp) _⟩
      · have h4' : ¬ (400 : Int) < (N : Int) := by omega
        have H : Hid (decQ t = (0, l)) := decQ_some (by omega) hu (by omega)
        obtain ⟨hk0, hk1⟩ := res_cells hcw hcw1 (.int .i64 0) (.slice ao N ocap)
        clear hu hN
        go_wp2
        refine bodyPost_ret (v := .agg #[.int .i64 0, .slice ao N ocap]) (by simp [results, Tryd.results24, go_sem, hk0, hk1]) rfl ?_
        exact ⟨.slice ao N ocap, by rw [H.out], by rw [H.out]; exact ((hown'.set _ (by simp) _).set _ (by simp) _).low (by omega), (hbel.setCell (by simp) _).setCell (by simp) _⟩
    · have H : Hid (decQ t = (7, [])) := decQ_none (by omega) hu
      obtain ⟨hk0, hk1⟩ := res_cells hcw hcw1 (.int .i64 7) (.slice none 0 0)
      clear hu
      go_wp2
      refine bodyPost_ret (v := .agg #[.int .i64 7, .slice none 0 0]) (by simp [results, Tryd.results24, go_sem, hk0, hk1]) rfl ?_
      exact ⟨.slice none 0 0, by rw [H.out], by rw [H.out]; exact Own.nil _ _, (hbel.setCell (by simp) _).setCell (by simp) _⟩

theorem decQ_few (t : List Nat) : (decQ t).2.length ≤ 400 := by
  unfold decQ
  split
  · simp
  · split
    · simp
    · split
      · simp
      · simp only; omega
/-- Both answer alike. -/
theorem decQ_both (t : List Nat) (hB : IsB t) : ∃ (c : Int) (l : List Nat), l.length ≤ 400 ∧
    (∀ w : World, Calls Tryd.prog 24 #[.string (str t)] w fun e w' => ∃ v, e = .returned (.agg #[.int .i64 c, v]) ∧ Own w' w.heap.size v l ∧ Below w.heap.size w w') ∧
    (∀ w : World, TabH w → Calls Tryd.prog 23 #[.string (str t)] w fun e w' => ∃ v, e = .returned (.agg #[.int .i64 c, v]) ∧ Own w' w.heap.size v l ∧ Below w.heap.size w w') :=
  ⟨_, _, decQ_few t, fun w => specDecodeQuoted_any t _ w rfl hB, fun w ht => implDecodeQuoted_any t _ w rfl hB ht⟩
end Go.Proofs.YtdidjgpgpknknaaDoor
