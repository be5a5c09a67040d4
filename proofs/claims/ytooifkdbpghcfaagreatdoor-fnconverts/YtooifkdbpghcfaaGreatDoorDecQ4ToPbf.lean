/- The model's l1Unquote and DecodeQuoted at every text of at most 1048576 letters · The part that is asked and the bytes that it tells, the model's: l6Part, l6Bytes, PartBytes · PartBytes, the program's. -/
import Derived.Test.YtooifkdbpghcfaaGreatDoorPsmToDecQ3
import Derived.Test.YtooifkdbpghcfaaGreatDoorDecB4ToVwm
import Derived.Test.YtooifkdbpghcfaaGreatDoorDecB2ToPbo
import Derived.BigQuiet
import Derived.Deep.RegionHeld3
namespace Go.Proofs.YtooifkdbpghcfaaGreatDoor
open Go.RowKit

theorem self_blk {t : List Nat} {i : Nat} (h10 : nth t i ≠ 10) (h : ¬ (33 ≤ nth t i ∧ nth t i ≤ 126)) : selfL (t.drop i) = blk t i := by
  obtain ⟨e0, e1⟩ := selfL_at (l := t) (k := i)
  by_cases hb : nth t i = 32 ∨ nth t i = 9
  · by_cases hc : i + 1 < t.length ∧ nth t (i + 1) ≠ 10
    · rw [selfL_bl (by rw [e0]; exact hb) (by simp; omega) (by rw [e1]; exact hc.2)]
      exact (decide_eq_true ⟨hb, hc.1, hc.2⟩).symm
    · rw [selfL_bl_no (by rw [e0]; exact hb) (by rw [e1, List.length_drop]; omega)]
      exact (decide_eq_false (fun h => hc ⟨h.2.1, h.2.2⟩)).symm
  · rw [selfL_other (by rw [e0]; exact h10) (by rw [e0]; exact hb), e0]
    have h1 : decide (33 ≤ nth t i ∧ nth t i ≤ 126 ∧ nth t i ≠ 61) = false := decide_eq_false (fun hh => h ⟨hh.1, hh.2.1⟩)
    rw [h1]
    exact (decide_eq_false (fun hh => hb hh.1)).symm

/-- What is read, and whether. -/
def UnqSays (t : List Nat) (ok : Bool) (l : List Nat) : Prop := (ok = true ∧ Xq.unq t = some l) ∨ (ok = false ∧ Xq.unq t = none ∧ l = [])

/-- How l1Unquote ends: a plain word, so that no walk opens it. -/
def UnqEnd (t : List Nat) (w : World) (e : Ending) (w' : World) : Prop := ∃ v ok l, e = .returned (.tuple #[v, .bool ok]) ∧ Own w' w.heap.size v l ∧ Below w.heap.size w w' ∧ UnqSays t ok l
theorem unqEnd_no {t : List Nat} {w w' : World} (hb : Below w.heap.size w w') (h : Xq.unq t = none) : UnqEnd t w (.returned (.tuple #[.slice none 0 0, .bool false])) w' := ⟨_, _, [], rfl, Own.nil _ _, hb, .inr ⟨rfl, h, rfl⟩⟩
theorem unqEnd_yes {t l : List Nat} {w w' : World} {v : Value} (ho : Own w' w.heap.size v l) (hb : Below w.heap.size w w') (h : Xq.unq t = some l) : UnqEnd t w (.returned (.tuple #[v, .bool true])) w' := ⟨_, _, l, rfl, ho, hb, .inl ⟨rfl, h⟩⟩

set_option maxHeartbeats 4000000 in
set_option maxRecDepth 100000 in
theorem l1Unquote_any (t : List Nat) (n : Nat) (w : World) (hl : t.length = n) (hB : IsB t) (hn : n ≤ 1048576) :
    Calls Tryz.prog 120 #[.string (str t)] w fun e w' => UnqEnd t w e w' := by
  have hsz : (str t).size = n := by rw [str_size, hl]
  go_enter Tryz.func120, Tryz.ntmps120
  go_wp2
  have hown0 : Own (w.alloc (.cells #[] 5)) w.heap.size (.slice (some ⟨w.heap.size, 0, none⟩) 0 0) [] := Own.lit w _ (Nat.le_refl _) #[] [] rfl (by decide)
  have hbel0 : Below w.heap.size w (w.alloc (.cells #[] 5)) := (Below.refl _ _).alloc (Nat.le_refl _) _
  go_loopw [4, 5] (fun v i wr => ∃ (k : Nat) (out : List Nat), k ≤ n ∧ i = .int .i64 k ∧ Own wr w.heap.size v out ∧ Below w.heap.size w wr ∧ Hid (Xq.unq t = (Xq.unq (t.drop k)).map (out ++ ·)) ∧ out.length ≤ k)
    (fun _ i _ => n - (intOf i).toNat)
  case atStart => exact ⟨0, [], Nat.zero_le _, rfl, hown0, hbel0, by show _ = _; rw [List.drop_zero]; cases Xq.unq t <;> simp, Nat.le_refl _⟩
  case round =>
    obtain ⟨k, out, hk, rfl, hown, hbel, hq, hol⟩ := hrel
    clear hown0 hbel0
    have hz := hbel.size
    by_cases hkn : k < n
    · have g0 := str_get hB (i := k) (by rw [hsz]; exact hkn)
      have hk' : (k : Int) < (n : Int) := by omega
      have hlk : (t.drop k).length = n - k := by rw [List.length_drop, hl]
      obtain ⟨e0, e1⟩ := selfL_at (l := t) (k := k)
      have hstep : selfL (t.drop k) = true → Hid (Xq.unq t = (Xq.unq (t.drop (k + 1))).map ((out ++ [nth t k]) ++ ·)) := fun hs => by
        show _ = _
        rw [hq.out, unq_step_self (by omega) hs, List.drop_drop, e0]
        cases Xq.unq (t.drop (k + 1)) <;> simp
      have hx := nth_lt hB k
      by_cases h61 : nth t k = 61
      · have hs : selfL (t.drop k) = false := by rw [selfL_other (by omega) (by omega), e0]; exact decide_eq_false (fun h => h.2.2 h61)
        rw [h61] at g0
        clear hstep hx
        by_cases hn1 : k + 1 < n
        · have g1 := str_get hB (i := k + 1) (by rw [hsz]; exact hn1)
          have hn1' : (k : Int) + 1 < (n : Int) := by omega
          by_cases h10 : nth t (k + 1) = 10
          · have hbk : brk (t.drop k) = true := decide_eq_true ⟨by omega, by omega, by omega⟩
            have HQ : Hid (Xq.unq t = (Xq.unq (t.drop (k + 2))).map (out ++ ·)) := by
              show _ = _
              rw [hq.out, unq_step_brk hbk, List.drop_drop]
            rw [h10] at g1
            clear hq hs hbk e0 e1 hlk h61
            go_wp2
            go_roundw
            case rel => exact ⟨k + 2, out, by omega, by go_num, hown, hbel, HQ, by omega⟩
            case measure => simp [intOf]; omega
          · have hbk : brk (t.drop k) = false := decide_eq_false (fun h => h10 (by omega))
            have ec : (((nth t (k + 1) : Nat) : Int) == 10) = false := beq_eq_false_iff_ne.2 (by omega)
            have x1 := nth_lt hB (k + 1)
            by_cases hn2 : k + 2 < n
            · have g2 := str_get hB (i := k + 2) (by rw [hsz]; exact hn2)
              have hn2' : (k : Int) + 2 < (n : Int) := by omega
              have hn2'' : ¬ (n : Int) ≤ (k : Int) + 2 := by omega
              have x2 := nth_lt hB (k + 2)
              have e2 : nth (t.drop k) 2 = nth t (k + 2) := nth_drop _ _ _
              by_cases ha : Xq.unhex (nth t (k + 1)) < 16
              · have Ha : Hid (hexI (nth t (k + 1)) = (Xq.unhex (nth t (k + 1)) : Int)) := hexI_in ha
                by_cases hb : Xq.unhex (nth t (k + 2)) < 16
                · have Hb : Hid (hexI (nth t (k + 2)) = (Xq.unhex (nth t (k + 2)) : Int)) := hexI_in hb
                  obtain ⟨q, hq'⟩ : ∃ q, q = Xq.unhex (nth t (k + 1)) * 16 + Xq.unhex (nth t (k + 2)) := ⟨_, rfl⟩
                  have hr : rdq (t.drop k) = some q := by unfold rdq; rw [if_pos ⟨by omega, by omega, by rw [e1]; exact ha, by rw [e2]; exact hb⟩, e1, e2, hq']
                  have HQ : Hid (Xq.unq t = (Xq.unq (t.drop (k + 3))).map ((out ++ [q]) ++ ·)) := by
                    show _ = _
                    rw [hq.out, unq_step_hex hbk hr, List.drop_drop]
                    cases Xq.unq (t.drop (k + 3)) <;> simp
                  have ev : 16 * (Xq.unhex (nth t (k + 1)) : Int) + (Xq.unhex (nth t (k + 2)) : Int) = (q : Int) := by omega
                  have hq256 : q < 256 := by omega
                  have p1 : ¬ (Xq.unhex (nth t (k + 1)) : Int) < 0 := by omega
                  have p2 : ¬ (Xq.unhex (nth t (k + 2)) : Int) < 0 := by omega
                  clear hq hs hbk e0 e1 e2 hlk h61 hq' hr
                  go_wp2_with fail
                  refine (l1HexValue_any (nth t (k + 1)) _ x1).mono ?_
                  rintro e w1 ⟨rfl, rfl⟩
                  rw [Ha.out]
                  go_wp2_with fail
                  refine (l1HexValue_any (nth t (k + 2)) _ x2).mono ?_
                  rintro e w1 ⟨rfl, rfl⟩
                  rw [Hb.out]
                  go_wp2_with (at_builtin; refine wpList_app_new rfl _ _ rfl (w.heap.size) _ out rfl hown 1 1 [q] rfl rfl rfl (by omega) hz ?_; intro v' w2 hown' hb')
                  go_wp2
                  go_roundw
                  case rel => exact ⟨k + 3, out ++ [q], by omega, by go_num, hown', hbel.trans hb', HQ, by simp; omega⟩
                  case measure => simp [intOf]; omega
                · have Hb : Hid (hexI (nth t (k + 2)) = -1) := hexI_out hb
                  have hr : rdq (t.drop k) = none := by unfold rdq; rw [if_neg (fun h => hb (by rw [← e2]; exact h.2.2.2))]
                  have HN : Hid (Xq.unq t = none) := by
                    show _ = _
                    rw [hq.out, unq_step_bad (by omega) hs hbk hr]; rfl
                  have p1 : ¬ (Xq.unhex (nth t (k + 1)) : Int) < 0 := by omega
                  clear hq hs hbk e0 e1 e2 hlk h61 hr
                  go_wp2_with fail
                  refine (l1HexValue_any (nth t (k + 1)) _ x1).mono ?_
                  rintro e w1 ⟨rfl, rfl⟩
                  rw [Ha.out]
                  go_wp2_with fail
                  refine (l1HexValue_any (nth t (k + 2)) _ x2).mono ?_
                  rintro e w1 ⟨rfl, rfl⟩
                  rw [Hb.out]
                  go_wp2
                  go_ret2
                  exact unqEnd_no hbel HN.out
              · have Ha : Hid (hexI (nth t (k + 1)) = -1) := hexI_out ha
                have hr : rdq (t.drop k) = none := by unfold rdq; rw [if_neg (fun h => ha (by rw [← e1]; exact h.2.2.1))]
                have HN : Hid (Xq.unq t = none) := by
                  show _ = _
                  rw [hq.out, unq_step_bad (by omega) hs hbk hr]; rfl
                clear hq hs hbk e0 e1 e2 hlk h61 hr
                go_wp2_with fail
                refine (l1HexValue_any (nth t (k + 1)) _ x1).mono ?_
                rintro e w1 ⟨rfl, rfl⟩
                rw [Ha.out]
                go_wp2_with fail
                refine (l1HexValue_any (nth t (k + 2)) _ x2).mono ?_
                rintro e w1 ⟨rfl, rfl⟩
                go_wp2
                go_ret2
                exact unqEnd_no hbel HN.out
            · have hn2' : (n : Int) ≤ (k : Int) + 2 := by omega
              have hr : rdq (t.drop k) = none := by unfold rdq; rw [if_neg (fun h => by have := h.1; omega)]
              have HN : Hid (Xq.unq t = none) := by
                show _ = _
                rw [hq.out, unq_step_bad (by omega) hs hbk hr]; rfl
              clear hq hs hbk e0 e1 hlk h61 hr
              go_wp2
              go_ret2
              exact unqEnd_no hbel HN.out
        · have hn1' : ¬ (k : Int) + 1 < (n : Int) := by omega
          have hn2' : (n : Int) ≤ (k : Int) + 2 := by omega
          have hbk : brk (t.drop k) = false := decide_eq_false (fun h => by have := h.1; omega)
          have hr : rdq (t.drop k) = none := by unfold rdq; rw [if_neg (fun h => by have := h.1; omega)]
          have HN : Hid (Xq.unq t = none) := by
            show _ = _
            rw [hq.out, unq_step_bad (by omega) hs hbk hr]; rfl
          clear hq hs hbk e0 e1 hlk h61 hr
          go_wp2
          go_ret2
          exact unqEnd_no hbel HN.out
      · have n61 : (((nth t k : Nat) : Int) != 61) = true := by rw [bne_iff_ne]; omega
        by_cases h10 : nth t k = 10
        · have HQ := hstep (selfL_lf (by omega))
          rw [h10] at g0 HQ
          clear hq hstep e0 e1 hlk n61 h61
          go_wp2_with (at_builtin; refine wpList_app_new rfl _ _ rfl (w.heap.size) _ out rfl hown 1 1 [10] rfl rfl rfl (by omega) hz ?_; intro v' w2 hown' hb')
          go_wp2
          go_roundw
          case rel => exact ⟨k + 1, out ++ [10], by omega, by go_num, hown', hbel.trans hb', HQ, by simp; omega⟩
          case measure => simp [intOf]; omega
        · have n10 : (((nth t k : Nat) : Int) == 10) = false := beq_eq_false_iff_ne.2 (by omega)
          by_cases hr : 33 ≤ nth t k ∧ nth t k ≤ 126
          · have HQ := hstep (by rw [selfL_other (by omega) (by omega), e0]; exact decide_eq_true ⟨hr.1, hr.2, h61⟩)
            have r1 : (33 : Int) ≤ ((nth t k : Nat) : Int) := by omega
            have r2 : ((nth t k : Nat) : Int) ≤ 126 := by omega
            generalize nth t k = x at *
            clear hq hstep e0 e1 hlk h61
            go_wp2_with (at_builtin; refine wpList_app_new rfl _ _ rfl (w.heap.size) _ out rfl hown 1 1 [x] rfl rfl rfl (by omega) hz ?_; intro v' w2 hown' hb')
            go_wp2
            go_roundw
            case rel => exact ⟨k + 1, out ++ [x], by omega, by go_num, hown', hbel.trans hb', HQ, by simp; omega⟩
            case measure => simp [intOf]; omega
          · have hsb := self_blk h10 hr
            by_cases h33 : 33 ≤ nth t k
            · have r1 : (33 : Int) ≤ ((nth t k : Nat) : Int) := by omega
              have r2 : ¬ ((nth t k : Nat) : Int) ≤ 126 := by omega
              have hbf : blk t k = false := decide_eq_false (fun h => by have := h.1; omega)
              have HB : Hid (blk t k = false) := hbf
              have hnr : rdq (t.drop k) = none := by unfold rdq; rw [if_neg (fun h => h61 (by omega))]
              have HN : Hid (Xq.unq t = none) := by
                show _ = _
                rw [hq.out, unq_step_bad (by omega) (hsb.trans hbf) (decide_eq_false (fun h => h61 (by omega))) hnr]; rfl
              clear hq hstep e0 e1 hlk h61 hsb hnr hbf
              go_wp2_with fail
              refine (l1Blank_any t n k _ hl hB hkn hn).mono ?_
              rintro e w1 ⟨rfl, rfl⟩
              rw [HB.out]
              go_wp2
              go_ret2
              exact unqEnd_no hbel HN.out
            · have r1 : ¬ (33 : Int) ≤ ((nth t k : Nat) : Int) := by omega
              cases hbf : blk t k with
              | true =>
                have HB : Hid (blk t k = true) := hbf
                have HQ := hstep (hsb.trans hbf)
                clear hq hstep e0 e1 hlk h61 hsb hbf
                go_wp2_with fail
                refine (l1Blank_any t n k _ hl hB hkn hn).mono ?_
                rintro e w1 ⟨rfl, rfl⟩
                rw [HB.out]
                go_wp2_with (at_builtin; refine wpList_app_new rfl _ _ rfl (w.heap.size) _ out rfl hown 1 1 [nth t k] rfl rfl rfl (by omega) hz ?_; intro v' w2 hown' hb')
                go_wp2
                go_roundw
                case rel => exact ⟨k + 1, out ++ [nth t k], by omega, by go_num, hown', hbel.trans hb', HQ, by simp; omega⟩
                case measure => simp [intOf]; omega
              | false =>
                have HB : Hid (blk t k = false) := hbf
                have hnr : rdq (t.drop k) = none := by unfold rdq; rw [if_neg (fun h => h61 (by omega))]
                have HN : Hid (Xq.unq t = none) := by
                  show _ = _
                  rw [hq.out, unq_step_bad (by omega) (hsb.trans hbf) (decide_eq_false (fun h => h61 (by omega))) hnr]; rfl
                clear hq hstep e0 e1 hlk h61 hsb hnr hbf
                go_wp2_with fail
                refine (l1Blank_any t n k _ hl hB hkn hn).mono ?_
                rintro e w1 ⟨rfl, rfl⟩
                rw [HB.out]
                go_wp2
                go_ret2
                exact unqEnd_no hbel HN.out
    · have hkk : k = n := by omega
      have HS : Hid (Xq.unq t = some out) := by
        show _ = _
        rw [hq.out, List.drop_of_length_le (by omega)]; simp [Xq.unq]
      have hk' : ¬ (k : Int) < (n : Int) := by omega
      clear hq hkk
      go_wp2
      go_ret2
      exact unqEnd_yes hown hbel HS.out

set_option maxHeartbeats 1600000 in
set_option maxRecDepth 100000 in
theorem specDecodeQuoted_any (t : List Nat) (n : Nat) (w : World) (hl : t.length = n) (hB : IsB t) :
    Calls Tryz.prog 89 #[.string (str t)] w fun e w' => ∃ v, e = .returned (.agg #[.int .i64 (decQ t).1, v]) ∧ Own w' w.heap.size v (decQ t).2 ∧ Below w.heap.size w w' := by
  have hsz : (str t).size = n := by rw [str_size, hl]
  by_cases hbig : 1600 < n
  · have H : Hid (decQ t = (2, [])) := decQ_long (by omega)
    have hn' : (1600 : Int) < (n : Int) := by omega
    go_enter Tryz.func89, Tryz.ntmps89
    go_wp2
    go_returns
    exact ⟨.slice none 0 0, by rw [H.out], by rw [H.out]; exact Own.nil _ _, by go_grown⟩
  · have hn' : ¬ (1600 : Int) < (n : Int) := by omega
    have hb0 : Below w.heap.size w (w.alloc (.cells #[.int .i64 0, .slice none 0 0] 27)) := (Below.refl _ _).alloc (Nat.le_refl _) _
    go_enter Tryz.func89, Tryz.ntmps89
    go_wp2_with fail
    refine (l1Unquote_any t n _ hl hB (by omega)).mono ?_
    rintro e w1 ⟨v, ok, l, rfl, hown, hb1, hsay⟩
    have hbl : Below (w.heap.size + 1) (w.alloc (.cells #[.int .i64 0, .slice none 0 0] 27)) w1 := hb1.mono (by simp)
    have hown' : Own w1 (w.heap.size + 1) v l := hown.low (by simp)
    obtain ⟨hcw, hcw1, hfw, hfw1⟩ := res_block rfl hbl
    have hbel : Below w.heap.size w w1 := hb0.trans (hbl.mono (by omega))
    clear hown hb1
    rcases hsay with ⟨rfl, hu⟩ | ⟨rfl, hu, rfl⟩
    · obtain ⟨ao, ocap, hv, hoc⟩ := hown'.form
      rw [hv] at hown' ⊢
      clear hv
      generalize hN : l.length = N at *
      by_cases h4 : 400 < N
      · have h4' : (400 : Int) < (N : Int) := by omega
        have H : Hid (decQ t = (2, [])) := decQ_many (by omega) hu (by omega)
        obtain ⟨hk0, hk1⟩ := res_cells hcw hcw1 (.int .i64 2) (.slice none 0 0)
        clear hu hN
        go_wp2
        refine bodyPost_ret (v := .agg #[.int .i64 2, .slice none 0 0]) (by simp [results, Tryz.results89, go_sem, hk0, hk1]) rfl ?_
        exact ⟨.slice none 0 0, by rw [H.out], by rw [H.out]; exact Own.nil _ _, (hbel.setCell (by simp) _).setCell (by simp) _⟩
      · have h4' : ¬ (400 : Int) < (N : Int) := by omega
        have H : Hid (decQ t = (0, l)) := decQ_some (by omega) hu (by omega)
        obtain ⟨hk0, hk1⟩ := res_cells hcw hcw1 (.int .i64 0) (.slice ao N ocap)
        clear hu hN
        go_wp2
        refine bodyPost_ret (v := .agg #[.int .i64 0, .slice ao N ocap]) (by simp [results, Tryz.results89, go_sem, hk0, hk1]) rfl ?_
        exact ⟨.slice ao N ocap, by rw [H.out], by rw [H.out]; exact ((hown'.set _ (by simp) _).set _ (by simp) _).low (by omega), (hbel.setCell (by simp) _).setCell (by simp) _⟩
    · have H : Hid (decQ t = (7, [])) := decQ_none (by omega) hu
      obtain ⟨hk0, hk1⟩ := res_cells hcw hcw1 (.int .i64 7) (.slice none 0 0)
      clear hu
      go_wp2
      refine bodyPost_ret (v := .agg #[.int .i64 7, .slice none 0 0]) (by simp [results, Tryz.results89, go_sem, hk0, hk1]) rfl ?_
      exact ⟨.slice none 0 0, by rw [H.out], by rw [H.out]; exact Own.nil _ _, (hbel.setCell (by simp) _).setCell (by simp) _⟩

end Go.Proofs.YtooifkdbpghcfaaGreatDoor

namespace Go.Proofs.YtooifkdbpghcfaaGreatDoor
open Go.RowKit

/-- No part. -/
def ptZ : PtP := ((0, 0, 0), (0, 0), (0, 0))
/-- The part that is asked. -/
def ppV (d : List Nat) (k : Int) : PtP := if (pwV d k).1 = 0 then nthP (pwV d k).2 k.toNat else ptZ
theorem psV_ok {d : List Nat} (h : (psV d).1 = 0) : d.length ≤ 400 ∧ OkP d (psV d).2 := by
  unfold psV at h ⊢
  split at h
  · cases h
  · rename_i h4
    rw [if_neg h4]
    exact ⟨by omega, parts_ok d (by omega)⟩
/-- Where the part that is asked lies. -/
theorem ppV_in {d : List Nat} {k : Int} (h : (pwV d k).1 = 0) : d.length ≤ 400 ∧ ∃ f t : Nat, (ppV d k).2.1 = ((f : Int), (t : Int)) ∧ f ≤ t ∧ t ≤ d.length := by
  obtain ⟨e, n, rfl, hn, h0⟩ := pwV_in h
  obtain ⟨h1, h2⟩ := psV_ok h0
  refine ⟨h1, ?_⟩
  unfold ppV
  rw [if_pos h, e, Int.toNat_natCast]
  exact (h2 n hn).1

set_option maxHeartbeats 1600000 in
set_option maxRecDepth 100000 in
theorem l6Part_any {cp : Nat} (b m : Nat) (d : List Nat) (k : Int) (w : World) (hr : Rd w (some ⟨b, 0, none⟩) d) (hb : b < w.heap.size) (hB : IsB d) (hl : d.length = m) (hcp : m ≤ cp := by omega) :
    Calls Tryz.prog 50 #[.slice (some ⟨b, 0, none⟩) m cp, .int .i64 k] w fun e w' => e = .returned (.tuple #[ptA (ppV d k), .int .i64 (pwV d k).1]) ∧ Below w.heap.size w w' := by
  have hb0 : Below w.heap.size w (w.alloc (.cells #[.int .i64 0, .int .i64 0, .int .i64 0, .int .i64 0, .int .i64 0, .int .i64 0, .int .i64 0] 44)) := (Below.refl _ _).alloc (Nat.le_refl _) _
  by_cases h4 : 400 < m
  · have h4' : (400 : Int) < (m : Int) := by omega
    have HM : Hid ((pwV d k).1 = 2 ∧ ppV d k = ptZ) := by
      have e : psV d = (2, []) := if_pos (by omega)
      have e2 : pwV d k = (2, []) := by unfold pwV; rw [e, if_neg (fun h => by cases h.1)]
      refine ⟨by rw [e2], ?_⟩
      unfold ppV
      rw [e2, if_neg (by decide)]
    go_enter Tryz.func50, Tryz.ntmps50
    go_wp2
    refine bodyPost_ret (v := .tuple #[ptA ptZ, .int .i64 2]) (by simp [results, Tryz.results50, go_sem, ptA, ptZ]) rfl ?_
    rw [HM.out.1, HM.out.2]
    exact ⟨rfl, by go_grown⟩
  · have h4' : ¬ (400 : Int) < (m : Int) := by omega
    have HA := l5Parse_any (cp := cp) b m d _ (hr.below hb0) (Nat.lt_of_lt_of_le hb hb0.size) hB hl (by omega)
    have hps : psV d = (0, adV d 2 0 d.length (-1) 0 []) := if_neg (by omega)
    have h8 := parts_le d
    have HV : Hid (∀ c p, (if (k < 0 ∨ ((adV d 2 0 d.length (-1) 0 []).length : Int) ≤ k) then c = 3 ∧ p = ptZ else c = 0 ∧ p = nthP (adV d 2 0 d.length (-1) 0 []) k.toNat) → (pwV d k).1 = c ∧ ppV d k = p) := fun c p h => by
      unfold ppV pwV
      rw [hps]
      split at h
      · rename_i hh
        rw [if_pos ⟨rfl, hh⟩]
        obtain ⟨rfl, rfl⟩ := h
        exact ⟨rfl, if_neg (by decide)⟩
      · rename_i hh
        rw [if_neg (fun h => hh h.2)]
        obtain ⟨rfl, rfl⟩ := h
        exact ⟨rfl, if_pos rfl⟩
    generalize adV d 2 0 d.length (-1) 0 [] = l at *
    generalize pwV d k = r at *
    generalize ppV d k = q at *
    obtain ⟨N, hN⟩ : ∃ N, l.length = N := ⟨_, rfl⟩
    go_enter Tryz.func50, Tryz.ntmps50
    go_wp2_with fail
    refine HA.mono ?_
    rintro e w1 ⟨v, rfl, ho, hb1⟩
    obtain ⟨a, cp, hv, -, -⟩ := ho.form
    rw [hN] at hv
    subst hv
    have hbl : Below (w.heap.size + 1) (w.alloc (.cells #[.int .i64 0, .int .i64 0, .int .i64 0, .int .i64 0, .int .i64 0, .int .i64 0, .int .i64 0] 44)) w1 := hb1.mono (by simp)
    have hbw := hb0.trans (hbl.mono (by omega))
    have hrd := ho.rd.2
    obtain ⟨⟨hc0, hc1, hc2, hc3, hc4, hc5, hc6⟩, ⟨hf0, hf1, hf2, hf3, hf4, hf5, hf6⟩⟩ := res_block7 rfl hbl
    clear HA hb1 ho
    go_wp2_with fail
    refine (l1In_any k 0 _ _).mono ?_
    rintro e w2 ⟨rfl, rfl⟩
    by_cases hk : k < 0 ∨ (N : Int) ≤ k
    · have hd : decide (0 ≤ k ∧ k ≤ (N : Int) - 1) = false := by simp; omega
      obtain ⟨h1, h2⟩ := HV.out 3 ptZ (by rw [hN, if_pos hk]; exact ⟨rfl, rfl⟩)
      obtain ⟨hk0, hk1, hk2, hk3, hk4, hk5, hk6⟩ := res_cells7 ⟨hc0, hc1, hc2, hc3, hc4, hc5, hc6⟩ (.int .i64 0) (.int .i64 0) (.int .i64 0) (.int .i64 0) (.int .i64 0) (.int .i64 0) (.int .i64 0)
      have HQ : Hid (r.1 = 3 ∧ q = ptZ) := ⟨h1, h2⟩
      rw [hd]
      clear HV h1 h2 hk hd
      go_wp2
      refine bodyPost_ret (v := .tuple #[ptA ptZ, .int .i64 3]) (by simp [results, Tryz.results50, go_sem, ptA, ptZ, hk0, hk1, hk2, hk3, hk4, hk5, hk6]) rfl ?_
      rw [HQ.out.1, HQ.out.2]
      exact ⟨rfl, below_sets7 hbw _ _ _ _ _ _ _⟩
    · obtain ⟨n, hkn⟩ : ∃ n : Nat, k = (n : Int) := ⟨k.toNat, by omega⟩
      subst hkn
      have hnl : n < N := by omega
      have hd : decide (0 ≤ (n : Int) ∧ (n : Int) ≤ (N : Int) - 1) = true := by simp; omega
      obtain ⟨h1, h2⟩ := HV.out 0 (nthP l n) (by rw [hN, if_neg hk]; exact ⟨rfl, by rw [Int.toNat_natCast]⟩)
      have HQ : Hid (r.1 = 0 ∧ q = nthP l n) := ⟨h1, h2⟩
      obtain ⟨g, rfl, hglt, hcell⟩ := hrd.at_ (by omega)
      obtain ⟨x0, x1, x2, x3, x4, x5, x6⟩ := hcell n (by omega)
      have hnN : (n : Int) < (N : Int) := by omega
      rw [hd]
      clear HV h1 h2 hk hd hcell
      generalize nthP l n = pt at *
      obtain ⟨⟨p0, p1, p2⟩, ⟨p3, p4⟩, p5, p6⟩ := pt
      dsimp only at x0 x1 x2 x3 x4 x5 x6
      obtain ⟨hk0, hk1, hk2, hk3, hk4, hk5, hk6⟩ := res_cells7 ⟨hc0, hc1, hc2, hc3, hc4, hc5, hc6⟩ (.int .i64 p0) (.int .i64 p1) (.int .i64 p2) (.int .i64 p3) (.int .i64 p4) (.int .i64 p5) (.int .i64 p6)
      go_wp2
      refine bodyPost_ret (v := .tuple #[.agg #[.int .i64 p0, .int .i64 p1, .int .i64 p2, .int .i64 p3, .int .i64 p4, .int .i64 p5, .int .i64 p6], .int .i64 0]) (by simp [results, Tryz.results50, go_sem, hk0, hk1, hk2, hk3, hk4, hk5, hk6]) rfl ?_
      rw [HQ.out.1, HQ.out.2]
      exact ⟨rfl, below_sets7 hbw _ _ _ _ _ _ _⟩
end Go.Proofs.YtooifkdbpghcfaaGreatDoor

namespace Go.Proofs.YtooifkdbpghcfaaGreatDoor
open Go.RowKit

/-- The bytes that a part tells, or a code. -/
def pbP (d : List Nat) (p : PtP) : Int × List Nat := byV (cutN d p.2.1.1.toNat p.2.1.2.toNat) p.1.2.2
/-- What PartBytes answers. -/
def pbV (d : List Nat) (k : Int) : Int × List Nat := if (pwV d k).1 = 0 then pbP d (ppV d k) else ((pwV d k).1, [])

set_option maxHeartbeats 1600000 in
set_option maxRecDepth 100000 in
theorem partBytes1_any {cp : Nat} (b m B0 B1 : Nat) (d : List Nat) (k : Int) (w : World) (hr : Rd w (some ⟨b, 0, none⟩) d) (hT : TabC w) (hTB : TabB w) (hTH : TabH w) (hMI : MaxI w) (hB : IsB d) (hl : d.length = m)
    (h0 : w.cell? ⟨B0, 0, none⟩ = some (.slice (some ⟨b, 0, none⟩) m cp)) (h1 : w.cell? ⟨B1, 0, none⟩ = some (.int .i64 k)) (hcp : m ≤ cp := by omega) :
    Calls Tryz.prog 54 #[.pointer (some ⟨B0, 0, none⟩), .pointer (some ⟨B1, 0, none⟩)] w (SeeB (pbV d k) w) := by
  have l0 := World.block_lt_of_cell? w ⟨B0, 0, none⟩ h0
  have l1 := World.block_lt_of_cell? w ⟨B1, 0, none⟩ h1
  dsimp only at l0 l1
  have HP := partIn_any (cp := cp) b m d k w.drew hr hT hB hl
  have HY : Hid (∀ w', Below w.heap.size w w' → (pwV d k).1 = 0 → Calls Tryz.prog 55 #[.slice (some ⟨b, 0, none⟩) m cp, ptA (ppV d k)] w' (SeeB (pbV d k) w')) := fun w' hb h => by
    obtain ⟨h4, f, t, h1, h2, h3⟩ := ppV_in h
    have e : pbV d k = byV (cutN d f t) (ppV d k).1.2.2 := by
      unfold pbV pbP
      rw [if_pos h, h1]
      simp
    rw [e]
    exact bytesOfPart_any b m d (ppV d k) f t w' (hr.below hb) hB hl (by omega) h1 h2 (by omega) (hTB.below hb) (hTH.below hb) (hMI.below hb)
  have HZ : Hid ((pwV d k).1 ≠ 0 → pbV d k = ((pwV d k).1, [])) := fun h => if_neg h
  have HQ : Hid ((pwV d k).1 = 0 → nthP (pwV d k).2 k.toNat = ppV d k) := fun h => (if_pos h).symm
  generalize pbV d k = r at *
  generalize ppV d k = q at *
  generalize pwV d k = pw at *
  unfold ptA at *
  obtain ⟨⟨p0, p1, p2⟩, ⟨p3, p4⟩, p5, p6⟩ := q
  dsimp only at HY
  go_enter Tryz.func54, Tryz.ntmps54
  go_wp2_with fail
  refine wp_region_held_drew (S := fun w' => w'.cell? ⟨B0, 0, none⟩ = some (.slice (some ⟨b, 0, none⟩) m cp) ∧ w'.cell? ⟨B1, 0, none⟩ = some (.int .i64 k)) (by kernel_rfl) ?hS1 (fun hHeld => ?_)
  case hS1 => exact ⟨h0, h1⟩
  refine wpAnyH_take (i := 0) (v := ?_) rfl (by kernel_rfl) (by kernel_rfl) (by kernel_rfl) (fun _ _ _ h => h) (Or.inl ⟨by rfl, ?hy2⟩) (by assumption) ?ty2
  case hy2 => (intro w hSw; (try dsimp only at hSw); go_simp; all_goals with_reducible rfl)
  simp only [Act.put, List.getElem_toArray, List.getElem_cons_zero, List.setIfInBounds_toArray, List.set_cons_zero, List.set_cons_succ]
  refine wpAnyH_take (i := 1) (v := ?_) rfl (by kernel_rfl) (by kernel_rfl) (by kernel_rfl) (fun _ _ _ h => h) (Or.inl ⟨by rfl, ?hy3⟩) (by assumption) ?ty3
  case hy3 => (intro w hSw; (try dsimp only at hSw); go_simp; all_goals with_reducible rfl)
  simp only [Act.put, List.getElem_toArray, List.getElem_cons_zero, List.getElem_cons_succ, List.setIfInBounds_toArray, List.set_cons_zero, List.set_cons_succ]
  refine wpAnyH_take (i := 2) (v := ?_) rfl (by kernel_rfl) (by kernel_rfl) (by kernel_rfl) (fun _ _ _ h => h) (Or.inl ⟨by rfl, ?hy4⟩) (by assumption) ?ty4
  case hy4 => (intro w hSw; (try dsimp only at hSw); go_simp; all_goals with_reducible rfl)
  simp only [Act.put, List.getElem_toArray, List.getElem_cons_zero, List.getElem_cons_succ, List.setIfInBounds_toArray, List.set_cons_zero, List.set_cons_succ]
  refine wpAnyH_ready (rs := [3]) (by kernel_rfl) (by simp) ?_
  refine AllReadyH.cons rfl (fun K hK => ?_) AllReadyH.nil
  go_simp
  refine HP.mono ?_
  rintro e w1 ⟨⟨h2, he⟩ | ⟨h2, rfl⟩, hb1⟩
  · rw [HQ.out h2] at he
    subst he
    dsimp only [ptA]
    have hW : Below w.heap.size w w1 := (Below.refl _ _).drew.trans hb1
    have hsS : w1.cell? ⟨B0, 0, none⟩ = some (.slice (some ⟨b, 0, none⟩) m cp) ∧ w1.cell? ⟨B1, 0, none⟩ = some (.int .i64 k) := ⟨(hW.cell (p := ⟨B0, 0, none⟩) l0).trans h0, (hW.cell (p := ⟨B1, 0, none⟩) l1).trans h1⟩
    refine hK.out _ _ hsS (fun hHeld => ?_)
    clear hK K
    refine wpAnyH_ready (rs := [4]) (by kernel_rfl) (by simp) ?_
    refine AllReadyH.cons rfl (fun K hK => ?_) AllReadyH.nil
    go_simp
    refine (HY.out _ hW h2).mono ?_
    rintro e w2 ⟨⟨h3, v, rfl, ho⟩ | ⟨h3, rfl⟩, hb2⟩
    · have hW2 := hW.trans (hb2.mono hW.size)
      have ho2 : Own w2 w.heap.size v r.2 := row_low ho hW.size
      obtain ⟨a, cpv, hv, -, -⟩ := ho2.form
      subst hv
      have hsS2 : w2.cell? ⟨B0, 0, none⟩ = some (.slice (some ⟨b, 0, none⟩) m cp) ∧ w2.cell? ⟨B1, 0, none⟩ = some (.int .i64 k) := ⟨(hW2.cell (p := ⟨B0, 0, none⟩) l0).trans h0, (hW2.cell (p := ⟨B1, 0, none⟩) l1).trans h1⟩
      refine hK.out _ _ hsS2 (fun hHeld => ?_)
      clear hK K
      refine wpAnyH_take (i := 5) (v := ?_) rfl (by kernel_rfl) (by kernel_rfl) (by kernel_rfl) (fun _ _ _ h => h) (Or.inl ⟨by rfl, ?hy5⟩) (by assumption) ?ty5
      case hy5 => (intro w hSw; (try dsimp only at hSw); go_simp; all_goals with_reducible rfl)
      simp only [Act.put, List.getElem_toArray, List.getElem_cons_zero, List.getElem_cons_succ, List.setIfInBounds_toArray, List.set_cons_zero, List.set_cons_succ]
      refine wpAnyH_done (by kernel_rfl) ?_ _
      clear hHeld
      go_wp2
      go_ret
      exact ⟨.inl ⟨h3, _, rfl, ho2⟩, hW2⟩
    · exact ⟨rfl, .inr ⟨h3, rfl⟩, hW.trans (hb2.mono hW.size)⟩
  · refine ⟨rfl, ?_⟩
    rw [HZ.out h2]
    exact ⟨.inr ⟨h2, rfl⟩, (Below.refl _ _).drew.trans hb1⟩
end Go.Proofs.YtooifkdbpghcfaaGreatDoor
