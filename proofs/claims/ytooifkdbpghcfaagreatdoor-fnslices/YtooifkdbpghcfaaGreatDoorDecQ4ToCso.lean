/- The model's l1Unquote and DecodeQuoted at every text of at most 1048576 letters · The part that is asked and the bytes that it tells, the model's: l6Part, l6Bytes, PartBytes · PartBytes, the program's · The bytes that a part tells, the model's: l6Bytes · What a face answers: seen, or with a code · PartBytes, both sides · The charset of each part is one that there is, or none. -/
import Derived.Test.YtooifkdbpghcfaaGreatDoorPsmToDecQ3
import Derived.Test.YtooifkdbpghcfaaGreatDoorDecB4ToVwm
import Derived.Test.YtooifkdbpghcfaaGreatDoorDecB2ToPbo
import Derived.BigQuiet
import Derived.Deep.RegionHeld3
import Derived.Test.YtooifkdbpghcfaaGreatDoorByeToFldS2
import Derived.Test.YtooifkdbpghcfaaGreatDoorMemPToPth
namespace Go.Proofs.YtooifkdbpghcfaaGreatDoor
open Go.RowKit

theorem self_blk {t : List Nat} {i : Nat} (h10 : nth t i ≠ 10) (h : ¬ (33 ≤ nth t i ∧ nth t i ≤ 126)) : selfL (t.drop i) = blk t i := by
  obtain ⟨e0, e1⟩ := selfL_at (l := t) (k := i)
  by_cases hb : nth t i = 32 ∨ nth t i = 9
  · by_cases hc : i + 1 < t.length ∧ nth t (i + 1) ≠ 10
    · rw [selfL_bl (by rw [e0]; exact hb) (by simp; omega) (by rw [e1]; exact hc.2)]
      exact (decide_eq_true ⟨hb, hc.1, hc.2⟩).symm
    · rw [selfL_bl_no (by rw [e0]; exact hb) (by rw [e1, List.length_drop]; omega)]
      exact (decide_eq_false (fun h => hc ⟨h.2.1, h.2.2⟩)).symm
  · rw [selfL_other (by rw [e0]; exact h10) (by rw [e0]; exact hb), e0]
    have h1 : decide (33 ≤ nth t i ∧ nth t i ≤ 126 ∧ nth t i ≠ 61) = false := decide_eq_false (fun hh => h ⟨hh.1, hh.2.1⟩)
    rw [h1]
    exact (decide_eq_false (fun hh => hb hh.1)).symm

/-- What is read, and whether. -/
def UnqSays (t : List Nat) (ok : Bool) (l : List Nat) : Prop := (ok = true ∧ Xq.unq t = some l) ∨ (ok = false ∧ Xq.unq t = none ∧ l = [])

/-- How l1Unquote ends: a plain word, so that no walk opens it. -/
def UnqEnd (t : List Nat) (w : World) (e : Ending) (w' : World) : Prop := ∃ v ok l, e = .returned (.tuple #[v, .bool ok]) ∧ Own w' w.heap.size v l ∧ Below w.heap.size w w' ∧ UnqSays t ok l
theorem unqEnd_no {t : List Nat} {w w' : World} (hb : Below w.heap.size w w') (h : Xq.unq t = none) : UnqEnd t w (.returned (.tuple #[.slice none 0 0, .bool false])) w' := ⟨_, _, [], rfl, Own.nil _ _, hb, .inr ⟨rfl, h, rfl⟩⟩
theorem unqEnd_yes {t l : List Nat} {w w' : World} {v : Value} (ho : Own w' w.heap.size v l) (hb : Below w.heap.size w w') (h : Xq.unq t = some l) : UnqEnd t w (.returned (.tuple #[v, .bool true])) w' := ⟨_, _, l, rfl, ho, hb, .inl ⟨rfl, h⟩⟩

set_option maxHeartbeats 4000000 in
set_option maxRecDepth 100000 in
theorem l1Unquote_any (t : List Nat) (n : Nat) (w : World) (hl : t.length = n) (hB : IsB t) (hn : n ≤ 1048576) :
    Calls Tryz.prog 120 #[.string (str t)] w fun e w' => UnqEnd t w e w' := by
  have hsz : (str t).size = n := by rw [str_size, hl]
  go_enter Tryz.func120, Tryz.ntmps120
  go_wp2
  have hown0 : Own (w.alloc (.cells #[] 5)) w.heap.size (.slice (some ⟨w.heap.size, 0, none⟩) 0 0) [] := Own.lit w _ (Nat.le_refl _) #[] [] rfl (by decide)
  have hbel0 : Below w.heap.size w (w.alloc (.cells #[] 5)) := (Below.refl _ _).alloc (Nat.le_refl _) _
  go_loopw [4, 5] (fun v i wr => ∃ (k : Nat) (out : List Nat), k ≤ n ∧ i = .int .i64 k ∧ Own wr w.heap.size v out ∧ Below w.heap.size w wr ∧ Hid (Xq.unq t = (Xq.unq (t.drop k)).map (out ++ ·)) ∧ out.length ≤ k)
    (fun _ i _ => n - (intOf i).toNat)
  case atStart => exact ⟨0, [], Nat.zero_le _, rfl, hown0, hbel0, by show _ = _; rw [List.drop_zero]; cases Xq.unq t <;> simp, Nat.le_refl _⟩
  case round =>
    obtain ⟨k, out, hk, rfl, hown, hbel, hq, hol⟩ := hrel
    clear hown0 hbel0
    have hz := hbel.size
    by_cases hkn : k < n
    · have g0 := str_get hB (i := k) (by rw [hsz]; exact hkn)
      have hk' : (k : Int) < (n : Int) := by omega
      have hlk : (t.drop k).length = n - k := by rw [List.length_drop, hl]
      obtain ⟨e0, e1⟩ := selfL_at (l := t) (k := k)
      have hstep : selfL (t.drop k) = true → Hid (Xq.unq t = (Xq.unq (t.drop (k + 1))).map ((out ++ [nth t k]) ++ ·)) := fun hs => by
        show _ = _
        rw [hq.out, unq_step_self (by omega) hs, List.drop_drop, e0]
        cases Xq.unq (t.drop (k + 1)) <;> simp
      have hx := nth_lt hB k
      by_cases h61 : nth t k = 61
      · have hs : selfL (t.drop k) = false := by rw [selfL_other (by omega) (by omega), e0]; exact decide_eq_false (fun h => h.2.2 h61)
        rw [h61] at g0
        clear hstep hx
        by_cases hn1 : k + 1 < n
        · have g1 := str_get hB (i := k + 1) (by rw [hsz]; exact hn1)
          have hn1' : (k : Int) + 1 < (n : Int) := by omega
          by_cases h10 : nth t (k + 1) = 10
          · have hbk : brk (t.drop k) = true := decide_eq_true ⟨by omega, by omega, by omega⟩
            have HQ : Hid (Xq.unq t = (Xq.unq (t.drop (k + 2))).map (out ++ ·)) := by
              show _ = _
              rw [hq.out, unq_step_brk hbk, List.drop_drop]
            rw [h10] at g1
            clear hq hs hbk e0 e1 hlk h61
            go_wp2
            go_roundw
            case rel => exact ⟨k + 2, out, by omega, by go_num, hown, hbel, HQ, by omega⟩
            case measure => simp [intOf]; omega
          · have hbk : brk (t.drop k) = false := decide_eq_false (fun h => h10 (by omega))
            have ec : (((nth t (k + 1) : Nat) : Int) == 10) = false := beq_eq_false_iff_ne.2 (by omega)
            have x1 := nth_lt hB (k + 1)
            by_cases hn2 : k + 2 < n
            · have g2 := str_get hB (i := k + 2) (by rw [hsz]; exact hn2)
              have hn2' : (k : Int) + 2 < (n : Int) := by omega
              have hn2'' : ¬ (n : Int) ≤ (k : Int) + 2 := by omega
              have x2 := nth_lt hB (k + 2)
              have e2 : nth (t.drop k) 2 = nth t (k + 2) := nth_drop _ _ _
              by_cases ha : Xq.unhex (nth t (k + 1)) < 16
              · have Ha : Hid (hexI (nth t (k + 1)) = (Xq.unhex (nth t (k + 1)) : Int)) := hexI_in ha
                by_cases hb : Xq.unhex (nth t (k + 2)) < 16
                · have Hb : Hid (hexI (nth t (k + 2)) = (Xq.unhex (nth t (k + 2)) : Int)) := hexI_in hb
                  obtain ⟨q, hq'⟩ : ∃ q, q = Xq.unhex (nth t (k + 1)) * 16 + Xq.unhex (nth t (k + 2)) := ⟨_, rfl⟩
                  have hr : rdq (t.drop k) = some q := by unfold rdq; rw [if_pos ⟨by omega, by omega, by rw [e1]; exact ha, by rw [e2]; exact hb⟩, e1, e2, hq']
                  have HQ : Hid (Xq.unq t = (Xq.unq (t.drop (k + 3))).map ((out ++ [q]) ++ ·)) := by
                    show _ = _
                    rw [hq.out, unq_step_hex hbk hr, List.drop_drop]
                    cases Xq.unq (t.drop (k + 3)) <;> simp
                  have ev : 16 * (Xq.unhex (nth t (k + 1)) : Int) + (Xq.unhex (nth t (k + 2)) : Int) = (q : Int) := by omega
                  have hq256 : q < 256 := by omega
                  have p1 : ¬ (Xq.unhex (nth t (k + 1)) : Int) < 0 := by omega
                  have p2 : ¬ (Xq.unhex (nth t (k + 2)) : Int) < 0 := by omega
                  clear hq hs hbk e0 e1 e2 hlk h61 hq' hr
                  go_wp2_with fail
                  refine (l1HexValue_any (nth t (k + 1)) _ x1).mono ?_
                  rintro e w1 ⟨rfl, rfl⟩
                  rw [Ha.out]
                  go_wp2_with fail
                  refine (l1HexValue_any (nth t (k + 2)) _ x2).mono ?_
                  rintro e w1 ⟨rfl, rfl⟩
                  rw [Hb.out]
                  go_wp2_with (at_builtin; refine wpList_app_new rfl _ _ rfl (w.heap.size) _ out rfl hown 1 1 [q] rfl rfl rfl (by omega) hz ?_; intro v' w2 hown' hb')
                  go_wp2
                  go_roundw
                  case rel => exact ⟨k + 3, out ++ [q], by omega, by go_num, hown', hbel.trans hb', HQ, by simp; omega⟩
                  case measure => simp [intOf]; omega
                · have Hb : Hid (hexI (nth t (k + 2)) = -1) := hexI_out hb
                  have hr : rdq (t.drop k) = none := by unfold rdq; rw [if_neg (fun h => hb (by rw [← e2]; exact h.2.2.2))]
                  have HN : Hid (Xq.unq t = none) := by
                    show _ = _
                    rw [hq.out, unq_step_bad (by omega) hs hbk hr]; rfl
                  have p1 : ¬ (Xq.unhex (nth t (k + 1)) : Int) < 0 := by omega
                  clear hq hs hbk e0 e1 e2 hlk h61 hr
                  go_wp2_with fail
                  refine (l1HexValue_any (nth t (k + 1)) _ x1).mono ?_
                  rintro e w1 ⟨rfl, rfl⟩
                  rw [Ha.out]
                  go_wp2_with fail
                  refine (l1HexValue_any (nth t (k + 2)) _ x2).mono ?_
                  rintro e w1 ⟨rfl, rfl⟩
                  rw [Hb.out]
                  go_wp2
                  go_ret2
                  exact unqEnd_no hbel HN.out
              · have Ha : Hid (hexI (nth t (k + 1)) = -1) := hexI_out ha
                have hr : rdq (t.drop k) = none := by unfold rdq; rw [if_neg (fun h => ha (by rw [← e1]; exact h.2.2.1))]
                have HN : Hid (Xq.unq t = none) := by
                  show _ = _
                  rw [hq.out, unq_step_bad (by omega) hs hbk hr]; rfl
                clear hq hs hbk e0 e1 e2 hlk h61 hr
                go_wp2_with fail
                refine (l1HexValue_any (nth t (k + 1)) _ x1).mono ?_
                rintro e w1 ⟨rfl, rfl⟩
                rw [Ha.out]
                go_wp2_with fail
                refine (l1HexValue_any (nth t (k + 2)) _ x2).mono ?_
                rintro e w1 ⟨rfl, rfl⟩
                go_wp2
                go_ret2
                exact unqEnd_no hbel HN.out
            · have hn2' : (n : Int) ≤ (k : Int) + 2 := by omega
              have hr : rdq (t.drop k) = none := by unfold rdq; rw [if_neg (fun h => by have := h.1; omega)]
              have HN : Hid (Xq.unq t = none) := by
                show _ = _
                rw [hq.out, unq_step_bad (by omega) hs hbk hr]; rfl
              clear hq hs hbk e0 e1 hlk h61 hr
              go_wp2
              go_ret2
              exact unqEnd_no hbel HN.out
        · have hn1' : ¬ (k : Int) + 1 < (n : Int) := by omega
          have hn2' : (n : Int) ≤ (k : Int) + 2 := by omega
          have hbk : brk (t.drop k) = false := decide_eq_false (fun h => by have := h.1; omega)
          have hr : rdq (t.drop k) = none := by unfold rdq; rw [if_neg (fun h => by have := h.1; omega)]
          have HN : Hid (Xq.unq t = none) := by
            show _ = _
            rw [hq.out, unq_step_bad (by omega) hs hbk hr]; rfl
          clear hq hs hbk e0 e1 hlk h61 hr
          go_wp2
          go_ret2
          exact unqEnd_no hbel HN.out
      · have n61 : (((nth t k : Nat) : Int) != 61) = true := by rw [bne_iff_ne]; omega
        by_cases h10 : nth t k = 10
        · have HQ := hstep (selfL_lf (by omega))
          rw [h10] at g0 HQ
          clear hq hstep e0 e1 hlk n61 h61
          go_wp2_with (at_builtin; refine wpList_app_new rfl _ _ rfl (w.heap.size) _ out rfl hown 1 1 [10] rfl rfl rfl (by omega) hz ?_; intro v' w2 hown' hb')
          go_wp2
          go_roundw
          case rel => exact ⟨k + 1, out ++ [10], by omega, by go_num, hown', hbel.trans hb', HQ, by simp; omega⟩
          case measure => simp [intOf]; omega
        · have n10 : (((nth t k : Nat) : Int) == 10) = false := beq_eq_false_iff_ne.2 (by omega)
          by_cases hr : 33 ≤ nth t k ∧ nth t k ≤ 126
          · have HQ := hstep (by rw [selfL_other (by omega) (by omega), e0]; exact decide_eq_true ⟨hr.1, hr.2, h61⟩)
            have r1 : (33 : Int) ≤ ((nth t k : Nat) : Int) := by omega
            have r2 : ((nth t k : Nat) : Int) ≤ 126 := by omega
            generalize nth t k = x at *
            clear hq hstep e0 e1 hlk h61
            go_wp2_with (at_builtin; refine wpList_app_new rfl _ _ rfl (w.heap.size) _ out rfl hown 1 1 [x] rfl rfl rfl (by omega) hz ?_; intro v' w2 hown' hb')
            go_wp2
            go_roundw
            case rel => exact ⟨k + 1, out ++ [x], by omega, by go_num, hown', hbel.trans hb', HQ, by simp; omega⟩
            case measure => simp [intOf]; omega
          · have hsb := self_blk h10 hr
            by_cases h33 : 33 ≤ nth t k
            · have r1 : (33 : Int) ≤ ((nth t k : Nat) : Int) := by omega
              have r2 : ¬ ((nth t k : Nat) : Int) ≤ 126 := by omega
              have hbf : blk t k = false := decide_eq_false (fun h => by have := h.1; omega)
              have HB : Hid (blk t k = false) := hbf
              have hnr : rdq (t.drop k) = none := by unfold rdq; rw [if_neg (fun h => h61 (by omega))]
              have HN : Hid (Xq.unq t = none) := by
                show _ = _
                rw [hq.out, unq_step_bad (by omega) (hsb.trans hbf) (decide_eq_false (fun h => h61 (by omega))) hnr]; rfl
              clear hq hstep e0 e1 hlk h61 hsb hnr hbf
              go_wp2_with fail
              refine (l1Blank_any t n k _ hl hB hkn hn).mono ?_
              rintro e w1 ⟨rfl, rfl⟩
              rw [HB.out]
              go_wp2
              go_ret2
              exact unqEnd_no hbel HN.out
            · have r1 : ¬ (33 : Int) ≤ ((nth t k : Nat) : Int) := by omega
              cases hbf : blk t k with
              | true =>
                have HB : Hid (blk t k = true) := hbf
                have HQ := hstep (hsb.trans hbf)
                clear hq hstep e0 e1 hlk h61 hsb hbf
                go_wp2_with fail
                refine (l1Blank_any t n k _ hl hB hkn hn).mono ?_
                rintro e w1 ⟨rfl, rfl⟩
                rw [HB.out]
                go_wp2_with (at_builtin; refine wpList_app_new rfl _ _ rfl (w.heap.size) _ out rfl hown 1 1 [nth t k] rfl rfl rfl (by omega) hz ?_; intro v' w2 hown' hb')
                go_wp2
                go_roundw
                case rel => exact ⟨k + 1, out ++ [nth t k], by omega, by go_num, hown', hbel.trans hb', HQ, by simp; omega⟩
                case measure => simp [intOf]; omega
              | false =>
                have HB : Hid (blk t k = false) := hbf
                have hnr : rdq (t.drop k) = none := by unfold rdq; rw [if_neg (fun h => h61 (by omega))]
                have HN : Hid (Xq.unq t = none) := by
                  show _ = _
                  rw [hq.out, unq_step_bad (by omega) (hsb.trans hbf) (decide_eq_false (fun h => h61 (by omega))) hnr]; rfl
                clear hq hstep e0 e1 hlk h61 hsb hnr hbf
                go_wp2_with fail
                refine (l1Blank_any t n k _ hl hB hkn hn).mono ?_
                rintro e w1 ⟨rfl, rfl⟩
                rw [HB.out]
                go_wp2
                go_ret2
                exact unqEnd_no hbel HN.out
    · have hkk : k = n := by omega
      have HS : Hid (Xq.unq t = some out) := by
        show _ = _
        rw [hq.out, List.drop_of_length_le (by omega)]; simp [Xq.unq]
      have hk' : ¬ (k : Int) < (n : Int) := by omega
      clear hq hkk
      go_wp2
      go_ret2
      exact unqEnd_yes hown hbel HS.out

set_option maxHeartbeats 1600000 in
set_option maxRecDepth 100000 in
theorem specDecodeQuoted_any (t : List Nat) (n : Nat) (w : World) (hl : t.length = n) (hB : IsB t) :
    Calls Tryz.prog 89 #[.string (str t)] w fun e w' => ∃ v, e = .returned (.agg #[.int .i64 (decQ t).1, v]) ∧ Own w' w.heap.size v (decQ t).2 ∧ Below w.heap.size w w' := by
  have hsz : (str t).size = n := by rw [str_size, hl]
  by_cases hbig : 1600 < n
  · have H : Hid (decQ t = (2, [])) := decQ_long (by omega)
    have hn' : (1600 : Int) < (n : Int) := by omega
    go_enter Tryz.func89, Tryz.ntmps89
    go_wp2
    go_returns
    exact ⟨.slice none 0 0, by rw [H.out], by rw [H.out]; exact Own.nil _ _, by go_grown⟩
  · have hn' : ¬ (1600 : Int) < (n : Int) := by omega
    have hb0 : Below w.heap.size w (w.alloc (.cells #[.int .i64 0, .slice none 0 0] 27)) := (Below.refl _ _).alloc (Nat.le_refl _) _
    go_enter Tryz.func89, Tryz.ntmps89
    go_wp2_with fail
    refine (l1Unquote_any t n _ hl hB (by omega)).mono ?_
    rintro e w1 ⟨v, ok, l, rfl, hown, hb1, hsay⟩
    have hbl : Below (w.heap.size + 1) (w.alloc (.cells #[.int .i64 0, .slice none 0 0] 27)) w1 := hb1.mono (by simp)
    have hown' : Own w1 (w.heap.size + 1) v l := hown.low (by simp)
    obtain ⟨hcw, hcw1, hfw, hfw1⟩ := res_block rfl hbl
    have hbel : Below w.heap.size w w1 := hb0.trans (hbl.mono (by omega))
    clear hown hb1
    rcases hsay with ⟨rfl, hu⟩ | ⟨rfl, hu, rfl⟩
    · obtain ⟨ao, ocap, hv, hoc⟩ := hown'.form
      rw [hv] at hown' ⊢
      clear hv
      generalize hN : l.length = N at *
      by_cases h4 : 400 < N
      · have h4' : (400 : Int) < (N : Int) := by omega
        have H : Hid (decQ t = (2, [])) := decQ_many (by omega) hu (by omega)
        obtain ⟨hk0, hk1⟩ := res_cells hcw hcw1 (.int .i64 2) (.slice none 0 0)
        clear hu hN
        go_wp2
        refine bodyPost_ret (v := .agg #[.int .i64 2, .slice none 0 0]) (by simp [results, Tryz.results89, go_sem, hk0, hk1]) rfl ?_
        exact ⟨.slice none 0 0, by rw [H.out], by rw [H.out]; exact Own.nil _ _, (hbel.setCell (by simp) _).setCell (by simp) _⟩
      · have h4' : ¬ (400 : Int) < (N : Int) := by omega
        have H : Hid (decQ t = (0, l)) := decQ_some (by omega) hu (by omega)
        obtain ⟨hk0, hk1⟩ := res_cells hcw hcw1 (.int .i64 0) (.slice ao N ocap)
        clear hu hN
        go_wp2
        refine bodyPost_ret (v := .agg #[.int .i64 0, .slice ao N ocap]) (by simp [results, Tryz.results89, go_sem, hk0, hk1]) rfl ?_
        exact ⟨.slice ao N ocap, by rw [H.out], by rw [H.out]; exact ((hown'.set _ (by simp) _).set _ (by simp) _).low (by omega), (hbel.setCell (by simp) _).setCell (by simp) _⟩
    · have H : Hid (decQ t = (7, [])) := decQ_none (by omega) hu
      obtain ⟨hk0, hk1⟩ := res_cells hcw hcw1 (.int .i64 7) (.slice none 0 0)
      clear hu
      go_wp2
      refine bodyPost_ret (v := .agg #[.int .i64 7, .slice none 0 0]) (by simp [results, Tryz.results89, go_sem, hk0, hk1]) rfl ?_
      exact ⟨.slice none 0 0, by rw [H.out], by rw [H.out]; exact Own.nil _ _, (hbel.setCell (by simp) _).setCell (by simp) _⟩

end Go.Proofs.YtooifkdbpghcfaaGreatDoor

namespace Go.Proofs.YtooifkdbpghcfaaGreatDoor
open Go.RowKit

/-- No part. -/
def ptZ : PtP := ((0, 0, 0), (0, 0), (0, 0))
/-- The part that is asked. -/
def ppV (d : List Nat) (k : Int) : PtP := if (pwV d k).1 = 0 then nthP (pwV d k).2 k.toNat else ptZ
theorem psV_ok {d : List Nat} (h : (psV d).1 = 0) : d.length ≤ 400 ∧ OkP d (psV d).2 := by
  unfold psV at h ⊢
  split at h
  · cases h
  · rename_i h4
    rw [if_neg h4]
    exact ⟨by omega, parts_ok d (by omega)⟩
/-- Where the part that is asked lies. -/
theorem ppV_in {d : List Nat} {k : Int} (h : (pwV d k).1 = 0) : d.length ≤ 400 ∧ ∃ f t : Nat, (ppV d k).2.1 = ((f : Int), (t : Int)) ∧ f ≤ t ∧ t ≤ d.length := by
  obtain ⟨e, n, rfl, hn, h0⟩ := pwV_in h
  obtain ⟨h1, h2⟩ := psV_ok h0
  refine ⟨h1, ?_⟩
  unfold ppV
  rw [if_pos h, e, Int.toNat_natCast]
  exact (h2 n hn).1

end Go.Proofs.YtooifkdbpghcfaaGreatDoor

namespace Go.Proofs.YtooifkdbpghcfaaGreatDoor
open Go.RowKit

/-- The bytes that a part tells, or a code. -/
def pbP (d : List Nat) (p : PtP) : Int × List Nat := byV (cutN d p.2.1.1.toNat p.2.1.2.toNat) p.1.2.2
end Go.Proofs.YtooifkdbpghcfaaGreatDoor

namespace Go.Proofs.YtooifkdbpghcfaaGreatDoor
open Go.RowKit

/-- A part's first five numbers stand at a place. -/
def PtC (w : World) (P o : Nat) (p : PtP) : Prop := P < w.heap.size ∧ w.cell? ⟨P, o, none⟩ = some (.int .i64 p.1.1) ∧ w.cell? ⟨P, o + 1, none⟩ = some (.int .i64 p.1.2.1) ∧ w.cell? ⟨P, o + 2, none⟩ = some (.int .i64 p.1.2.2) ∧ w.cell? ⟨P, o + 3, none⟩ = some (.int .i64 p.2.1.1) ∧ w.cell? ⟨P, o + 4, none⟩ = some (.int .i64 p.2.1.2)
theorem PtC.below {w w' : World} {P o : Nat} {p : PtP} (h : PtC w P o p) (hb : Below w.heap.size w w') : PtC w' P o p :=
  ⟨Nat.lt_of_lt_of_le h.1 hb.size, (hb.cell (p := ⟨P, o, none⟩) h.1).trans h.2.1, (hb.cell (p := ⟨P, o + 1, none⟩) h.1).trans h.2.2.1, (hb.cell (p := ⟨P, o + 2, none⟩) h.1).trans h.2.2.2.1, (hb.cell (p := ⟨P, o + 3, none⟩) h.1).trans h.2.2.2.2.1, (hb.cell (p := ⟨P, o + 4, none⟩) h.1).trans h.2.2.2.2.2⟩
set_option maxHeartbeats 3200000 in
set_option maxRecDepth 100000 in
theorem l6Bytes_any {cp : Nat} (b m P o0 : Nat) (d : List Nat) (p : PtP) (f t : Nat) (w : World) (hr : Rd w (some ⟨b, 0, none⟩) d) (hB : IsB d) (hl : d.length = m) (hm : m ≤ 400) (hp : p.2.1 = ((f : Int), (t : Int))) (hft : f ≤ t) (htm : t ≤ m) (hP : PtC w P o0 p) (hcp : m ≤ cp := by omega) :
    Calls Tryz.prog 66 #[.slice (some ⟨b, 0, none⟩) m cp, .pointer (some ⟨P, o0, none⟩)] w fun e w' => ∃ v, e = .returned (.tuple #[v, .int .i64 (byV (cutN d f t) p.1.2.2).1]) ∧ Own w' w.heap.size v (byV (cutN d f t) p.1.2.2).2 ∧ Below w.heap.size w w' := by
  obtain ⟨⟨p0, p1, p2⟩, ⟨p3, p4⟩, p5, p6⟩ := p
  dsimp only at hp ⊢
  obtain ⟨rfl, rfl⟩ : p3 = (f : Int) ∧ p4 = (t : Int) := by simpa using hp
  have hBc : IsB (cutN d f t) := isB_drop (isB_take hB _) _
  have hcl : (cutN d f t).length = t - f := by unfold cutN; rw [List.length_drop, List.length_take]; omega
  have HR1 : Hid (∀ W, Below w.heap.size w W → Rd W (some ⟨b, f, none⟩) (cutN d f t)) := fun W hW => by
    have h := (rd_takeH (hr.below hW) t).drop f
    rw [Nat.zero_add] at h; exact h
  have HR0 : Hid (cp = f → ∀ W, Below w.heap.size w W → Rd W (some ⟨b, 0, none⟩) (cutN d f t)) := fun hmf W hW => by
    rw [List.length_eq_zero_iff.1 (show (cutN d f t).length = 0 by omega)]; exact .inl rfl
  have hi1 : (f : Int) ≤ (t : Int) := by omega
  have hi2 : (t : Int) ≤ (m : Int) := by omega
  obtain ⟨hPl, x0, x1, x2, x3, x4⟩ := hP
  dsimp only at x0 x1 x2 x3 x4
  clear hp
  have HV2 : Hid (p2 = 2 → byV (cutN d f t) p2 = decB (repL (cutN d f t))) := fun h => if_pos h
  have HV3 : Hid (p2 = 3 → byV (cutN d f t) p2 = decQ (cutN d f t)) := fun h => by rw [h]; rfl
  have HV1 : Hid (p2 ≠ 2 → p2 ≠ 3 → byV (cutN d f t) p2 = (0, cutN d f t)) := fun h h' => (if_neg h).trans (if_neg h')
  generalize byV (cutN d f t) p2 = r at *
  go_enter Tryz.func66, Tryz.ntmps66
  go_wp2_with fail
  go_quiet (fail)
  obtain ⟨o, hoe, HRO⟩ : ∃ o : Nat, (if cp = f then (some ⟨b, 0, none⟩ : Option Addr) else some ⟨b, f, none⟩) = some ⟨b, o, none⟩ ∧ Hid (∀ W, Below w.heap.size w W → Rd W (some ⟨b, o, none⟩) (cutN d f t)) := by
    by_cases h : cp = f
    · exact ⟨0, if_pos h, HR0.out h⟩
    · exact ⟨f, if_neg h, HR1.out⟩
  rw [hoe]
  have hbq : Below w.heap.size w (w.drewN nq) := ⟨rfl, rfl, rfl, Nat.le_refl _, fun _ _ => rfl⟩
  generalize w.drewN nq = wq at *
  have y2 : wq.cell? ⟨P, o0 + 2, none⟩ = some (.int .i64 p2) := (hbq.cell (p := ⟨P, o0 + 2, none⟩) hPl).trans x2
  have hPq : P < wq.heap.size := Nat.lt_of_lt_of_le hPl hbq.size
  clear x0 x1 x2 x3 x4 hoe HR0 HR1
  generalize hcq : cp - f = cq at *
  clear hcq
  go_wp2_with fail
  refine (l1Copy_any b o (t - f) _ (cutN d f t) _ hcl (HRO.out _ hbq) (by omega)).mono ?_
  rintro e w1 ⟨v1, rfl, ho1, hb1⟩
  obtain ⟨a1, c1, hv1, -, -⟩ := ho1.form
  rw [hcl] at hv1
  subst hv1
  have hbw1 := hbq.trans (hb1.mono hbq.size)
  have z2 : w1.cell? ⟨P, o0 + 2, none⟩ = some (.int .i64 p2) := (hb1.cell (p := ⟨P, o0 + 2, none⟩) hPq).trans y2
  have hPw : P < w1.heap.size := Nat.lt_of_lt_of_le hPq hb1.size
  have hbA : Below w1.heap.size w1 (w1.alloc (.cells #[.int .i64 0, .slice a1 (t - f) c1] 27)) := (Below.refl _ _).alloc (Nat.le_refl _) _
  have hbwA := hbw1.trans (hbA.mono hbw1.size)
  have hRD := HRO.out _ hbwA
  by_cases h2 : p2 = 2
  · subst h2
    have hV := HV2.out rfl
    have HD := fun w => specDecodeBase_any (repL (cutN d f t)) _ w rfl (repL_isB hBc)
    have HJ := l6Joined_any (some ⟨b, o, none⟩) (t - f) cq (cutN d f t) _ hcl hRD hBc (by omega)
    rw [← hV] at HD
    generalize str (repL (cutN d f t)) = sj at *
    clear hV HV1 HV2 HV3
    go_wp2_with fail
    refine HJ.mono ?_
    rintro e w2 ⟨rfl, hb2⟩
    go_wp2_with fail
    refine (HD _).mono ?_
    rintro e w3 ⟨v3, rfl, ho3, hb3⟩
    have hbl : Below (w1.heap.size + 1) (w1.alloc (.cells #[.int .i64 0, .slice a1 (t - f) c1] 27)) w3 := (hb2.trans (hb3.mono hb2.size)).mono (by simp)
    have hbw3 := hbwA.trans (hbl.mono (by have := hbw1.size; omega))
    have hz2 := hb2.size
    rw [World.size_alloc] at hz2
    have ho4 : Own w3 (w1.heap.size + 1) v3 r.2 := ho3.lower hz2
    obtain ⟨a3, c3, hv3, -, -⟩ := ho4.form
    subst hv3
    obtain ⟨q0, q1, f0, f1⟩ := res_block rfl hbl
    obtain ⟨k0, k1⟩ := res_both q0 q1 (.int .i64 r.1) (.slice a3 r.2.length c3)
    have HE : Hid (∀ n, Own (((w3.setCell ⟨w1.heap.size, 0, none⟩ (.int .i64 r.1)).setCell ⟨w1.heap.size, 1, none⟩ (.slice a3 r.2.length c3)).drewN n) w.heap.size (.slice a3 r.2.length c3) r.2 ∧ Below w.heap.size w (((w3.setCell ⟨w1.heap.size, 0, none⟩ (.int .i64 r.1)).setCell ⟨w1.heap.size, 1, none⟩ (.slice a3 r.2.length c3)).drewN n)) := fun n =>
      ⟨((ho4.kept _ (by simp) _).kept _ (by simp) _).lower (by have := hbw1.size; omega), ((hbw3.setCell (p := ⟨w1.heap.size, 0, none⟩) hbw1.size _).setCell (p := ⟨w1.heap.size, 1, none⟩) hbw1.size _).trans ⟨rfl, rfl, rfl, Nat.le_refl _, fun _ _ => rfl⟩⟩
    clear HJ HD ho3 hb3 ho4 ho1 hbl
    go_wp2_with fail
    go_quiet (fail)
    go_wp2
    go_ret2
    exact ⟨_, rfl, HE.out _⟩
  · have h2' : (p2 == 2) = false := by simpa using h2
    by_cases h3 : p2 = 3
    · subst h3
      have hV := HV3.out rfl
      have HD := fun w => specDecodeQuoted_any (cutN d f t) _ w rfl hBc
      have hst := fun c => run_str (cap := c) hcl hRD
      rw [← hV] at HD
      generalize str (cutN d f t) = sj at *
      clear hV HV1 HV2 HV3
      go_wp2_with fail
      refine (HD _).mono ?_
      rintro e w3 ⟨v3, rfl, ho3, hb3⟩
      have hbl : Below (w1.heap.size + 1) (w1.alloc (.cells #[.int .i64 0, .slice a1 (t - f) c1] 27)) w3 := hb3.mono (by simp)
      have hbw3 := hbwA.trans (hbl.mono (by have := hbw1.size; omega))
      have ho4 : Own w3 (w1.heap.size + 1) v3 r.2 := ho3.lower (by simp)
      obtain ⟨a3, c3, hv3, -, -⟩ := ho4.form
      subst hv3
      obtain ⟨q0, q1, f0, f1⟩ := res_block rfl hbl
      obtain ⟨k0, k1⟩ := res_both q0 q1 (.int .i64 r.1) (.slice a3 r.2.length c3)
      have HE : Hid (∀ n, Own (((w3.setCell ⟨w1.heap.size, 0, none⟩ (.int .i64 r.1)).setCell ⟨w1.heap.size, 1, none⟩ (.slice a3 r.2.length c3)).drewN n) w.heap.size (.slice a3 r.2.length c3) r.2 ∧ Below w.heap.size w (((w3.setCell ⟨w1.heap.size, 0, none⟩ (.int .i64 r.1)).setCell ⟨w1.heap.size, 1, none⟩ (.slice a3 r.2.length c3)).drewN n)) := fun n =>
        ⟨((ho4.kept _ (by simp) _).kept _ (by simp) _).lower (by have := hbw1.size; omega), ((hbw3.setCell (p := ⟨w1.heap.size, 0, none⟩) hbw1.size _).setCell (p := ⟨w1.heap.size, 1, none⟩) hbw1.size _).trans ⟨rfl, rfl, rfl, Nat.le_refl _, fun _ _ => rfl⟩⟩
      clear  HD ho3 hb3 ho4 ho1 hbl
      go_wp2_with fail
      go_quiet (fail)
      go_wp2
      go_ret2
      exact ⟨_, rfl, HE.out _⟩
    · have h3' : (p2 == 3) = false := by simpa using h3
      have hV := HV1.out h2 h3
      obtain ⟨rc, rl⟩ := r
      obtain ⟨rfl, rfl⟩ : rc = 0 ∧ rl = cutN d f t := by simpa using hV
      have HE : Hid (∀ n, Own ((w1.alloc (.cells #[.int .i64 0, .slice a1 (t - f) c1] 27)).drewN n) w.heap.size (.slice a1 (t - f) c1) (cutN d f t) ∧ Below w.heap.size w ((w1.alloc (.cells #[.int .i64 0, .slice a1 (t - f) c1] 27)).drewN n)) := fun n =>
        ⟨(ho1.alloc _).lower hbq.size, hbwA.trans ⟨rfl, rfl, rfl, Nat.le_refl _, fun _ _ => rfl⟩⟩
      clear hV HV1 HV2 HV3 ho1
      go_wp2_with fail
      go_quiet (fail)
      go_wp2
      go_ret2
      exact ⟨_, rfl, HE.out _⟩
end Go.Proofs.YtooifkdbpghcfaaGreatDoor

namespace Go.Proofs.YtooifkdbpghcfaaGreatDoor
open Go.RowKit

theorem seeB_of (G : Nat) (caps : Array Value) (r : Int × List Nat) (w : World) (hG : ∀ (args : Array Value) (w : World), (callFunc G args).run Tryz.prog w = .ok (.enter G args) w) (hz : r.1 ≠ 0 → r.2 = [])
    (h : Calls Tryz.prog G caps (w.alloc (.cells #[.int .i64 0] 2)) (SeeB r (w.alloc (.cells #[.int .i64 0] 2)))) :
    Calls Tryz.prog 27 #[.func (.func G) #[] caps] w fun e w' => ∃ v, e = .returned (.tuple #[v, .int .i64 r.1]) ∧ Own w' w.heap.size v r.2 ∧ Below w.heap.size w w' := by
  by_cases h0 : r.1 = 0
  · rw [h0]
    refine seeB_ok G caps r.2 w hG (h.mono ?_)
    rintro e w' ⟨⟨_, v, rfl, ho⟩ | ⟨h1, _⟩, hb⟩
    · rw [World.size_alloc] at ho hb
      exact ⟨v, rfl, ho, hb⟩
    · exact absurd h0 h1
  · rw [hz h0]
    refine (seeB_bad G caps r.1 w hG (h.mono ?_)).mono ?_
    · rintro e w' ⟨⟨h1, _⟩ | ⟨_, rfl⟩, hb⟩
      · exact absurd h1 h0
      · rw [World.size_alloc] at hb
        exact ⟨rfl, hb⟩
    · rintro e w' ⟨rfl, hb⟩
      exact ⟨_, rfl, Own.nil _ _, hb⟩
theorem seeI_of (G : Nat) (caps : Array Value) (r : Int × List Int) (w : World) (hG : ∀ (args : Array Value) (w : World), (callFunc G args).run Tryz.prog w = .ok (.enter G args) w) (hz : r.1 ≠ 0 → r.2 = [])
    (h : Calls Tryz.prog G caps (w.alloc (.cells #[.int .i64 0] 2)) (SeeI r (w.alloc (.cells #[.int .i64 0] 2)))) :
    Calls Tryz.prog 34 #[.func (.func G) #[] caps] w fun e w' => ∃ v, e = .returned (.tuple #[v, .int .i64 r.1]) ∧ OwnI w' w.heap.size v r.2 ∧ Below w.heap.size w w' := by
  by_cases h0 : r.1 = 0
  · rw [h0]
    refine seeI_ok G caps r.2 w hG (h.mono ?_)
    rintro e w' ⟨⟨_, v, rfl, ho⟩ | ⟨h1, _⟩, hb⟩
    · rw [World.size_alloc] at ho hb
      exact ⟨v, rfl, ho, hb⟩
    · exact absurd h0 h1
  · rw [hz h0]
    refine (seeI_bad G caps r.1 w hG (h.mono ?_)).mono ?_
    · rintro e w' ⟨⟨h1, _⟩ | ⟨_, rfl⟩, hb⟩
      · exact absurd h1 h0
      · rw [World.size_alloc] at hb
        exact ⟨rfl, hb⟩
    · rintro e w' ⟨rfl, hb⟩
      exact ⟨_, rfl, OwnI.nil _ _, hb⟩
theorem BytEnd.at_ {c : Int} {w w1 : World} {v : Value} {l : List Nat} {R : Nat} (hbel : Below w.heap.size w w1) (hR : w.heap.size ≤ R) (hown : Own w1 (R + 1) v l) (x y : Value) : BytEnd (c, l) w (.returned (.agg #[.int .i64 c, v])) ((w1.setCell ⟨R, 0, none⟩ x).setCell ⟨R, 1, none⟩ y) :=
  ⟨v, rfl, row_low (ownsRow_setCell_below (ownsRow_setCell_below hown (by simp) _) (by simp) _) (by omega), (hbel.setCell (p := ⟨R, 0, none⟩) hR _).setCell (p := ⟨R, 1, none⟩) hR _⟩
theorem res_at {wr : World} {sz : Nat} {x0 x1 : Value} (h0 : wr.cell? ⟨sz, 0, none⟩ = some x0) (h1 : wr.cell? ⟨sz, 1, none⟩ = some x1) (c t : Value) :
    ((wr.setCell ⟨sz, 0, none⟩ c).setCell ⟨sz, 1, none⟩ t).cell? ⟨sz, 0, none⟩ = some c ∧ ((wr.setCell ⟨sz, 0, none⟩ c).setCell ⟨sz, 1, none⟩ t).cell? ⟨sz, 1, none⟩ = some t := by
  obtain ⟨q0, q1⟩ := res_cells h0 h1 c t
  exact ⟨by simp [go_sem, q0], q1⟩
theorem new_cell1 {W : World} {s : Nat} (h : W.heap.size = s) (v : Value) (t : TypeId) : (W.alloc (.cells #[v] t)).cell? ⟨s, 0, none⟩ = some v := by subst h; simp
theorem cellB {W : World} {o : Obj} {p : Addr} {v : Value} (h : W.cell? p = some v) : (W.alloc o).cell? p = some v := (((Below.refl _ W).alloc (Nat.le_refl _) o).cell (World.block_lt_of_cell? W _ h)).trans h
end Go.Proofs.YtooifkdbpghcfaaGreatDoor

namespace Go.Proofs.YtooifkdbpghcfaaGreatDoor
open Go.RowKit

theorem decB_len (t : List Nat) : (decB t).2.length ≤ 400 := by
  unfold decB
  split
  · simp
  · split
    · simp
    · split
      · simp
      · dsimp only; omega
theorem decQ_len (t : List Nat) : (decQ t).2.length ≤ 400 := by
  unfold decQ
  split
  · simp
  · split
    · simp
    · split
      · simp
      · dsimp only; omega
theorem byV_len {l : List Nat} {g : Int} (h : l.length ≤ 400) : (byV l g).2.length ≤ 400 := by
  unfold byV
  split
  · exact decB_len _
  · split
    · exact decQ_len _
    · exact h
end Go.Proofs.YtooifkdbpghcfaaGreatDoor

namespace Go.Proofs.YtooifkdbpghcfaaGreatDoor
open Go.RowKit

theorem csI_inC (s : ByteArray) : 0 ≤ csI s ∧ csI s ≤ 5 := by
  by_cases h0 : csN 0 = s
  · rw [csI_some (j := 0) (fun i hi => by omega) h0 (by omega)]; decide
  by_cases h1 : csN 1 = s
  · rw [csI_some (j := 1) (fun i hi => match i, hi with | 0, _ => h0) h1 (by omega)]; decide
  by_cases h2 : csN 2 = s
  · rw [csI_some (j := 2) (fun i hi => match i, hi with | 0, _ => h0 | 1, _ => h1) h2 (by omega)]; decide
  by_cases h3 : csN 3 = s
  · rw [csI_some (j := 3) (fun i hi => match i, hi with | 0, _ => h0 | 1, _ => h1 | 2, _ => h2) h3 (by omega)]; decide
  by_cases h4 : csN 4 = s
  · rw [csI_some (j := 4) (fun i hi => match i, hi with | 0, _ => h0 | 1, _ => h1 | 2, _ => h2 | 3, _ => h3) h4 (by omega)]; decide
  rw [csI_none (fun i hi => match i, hi with | 0, _ => h0 | 1, _ => h1 | 2, _ => h2 | 3, _ => h3 | 4, _ => h4)]; decide
theorem oneV_cs (x : List Nat) : 0 ≤ (oneV x).1.2.1 ∧ (oneV x).1.2.1 ≤ 5 := by
  have ht : ∀ t, 0 ≤ (tyV t).2 ∧ (tyV t).2 ≤ 5 := fun t => by
    unfold tyV
    split
    · exact ⟨by decide, by decide⟩
    · split
      · exact ⟨by decide, by decide⟩
      · split
        · unfold chN
          split
          · exact ⟨by decide, by decide⟩
          · exact csI_inC _
        · exact ⟨by decide, by decide⟩
  unfold oneV
  split
  · split
    · exact ⟨(by decide : (0 : Int) ≤ 1), (by decide : (1 : Int) ≤ 5)⟩
    · exact ht _
  · exact ⟨(by decide : (0 : Int) ≤ 0), (by decide : (0 : Int) ≤ 5)⟩
/-- The charset of each part is so. -/
def OkC (l : List PtP) : Prop := ∀ p ∈ l, 0 ≤ p.1.2.1 ∧ p.1.2.1 ≤ 5
theorem OkC.snoc {d : List Nat} {l : List PtP} {fr tt : Nat} {u nu : Int} (h : OkC l) : OkC (l ++ [ptN d fr tt u nu]) := fun p hp => by
  rcases List.mem_append.1 hp with hp | hp
  · exact h p hp
  · rw [List.mem_singleton] at hp; subst hp; exact oneV_cs _
theorem adL_C {F : Nat → Nat → Int → Int → List PtP → List PtP} {b : Nat} {here : Int} (hF : ∀ x y u nu acc, OkC acc → OkC (F x y u nu acc)) : ∀ (l : List RngP) (i : Nat) (acc : List PtP), OkC acc → OkC (adL F b here l i acc)
  | [], _, _, h => h
  | _ :: r, i, _, h => adL_C hF r (i + 1) _ (hF _ _ _ _ _ h)
theorem adV_C (d : List Nat) : ∀ (D fr tt : Nat) (u nu : Int) (acc : List PtP), OkC acc → OkC (adV d D fr tt u nu acc)
  | D, fr, tt, u, nu, acc, h => by
    by_cases h8 : acc.length = 8
    · rw [adV_full h8]; exact h
    · by_cases hm : (oneV (cutN d fr tt)).2.2 = []
      · rw [adV_leaf h8 hm]; exact h.snoc
      · cases D with
        | zero => rw [adV_zero h8]; exact h.snoc
        | succ D =>
          rw [adV_in h8 hm]
          exact adL_C (fun x y u nu acc h => adV_C d D x y u nu acc h) _ _ _ h.snoc
theorem nthP_mem {l : List PtP} {n : Nat} (h : n < l.length) : nthP l n ∈ l := by rw [nthP_get h]; exact List.getElem_mem _
end Go.Proofs.YtooifkdbpghcfaaGreatDoor
