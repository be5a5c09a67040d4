/- What kind of part a value tells, the model's and the program's: both by one plain function. -/
import Derived.Test.YtaefomiofoakhaaGreatDoorTyp2
namespace Go.Proofs.YtaefomiofoakhaaGreatDoor
open Go.RowKit

/-- The block of a result of seven cells that a function lays first, far on. -/
theorem res_block7 {w W wr : World} {c0 c1 c2 c3 c4 c5 c6 : Value} {t : TypeId} (hW : w.alloc (.cells #[c0, c1, c2, c3, c4, c5, c6] t) = W) (hb : Below (w.heap.size + 1) W wr) :
    (wr.cell? ⟨w.heap.size, 0, none⟩ = some c0 ∧ wr.cell? ⟨w.heap.size, 1, none⟩ = some c1 ∧ wr.cell? ⟨w.heap.size, 2, none⟩ = some c2 ∧ wr.cell? ⟨w.heap.size, 3, none⟩ = some c3 ∧ wr.cell? ⟨w.heap.size, 4, none⟩ = some c4 ∧ wr.cell? ⟨w.heap.size, 5, none⟩ = some c5 ∧ wr.cell? ⟨w.heap.size, 6, none⟩ = some c6) ∧ (wr.frozen? ⟨w.heap.size, 0, none⟩ = false ∧ wr.frozen? ⟨w.heap.size, 1, none⟩ = false ∧ wr.frozen? ⟨w.heap.size, 2, none⟩ = false ∧ wr.frozen? ⟨w.heap.size, 3, none⟩ = false ∧ wr.frozen? ⟨w.heap.size, 4, none⟩ = false ∧ wr.frozen? ⟨w.heap.size, 5, none⟩ = false ∧ wr.frozen? ⟨w.heap.size, 6, none⟩ = false) := by
  subst hW
  refine ⟨⟨?_, ?_, ?_, ?_, ?_, ?_, ?_⟩, ⟨?_, ?_, ?_, ?_, ?_, ?_, ?_⟩⟩
  · rw [hb.cell (p := ⟨w.heap.size, 0, none⟩) (by simp)]; simp
  · rw [hb.cell (p := ⟨w.heap.size, 1, none⟩) (by simp)]; simp
  · rw [hb.cell (p := ⟨w.heap.size, 2, none⟩) (by simp)]; simp
  · rw [hb.cell (p := ⟨w.heap.size, 3, none⟩) (by simp)]; simp
  · rw [hb.cell (p := ⟨w.heap.size, 4, none⟩) (by simp)]; simp
  · rw [hb.cell (p := ⟨w.heap.size, 5, none⟩) (by simp)]; simp
  · rw [hb.cell (p := ⟨w.heap.size, 6, none⟩) (by simp)]; simp
  · rw [hb.frozen (p := ⟨w.heap.size, 0, none⟩) (by simp)]; simp
  · rw [hb.frozen (p := ⟨w.heap.size, 1, none⟩) (by simp)]; simp
  · rw [hb.frozen (p := ⟨w.heap.size, 2, none⟩) (by simp)]; simp
  · rw [hb.frozen (p := ⟨w.heap.size, 3, none⟩) (by simp)]; simp
  · rw [hb.frozen (p := ⟨w.heap.size, 4, none⟩) (by simp)]; simp
  · rw [hb.frozen (p := ⟨w.heap.size, 5, none⟩) (by simp)]; simp
  · rw [hb.frozen (p := ⟨w.heap.size, 6, none⟩) (by simp)]; simp
theorem res_cells7 {wr : World} {sz : Nat} {x0 x1 x2 x3 x4 x5 x6 : Value} (h : wr.cell? ⟨sz, 0, none⟩ = some x0 ∧ wr.cell? ⟨sz, 1, none⟩ = some x1 ∧ wr.cell? ⟨sz, 2, none⟩ = some x2 ∧ wr.cell? ⟨sz, 3, none⟩ = some x3 ∧ wr.cell? ⟨sz, 4, none⟩ = some x4 ∧ wr.cell? ⟨sz, 5, none⟩ = some x5 ∧ wr.cell? ⟨sz, 6, none⟩ = some x6) (y0 y1 y2 y3 y4 y5 y6 : Value) :
    (wr.setCell ⟨sz, 0, none⟩ y0).cell? ⟨sz, 0, none⟩ = some y0 ∧
    ((wr.setCell ⟨sz, 0, none⟩ y0).setCell ⟨sz, 1, none⟩ y1).cell? ⟨sz, 1, none⟩ = some y1 ∧
    (((wr.setCell ⟨sz, 0, none⟩ y0).setCell ⟨sz, 1, none⟩ y1).setCell ⟨sz, 2, none⟩ y2).cell? ⟨sz, 2, none⟩ = some y2 ∧
    ((((wr.setCell ⟨sz, 0, none⟩ y0).setCell ⟨sz, 1, none⟩ y1).setCell ⟨sz, 2, none⟩ y2).setCell ⟨sz, 3, none⟩ y3).cell? ⟨sz, 3, none⟩ = some y3 ∧
    (((((wr.setCell ⟨sz, 0, none⟩ y0).setCell ⟨sz, 1, none⟩ y1).setCell ⟨sz, 2, none⟩ y2).setCell ⟨sz, 3, none⟩ y3).setCell ⟨sz, 4, none⟩ y4).cell? ⟨sz, 4, none⟩ = some y4 ∧
    ((((((wr.setCell ⟨sz, 0, none⟩ y0).setCell ⟨sz, 1, none⟩ y1).setCell ⟨sz, 2, none⟩ y2).setCell ⟨sz, 3, none⟩ y3).setCell ⟨sz, 4, none⟩ y4).setCell ⟨sz, 5, none⟩ y5).cell? ⟨sz, 5, none⟩ = some y5 ∧
    (((((((wr.setCell ⟨sz, 0, none⟩ y0).setCell ⟨sz, 1, none⟩ y1).setCell ⟨sz, 2, none⟩ y2).setCell ⟨sz, 3, none⟩ y3).setCell ⟨sz, 4, none⟩ y4).setCell ⟨sz, 5, none⟩ y5).setCell ⟨sz, 6, none⟩ y6).cell? ⟨sz, 6, none⟩ = some y6 := by
  obtain ⟨h0, h1, h2, h3, h4, h5, h6⟩ := h
  have g1 : (wr.setCell ⟨sz, 0, none⟩ y0).cell? ⟨sz, 1, none⟩ = some x1 := by simp [go_sem, h1]
  have g2 : ((wr.setCell ⟨sz, 0, none⟩ y0).setCell ⟨sz, 1, none⟩ y1).cell? ⟨sz, 2, none⟩ = some x2 := by simp [go_sem, h2]
  have g3 : (((wr.setCell ⟨sz, 0, none⟩ y0).setCell ⟨sz, 1, none⟩ y1).setCell ⟨sz, 2, none⟩ y2).cell? ⟨sz, 3, none⟩ = some x3 := by simp [go_sem, h3]
  have g4 : ((((wr.setCell ⟨sz, 0, none⟩ y0).setCell ⟨sz, 1, none⟩ y1).setCell ⟨sz, 2, none⟩ y2).setCell ⟨sz, 3, none⟩ y3).cell? ⟨sz, 4, none⟩ = some x4 := by simp [go_sem, h4]
  have g5 : (((((wr.setCell ⟨sz, 0, none⟩ y0).setCell ⟨sz, 1, none⟩ y1).setCell ⟨sz, 2, none⟩ y2).setCell ⟨sz, 3, none⟩ y3).setCell ⟨sz, 4, none⟩ y4).cell? ⟨sz, 5, none⟩ = some x5 := by simp [go_sem, h5]
  have g6 : ((((((wr.setCell ⟨sz, 0, none⟩ y0).setCell ⟨sz, 1, none⟩ y1).setCell ⟨sz, 2, none⟩ y2).setCell ⟨sz, 3, none⟩ y3).setCell ⟨sz, 4, none⟩ y4).setCell ⟨sz, 5, none⟩ y5).cell? ⟨sz, 6, none⟩ = some x6 := by simp [go_sem, h6]
  exact ⟨World.cell?_setCell_same _ _ _ h0, World.cell?_setCell_same _ _ _ g1, World.cell?_setCell_same _ _ _ g2, World.cell?_setCell_same _ _ _ g3, World.cell?_setCell_same _ _ _ g4, World.cell?_setCell_same _ _ _ g5, World.cell?_setCell_same _ _ _ g6⟩
theorem below_sets7 {w w1 : World} (hb : Below w.heap.size w w1) (y0 y1 y2 y3 y4 y5 y6 : Value) : Below w.heap.size w (((((((w1.setCell ⟨w.heap.size, 0, none⟩ y0).setCell ⟨w.heap.size, 1, none⟩ y1).setCell ⟨w.heap.size, 2, none⟩ y2).setCell ⟨w.heap.size, 3, none⟩ y3).setCell ⟨w.heap.size, 4, none⟩ y4).setCell ⟨w.heap.size, 5, none⟩ y5).setCell ⟨w.heap.size, 6, none⟩ y6) := by
  exact (((((((hb.setCell (by simp) _).setCell (by simp) _).setCell (by simp) _).setCell (by simp) _).setCell (by simp) _).setCell (by simp) _).setCell (by simp) _)
theorem nmN_ok {p : List Nat} : ∀ {l : List (List Nat)} {x : List Nat}, PcOk l → nmN p l = some x → IsB x ∧ x.length ≤ 1048576
  | [], x, _, h => by cases h
  | t :: l, x, hok, h => by
    unfold nmN at h
    split at h
    · cases h
      obtain ⟨h1, h2⟩ := hok t (by simp)
      exact ⟨isB_drop h1 _, by rw [List.length_drop]; omega⟩
    · exact nmN_ok (fun q hq => hok q (by simp [hq])) h
/-- A part that is told of a value alone. -/
def ptV (r : Int × Int) : Value := .agg #[.int .i64 r.1, .int .i64 r.2, .int .i64 0, .int .i64 0, .int .i64 0, .int .i64 0, .int .i64 0]
set_option maxHeartbeats 3200000 in
set_option maxRecDepth 100000 in
theorem l5Type_any (t : List Nat) (n : Nat) (w : World) (hl : t.length = n) (hB : IsB t) (hn : n ≤ 1048576) : Calls Tryz.prog 25 #[.string (str t)] w fun e w' => e = .returned (ptV (tyV t)) ∧ Below w.heap.size w w' := by
  have hb0 : Below w.heap.size w (w.alloc (.cells #[.int .i64 0, .int .i64 0, .int .i64 0, .int .i64 0, .int .i64 0, .int .i64 0, .int .i64 0] 30)) := (Below.refl _ _).alloc (Nat.le_refl _) _
  have hsW : (w.alloc (.cells #[.int .i64 0, .int .i64 0, .int .i64 0, .int .i64 0, .int .i64 0, .int .i64 0, .int .i64 0] 30)).heap.size = w.heap.size + 1 := by simp
  have HP := l5Pieces_any t n (w.alloc (.cells #[.int .i64 0, .int .i64 0, .int .i64 0, .int .i64 0, .int .i64 0, .int .i64 0, .int .i64 0] 30)) hl hB hn
  have hpl := pcs_len t
  have hpi := pcs_in hB
  rw [hl] at hpl hpi
  have HN : Hid (pcs t = [] → tyV t = (3, 0)) := tyV_nil
  have HM2 : Hid (∀ p l, pcs t = p :: l → bgN p wMulti = true → tyV t = (2, 0)) := fun p l h h1 => tyV_multi h h1
  have HT2 : Hid (∀ p l, pcs t = p :: l → bgN p wMulti = false → bgN p wText = true → tyV t = (1, chN l)) := fun p l h h1 h2 => tyV_text h h1 h2
  have HE2 : Hid (∀ p l, pcs t = p :: l → bgN p wMulti = false → bgN p wText = false → tyV t = (3, 0)) := fun p l h h1 h2 => tyV_else h h1 h2
  have HOK : Hid (PcOk (pcs t)) := fun p hp => ⟨(hpi p hp).1, by have := (hpi p hp).2; omega⟩
  generalize tyV t = r at *
  generalize pcs t = ps at *
  clear hpi hB hl
  go_enter Tryz.func25, Tryz.ntmps25
  go_wp2_with fail
  refine HP.mono ?_
  rintro e w1 ⟨v, rfl, hown, hb1⟩
  obtain ⟨a, cap, rfl, hcap, -⟩ := hown.form
  have hrd := hown.rd.2
  have hbl : Below (w.heap.size + 1) (w.alloc (.cells #[.int .i64 0, .int .i64 0, .int .i64 0, .int .i64 0, .int .i64 0, .int .i64 0, .int .i64 0] 30)) w1 := hb1.mono (by simp)
  clear HP hb1 hown
  generalize hW : w.alloc (.cells #[.int .i64 0, .int .i64 0, .int .i64 0, .int .i64 0, .int .i64 0, .int .i64 0, .int .i64 0] 30) = W at *
  have hbw := hb0.trans (hbl.mono (by omega))
  obtain ⟨⟨hc0, hc1, hc2, hc3, hc4, hc5, hc6⟩, ⟨hf0, hf1, hf2, hf3, hf4, hf5, hf6⟩⟩ := res_block7 hW hbl
  cases ps with
  | nil =>
    have HM : Hid (_) := HN.out rfl
    clear HN HM2 HT2 HE2 HOK hrd
    obtain ⟨hk0, hk1, hk2, hk3, hk4, hk5, hk6⟩ := res_cells7 ⟨hc0, hc1, hc2, hc3, hc4, hc5, hc6⟩ (.int .i64 3) (.int .i64 0) (.int .i64 0) (.int .i64 0) (.int .i64 0) (.int .i64 0) (.int .i64 0)
    go_wp2
    refine bodyPost_ret (v := .agg #[.int .i64 3, .int .i64 0, .int .i64 0, .int .i64 0, .int .i64 0, .int .i64 0, .int .i64 0]) (by simp [results, Tryz.results25, go_sem, hk0, hk1, hk2, hk3, hk4, hk5, hk6]) rfl ?_
    exact ⟨by rw [HM.out]; rfl, below_sets7 hbw _ _ _ _ _ _ _⟩
  | cons p l =>
    obtain ⟨b, off, rfl, hblt, hcell⟩ := hrd.at_ (by simp)
    have hcp : w1.cell? ⟨b, off, none⟩ = some (.string (str p)) := hcell 0 (by simp)
    have hp1 := HOK.out p (by simp)
    have hne : ((((p :: l).length : Nat) : Int) == 0) = false := by simp only [List.length_cons, beq_eq_false_iff_ne, ne_eq]; omega
    have hlt0 : (0 : Int) < (((p :: l).length : Nat) : Int) := by simp only [List.length_cons]; omega
    have HMul : Hid (∀ w, Calls Tryz.prog 41 #[.string (str p), .string ⟨#[109, 117, 108, 116, 105, 112, 97, 114, 116, 47]⟩] w fun e w' => e = .returned (.bool (bgN p wMulti)) ∧ Below w.heap.size w w') := fun w => l5Begins_any p wMulti w hp1.1 (by unfold wMulti IsB; decide) hp1.2 (by decide)
    have HTx : Hid (∀ w, Calls Tryz.prog 41 #[.string (str p), .string ⟨#[116, 101, 120, 116, 47]⟩] w fun e w' => e = .returned (.bool (bgN p wText)) ∧ Below w.heap.size w w') := fun w => l5Begins_any p wText w hp1.1 (by unfold wText IsB; decide) hp1.2 (by decide)
    have HNm : Hid (∀ w, RdS w (some ⟨b, off, none⟩) (p :: l) → Calls Tryz.prog 42 #[.slice (some ⟨b, off, none⟩) (l.length + 1) cap, .string ⟨#[99, 104, 97, 114, 115, 101, 116, 61]⟩] w fun e w' => e = .returned (nmP (nmN wChar l)) ∧ Below w.heap.size w w') := fun w hr => l5Named_any _ (l.length + 1) cap (p :: l) wChar w rfl (by simp) hr (by have h := hpl; rw [List.length_cons] at h; omega) HOK.out (by unfold wChar IsB; decide) (by decide)
    have HC1 : Hid (nmN wChar l = none → chN l = 1) := chN_none
    have HC2 : Hid (∀ x, nmN wChar l = some x → chN l = csNm x ∧ IsB x ∧ x.length ≤ 1048576) := fun x h => ⟨chN_some h, nmN_ok (fun q hq => HOK.out q (by simp [hq])) h⟩
    have HM2' : Hid (_) := HM2.out p l rfl
    have HT2' : Hid (_) := HT2.out p l rfl
    have HE2' : Hid (_) := HE2.out p l rfl
    clear HN HM2 HT2 HE2 HOK hcell
    generalize bgN p wMulti = qm at *
    generalize bgN p wText = qt at *
    generalize nmN wChar l = o at *
    generalize chN l = ch at *
    go_wp2_with fail
    refine (HMul.out _).mono ?_
    rintro e w2 ⟨rfl, hb2⟩
    have hrd2 := hrd.below hb2
    have hcp2 : w2.cell? ⟨b, off, none⟩ = some (.string (str p)) := (hb2.cell (p := ⟨b, off, none⟩) hblt).trans hcp
    have hz2 := hbl.size
    rw [hsW] at hz2
    have hbl2 := hbl.trans (hb2.mono hz2)
    have hbw2 := hb0.trans (hbl2.mono (by omega))
    obtain ⟨⟨hc0', hc1', hc2', hc3', hc4', hc5', hc6'⟩, ⟨hf0', hf1', hf2', hf3', hf4', hf5', hf6'⟩⟩ := res_block7 hW hbl2
    have hbz2 := hb2.size
    clear hc0 hc1 hc2 hc3 hc4 hc5 hc6 hf0 hf1 hf2 hf3 hf4 hf5 hf6 hbw hcp hrd HMul hb2
    cases qm with
    | true =>
      have HM : Hid (_) := HM2'.out rfl
      clear HM2' HT2' HE2' HTx HNm HC1 HC2
      obtain ⟨hk0, hk1, hk2, hk3, hk4, hk5, hk6⟩ := res_cells7 ⟨hc0', hc1', hc2', hc3', hc4', hc5', hc6'⟩ (.int .i64 2) (.int .i64 0) (.int .i64 0) (.int .i64 0) (.int .i64 0) (.int .i64 0) (.int .i64 0)
      go_wp2
      refine bodyPost_ret (v := .agg #[.int .i64 2, .int .i64 0, .int .i64 0, .int .i64 0, .int .i64 0, .int .i64 0, .int .i64 0]) (by simp [results, Tryz.results25, go_sem, hk0, hk1, hk2, hk3, hk4, hk5, hk6]) rfl ?_
      exact ⟨by rw [HM.out]; rfl, below_sets7 hbw2 _ _ _ _ _ _ _⟩
    | false =>
      go_wp2_with fail
      refine (HTx.out _).mono ?_
      rintro e w3 ⟨rfl, hb3⟩
      have hrd3 := hrd2.below hb3
      have hz3 := hbl2.size
      rw [hsW] at hz3
      have hbl3 := hbl2.trans (hb3.mono hz3)
      have hbw3 := hb0.trans (hbl3.mono (by omega))
      obtain ⟨⟨hc0, hc1, hc2, hc3, hc4, hc5, hc6⟩, ⟨hf0, hf1, hf2, hf3, hf4, hf5, hf6⟩⟩ := res_block7 hW hbl3
      clear hc0' hc1' hc2' hc3' hc4' hc5' hc6' hf0' hf1' hf2' hf3' hf4' hf5' hf6' hbw2 hcp2 hrd2 HTx hb3
      cases qt with
      | false =>
        have HM : Hid (_) := HE2'.out (by first | rfl | trivial) rfl
        clear HM2' HT2' HE2' HNm HC1 HC2
        obtain ⟨hk0, hk1, hk2, hk3, hk4, hk5, hk6⟩ := res_cells7 ⟨hc0, hc1, hc2, hc3, hc4, hc5, hc6⟩ (.int .i64 3) (.int .i64 0) (.int .i64 0) (.int .i64 0) (.int .i64 0) (.int .i64 0) (.int .i64 0)
        go_wp2
        refine bodyPost_ret (v := .agg #[.int .i64 3, .int .i64 0, .int .i64 0, .int .i64 0, .int .i64 0, .int .i64 0, .int .i64 0]) (by simp [results, Tryz.results25, go_sem, hk0, hk1, hk2, hk3, hk4, hk5, hk6]) rfl ?_
        exact ⟨by rw [HM.out]; rfl, below_sets7 hbw3 _ _ _ _ _ _ _⟩
      | true =>
        have HM : Hid (_) := HT2'.out (by first | rfl | trivial) rfl
        clear HM2' HT2' HE2'
        have hbA : Below w3.heap.size w3 (w3.alloc (.cells #[.int .i64 1, .int .i64 1, .int .i64 0, .int .i64 0, .int .i64 0, .int .i64 0, .int .i64 0] 30)) := (Below.refl _ _).alloc (Nat.le_refl _) _
        have hsA : (w3.alloc (.cells #[.int .i64 1, .int .i64 1, .int .i64 0, .int .i64 0, .int .i64 0, .int .i64 0, .int .i64 0] 30)).heap.size = w3.heap.size + 1 := by simp
        have hrdA := hrd3.below hbA
        have hz4 := hbl3.size
        rw [hsW] at hz4
        clear hc0 hc1 hc2 hc3 hc4 hc5 hc6 hf0 hf1 hf2 hf3 hf4 hf5 hf6
        go_wp2_with fail
        refine (HNm.out _ hrdA).mono ?_
        rintro e w4 ⟨rfl, hb4⟩
        generalize hWA : w3.alloc (.cells #[.int .i64 1, .int .i64 1, .int .i64 0, .int .i64 0, .int .i64 0, .int .i64 0, .int .i64 0] 30) = WA at *
        clear HNm hrdA hrd3
        have hsz4 := hb4.size
        cases o with
        | none =>
          obtain rfl := HC1.out rfl
          have hblA : Below (w3.heap.size + 1) WA w4 := hb4.mono (by omega)
          obtain ⟨⟨d0, d1, d2, d3, d4, d5, d6⟩, ⟨g0, g1, g2, g3, g4, g5, g6⟩⟩ := res_block7 hWA hblA
          have hbl4 := (hbl3.trans (hbA.mono hz4)).trans (hb4.mono (by omega))
          have hbw4 := hb0.trans (hbl4.mono (by omega))
          obtain ⟨⟨hc0, hc1, hc2, hc3, hc4, hc5, hc6⟩, ⟨hf0, hf1, hf2, hf3, hf4, hf5, hf6⟩⟩ := res_block7 hW hbl4
          have hlt4 : w3.heap.size < w4.heap.size := by omega
          clear HC1 HC2 hb4 hbl4 hblA hbA hbw3
          simp only [nmP]
          obtain ⟨hk0, hk1, hk2, hk3, hk4, hk5, hk6⟩ := res_cells7 ⟨hc0, hc1, hc2, hc3, hc4, hc5, hc6⟩ (.int .i64 1) (.int .i64 1) (.int .i64 0) (.int .i64 0) (.int .i64 0) (.int .i64 0) (.int .i64 0)
          go_wp2
          refine bodyPost_ret (v := .agg #[.int .i64 1, .int .i64 1, .int .i64 0, .int .i64 0, .int .i64 0, .int .i64 0, .int .i64 0]) (by simp [results, Tryz.results25, go_sem, hk0, hk1, hk2, hk3, hk4, hk5, hk6]) rfl ?_
          exact ⟨by rw [HM.out]; rfl, below_sets7 hbw4 _ _ _ _ _ _ _⟩
        | some x =>
          obtain ⟨hch, hBx, hxl⟩ := HC2.out x rfl
          subst hch
          have HO : Hid (∀ w, Calls Tryz.prog 43 #[.string (str x)] w fun e w' => e = .returned (.int .i64 (csNm x)) ∧ Below w.heap.size w w') := fun w => l2Of_any x _ w rfl hBx hxl
          generalize csNm x = ch at *
          simp only [nmP]
          go_wp2_with fail
          refine (HO.out _).mono ?_
          rintro e w5 ⟨rfl, hb5⟩
          have hb45 := hb4.trans (hb5.mono hsz4)
          have hblA : Below (w3.heap.size + 1) WA w5 := hb45.mono (by omega)
          obtain ⟨⟨d0, d1, d2, d3, d4, d5, d6⟩, ⟨g0, g1, g2, g3, g4, g5, g6⟩⟩ := res_block7 hWA hblA
          have hbl5 := (hbl3.trans (hbA.mono hz4)).trans (hb45.mono (by omega))
          have hbw5 := hb0.trans (hbl5.mono (by omega))
          obtain ⟨⟨hc0, hc1, hc2, hc3, hc4, hc5, hc6⟩, ⟨hf0, hf1, hf2, hf3, hf4, hf5, hf6⟩⟩ := res_block7 hW hbl5
          have hlt5 : w3.heap.size < w5.heap.size := by have := hb45.size; omega
          have hne : w3.heap.size ≠ w.heap.size := by omega
          have e1 : (w5.setCell ⟨w3.heap.size, 1, none⟩ (.int .i64 ch)).cell? ⟨w3.heap.size, 1, none⟩ = some (.int .i64 ch) := World.cell?_setCell_same _ _ _ d1
          have hbw6 := hbw5.setCell (p := ⟨w3.heap.size, 1, none⟩) (by show w.heap.size ≤ w3.heap.size; omega) (.int .i64 ch)
          have hbl6 := hbl5.setCell (p := ⟨w3.heap.size, 1, none⟩) (by show w.heap.size + 1 ≤ w3.heap.size; omega) (.int .i64 ch)
          obtain ⟨⟨k0, k1, k2, k3, k4, k5, k6⟩, ⟨m0, m1, m2, m3, m4, m5, m6⟩⟩ := res_block7 hW hbl6
          clear HC1 HC2 hb4 hbl5 hblA hbA hbw3 hb5 hb45 HO hbw5 hbl6 hc0 hc1 hc2 hc3 hc4 hc5 hc6
          obtain ⟨hk0, hk1, hk2, hk3, hk4, hk5, hk6⟩ := res_cells7 ⟨k0, k1, k2, k3, k4, k5, k6⟩ (.int .i64 1) (.int .i64 ch) (.int .i64 0) (.int .i64 0) (.int .i64 0) (.int .i64 0) (.int .i64 0)
          go_wp2
          refine bodyPost_ret (v := .agg #[.int .i64 1, .int .i64 ch, .int .i64 0, .int .i64 0, .int .i64 0, .int .i64 0, .int .i64 0]) (by simp [results, Tryz.results25, go_sem, hk0, hk1, hk2, hk3, hk4, hk5, hk6]) rfl ?_
          exact ⟨by rw [HM.out]; rfl, below_sets7 hbw6 _ _ _ _ _ _ _⟩
end Go.Proofs.YtaefomiofoakhaaGreatDoor
