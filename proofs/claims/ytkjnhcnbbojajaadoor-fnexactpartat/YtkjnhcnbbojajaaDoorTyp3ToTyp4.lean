/- What kind of part a value tells, the model's and the program's: both by one plain function · The pieces of a value, the program's; what stands behind a name. -/
import Derived.Test.YtkjnhcnbbojajaaDoorTyp1ToTyp2
import Derived.Test.YtkjnhcnbbojajaaDoorFdoToFar
import Derived.Test.YtkjnhcnbbojajaaDoorShf
import Derived.Shelf.Strings.SlTrimAscii
namespace Go.Proofs.YtkjnhcnbbojajaaDoor
open Go.RowKit

/-- The block of a result of seven cells that a function lays first, far on. -/
theorem res_block7 {w W wr : World} {c0 c1 c2 c3 c4 c5 c6 : Value} {t : TypeId} (hW : w.alloc (.cells #[c0, c1, c2, c3, c4, c5, c6] t) = W) (hb : Below (w.heap.size + 1) W wr) :
    (wr.cell? ⟨w.heap.size, 0, none⟩ = some c0 ∧ wr.cell? ⟨w.heap.size, 1, none⟩ = some c1 ∧ wr.cell? ⟨w.heap.size, 2, none⟩ = some c2 ∧ wr.cell? ⟨w.heap.size, 3, none⟩ = some c3 ∧ wr.cell? ⟨w.heap.size, 4, none⟩ = some c4 ∧ wr.cell? ⟨w.heap.size, 5, none⟩ = some c5 ∧ wr.cell? ⟨w.heap.size, 6, none⟩ = some c6) ∧ (wr.frozen? ⟨w.heap.size, 0, none⟩ = false ∧ wr.frozen? ⟨w.heap.size, 1, none⟩ = false ∧ wr.frozen? ⟨w.heap.size, 2, none⟩ = false ∧ wr.frozen? ⟨w.heap.size, 3, none⟩ = false ∧ wr.frozen? ⟨w.heap.size, 4, none⟩ = false ∧ wr.frozen? ⟨w.heap.size, 5, none⟩ = false ∧ wr.frozen? ⟨w.heap.size, 6, none⟩ = false) := by
  subst hW
  refine ⟨⟨?_, ?_, ?_, ?_, ?_, ?_, ?_⟩, ⟨?_, ?_, ?_, ?_, ?_, ?_, ?_⟩⟩
  · rw [hb.cell (p := ⟨w.heap.size, 0, none⟩) (by simp)]; simp
  · rw [hb.cell (p := ⟨w.heap.size, 1, none⟩) (by simp)]; simp
  · rw [hb.cell (p := ⟨w.heap.size, 2, none⟩) (by simp)]; simp
  · rw [hb.cell (p := ⟨w.heap.size, 3, none⟩) (by simp)]; simp
  · rw [hb.cell (p := ⟨w.heap.size, 4, none⟩) (by simp)]; simp
  · rw [hb.cell (p := ⟨w.heap.size, 5, none⟩) (by simp)]; simp
  · rw [hb.cell (p := ⟨w.heap.size, 6, none⟩) (by simp)]; simp
  · rw [hb.frozen (p := ⟨w.heap.size, 0, none⟩) (by simp)]; simp
  · rw [hb.frozen (p := ⟨w.heap.size, 1, none⟩) (by simp)]; simp
  · rw [hb.frozen (p := ⟨w.heap.size, 2, none⟩) (by simp)]; simp
  · rw [hb.frozen (p := ⟨w.heap.size, 3, none⟩) (by simp)]; simp
  · rw [hb.frozen (p := ⟨w.heap.size, 4, none⟩) (by simp)]; simp
  · rw [hb.frozen (p := ⟨w.heap.size, 5, none⟩) (by simp)]; simp
  · rw [hb.frozen (p := ⟨w.heap.size, 6, none⟩) (by simp)]; simp
theorem res_cells7 {wr : World} {sz : Nat} {x0 x1 x2 x3 x4 x5 x6 : Value} (h : wr.cell? ⟨sz, 0, none⟩ = some x0 ∧ wr.cell? ⟨sz, 1, none⟩ = some x1 ∧ wr.cell? ⟨sz, 2, none⟩ = some x2 ∧ wr.cell? ⟨sz, 3, none⟩ = some x3 ∧ wr.cell? ⟨sz, 4, none⟩ = some x4 ∧ wr.cell? ⟨sz, 5, none⟩ = some x5 ∧ wr.cell? ⟨sz, 6, none⟩ = some x6) (y0 y1 y2 y3 y4 y5 y6 : Value) :
    (wr.setCell ⟨sz, 0, none⟩ y0).cell? ⟨sz, 0, none⟩ = some y0 ∧
    ((wr.setCell ⟨sz, 0, none⟩ y0).setCell ⟨sz, 1, none⟩ y1).cell? ⟨sz, 1, none⟩ = some y1 ∧
    (((wr.setCell ⟨sz, 0, none⟩ y0).setCell ⟨sz, 1, none⟩ y1).setCell ⟨sz, 2, none⟩ y2).cell? ⟨sz, 2, none⟩ = some y2 ∧
    ((((wr.setCell ⟨sz, 0, none⟩ y0).setCell ⟨sz, 1, none⟩ y1).setCell ⟨sz, 2, none⟩ y2).setCell ⟨sz, 3, none⟩ y3).cell? ⟨sz, 3, none⟩ = some y3 ∧
    (((((wr.setCell ⟨sz, 0, none⟩ y0).setCell ⟨sz, 1, none⟩ y1).setCell ⟨sz, 2, none⟩ y2).setCell ⟨sz, 3, none⟩ y3).setCell ⟨sz, 4, none⟩ y4).cell? ⟨sz, 4, none⟩ = some y4 ∧
    ((((((wr.setCell ⟨sz, 0, none⟩ y0).setCell ⟨sz, 1, none⟩ y1).setCell ⟨sz, 2, none⟩ y2).setCell ⟨sz, 3, none⟩ y3).setCell ⟨sz, 4, none⟩ y4).setCell ⟨sz, 5, none⟩ y5).cell? ⟨sz, 5, none⟩ = some y5 ∧
    (((((((wr.setCell ⟨sz, 0, none⟩ y0).setCell ⟨sz, 1, none⟩ y1).setCell ⟨sz, 2, none⟩ y2).setCell ⟨sz, 3, none⟩ y3).setCell ⟨sz, 4, none⟩ y4).setCell ⟨sz, 5, none⟩ y5).setCell ⟨sz, 6, none⟩ y6).cell? ⟨sz, 6, none⟩ = some y6 := by
  obtain ⟨h0, h1, h2, h3, h4, h5, h6⟩ := h
  have g1 : (wr.setCell ⟨sz, 0, none⟩ y0).cell? ⟨sz, 1, none⟩ = some x1 := by simp [go_sem, h1]
  have g2 : ((wr.setCell ⟨sz, 0, none⟩ y0).setCell ⟨sz, 1, none⟩ y1).cell? ⟨sz, 2, none⟩ = some x2 := by simp [go_sem, h2]
  have g3 : (((wr.setCell ⟨sz, 0, none⟩ y0).setCell ⟨sz, 1, none⟩ y1).setCell ⟨sz, 2, none⟩ y2).cell? ⟨sz, 3, none⟩ = some x3 := by simp [go_sem, h3]
  have g4 : ((((wr.setCell ⟨sz, 0, none⟩ y0).setCell ⟨sz, 1, none⟩ y1).setCell ⟨sz, 2, none⟩ y2).setCell ⟨sz, 3, none⟩ y3).cell? ⟨sz, 4, none⟩ = some x4 := by simp [go_sem, h4]
  have g5 : (((((wr.setCell ⟨sz, 0, none⟩ y0).setCell ⟨sz, 1, none⟩ y1).setCell ⟨sz, 2, none⟩ y2).setCell ⟨sz, 3, none⟩ y3).setCell ⟨sz, 4, none⟩ y4).cell? ⟨sz, 5, none⟩ = some x5 := by simp [go_sem, h5]
  have g6 : ((((((wr.setCell ⟨sz, 0, none⟩ y0).setCell ⟨sz, 1, none⟩ y1).setCell ⟨sz, 2, none⟩ y2).setCell ⟨sz, 3, none⟩ y3).setCell ⟨sz, 4, none⟩ y4).setCell ⟨sz, 5, none⟩ y5).cell? ⟨sz, 6, none⟩ = some x6 := by simp [go_sem, h6]
  exact ⟨World.cell?_setCell_same _ _ _ h0, World.cell?_setCell_same _ _ _ g1, World.cell?_setCell_same _ _ _ g2, World.cell?_setCell_same _ _ _ g3, World.cell?_setCell_same _ _ _ g4, World.cell?_setCell_same _ _ _ g5, World.cell?_setCell_same _ _ _ g6⟩
theorem below_sets7 {w w1 : World} (hb : Below w.heap.size w w1) (y0 y1 y2 y3 y4 y5 y6 : Value) : Below w.heap.size w (((((((w1.setCell ⟨w.heap.size, 0, none⟩ y0).setCell ⟨w.heap.size, 1, none⟩ y1).setCell ⟨w.heap.size, 2, none⟩ y2).setCell ⟨w.heap.size, 3, none⟩ y3).setCell ⟨w.heap.size, 4, none⟩ y4).setCell ⟨w.heap.size, 5, none⟩ y5).setCell ⟨w.heap.size, 6, none⟩ y6) := by
  exact (((((((hb.setCell (by simp) _).setCell (by simp) _).setCell (by simp) _).setCell (by simp) _).setCell (by simp) _).setCell (by simp) _).setCell (by simp) _)
theorem nmN_ok {p : List Nat} : ∀ {l : List (List Nat)} {x : List Nat}, PcOk l → nmN p l = some x → IsB x ∧ x.length ≤ 1048576
  | [], x, _, h => by cases h
  | t :: l, x, hok, h => by
    unfold nmN at h
    split at h
    · cases h
      obtain ⟨h1, h2⟩ := hok t (by simp)
      exact ⟨isB_drop h1 _, by rw [List.length_drop]; omega⟩
    · exact nmN_ok (fun q hq => hok q (by simp [hq])) h
/-- A part that is told of a value alone. -/
def ptV (r : Int × Int) : Value := .agg #[.int .i64 r.1, .int .i64 r.2, .int .i64 0, .int .i64 0, .int .i64 0, .int .i64 0, .int .i64 0]
theorem csI_wf (s : ByteArray) : 0 ≤ csI s ∧ csI s ≤ 5 := by
  unfold csI
  cases h : findN csN s 5 with
  | none => exact ⟨by decide, by decide⟩
  | some j =>
    have hj : j < 5 := by
      have key : ∀ n, findN csN s n = some j → j < n := by
        intro n
        induction n with
        | zero => intro h; cases h
        | succ n ih =>
          intro h
          unfold findN at h
          split at h
          · rename_i k e; cases h; have := ih e; omega
          · split at h
            · cases h; omega
            · cases h
      exact key 5 h
    simp only [ofN]
    omega

set_option maxHeartbeats 3200000 in
set_option maxRecDepth 100000 in
theorem l5Type_any (t : List Nat) (n : Nat) (w : World) (hl : t.length = n) (hB : IsB t) (hn : n ≤ 1048576) : Calls Tryd.prog 86 #[.string (str t)] w fun e w' => e = .returned (ptV (tyV t)) ∧ Below w.heap.size w w' := by
  have hb0 : Below w.heap.size w (w.alloc (.cells #[.int .i64 0, .int .i64 0, .int .i64 0, .int .i64 0, .int .i64 0, .int .i64 0, .int .i64 0] 35)) := (Below.refl _ _).alloc (Nat.le_refl _) _
  have hsW : (w.alloc (.cells #[.int .i64 0, .int .i64 0, .int .i64 0, .int .i64 0, .int .i64 0, .int .i64 0, .int .i64 0] 35)).heap.size = w.heap.size + 1 := by simp
  have HP := l5Pieces_any t n (w.alloc (.cells #[.int .i64 0, .int .i64 0, .int .i64 0, .int .i64 0, .int .i64 0, .int .i64 0, .int .i64 0] 35)) hl hB hn
  have hpl := pcs_len t
  have hpi := pcs_in hB
  rw [hl] at hpl hpi
  have HN : Hid (pcs t = [] → tyV t = (3, 0)) := tyV_nil
  have HM2 : Hid (∀ p l, pcs t = p :: l → bgN p wMulti = true → tyV t = (2, 0)) := fun p l h h1 => tyV_multi h h1
  have HT2 : Hid (∀ p l, pcs t = p :: l → bgN p wMulti = false → bgN p wText = true → tyV t = (1, chN l)) := fun p l h h1 h2 => tyV_text h h1 h2
  have HE2 : Hid (∀ p l, pcs t = p :: l → bgN p wMulti = false → bgN p wText = false → tyV t = (3, 0)) := fun p l h h1 h2 => tyV_else h h1 h2
  have HOK : Hid (PcOk (pcs t)) := fun p hp => ⟨(hpi p hp).1, by have := (hpi p hp).2; omega⟩
  generalize tyV t = r at *
  generalize pcs t = ps at *
  clear hpi hB hl
  go_enter Tryd.func86, Tryd.ntmps86
  go_wp2_with fail
  refine HP.mono ?_
  rintro e w1 ⟨v, rfl, hown, hb1⟩
  obtain ⟨a, cap, rfl, hcap, -⟩ := hown.form
  have hrd := hown.rd.2
  have hbl : Below (w.heap.size + 1) (w.alloc (.cells #[.int .i64 0, .int .i64 0, .int .i64 0, .int .i64 0, .int .i64 0, .int .i64 0, .int .i64 0] 35)) w1 := hb1.mono (by simp)
  clear HP hb1 hown
  generalize hW : w.alloc (.cells #[.int .i64 0, .int .i64 0, .int .i64 0, .int .i64 0, .int .i64 0, .int .i64 0, .int .i64 0] 35) = W at *
  have hbw := hb0.trans (hbl.mono (by omega))
  obtain ⟨⟨hc0, hc1, hc2, hc3, hc4, hc5, hc6⟩, ⟨hf0, hf1, hf2, hf3, hf4, hf5, hf6⟩⟩ := res_block7 hW hbl
  cases ps with
  | nil =>
    have HM : Hid (_) := HN.out rfl
    clear HN HM2 HT2 HE2 HOK hrd
    obtain ⟨hk0, hk1, hk2, hk3, hk4, hk5, hk6⟩ := res_cells7 ⟨hc0, hc1, hc2, hc3, hc4, hc5, hc6⟩ (.int .i64 3) (.int .i64 0) (.int .i64 0) (.int .i64 0) (.int .i64 0) (.int .i64 0) (.int .i64 0)
    go_wp2
    refine bodyPost_ret (v := .agg #[.int .i64 3, .int .i64 0, .int .i64 0, .int .i64 0, .int .i64 0, .int .i64 0, .int .i64 0]) (by simp [results, Tryd.results86, go_sem, hk0, hk1, hk2, hk3, hk4, hk5, hk6]) rfl ?_
    exact ⟨by rw [HM.out]; rfl, below_sets7 hbw _ _ _ _ _ _ _⟩
  | cons p l =>
    obtain ⟨b, off, rfl, hblt, hcell⟩ := hrd.at_ (by simp)
    have hcp : w1.cell? ⟨b, off, none⟩ = some (.string (str p)) := hcell 0 (by simp)
    have hp1 := HOK.out p (by simp)
    have hne : ((((p :: l).length : Nat) : Int) == 0) = false := by simp only [List.length_cons, beq_eq_false_iff_ne, ne_eq]; omega
    have hlt0 : (0 : Int) < (((p :: l).length : Nat) : Int) := by simp only [List.length_cons]; omega
    have HMul : Hid (∀ w, Calls Tryd.prog 106 #[.string (str p), .string ⟨#[109, 117, 108, 116, 105, 112, 97, 114, 116, 47]⟩] w fun e w' => e = .returned (.bool (bgN p wMulti)) ∧ Below w.heap.size w w') := fun w => l5Begins_any p wMulti w hp1.1 (by unfold wMulti IsB; decide) hp1.2 (by decide)
    have HTx : Hid (∀ w, Calls Tryd.prog 106 #[.string (str p), .string ⟨#[116, 101, 120, 116, 47]⟩] w fun e w' => e = .returned (.bool (bgN p wText)) ∧ Below w.heap.size w w') := fun w => l5Begins_any p wText w hp1.1 (by unfold wText IsB; decide) hp1.2 (by decide)
    have HNm : Hid (∀ w, RdS w (some ⟨b, off, none⟩) (p :: l) → Calls Tryd.prog 87 #[.slice (some ⟨b, off, none⟩) (l.length + 1) cap, .string ⟨#[99, 104, 97, 114, 115, 101, 116, 61]⟩] w fun e w' => e = .returned (nmP (nmN wChar l)) ∧ Below w.heap.size w w') := fun w hr => l5Named_any _ (l.length + 1) cap (p :: l) wChar w rfl (by simp) hr (by have h := hpl; rw [List.length_cons] at h; omega) HOK.out (by unfold wChar IsB; decide) (by decide)
    have HC1 : Hid (nmN wChar l = none → chN l = 1) := chN_none
    have HC2 : Hid (∀ x, nmN wChar l = some x → chN l = csNm x ∧ IsB x ∧ x.length ≤ 1048576) := fun x h => ⟨chN_some h, nmN_ok (fun q hq => HOK.out q (by simp [hq])) h⟩
    have HM2' : Hid (_) := HM2.out p l rfl
    have HT2' : Hid (_) := HT2.out p l rfl
    have HE2' : Hid (_) := HE2.out p l rfl
    clear HN HM2 HT2 HE2 HOK hcell
    generalize bgN p wMulti = qm at *
    generalize bgN p wText = qt at *
    generalize nmN wChar l = o at *
    generalize chN l = ch at *
    go_wp2_with fail
    refine (HMul.out _).mono ?_
    rintro e w2 ⟨rfl, hb2⟩
    have hrd2 := hrd.below hb2
    have hcp2 : w2.cell? ⟨b, off, none⟩ = some (.string (str p)) := (hb2.cell (p := ⟨b, off, none⟩) hblt).trans hcp
    have hz2 := hbl.size
    rw [hsW] at hz2
    have hbl2 := hbl.trans (hb2.mono hz2)
    have hbw2 := hb0.trans (hbl2.mono (by omega))
    obtain ⟨⟨hc0', hc1', hc2', hc3', hc4', hc5', hc6'⟩, ⟨hf0', hf1', hf2', hf3', hf4', hf5', hf6'⟩⟩ := res_block7 hW hbl2
    have hbz2 := hb2.size
    clear hc0 hc1 hc2 hc3 hc4 hc5 hc6 hf0 hf1 hf2 hf3 hf4 hf5 hf6 hbw hcp hrd HMul hb2
    cases qm with
    | true =>
      have HM : Hid (_) := HM2'.out rfl
      clear HM2' HT2' HE2' HTx HNm HC1 HC2
      obtain ⟨hk0, hk1, hk2, hk3, hk4, hk5, hk6⟩ := res_cells7 ⟨hc0', hc1', hc2', hc3', hc4', hc5', hc6'⟩ (.int .i64 2) (.int .i64 0) (.int .i64 0) (.int .i64 0) (.int .i64 0) (.int .i64 0) (.int .i64 0)
      go_wp2
      refine bodyPost_ret (v := .agg #[.int .i64 2, .int .i64 0, .int .i64 0, .int .i64 0, .int .i64 0, .int .i64 0, .int .i64 0]) (by simp [results, Tryd.results86, go_sem, hk0, hk1, hk2, hk3, hk4, hk5, hk6]) rfl ?_
      exact ⟨by rw [HM.out]; rfl, below_sets7 hbw2 _ _ _ _ _ _ _⟩
    | false =>
      go_wp2_with fail
      refine (HTx.out _).mono ?_
      rintro e w3 ⟨rfl, hb3⟩
      have hrd3 := hrd2.below hb3
      have hz3 := hbl2.size
      rw [hsW] at hz3
      have hbl3 := hbl2.trans (hb3.mono hz3)
      have hbw3 := hb0.trans (hbl3.mono (by omega))
      obtain ⟨⟨hc0, hc1, hc2, hc3, hc4, hc5, hc6⟩, ⟨hf0, hf1, hf2, hf3, hf4, hf5, hf6⟩⟩ := res_block7 hW hbl3
      clear hc0' hc1' hc2' hc3' hc4' hc5' hc6' hf0' hf1' hf2' hf3' hf4' hf5' hf6' hbw2 hcp2 hrd2 HTx hb3
      cases qt with
      | false =>
        have HM : Hid (_) := HE2'.out (by first | rfl | trivial) rfl
        clear HM2' HT2' HE2' HNm HC1 HC2
        obtain ⟨hk0, hk1, hk2, hk3, hk4, hk5, hk6⟩ := res_cells7 ⟨hc0, hc1, hc2, hc3, hc4, hc5, hc6⟩ (.int .i64 3) (.int .i64 0) (.int .i64 0) (.int .i64 0) (.int .i64 0) (.int .i64 0) (.int .i64 0)
        go_wp2
        refine bodyPost_ret (v := .agg #[.int .i64 3, .int .i64 0, .int .i64 0, .int .i64 0, .int .i64 0, .int .i64 0, .int .i64 0]) (by simp [results, Tryd.results86, go_sem, hk0, hk1, hk2, hk3, hk4, hk5, hk6]) rfl ?_
        exact ⟨by rw [HM.out]; rfl, below_sets7 hbw3 _ _ _ _ _ _ _⟩
      | true =>
        have HM : Hid (_) := HT2'.out (by first | rfl | trivial) rfl
        clear HM2' HT2' HE2'
        have hbA : Below w3.heap.size w3 (w3.alloc (.cells #[.int .i64 1, .int .i64 1, .int .i64 0, .int .i64 0, .int .i64 0, .int .i64 0, .int .i64 0] 35)) := (Below.refl _ _).alloc (Nat.le_refl _) _
        have hsA : (w3.alloc (.cells #[.int .i64 1, .int .i64 1, .int .i64 0, .int .i64 0, .int .i64 0, .int .i64 0, .int .i64 0] 35)).heap.size = w3.heap.size + 1 := by simp
        have hrdA := hrd3.below hbA
        have hz4 := hbl3.size
        rw [hsW] at hz4
        clear hc0 hc1 hc2 hc3 hc4 hc5 hc6 hf0 hf1 hf2 hf3 hf4 hf5 hf6
        go_wp2_with fail
        refine (HNm.out _ hrdA).mono ?_
        rintro e w4 ⟨rfl, hb4⟩
        generalize hWA : w3.alloc (.cells #[.int .i64 1, .int .i64 1, .int .i64 0, .int .i64 0, .int .i64 0, .int .i64 0, .int .i64 0] 35) = WA at *
        clear HNm hrdA hrd3
        have hsz4 := hb4.size
        cases o with
        | none =>
          obtain rfl := HC1.out rfl
          have hblA : Below (w3.heap.size + 1) WA w4 := hb4.mono (by omega)
          obtain ⟨⟨d0, d1, d2, d3, d4, d5, d6⟩, ⟨g0, g1, g2, g3, g4, g5, g6⟩⟩ := res_block7 hWA hblA
          have hbl4 := (hbl3.trans (hbA.mono hz4)).trans (hb4.mono (by omega))
          have hbw4 := hb0.trans (hbl4.mono (by omega))
          obtain ⟨⟨hc0, hc1, hc2, hc3, hc4, hc5, hc6⟩, ⟨hf0, hf1, hf2, hf3, hf4, hf5, hf6⟩⟩ := res_block7 hW hbl4
          have hlt4 : w3.heap.size < w4.heap.size := by omega
          clear HC1 HC2 hb4 hbl4 hblA hbA hbw3
          simp only [nmP]
          obtain ⟨hk0, hk1, hk2, hk3, hk4, hk5, hk6⟩ := res_cells7 ⟨hc0, hc1, hc2, hc3, hc4, hc5, hc6⟩ (.int .i64 1) (.int .i64 1) (.int .i64 0) (.int .i64 0) (.int .i64 0) (.int .i64 0) (.int .i64 0)
          go_wp2
          refine bodyPost_ret (v := .agg #[.int .i64 1, .int .i64 1, .int .i64 0, .int .i64 0, .int .i64 0, .int .i64 0, .int .i64 0]) (by simp [results, Tryd.results86, go_sem, hk0, hk1, hk2, hk3, hk4, hk5, hk6]) rfl ?_
          exact ⟨by rw [HM.out]; rfl, below_sets7 hbw4 _ _ _ _ _ _ _⟩
        | some x =>
          obtain ⟨hch, hBx, hxl⟩ := HC2.out x rfl
          subst hch
          have HO : Hid (∀ w, Calls Tryd.prog 107 #[.string (str x)] w fun e w' => e = .returned (.int .i64 (csNm x)) ∧ Below w.heap.size w w') := fun w => l2Of_any x _ w rfl hBx hxl
          generalize csNm x = ch at *
          simp only [nmP]
          go_wp2_with fail
          refine (HO.out _).mono ?_
          rintro e w5 ⟨rfl, hb5⟩
          have hb45 := hb4.trans (hb5.mono hsz4)
          have hblA : Below (w3.heap.size + 1) WA w5 := hb45.mono (by omega)
          obtain ⟨⟨d0, d1, d2, d3, d4, d5, d6⟩, ⟨g0, g1, g2, g3, g4, g5, g6⟩⟩ := res_block7 hWA hblA
          have hbl5 := (hbl3.trans (hbA.mono hz4)).trans (hb45.mono (by omega))
          have hbw5 := hb0.trans (hbl5.mono (by omega))
          obtain ⟨⟨hc0, hc1, hc2, hc3, hc4, hc5, hc6⟩, ⟨hf0, hf1, hf2, hf3, hf4, hf5, hf6⟩⟩ := res_block7 hW hbl5
          have hlt5 : w3.heap.size < w5.heap.size := by have := hb45.size; omega
          have hne : w3.heap.size ≠ w.heap.size := by omega
          have e1 : (w5.setCell ⟨w3.heap.size, 1, none⟩ (.int .i64 ch)).cell? ⟨w3.heap.size, 1, none⟩ = some (.int .i64 ch) := World.cell?_setCell_same _ _ _ d1
          have hbw6 := hbw5.setCell (p := ⟨w3.heap.size, 1, none⟩) (by show w.heap.size ≤ w3.heap.size; omega) (.int .i64 ch)
          have hbl6 := hbl5.setCell (p := ⟨w3.heap.size, 1, none⟩) (by show w.heap.size + 1 ≤ w3.heap.size; omega) (.int .i64 ch)
          obtain ⟨⟨k0, k1, k2, k3, k4, k5, k6⟩, ⟨m0, m1, m2, m3, m4, m5, m6⟩⟩ := res_block7 hW hbl6
          clear HC1 HC2 hb4 hbl5 hblA hbA hbw3 hb5 hb45 HO hbw5 hbl6 hc0 hc1 hc2 hc3 hc4 hc5 hc6
          obtain ⟨hk0, hk1, hk2, hk3, hk4, hk5, hk6⟩ := res_cells7 ⟨k0, k1, k2, k3, k4, k5, k6⟩ (.int .i64 1) (.int .i64 ch) (.int .i64 0) (.int .i64 0) (.int .i64 0) (.int .i64 0) (.int .i64 0)
          go_wp2
          refine bodyPost_ret (v := .agg #[.int .i64 1, .int .i64 ch, .int .i64 0, .int .i64 0, .int .i64 0, .int .i64 0, .int .i64 0]) (by simp [results, Tryd.results86, go_sem, hk0, hk1, hk2, hk3, hk4, hk5, hk6]) rfl ?_
          exact ⟨by rw [HM.out]; rfl, below_sets7 hbw6 _ _ _ _ _ _ _⟩
end Go.Proofs.YtkjnhcnbbojajaaDoor

namespace Go.Proofs.YtkjnhcnbbojajaaDoor
open Go.RowKit Go.Shelf

/-- Pieces in the making: the first k of them are without blanks. -/
def halfT (l : List (List Nat)) (k : Nat) : List (List Nat) := (l.take k).map trN ++ l.drop k
theorem halfT_zero (l : List (List Nat)) : halfT l 0 = l := by simp [halfT]
theorem halfT_all (l : List (List Nat)) : halfT l l.length = l.map trN := by simp [halfT]
theorem halfT_len (l : List (List Nat)) (k : Nat) (h : k ≤ l.length) : (halfT l k).length = l.length := by simp [halfT]; omega
theorem halfT_nth (l : List (List Nat)) (k : Nat) (h : k < l.length) : nthS (halfT l k) k = nthS l k := by
  have hk : ((l.take k).map trN).length = k := by simp; omega
  unfold halfT nthS
  rw [List.getD_eq_getElem?_getD, List.getD_eq_getElem?_getD, List.getElem?_append_right (by omega), hk, Nat.sub_self, List.getElem?_drop, Nat.add_zero]
theorem halfT_set (l : List (List Nat)) (k : Nat) (h : k < l.length) : (sc (halfT l k)).set k (.string (str (trN (nthS l k)))) = sc (halfT l (k + 1)) := by
  have hk : (sc ((l.take k).map trN)).length = k := by simp [sc]; omega
  unfold halfT
  rw [sc_app, List.set_append, hk, if_neg (Nat.lt_irrefl k), Nat.sub_self, drop_consT l k h, take_snocT l k h, List.map_append, sc_app, sc_app]
  simp [sc]

theorem trim_call (t : List Nat) (w : World) (hB : IsB t) (hn : t.length ≤ 1048576) : Calls Tryd.prog 101 #[.string (str t), .string ⟨#[32, 9]⟩] w fun e w' => e = .returned (.string (str (trN t))) ∧ Below w.heap.size w w' := by
  have h := Any.strings_Trim_laid Tryd.lays160 (by kernel_rfl) (str t) ⟨#[32, 9]⟩ w (by rw [str_size]; omega) (by decide) (ascii_of_all (by decide))
  have e : (⟨#[32, 9]⟩ : ByteArray).data.toList = [32, 9] := rfl
  rw [e, trim_trN hB] at h
  exact h
theorem semi_pays (w : World) : PredAt Tryd.prog 100 #[] encR (fun r => r == 59) w := fun W r _ => by
  unfold FnGives
  by_cases hr : r = 59
  · subst hr
    go_enter Tryd.func100, Tryd.ntmps100
    go_wp2
    go_ret
    exact ⟨rfl, 0, rfl⟩
  · have e1 : ((r : Int) == 59) = false := by simp; omega
    have e2 : (r == 59) = false := by simp; omega
    simp only [e2]
    go_enter Tryd.func100, Tryd.ntmps100
    go_wp2
    go_ret
    exact ⟨rfl, 0, rfl⟩
theorem fields_call (t : List Nat) (w : World) (hB : IsB t) (hn : t.length ≤ 1048576) : Calls Tryd.prog 99 #[.string (str t), .func (.func 100) #[] #[]] w fun e w' => ∃ A, e = .returned (.slice (some ⟨A, 0, none⟩) (spC [] t).length (spC [] t).length) ∧ w.heap.size ≤ A ∧ OwnS w' w.heap.size (.slice (some ⟨A, 0, none⟩) (spC [] t).length (spC [] t).length) (spC [] t) ∧ Below w.heap.size w w' := by
  have h := Tryd.strings_FieldsFunc 100 #[] (enters_of Tryd.func100 (by kernel_rfl) rfl) (fun r => r == 59) (str t) w (by rw [str_size]; omega) (semi_pays w)
  rw [fields_spC hB, List.length_map, List.map_map] at h
  exact h

set_option maxHeartbeats 1600000 in
set_option maxRecDepth 100000 in
theorem piecesOf_any (t : List Nat) (w : World) (hB : IsB t) (hn : t.length ≤ 1048576) : Calls Tryd.prog 81 #[.string (str t)] w fun e w' => PcsEnd (pcs t) w e w' := by
  have HF := fields_call t w hB hn
  have HOK : Hid (∀ p ∈ spC [] t, IsB p ∧ p.length ≤ 1048576) := fun p hp => by
    obtain ⟨-, h2, h3⟩ := (spC_in t []).2 p hp
    refine ⟨fun x hx => ?_, by simp at h2; omega⟩
    rcases h3 x hx with h | h
    · simp at h
    · exact hB x h
  have HL : Hid ((spC [] t).length ≤ 1048576) := by
    have := (spC_in t []).1
    show _ ≤ _
    simp at this; omega
  have HE : Hid (pcs t = (spC [] t).map trN) := rfl
  generalize pcs t = r at *
  generalize spC [] t = l at *
  clear hB hn
  go_enter Tryd.func81, Tryd.ntmps81
  go_wp2_with fail
  refine HF.mono ?_
  rintro e w1 ⟨A, rfl, hA, ho1, hb1⟩
  clear HF
  generalize hn : l.length = n at *
  have HN : Hid (l.length = n) := hn
  have hnb : n ≤ 1048576 := HL.out
  clear hn HL
  go_wp2
  go_loopw [10] (fun i wr => ∃ k : Nat, k ≤ n ∧ i = .int .i64 k ∧ OwnS wr w.heap.size (.slice (some ⟨A, 0, none⟩) n n) (halfT l k) ∧ Below w.heap.size w wr) (fun i _ => n - (intOf i).toNat)
  case atStart => exact ⟨0, Nat.zero_le _, rfl, by rw [halfT_zero]; exact ho1, hb1⟩
  case round =>
    obtain ⟨k, hk, rfl, hown, hbel⟩ := hrel
    clear ho1 hb1
    have hlk : (halfT l k).length = n := by rw [halfT_len l k (by rw [HN.out]; exact hk)]; exact HN.out
    by_cases hkn : k < n
    · have hki : (k : Int) < (n : Int) := by omega
      have hown' : wr.ownsRow w.heap.size 9 1 (.slice (some ⟨A, 0, none⟩) n n) n (sc (halfT l k)) := by
        have := hown
        unfold OwnS at this
        rw [hlk] at this
        exact this
      have hc : wr.cell? ⟨A, k, none⟩ = some (.string (str (nthS l k))) := by
        rw [hown'.cellAt k (by omega), sc_get (by omega), halfT_nth l k (by rw [HN.out]; exact hkn)]
      have hf := hown'.frozenAt k
      obtain ⟨hBx, hxl⟩ := HOK.out _ (nthS_mem (l := l) (k := k) (by rw [HN.out]; exact hkn))
      have HT : Hid (∀ w, Calls Tryd.prog 101 #[.string (str (nthS l k)), .string ⟨#[32, 9]⟩] w fun e w' => e = .returned (.string (str (trN (nthS l k)))) ∧ Below w.heap.size w w') := fun w => trim_call _ w hBx hxl
      have HS : Hid ((sc (halfT l k)).set k (.string (str (trN (nthS l k)))) = sc (halfT l (k + 1))) := halfT_set l k (by rw [HN.out]; exact hkn)
      clear hBx hxl hown
      generalize trN (nthS l k) = y at *
      generalize nthS l k = x at *
      go_wp2_with fail
      refine (HT.out _).mono ?_
      rintro e w2 ⟨rfl, hb2⟩
      have hown2 : w2.ownsRow w.heap.size 9 1 (.slice (some ⟨A, 0, none⟩) n n) n (sc (halfT l k)) := by
        have : OwnS wr w.heap.size (.slice (some ⟨A, 0, none⟩) n n) (halfT l k) := by unfold OwnS; rw [hlk]; exact hown'
        have := this.below hb2 (Nat.le_refl _)
        unfold OwnS at this
        rw [hlk] at this
        exact this
      have hc2 : w2.cell? ⟨A, k, none⟩ = some (.string (str x)) := by
        have hlt : A < wr.heap.size := World.block_lt_of_cell? wr _ hc
        exact (hb2.cell (p := ⟨A, k, none⟩) hlt).trans hc
      have hf2 := hown2.frozenAt k
      obtain ⟨hst, hgr⟩ := hown2.stored k (.string (str y))
      rw [HS.out] at hst
      have hbel2 := hbel.trans (hb2.mono hbel.size)
      have hbel' : Below w.heap.size w (w2.setCell ⟨A, k, none⟩ (.string (str y))) := hbel2.grown hgr hbel2.size (by intro j hj; simp at hj; omega)
      have hlk' : Hid ((halfT l (k + 1)).length = n) := by show _ = _; rw [halfT_len l (k + 1) (by rw [HN.out]; exact hkn)]; exact HN.out
      clear hgr hown2 hown' hc hf HT HS hb2 hlk
      go_wp2
      go_roundw
      case rel => exact ⟨k + 1, by omega, by go_num, by unfold OwnS; rw [hlk'.out]; exact hst, hbel'⟩
      case measure => simp [intOf]; omega
    · have hkk : k = n := by omega
      subst hkk
      have h3 : ¬ (k : Int) < (k : Int) := by omega
      have hfin : Hid (OwnS wr w.heap.size (.slice (some ⟨A, 0, none⟩) k k) r) := by
        rw [HE.out, ← halfT_all, HN.out]; exact hown
      clear hown hlk
      go_wp2
      go_ret
      exact ⟨_, rfl, hfin.out, hbel⟩

theorem fldN1 (x y : Value) (w : World) : (Instr.field 37 (.agg #[x, y]) 1).run Tryd.prog w = .ok y w := by
  simp [Instr.field, asAgg, go_sem]
theorem u8_inj {a b : Nat} (ha : a < 256) (hb : b < 256) : (UInt8.ofNat a == UInt8.ofNat b) = decide (a = b) := by
  by_cases h : a = b
  · subst h; simp
  · rw [decide_eq_false h, beq_eq_false_iff_ne]
    intro e
    have := congrArg UInt8.toNat e
    rw [UInt8.toNat_ofNat', UInt8.toNat_ofNat'] at this
    omega
theorem prefix_bg : ∀ (p t : List Nat), IsB p → IsB t → (p.map UInt8.ofNat).isPrefixOf (t.map UInt8.ofNat) = decide (t.take p.length = p)
  | [], t, _, _ => by simp
  | c :: p, [], _, _ => by simp
  | c :: p, d :: t, hp, ht => by
    rw [List.map_cons, List.map_cons, List.isPrefixOf_cons_cons, prefix_bg p t (fun x hx => hp x (by simp [hx])) (fun x hx => ht x (by simp [hx])), u8_inj (hp c (by simp)) (ht d (by simp)), List.length_cons, List.take_succ_cons]
    by_cases h1 : c = d
    · subst h1; simp
    · have : ¬ (d :: t.take p.length = c :: p) := fun e => by injection e with e1 _; exact h1 e1.symm
      rw [decide_eq_false h1, decide_eq_false this]; rfl
/-- The library's look for a beginning, at small letters. -/
theorem hasPrefix_bg (t p : List Nat) (w : World) (hB : IsB t) (hBp : IsB p) : Calls Tryd.prog 53 #[.string (str (t.map low)), .string (str p)] w fun e w' => e = .returned (.bool (bgN t p)) ∧ w' = w := by
  have h := Tryd.strings_HasPrefix (str (t.map low)) (str p) w
  have e1 : ∀ l : List Nat, (str l).data.toList = l.map UInt8.ofNat := fun l => by simp [str]
  rw [e1, e1] at h
  have e2 : Lib.hasPrefix ((t.map low).map UInt8.ofNat) (p.map UInt8.ofNat) = bgN t p := by
    unfold Lib.hasPrefix bgN
    rw [prefix_bg p (t.map low) hBp (low_isB hB), List.map_take]
  rw [e2] at h
  exact h

set_option maxHeartbeats 1600000 in
set_option maxRecDepth 100000 in
theorem behindBegin_any (a : Option Addr) (n cap : Nat) (l : List (List Nat)) (p : List Nat) (w : World) (hl : l.length = n) (hr : RdS w a l) (hn : n ≤ 1048576) (hok : PcOk l) (hBp : IsB p) (_ : p.length ≤ 1048576) :
    Calls Tryd.prog 83 #[.slice a n cap, .string (str p)] w fun e w' => e = .returned (nmP (nmN p l)) ∧ Below w.heap.size w w' := by
  have HL : Hid (l.length = n) := hl
  have hsp : (str p).size = p.length := str_size p
  have HE : Hid (∀ k, k < n → (∀ i, i < k → bgN (nthS l i) p = false) → bgN (nthS l k) p = true → nmN p l = some ((nthS l k).drop p.length)) := fun k hk h2 h3 => nmN_some (by rw [HL.out]; exact hk) h2 h3
  have HU : Hid ((∀ i, i < n → bgN (nthS l i) p = false) → nmN p l = none) := fun h => nmN_none (fun i hi => h i (by rw [HL.out] at hi; exact hi))
  clear hl
  generalize nmN p l = r at *
  go_enter Tryd.func83, Tryd.ntmps83
  go_wp2
  go_loopw [10] (fun v wr => ∃ k : Nat, k ≤ n ∧ v = .int .i64 k ∧ Hid (∀ i, i < k → bgN (nthS l i) p = false) ∧ Below w.heap.size w wr) (fun v _ => n - (intOf v).toNat)
  case atStart => exact ⟨0, Nat.zero_le _, rfl, fun i hi => absurd hi (Nat.not_lt_zero _), Below.refl _ _⟩
  case round =>
    obtain ⟨k, hk, rfl, HA, hbel⟩ := hrel
    by_cases hkn : k < n
    · obtain ⟨b, off, rfl, hblt, hcell⟩ := hr.at_ (by have := HL.out; omega)
      have hki : (k : Int) < (n : Int) := by omega
      have hc : wr.cell? ⟨b, off + k, none⟩ = some (.string (str (nthS l k))) := (hbel.cell (p := ⟨b, off + k, none⟩) hblt).trans (hcell k (by have := HL.out; omega))
      obtain ⟨hBx, hxl⟩ := hok _ (nthS_mem (l := l) (k := k) (by have := HL.out; omega))
      have HC : Hid (∀ w, Calls Tryd.prog 80 #[.string (str (nthS l k))] w fun e w' => e = .returned (.string (str ((nthS l k).map low))) ∧ Below w.heap.size w w') := fun w => smallLetters_any _ _ w rfl hBx hxl
      have HD : Hid (∀ w, Calls Tryd.prog 53 #[.string (str ((nthS l k).map low)), .string (str p)] w fun e w' => e = .returned (.bool (bgN (nthS l k) p)) ∧ w' = w) := fun w => hasPrefix_bg _ p w hBx hBp
      have HY : Hid (bgN (nthS l k) p = true → r = some ((nthS l k).drop p.length)) := fun h => HE.out k hkn HA.out h
      have HM : Hid (bgN (nthS l k) p = false → ∀ i, i < k + 1 → bgN (nthS l i) p = false) := fun h i hi => by
        by_cases he : i = k
        · subst he; exact h
        · exact HA.out i (by omega)
      have HG : Hid (bgN (nthS l k) p = true → p.length ≤ (nthS l k).length) := bgN_len
      clear HE HU HA
      have hsx : (str (nthS l k)).size = (nthS l k).length := str_size _
      have hex : (str (nthS l k)).extract p.length (nthS l k).length = str ((nthS l k).drop p.length) := by rw [str_pc, List.take_length]
      generalize bgN (nthS l k) p = q at *
      generalize (nthS l k).drop p.length = y at *
      generalize (nthS l k).map low = z at *
      generalize nthS l k = x at *
      go_wp2_with fail
      refine (HC.out _).mono ?_
      rintro e w' ⟨rfl, hb⟩
      have hbel' := hbel.trans (hb.mono hbel.size)
      go_wp2_with fail
      refine (HD.out _).mono ?_
      rintro e w'' ⟨rfl, rfl⟩
      clear HC HD hb hc
      cases q with
      | true =>
        have hpx := HG.out rfl
        have hpi : (p.length : Int) ≤ (x.length : Int) := by omega
        obtain rfl := HY.out rfl
        go_wp2
        go_ret2
        exact ⟨rfl, hbel'⟩
      | false =>
        have HM' : Hid (_) := HM.out rfl
        clear HY HM HG
        go_wp2
        go_roundw
        case rel => exact ⟨k + 1, by omega, by go_num, HM'.out, hbel'⟩
        case measure => simp [intOf]; omega
    · have hki : ¬ (k : Int) < (n : Int) := by omega
      obtain rfl := HU.out (fun i hi => HA.out i (by omega))
      clear HE HU HA
      go_wp2
      go_ret2
      exact ⟨rfl, hbel⟩

set_option maxHeartbeats 1600000 in
set_option maxRecDepth 100000 in
theorem charsetIn_any (a : Option Addr) (n cap : Nat) (l : List (List Nat)) (w : World) (hl : l.length = n) (hr : RdS w a l) (hn : n ≤ 1048576) (hok : PcOk l) (ht : TabC w) :
    Calls Tryd.prog 82 #[.slice a n cap] w fun e w' => e = .returned (.int .i64 (chN l)) ∧ Below w.heap.size w w' := by
  have HB := behindBegin_any a n cap l wChar w hl hr hn hok (by unfold wChar IsB; decide) (by decide)
  have HC1 : Hid (nmN wChar l = none → chN l = 1) := chN_none
  have HC2 : Hid (∀ x, nmN wChar l = some x → chN l = csNm x ∧ IsB x ∧ x.length ≤ 1048576) := fun x h => ⟨chN_some h, nmN_ok hok h⟩
  have HX : str wChar = ⟨#[99, 104, 97, 114, 115, 101, 116, 61]⟩ := rfl
  rw [HX] at HB
  generalize nmN wChar l = o at *
  generalize chN l = ch at *
  clear HX hok
  go_enter Tryd.func82, Tryd.ntmps82
  go_wp2_with fail
  refine HB.mono ?_
  rintro e w1 ⟨rfl, hb1⟩
  clear HB
  cases o with
  | none =>
    obtain rfl := HC1.out rfl
    clear HC1 HC2
    simp only [nmP]
    go_wp2
    go_ret
    exact ⟨rfl, hb1⟩
  | some x =>
    obtain ⟨rfl, hBx, hxl⟩ := HC2.out x rfl
    have HO : Hid (∀ w, TabC w → Calls Tryd.prog 102 #[.string (str x)] w fun e w' => IntEnd (csfV (str (x.map low))) w e w') := fun w h => charsetOf_any x _ w rfl hBx hxl h
    have HV : Hid ((csfV (str (x.map low))).2 = csNm x) := by
      show _ = csI _
      rcases csfV_csI (str (x.map low)) with ⟨h1, h2⟩ | ⟨h1, h2⟩
      · rw [h1, h2]
      · rw [h2]
    generalize hcn : csNm x = ch at *
    generalize csfV (str (x.map low)) = cf at *
    obtain ⟨c1, c2⟩ := cf
    obtain rfl : c2 = ch := HV.out
    have HK : Hid (csNm x = c2) := hcn
    clear hcn
    have ht1 := ht.below hb1
    clear HC1 HC2
    simp only [nmP]
    go_wp2_with fail
    refine (HO.out _ ht1).mono ?_
    rintro e w2 ⟨rfl, hb2⟩
    clear HO
    have hfl := fun x y w => fldN1 x y w
    go_wp2
    go_ret
    exact ⟨by rw [HK.out]; rfl, hb1.trans (hb2.mono hb1.size)⟩
end Go.Proofs.YtkjnhcnbbojajaaDoor
