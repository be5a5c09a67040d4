/- The laws' helpers over slices of mailboxes: their size, a copy, whether two are the same; no conditions beyond those that each fact names. -/
import Derived.Test.YtmidjgpegdodcaaDoorBxa
import Derived.Test.YtmidjgpegdodcaaDoorTkw
namespace Go.Proofs.YtmidjgpegdodcaaDoor
open Go.RowKit List

/-- What the laws let through. -/
def FtXs (l : List Bx) : Prop := l.length ≤ 1048576 ∧ ∀ i, i < l.length → FtX (nthX l i)

set_option maxHeartbeats 1600000 in
set_option maxRecDepth 100000 in
theorem szBoxS_ft (s : SlQ) (l : List Bx) (left : Int) {lo : Nat} (w : World) (h0 : 0 ≤ left) (h1 : left ≤ 1048576) (hs : IsXs lo w s l) (hok : ∀ i, i < l.length → OkX (nthX l i)) :
    Calls Tryd.prog 10 #[slW s, .int .i64 left] w fun e w' => SzQ left (FtXs l) w e w' := by
  obtain ⟨a, n, cap⟩ := s
  obtain ⟨hl, hnc, hcm, hr⟩ := hs
  dsimp only [slW] at *
  unfold maxLen at hcm
  by_cases c1 : left - (n : Int) < 0
  · go_enter Tryd.func10, Tryd.ntmps10
    go_wp2
    go_ret
    exact ⟨-1, rfl, .inl rfl, Below.refl _ _⟩
  · go_enter Tryd.func10, Tryd.ntmps10
    go_wp2
    go_loopw [1, 5] (fun q i wr => ∃ (k : Nat) (r : Int), k ≤ n ∧ i = .int .i64 k ∧ q = .int .i64 r ∧ 0 ≤ r ∧ r ≤ left ∧ (∀ j, j < k → FtX (nthX l j)) ∧ Below w.heap.size w wr)
      (fun _ i _ => n - (intOf i).toNat)
    case atStart => exact ⟨0, _, Nat.zero_le _, rfl, rfl, by omega, by omega, fun j hj => absurd hj (Nat.not_lt_zero _), Below.refl _ _⟩
    case round =>
      obtain ⟨k, r, hk, rfl, rfl, hr0, hr1, hall, hbel⟩ := hrel
      by_cases hkn : k < n
      · obtain ⟨b, off, rfl, -, hblt, hcell⟩ := (hr.below hbel).at_ (by omega)
        obtain ⟨s, ⟨hc0, hc1, hc2, hc3⟩, hI⟩ := hcell k (by omega)
        have hki : (k : Int) < (n : Int) := by omega
        have HC := szBox_ft (nthX l k) s r wr hr0 (by omega) hI (hok k (by omega))
        have HA : Hid (FtX (nthX l k) → ∀ j, j < k + 1 → FtX (nthX l j)) := fun h j hj => by
          rcases Nat.lt_or_ge j k with h' | h'
          · exact hall j h'
          · obtain rfl : j = k := by omega
            exact h
        clear hcell hall hI
        generalize nthX l k = p at *
        go_wp2_with fail
        refine HC.mono ?_
        rintro e w1 ⟨r', rfl, hcase, hb1⟩
        have hbel1 := hbel.trans (hb1.mono hbel.size)
        clear hb1 hbel HC
        rcases hcase with rfl | ⟨q0, q1, q2⟩
        · go_wp2
          go_ret
          exact ⟨-1, rfl, .inl rfl, hbel1⟩
        · have hneg : ¬ r' < 0 := by omega
          have HM : Hid (_) := HA.out q2
          clear HA
          go_wp2
          go_roundw
          case rel => exact ⟨k + 1, r', by omega, by go_num, by trivial, q0, by omega, HM.out, hbel1⟩
          case measure => simp [intOf]; omega
      · have hki : ¬ (k : Int) < (n : Int) := by omega
        have HM : Hid (FtXs l) := ⟨by omega, fun i hi => hall i (by omega)⟩
        clear hall
        go_wp2
        go_ret
        exact ⟨r, rfl, .inr ⟨hr0, hr1, HM.out⟩, hbel⟩

theorem infoBox : (Tryd.prog.info? 45).map (fun i => (i.zero, i.size, i.bytes)) = some (some (.agg #[.string ByteArray.empty, .int .i64 0, .int .i64 0, .slice none 0 0]), 4, 56) := by kernel_rfl
abbrev zBox : Qd := (.string ByteArray.empty, .int .i64 0, .int .i64 0, .slice none 0 0)

set_option maxHeartbeats 1600000 in
set_option maxRecDepth 100000 in
theorem toBoxS_ft (s : SlQ) (l : List Bx) {lo : Nat} (w : World) (hs : IsXs lo w s l) (hf : FtXs l) :
    Calls Tryd.prog 13 #[slW s] w fun e w' => ∃ s', e = .returned (slW s') ∧ IsXs w.heap.size w' s' l ∧ Below w.heap.size w w' := by
  obtain ⟨a, n, cap⟩ := s
  obtain ⟨hl, hnc, hcm, hr⟩ := hs
  obtain ⟨hn, hft⟩ := hf
  dsimp only [slW] at *
  obtain ⟨i0, hi, hz0, hz1, hz2⟩ := info_parts infoBox
  go_enter Tryd.func13, Tryd.ntmps13
  go_wp2_with (at_make; refine wpList_make_full _ rfl _ _ 29 rfl w.heap.size 45 i0 (.agg #[.string ByteArray.empty, .int .i64 0, .int .i64 0, .slice none 0 0]) 4 Tryd.underlying29 hi hz0 hz1 .i64 .i64 _ _ n rfl rfl rfl rfl (by rw [hz2]; omega) (by unfold maxLen; omega) (Nat.le_refl _) ?_; intro w0 hown0 hgrow0)
  have hown0' : w0.ownsRow w.heap.size 45 4 (.slice (some ⟨w.heap.size, 0, none⟩) n n) n (qc (halfQ zBox [] n)) := by
    rw [halfQ_zero, ← made_quads]
    exact hown0
  have hbel0 : Below w.heap.size w w0 := (Below.refl _ _).grown hgrow0 (Nat.le_refl _) (by intro k hk; cases hk)
  clear hgrow0 hown0
  go_loopw [4] (fun i wr => ∃ (k : Nat) (ql : List Qd), k ≤ n ∧ i = .int .i64 k ∧ ql.length = k ∧ wr.ownsRow w.heap.size 45 4 (.slice (some ⟨w.heap.size, 0, none⟩) n n) n (qc (halfQ zBox ql n)) ∧ (∀ j, j < k → ∃ s, nthQ ql j = bxQ (nthX l j) s ∧ IsMs (w.heap.size + 1) wr s (nthX l j).m) ∧ Below w.heap.size w wr)
    (fun i _ => n - (intOf i).toNat)
  case atStart => exact ⟨0, [], Nat.zero_le _, rfl, rfl, hown0', fun j hj => absurd hj (Nat.not_lt_zero _), hbel0⟩
  case round =>
    obtain ⟨k, ql, hk, rfl, hqk, hown, hall, hbel⟩ := hrel
    clear hown0' hbel0
    by_cases hkn : k < n
    · obtain ⟨b, off, rfl, -, hblt, hcell⟩ := (hr.below hbel).at_ (by omega)
      obtain ⟨s, ⟨hc0, hc1, hc2, hc3⟩, hI⟩ := hcell k (by omega)
      have hgl : w.heap.size < wr.heap.size := (hown.lt w.heap.size rfl).2
      have HC := toBox_ft (nthX l k) s wr hI (hft k (by omega))
      have hki : (k : Int) < (n : Int) := by omega
      have HL : Hid (∀ (w' : World) (s' : SlQ) (_ : Near (w.heap.size + 1) wr w') (_ : IsMs (w.heap.size + 1) w' s' (nthX l k).m), ∀ j, j < k + 1 → ∃ s, nthQ (ql ++ [bxQ (nthX l k) s']) j = bxQ (nthX l j) s ∧ IsMs (w.heap.size + 1) w' s (nthX l j).m) := fun w' s' hN hI' j hj => by
        rcases Nat.lt_or_ge j k with h' | h'
        · obtain ⟨s, e, hI''⟩ := hall j h'
          refine ⟨s, ?_, hI''.near hN⟩
          rw [← e]; unfold nthQ; rw [List.getD_eq_getElem?_getD, List.getD_eq_getElem?_getD, List.getElem?_append_left (by omega)]
        · obtain rfl : j = k := by omega
          refine ⟨s', ?_, hI'⟩
          unfold nthQ; rw [List.getD_eq_getElem?_getD, List.getElem?_append_right (by omega), hqk, Nat.sub_self]; rfl
      have HFS : Hid (∀ s', qc ((halfQ zBox ql n).set k (bxQ (nthX l k) s')) = qc (halfQ zBox (ql ++ [bxQ (nthX l k) s']) n)) := fun s' => by
        rw [← hqk, halfQ_set zBox ql n _ (by omega)]
      clear hcell hall hI
      generalize nthX l k = p at *
      obtain ⟨n0, v0, x0, m0⟩ := p
      dsimp only at hc0 hc1 hc2 HL
      go_wp2_with fail
      refine HC.mono ?_
      rintro e w1 ⟨s', rfl, hI1, hb1⟩
      have hown1 := ownQ_below hown hb1 (Nat.le_refl _)
      have hbel1 : Below w.heap.size w w1 := hbel.trans (hb1.mono hbel.size)
      have hhl : (halfQ zBox ql n).length = n := halfQ_len _ _ _ (by omega)
      obtain ⟨-, g0, g1, g2, g3⟩ := ownQ_cells hown1 k (by omega)
      have z0 := hown1.frozenAt (k * 4)
      have z1 := hown1.frozenAt (k * 4 + 1)
      have z2 := hown1.frozenAt (k * 4 + 2)
      have z3 := hown1.frozenAt (k * 4 + 3)
      obtain ⟨hst, -⟩ := hown1.stored (k * 4) (.string n0)
      obtain ⟨hst2, -⟩ := hst.stored (k * 4 + 1) (.int .i64 v0)
      obtain ⟨hst3, -⟩ := hst2.stored (k * 4 + 2) (.int .i64 x0)
      obtain ⟨hst4, -⟩ := hst3.stored (k * 4 + 3) (slW s')
      rw [qc_set (halfQ zBox ql n) k (bxQ ⟨n0, v0, x0, m0⟩ s') (by omega), HFS.out s'] at hst4
      have HN : Hid (Near (w.heap.size + 1) wr ((((w1.setCell ⟨w.heap.size, k * 4, none⟩ (.string n0)).setCell ⟨w.heap.size, k * 4 + 1, none⟩ (.int .i64 v0)).setCell ⟨w.heap.size, k * 4 + 2, none⟩ (.int .i64 x0)).setCell ⟨w.heap.size, k * 4 + 3, none⟩ (slW s')) ∧ Near (w.heap.size + 1) w1 ((((w1.setCell ⟨w.heap.size, k * 4, none⟩ (.string n0)).setCell ⟨w.heap.size, k * 4 + 1, none⟩ (.int .i64 v0)).setCell ⟨w.heap.size, k * 4 + 2, none⟩ (.int .i64 x0)).setCell ⟨w.heap.size, k * 4 + 3, none⟩ (slW s'))) := by
        have h4 := (((Near.set (w := w1) (g := w.heap.size) (j := k * 4) (lo := w.heap.size + 1) (.string n0) (by omega)).trans (Near.set (g := w.heap.size) (j := k * 4 + 1) (.int .i64 v0) (by omega))).trans (Near.set (g := w.heap.size) (j := k * 4 + 2) (.int .i64 x0) (by omega))).trans (Near.set (g := w.heap.size) (j := k * 4 + 3) (slW s') (by omega))
        exact ⟨(Near.of_below hb1).trans h4, h4⟩
      have HX : Hid (_) := HL.out _ s' HN.out.1 ((hI1.near (HN.out.2.mono (by omega))).low (by omega))
      have HB2 : Hid (Below w.heap.size w ((((w1.setCell ⟨w.heap.size, k * 4, none⟩ (.string n0)).setCell ⟨w.heap.size, k * 4 + 1, none⟩ (.int .i64 v0)).setCell ⟨w.heap.size, k * 4 + 2, none⟩ (.int .i64 x0)).setCell ⟨w.heap.size, k * 4 + 3, none⟩ (slW s'))) := (((hbel1.setCell (by simp) _).setCell (by simp) _).setCell (by simp) _).setCell (by simp) _
      have HO2 : Hid (_) := hst4
      generalize (nthQ (halfQ zBox ql n) k) = y at *
      obtain ⟨y0, y1, y2, y3⟩ := y
      dsimp only at g0 g1 g2 g3
      clear hst hst2 hst3 hst4 hown1 hown hb1 HFS hbel HL HN HC hI1
      go_wp2
      go_roundw
      case rel => exact ⟨k + 1, _, by omega, by go_num, by simp [hqk], HO2.out, HX.out, HB2.out⟩
      case measure => simp [intOf]; omega
    · have hkk : k = n := by omega
      subst hkk
      have hki : ¬ (k : Int) < (k : Int) := by omega
      have HO : Hid (IsXs w.heap.size wr (some ⟨w.heap.size, 0, none⟩, k, k) l) := by
        refine ⟨hl, Nat.le_refl _, by dsimp only; unfold maxLen; omega, ?_⟩
        rcases Nat.eq_zero_or_pos l.length with h0 | h0
        · exact .inl (List.length_eq_zero_iff.1 h0)
        · refine .inr ⟨w.heap.size, 0, rfl, Nat.le_refl _, (hown.lt w.heap.size rfl).2, fun i hi => ?_⟩
          obtain ⟨s, e, hI⟩ := hall i (by omega)
          rw [← hqk, halfQ_all] at hown
          obtain ⟨-, g0, g1, g2, g3⟩ := ownQ_cells (cap := ql.length) hown i (by omega)
          rw [e] at g0 g1 g2 g3
          rw [Nat.zero_add]
          exact ⟨s, ⟨g0, g1, g2, g3⟩, hI.low (by omega)⟩
      clear hown hall
      go_wp2
      go_ret
      exact ⟨_, _, _, rfl, HO.out, hbel⟩

set_option maxHeartbeats 1600000 in
set_option maxRecDepth 100000 in
theorem eqBoxS_ft (s s' : SlQ) (l : List Bx) {lo lo' : Nat} (w : World) (hs : IsXs lo w s l) (hs' : IsXs lo' w s' l) (hf : FtXs l) :
    Calls Tryd.prog 17 #[slW s, slW s'] w fun e w' => e = .returned (.bool true) ∧ Below w.heap.size w w' := by
  obtain ⟨a, n, cap⟩ := s
  obtain ⟨c, n', cap'⟩ := s'
  obtain ⟨hl, hnc, hcm, hr⟩ := hs
  obtain ⟨hl', hnc', hcm', hr'⟩ := hs'
  obtain ⟨hn, hft⟩ := hf
  dsimp only [slW] at *
  obtain rfl : n = n' := by omega
  go_enter Tryd.func17, Tryd.ntmps17
  go_wp2
  go_loopw [5] (fun i wr => ∃ k : Nat, k ≤ n ∧ i = .int .i64 k ∧ Below w.heap.size w wr) (fun i _ => n - (intOf i).toNat)
  case atStart => exact ⟨0, Nat.zero_le _, rfl, Below.refl _ _⟩
  case round =>
    obtain ⟨k, hk, rfl, hbel⟩ := hrel
    by_cases hkn : k < n
    · obtain ⟨b, off, rfl, -, hblt, hcell⟩ := (hr.below hbel).at_ (by omega)
      obtain ⟨d, off', rfl, -, hdlt, hdell⟩ := (hr'.below hbel).at_ (by omega)
      obtain ⟨s, ⟨hc0, hc1, hc2, hc3⟩, hI⟩ := hcell k (by omega)
      obtain ⟨s', ⟨hd0, hd1, hd2, hd3⟩, hI'⟩ := hdell k (by omega)
      have hki : (k : Int) < (n : Int) := by omega
      have hF := hft k (by omega)
      clear hcell hdell hr hr' hft
      generalize nthX l k = p at *
      obtain ⟨n0, v0, x0, m0⟩ := p
      dsimp only at hc0 hc1 hc2 hd0 hd1 hd2
      go_wp2_with fail
      refine wp_region_held_drew (S := fun w' => (w'.cell? ⟨b, off + k * 4, none⟩ = some (.string n0) ∧ w'.cell? ⟨b, off + k * 4 + 1, none⟩ = some (.int .i64 v0) ∧ w'.cell? ⟨b, off + k * 4 + 2, none⟩ = some (.int .i64 x0) ∧ w'.cell? ⟨b, off + k * 4 + 3, none⟩ = some (slW s)) ∧ (w'.cell? ⟨d, off' + k * 4, none⟩ = some (.string n0) ∧ w'.cell? ⟨d, off' + k * 4 + 1, none⟩ = some (.int .i64 v0) ∧ w'.cell? ⟨d, off' + k * 4 + 2, none⟩ = some (.int .i64 x0) ∧ w'.cell? ⟨d, off' + k * 4 + 3, none⟩ = some (slW s'))) (by kernel_rfl) ?hS1 (fun hHeld => ?_)
      case hS1 => exact ⟨⟨hc0, hc1, hc2, hc3⟩, ⟨hd0, hd1, hd2, hd3⟩⟩
      refine tk (i := 0) (v := ?_) rfl (Or.inl ⟨by rfl, ?hy0⟩) ?ty0
      case hy0 => (intro w' hSw; obtain ⟨⟨e0, e1, e2, e3⟩, ⟨d0, d1, d2, d3⟩⟩ := hSw; go_simp; all_goals with_reducible rfl)
      simp only [Act.put, J1, J2, J4, J5, J6]
      refine tk (i := 1) (v := ?_) rfl (Or.inl ⟨by rfl, ?hy1⟩) ?ty1
      case hy1 => (intro w' hSw; obtain ⟨⟨e0, e1, e2, e3⟩, ⟨d0, d1, d2, d3⟩⟩ := hSw; go_simp; all_goals with_reducible rfl)
      simp only [Act.put, J1, J2, J3, J4, J5, J6]
      refine tk (i := 2) (v := ?_) rfl (Or.inl ⟨by rfl, ?hy2⟩) ?ty2
      case hy2 => (intro w' hSw; obtain ⟨⟨e0, e1, e2, e3⟩, ⟨d0, d1, d2, d3⟩⟩ := hSw; go_simp; all_goals with_reducible rfl)
      simp only [Act.put, J1, J2, J3, J4, J5, J6]
      refine tk (i := 3) (v := ?_) rfl (Or.inl ⟨by rfl, ?hy3⟩) ?ty3
      case hy3 => (intro w' hSw; obtain ⟨⟨e0, e1, e2, e3⟩, ⟨d0, d1, d2, d3⟩⟩ := hSw; go_simp; all_goals with_reducible rfl)
      simp only [Act.put, J1, J2, J3, J4, J5, J6]
      refine tk (i := 4) (v := ?_) rfl (Or.inl ⟨by rfl, ?hy4⟩) ?ty4
      case hy4 => (intro w' hSw; obtain ⟨⟨e0, e1, e2, e3⟩, ⟨d0, d1, d2, d3⟩⟩ := hSw; go_simp; all_goals with_reducible rfl)
      simp only [Act.put, J1, J2, J3, J4, J5, J6]
      refine tk (i := 5) (v := ?_) rfl (Or.inl ⟨by rfl, ?hy5⟩) ?ty5
      case hy5 => (intro w' hSw; obtain ⟨⟨e0, e1, e2, e3⟩, ⟨d0, d1, d2, d3⟩⟩ := hSw; go_simp; all_goals with_reducible rfl)
      simp only [Act.put, J1, J2, J3, J4, J5, J6]
      refine tk (i := 6) (v := ?_) rfl (Or.inl ⟨by rfl, ?hy6⟩) ?ty6
      case hy6 => (intro w' hSw; obtain ⟨⟨e0, e1, e2, e3⟩, ⟨d0, d1, d2, d3⟩⟩ := hSw; go_simp; all_goals with_reducible rfl)
      simp only [Act.put, J1, J2, J3, J4, J5, J6]
      refine tk (i := 7) (v := ?_) rfl (Or.inl ⟨by rfl, ?hy7⟩) ?ty7
      case hy7 => (intro w' hSw; obtain ⟨⟨e0, e1, e2, e3⟩, ⟨d0, d1, d2, d3⟩⟩ := hSw; go_simp; all_goals with_reducible rfl)
      simp only [Act.put, J1, J2, J3, J4, J5, J6]
      refine wpAnyH_ready (rs := [8]) (by kernel_rfl) (by simp) ?_
      refine AllReadyH.cons rfl (fun K hK => ?_) AllReadyH.nil
      go_simp
      refine (eqBox_ft ⟨n0, v0, x0, m0⟩ s s' _ (hI.below (Below.refl _ _).drew) (hI'.below (Below.refl _ _).drew) hF).mono ?_
      rintro e w1 ⟨rfl, hbx⟩
      have HW : Hid (Below wr.heap.size wr w1) := (Below.refl _ _).drew.trans hbx
      have hsS : (w1.cell? ⟨b, off + k * 4, none⟩ = some (.string n0) ∧ w1.cell? ⟨b, off + k * 4 + 1, none⟩ = some (.int .i64 v0) ∧ w1.cell? ⟨b, off + k * 4 + 2, none⟩ = some (.int .i64 x0) ∧ w1.cell? ⟨b, off + k * 4 + 3, none⟩ = some (slW s)) ∧ (w1.cell? ⟨d, off' + k * 4, none⟩ = some (.string n0) ∧ w1.cell? ⟨d, off' + k * 4 + 1, none⟩ = some (.int .i64 v0) ∧ w1.cell? ⟨d, off' + k * 4 + 2, none⟩ = some (.int .i64 x0) ∧ w1.cell? ⟨d, off' + k * 4 + 3, none⟩ = some (slW s')) :=
        ⟨⟨(HW.out.cell (p := ⟨b, off + k * 4, none⟩) hblt).trans hc0, (HW.out.cell (p := ⟨b, off + k * 4 + 1, none⟩) hblt).trans hc1, (HW.out.cell (p := ⟨b, off + k * 4 + 2, none⟩) hblt).trans hc2, (HW.out.cell (p := ⟨b, off + k * 4 + 3, none⟩) hblt).trans hc3⟩, ⟨(HW.out.cell (p := ⟨d, off' + k * 4, none⟩) hdlt).trans hd0, (HW.out.cell (p := ⟨d, off' + k * 4 + 1, none⟩) hdlt).trans hd1, (HW.out.cell (p := ⟨d, off' + k * 4 + 2, none⟩) hdlt).trans hd2, (HW.out.cell (p := ⟨d, off' + k * 4 + 3, none⟩) hdlt).trans hd3⟩⟩
      refine hK.out _ _ hsS (fun hHeld => ?_)
      clear hK K
      refine tk (i := 9) (v := ?_) rfl (Or.inl ⟨by rfl, ?hy10⟩) ?ty10
      case hy10 => (intro w' hSw; go_simp; all_goals with_reducible rfl)
      simp only [Act.put, J1, J2, J3, J4, J5, J6]
      refine wpAnyH_done (by kernel_rfl) ?_ _
      have hbel2 := hbel.trans (HW.out.mono hbel.size)
      clear hHeld hsS hbx HW
      go_wp2
      go_roundw
      case rel => exact ⟨k + 1, by omega, by go_num, hbel2⟩
      case measure => simp [intOf]; omega
    · have hki : ¬ (k : Int) < (n : Int) := by omega
      go_wp2
      go_ret
      exact ⟨rfl, hbel⟩
end Go.Proofs.YtmidjgpegdodcaaDoor
