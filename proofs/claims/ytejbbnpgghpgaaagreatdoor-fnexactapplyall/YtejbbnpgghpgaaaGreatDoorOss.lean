/- The laws' helpers over slices of ops: their size, a copy, whether two are the same; no conditions beyond those that each fact names. -/
import Derived.Test.YtejbbnpgghpgaaaGreatDoorOfmToOsb
namespace Go.Proofs.YtejbbnpgghpgaaaGreatDoor
open Go.RowKit
def FtOs (l : List OpR) : Prop := l.length ≤ 1048576 ∧ ∀ i, i < l.length → FtO (nthO l i)
set_option maxHeartbeats 1600000 in
set_option maxRecDepth 100000 in
theorem szOpS_ft (s : SlQ) (l : List OpR) (left : Int) {lo : Nat} (w : World) (h0 : 0 ≤ left) (h1 : left ≤ 1048576) (hs : IsOs lo w s l) (hok : ∀ i, i < l.length → OkO (nthO l i)) :
    Calls Tryz.prog 25 #[slW s, .int .i64 left] w fun e w' => SzQ left (FtOs l) w e w' := by
  obtain ⟨a, n, cap⟩ := s
  obtain ⟨hl, hnc, hcm, hr⟩ := hs
  dsimp only [slW] at *
  unfold maxLen at hcm
  by_cases c1 : left - (n : Int) < 0
  · go_enter Tryz.func25, Tryz.ntmps25
    go_wp2
    go_ret
    exact ⟨-1, rfl, .inl rfl, Below.refl _ _⟩
  · go_enter Tryz.func25, Tryz.ntmps25
    go_wp2
    go_loopw [1, 5] (fun q i wr => ∃ (k : Nat) (r : Int), k ≤ n ∧ i = .int .i64 k ∧ q = .int .i64 r ∧ 0 ≤ r ∧ r ≤ left ∧ (∀ j, j < k → FtO (nthO l j)) ∧ Below w.heap.size w wr)
      (fun _ i _ => n - (intOf i).toNat)
    case atStart => exact ⟨0, _, Nat.zero_le _, rfl, rfl, by omega, by omega, fun j hj => absurd hj (Nat.not_lt_zero _), Below.refl _ _⟩
    case round =>
      obtain ⟨k, r, hk, rfl, rfl, hr0, hr1, hall, hbel⟩ := hrel
      by_cases hkn : k < n
      · obtain ⟨b, off, rfl, -, hblt, hcell⟩ := (hr.below hbel).at_ (by omega)
        obtain ⟨p, ⟨hc0, hc1, hc2, hc3, hc4, hc5, hc6, hc7⟩, hI⟩ := hcell k (by omega)
        have hki : (k : Int) < (n : Int) := by omega
        have HC := szOp_ft (nthO l k) p r wr hr0 (by omega) hI (hok k (by omega))
        have HA : Hid (FtO (nthO l k) → ∀ j, j < k + 1 → FtO (nthO l j)) := fun h j hj => by
          rcases Nat.lt_or_ge j k with h' | h'
          · exact hall j h'
          · obtain rfl : j = k := by omega
            exact h
        clear hcell hall hI
        generalize nthO l k = o at *
        go_wp2_with fail
        refine HC.mono ?_
        rintro e w1 ⟨r', rfl, hcase, hb1⟩
        have hbel1 := hbel.trans (hb1.mono hbel.size)
        clear hb1 hbel HC
        rcases hcase with rfl | ⟨q0, q1, q2⟩
        · go_wp2
          go_ret
          exact ⟨-1, rfl, .inl rfl, hbel1⟩
        · have hneg : ¬ r' < 0 := by omega
          have HM : Hid (_) := HA.out q2
          clear HA
          go_wp2
          go_roundw
          case rel => exact ⟨k + 1, r', by omega, by go_num, by trivial, q0, by omega, HM.out, hbel1⟩
          case measure => simp [intOf]; omega
      · have hki : ¬ (k : Int) < (n : Int) := by omega
        have HM : Hid (FtOs l) := ⟨by omega, fun i hi => hall i (by omega)⟩
        clear hall
        go_wp2
        go_ret
        exact ⟨r, rfl, .inr ⟨hr0, hr1, HM.out⟩, hbel⟩
theorem infoOp : (Tryz.prog.info? 38).map (fun i => (i.zero, i.size, i.bytes)) = some (some (.agg #[.int .i64 0, .string ByteArray.empty, .string ByteArray.empty, .slice none 0 0, .int .i64 0, .int .i64 0, .int .i64 0, .slice none 0 0]), 8, 112) := by kernel_rfl
abbrev zOp : Oc := ⟨.int .i64 0, .string ByteArray.empty, .string ByteArray.empty, .slice none 0 0, .int .i64 0, .int .i64 0, .int .i64 0, .slice none 0 0⟩
set_option maxHeartbeats 1600000 in
set_option maxRecDepth 100000 in
theorem toOpS_ft (s : SlQ) (l : List OpR) {lo : Nat} (w : World) (hs : IsOs lo w s l) (hf : FtOs l) :
    Calls Tryz.prog 27 #[slW s] w fun e w' => ∃ s', e = .returned (slW s') ∧ IsOs w.heap.size w' s' l ∧ Below w.heap.size w w' := by
  obtain ⟨a, n, cap⟩ := s
  obtain ⟨hl, hnc, hcm, hr⟩ := hs
  obtain ⟨hn, hft⟩ := hf
  dsimp only [slW] at *
  obtain ⟨i0, hi, hz0, hz1, hz2⟩ := info_parts infoOp
  go_enter Tryz.func27, Tryz.ntmps27
  go_wp2_with (at_make; refine wpList_make_full _ rfl _ _ 50 rfl w.heap.size 38 i0 (.agg #[.int .i64 0, .string ByteArray.empty, .string ByteArray.empty, .slice none 0 0, .int .i64 0, .int .i64 0, .int .i64 0, .slice none 0 0]) 8 Tryz.underlying50 hi hz0 hz1 .i64 .i64 _ _ n rfl rfl rfl rfl (by rw [hz2]; omega) (by unfold maxLen; omega) (Nat.le_refl _) ?_; intro w0 hown0 hgrow0)
  have hown0' : w0.ownsRow w.heap.size 38 8 (.slice (some ⟨w.heap.size, 0, none⟩) n n) n (oc (halfO zOp [] n)) := by
    rw [halfO_zero, ← made_octs]
    exact hown0
  have hbel0 : Below w.heap.size w w0 := (Below.refl _ _).grown hgrow0 (Nat.le_refl _) (by intro k hk; cases hk)
  clear hgrow0 hown0
  go_loopw [4] (fun i wr => ∃ (k : Nat) (ql : List Oc), k ≤ n ∧ i = .int .i64 k ∧ ql.length = k ∧ wr.ownsRow w.heap.size 38 8 (.slice (some ⟨w.heap.size, 0, none⟩) n n) n (oc (halfO zOp ql n)) ∧ (∀ j, j < k → ∃ p, nthOc ql j = opQ (nthO l j) p ∧ IsOp (w.heap.size + 1) wr p (nthO l j)) ∧ Below w.heap.size w wr)
    (fun i _ => n - (intOf i).toNat)
  case atStart => exact ⟨0, [], Nat.zero_le _, rfl, rfl, hown0', fun j hj => absurd hj (Nat.not_lt_zero _), hbel0⟩
  case round =>
    obtain ⟨k, ql, hk, rfl, hqk, hown, hall, hbel⟩ := hrel
    clear hown0' hbel0
    by_cases hkn : k < n
    · obtain ⟨b, off, rfl, -, hblt, hcell⟩ := (hr.below hbel).at_ (by omega)
      obtain ⟨p, ⟨hc0, hc1, hc2, hc3, hc4, hc5, hc6, hc7⟩, hI⟩ := hcell k (by omega)
      have hgl : w.heap.size < wr.heap.size := (hown.lt w.heap.size rfl).2
      have HC := toOp_ft (nthO l k) p wr hI (hft k (by omega))
      have hki : (k : Int) < (n : Int) := by omega
      have HL : Hid (∀ (w' : World) (p' : SlO) (_ : Near (w.heap.size + 1) wr w') (_ : IsOp (w.heap.size + 1) w' p' (nthO l k)), ∀ j, j < k + 1 → ∃ p, nthOc (ql ++ [opQ (nthO l k) p']) j = opQ (nthO l j) p ∧ IsOp (w.heap.size + 1) w' p (nthO l j)) := fun w' p' hN hI' j hj => by
        rcases Nat.lt_or_ge j k with h' | h'
        · obtain ⟨s, e, hI''⟩ := hall j h'
          refine ⟨s, ?_, hI''.near hN⟩
          rw [← e]; unfold nthOc; rw [List.getD_eq_getElem?_getD, List.getD_eq_getElem?_getD, List.getElem?_append_left (by omega)]
        · obtain rfl : j = k := by omega
          refine ⟨p', ?_, hI'⟩
          unfold nthOc; rw [List.getD_eq_getElem?_getD, List.getElem?_append_right (by omega), hqk, Nat.sub_self]; rfl
      have HFS : Hid (∀ p', oc ((halfO zOp ql n).set k (opQ (nthO l k) p')) = oc (halfO zOp (ql ++ [opQ (nthO l k) p']) n)) := fun p' => by
        rw [← hqk, halfO_set zOp ql n _ (by omega)]
      clear hcell hall hI
      generalize nthO l k = o at *
      obtain ⟨ok0, ox0, ot0, ou0, om0, of0, od0, ob0⟩ := o
      dsimp only at hc0 hc1 hc2 hc3 hc4 hc5 hc6 hc7 HL
      go_wp2_with fail
      refine HC.mono ?_
      rintro e w1 ⟨p', rfl, hI1, hb1⟩
      have hown1 := ownO_below hown hb1 (Nat.le_refl _)
      have hbel1 : Below w.heap.size w w1 := hbel.trans (hb1.mono hbel.size)
      have hhl : (halfO zOp ql n).length = n := halfO_len _ _ _ (by omega)
      obtain ⟨-, g0, g1, g2, g3, g4, g5, g6, g7⟩ := ownO_cells hown1 k (by omega)
      have z0 := hown1.frozenAt (k * 8)
      have z1 := hown1.frozenAt (k * 8 + 1)
      have z2 := hown1.frozenAt (k * 8 + 2)
      have z3 := hown1.frozenAt (k * 8 + 3)
      have z4 := hown1.frozenAt (k * 8 + 4)
      have z5 := hown1.frozenAt (k * 8 + 5)
      have z6 := hown1.frozenAt (k * 8 + 6)
      have z7 := hown1.frozenAt (k * 8 + 7)
      obtain ⟨hst0, -⟩ := hown1.stored (k * 8) (.int .i64 ok0)
      obtain ⟨hst1, -⟩ := hst0.stored (k * 8 + 1) (.string ox0)
      obtain ⟨hst2, -⟩ := hst1.stored (k * 8 + 2) (.string ot0)
      obtain ⟨hst3, -⟩ := hst2.stored (k * 8 + 3) (slW p'.1)
      obtain ⟨hst4, -⟩ := hst3.stored (k * 8 + 4) (.int .i64 om0)
      obtain ⟨hst5, -⟩ := hst4.stored (k * 8 + 5) (.int .i64 of0)
      obtain ⟨hst6, -⟩ := hst5.stored (k * 8 + 6) (.int .i64 od0)
      obtain ⟨hst7, -⟩ := hst6.stored (k * 8 + 7) (slW p'.2)
      rw [oc_set (halfO zOp ql n) k (opQ ⟨ok0, ox0, ot0, ou0, om0, of0, od0, ob0⟩ p') (by omega), HFS.out p'] at hst7
      have HN : Hid (Near (w.heap.size + 1) wr ((((((((w1.setCell ⟨w.heap.size, k * 8, none⟩ (.int .i64 ok0)).setCell ⟨w.heap.size, k * 8 + 1, none⟩ (.string ox0)).setCell ⟨w.heap.size, k * 8 + 2, none⟩ (.string ot0)).setCell ⟨w.heap.size, k * 8 + 3, none⟩ (slW p'.1)).setCell ⟨w.heap.size, k * 8 + 4, none⟩ (.int .i64 om0)).setCell ⟨w.heap.size, k * 8 + 5, none⟩ (.int .i64 of0)).setCell ⟨w.heap.size, k * 8 + 6, none⟩ (.int .i64 od0)).setCell ⟨w.heap.size, k * 8 + 7, none⟩ (slW p'.2)) ∧ Near (w.heap.size + 1) w1 ((((((((w1.setCell ⟨w.heap.size, k * 8, none⟩ (.int .i64 ok0)).setCell ⟨w.heap.size, k * 8 + 1, none⟩ (.string ox0)).setCell ⟨w.heap.size, k * 8 + 2, none⟩ (.string ot0)).setCell ⟨w.heap.size, k * 8 + 3, none⟩ (slW p'.1)).setCell ⟨w.heap.size, k * 8 + 4, none⟩ (.int .i64 om0)).setCell ⟨w.heap.size, k * 8 + 5, none⟩ (.int .i64 of0)).setCell ⟨w.heap.size, k * 8 + 6, none⟩ (.int .i64 od0)).setCell ⟨w.heap.size, k * 8 + 7, none⟩ (slW p'.2))) := by
        have h4 := ((((((((Near.set (w := w1) (g := w.heap.size) (j := k * 8) (lo := w.heap.size + 1) (.int .i64 ok0) (by omega)).trans (Near.set (g := w.heap.size) (j := k * 8 + 1) (.string ox0) (by omega))).trans (Near.set (g := w.heap.size) (j := k * 8 + 2) (.string ot0) (by omega))).trans (Near.set (g := w.heap.size) (j := k * 8 + 3) (slW p'.1) (by omega))).trans (Near.set (g := w.heap.size) (j := k * 8 + 4) (.int .i64 om0) (by omega))).trans (Near.set (g := w.heap.size) (j := k * 8 + 5) (.int .i64 of0) (by omega))).trans (Near.set (g := w.heap.size) (j := k * 8 + 6) (.int .i64 od0) (by omega))).trans (Near.set (g := w.heap.size) (j := k * 8 + 7) (slW p'.2) (by omega)))
        exact ⟨(Near.of_below hb1).trans h4, h4⟩
      have HX : Hid (_) := HL.out _ p' HN.out.1 ((hI1.near (HN.out.2.mono (by omega))).low (by omega))
      have HB2 : Hid (Below w.heap.size w ((((((((w1.setCell ⟨w.heap.size, k * 8, none⟩ (.int .i64 ok0)).setCell ⟨w.heap.size, k * 8 + 1, none⟩ (.string ox0)).setCell ⟨w.heap.size, k * 8 + 2, none⟩ (.string ot0)).setCell ⟨w.heap.size, k * 8 + 3, none⟩ (slW p'.1)).setCell ⟨w.heap.size, k * 8 + 4, none⟩ (.int .i64 om0)).setCell ⟨w.heap.size, k * 8 + 5, none⟩ (.int .i64 of0)).setCell ⟨w.heap.size, k * 8 + 6, none⟩ (.int .i64 od0)).setCell ⟨w.heap.size, k * 8 + 7, none⟩ (slW p'.2))) := ((((((((hbel1.setCell (by simp) _).setCell (by simp) _).setCell (by simp) _).setCell (by simp) _).setCell (by simp) _).setCell (by simp) _).setCell (by simp) _).setCell (by simp) _)
      have HO2 : Hid (_) := hst7
      generalize (nthOc (halfO zOp ql n) k) = y at *
      obtain ⟨y0, y1, y2, y3, y4, y5, y6, y7⟩ := y
      dsimp only at g0 g1 g2 g3 g4 g5 g6 g7
      clear hst0 hst1 hst2 hst3 hst4 hst5 hst6 hst7 hown1 hown hb1 HFS hbel HL HN HC hI1
      go_wp2
      go_roundw
      case rel => exact ⟨k + 1, _, by omega, by go_num, by simp [hqk], HO2.out, HX.out, HB2.out⟩
      case measure => simp [intOf]; omega
    · have hkk : k = n := by omega
      subst hkk
      have hki : ¬ (k : Int) < (k : Int) := by omega
      have HO : Hid (IsOs w.heap.size wr (some ⟨w.heap.size, 0, none⟩, k, k) l) := by
        refine ⟨hl, Nat.le_refl _, by dsimp only; unfold maxLen; omega, ?_⟩
        rcases Nat.eq_zero_or_pos l.length with h0 | h0
        · exact .inl (List.length_eq_zero_iff.1 h0)
        · refine .inr ⟨w.heap.size, 0, rfl, Nat.le_refl _, (hown.lt w.heap.size rfl).2, fun i hi => ?_⟩
          obtain ⟨s, e, hI⟩ := hall i (by omega)
          rw [← hqk, halfO_all] at hown
          obtain ⟨-, g0, g1, g2, g3, g4, g5, g6, g7⟩ := ownO_cells (cap := ql.length) hown i (by omega)
          rw [e] at g0 g1 g2 g3 g4 g5 g6 g7
          rw [Nat.zero_add]
          exact ⟨s, ⟨g0, g1, g2, g3, g4, g5, g6, g7⟩, hI.low (by omega)⟩
      clear hown hall
      go_wp2
      go_ret
      exact ⟨_, _, _, rfl, HO.out, hbel⟩
set_option maxHeartbeats 1600000 in
set_option maxRecDepth 100000 in
theorem eqOpS_ft (s s' : SlQ) (l : List OpR) {lo lo' : Nat} (w : World) (hs : IsOs lo w s l) (hs' : IsOs lo' w s' l) (hf : FtOs l) :
    Calls Tryz.prog 29 #[slW s, slW s'] w fun e w' => e = .returned (.bool true) ∧ Below w.heap.size w w' := by
  obtain ⟨a, n, cap⟩ := s
  obtain ⟨c, n', cap'⟩ := s'
  obtain ⟨hl, hnc, hcm, hr⟩ := hs
  obtain ⟨hl', hnc', hcm', hr'⟩ := hs'
  obtain ⟨hn, hft⟩ := hf
  dsimp only [slW] at *
  obtain rfl : n = n' := by omega
  go_enter Tryz.func29, Tryz.ntmps29
  go_wp2
  go_loopw [5] (fun i wr => ∃ k : Nat, k ≤ n ∧ i = .int .i64 k ∧ Below w.heap.size w wr) (fun i _ => n - (intOf i).toNat)
  case atStart => exact ⟨0, Nat.zero_le _, rfl, Below.refl _ _⟩
  case round =>
    obtain ⟨k, hk, rfl, hbel⟩ := hrel
    by_cases hkn : k < n
    · obtain ⟨b, off, rfl, -, hblt, hcell⟩ := (hr.below hbel).at_ (by omega)
      obtain ⟨d, off', rfl, -, hdlt, hdell⟩ := (hr'.below hbel).at_ (by omega)
      obtain ⟨p, ⟨hc0, hc1, hc2, hc3, hc4, hc5, hc6, hc7⟩, hI⟩ := hcell k (by omega)
      obtain ⟨q, ⟨hd0, hd1, hd2, hd3, hd4, hd5, hd6, hd7⟩, hI'⟩ := hdell k (by omega)
      have hki : (k : Int) < (n : Int) := by omega
      have hF := hft k (by omega)
      clear hcell hdell hr hr' hft
      generalize nthO l k = o at *
      obtain ⟨ok0, ox0, ot0, ou0, om0, of0, od0, ob0⟩ := o
      dsimp only at hc0 hc1 hc2 hc3 hc4 hc5 hc6 hc7 hd0 hd1 hd2 hd3 hd4 hd5 hd6 hd7
      go_wp2_with fail
      refine wp_region_held_drew (S := fun w' => (w'.cell? ⟨b, off + k * 8, none⟩ = some (.int .i64 ok0) ∧ w'.cell? ⟨b, off + k * 8 + 1, none⟩ = some (.string ox0) ∧ w'.cell? ⟨b, off + k * 8 + 2, none⟩ = some (.string ot0) ∧ w'.cell? ⟨b, off + k * 8 + 3, none⟩ = some (slW p.1) ∧ w'.cell? ⟨b, off + k * 8 + 4, none⟩ = some (.int .i64 om0) ∧ w'.cell? ⟨b, off + k * 8 + 5, none⟩ = some (.int .i64 of0) ∧ w'.cell? ⟨b, off + k * 8 + 6, none⟩ = some (.int .i64 od0) ∧ w'.cell? ⟨b, off + k * 8 + 7, none⟩ = some (slW p.2)) ∧ (w'.cell? ⟨d, off' + k * 8, none⟩ = some (.int .i64 ok0) ∧ w'.cell? ⟨d, off' + k * 8 + 1, none⟩ = some (.string ox0) ∧ w'.cell? ⟨d, off' + k * 8 + 2, none⟩ = some (.string ot0) ∧ w'.cell? ⟨d, off' + k * 8 + 3, none⟩ = some (slW q.1) ∧ w'.cell? ⟨d, off' + k * 8 + 4, none⟩ = some (.int .i64 om0) ∧ w'.cell? ⟨d, off' + k * 8 + 5, none⟩ = some (.int .i64 of0) ∧ w'.cell? ⟨d, off' + k * 8 + 6, none⟩ = some (.int .i64 od0) ∧ w'.cell? ⟨d, off' + k * 8 + 7, none⟩ = some (slW q.2))) (by kernel_rfl) ?hS1 (fun hHeld => ?_)
      case hS1 => exact ⟨⟨hc0, hc1, hc2, hc3, hc4, hc5, hc6, hc7⟩, ⟨hd0, hd1, hd2, hd3, hd4, hd5, hd6, hd7⟩⟩
      refine wpAnyH_take (i := 0) (v := ?_) rfl (by kernel_rfl) (by kernel_rfl) (by kernel_rfl) (fun _ _ _ h => h) (Or.inl ⟨by rfl, ?hy0⟩) (by assumption) ?ty0
      case hy0 => (intro w' hSw; (try dsimp only at hSw); obtain ⟨⟨e0, e1, e2, e3, e4, e5, e6, e7⟩, ⟨d0, d1, d2, d3, d4, d5, d6, d7⟩⟩ := hSw; go_simp; all_goals with_reducible rfl)
      simp only [Act.put, List.getElem_toArray, List.getElem_cons_zero, List.setIfInBounds_toArray, List.set_cons_zero, List.set_cons_succ]
      refine wpAnyH_take (i := 1) (v := ?_) rfl (by kernel_rfl) (by kernel_rfl) (by kernel_rfl) (fun _ _ _ h => h) (Or.inl ⟨by rfl, ?hy1⟩) (by assumption) ?ty1
      case hy1 => (intro w' hSw; (try dsimp only at hSw); obtain ⟨⟨e0, e1, e2, e3, e4, e5, e6, e7⟩, ⟨d0, d1, d2, d3, d4, d5, d6, d7⟩⟩ := hSw; go_simp; all_goals with_reducible rfl)
      simp only [Act.put, List.getElem_toArray, List.getElem_cons_zero, List.getElem_cons_succ, List.setIfInBounds_toArray, List.set_cons_zero, List.set_cons_succ]
      refine wpAnyH_take (i := 2) (v := ?_) rfl (by kernel_rfl) (by kernel_rfl) (by kernel_rfl) (fun _ _ _ h => h) (Or.inl ⟨by rfl, ?hy2⟩) (by assumption) ?ty2
      case hy2 => (intro w' hSw; (try dsimp only at hSw); obtain ⟨⟨e0, e1, e2, e3, e4, e5, e6, e7⟩, ⟨d0, d1, d2, d3, d4, d5, d6, d7⟩⟩ := hSw; go_simp; all_goals with_reducible rfl)
      simp only [Act.put, List.getElem_toArray, List.getElem_cons_zero, List.getElem_cons_succ, List.setIfInBounds_toArray, List.set_cons_zero, List.set_cons_succ]
      refine wpAnyH_take (i := 3) (v := ?_) rfl (by kernel_rfl) (by kernel_rfl) (by kernel_rfl) (fun _ _ _ h => h) (Or.inl ⟨by rfl, ?hy3⟩) (by assumption) ?ty3
      case hy3 => (intro w' hSw; (try dsimp only at hSw); obtain ⟨⟨e0, e1, e2, e3, e4, e5, e6, e7⟩, ⟨d0, d1, d2, d3, d4, d5, d6, d7⟩⟩ := hSw; go_simp; all_goals with_reducible rfl)
      simp only [Act.put, List.getElem_toArray, List.getElem_cons_zero, List.getElem_cons_succ, List.setIfInBounds_toArray, List.set_cons_zero, List.set_cons_succ]
      refine wpAnyH_take (i := 4) (v := ?_) rfl (by kernel_rfl) (by kernel_rfl) (by kernel_rfl) (fun _ _ _ h => h) (Or.inl ⟨by rfl, ?hy4⟩) (by assumption) ?ty4
      case hy4 => (intro w' hSw; (try dsimp only at hSw); obtain ⟨⟨e0, e1, e2, e3, e4, e5, e6, e7⟩, ⟨d0, d1, d2, d3, d4, d5, d6, d7⟩⟩ := hSw; go_simp; all_goals with_reducible rfl)
      simp only [Act.put, List.getElem_toArray, List.getElem_cons_zero, List.getElem_cons_succ, List.setIfInBounds_toArray, List.set_cons_zero, List.set_cons_succ]
      refine wpAnyH_take (i := 5) (v := ?_) rfl (by kernel_rfl) (by kernel_rfl) (by kernel_rfl) (fun _ _ _ h => h) (Or.inl ⟨by rfl, ?hy5⟩) (by assumption) ?ty5
      case hy5 => (intro w' hSw; (try dsimp only at hSw); obtain ⟨⟨e0, e1, e2, e3, e4, e5, e6, e7⟩, ⟨d0, d1, d2, d3, d4, d5, d6, d7⟩⟩ := hSw; go_simp; all_goals with_reducible rfl)
      simp only [Act.put, List.getElem_toArray, List.getElem_cons_zero, List.getElem_cons_succ, List.setIfInBounds_toArray, List.set_cons_zero, List.set_cons_succ]
      refine wpAnyH_take (i := 6) (v := ?_) rfl (by kernel_rfl) (by kernel_rfl) (by kernel_rfl) (fun _ _ _ h => h) (Or.inl ⟨by rfl, ?hy6⟩) (by assumption) ?ty6
      case hy6 => (intro w' hSw; (try dsimp only at hSw); obtain ⟨⟨e0, e1, e2, e3, e4, e5, e6, e7⟩, ⟨d0, d1, d2, d3, d4, d5, d6, d7⟩⟩ := hSw; go_simp; all_goals with_reducible rfl)
      simp only [Act.put, List.getElem_toArray, List.getElem_cons_zero, List.getElem_cons_succ, List.setIfInBounds_toArray, List.set_cons_zero, List.set_cons_succ]
      refine wpAnyH_take (i := 7) (v := ?_) rfl (by kernel_rfl) (by kernel_rfl) (by kernel_rfl) (fun _ _ _ h => h) (Or.inl ⟨by rfl, ?hy7⟩) (by assumption) ?ty7
      case hy7 => (intro w' hSw; (try dsimp only at hSw); obtain ⟨⟨e0, e1, e2, e3, e4, e5, e6, e7⟩, ⟨d0, d1, d2, d3, d4, d5, d6, d7⟩⟩ := hSw; go_simp; all_goals with_reducible rfl)
      simp only [Act.put, List.getElem_toArray, List.getElem_cons_zero, List.getElem_cons_succ, List.setIfInBounds_toArray, List.set_cons_zero, List.set_cons_succ]
      refine wpAnyH_ready (rs := [8]) (by kernel_rfl) (by simp) ?_
      refine AllReadyH.cons rfl (fun K hK => ?_) AllReadyH.nil
      go_simp
      refine (eqOp_ft ⟨ok0, ox0, ot0, ou0, om0, of0, od0, ob0⟩ p q _ (hI.below (Below.refl _ _).drew) (hI'.below (Below.refl _ _).drew) hF).mono ?_
      rintro e w1 ⟨rfl, hbx⟩
      have HW : Hid (Below wr.heap.size wr w1) := (Below.refl _ _).drew.trans hbx
      have hsS : (w1.cell? ⟨b, off + k * 8, none⟩ = some (.int .i64 ok0) ∧ w1.cell? ⟨b, off + k * 8 + 1, none⟩ = some (.string ox0) ∧ w1.cell? ⟨b, off + k * 8 + 2, none⟩ = some (.string ot0) ∧ w1.cell? ⟨b, off + k * 8 + 3, none⟩ = some (slW p.1) ∧ w1.cell? ⟨b, off + k * 8 + 4, none⟩ = some (.int .i64 om0) ∧ w1.cell? ⟨b, off + k * 8 + 5, none⟩ = some (.int .i64 of0) ∧ w1.cell? ⟨b, off + k * 8 + 6, none⟩ = some (.int .i64 od0) ∧ w1.cell? ⟨b, off + k * 8 + 7, none⟩ = some (slW p.2)) ∧ (w1.cell? ⟨d, off' + k * 8, none⟩ = some (.int .i64 ok0) ∧ w1.cell? ⟨d, off' + k * 8 + 1, none⟩ = some (.string ox0) ∧ w1.cell? ⟨d, off' + k * 8 + 2, none⟩ = some (.string ot0) ∧ w1.cell? ⟨d, off' + k * 8 + 3, none⟩ = some (slW q.1) ∧ w1.cell? ⟨d, off' + k * 8 + 4, none⟩ = some (.int .i64 om0) ∧ w1.cell? ⟨d, off' + k * 8 + 5, none⟩ = some (.int .i64 of0) ∧ w1.cell? ⟨d, off' + k * 8 + 6, none⟩ = some (.int .i64 od0) ∧ w1.cell? ⟨d, off' + k * 8 + 7, none⟩ = some (slW q.2)) :=
        ⟨⟨(HW.out.cell (p := ⟨b, off + k * 8, none⟩) hblt).trans hc0, (HW.out.cell (p := ⟨b, off + k * 8 + 1, none⟩) hblt).trans hc1, (HW.out.cell (p := ⟨b, off + k * 8 + 2, none⟩) hblt).trans hc2, (HW.out.cell (p := ⟨b, off + k * 8 + 3, none⟩) hblt).trans hc3, (HW.out.cell (p := ⟨b, off + k * 8 + 4, none⟩) hblt).trans hc4, (HW.out.cell (p := ⟨b, off + k * 8 + 5, none⟩) hblt).trans hc5, (HW.out.cell (p := ⟨b, off + k * 8 + 6, none⟩) hblt).trans hc6, (HW.out.cell (p := ⟨b, off + k * 8 + 7, none⟩) hblt).trans hc7⟩, ⟨(HW.out.cell (p := ⟨d, off' + k * 8, none⟩) hdlt).trans hd0, (HW.out.cell (p := ⟨d, off' + k * 8 + 1, none⟩) hdlt).trans hd1, (HW.out.cell (p := ⟨d, off' + k * 8 + 2, none⟩) hdlt).trans hd2, (HW.out.cell (p := ⟨d, off' + k * 8 + 3, none⟩) hdlt).trans hd3, (HW.out.cell (p := ⟨d, off' + k * 8 + 4, none⟩) hdlt).trans hd4, (HW.out.cell (p := ⟨d, off' + k * 8 + 5, none⟩) hdlt).trans hd5, (HW.out.cell (p := ⟨d, off' + k * 8 + 6, none⟩) hdlt).trans hd6, (HW.out.cell (p := ⟨d, off' + k * 8 + 7, none⟩) hdlt).trans hd7⟩⟩
      refine hK.out _ _ hsS (fun hHeld => ?_)
      clear hK K
      refine wpAnyH_take (i := 9) (v := ?_) rfl (by kernel_rfl) (by kernel_rfl) (by kernel_rfl) (fun _ _ _ h => h) (Or.inl ⟨by rfl, ?hy20⟩) (by assumption) ?ty20
      case hy20 => (intro w' hSw; (try dsimp only at hSw); go_simp; all_goals with_reducible rfl)
      simp only [Act.put, List.getElem_toArray, List.getElem_cons_zero, List.getElem_cons_succ, List.setIfInBounds_toArray, List.set_cons_zero, List.set_cons_succ]
      refine wpAnyH_done (by kernel_rfl) ?_ _
      have hbel2 := hbel.trans (HW.out.mono hbel.size)
      clear hHeld hsS hbx HW
      go_wp2
      go_roundw
      case rel => exact ⟨k + 1, by omega, by go_num, hbel2⟩
      case measure => simp [intOf]; omega
    · have hki : ¬ (k : Int) < (n : Int) := by omega
      go_wp2
      go_ret
      exact ⟨rfl, hbel⟩
end Go.Proofs.YtejbbnpgghpgaaaGreatDoor
