/- The laws' helpers over slices of terms: their size, a copy, whether two are the same; no conditions beyond those that each fact names · Commands: the laws' helpers: a command's size, a copy, whether two are the same; no conditions beyond those that each fact names. -/
import Derived.Test.YtjogclofjollnaaGreatDoorTms
import Derived.Test.YtjogclofjollnaaGreatDoorCmo
namespace Go.Proofs.YtjogclofjollnaaGreatDoor
open Go.RowKit
def FtUs (l : List TmR) : Prop := l.length ≤ 1048576 ∧ ∀ i, i < l.length → FtU (nthTm l i)
set_option maxHeartbeats 1600000 in
set_option maxRecDepth 100000 in
theorem szTermS_ft (s : SlQ) (l : List TmR) (left : Int) {lo : Nat} (w : World) (h0 : 0 ≤ left) (h1 : left ≤ 1048576) (hs : IsTs lo w s l) :
  Calls Tryz.prog 13 #[slW s, .int .i64 left] w fun e w' => SzQ left (FtUs l) w e w' := by
 obtain ⟨a, n, cap⟩ := s
 obtain ⟨hl, hnc, hcm, hr⟩ := hs
 dsimp only [slW] at *
 unfold maxLen at hcm
 by_cases c1 : left - (n : Int) < 0
 ·go_enter Tryz.func13, Tryz.ntmps13
  go_wp2
  go_ret
  exact ⟨-1, rfl, .inl rfl, Below.refl _ _⟩
 ·go_enter Tryz.func13, Tryz.ntmps13
  go_wp2
  go_loopw [1, 5] (fun q i wr => ∃ (k : Nat) (r : Int), k ≤ n ∧ i = .int .i64 k ∧ q = .int .i64 r ∧ 0 ≤ r ∧ r ≤ left ∧ (∀ j, j < k → FtU (nthTm l j)) ∧ Below w.heap.size w wr)
   (fun _ i _ => n - (intOf i).toNat)
  case atStart => exact ⟨0, _, Nat.zero_le _, rfl, rfl, by omega, by omega, fun j hj => absurd hj (Nat.not_lt_zero _), Below.refl _ _⟩
  case round =>
   obtain ⟨k, r, hk, rfl, rfl, hr0, hr1, hall, hbel⟩ := hrel
   by_cases hkn : k < n
   ·obtain ⟨b, off, rfl, -, hblt, hcell⟩ := (hr.below hbel).at_ (by omega)
    obtain ⟨p, ⟨hc0, hc1, hc2, hc3, hc4, hc5⟩, hI⟩ := hcell k (by omega)
    have hki : (k : Int) < (n : Int) := by omega
    have HC := szTerm_ft (nthTm l k) p r wr hr0 (by omega) hI
    have HA : Hid (FtU (nthTm l k) → ∀ j, j < k + 1 → FtU (nthTm l j)) := fun h j hj => by
     rcases Nat.lt_or_ge j k with h' | h'
     ·exact hall j h'
     ·obtain rfl : j = k := by omega
      exact h
    clear hcell hall hI
    generalize nthTm l k = o at *
    go_wp2_with fail
    refine HC.mono ?_
    rintro e w1 ⟨r', rfl, hcase, hb1⟩
    have hbel1 := hbel.trans (hb1.mono hbel.size)
    clear hb1 hbel HC
    rcases hcase with rfl | ⟨q0, q1, q2⟩
    ·go_wp2
     go_ret
     exact ⟨-1, rfl, .inl rfl, hbel1⟩
    ·have hneg : ¬ r' < 0 := by omega
     have HM : Hid (_) := HA.out q2
     clear HA
     go_wp2
     go_roundw
     case rel => exact ⟨k + 1, r', by omega, by go_num, by trivial, q0, by omega, HM.out, hbel1⟩
     case measure => simp [intOf]; omega
   ·have hki : ¬ (k : Int) < (n : Int) := by omega
    have HM : Hid (FtUs l) := ⟨by omega, fun i hi => hall i (by omega)⟩
    clear hall
    go_wp2
    go_ret
    exact ⟨r, rfl, .inr ⟨hr0, hr1, HM.out⟩, hbel⟩
theorem infoTm : (Tryz.prog.info? 74).map (fun i => (i.zero, i.size, i.bytes)) = some (some (.agg #[.int .i64 0, .int .i64 0, .slice none 0 0, .slice none 0 0, .int .i64 0, .int .i64 0]), 6, 80) := by kernel_rfl
abbrev zTm : Uc := ⟨.int .i64 0, .int .i64 0, .slice none 0 0, .slice none 0 0, .int .i64 0, .int .i64 0⟩
set_option maxHeartbeats 1600000 in
set_option maxRecDepth 100000 in
theorem toTermS_ft (s : SlQ) (l : List TmR) {lo : Nat} (w : World) (hs : IsTs lo w s l) (hf : FtUs l) :
  Calls Tryz.prog 19 #[slW s] w fun e w' => ∃ s', e = .returned (slW s') ∧ IsTs w.heap.size w' s' l ∧ Below w.heap.size w w' := by
 obtain ⟨a, n, cap⟩ := s
 obtain ⟨hl, hnc, hcm, hr⟩ := hs
 obtain ⟨hn, hft⟩ := hf
 dsimp only [slW] at *
 obtain ⟨i0, hi, hz0, hz1, hz2⟩ := info_parts infoTm
 go_enter Tryz.func19, Tryz.ntmps19
 go_wp2_with (at_make; refine wpList_make_full _ rfl _ _ 33 rfl w.heap.size 74 i0 (.agg #[.int .i64 0, .int .i64 0, .slice none 0 0, .slice none 0 0, .int .i64 0, .int .i64 0]) 6 Tryz.underlying33 hi hz0 hz1 .i64 .i64 _ _ n rfl rfl rfl rfl (by rw [hz2]; omega) (by unfold maxLen; omega) (Nat.le_refl _) ?_; intro w0 hown0 hgrow0)
 have hown0' : w0.ownsRow w.heap.size 74 6 (.slice (some ⟨w.heap.size, 0, none⟩) n n) n (uc (halfU zTm [] n)) := by
  rw [halfU_zero, ← made_hexs]
  exact hown0
 have hbel0 : Below w.heap.size w w0 := (Below.refl _ _).grown hgrow0 (Nat.le_refl _) (by intro k hk; cases hk)
 clear hgrow0 hown0
 go_loopw [4] (fun i wr => ∃ (k : Nat) (ql : List Uc), k ≤ n ∧ i = .int .i64 k ∧ ql.length = k ∧ wr.ownsRow w.heap.size 74 6 (.slice (some ⟨w.heap.size, 0, none⟩) n n) n (uc (halfU zTm ql n)) ∧ (∀ j, j < k → ∃ p, nthUc ql j = tmQ (nthTm l j) p ∧ IsTm (w.heap.size + 1) wr p (nthTm l j)) ∧ Below w.heap.size w wr)
  (fun i _ => n - (intOf i).toNat)
 case atStart => exact ⟨0, [], Nat.zero_le _, rfl, rfl, hown0', fun j hj => absurd hj (Nat.not_lt_zero _), hbel0⟩
 case round =>
  obtain ⟨k, ql, hk, rfl, hqk, hown, hall, hbel⟩ := hrel
  clear hown0' hbel0
  by_cases hkn : k < n
  ·obtain ⟨b, off, rfl, -, hblt, hcell⟩ := (hr.below hbel).at_ (by omega)
   obtain ⟨p, ⟨hc0, hc1, hc2, hc3, hc4, hc5⟩, hI⟩ := hcell k (by omega)
   have hgl : w.heap.size < wr.heap.size := (hown.lt w.heap.size rfl).2
   have HC := toTerm_ft (nthTm l k) p wr hI (hft k (by omega))
   have hki : (k : Int) < (n : Int) := by omega
   have HL : Hid (∀ (w' : World) (p' : SlT) (_ : Near (w.heap.size + 1) wr w') (_ : IsTm (w.heap.size + 1) w' p' (nthTm l k)), ∀ j, j < k + 1 → ∃ p, nthUc (ql ++ [tmQ (nthTm l k) p']) j = tmQ (nthTm l j) p ∧ IsTm (w.heap.size + 1) w' p (nthTm l j)) := fun w' p' hN hI' j hj => by
    rcases Nat.lt_or_ge j k with h' | h'
    ·obtain ⟨s, e, hI''⟩ := hall j h'
     refine ⟨s, ?_, hI''.near hN⟩
     rw [← e]; unfold nthUc; rw [List.getD_eq_getElem?_getD, List.getD_eq_getElem?_getD, List.getElem?_append_left (by omega)]
    ·obtain rfl : j = k := by omega
     refine ⟨p', ?_, hI'⟩
     unfold nthUc; rw [List.getD_eq_getElem?_getD, List.getElem?_append_right (by omega), hqk, Nat.sub_self]; rfl
   have HFS : Hid (∀ p', uc ((halfU zTm ql n).set k (tmQ (nthTm l k) p')) = uc (halfU zTm (ql ++ [tmQ (nthTm l k) p']) n)) := fun p' => by
    rw [← hqk, halfU_set zTm ql n _ (by omega)]
   clear hcell hall hI
   generalize nthTm l k = o at *
   obtain ⟨ok0, on0, oc0, oy0, ol0, or0⟩ := o
   dsimp only at hc0 hc1 hc2 hc3 hc4 hc5 HL
   go_wp2_with fail
   refine HC.mono ?_
   rintro e w1 ⟨p', rfl, hI1, hb1⟩
   have hown1 := ownU_below hown hb1 (Nat.le_refl _)
   have hbel1 : Below w.heap.size w w1 := hbel.trans (hb1.mono hbel.size)
   have hhl : (halfU zTm ql n).length = n := halfU_len _ _ _ (by omega)
   obtain ⟨-, g0, g1, g2, g3, g4, g5⟩ := ownU_cells hown1 k (by omega)
   have z0 := hown1.frozenAt (k * 6)
   have z1 := hown1.frozenAt (k * 6 + 1)
   have z2 := hown1.frozenAt (k * 6 + 2)
   have z3 := hown1.frozenAt (k * 6 + 3)
   have z4 := hown1.frozenAt (k * 6 + 4)
   have z5 := hown1.frozenAt (k * 6 + 5)
   obtain ⟨hst0, -⟩ := hown1.stored (k * 6) (.int .i64 ok0)
   obtain ⟨hst1, -⟩ := hst0.stored (k * 6 + 1) (.int .i64 on0)
   obtain ⟨hst2, -⟩ := hst1.stored (k * 6 + 2) (slW p'.1)
   obtain ⟨hst3, -⟩ := hst2.stored (k * 6 + 3) (slW p'.2)
   obtain ⟨hst4, -⟩ := hst3.stored (k * 6 + 4) (.int .i64 ol0)
   obtain ⟨hst5, -⟩ := hst4.stored (k * 6 + 5) (.int .i64 or0)
   rw [uc_set (halfU zTm ql n) k (tmQ ⟨ok0, on0, oc0, oy0, ol0, or0⟩ p') (by omega), HFS.out p'] at hst5
   have HN : Hid (Near (w.heap.size + 1) wr ((((((w1.setCell ⟨w.heap.size, k * 6, none⟩ (.int .i64 ok0)).setCell ⟨w.heap.size, k * 6 + 1, none⟩ (.int .i64 on0)).setCell ⟨w.heap.size, k * 6 + 2, none⟩ (slW p'.1)).setCell ⟨w.heap.size, k * 6 + 3, none⟩ (slW p'.2)).setCell ⟨w.heap.size, k * 6 + 4, none⟩ (.int .i64 ol0)).setCell ⟨w.heap.size, k * 6 + 5, none⟩ (.int .i64 or0)) ∧ Near (w.heap.size + 1) w1 ((((((w1.setCell ⟨w.heap.size, k * 6, none⟩ (.int .i64 ok0)).setCell ⟨w.heap.size, k * 6 + 1, none⟩ (.int .i64 on0)).setCell ⟨w.heap.size, k * 6 + 2, none⟩ (slW p'.1)).setCell ⟨w.heap.size, k * 6 + 3, none⟩ (slW p'.2)).setCell ⟨w.heap.size, k * 6 + 4, none⟩ (.int .i64 ol0)).setCell ⟨w.heap.size, k * 6 + 5, none⟩ (.int .i64 or0))) := by
    have h4 := ((((((Near.set (w := w1) (g := w.heap.size) (j := k * 6) (lo := w.heap.size + 1) (.int .i64 ok0) (by omega)).trans (Near.set (g := w.heap.size) (j := k * 6 + 1) (.int .i64 on0) (by omega))).trans (Near.set (g := w.heap.size) (j := k * 6 + 2) (slW p'.1) (by omega))).trans (Near.set (g := w.heap.size) (j := k * 6 + 3) (slW p'.2) (by omega))).trans (Near.set (g := w.heap.size) (j := k * 6 + 4) (.int .i64 ol0) (by omega))).trans (Near.set (g := w.heap.size) (j := k * 6 + 5) (.int .i64 or0) (by omega)))
    exact ⟨(Near.of_below hb1).trans h4, h4⟩
   have HX : Hid (_) := HL.out _ p' HN.out.1 ((hI1.near (HN.out.2.mono (by omega))).low (by omega))
   have HB2 : Hid (Below w.heap.size w ((((((w1.setCell ⟨w.heap.size, k * 6, none⟩ (.int .i64 ok0)).setCell ⟨w.heap.size, k * 6 + 1, none⟩ (.int .i64 on0)).setCell ⟨w.heap.size, k * 6 + 2, none⟩ (slW p'.1)).setCell ⟨w.heap.size, k * 6 + 3, none⟩ (slW p'.2)).setCell ⟨w.heap.size, k * 6 + 4, none⟩ (.int .i64 ol0)).setCell ⟨w.heap.size, k * 6 + 5, none⟩ (.int .i64 or0))) := ((((((hbel1.setCell (by simp) _).setCell (by simp) _).setCell (by simp) _).setCell (by simp) _).setCell (by simp) _).setCell (by simp) _)
   have HO2 : Hid (_) := hst5
   generalize (nthUc (halfU zTm ql n) k) = y at *
   obtain ⟨y0, y1, y2, y3, y4, y5⟩ := y
   dsimp only at g0 g1 g2 g3 g4 g5
   clear hst0 hst1 hst2 hst3 hst4 hst5 hown1 hown hb1 HFS hbel HL HN HC hI1
   go_wp2
   go_roundw
   case rel => exact ⟨k + 1, _, by omega, by go_num, by simp [hqk], HO2.out, HX.out, HB2.out⟩
   case measure => simp [intOf]; omega
  ·have hkk : k = n := by omega
   subst hkk
   have hki : ¬ (k : Int) < (k : Int) := by omega
   have HO : Hid (IsTs w.heap.size wr (some ⟨w.heap.size, 0, none⟩, k, k) l) := by
    refine ⟨hl, Nat.le_refl _, by dsimp only; unfold maxLen; omega, ?_⟩
    rcases Nat.eq_zero_or_pos l.length with h0 | h0
    ·exact .inl (List.length_eq_zero_iff.1 h0)
    ·refine .inr ⟨w.heap.size, 0, rfl, Nat.le_refl _, (hown.lt w.heap.size rfl).2, fun i hi => ?_⟩
     obtain ⟨s, e, hI⟩ := hall i (by omega)
     rw [← hqk, halfU_all] at hown
     obtain ⟨-, g0, g1, g2, g3, g4, g5⟩ := ownU_cells (cap := ql.length) hown i (by omega)
     rw [e] at g0 g1 g2 g3 g4 g5
     rw [Nat.zero_add]
     exact ⟨s, ⟨g0, g1, g2, g3, g4, g5⟩, hI.low (by omega)⟩
   clear hown hall
   go_wp2
   go_ret
   exact ⟨_, _, _, rfl, HO.out, hbel⟩
set_option maxHeartbeats 1600000 in
set_option maxRecDepth 100000 in
theorem eqTermS_ft (s s' : SlQ) (l : List TmR) {lo lo' : Nat} (w : World) (hs : IsTs lo w s l) (hs' : IsTs lo' w s' l) (hf : FtUs l) :
  Calls Tryz.prog 25 #[slW s, slW s'] w fun e w' => e = .returned (.bool true) ∧ Below w.heap.size w w' := by
 obtain ⟨a, n, cap⟩ := s
 obtain ⟨c, n', cap'⟩ := s'
 obtain ⟨hl, hnc, hcm, hr⟩ := hs
 obtain ⟨hl', hnc', hcm', hr'⟩ := hs'
 obtain ⟨hn, hft⟩ := hf
 dsimp only [slW] at *
 obtain rfl : n = n' := by omega
 go_enter Tryz.func25, Tryz.ntmps25
 go_wp2
 go_loopw [5] (fun i wr => ∃ k : Nat, k ≤ n ∧ i = .int .i64 k ∧ Below w.heap.size w wr) (fun i _ => n - (intOf i).toNat)
 case atStart => exact ⟨0, Nat.zero_le _, rfl, Below.refl _ _⟩
 case round =>
  obtain ⟨k, hk, rfl, hbel⟩ := hrel
  by_cases hkn : k < n
  ·obtain ⟨b, off, rfl, -, hblt, hcell⟩ := (hr.below hbel).at_ (by omega)
   obtain ⟨d, off', rfl, -, hdlt, hdell⟩ := (hr'.below hbel).at_ (by omega)
   obtain ⟨p, ⟨hc0, hc1, hc2, hc3, hc4, hc5⟩, hI⟩ := hcell k (by omega)
   obtain ⟨q, ⟨hd0, hd1, hd2, hd3, hd4, hd5⟩, hI'⟩ := hdell k (by omega)
   have hki : (k : Int) < (n : Int) := by omega
   have hF := hft k (by omega)
   clear hcell hdell hr hr' hft
   generalize nthTm l k = o at *
   obtain ⟨ok0, on0, oc0, oy0, ol0, or0⟩ := o
   dsimp only at hc0 hc1 hc2 hc3 hc4 hc5 hd0 hd1 hd2 hd3 hd4 hd5
   go_wp2_with fail
   refine wp_region_held_drew (S := fun w' => (w'.cell? ⟨b, off + k * 6, none⟩ = some (.int .i64 ok0) ∧ w'.cell? ⟨b, off + k * 6 + 1, none⟩ = some (.int .i64 on0) ∧ w'.cell? ⟨b, off + k * 6 + 2, none⟩ = some (slW p.1) ∧ w'.cell? ⟨b, off + k * 6 + 3, none⟩ = some (slW p.2) ∧ w'.cell? ⟨b, off + k * 6 + 4, none⟩ = some (.int .i64 ol0) ∧ w'.cell? ⟨b, off + k * 6 + 5, none⟩ = some (.int .i64 or0)) ∧ (w'.cell? ⟨d, off' + k * 6, none⟩ = some (.int .i64 ok0) ∧ w'.cell? ⟨d, off' + k * 6 + 1, none⟩ = some (.int .i64 on0) ∧ w'.cell? ⟨d, off' + k * 6 + 2, none⟩ = some (slW q.1) ∧ w'.cell? ⟨d, off' + k * 6 + 3, none⟩ = some (slW q.2) ∧ w'.cell? ⟨d, off' + k * 6 + 4, none⟩ = some (.int .i64 ol0) ∧ w'.cell? ⟨d, off' + k * 6 + 5, none⟩ = some (.int .i64 or0))) (by kernel_rfl) ?hS1 (fun hHeld => ?_)
   case hS1 => exact ⟨⟨hc0, hc1, hc2, hc3, hc4, hc5⟩, ⟨hd0, hd1, hd2, hd3, hd4, hd5⟩⟩
   refine wpAnyH_take (i := 0) (v := ?_) rfl (by kernel_rfl) (by kernel_rfl) (by kernel_rfl) (fun _ _ _ h => h) (Or.inl ⟨by rfl, ?hy0⟩) (by assumption) ?ty0
   case hy0 => (intro w' hSw; (try dsimp only at hSw); obtain ⟨⟨e0, e1, e2, e3, e4, e5⟩, ⟨d0, d1, d2, d3, d4, d5⟩⟩ := hSw; go_simp; all_goals with_reducible rfl)
   simp only [Act.put, List.getElem_toArray, List.getElem_cons_zero, List.setIfInBounds_toArray, List.set_cons_zero, List.set_cons_succ]
   refine wpAnyH_take (i := 1) (v := ?_) rfl (by kernel_rfl) (by kernel_rfl) (by kernel_rfl) (fun _ _ _ h => h) (Or.inl ⟨by rfl, ?hy1⟩) (by assumption) ?ty1
   case hy1 => (intro w' hSw; (try dsimp only at hSw); obtain ⟨⟨e0, e1, e2, e3, e4, e5⟩, ⟨d0, d1, d2, d3, d4, d5⟩⟩ := hSw; go_simp; all_goals with_reducible rfl)
   simp only [Act.put, List.getElem_toArray, List.getElem_cons_zero, List.getElem_cons_succ, List.setIfInBounds_toArray, List.set_cons_zero, List.set_cons_succ]
   refine wpAnyH_take (i := 2) (v := ?_) rfl (by kernel_rfl) (by kernel_rfl) (by kernel_rfl) (fun _ _ _ h => h) (Or.inl ⟨by rfl, ?hy2⟩) (by assumption) ?ty2
   case hy2 => (intro w' hSw; (try dsimp only at hSw); obtain ⟨⟨e0, e1, e2, e3, e4, e5⟩, ⟨d0, d1, d2, d3, d4, d5⟩⟩ := hSw; go_simp; all_goals with_reducible rfl)
   simp only [Act.put, List.getElem_toArray, List.getElem_cons_zero, List.getElem_cons_succ, List.setIfInBounds_toArray, List.set_cons_zero, List.set_cons_succ]
   refine wpAnyH_take (i := 3) (v := ?_) rfl (by kernel_rfl) (by kernel_rfl) (by kernel_rfl) (fun _ _ _ h => h) (Or.inl ⟨by rfl, ?hy3⟩) (by assumption) ?ty3
   case hy3 => (intro w' hSw; (try dsimp only at hSw); obtain ⟨⟨e0, e1, e2, e3, e4, e5⟩, ⟨d0, d1, d2, d3, d4, d5⟩⟩ := hSw; go_simp; all_goals with_reducible rfl)
   simp only [Act.put, List.getElem_toArray, List.getElem_cons_zero, List.getElem_cons_succ, List.setIfInBounds_toArray, List.set_cons_zero, List.set_cons_succ]
   refine wpAnyH_take (i := 4) (v := ?_) rfl (by kernel_rfl) (by kernel_rfl) (by kernel_rfl) (fun _ _ _ h => h) (Or.inl ⟨by rfl, ?hy4⟩) (by assumption) ?ty4
   case hy4 => (intro w' hSw; (try dsimp only at hSw); obtain ⟨⟨e0, e1, e2, e3, e4, e5⟩, ⟨d0, d1, d2, d3, d4, d5⟩⟩ := hSw; go_simp; all_goals with_reducible rfl)
   simp only [Act.put, List.getElem_toArray, List.getElem_cons_zero, List.getElem_cons_succ, List.setIfInBounds_toArray, List.set_cons_zero, List.set_cons_succ]
   refine wpAnyH_take (i := 5) (v := ?_) rfl (by kernel_rfl) (by kernel_rfl) (by kernel_rfl) (fun _ _ _ h => h) (Or.inl ⟨by rfl, ?hy5⟩) (by assumption) ?ty5
   case hy5 => (intro w' hSw; (try dsimp only at hSw); obtain ⟨⟨e0, e1, e2, e3, e4, e5⟩, ⟨d0, d1, d2, d3, d4, d5⟩⟩ := hSw; go_simp; all_goals with_reducible rfl)
   simp only [Act.put, List.getElem_toArray, List.getElem_cons_zero, List.getElem_cons_succ, List.setIfInBounds_toArray, List.set_cons_zero, List.set_cons_succ]
   refine wpAnyH_take (i := 6) (v := ?_) rfl (by kernel_rfl) (by kernel_rfl) (by kernel_rfl) (fun _ _ _ h => h) (Or.inl ⟨by rfl, ?hy6⟩) (by assumption) ?ty6
   case hy6 => (intro w' hSw; (try dsimp only at hSw); obtain ⟨⟨e0, e1, e2, e3, e4, e5⟩, ⟨d0, d1, d2, d3, d4, d5⟩⟩ := hSw; go_simp; all_goals with_reducible rfl)
   simp only [Act.put, List.getElem_toArray, List.getElem_cons_zero, List.getElem_cons_succ, List.setIfInBounds_toArray, List.set_cons_zero, List.set_cons_succ]
   refine wpAnyH_take (i := 7) (v := ?_) rfl (by kernel_rfl) (by kernel_rfl) (by kernel_rfl) (fun _ _ _ h => h) (Or.inl ⟨by rfl, ?hy7⟩) (by assumption) ?ty7
   case hy7 => (intro w' hSw; (try dsimp only at hSw); obtain ⟨⟨e0, e1, e2, e3, e4, e5⟩, ⟨d0, d1, d2, d3, d4, d5⟩⟩ := hSw; go_simp; all_goals with_reducible rfl)
   simp only [Act.put, List.getElem_toArray, List.getElem_cons_zero, List.getElem_cons_succ, List.setIfInBounds_toArray, List.set_cons_zero, List.set_cons_succ]
   refine wpAnyH_ready (rs := [8]) (by kernel_rfl) (by simp) ?_
   refine AllReadyH.cons rfl (fun K hK => ?_) AllReadyH.nil
   go_simp
   refine (eqTerm_ft ⟨ok0, on0, oc0, oy0, ol0, or0⟩ p q _ (hI.below (Below.refl _ _).drew) (hI'.below (Below.refl _ _).drew) hF).mono ?_
   rintro e w1 ⟨rfl, hbx⟩
   have HW : Hid (Below wr.heap.size wr w1) := (Below.refl _ _).drew.trans hbx
   have hsS : (w1.cell? ⟨b, off + k * 6, none⟩ = some (.int .i64 ok0) ∧ w1.cell? ⟨b, off + k * 6 + 1, none⟩ = some (.int .i64 on0) ∧ w1.cell? ⟨b, off + k * 6 + 2, none⟩ = some (slW p.1) ∧ w1.cell? ⟨b, off + k * 6 + 3, none⟩ = some (slW p.2) ∧ w1.cell? ⟨b, off + k * 6 + 4, none⟩ = some (.int .i64 ol0) ∧ w1.cell? ⟨b, off + k * 6 + 5, none⟩ = some (.int .i64 or0)) ∧ (w1.cell? ⟨d, off' + k * 6, none⟩ = some (.int .i64 ok0) ∧ w1.cell? ⟨d, off' + k * 6 + 1, none⟩ = some (.int .i64 on0) ∧ w1.cell? ⟨d, off' + k * 6 + 2, none⟩ = some (slW q.1) ∧ w1.cell? ⟨d, off' + k * 6 + 3, none⟩ = some (slW q.2) ∧ w1.cell? ⟨d, off' + k * 6 + 4, none⟩ = some (.int .i64 ol0) ∧ w1.cell? ⟨d, off' + k * 6 + 5, none⟩ = some (.int .i64 or0)) :=
    ⟨⟨(HW.out.cell (p := ⟨b, off + k * 6, none⟩) hblt).trans hc0, (HW.out.cell (p := ⟨b, off + k * 6 + 1, none⟩) hblt).trans hc1, (HW.out.cell (p := ⟨b, off + k * 6 + 2, none⟩) hblt).trans hc2, (HW.out.cell (p := ⟨b, off + k * 6 + 3, none⟩) hblt).trans hc3, (HW.out.cell (p := ⟨b, off + k * 6 + 4, none⟩) hblt).trans hc4, (HW.out.cell (p := ⟨b, off + k * 6 + 5, none⟩) hblt).trans hc5⟩, ⟨(HW.out.cell (p := ⟨d, off' + k * 6, none⟩) hdlt).trans hd0, (HW.out.cell (p := ⟨d, off' + k * 6 + 1, none⟩) hdlt).trans hd1, (HW.out.cell (p := ⟨d, off' + k * 6 + 2, none⟩) hdlt).trans hd2, (HW.out.cell (p := ⟨d, off' + k * 6 + 3, none⟩) hdlt).trans hd3, (HW.out.cell (p := ⟨d, off' + k * 6 + 4, none⟩) hdlt).trans hd4, (HW.out.cell (p := ⟨d, off' + k * 6 + 5, none⟩) hdlt).trans hd5⟩⟩
   refine hK.out _ _ hsS (fun hHeld => ?_)
   clear hK K
   refine wpAnyH_take (i := 9) (v := ?_) rfl (by kernel_rfl) (by kernel_rfl) (by kernel_rfl) (fun _ _ _ h => h) (Or.inl ⟨by rfl, ?hy20⟩) (by assumption) ?ty20
   case hy20 => (intro w' hSw; (try dsimp only at hSw); go_simp; all_goals with_reducible rfl)
   simp only [Act.put, List.getElem_toArray, List.getElem_cons_zero, List.getElem_cons_succ, List.setIfInBounds_toArray, List.set_cons_zero, List.set_cons_succ]
   refine wpAnyH_done (by kernel_rfl) ?_ _
   have hbel2 := hbel.trans (HW.out.mono hbel.size)
   clear hHeld hsS hbx HW
   go_wp2
   go_roundw
   case rel => exact ⟨k + 1, by omega, by go_num, hbel2⟩
   case measure => simp [intOf]; omega
  ·have hki : ¬ (k : Int) < (n : Int) := by omega
   go_wp2
   go_ret
   exact ⟨rfl, hbel⟩
end Go.Proofs.YtjogclofjollnaaGreatDoor
namespace Go.Proofs.YtjogclofjollnaaGreatDoor
open Go.RowKit
def FtC (o : CmR) : Prop := o.t.size ≤ 1048576 ∧ o.n.size ≤ 1048576 ∧ o.y.length ≤ 1048576 ∧ o.b.length ≤ 1048576 ∧ o.p.length ≤ 1048576 ∧ FtUs o.u
set_option maxHeartbeats 1600000 in
set_option maxRecDepth 100000 in
theorem szCmd_ft (o : CmR) (p : SlC) (left : Int) {lo : Nat} (w : World) (h0 : 0 ≤ left) (h1 : left ≤ 1048576) (hs : IsCm lo w p o) (hok : OkC o) :
  Calls Tryz.prog 4 #[cmX o p, .int .i64 left] w fun e w' => SzQ left (FtC o) w e w' := by
 have hb0 : Below w.heap.size w (w.alloc (.cells #[.string o.t, .int .i64 o.k, .string o.n, slW p.1, .int .i64 o.m, .int .i64 o.f, .int .i64 o.d, slW p.2.1, .int .i64 o.h, slW p.2.2.1, .int .i64 o.e, .bool o.r, slW p.2.2.2, .int .i64 o.c] 27)) := (Below.refl _ _).alloc (Nat.le_refl _) _
 obtain ⟨hok1, hok2⟩ := hok
 unfold maxLen at hok1 hok2
 have hm1 : p.1.2.1 ≤ maxLen := Nat.le_trans hs.1.2.1 hs.1.2.2.1
 have hm2 : p.2.1.2.1 ≤ maxLen := Nat.le_trans hs.2.1.2.1 hs.2.1.2.2.1
 have hm3 : p.2.2.1.2.1 ≤ maxLen := Nat.le_trans hs.2.2.1.2.1 hs.2.2.1.2.2.1
 have hl1 := hs.1.1
 have hl2 := hs.2.1.1
 have hl3 := hs.2.2.1.1
 have hT := hs.2.2.2
 clear hs
 by_cases c1 : left - (o.t.size : Int) < 0
 ·go_enter Tryz.func4, Tryz.ntmps4
  go_wp2
  go_ret
  exact ⟨-1, rfl, .inl rfl, hb0⟩
 by_cases c2 : left - (o.t.size : Int) - (o.n.size : Int) < 0
 ·go_enter Tryz.func4, Tryz.ntmps4
  go_wp2
  go_ret
  exact ⟨-1, rfl, .inl rfl, hb0⟩
 have hZ0 := Qm.new w (.string o.t) (.int .i64 o.k) (.string o.n) (slW p.1) (.int .i64 o.m) (.int .i64 o.f) (.int .i64 o.d) (slW p.2.1) (.int .i64 o.h) (slW p.2.2.1) (.int .i64 o.e) (.bool o.r) (slW p.2.2.2) (.int .i64 o.c) 27
 have HC := szYl_any p.1 (left - (o.t.size : Int) - (o.n.size : Int)) (w.alloc (.cells #[.string o.t, .int .i64 o.k, .string o.n, slW p.1, .int .i64 o.m, .int .i64 o.f, .int .i64 o.d, slW p.2.1, .int .i64 o.h, slW p.2.2.1, .int .i64 o.e, .bool o.r, slW p.2.2.2, .int .i64 o.c] 27)) (by omega) (by omega) hm1
 have hT0 := hT.below hb0
 clear hT
 go_enter Tryz.func4, Tryz.ntmps4
 go_wp2_with fail
 refine HC.mono ?_
 rintro e w1 ⟨r, rfl, hcase, hb1⟩
 have hbw := hb0.trans (hb1.mono hb0.size)
 have hZ1 := hZ0.below hb1 hZ0.lt
 have hT1 := hT0.below hb1
 clear HC hb0 hb1 hZ0 hT0
 rcases hcase with rfl | ⟨q0, q1, q2⟩
 ·go_wp2
  go_ret
  exact ⟨-1, rfl, .inl rfl, hbw⟩
 have hneg : ¬ r < 0 := by omega
 have K1 : Hid (r ≤ left ∧ o.t.size ≤ 1048576 ∧ o.n.size ≤ 1048576 ∧ p.1.2.1 ≤ 1048576) := ⟨by omega, by omega, by omega, q2⟩
 have g1 : r ≤ 1048576 := by omega
 have HC := szByteS_any p.2.1 r w1 q0 g1 hm2
 have HZ : Hid (_) := And.intro hZ1 True.intro
 obtain ⟨e0, e1, e2, e3, e4, e5, e6, e7, e8, e9, e10, e11, e12, e13⟩ := hZ1
 dsimp only at e0 e1 e2 e3 e4 e5 e6 e7 e8 e9 e10 e11 e12 e13
 clear q1 q2 c1 c2 hneg
 have hneg : ¬ r < 0 := by omega
 go_wp2_with fail
 refine HC.mono ?_
 rintro e w2 ⟨r2, rfl, hcase, hb2⟩
 have hbw2 := hbw.trans (hb2.mono hbw.size)
 have hZ1 := HZ.out.1
 have hZ2 := hZ1.below hb2 hZ1.lt
 have hT2 := hT1.below hb2
 clear HC hb2 hbw hT1 HZ hZ1 e0 e1 e2 e3 e4 e5 e6 e7 e8 e9 e10 e11 e12 e13
 rcases hcase with rfl | ⟨q3, q4, q5⟩
 ·go_wp2
  go_ret
  exact ⟨-1, rfl, .inl rfl, hbw2⟩
 have hneg2 : ¬ r2 < 0 := by omega
 have K2 : Hid (r2 ≤ left ∧ p.2.1.2.1 ≤ 1048576) := ⟨by have := K1.out.1; omega, q5⟩
 have g2 : r2 ≤ 1048576 := by omega
 have HC := szInt64S_any p.2.2.1 r2 w2 q3 g2 hm3
 have HZ : Hid (_) := And.intro hZ2 True.intro
 obtain ⟨e0, e1, e2, e3, e4, e5, e6, e7, e8, e9, e10, e11, e12, e13⟩ := hZ2
 dsimp only at e0 e1 e2 e3 e4 e5 e6 e7 e8 e9 e10 e11 e12 e13
 clear q4 q5 hneg q0 g1
 go_wp2_with fail
 refine HC.mono ?_
 rintro e w3 ⟨r3, rfl, hcase, hb3⟩
 have hbw3 := hbw2.trans (hb3.mono hbw2.size)
 have hZ2 := HZ.out.1
 have hZ3 := hZ2.below hb3 hZ2.lt
 have hT3 := hT2.below hb3
 clear HC hb3 hbw2 hT2 HZ hZ2 e0 e1 e2 e3 e4 e5 e6 e7 e8 e9 e10 e11 e12 e13
 rcases hcase with rfl | ⟨q6, q7, q8⟩
 ·go_wp2
  go_ret
  exact ⟨-1, rfl, .inl rfl, hbw3⟩
 have hneg3 : ¬ r3 < 0 := by omega
 have K3 : Hid (r3 ≤ left ∧ p.2.2.1.2.1 ≤ 1048576) := ⟨by have := K2.out.1; omega, q8⟩
 have g3 : r3 ≤ 1048576 := by omega
 have HC := szTermS_ft p.2.2.2 o.u r3 w3 q6 g3 hT3
 obtain ⟨e0, e1, e2, e3, e4, e5, e6, e7, e8, e9, e10, e11, e12, e13⟩ := hZ3
 dsimp only at e0 e1 e2 e3 e4 e5 e6 e7 e8 e9 e10 e11 e12 e13
 clear q7 q8 hneg2 q3 g2
 go_wp2_with fail
 refine HC.mono ?_
 rintro e w4 ⟨r4, rfl, hcase, hb4⟩
 have hbw4 := hbw3.trans (hb4.mono hbw3.size)
 clear HC hb4 hbw3 hT3 e0 e1 e2 e3 e4 e5 e6 e7 e8 e9 e10 e11 e12 e13
 rcases hcase with rfl | ⟨q9, q10, q11⟩
 ·go_wp2
  go_ret
  exact ⟨-1, rfl, .inl rfl, hbw4⟩
 have hneg4 : ¬ r4 < 0 := by omega
 have HF : Hid (r4 ≤ left ∧ FtC o) := by
  obtain ⟨a0, a1, a2, a3⟩ := K1.out
  obtain ⟨b0, b1⟩ := K2.out
  obtain ⟨d0, d1⟩ := K3.out
  exact ⟨by omega, a1, a2, by omega, by omega, by omega, q11⟩
 clear q10 q11 hneg3
 go_wp2
 go_ret
 exact ⟨r4, rfl, .inr ⟨q9, HF.out⟩, hbw4⟩
end Go.Proofs.YtjogclofjollnaaGreatDoor
