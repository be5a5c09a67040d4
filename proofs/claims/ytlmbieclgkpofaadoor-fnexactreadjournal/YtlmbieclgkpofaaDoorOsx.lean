/- Slices of ops: a copy by the law's helper may be written; marks of ops; no conditions beyond those that each fact names. -/
import Derived.Test.YtlmbieclgkpofaaDoorOss
import Derived.Test.YtlmbieclgkpofaaDoorOsw
import Derived.Test.YtlmbieclgkpofaaDoorOfq
namespace Go.Proofs.YtlmbieclgkpofaaDoor
open Go.RowKit
set_option linter.unusedVariables false

/-- A row of ops in the block b, whose slices lie from lo on and may be written. -/
def OsW (lo : Nat) (w : World) (b : Nat) (l : List OpR) : Prop := ∀ i, i < l.length → ∃ p : SlO, Qp w b (i * 8) (opQ (nthO l i) p) ∧ IsOp lo w p (nthO l i) ∧ WrQ lo w p.1 ∧ WrQ lo w p.2
theorem OsW.below {lo b : Nat} {w w' : World} {l : List OpR} (h : OsW lo w b l) (hb : Below w.heap.size w w') : OsW lo w' b l := fun i hi => by
  obtain ⟨p, h1, h2, h3, h4⟩ := h i hi
  exact ⟨p, h1.below hb h1.lt, h2.below hb, h3.below hb, h4.below hb⟩
theorem OsW.os {lo b n : Nat} {w : World} {l : List OpR} (h : OsW lo w b l) (hl : l.length = n) (hn : n ≤ 1048576) (hlo : b ≤ lo) : IsOs b w (some ⟨b, 0, none⟩, n, n) l := by
  refine ⟨hl, Nat.le_refl _, by dsimp only; unfold maxLen; omega, ?_⟩
  rcases Nat.eq_zero_or_pos l.length with h0 | h0
  · exact .inl (List.length_eq_zero_iff.1 h0)
  · obtain ⟨p0, hq0, -⟩ := h 0 h0
    refine .inr ⟨b, 0, rfl, Nat.le_refl _, hq0.lt, fun i hi => ?_⟩
    obtain ⟨p, ⟨c0, c1, c2, c3, c4, c5, c6, c7⟩, h2, -⟩ := h i hi
    rw [Nat.zero_add]
    exact ⟨p, ⟨c0, c1, c2, c3, c4, c5, c6, c7⟩, h2.low hlo⟩

set_option maxHeartbeats 1600000 in
set_option maxRecDepth 100000 in
theorem toOpS_wr (s : SlQ) (l : List OpR) {lo : Nat} (w : World) (hs : IsOs lo w s l) (hf : FtOs l) :
    Calls Tryd.prog 29 #[slW s] w fun e w' => e = .returned (.slice (some ⟨w.heap.size, 0, none⟩) s.2.1 s.2.1) ∧ OsW (w.heap.size + 1) w' w.heap.size l ∧ (∀ i, w'.frozen? ⟨w.heap.size, i, none⟩ = false) ∧ (w.heap.size < w'.heap.size ∧ (0 < s.2.1 → w.heap.size + 1 < w'.heap.size)) ∧ Below w.heap.size w w' := by
  obtain ⟨a, n, cap⟩ := s
  obtain ⟨hl, hnc, hcm, hr⟩ := hs
  obtain ⟨hn, hft⟩ := hf
  dsimp only [slW] at *
  obtain ⟨i0, hi, hz0, hz1, hz2⟩ := info_parts infoOp
  go_enter Tryd.func29, Tryd.ntmps29
  go_wp2_with (at_make; refine wpList_make_full _ rfl _ _ 50 rfl w.heap.size 28 i0 (.agg #[.int .i64 0, .string ByteArray.empty, .string ByteArray.empty, .slice none 0 0, .int .i64 0, .int .i64 0, .int .i64 0, .slice none 0 0]) 8 Tryd.underlying50 hi hz0 hz1 .i64 .i64 _ _ n rfl rfl rfl rfl (by rw [hz2]; omega) (by unfold maxLen; omega) (Nat.le_refl _) ?_; intro w0 hown0 hgrow0)
  have hown0' : w0.ownsRow w.heap.size 28 8 (.slice (some ⟨w.heap.size, 0, none⟩) n n) n (oc (halfO zOp [] n)) := by
    rw [halfO_zero, ← made_octs]
    exact hown0
  have hbel0 : Below w.heap.size w w0 := (Below.refl _ _).grown hgrow0 (Nat.le_refl _) (by intro k hk; cases hk)
  clear hgrow0 hown0
  go_loopw [4] (fun i wr => ∃ (k : Nat) (ql : List Oc), k ≤ n ∧ i = .int .i64 k ∧ ql.length = k ∧ wr.ownsRow w.heap.size 28 8 (.slice (some ⟨w.heap.size, 0, none⟩) n n) n (oc (halfO zOp ql n)) ∧ (∀ j, j < k → ∃ p, nthOc ql j = opQ (nthO l j) p ∧ IsOp (w.heap.size + 1) wr p (nthO l j) ∧ WrQ (w.heap.size + 1) wr p.1 ∧ WrQ (w.heap.size + 1) wr p.2) ∧ Below w.heap.size w wr ∧ (0 < k → w.heap.size + 1 < wr.heap.size))
    (fun i _ => n - (intOf i).toNat)
  case atStart => exact ⟨0, [], Nat.zero_le _, rfl, rfl, hown0', fun j hj => absurd hj (Nat.not_lt_zero _), hbel0, fun h => absurd h (Nat.lt_irrefl _)⟩
  case round =>
    obtain ⟨k, ql, hk, rfl, hqk, hown, hall, hbel, hgz⟩ := hrel
    clear hown0' hbel0
    by_cases hkn : k < n
    · obtain ⟨b, off, rfl, -, hblt, hcell⟩ := (hr.below hbel).at_ (by omega)
      obtain ⟨p, ⟨hc0, hc1, hc2, hc3, hc4, hc5, hc6, hc7⟩, hI⟩ := hcell k (by omega)
      have hgl : w.heap.size < wr.heap.size := (hown.lt w.heap.size rfl).2
      have HC := toOp_wr (nthO l k) p wr hI (hft k (by omega))
      have hki : (k : Int) < (n : Int) := by omega
      have HL : Hid (∀ (w' : World) (p' : SlO) (_ : Near (w.heap.size + 1) wr w') (_ : ∀ s, WrQ (w.heap.size + 1) wr s → WrQ (w.heap.size + 1) w' s) (_ : IsOp (w.heap.size + 1) w' p' (nthO l k) ∧ WrQ (w.heap.size + 1) w' p'.1 ∧ WrQ (w.heap.size + 1) w' p'.2), ∀ j, j < k + 1 → ∃ p, nthOc (ql ++ [opQ (nthO l k) p']) j = opQ (nthO l j) p ∧ IsOp (w.heap.size + 1) w' p (nthO l j) ∧ WrQ (w.heap.size + 1) w' p.1 ∧ WrQ (w.heap.size + 1) w' p.2) := fun w' p' hN hKW hI' j hj => by
        rcases Nat.lt_or_ge j k with h' | h'
        · obtain ⟨s, e, hI''⟩ := hall j h'
          refine ⟨s, ?_, hI''.1.near hN, hKW _ hI''.2.1, hKW _ hI''.2.2⟩
          rw [← e]; unfold nthOc; rw [List.getD_eq_getElem?_getD, List.getD_eq_getElem?_getD, List.getElem?_append_left (by omega)]
        · obtain rfl : j = k := by omega
          refine ⟨p', ?_, hI'⟩
          unfold nthOc; rw [List.getD_eq_getElem?_getD, List.getElem?_append_right (by omega), hqk, Nat.sub_self]; rfl
      have HFS : Hid (∀ p', oc ((halfO zOp ql n).set k (opQ (nthO l k) p')) = oc (halfO zOp (ql ++ [opQ (nthO l k) p']) n)) := fun p' => by
        rw [← hqk, halfO_set zOp ql n _ (by omega)]
      clear hcell hall hI
      generalize nthO l k = o at *
      obtain ⟨ok0, ox0, ot0, ou0, om0, of0, od0, ob0⟩ := o
      dsimp only at hc0 hc1 hc2 hc3 hc4 hc5 hc6 hc7 HL
      go_wp2_with fail
      refine HC.mono ?_
      rintro e w1 ⟨p', rfl, hI1, ⟨hV1, hV2⟩, hzl, hb1⟩
      have HZL : Hid (w.heap.size + 1 < w1.heap.size) := by show _ < _; omega
      clear hgz
      have hown1 := ownO_below hown hb1 (Nat.le_refl _)
      have hbel1 : Below w.heap.size w w1 := hbel.trans (hb1.mono hbel.size)
      have hhl : (halfO zOp ql n).length = n := halfO_len _ _ _ (by omega)
      obtain ⟨-, g0, g1, g2, g3, g4, g5, g6, g7⟩ := ownO_cells hown1 k (by omega)
      have z0 := hown1.frozenAt (k * 8)
      have z1 := hown1.frozenAt (k * 8 + 1)
      have z2 := hown1.frozenAt (k * 8 + 2)
      have z3 := hown1.frozenAt (k * 8 + 3)
      have z4 := hown1.frozenAt (k * 8 + 4)
      have z5 := hown1.frozenAt (k * 8 + 5)
      have z6 := hown1.frozenAt (k * 8 + 6)
      have z7 := hown1.frozenAt (k * 8 + 7)
      obtain ⟨hst0, -⟩ := hown1.stored (k * 8) (.int .i64 ok0)
      obtain ⟨hst1, -⟩ := hst0.stored (k * 8 + 1) (.string ox0)
      obtain ⟨hst2, -⟩ := hst1.stored (k * 8 + 2) (.string ot0)
      obtain ⟨hst3, -⟩ := hst2.stored (k * 8 + 3) (slW p'.1)
      obtain ⟨hst4, -⟩ := hst3.stored (k * 8 + 4) (.int .i64 om0)
      obtain ⟨hst5, -⟩ := hst4.stored (k * 8 + 5) (.int .i64 of0)
      obtain ⟨hst6, -⟩ := hst5.stored (k * 8 + 6) (.int .i64 od0)
      obtain ⟨hst7, -⟩ := hst6.stored (k * 8 + 7) (slW p'.2)
      rw [oc_set (halfO zOp ql n) k (opQ ⟨ok0, ox0, ot0, ou0, om0, of0, od0, ob0⟩ p') (by omega), HFS.out p'] at hst7
      have HN : Hid (Near (w.heap.size + 1) wr ((((((((w1.setCell ⟨w.heap.size, k * 8, none⟩ (.int .i64 ok0)).setCell ⟨w.heap.size, k * 8 + 1, none⟩ (.string ox0)).setCell ⟨w.heap.size, k * 8 + 2, none⟩ (.string ot0)).setCell ⟨w.heap.size, k * 8 + 3, none⟩ (slW p'.1)).setCell ⟨w.heap.size, k * 8 + 4, none⟩ (.int .i64 om0)).setCell ⟨w.heap.size, k * 8 + 5, none⟩ (.int .i64 of0)).setCell ⟨w.heap.size, k * 8 + 6, none⟩ (.int .i64 od0)).setCell ⟨w.heap.size, k * 8 + 7, none⟩ (slW p'.2)) ∧ Near (w.heap.size + 1) w1 ((((((((w1.setCell ⟨w.heap.size, k * 8, none⟩ (.int .i64 ok0)).setCell ⟨w.heap.size, k * 8 + 1, none⟩ (.string ox0)).setCell ⟨w.heap.size, k * 8 + 2, none⟩ (.string ot0)).setCell ⟨w.heap.size, k * 8 + 3, none⟩ (slW p'.1)).setCell ⟨w.heap.size, k * 8 + 4, none⟩ (.int .i64 om0)).setCell ⟨w.heap.size, k * 8 + 5, none⟩ (.int .i64 of0)).setCell ⟨w.heap.size, k * 8 + 6, none⟩ (.int .i64 od0)).setCell ⟨w.heap.size, k * 8 + 7, none⟩ (slW p'.2))) := by
        have h4 := ((((((((Near.set (w := w1) (g := w.heap.size) (j := k * 8) (lo := w.heap.size + 1) (.int .i64 ok0) (by omega)).trans (Near.set (g := w.heap.size) (j := k * 8 + 1) (.string ox0) (by omega))).trans (Near.set (g := w.heap.size) (j := k * 8 + 2) (.string ot0) (by omega))).trans (Near.set (g := w.heap.size) (j := k * 8 + 3) (slW p'.1) (by omega))).trans (Near.set (g := w.heap.size) (j := k * 8 + 4) (.int .i64 om0) (by omega))).trans (Near.set (g := w.heap.size) (j := k * 8 + 5) (.int .i64 of0) (by omega))).trans (Near.set (g := w.heap.size) (j := k * 8 + 6) (.int .i64 od0) (by omega))).trans (Near.set (g := w.heap.size) (j := k * 8 + 7) (slW p'.2) (by omega)))
        exact ⟨(Near.of_below hb1).trans h4, h4⟩
      have HX : Hid (_) := HL.out _ p' HN.out.1 (fun s hs => ((((((((hs.below hb1).set _ _).set _ _).set _ _).set _ _).set _ _).set _ _).set _ _).set _ _) ⟨(hI1.near (HN.out.2.mono (by omega))).low (by omega), (((((((((hV1).set _ _).set _ _).set _ _).set _ _).set _ _).set _ _).set _ _).set _ _).low (by omega), (((((((((hV2).set _ _).set _ _).set _ _).set _ _).set _ _).set _ _).set _ _).set _ _).low (by omega)⟩
      have HB2 : Hid (Below w.heap.size w ((((((((w1.setCell ⟨w.heap.size, k * 8, none⟩ (.int .i64 ok0)).setCell ⟨w.heap.size, k * 8 + 1, none⟩ (.string ox0)).setCell ⟨w.heap.size, k * 8 + 2, none⟩ (.string ot0)).setCell ⟨w.heap.size, k * 8 + 3, none⟩ (slW p'.1)).setCell ⟨w.heap.size, k * 8 + 4, none⟩ (.int .i64 om0)).setCell ⟨w.heap.size, k * 8 + 5, none⟩ (.int .i64 of0)).setCell ⟨w.heap.size, k * 8 + 6, none⟩ (.int .i64 od0)).setCell ⟨w.heap.size, k * 8 + 7, none⟩ (slW p'.2))) := ((((((((hbel1.setCell (by simp) _).setCell (by simp) _).setCell (by simp) _).setCell (by simp) _).setCell (by simp) _).setCell (by simp) _).setCell (by simp) _).setCell (by simp) _)
      have HO2 : Hid (_) := hst7
      generalize (nthOc (halfO zOp ql n) k) = y at *
      obtain ⟨y0, y1, y2, y3, y4, y5, y6, y7⟩ := y
      dsimp only at g0 g1 g2 g3 g4 g5 g6 g7
      clear hst0 hst1 hst2 hst3 hst4 hst5 hst6 hst7 hown1 hown hb1 HFS hbel HL HN HC hI1 hV1 hV2
      go_wp2
      go_roundw
      case rel => exact ⟨k + 1, _, by omega, by go_num, by simp [hqk], HO2.out, HX.out, HB2.out, fun _ => by simpa using HZL.out⟩
      case measure => simp [intOf]; omega
    · have hkk : k = n := by omega
      subst hkk
      have hki : ¬ (k : Int) < (k : Int) := by omega
      have HO : Hid (OsW (w.heap.size + 1) wr w.heap.size l) := fun i hi => by
        obtain ⟨s, e, hI⟩ := hall i (by omega)
        rw [← hqk, halfO_all] at hown
        obtain ⟨-, g0, g1, g2, g3, g4, g5, g6, g7⟩ := ownO_cells (cap := ql.length) hown i (by omega)
        rw [e] at g0 g1 g2 g3 g4 g5 g6 g7
        exact ⟨s, ⟨g0, g1, g2, g3, g4, g5, g6, g7⟩, hI⟩
      have hlt := (hown.lt w.heap.size rfl).2
      have HFZ : Hid (∀ i, wr.frozen? ⟨w.heap.size, i, none⟩ = false) := fun i => hown.frozenAt i
      clear hown hall
      go_wp2
      go_ret
      exact ⟨rfl, HO.out, HFZ.out, ⟨hlt, hgz⟩, hbel⟩

/-- The same, ahead of the block hi. -/
def OsH (lo hi : Nat) (w : World) (b : Nat) (l : List OpR) : Prop := ∀ i, i < l.length → ∃ p : SlO, Qp w b (i * 8) (opQ (nthO l i) p) ∧ (p.1.2.1 = (nthO l i).u.length ∧ p.2.2.1 = (nthO l i).b.length) ∧ WrH lo hi w p.1 ∧ WrH lo hi w p.2
theorem OsW.hi {lo b : Nat} {w : World} {l : List OpR} (h : OsW lo w b l) : OsH lo w.heap.size w b l := fun i hi => by
  obtain ⟨p, h1, h2, h3, h4⟩ := h i hi
  exact ⟨p, h1, ⟨h2.1.1.symm, h2.2.1.symm⟩, h3.hi, h4.hi⟩
theorem OsH.below {lo hi b : Nat} {w w' : World} {l : List OpR} (h : OsH lo hi w b l) (hb : Below w.heap.size w w') : OsH lo hi w' b l := fun i hi => by
  obtain ⟨p, h1, h2, h3, h4⟩ := h i hi
  exact ⟨p, h1.below hb h1.lt, h2, h3.below hb, h4.below hb⟩
theorem MkQ.refl (lo hi : Nat) (w : World) : MkQ lo hi w w := ⟨Below.refl _ _, fun _ _ _ => rfl, fun _ _ h => h, fun _ _ => rfl⟩
theorem MkQ.set {lo hi b i : Nat} {w x : World} (h : MkQ lo hi w x) (v : Value) (h1 : lo ≤ b) (h2 : b < hi) : MkQ lo hi w (x.setCell ⟨b, i, none⟩ v) :=
  ⟨h.1.setCell (p := ⟨b, i, none⟩) h1 v, fun p h3 h4 => (World.cell?_setCell_other _ _ _ _ (fun e => by subst e; exact absurd h2 (Nat.not_lt.2 h3))).trans (h.2.1 p h3 h4), fun p h3 h4 => isSome_set _ _ _ _ (h.2.2.1 p h3 h4), fun p h3 => (World.frozen?_setCell _ _ _ _).trans (h.2.2.2 p h3)⟩
theorem MkQ.grow {lo hi : Nat} {w x y : World} (h : MkQ lo hi w x) (hb : Below x.heap.size x y) (hlo : lo ≤ w.heap.size) : MkQ lo hi w y := by
  have hz := h.1.size
  exact ⟨h.1.trans (hb.mono (by omega)), fun p h1 h2 => (hb.cell (by omega)).trans (h.2.1 p h1 h2), fun p h1 h2 => by rw [hb.cell (show p.block < x.heap.size by omega)]; exact h.2.2.1 p h1 h2, fun p h1 => (hb.frozen (show p.block < x.heap.size by omega)).trans (h.2.2.2 p h1)⟩
theorem MkQ.mkj {lo lo' hi : Nat} {w x y : World} (h : MkQ lo hi w x) (hm : MkJ lo' hi x y) (hl : lo ≤ lo') : MkQ lo hi w y :=
  ⟨h.1.trans (hm.1.mono hl), fun p h1 h2 => (hm.2.1 p h1).trans (h.2.1 p h1 h2), fun p h1 h2 => hm.2.2.1 p (h.2.2.1 p h1 h2), fun p h1 => (hm.2.2.2 p).trans (h.2.2.2 p h1)⟩
theorem WrH.mkq {lo hi lo' hi' : Nat} {w w' : World} {s : SlQ} (h : WrH lo hi w s) (hm : MkQ lo' hi' w w') : WrH lo hi w' s := by
  rcases h with h | ⟨g, h1, h2, h3, h4, h5⟩
  · exact .inl h
  · exact .inr ⟨g, h1, h2, h3, Nat.lt_of_lt_of_le h4 hm.1.size, fun i hi => ⟨hm.2.2.1 _ h4 (h5 i hi).1, (hm.2.2.2 _ h4).trans (h5 i hi).2⟩⟩
set_option maxHeartbeats 1600000 in
set_option maxRecDepth 100000 in
theorem markByteS_mg (a : Option Addr) (g n cap k lo hi : Nat) (w : World) (ha : n = 0 ∨ a = some ⟨g, 0, none⟩) (h1 : lo ≤ g) (h2 : g < hi) (hW : ∀ i, i < n → (w.cell? ⟨g, i, none⟩).isSome = true ∧ w.frozen? ⟨g, i, none⟩ = false) (hn : n ≤ 1048576) (hk : k ≤ 8796093022208) :
    Calls Tryd.prog 24 #[.slice a n cap, .int .i64 (k : Int)] w fun e w' =>
      e = .returned (.int .i64 ((k + n : Nat) : Int)) ∧ MkJ lo hi w w' ∧ ∀ i, i < n → w'.cell? ⟨g, i, none⟩ = some (.int .u8 (((k + i) % 256 : Nat) : Int)) := by
  go_enter Tryd.func24, Tryd.ntmps24
  go_wp2
  go_loopw [1, 5] (fun q i wr => ∃ j : Nat, j ≤ n ∧ i = .int .i64 j ∧ q = .int .i64 ((k + j : Nat) : Int) ∧ MkJ lo hi w wr ∧ ∀ i, i < j → wr.cell? ⟨g, i, none⟩ = some (.int .u8 (((k + i) % 256 : Nat) : Int)))
    (fun _ i _ => n - (intOf i).toNat)
  case atStart => exact ⟨0, Nat.zero_le _, rfl, rfl, MkJ.refl _ _ _, fun i hi => absurd hi (Nat.not_lt_zero _)⟩
  case round =>
    obtain ⟨j, hj, rfl, rfl, hmk, hc⟩ := hrel
    by_cases hjn : j < n
    · obtain rfl : a = some ⟨g, 0, none⟩ := ha.resolve_left (by omega)
      have hji : (j : Int) < (n : Int) := by omega
      obtain ⟨u, hu⟩ := Option.isSome_iff_exists.1 (hmk.2.2.1 _ (hW j hjn).1)
      have hf : wr.frozen? ⟨g, j, none⟩ = false := (hmk.2.2.2 _).trans (hW j hjn).2
      have HO : Hid (MkJ lo hi w (wr.setCell ⟨g, j, none⟩ (.int .u8 (((k + j) % 256 : Nat) : Int))) ∧ ∀ i, i < j + 1 → (wr.setCell ⟨g, j, none⟩ (.int .u8 (((k + j) % 256 : Nat) : Int))).cell? ⟨g, i, none⟩ = some (.int .u8 (((k + i) % 256 : Nat) : Int))) := by
        refine ⟨hmk.set _ h1 h2, fun i hi => ?_⟩
        by_cases e : j = i
        · subst e
          exact World.cell?_setCell_same _ _ _ hu
        · rw [World.cell?_setCell_other _ _ _ _ (fun h => e (by cases h; rfl))]
          exact hc i (by omega)
      obtain ⟨q, hq⟩ : ∃ q, q = (k + j) % 256 := ⟨_, rfl⟩
      rw [← hq] at HO
      have e1 : ((k : Int) + (j : Int)) % 256 = (q : Int) := by omega
      clear hq hc hW
      go_wp2
      go_roundw
      case rel => exact ⟨j + 1, by omega, by go_num, by go_num, HO.out⟩
      case measure => simp [intOf]; omega
    · have hjj : j = n := by omega
      subst hjj
      have hji : ¬ (j : Int) < (j : Int) := by omega
      have HO : Hid (_) := hc
      clear hc
      go_wp2
      go_ret
      exact ⟨rfl, hmk, HO.out⟩

set_option maxHeartbeats 1600000 in
set_option maxRecDepth 100000 in
theorem markInt64S_mg (a : Option Addr) (g n cap k lo hi : Nat) (w : World) (ha : n = 0 ∨ a = some ⟨g, 0, none⟩) (h1 : lo ≤ g) (h2 : g < hi) (hW : ∀ i, i < n → (w.cell? ⟨g, i, none⟩).isSome = true ∧ w.frozen? ⟨g, i, none⟩ = false) (hn : n ≤ 1048576) (hk : k ≤ 8796093022208) :
    Calls Tryd.prog 52 #[.slice a n cap, .int .i64 (k : Int)] w fun e w' =>
      e = .returned (.int .i64 ((k + n : Nat) : Int)) ∧ MkJ lo hi w w' ∧ ∀ i, i < n → w'.cell? ⟨g, i, none⟩ = some (.int .i64 ((k + i : Nat) : Int)) := by
  go_enter Tryd.func52, Tryd.ntmps52
  go_wp2
  go_loopw [1, 5] (fun q i wr => ∃ j : Nat, j ≤ n ∧ i = .int .i64 j ∧ q = .int .i64 ((k + j : Nat) : Int) ∧ MkJ lo hi w wr ∧ ∀ i, i < j → wr.cell? ⟨g, i, none⟩ = some (.int .i64 ((k + i : Nat) : Int)))
    (fun _ i _ => n - (intOf i).toNat)
  case atStart => exact ⟨0, Nat.zero_le _, rfl, rfl, MkJ.refl _ _ _, fun i hi => absurd hi (Nat.not_lt_zero _)⟩
  case round =>
    obtain ⟨j, hj, rfl, rfl, hmk, hc⟩ := hrel
    by_cases hjn : j < n
    · obtain rfl : a = some ⟨g, 0, none⟩ := ha.resolve_left (by omega)
      have hji : (j : Int) < (n : Int) := by omega
      obtain ⟨u, hu⟩ := Option.isSome_iff_exists.1 (hmk.2.2.1 _ (hW j hjn).1)
      have hf : wr.frozen? ⟨g, j, none⟩ = false := (hmk.2.2.2 _).trans (hW j hjn).2
      have HO : Hid (MkJ lo hi w (wr.setCell ⟨g, j, none⟩ (.int .i64 ((k + j : Nat) : Int))) ∧ ∀ i, i < j + 1 → (wr.setCell ⟨g, j, none⟩ (.int .i64 ((k + j : Nat) : Int))).cell? ⟨g, i, none⟩ = some (.int .i64 ((k + i : Nat) : Int))) := by
        refine ⟨hmk.set _ h1 h2, fun i hi => ?_⟩
        by_cases e : j = i
        · subst e
          exact World.cell?_setCell_same _ _ _ hu
        · rw [World.cell?_setCell_other _ _ _ _ (fun h => e (by cases h; rfl))]
          exact hc i (by omega)
      rw [Int.natCast_add] at HO
      clear hc hW
      go_wp2
      go_roundw
      case rel => exact ⟨j + 1, by omega, by go_num, by go_num, HO.out⟩
      case measure => simp [intOf]; omega
    · have hjj : j = n := by omega
      subst hjj
      have hji : ¬ (j : Int) < (j : Int) := by omega
      have HO : Hid (_) := hc
      clear hc
      go_wp2
      go_ret
      exact ⟨rfl, hmk, HO.out⟩

theorem strJ_plus (a b : List Nat) : str a ++ str b = str (a ++ b) := by
  apply ByteArray.ext
  rw [ByteArray.data_append]
  simp [str]

set_option maxHeartbeats 800000 in
set_option maxRecDepth 100000 in
theorem markText_ex (k : Nat) (w : World) (h1 : 1 ≤ k) (hk : k ≤ 35184372088832) : Calls Tryd.prog 58 #[.int .i64 (k : Int)] w fun e w' => ∃ t : ByteArray, e = .returned (.string t) ∧ Below w.heap.size w w' := by
  have c1 : ¬ (k : Int) ≤ 0 := by omega
  go_enter Tryd.func58, Tryd.ntmps58
  go_wp2
  go_loopw [0, 3] (fun q v wr => ∃ (j : Nat) (out : List Nat), j + out.length ≤ k ∧ q = .int .i64 j ∧ v = .string (str out) ∧ Below w.heap.size w wr) (fun q _ _ => (intOf q).toNat)
  case atStart => exact ⟨k, [], Nat.le_refl _, rfl, rfl, Below.refl _ _⟩
  case round =>
    obtain ⟨j, out, hj, rfl, rfl, hbel⟩ := hrel
    have hos : (str out).size = out.length := str_size out
    have hob : out.length ≤ 35184372088832 := by omega
    by_cases hj0 : j = 0
    · subst hj0
      generalize hL : out.length = L at *
      clear hL
      generalize str out = so at *
      go_wp2
      go_ret
      exact ⟨_, rfl, hbel⟩
    · have hjp : (0 : Int) < (j : Int) := by omega
      obtain ⟨r, hr⟩ : ∃ r, r = j % 10 := ⟨_, rfl⟩
      obtain ⟨p, hp⟩ : ∃ p, p = j / 10 := ⟨_, rfl⟩
      have hr10 : r < 10 := by omega
      have hpj : p < j := by omega
      have hst := fun (c : Nat) => run_str (w := wr.alloc (.cells #[.int .u8 ((48 + r : Nat) : Int)] 5)) (a := some ⟨wr.heap.size, 0, none⟩) (n := 1) (cap := c) (l := [48 + r]) rfl (.inr ⟨wr.heap.size, 0, rfl, by simp, fun i hi => by
        have : i = 0 := by simp at hi; omega
        subst this; simp [nth]⟩)
      rw [show ((48 + r : Nat) : Int) = 48 + (r : Int) by omega] at hst
      have e1 : (j : Int) % 10 = (r : Int) := by omega
      have e2 : (j : Int) / 10 = (p : Int) := by omega
      have HP : Hid (str [48 + r] ++ str out = str ((48 + r) :: out)) := strJ_plus [48 + r] out
      have hsr : (str [48 + r]).size = 1 := str_size _
      have HL : Hid (p + ((48 + r) :: out).length ≤ k) := by
        show _ ≤ _
        rw [List.length_cons]; omega
      have hb2 : Below w.heap.size w (wr.alloc (.cells #[.int .u8 (48 + (r : Int))] 5)) := hbel.alloc hbel.size _
      clear hr hp
      go_wp2
      go_roundw
      case rel => exact ⟨p, (48 + r) :: out, HL.out, rfl, by rw [HP.out], hb2⟩
      case measure => simp [intOf]; omega

/-- How the marks of ops end. -/
def MoE (b hi : Nat) (w : World) (e : Ending) (w' : World) : Prop := ∃ k : Nat, e = .returned (.int .i64 (k : Int)) ∧ MkQ b hi w w'

set_option maxHeartbeats 1600000 in
set_option maxRecDepth 100000 in
theorem markOpS_mj (b n hi : Nat) (l : List OpR) (w : World) (hl : l.length = n) (h : OsH (b + 1) hi w b l) (hfz : ∀ i, w.frozen? ⟨b, i, none⟩ = false) (hlo' : 0 < n → b + 1 < hi) (hbh : b < hi) (hhi : hi ≤ w.heap.size) (hn : n ≤ 1048576) (hf : ∀ i, i < n → (nthO l i).u.length ≤ 1048576 ∧ (nthO l i).b.length ≤ 1048576) :
    Calls Tryd.prog 32 #[.slice (some ⟨b, 0, none⟩) n n, .int .i64 1] w fun e w' => MoE b hi w e w' := by
  have HL : Hid (l.length = n) := hl
  have HH : Hid (OsH (b + 1) hi w b l) := h
  have HF : Hid (∀ i, i < n → (nthO l i).u.length ≤ 1048576 ∧ (nthO l i).b.length ≤ 1048576) := hf
  have HZ : Hid (∀ i, w.frozen? ⟨b, i, none⟩ = false) := hfz
  have hbw : b < w.heap.size := by omega
  clear hl h hf hfz
  go_enter Tryd.func32, Tryd.ntmps32
  go_wp2
  go_loopw [1, 5] (fun q i wr => ∃ (j k : Nat), j ≤ n ∧ i = .int .i64 j ∧ q = .int .i64 (k : Int) ∧ 1 ≤ k ∧ k ≤ 1 + j * 3000000 ∧ MkQ b hi w wr ∧ ∀ f, j * 8 ≤ f → wr.cell? ⟨b, f, none⟩ = w.cell? ⟨b, f, none⟩) (fun _ i _ => n - (intOf i).toNat)
  case atStart => exact ⟨0, 1, Nat.zero_le _, rfl, rfl, Nat.le_refl _, by omega, MkQ.refl _ _ _, fun _ _ => rfl⟩
  case round =>
    obtain ⟨j, k, hj, rfl, rfl, hk1, hk2, hmk, hce⟩ := hrel
    have hk3 : k ≤ 4000000000000 := by
      have : j * 3000000 ≤ 1048576 * 3000000 := Nat.mul_le_mul_right _ (by omega)
      omega
    by_cases hjn : j < n
    · have hji : (j : Int) < (n : Int) := by omega
      have hlo : b + 1 < hi := hlo' (by omega)
      have hjl : j < l.length := by rw [HL.out]; exact hjn
      obtain ⟨p, hq, hlen, hw1, hw2⟩ := HH.out j hjl
      have hfj := HF.out j hjn
      obtain ⟨c0, c1, c2, c3, c4, c5, c6, c7⟩ := hq
      dsimp only at c0 c1 c2 c3 c4 c5 c6 c7
      have HSM : Hid (∀ x, MkQ b hi w x → ∀ i, i < 8 → (x.cell? ⟨b, j * 8 + i, none⟩).isSome = true ∧ x.frozen? ⟨b, j * 8 + i, none⟩ = false) := fun x hx i hi => by
        refine ⟨hx.2.2.1 ⟨b, j * 8 + i, none⟩ hbw ?_, (hx.2.2.2 ⟨b, j * 8 + i, none⟩ hbw).trans (HZ.out _)⟩
        obtain rfl | rfl | rfl | rfl | rfl | rfl | rfl | rfl : i = 0 ∨ i = 1 ∨ i = 2 ∨ i = 3 ∨ i = 4 ∨ i = 5 ∨ i = 6 ∨ i = 7 := by omega
        · rw [Nat.add_zero, c0]; rfl
        · rw [c1]; rfl
        · rw [c2]; rfl
        · rw [c3]; rfl
        · rw [c4]; rfl
        · rw [c5]; rfl
        · rw [c6]; rfl
        · rw [c7]; rfl
      generalize nthO l j = o at *
      obtain ⟨⟨ua, un, uc⟩, ⟨ba, bn, bc'⟩⟩ := p
      dsimp only [slW] at c3 c7 hlen hw1 hw2
      have hun : un ≤ 1048576 := by omega
      have hbn : bn ≤ 1048576 := by omega
      clear hlen hfj
      have HCS : Hid (∀ f, f = j * 8 + 3 ∨ f = j * 8 + 7 ∨ (j + 1) * 8 ≤ f → wr.cell? ⟨b, f, none⟩ = w.cell? ⟨b, f, none⟩) := fun f hf => hce f (by omega)
      clear hce c0 c1 c2 c4 c5 c6
      obtain ⟨s0, f0⟩ := HSM.out wr hmk 0 (by omega)
      obtain ⟨u0, s0⟩ := Option.isSome_iff_exists.1 s0
      rw [Nat.add_zero] at s0 f0
      have m1 := hmk.set (i := j * 8) (.int .i64 (k : Int)) (Nat.le_refl b) (by omega)
      have HC1 : Hid (∀ f, f = j * 8 + 3 ∨ f = j * 8 + 7 ∨ (j + 1) * 8 ≤ f → (wr.setCell ⟨b, j * 8, none⟩ (.int .i64 (k : Int))).cell? ⟨b, f, none⟩ = w.cell? ⟨b, f, none⟩) := fun f hf => (World.cell?_setCell_other _ _ _ _ (fun e => by injection e; omega)).trans (HCS.out f hf)
      clear hmk HCS
      obtain ⟨k1, hk1e⟩ : ∃ k1, k1 = k + 1 := ⟨_, rfl⟩
      have T1 := markText_ex k1 (wr.setCell ⟨b, j * 8, none⟩ (.int .i64 (k : Int))) (by omega) (by omega)
      rw [show (k1 : Int) = (k : Int) + 1 by omega] at T1
      go_wp2_with fail
      generalize wr.setCell ⟨b, j * 8, none⟩ (.int .i64 (k : Int)) = x1 at *
      refine T1.mono ?_
      rintro e w1 ⟨t1, rfl, b1⟩
      have m2 := m1.grow b1 (by omega)
      have hx1 : b < x1.heap.size := Nat.lt_of_lt_of_le hbw m1.1.size
      have HC2 : Hid (∀ f, f = j * 8 + 3 ∨ f = j * 8 + 7 ∨ (j + 1) * 8 ≤ f → w1.cell? ⟨b, f, none⟩ = w.cell? ⟨b, f, none⟩) := fun f hf => (b1.cell (p := ⟨b, f, none⟩) hx1).trans (HC1.out f hf)
      clear T1 s0 f0 HC1 m1 b1
      obtain ⟨s1, f1⟩ := HSM.out w1 m2 1 (by omega)
      obtain ⟨u1, s1⟩ := Option.isSome_iff_exists.1 s1
      have m3 := m2.set (i := j * 8 + 1) (.string t1) (Nat.le_refl b) (by omega)
      have HC3 : Hid (∀ f, f = j * 8 + 3 ∨ f = j * 8 + 7 ∨ (j + 1) * 8 ≤ f → (w1.setCell ⟨b, j * 8 + 1, none⟩ (.string t1)).cell? ⟨b, f, none⟩ = w.cell? ⟨b, f, none⟩) := fun f hf => (World.cell?_setCell_other _ _ _ _ (fun e => by injection e; omega)).trans (HC2.out f hf)
      clear m2 HC2
      obtain ⟨k2, hk2e⟩ : ∃ k2, k2 = k + 2 := ⟨_, rfl⟩
      have T2 := markText_ex k2 (w1.setCell ⟨b, j * 8 + 1, none⟩ (.string t1)) (by omega) (by omega)
      rw [show (k2 : Int) = (k : Int) + 1 + 1 by omega] at T2
      go_wp2_with fail
      generalize w1.setCell ⟨b, j * 8 + 1, none⟩ (.string t1) = x3 at *
      refine T2.mono ?_
      rintro e w2 ⟨t2, rfl, b2⟩
      have m4 := m3.grow b2 (by omega)
      have hx3 : b < x3.heap.size := Nat.lt_of_lt_of_le hbw m3.1.size
      have HC4 : Hid (∀ f, f = j * 8 + 3 ∨ f = j * 8 + 7 ∨ (j + 1) * 8 ≤ f → w2.cell? ⟨b, f, none⟩ = w.cell? ⟨b, f, none⟩) := fun f hf => (b2.cell (p := ⟨b, f, none⟩) hx3).trans (HC3.out f hf)
      clear T2 s1 f1 HC3 m3 b2
      obtain ⟨s2, f2⟩ := HSM.out w2 m4 2 (by omega)
      obtain ⟨u2, s2⟩ := Option.isSome_iff_exists.1 s2
      have m5 := m4.set (i := j * 8 + 2) (.string t2) (Nat.le_refl b) (by omega)
      have HC5 : Hid (∀ f, f = j * 8 + 3 ∨ f = j * 8 + 7 ∨ (j + 1) * 8 ≤ f → (w2.setCell ⟨b, j * 8 + 2, none⟩ (.string t2)).cell? ⟨b, f, none⟩ = w.cell? ⟨b, f, none⟩) := fun f hf => (World.cell?_setCell_other _ _ _ _ (fun e => by injection e; omega)).trans (HC4.out f hf)
      have d3 := (HC5.out (j * 8 + 3) (.inl rfl)).trans c3
      clear m4 HC4
      obtain ⟨g1, a1, b1', c1', d1'⟩ := (hw1.mkq m5).at_ hlo
      dsimp only at a1 d1'
      obtain ⟨k3, hk3e⟩ : ∃ k3, k3 = k + 3 := ⟨_, rfl⟩
      have T3 := markInt64S_mg ua g1 un uc k3 (b + 1) hi _ a1 b1' c1' d1' hun (by omega)
      rw [show (k3 : Int) = (k : Int) + 1 + 1 + 1 by omega] at T3
      go_wp2_with fail
      generalize w2.setCell ⟨b, j * 8 + 2, none⟩ (.string t2) = x5 at *
      refine T3.mono ?_
      rintro e w3 ⟨rfl, mj3, -⟩
      have m6 := m5.mkj mj3 (by omega)
      have HC6 : Hid (∀ f, f = j * 8 + 3 ∨ f = j * 8 + 7 ∨ (j + 1) * 8 ≤ f → w3.cell? ⟨b, f, none⟩ = w.cell? ⟨b, f, none⟩) := fun f hf => (mj3.1.cell (p := ⟨b, f, none⟩) (Nat.lt_succ_self _)).trans (HC5.out f hf)
      clear T3 s2 f2 HC5 m5 mj3 d3 d1'
      obtain ⟨kq, hkq⟩ : ∃ kq, k3 + un = kq := ⟨_, rfl⟩
      rw [hkq]
      obtain ⟨s4, f4⟩ := HSM.out w3 m6 4 (by omega)
      obtain ⟨u4, s4⟩ := Option.isSome_iff_exists.1 s4
      obtain ⟨s5, f5⟩ := HSM.out w3 m6 5 (by omega)
      obtain ⟨u5, s5⟩ := Option.isSome_iff_exists.1 s5
      obtain ⟨s6, f6⟩ := HSM.out w3 m6 6 (by omega)
      obtain ⟨u6, s6⟩ := Option.isSome_iff_exists.1 s6
      have m7 := ((m6.set (i := j * 8 + 4) (.int .i64 (kq : Int)) (Nat.le_refl b) (by omega)).set (i := j * 8 + 5) (.int .i64 ((kq : Int) + 1)) (Nat.le_refl b) (by omega)).set (i := j * 8 + 6) (.int .i64 ((kq : Int) + 1 + 1)) (Nat.le_refl b) (by omega)
      have HC7 : Hid (∀ f, f = j * 8 + 3 ∨ f = j * 8 + 7 ∨ (j + 1) * 8 ≤ f → (((w3.setCell ⟨b, j * 8 + 4, none⟩ (.int .i64 (kq : Int))).setCell ⟨b, j * 8 + 5, none⟩ (.int .i64 ((kq : Int) + 1))).setCell ⟨b, j * 8 + 6, none⟩ (.int .i64 ((kq : Int) + 1 + 1))).cell? ⟨b, f, none⟩ = w.cell? ⟨b, f, none⟩) := fun f hf => (World.cell?_setCell_other _ _ _ _ (fun e => by injection e; omega)).trans ((World.cell?_setCell_other _ _ _ _ (fun e => by injection e; omega)).trans ((World.cell?_setCell_other _ _ _ _ (fun e => by injection e; omega)).trans (HC6.out f hf)))
      have d7 := (HC7.out (j * 8 + 7) (.inr (.inl rfl))).trans c7
      obtain ⟨g2, a2, b2', c2', d2'⟩ := (hw2.mkq m7).at_ hlo
      dsimp only at a2 d2'
      obtain ⟨kr, hkr⟩ : ∃ kr, kr = kq + 3 := ⟨_, rfl⟩
      have T4 := markByteS_mg ba g2 bn bc' kr (b + 1) hi _ a2 b2' c2' d2' hbn (by omega)
      rw [show (kr : Int) = (kq : Int) + 1 + 1 + 1 by omega] at T4
      clear m6 HC6
      go_wp2_with fail
      generalize ((w3.setCell ⟨b, j * 8 + 4, none⟩ (.int .i64 (kq : Int))).setCell ⟨b, j * 8 + 5, none⟩ (.int .i64 ((kq : Int) + 1))).setCell ⟨b, j * 8 + 6, none⟩ (.int .i64 ((kq : Int) + 1 + 1)) = x7 at *
      refine T4.mono ?_
      rintro e w4 ⟨rfl, mj4, -⟩
      have m8 := m7.mkj mj4 (by omega)
      have HC8 : Hid (∀ f, (j + 1) * 8 ≤ f → w4.cell? ⟨b, f, none⟩ = w.cell? ⟨b, f, none⟩) := fun f hf => (mj4.1.cell (p := ⟨b, f, none⟩) (Nat.lt_succ_self _)).trans (HC7.out f (.inr (.inr hf)))
      obtain ⟨ke, hke⟩ : ∃ ke, kr + bn = ke := ⟨_, rfl⟩
      rw [hke]
      have hke2 : 1 ≤ ke ∧ ke ≤ 1 + (j + 1) * 3000000 := by omega
      clear T4 s4 s5 s6 f4 f5 f6 HC7 m7 mj4 d7 d2' hke hkr hkq
      go_wp2
      go_roundw
      case rel => exact ⟨j + 1, ke, by omega, by go_num, rfl, hke2.1, hke2.2, m8, HC8.out⟩
      case measure => simp [intOf]; omega
    · have hji : ¬ (j : Int) < (n : Int) := by omega
      clear hce
      go_wp2
      go_ret
      exact ⟨k, rfl, hmk⟩
end Go.Proofs.YtlmbieclgkpofaaDoor
