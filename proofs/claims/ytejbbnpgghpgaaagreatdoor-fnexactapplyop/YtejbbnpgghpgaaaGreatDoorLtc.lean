/- Mailboxes, a store turned into the program's lie in memory of their own; no conditions beyond those that each fact names. -/
import Derived.Test.YtejbbnpgghpgaaaGreatDoorMdmToLtb
namespace Go.Proofs.YtejbbnpgghpgaaaGreatDoor
open Go.RowKit
set_option linter.unusedVariables false

set_option maxHeartbeats 1600000 in
set_option maxRecDepth 100000 in
theorem toBox_cm (m : Bx) (s : SlQ) {lo : Nat} (w : World) (hs : IsMs lo w s m.m) (hf : FtX m) :
    Calls Tryz.prog 119 #[bxX m s] w fun e w' => ∃ s' ms, e = .returned (bxX m s') ∧ CM w.heap.size w' s' m.m ms ∧ Below w.heap.size w w' := by
  have hbW : Below w.heap.size w (((w.alloc (.cells #[.string m.n, .int .i64 m.v, .int .i64 m.x, slW s] 123)).alloc (.cells #[.string ByteArray.empty, .int .i64 0, .int .i64 0, .slice none 0 0] 128)).alloc (.cells #[.string m.n, .int .i64 m.v, .int .i64 m.x, .slice none 0 0] 128)) :=
    (((Below.refl _ _).alloc (Nat.le_refl _) _).alloc (by simp) _).alloc (by simp; omega) _
  have hsz : (((w.alloc (.cells #[.string m.n, .int .i64 m.v, .int .i64 m.x, slW s] 123)).alloc (.cells #[.string ByteArray.empty, .int .i64 0, .int .i64 0, .slice none 0 0] 128)).alloc (.cells #[.string m.n, .int .i64 m.v, .int .i64 m.x, .slice none 0 0] 128)).heap.size = w.heap.size + 3 := by simp
  have HC := toMessageS_cm s m.m _ (hs.below hbW) hf.2
  go_enter Tryz.func119, Tryz.ntmps119
  go_wp2_with fail
  refine HC.mono ?_
  rintro e w1 ⟨s', ms, rfl, hr, hb1⟩
  rw [hsz] at hb1 hr
  obtain ⟨⟨z0, z1, z2, z3, y0, y1, y2, y3⟩, ⟨k0, k1, k2, k3, x0, x1, x2, x3⟩⟩ := qd_blocks rfl hb1
  have hz : w.heap.size + 3 ≤ w1.heap.size := by rw [← hsz]; exact hb1.size
  have hbw : Below w.heap.size w w1 := hbW.trans (hb1.mono (by omega))
  have HS : Hid (CM (w.heap.size + 3) w1 s' m.m ms) := hr
  clear HC hb1 hbW hsz hr hs
  have hg1 : w.heap.size + 1 + 1 ≠ w.heap.size + 1 := by omega
  have k3' := World.cell?_setCell_same _ _ (slW s') k3
  obtain ⟨q0, q1, q2, q3⟩ := qd_cells (wr := w1.setCell ⟨w.heap.size + 1 + 1, 3, none⟩ (slW s')) (sz := w.heap.size + 1) ((World.cell?_setCell_other _ _ _ _ (by simp)).trans z0) ((World.cell?_setCell_other _ _ _ _ (by simp)).trans z1) ((World.cell?_setCell_other _ _ _ _ (by simp)).trans z2) ((World.cell?_setCell_other _ _ _ _ (by simp)).trans z3) (.string m.n) (.int .i64 m.v) (.int .i64 m.x) (slW s')
  go_wp2
  refine bodyPost_ret (v := .agg #[.string m.n, .int .i64 m.v, .int .i64 m.x, slW s']) (by simp [results, Tryz.results119, go_sem, q0, q1, q2, q3]) rfl ?_
  have hC : CM (w.heap.size + 3) w1 s' m.m ms := HS.out
  refine ⟨s', ms, rfl, (((((hC.far (w.heap.size + 1 + 1) 3 (slW s') (fun hc => by have := HS.out.2.2.2 _ hc; omega)).far (w.heap.size + 1) 0 (.string m.n) (fun hc => by have := HS.out.2.2.2 _ hc; omega)).far (w.heap.size + 1) 1 (.int .i64 m.v) (fun hc => by have := HS.out.2.2.2 _ hc; omega)).far (w.heap.size + 1) 2 (.int .i64 m.x) (fun hc => by have := HS.out.2.2.2 _ hc; omega)).far (w.heap.size + 1) 3 (slW s') (fun hc => by have := HS.out.2.2.2 _ hc; omega)).low (by omega), ?_⟩
  exact ((((hbw.setCell (by simp; omega) _).setCell (by simp) _).setCell (by simp) _).setCell (by simp) _).setCell (by simp) _

def CpL (w : World) (l : List Bx) (e : Ending) (w' : World) : Prop := ∃ s xs, e = .returned (slW s) ∧ CX w.heap.size w' s l xs ∧ Below w.heap.size w w'

/-- Mailboxes whose messages lie from the block N on, no block twice. -/
def KX (N : Nat) (w : World) (l : List Bx) (xs : List Dx) : Prop := (∀ d ∈ xs, HM w d.s d.ms) ∧ xs.map Dx.bx = l ∧ (fpX xs).Nodup ∧ ∀ g ∈ fpX xs, N ≤ g
theorem KX.nil (N : Nat) (w : World) : KX N w [] [] := ⟨fun d hd => by simp at hd, rfl, by simp [fpX], by simp [fpX]⟩
theorem KX.far {N : Nat} {w : World} {l : List Bx} {xs : List Dx} {g : Nat} (h : KX N w l xs) (hg : g < N) (j : Nat) (u : Value) : KX N (w.setCell ⟨g, j, none⟩ u) l xs :=
  ⟨fun d hd => (h.1 d hd).keep fun k hk => Below.heap_setCell _ _ _ _ (by have := h.2.2.2 k (List.mem_flatMap.2 ⟨d, hd, hk⟩); dsimp only; omega), h.2⟩
theorem KX.snoc {N : Nat} {w w' : World} {l : List Bx} {xs : List Dx} {b : Bx} {sd : SlQ} {ms : List Dm} (h : KX N w l xs) (hb : Below w.heap.size w w') (hd : CM w.heap.size w' sd b.m ms) (hN : N ≤ w.heap.size) : KX N w' (l ++ [b]) (xs ++ [⟨b.n, b.v, b.x, sd, ms⟩]) := by
  have hlt : ∀ g ∈ fpX xs, g < w.heap.size := fun g hg => by
    obtain ⟨d, hd, hg⟩ := List.mem_flatMap.1 hg
    exact (h.1 d hd).lt g hg
  have e : fpX (xs ++ [⟨b.n, b.v, b.x, sd, ms⟩]) = fpX xs ++ (blkS sd ++ fpM ms) := by simp [fpX, fpD]
  refine ⟨fun d hd' => ?_, ?_, ?_, fun g hg => ?_⟩
  · rcases List.mem_append.1 hd' with h' | h'
    · exact (h.1 d h').below hb (Nat.le_refl _)
    · rw [List.mem_singleton] at h'
      subst h'
      exact hd.1
  · rw [List.map_append, h.2.1, List.map_cons, List.map_nil]
    unfold Dx.bx
    dsimp only
    rw [hd.2.1]
  · rw [e]
    refine List.nodup_append.2 ⟨h.2.2.1, hd.2.2.1, fun x hx y hy => ?_⟩
    have h1 := hlt x hx
    have h2 := hd.2.2.2 y hy
    omega
  · rw [e] at hg
    rcases List.mem_append.1 hg with h' | h'
    · exact h.2.2.2 g h'
    · exact Nat.le_trans hN (hd.2.2.2 g h')

set_option maxHeartbeats 1600000 in
set_option maxRecDepth 100000 in
theorem toBoxS_cx (s : SlQ) (l : List Bx) {lo : Nat} (w : World) (hs : IsXs lo w s l) (hf : FtXs l) :
    Calls Tryz.prog 59 #[slW s] w fun e w' => CpL w l e w' := by
  obtain ⟨a, n, cap⟩ := s
  obtain ⟨hl, hnc, hcm, hr⟩ := hs
  obtain ⟨hn, hft⟩ := hf
  dsimp only [slW] at *
  obtain ⟨i0, hi, hz0, hz1, hz2⟩ := info_parts infoBox
  go_enter Tryz.func59, Tryz.ntmps59
  go_wp2_with (at_make; refine wpList_make_full _ rfl _ _ 31 rfl w.heap.size 128 i0 (.agg #[.string ByteArray.empty, .int .i64 0, .int .i64 0, .slice none 0 0]) 4 Tryz.underlying31 hi hz0 hz1 .i64 .i64 _ _ n rfl rfl rfl rfl (by rw [hz2]; omega) (by unfold maxLen; omega) (Nat.le_refl _) ?_; intro w0 hown0 hgrow0)
  have hown0' : w0.ownsRow w.heap.size 128 4 (.slice (some ⟨w.heap.size, 0, none⟩) n n) n (qc (halfQ zBox [] n)) := by
    rw [halfQ_zero, ← made_quads]
    exact hown0
  have hbel0 : Below w.heap.size w w0 := (Below.refl _ _).grown hgrow0 (Nat.le_refl _) (by intro k hk; cases hk)
  clear hgrow0 hown0
  go_loopw [4] (fun i wr => ∃ (k : Nat) (ms : List Dx), k ≤ n ∧ i = .int .i64 k ∧ (ms.map Dx.q).length = k ∧ wr.ownsRow w.heap.size 128 4 (.slice (some ⟨w.heap.size, 0, none⟩) n n) n (qc (halfQ zBox (ms.map Dx.q) n)) ∧ KX (w.heap.size + 1) wr (l.take k) ms ∧ Below w.heap.size w wr)
    (fun i _ => n - (intOf i).toNat)
  case atStart => exact ⟨0, [], Nat.zero_le _, rfl, rfl, hown0', KX.nil _ _, hbel0⟩
  case round =>
    obtain ⟨k, ms, hk, rfl, hqk, hown, hall, hbel⟩ := hrel
    obtain ⟨ql, hql⟩ : ∃ ql, ms.map Dx.q = ql := ⟨_, rfl⟩
    rw [hql] at hqk hown
    have HQL : Hid (_ = _) := hql
    clear hql
    clear hown0' hbel0
    by_cases hkn : k < n
    · obtain ⟨b, off, rfl, -, hblt, hcell⟩ := (hr.below hbel).at_ (by omega)
      obtain ⟨s, ⟨hc0, hc1, hc2, hc3⟩, hI⟩ := hcell k (by omega)
      have hgl : w.heap.size < wr.heap.size := (hown.lt w.heap.size rfl).2
      have HC := toBox_cm (nthX l k) s wr hI (hft k (by omega))
      have hki : (k : Int) < (n : Int) := by omega
      have HT : Hid (l.take (k + 1) = l.take k ++ [nthX l k]) := take_snocX l k (by omega)
      have hall0 := hall
      have HFS : Hid (∀ s', qc ((halfQ zBox ql n).set k (bxQ (nthX l k) s')) = qc (halfQ zBox (ql ++ [bxQ (nthX l k) s']) n)) := fun s' => by
        rw [← hqk, halfQ_set zBox ql n _ (by omega)]
      clear hcell hall hI
      have HAL : Hid (_) := hall0
      clear hall0
      generalize nthX l k = p at *
      obtain ⟨n0, v0, x0, m0⟩ := p
      dsimp only at hc0 hc1 hc2
      go_wp2_with fail
      refine HC.mono ?_
      rintro e w1 ⟨s', ms1, rfl, hI1, hb1⟩
      have hown1 := ownQ_below hown hb1 (Nat.le_refl _)
      have hbel1 : Below w.heap.size w w1 := hbel.trans (hb1.mono hbel.size)
      have hhl : (halfQ zBox ql n).length = n := halfQ_len _ _ _ (by omega)
      obtain ⟨-, g0, g1, g2, g3⟩ := ownQ_cells hown1 k (by omega)
      have z0 := hown1.frozenAt (k * 4)
      have z1 := hown1.frozenAt (k * 4 + 1)
      have z2 := hown1.frozenAt (k * 4 + 2)
      have z3 := hown1.frozenAt (k * 4 + 3)
      obtain ⟨hst, -⟩ := hown1.stored (k * 4) (.string n0)
      obtain ⟨hst2, -⟩ := hst.stored (k * 4 + 1) (.int .i64 v0)
      obtain ⟨hst3, -⟩ := hst2.stored (k * 4 + 2) (.int .i64 x0)
      obtain ⟨hst4, -⟩ := hst3.stored (k * 4 + 3) (slW s')
      rw [qc_set (halfQ zBox ql n) k (bxQ ⟨n0, v0, x0, m0⟩ s') (by omega), HFS.out s'] at hst4
      have HX : Hid (KX (w.heap.size + 1) ((((w1.setCell ⟨w.heap.size, k * 4, none⟩ (.string n0)).setCell ⟨w.heap.size, k * 4 + 1, none⟩ (.int .i64 v0)).setCell ⟨w.heap.size, k * 4 + 2, none⟩ (.int .i64 x0)).setCell ⟨w.heap.size, k * 4 + 3, none⟩ (slW s')) (l.take (k + 1)) (ms ++ [⟨n0, v0, x0, s', ms1⟩])) := by
        show KX _ _ _ _
        rw [HT.out]
        have hK : KX (w.heap.size + 1) wr (l.take k) ms := HAL.out
        exact ((((hK.snoc (b := ⟨n0, v0, x0, m0⟩) hb1 hI1 hgl).far (by omega) _ _).far (by omega) _ _).far (by omega) _ _).far (by omega) _ _
      have HQ2 : Hid ((ms ++ [(⟨n0, v0, x0, s', ms1⟩ : Dx)]).map Dx.q = ql ++ [bxQ ⟨n0, v0, x0, m0⟩ s']) := by show _ = _; rw [List.map_append, HQL.out]; rfl
      have HB2 : Hid (Below w.heap.size w ((((w1.setCell ⟨w.heap.size, k * 4, none⟩ (.string n0)).setCell ⟨w.heap.size, k * 4 + 1, none⟩ (.int .i64 v0)).setCell ⟨w.heap.size, k * 4 + 2, none⟩ (.int .i64 x0)).setCell ⟨w.heap.size, k * 4 + 3, none⟩ (slW s'))) := (((hbel1.setCell (by simp) _).setCell (by simp) _).setCell (by simp) _).setCell (by simp) _
      have HO2 : Hid (_) := hst4
      generalize (nthQ (halfQ zBox ql n) k) = y at *
      obtain ⟨y0, y1, y2, y3⟩ := y
      dsimp only at g0 g1 g2 g3
      clear hst hst2 hst3 hst4 hown1 hown hb1 HFS hbel HC hI1 HT HAL HQL
      go_wp2
      go_roundw
      case rel => exact ⟨k + 1, _, by omega, by go_num, by rw [HQ2.out]; simp [hqk], by rw [HQ2.out]; exact HO2.out, HX.out, HB2.out⟩
      case measure => simp [intOf]; omega
    · have hkk : k = n := by omega
      subst hkk
      have hki : ¬ (k : Int) < (k : Int) := by omega
      have hml : ms.length = k := by rw [← hqk, ← HQL.out, List.length_map]
      have HO : Hid (CX w.heap.size wr (some ⟨w.heap.size, 0, none⟩, k, k) l ms) := by
        have e1 : halfQ zBox ql k = ms.map Dx.q := by rw [HQL.out, ← hqk]; exact halfQ_all _ _
        rw [e1] at hown
        rw [List.take_of_length_le (by omega)] at hall
        refine ⟨⟨by rw [hml]; exact row_low hown (Nat.zero_le _), hall.1⟩, hall.2.1, ?_, fun g hg => ?_⟩
        · refine List.nodup_append.2 ⟨blkS_nodup _, hall.2.2.1, fun x hx y hy => ?_⟩
          have h1 := hall.2.2.2 y hy
          have h2 : x = w.heap.size := by simpa [blkS] using hx
          omega
        · rcases List.mem_append.1 hg with h | h
          · have h2 : g = w.heap.size := by simpa [blkS] using h
            omega
          · have h1 := hall.2.2.2 g h
            omega
      clear hown hall
      go_wp2
      go_ret
      exact ⟨_, _, rfl, HO.out, hbel⟩

set_option maxHeartbeats 1600000 in
set_option maxRecDepth 100000 in
theorem toStore_cx (v : Int) (s : SlQ) (l : List Bx) {lo : Nat} (w : World) (hs : IsXs lo w s l) (hf : FtXs l) :
    Calls Tryz.prog 15 #[.agg #[.int .i64 v, slW s]] w fun e w' => ∃ s' xs, e = .returned (.agg #[.int .i64 v, slW s']) ∧ CX w.heap.size w' s' l xs ∧ Below w.heap.size w w' := by
  have hbW : Below w.heap.size w (((w.alloc (.cells #[.int .i64 v, slW s] 24)).alloc (.cells #[.int .i64 0, .slice none 0 0] 33)).alloc (.cells #[.int .i64 v, .slice none 0 0] 33)) :=
    (((Below.refl _ _).alloc (Nat.le_refl _) _).alloc (by simp) _).alloc (by simp; omega) _
  have hsz : (((w.alloc (.cells #[.int .i64 v, slW s] 24)).alloc (.cells #[.int .i64 0, .slice none 0 0] 33)).alloc (.cells #[.int .i64 v, .slice none 0 0] 33)).heap.size = w.heap.size + 3 := by simp
  have HC := toBoxS_cx s l _ (hs.below hbW) hf
  go_enter Tryz.func15, Tryz.ntmps15
  go_wp2_with fail
  refine HC.mono ?_
  rintro e w1 ⟨s', xs, rfl, hr, hb1⟩
  rw [hsz] at hb1 hr
  obtain ⟨⟨z0, z1, y0, y1⟩, ⟨k0, k1, x0, x1⟩⟩ := dc_blocks rfl hb1
  have hz : w.heap.size + 3 ≤ w1.heap.size := by rw [← hsz]; exact hb1.size
  have hbw : Below w.heap.size w w1 := hbW.trans (hb1.mono (by omega))
  have HS : Hid (CX (w.heap.size + 3) w1 s' l xs) := hr
  clear HC hb1 hbW hsz hr hs
  have hg1 : w.heap.size + 1 + 1 ≠ w.heap.size + 1 := by omega
  have k3' := World.cell?_setCell_same _ _ (slW s') k1
  obtain ⟨q0, q1⟩ := res_cells (wr := w1.setCell ⟨w.heap.size + 1 + 1, 1, none⟩ (slW s')) (sz := w.heap.size + 1) ((World.cell?_setCell_other _ _ _ _ (by simp)).trans z0) ((World.cell?_setCell_other _ _ _ _ (by simp)).trans z1) (.int .i64 v) (slW s')
  go_wp2
  refine bodyPost_ret (v := .agg #[.int .i64 v, slW s']) (by simp [results, Tryz.results15, go_sem, q0, q1]) rfl ?_
  have hC : CX (w.heap.size + 3) w1 s' l xs := HS.out
  refine ⟨s', xs, rfl, (((hC.far (w.heap.size + 1 + 1) 1 (slW s') (fun hc => by have := HS.out.2.2.2 _ hc; omega)).far (w.heap.size + 1) 0 (.int .i64 v) (fun hc => by have := HS.out.2.2.2 _ hc; omega)).far (w.heap.size + 1) 1 (slW s') (fun hc => by have := HS.out.2.2.2 _ hc; omega)).low (by omega), ?_⟩
  exact ((hbw.setCell (by simp; omega) _).setCell (by simp) _).setCell (by simp) _
end Go.Proofs.YtejbbnpgghpgaaaGreatDoor
