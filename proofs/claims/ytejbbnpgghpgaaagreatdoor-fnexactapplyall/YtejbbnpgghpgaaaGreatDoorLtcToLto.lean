/- Mailboxes, a store turned into the program's lie in memory of their own; no conditions beyond those that each fact names · An op that the law turns lies in memory of its own; its marks; whether two results are the same; no conditions beyond those that each fact names. -/
import Derived.Test.YtejbbnpgghpgaaaGreatDoorMdmToLtb
import Derived.Test.YtejbbnpgghpgaaaGreatDoorLhdToLst
import Derived.Test.YtejbbnpgghpgaaaGreatDoorLszToMda
namespace Go.Proofs.YtejbbnpgghpgaaaGreatDoor
open Go.RowKit
set_option linter.unusedVariables false
set_option maxHeartbeats 1600000 in
set_option maxRecDepth 100000 in
theorem toBox_cm (m : Bx) (s : SlQ) {lo : Nat} (w : World) (hs : IsMs lo w s m.m) (hf : FtX m) :
    Calls Tryz.prog 119 #[bxX m s] w fun e w' => ∃ s' ms, e = .returned (bxX m s') ∧ CM w.heap.size w' s' m.m ms ∧ Below w.heap.size w w' := by
  have hbW : Below w.heap.size w (((w.alloc (.cells #[.string m.n, .int .i64 m.v, .int .i64 m.x, slW s] 123)).alloc (.cells #[.string ByteArray.empty, .int .i64 0, .int .i64 0, .slice none 0 0] 128)).alloc (.cells #[.string m.n, .int .i64 m.v, .int .i64 m.x, .slice none 0 0] 128)) :=
    (((Below.refl _ _).alloc (Nat.le_refl _) _).alloc (by simp) _).alloc (by simp; omega) _
  have hsz : (((w.alloc (.cells #[.string m.n, .int .i64 m.v, .int .i64 m.x, slW s] 123)).alloc (.cells #[.string ByteArray.empty, .int .i64 0, .int .i64 0, .slice none 0 0] 128)).alloc (.cells #[.string m.n, .int .i64 m.v, .int .i64 m.x, .slice none 0 0] 128)).heap.size = w.heap.size + 3 := by simp
  have HC := toMessageS_cm s m.m _ (hs.below hbW) hf.2
  go_enter Tryz.func119, Tryz.ntmps119
  go_wp2_with fail
  refine HC.mono ?_
  rintro e w1 ⟨s', ms, rfl, hr, hb1⟩
  rw [hsz] at hb1 hr
  obtain ⟨⟨z0, z1, z2, z3, y0, y1, y2, y3⟩, ⟨k0, k1, k2, k3, x0, x1, x2, x3⟩⟩ := qd_blocks rfl hb1
  have hz : w.heap.size + 3 ≤ w1.heap.size := by rw [← hsz]; exact hb1.size
  have hbw : Below w.heap.size w w1 := hbW.trans (hb1.mono (by omega))
  have HS : Hid (CM (w.heap.size + 3) w1 s' m.m ms) := hr
  clear HC hb1 hbW hsz hr hs
  have hg1 : w.heap.size + 1 + 1 ≠ w.heap.size + 1 := by omega
  have k3' := World.cell?_setCell_same _ _ (slW s') k3
  obtain ⟨q0, q1, q2, q3⟩ := qd_cells (wr := w1.setCell ⟨w.heap.size + 1 + 1, 3, none⟩ (slW s')) (sz := w.heap.size + 1) ((World.cell?_setCell_other _ _ _ _ (by simp)).trans z0) ((World.cell?_setCell_other _ _ _ _ (by simp)).trans z1) ((World.cell?_setCell_other _ _ _ _ (by simp)).trans z2) ((World.cell?_setCell_other _ _ _ _ (by simp)).trans z3) (.string m.n) (.int .i64 m.v) (.int .i64 m.x) (slW s')
  go_wp2
  refine bodyPost_ret (v := .agg #[.string m.n, .int .i64 m.v, .int .i64 m.x, slW s']) (by simp [results, Tryz.results119, go_sem, q0, q1, q2, q3]) rfl ?_
  have hC : CM (w.heap.size + 3) w1 s' m.m ms := HS.out
  refine ⟨s', ms, rfl, (((((hC.far (w.heap.size + 1 + 1) 3 (slW s') (fun hc => by have := HS.out.2.2.2 _ hc; omega)).far (w.heap.size + 1) 0 (.string m.n) (fun hc => by have := HS.out.2.2.2 _ hc; omega)).far (w.heap.size + 1) 1 (.int .i64 m.v) (fun hc => by have := HS.out.2.2.2 _ hc; omega)).far (w.heap.size + 1) 2 (.int .i64 m.x) (fun hc => by have := HS.out.2.2.2 _ hc; omega)).far (w.heap.size + 1) 3 (slW s') (fun hc => by have := HS.out.2.2.2 _ hc; omega)).low (by omega), ?_⟩
  exact ((((hbw.setCell (by simp; omega) _).setCell (by simp) _).setCell (by simp) _).setCell (by simp) _).setCell (by simp) _
def CpL (w : World) (l : List Bx) (e : Ending) (w' : World) : Prop := ∃ s xs, e = .returned (slW s) ∧ CX w.heap.size w' s l xs ∧ Below w.heap.size w w'
def KX (N : Nat) (w : World) (l : List Bx) (xs : List Dx) : Prop := (∀ d ∈ xs, HM w d.s d.ms) ∧ xs.map Dx.bx = l ∧ (fpX xs).Nodup ∧ ∀ g ∈ fpX xs, N ≤ g
theorem KX.nil (N : Nat) (w : World) : KX N w [] [] := ⟨fun d hd => by simp at hd, rfl, by simp [fpX], by simp [fpX]⟩
theorem KX.far {N : Nat} {w : World} {l : List Bx} {xs : List Dx} {g : Nat} (h : KX N w l xs) (hg : g < N) (j : Nat) (u : Value) : KX N (w.setCell ⟨g, j, none⟩ u) l xs :=
  ⟨fun d hd => (h.1 d hd).keep fun k hk => Below.heap_setCell _ _ _ _ (by have := h.2.2.2 k (List.mem_flatMap.2 ⟨d, hd, hk⟩); dsimp only; omega), h.2⟩
theorem KX.snoc {N : Nat} {w w' : World} {l : List Bx} {xs : List Dx} {b : Bx} {sd : SlQ} {ms : List Dm} (h : KX N w l xs) (hb : Below w.heap.size w w') (hd : CM w.heap.size w' sd b.m ms) (hN : N ≤ w.heap.size) : KX N w' (l ++ [b]) (xs ++ [⟨b.n, b.v, b.x, sd, ms⟩]) := by
  have hlt : ∀ g ∈ fpX xs, g < w.heap.size := fun g hg => by
    obtain ⟨d, hd, hg⟩ := List.mem_flatMap.1 hg
    exact (h.1 d hd).lt g hg
  have e : fpX (xs ++ [⟨b.n, b.v, b.x, sd, ms⟩]) = fpX xs ++ (blkS sd ++ fpM ms) := by simp [fpX, fpD]
  refine ⟨fun d hd' => ?_, ?_, ?_, fun g hg => ?_⟩
  · rcases List.mem_append.1 hd' with h' | h'
    · exact (h.1 d h').below hb (Nat.le_refl _)
    · rw [List.mem_singleton] at h'
      subst h'
      exact hd.1
  · rw [List.map_append, h.2.1, List.map_cons, List.map_nil]
    unfold Dx.bx
    dsimp only
    rw [hd.2.1]
  · rw [e]
    refine List.nodup_append.2 ⟨h.2.2.1, hd.2.2.1, fun x hx y hy => ?_⟩
    have h1 := hlt x hx
    have h2 := hd.2.2.2 y hy
    omega
  · rw [e] at hg
    rcases List.mem_append.1 hg with h' | h'
    · exact h.2.2.2 g h'
    · exact Nat.le_trans hN (hd.2.2.2 g h')
set_option maxHeartbeats 1600000 in
set_option maxRecDepth 100000 in
theorem toBoxS_cx (s : SlQ) (l : List Bx) {lo : Nat} (w : World) (hs : IsXs lo w s l) (hf : FtXs l) :
    Calls Tryz.prog 59 #[slW s] w fun e w' => CpL w l e w' := by
  obtain ⟨a, n, cap⟩ := s
  obtain ⟨hl, hnc, hcm, hr⟩ := hs
  obtain ⟨hn, hft⟩ := hf
  dsimp only [slW] at *
  obtain ⟨i0, hi, hz0, hz1, hz2⟩ := info_parts infoBox
  go_enter Tryz.func59, Tryz.ntmps59
  go_wp2_with (at_make; refine wpList_make_full _ rfl _ _ 31 rfl w.heap.size 128 i0 (.agg #[.string ByteArray.empty, .int .i64 0, .int .i64 0, .slice none 0 0]) 4 Tryz.underlying31 hi hz0 hz1 .i64 .i64 _ _ n rfl rfl rfl rfl (by rw [hz2]; omega) (by unfold maxLen; omega) (Nat.le_refl _) ?_; intro w0 hown0 hgrow0)
  have hown0' : w0.ownsRow w.heap.size 128 4 (.slice (some ⟨w.heap.size, 0, none⟩) n n) n (qc (halfQ zBox [] n)) := by
    rw [halfQ_zero, ← made_quads]
    exact hown0
  have hbel0 : Below w.heap.size w w0 := (Below.refl _ _).grown hgrow0 (Nat.le_refl _) (by intro k hk; cases hk)
  clear hgrow0 hown0
  go_loopw [4] (fun i wr => ∃ (k : Nat) (ms : List Dx), k ≤ n ∧ i = .int .i64 k ∧ (ms.map Dx.q).length = k ∧ wr.ownsRow w.heap.size 128 4 (.slice (some ⟨w.heap.size, 0, none⟩) n n) n (qc (halfQ zBox (ms.map Dx.q) n)) ∧ KX (w.heap.size + 1) wr (l.take k) ms ∧ Below w.heap.size w wr)
    (fun i _ => n - (intOf i).toNat)
  case atStart => exact ⟨0, [], Nat.zero_le _, rfl, rfl, hown0', KX.nil _ _, hbel0⟩
  case round =>
    obtain ⟨k, ms, hk, rfl, hqk, hown, hall, hbel⟩ := hrel
    obtain ⟨ql, hql⟩ : ∃ ql, ms.map Dx.q = ql := ⟨_, rfl⟩
    rw [hql] at hqk hown
    have HQL : Hid (_ = _) := hql
    clear hql
    clear hown0' hbel0
    by_cases hkn : k < n
    · obtain ⟨b, off, rfl, -, hblt, hcell⟩ := (hr.below hbel).at_ (by omega)
      obtain ⟨s, ⟨hc0, hc1, hc2, hc3⟩, hI⟩ := hcell k (by omega)
      have hgl : w.heap.size < wr.heap.size := (hown.lt w.heap.size rfl).2
      have HC := toBox_cm (nthX l k) s wr hI (hft k (by omega))
      have hki : (k : Int) < (n : Int) := by omega
      have HT : Hid (l.take (k + 1) = l.take k ++ [nthX l k]) := take_snocX l k (by omega)
      have hall0 := hall
      have HFS : Hid (∀ s', qc ((halfQ zBox ql n).set k (bxQ (nthX l k) s')) = qc (halfQ zBox (ql ++ [bxQ (nthX l k) s']) n)) := fun s' => by
        rw [← hqk, halfQ_set zBox ql n _ (by omega)]
      clear hcell hall hI
      have HAL : Hid (_) := hall0
      clear hall0
      generalize nthX l k = p at *
      obtain ⟨n0, v0, x0, m0⟩ := p
      dsimp only at hc0 hc1 hc2
      go_wp2_with fail
      refine HC.mono ?_
      rintro e w1 ⟨s', ms1, rfl, hI1, hb1⟩
      have hown1 := ownQ_below hown hb1 (Nat.le_refl _)
      have hbel1 : Below w.heap.size w w1 := hbel.trans (hb1.mono hbel.size)
      have hhl : (halfQ zBox ql n).length = n := halfQ_len _ _ _ (by omega)
      obtain ⟨-, g0, g1, g2, g3⟩ := ownQ_cells hown1 k (by omega)
      have z0 := hown1.frozenAt (k * 4)
      have z1 := hown1.frozenAt (k * 4 + 1)
      have z2 := hown1.frozenAt (k * 4 + 2)
      have z3 := hown1.frozenAt (k * 4 + 3)
      obtain ⟨hst, -⟩ := hown1.stored (k * 4) (.string n0)
      obtain ⟨hst2, -⟩ := hst.stored (k * 4 + 1) (.int .i64 v0)
      obtain ⟨hst3, -⟩ := hst2.stored (k * 4 + 2) (.int .i64 x0)
      obtain ⟨hst4, -⟩ := hst3.stored (k * 4 + 3) (slW s')
      rw [qc_set (halfQ zBox ql n) k (bxQ ⟨n0, v0, x0, m0⟩ s') (by omega), HFS.out s'] at hst4
      have HX : Hid (KX (w.heap.size + 1) ((((w1.setCell ⟨w.heap.size, k * 4, none⟩ (.string n0)).setCell ⟨w.heap.size, k * 4 + 1, none⟩ (.int .i64 v0)).setCell ⟨w.heap.size, k * 4 + 2, none⟩ (.int .i64 x0)).setCell ⟨w.heap.size, k * 4 + 3, none⟩ (slW s')) (l.take (k + 1)) (ms ++ [⟨n0, v0, x0, s', ms1⟩])) := by
        show KX _ _ _ _
        rw [HT.out]
        have hK : KX (w.heap.size + 1) wr (l.take k) ms := HAL.out
        exact ((((hK.snoc (b := ⟨n0, v0, x0, m0⟩) hb1 hI1 hgl).far (by omega) _ _).far (by omega) _ _).far (by omega) _ _).far (by omega) _ _
      have HQ2 : Hid ((ms ++ [(⟨n0, v0, x0, s', ms1⟩ : Dx)]).map Dx.q = ql ++ [bxQ ⟨n0, v0, x0, m0⟩ s']) := by show _ = _; rw [List.map_append, HQL.out]; rfl
      have HB2 : Hid (Below w.heap.size w ((((w1.setCell ⟨w.heap.size, k * 4, none⟩ (.string n0)).setCell ⟨w.heap.size, k * 4 + 1, none⟩ (.int .i64 v0)).setCell ⟨w.heap.size, k * 4 + 2, none⟩ (.int .i64 x0)).setCell ⟨w.heap.size, k * 4 + 3, none⟩ (slW s'))) := (((hbel1.setCell (by simp) _).setCell (by simp) _).setCell (by simp) _).setCell (by simp) _
      have HO2 : Hid (_) := hst4
      generalize (nthQ (halfQ zBox ql n) k) = y at *
      obtain ⟨y0, y1, y2, y3⟩ := y
      dsimp only at g0 g1 g2 g3
      clear hst hst2 hst3 hst4 hown1 hown hb1 HFS hbel HC hI1 HT HAL HQL
      go_wp2
      go_roundw
      case rel => exact ⟨k + 1, _, by omega, by go_num, by rw [HQ2.out]; simp [hqk], by rw [HQ2.out]; exact HO2.out, HX.out, HB2.out⟩
      case measure => simp [intOf]; omega
    · have hkk : k = n := by omega
      subst hkk
      have hki : ¬ (k : Int) < (k : Int) := by omega
      have hml : ms.length = k := by rw [← hqk, ← HQL.out, List.length_map]
      have HO : Hid (CX w.heap.size wr (some ⟨w.heap.size, 0, none⟩, k, k) l ms) := by
        have e1 : halfQ zBox ql k = ms.map Dx.q := by rw [HQL.out, ← hqk]; exact halfQ_all _ _
        rw [e1] at hown
        rw [List.take_of_length_le (by omega)] at hall
        refine ⟨⟨by rw [hml]; exact row_low hown (Nat.zero_le _), hall.1⟩, hall.2.1, ?_, fun g hg => ?_⟩
        · refine List.nodup_append.2 ⟨blkS_nodup _, hall.2.2.1, fun x hx y hy => ?_⟩
          have h1 := hall.2.2.2 y hy
          have h2 : x = w.heap.size := by simpa [blkS] using hx
          omega
        · rcases List.mem_append.1 hg with h | h
          · have h2 : g = w.heap.size := by simpa [blkS] using h
            omega
          · have h1 := hall.2.2.2 g h
            omega
      clear hown hall
      go_wp2
      go_ret
      exact ⟨_, _, rfl, HO.out, hbel⟩
set_option maxHeartbeats 1600000 in
set_option maxRecDepth 100000 in
theorem toStore_cx (v : Int) (s : SlQ) (l : List Bx) {lo : Nat} (w : World) (hs : IsXs lo w s l) (hf : FtXs l) :
    Calls Tryz.prog 15 #[.agg #[.int .i64 v, slW s]] w fun e w' => ∃ s' xs, e = .returned (.agg #[.int .i64 v, slW s']) ∧ CX w.heap.size w' s' l xs ∧ Below w.heap.size w w' := by
  have hbW : Below w.heap.size w (((w.alloc (.cells #[.int .i64 v, slW s] 24)).alloc (.cells #[.int .i64 0, .slice none 0 0] 33)).alloc (.cells #[.int .i64 v, .slice none 0 0] 33)) :=
    (((Below.refl _ _).alloc (Nat.le_refl _) _).alloc (by simp) _).alloc (by simp; omega) _
  have hsz : (((w.alloc (.cells #[.int .i64 v, slW s] 24)).alloc (.cells #[.int .i64 0, .slice none 0 0] 33)).alloc (.cells #[.int .i64 v, .slice none 0 0] 33)).heap.size = w.heap.size + 3 := by simp
  have HC := toBoxS_cx s l _ (hs.below hbW) hf
  go_enter Tryz.func15, Tryz.ntmps15
  go_wp2_with fail
  refine HC.mono ?_
  rintro e w1 ⟨s', xs, rfl, hr, hb1⟩
  rw [hsz] at hb1 hr
  obtain ⟨⟨z0, z1, y0, y1⟩, ⟨k0, k1, x0, x1⟩⟩ := dc_blocks rfl hb1
  have hz : w.heap.size + 3 ≤ w1.heap.size := by rw [← hsz]; exact hb1.size
  have hbw : Below w.heap.size w w1 := hbW.trans (hb1.mono (by omega))
  have HS : Hid (CX (w.heap.size + 3) w1 s' l xs) := hr
  clear HC hb1 hbW hsz hr hs
  have hg1 : w.heap.size + 1 + 1 ≠ w.heap.size + 1 := by omega
  have k3' := World.cell?_setCell_same _ _ (slW s') k1
  obtain ⟨q0, q1⟩ := res_cells (wr := w1.setCell ⟨w.heap.size + 1 + 1, 1, none⟩ (slW s')) (sz := w.heap.size + 1) ((World.cell?_setCell_other _ _ _ _ (by simp)).trans z0) ((World.cell?_setCell_other _ _ _ _ (by simp)).trans z1) (.int .i64 v) (slW s')
  go_wp2
  refine bodyPost_ret (v := .agg #[.int .i64 v, slW s']) (by simp [results, Tryz.results15, go_sem, q0, q1]) rfl ?_
  have hC : CX (w.heap.size + 3) w1 s' l xs := HS.out
  refine ⟨s', xs, rfl, (((hC.far (w.heap.size + 1 + 1) 1 (slW s') (fun hc => by have := HS.out.2.2.2 _ hc; omega)).far (w.heap.size + 1) 0 (.int .i64 v) (fun hc => by have := HS.out.2.2.2 _ hc; omega)).far (w.heap.size + 1) 1 (slW s') (fun hc => by have := HS.out.2.2.2 _ hc; omega)).low (by omega), ?_⟩
  exact ((hbw.setCell (by simp; omega) _).setCell (by simp) _).setCell (by simp) _
end Go.Proofs.YtejbbnpgghpgaaaGreatDoor
namespace Go.Proofs.YtejbbnpgghpgaaaGreatDoor
open Go.RowKit
set_option linter.unusedVariables false
theorem toIl_ow (s : SlQ) (l : List Int) {lo : Nat} (w : World) (hs : IsIl lo w s l) (hn : l.length ≤ 1048576) :
    Calls Tryz.prog 60 #[slW s] w fun e w' => ∃ s', e = .returned (slW s') ∧ IsIl w.heap.size w' s' l ∧ OwZ 2 w' s' l ∧ (∀ g ∈ blkS s', w.heap.size ≤ g) ∧ Below w.heap.size w w' :=
  (toInt64S_any s.1 s.2.1 s.2.2 l w hs.1 hs.2.2.2.1 (by rw [← hs.1]; exact hn)).mono fun _ _ ⟨he, ho, hb⟩ => ⟨(some ⟨w.heap.size, 0, none⟩, s.2.1, s.2.1), he, ⟨hs.1, Nat.le_refl _, by dsimp only; rw [← hs.1]; unfold maxLen; omega, RdI.own ho, fun x hx => by cases hx; exact Nat.le_refl _⟩, by unfold OwZ; rw [hs.1]; exact row_low ho (Nat.zero_le _), fun g hg => by simp [blkS] at hg; omega, hb⟩
theorem toSl_ow (s : SlQ) (l : List Nat) {lo : Nat} (w : World) (hs : IsSl lo w s l) (hn : l.length ≤ 1048576) :
    Calls Tryz.prog 61 #[slW s] w fun e w' => ∃ s', e = .returned (slW s') ∧ IsSl w.heap.size w' s' l ∧ OwB w' s' l ∧ (∀ g ∈ blkS s', w.heap.size ≤ g) ∧ Below w.heap.size w w' :=
  (toByteS_any s.1 s.2.1 s.2.2 l w hs.1 hs.2.2.2.2.1 (by rw [← hs.1]; exact hn)).mono fun _ _ ⟨he, ho, hb⟩ => ⟨(some ⟨w.heap.size, 0, none⟩, s.2.1, s.2.1), he, ⟨hs.1, Nat.le_refl _, by dsimp only; rw [← hs.1]; unfold maxLen; omega, hs.2.2.2.1, Rd.own ho, fun x hx => by cases hx; exact Nat.le_refl _⟩, ⟨by unfold Own; rw [hs.1]; exact row_low ho (Nat.zero_le _), hs.2.2.2.1⟩, fun g hg => by simp [blkS] at hg; omega, hb⟩
set_option maxHeartbeats 1600000 in
set_option maxRecDepth 100000 in
theorem toOp_og (o : OpR) (p : SlO) {lo : Nat} (w : World) (hs : IsOp lo w p o) (hf : FtO o) :
    Calls Tryz.prog 16 #[opX o p] w fun e w' => ∃ p', e = .returned (opX o p') ∧ IsOp w.heap.size w' p' o ∧ OwZ 2 w' p'.1 o.u ∧ OwB w' p'.2 o.b ∧ (∀ g ∈ blkS p'.1 ++ blkS p'.2, w.heap.size ≤ g) ∧ (∀ g ∈ blkS p'.1, g ∉ blkS p'.2) ∧ Below w.heap.size w w' ∧ w.heap.size < w'.heap.size := by
  have hbW : Below w.heap.size w (((w.alloc (.cells #[.int .i64 o.k, .string o.x, .string o.t, slW p.1, .int .i64 o.m, .int .i64 o.f, .int .i64 o.d, slW p.2] 28)).alloc (.cells #[.int .i64 0, .string ⟨#[]⟩, .string ⟨#[]⟩, .slice none 0 0, .int .i64 0, .int .i64 0, .int .i64 0, .slice none 0 0] 38)).alloc (.cells #[.int .i64 o.k, .string o.x, .string o.t, .slice none 0 0, .int .i64 0, .int .i64 0, .int .i64 0, .slice none 0 0] 38)) :=
    (((Below.refl _ _).alloc (Nat.le_refl _) _).alloc (by simp) _).alloc (by simp; omega) _
  have hsz : (((w.alloc (.cells #[.int .i64 o.k, .string o.x, .string o.t, slW p.1, .int .i64 o.m, .int .i64 o.f, .int .i64 o.d, slW p.2] 28)).alloc (.cells #[.int .i64 0, .string ⟨#[]⟩, .string ⟨#[]⟩, .slice none 0 0, .int .i64 0, .int .i64 0, .int .i64 0, .slice none 0 0] 38)).alloc (.cells #[.int .i64 o.k, .string o.x, .string o.t, .slice none 0 0, .int .i64 0, .int .i64 0, .int .i64 0, .slice none 0 0] 38)).heap.size = w.heap.size + 3 := by simp
  have hA : Qo (((w.alloc (.cells #[.int .i64 o.k, .string o.x, .string o.t, slW p.1, .int .i64 o.m, .int .i64 o.f, .int .i64 o.d, slW p.2] 28)).alloc (.cells #[.int .i64 0, .string ⟨#[]⟩, .string ⟨#[]⟩, .slice none 0 0, .int .i64 0, .int .i64 0, .int .i64 0, .slice none 0 0] 38)).alloc (.cells #[.int .i64 o.k, .string o.x, .string o.t, .slice none 0 0, .int .i64 0, .int .i64 0, .int .i64 0, .slice none 0 0] 38)) w.heap.size ⟨.int .i64 o.k, .string o.x, .string o.t, slW p.1, .int .i64 o.m, .int .i64 o.f, .int .i64 o.d, slW p.2⟩ := ((Qo.new w _ _ _ _ _ _ _ _ _).below ((Below.refl _ _).alloc (Nat.le_refl _) _) (by simp)).below ((Below.refl _ _).alloc (Nat.le_refl _) _) (by simp; omega)
  have hR : Qo (((w.alloc (.cells #[.int .i64 o.k, .string o.x, .string o.t, slW p.1, .int .i64 o.m, .int .i64 o.f, .int .i64 o.d, slW p.2] 28)).alloc (.cells #[.int .i64 0, .string ⟨#[]⟩, .string ⟨#[]⟩, .slice none 0 0, .int .i64 0, .int .i64 0, .int .i64 0, .slice none 0 0] 38)).alloc (.cells #[.int .i64 o.k, .string o.x, .string o.t, .slice none 0 0, .int .i64 0, .int .i64 0, .int .i64 0, .slice none 0 0] 38)) (w.heap.size + 1) ⟨.int .i64 0, .string ⟨#[]⟩, .string ⟨#[]⟩, .slice none 0 0, .int .i64 0, .int .i64 0, .int .i64 0, .slice none 0 0⟩ := by
    have h := (Qo.new (w.alloc (.cells #[.int .i64 o.k, .string o.x, .string o.t, slW p.1, .int .i64 o.m, .int .i64 o.f, .int .i64 o.d, slW p.2] 28)) (.int .i64 0) (.string ⟨#[]⟩) (.string ⟨#[]⟩) (.slice none 0 0) (.int .i64 0) (.int .i64 0) (.int .i64 0) (.slice none 0 0) 38).below ((Below.refl _ _).alloc (Nat.le_refl _) (.cells #[.int .i64 o.k, .string o.x, .string o.t, .slice none 0 0, .int .i64 0, .int .i64 0, .int .i64 0, .slice none 0 0] 38)) (by simp)
    simpa using h
  have hO : Qo (((w.alloc (.cells #[.int .i64 o.k, .string o.x, .string o.t, slW p.1, .int .i64 o.m, .int .i64 o.f, .int .i64 o.d, slW p.2] 28)).alloc (.cells #[.int .i64 0, .string ⟨#[]⟩, .string ⟨#[]⟩, .slice none 0 0, .int .i64 0, .int .i64 0, .int .i64 0, .slice none 0 0] 38)).alloc (.cells #[.int .i64 o.k, .string o.x, .string o.t, .slice none 0 0, .int .i64 0, .int .i64 0, .int .i64 0, .slice none 0 0] 38)) (w.heap.size + 1 + 1) ⟨.int .i64 o.k, .string o.x, .string o.t, .slice none 0 0, .int .i64 0, .int .i64 0, .int .i64 0, .slice none 0 0⟩ := by
    have h := (Qo.new ((w.alloc (.cells #[.int .i64 o.k, .string o.x, .string o.t, slW p.1, .int .i64 o.m, .int .i64 o.f, .int .i64 o.d, slW p.2] 28)).alloc (.cells #[.int .i64 0, .string ⟨#[]⟩, .string ⟨#[]⟩, .slice none 0 0, .int .i64 0, .int .i64 0, .int .i64 0, .slice none 0 0] 38)) (.int .i64 o.k) (.string o.x) (.string o.t) (.slice none 0 0) (.int .i64 0) (.int .i64 0) (.int .i64 0) (.slice none 0 0) 38)
    simpa using h
  have fR : Fo (((w.alloc (.cells #[.int .i64 o.k, .string o.x, .string o.t, slW p.1, .int .i64 o.m, .int .i64 o.f, .int .i64 o.d, slW p.2] 28)).alloc (.cells #[.int .i64 0, .string ⟨#[]⟩, .string ⟨#[]⟩, .slice none 0 0, .int .i64 0, .int .i64 0, .int .i64 0, .slice none 0 0] 38)).alloc (.cells #[.int .i64 o.k, .string o.x, .string o.t, .slice none 0 0, .int .i64 0, .int .i64 0, .int .i64 0, .slice none 0 0] 38)) (w.heap.size + 1) := by
    have h := (Fo.new (w.alloc (.cells #[.int .i64 o.k, .string o.x, .string o.t, slW p.1, .int .i64 o.m, .int .i64 o.f, .int .i64 o.d, slW p.2] 28)) (.int .i64 0) (.string ⟨#[]⟩) (.string ⟨#[]⟩) (.slice none 0 0) (.int .i64 0) (.int .i64 0) (.int .i64 0) (.slice none 0 0) 38).below ((Below.refl _ _).alloc (Nat.le_refl _) (.cells #[.int .i64 o.k, .string o.x, .string o.t, .slice none 0 0, .int .i64 0, .int .i64 0, .int .i64 0, .slice none 0 0] 38)) (by simp)
    simpa using h
  have fO : Fo (((w.alloc (.cells #[.int .i64 o.k, .string o.x, .string o.t, slW p.1, .int .i64 o.m, .int .i64 o.f, .int .i64 o.d, slW p.2] 28)).alloc (.cells #[.int .i64 0, .string ⟨#[]⟩, .string ⟨#[]⟩, .slice none 0 0, .int .i64 0, .int .i64 0, .int .i64 0, .slice none 0 0] 38)).alloc (.cells #[.int .i64 o.k, .string o.x, .string o.t, .slice none 0 0, .int .i64 0, .int .i64 0, .int .i64 0, .slice none 0 0] 38)) (w.heap.size + 1 + 1) := by
    have h := (Fo.new ((w.alloc (.cells #[.int .i64 o.k, .string o.x, .string o.t, slW p.1, .int .i64 o.m, .int .i64 o.f, .int .i64 o.d, slW p.2] 28)).alloc (.cells #[.int .i64 0, .string ⟨#[]⟩, .string ⟨#[]⟩, .slice none 0 0, .int .i64 0, .int .i64 0, .int .i64 0, .slice none 0 0] 38)) (.int .i64 o.k) (.string o.x) (.string o.t) (.slice none 0 0) (.int .i64 0) (.int .i64 0) (.int .i64 0) (.slice none 0 0) 38)
    simpa using h
  have HC := toIl_ow p.1 o.u _ (hs.1.below hbW) hf.2.2.1
  go_enter Tryz.func16, Tryz.ntmps16
  go_wp2_with fail
  generalize ((w.alloc (.cells #[.int .i64 o.k, .string o.x, .string o.t, slW p.1, .int .i64 o.m, .int .i64 o.f, .int .i64 o.d, slW p.2] 28)).alloc (.cells #[.int .i64 0, .string ⟨#[]⟩, .string ⟨#[]⟩, .slice none 0 0, .int .i64 0, .int .i64 0, .int .i64 0, .slice none 0 0] 38)).alloc (.cells #[.int .i64 o.k, .string o.x, .string o.t, .slice none 0 0, .int .i64 0, .int .i64 0, .int .i64 0, .slice none 0 0] 38) = W at *
  refine HC.mono ?_
  rintro e w1 ⟨s1, rfl, hI1, hZ1, hG1, hb1⟩
  rw [hsz] at hI1 hG1
  have hA1 := hA.below hb1 (by omega)
  have hR1 := hR.below hb1 (by omega)
  have hO1 := hO.below hb1 (by omega)
  have fR1 := fR.below hb1 (by omega)
  have fO1 := fO.below hb1 (by omega)
  have hz1 : w.heap.size + 3 ≤ w1.heap.size := by rw [← hsz]; exact hb1.size
  have hB1 : Below w.heap.size w w1 := hbW.trans (hb1.mono (by omega))
  clear HC hA hR hO fR fO hb1 hsz hbW W
  have hO2 := (((hO1.put3 (slW s1)).put4 (.int .i64 o.m)).put5 (.int .i64 o.f)).put6 (.int .i64 o.d)
  have fO2 := (((fO1.set ⟨w.heap.size + 1 + 1, 3, none⟩ (slW s1)).set ⟨w.heap.size + 1 + 1, 4, none⟩ (.int .i64 o.m)).set ⟨w.heap.size + 1 + 1, 5, none⟩ (.int .i64 o.f)).set ⟨w.heap.size + 1 + 1, 6, none⟩ (.int .i64 o.d)
  have hR2 := (((hR1.far (w.heap.size + 1 + 1) 3 (slW s1) (by omega)).far (w.heap.size + 1 + 1) 4 (.int .i64 o.m) (by omega)).far (w.heap.size + 1 + 1) 5 (.int .i64 o.f) (by omega)).far (w.heap.size + 1 + 1) 6 (.int .i64 o.d) (by omega)
  have fR2 := (((fR1.set ⟨w.heap.size + 1 + 1, 3, none⟩ (slW s1)).set ⟨w.heap.size + 1 + 1, 4, none⟩ (.int .i64 o.m)).set ⟨w.heap.size + 1 + 1, 5, none⟩ (.int .i64 o.f)).set ⟨w.heap.size + 1 + 1, 6, none⟩ (.int .i64 o.d)
  have hB2 : Below w.heap.size w ((((w1.setCell ⟨w.heap.size + 1 + 1, 3, none⟩ (slW s1)).setCell ⟨w.heap.size + 1 + 1, 4, none⟩ (.int .i64 o.m)).setCell ⟨w.heap.size + 1 + 1, 5, none⟩ (.int .i64 o.f)).setCell ⟨w.heap.size + 1 + 1, 6, none⟩ (.int .i64 o.d)) := (((hB1.setCell (by simp; omega) _).setCell (by simp; omega) _).setCell (by simp; omega) _).setCell (by simp; omega) _
  have hI2 := hI1.near ((((Near.set (j := 3) (slW s1) (show w.heap.size + 1 + 1 < w.heap.size + 3 by omega)).trans (Near.set (g := w.heap.size + 1 + 1) (j := 4) (.int .i64 o.m) (by omega))).trans (Near.set (g := w.heap.size + 1 + 1) (j := 5) (.int .i64 o.f) (by omega))).trans (Near.set (g := w.heap.size + 1 + 1) (j := 6) (.int .i64 o.d) (by omega)))
  have HZ : Hid (OwZ 2 ((((w1.setCell ⟨w.heap.size + 1 + 1, 3, none⟩ (slW s1)).setCell ⟨w.heap.size + 1 + 1, 4, none⟩ (.int .i64 o.m)).setCell ⟨w.heap.size + 1 + 1, 5, none⟩ (.int .i64 o.f)).setCell ⟨w.heap.size + 1 + 1, 6, none⟩ (.int .i64 o.d)) s1 o.u) := hZ1.keep fun g hg => by
    have hg3 : w.heap.size + 3 ≤ g := hG1 g hg
    rw [Below.heap_setCell _ _ _ _ (show g ≠ w.heap.size + 1 + 1 by omega), Below.heap_setCell _ _ _ _ (show g ≠ w.heap.size + 1 + 1 by omega), Below.heap_setCell _ _ _ _ (show g ≠ w.heap.size + 1 + 1 by omega), Below.heap_setCell _ _ _ _ (show g ≠ w.heap.size + 1 + 1 by omega)]
  clear hZ1
  have hz2 : w.heap.size + 3 ≤ ((((w1.setCell ⟨w.heap.size + 1 + 1, 3, none⟩ (slW s1)).setCell ⟨w.heap.size + 1 + 1, 4, none⟩ (.int .i64 o.m)).setCell ⟨w.heap.size + 1 + 1, 5, none⟩ (.int .i64 o.f)).setCell ⟨w.heap.size + 1 + 1, 6, none⟩ (.int .i64 o.d)).heap.size := by simpa using hz1
  obtain ⟨a0, a1, a2, a3, a4, a5, a6, a7⟩ := hA1
  obtain ⟨o0, o1, o2, o3, o4, o5, o6, o7⟩ := hO1
  obtain ⟨f0, f1, f2, f3, f4, f5, f6, f7⟩ := fO1
  dsimp only at a0 a1 a2 a3 a4 a5 a6 a7 o0 o1 o2 o3 o4 o5 o6 o7
  clear hR1 fR1 hI1 hB1 hz1
  have HK : Hid (_) := And.intro hO2 (And.intro fO2 (And.intro hR2 (And.intro fR2 (And.intro hB2 (And.intro hI2 hz2)))))
  clear hO2 fO2 hR2 fR2 hB2 hI2 hz2
  go_wp2_with fail
  obtain ⟨hO2, fO2, hR2, fR2, hB2, hI2, hz2⟩ := HK.out
  clear HK a0 a1 a2 a3 a4 a5 a6 a7 o0 o1 o2 o3 o4 o5 o6 o7 f0 f1 f2 f3 f4 f5 f6 f7
  generalize ((((w1.setCell ⟨w.heap.size + 1 + 1, 3, none⟩ (slW s1)).setCell ⟨w.heap.size + 1 + 1, 4, none⟩ (.int .i64 o.m)).setCell ⟨w.heap.size + 1 + 1, 5, none⟩ (.int .i64 o.f)).setCell ⟨w.heap.size + 1 + 1, 6, none⟩ (.int .i64 o.d)) = W2 at *
  refine (toSl_ow p.2 o.b W2 (hs.2.below hB2) hf.2.2.2).mono ?_
  rintro e w3 ⟨s3, rfl, hI3, hB3', hG3, hb3⟩
  have HZ3 : Hid (OwZ 2 w3 s1 o.u ∧ OwB w3 s3 o.b ∧ (∀ g ∈ blkS s1, w.heap.size + 3 ≤ g) ∧ (∀ g ∈ blkS s3, w.heap.size + 3 ≤ g) ∧ ∀ g ∈ blkS s1, g ∉ blkS s3) := ⟨HZ.out.below hb3 (Nat.le_refl _), hB3', hG1, fun g hg => Nat.le_trans hz2 (hG3 g hg), fun g hg hc => by
    have h1 := HZ.out.lt g hg
    have h2 := hG3 g hc
    omega⟩
  clear HZ hB3' hG3 hG1
  have hz3 : w.heap.size + 3 ≤ w3.heap.size := Nat.le_trans hz2 hb3.size
  have hR3 := hR2.below hb3 hR2.lt
  have hO3 := hO2.below hb3 hO2.lt
  have fR3 := fR2.below hb3 hR2.lt
  have fO3 := fO2.below hb3 hO2.lt
  have hB3 : Below w.heap.size w w3 := hB2.trans (hb3.mono hB2.size)
  have hI3' := hI3.low (lo' := w.heap.size + 3) hz2
  have hI2' := hI2.below hb3
  clear hI2 hI3 hb3 hz2 hR2 fR2 hB2 hO2 fO2 W2
  have hO4 := hO3.put7 (slW s3)
  have hR4 := hR3.far (w.heap.size + 1 + 1) 7 (slW s3) (by omega)
  have hR5 := (((((((hR4.put0 (.int .i64 o.k)).put1 (.string o.x)).put2 (.string o.t)).put3 (slW s1)).put4 (.int .i64 o.m)).put5 (.int .i64 o.f)).put6 (.int .i64 o.d)).put7 (slW s3)
  obtain ⟨q0, q1, q2, q3, q4, q5, q6, q7⟩ := hR5
  obtain ⟨o0, o1, o2, o3, o4, o5, o6, o7⟩ := hO3
  obtain ⟨f0, f1, f2, f3, f4, f5, f6, f7⟩ := fO3
  obtain ⟨r0, r1, r2, r3, r4, r5, r6, r7⟩ := hR3
  obtain ⟨y0, y1, y2, y3, y4, y5, y6, y7⟩ := fR3
  obtain ⟨k0, k1, k2, k3, k4, k5, k6, k7⟩ := hO4
  dsimp only at q0 q1 q2 q3 q4 q5 q6 q7 o0 o1 o2 o3 o4 o5 o6 o7 r0 r1 r2 r3 r4 r5 r6 r7 k0 k1 k2 k3 k4 k5 k6 k7
  have HS : Hid (IsIl (w.heap.size + 3) w3 s1 o.u ∧ IsSl (w.heap.size + 3) w3 s3 o.b) := ⟨hI2', hI3'⟩
  have hg1 : w.heap.size + 1 + 1 ≠ w.heap.size + 1 := by omega
  clear hI2' hI3' hs hR4
  go_wp2
  refine bodyPost_ret (v := .agg #[.int .i64 o.k, .string o.x, .string o.t, slW s1, .int .i64 o.m, .int .i64 o.f, .int .i64 o.d, slW s3]) (by simp [results, Tryz.results16, go_sem, q0, q1, q2, q3, q4, q5, q6, q7]) rfl ?_
  have hN : Near (w.heap.size + 3) w3 (((((((((w3.setCell ⟨w.heap.size + 1 + 1, 7, none⟩ (slW s3)).setCell ⟨w.heap.size + 1, 0, none⟩ (.int .i64 o.k)).setCell ⟨w.heap.size + 1, 1, none⟩ (.string o.x)).setCell ⟨w.heap.size + 1, 2, none⟩ (.string o.t)).setCell ⟨w.heap.size + 1, 3, none⟩ (slW s1)).setCell ⟨w.heap.size + 1, 4, none⟩ (.int .i64 o.m)).setCell ⟨w.heap.size + 1, 5, none⟩ (.int .i64 o.f)).setCell ⟨w.heap.size + 1, 6, none⟩ (.int .i64 o.d)).setCell ⟨w.heap.size + 1, 7, none⟩ (slW s3)) :=
    ((((((((Near.set _ (by omega)).trans (Near.set _ (by omega))).trans (Near.set _ (by omega))).trans (Near.set _ (by omega))).trans (Near.set _ (by omega))).trans (Near.set _ (by omega))).trans (Near.set _ (by omega))).trans (Near.set _ (by omega))).trans (Near.set _ (by omega))
  obtain ⟨hZ3, hB3', hG1, hG3, hdj⟩ := HZ3.out
  have hfar : ∀ (u0 u1 u2 u3 u4 u5 u6 u7 u8 : Value) (g : Nat), w.heap.size + 3 ≤ g → (((((((((w3.setCell ⟨w.heap.size + 1 + 1, 7, none⟩ u8).setCell ⟨w.heap.size + 1, 0, none⟩ u0).setCell ⟨w.heap.size + 1, 1, none⟩ u1).setCell ⟨w.heap.size + 1, 2, none⟩ u2).setCell ⟨w.heap.size + 1, 3, none⟩ u3).setCell ⟨w.heap.size + 1, 4, none⟩ u4).setCell ⟨w.heap.size + 1, 5, none⟩ u5).setCell ⟨w.heap.size + 1, 6, none⟩ u6).setCell ⟨w.heap.size + 1, 7, none⟩ u7).heap[g]? = w3.heap[g]? := fun u0 u1 u2 u3 u4 u5 u6 u7 u8 g hg => by
    have e1 : g ≠ w.heap.size + 1 := by omega
    have e2 : g ≠ w.heap.size + 1 + 1 := by omega
    rw [Below.heap_setCell _ _ _ _ e1, Below.heap_setCell _ _ _ _ e1, Below.heap_setCell _ _ _ _ e1, Below.heap_setCell _ _ _ _ e1, Below.heap_setCell _ _ _ _ e1, Below.heap_setCell _ _ _ _ e1, Below.heap_setCell _ _ _ _ e1, Below.heap_setCell _ _ _ _ e1, Below.heap_setCell _ _ _ _ e2]
  refine ⟨(s1, s3), rfl, ⟨(HS.out.1.near hN).low (by omega), (HS.out.2.near hN).low (by omega)⟩, hZ3.keep (fun g hg => hfar _ _ _ _ _ _ _ _ _ g (hG1 g hg)), hB3'.keep (fun g hg => hfar _ _ _ _ _ _ _ _ _ g (hG3 g hg)), (fun g hg => by
    rcases List.mem_append.1 hg with h | h
    · have := hG1 g h; omega
    · have := hG3 g h; omega), hdj, ?_, ?_⟩
  rotate_left
  · have hz := hB3.size
    have hz0 := hz3
    simp only [World.size_setCell]
    omega
  exact ((((((((hB3.setCell (by simp; omega) _).setCell (by simp) _).setCell (by simp) _).setCell (by simp) _).setCell (by simp) _).setCell (by simp) _).setCell (by simp) _).setCell (by simp) _).setCell (by simp) _
end Go.Proofs.YtejbbnpgghpgaaaGreatDoor
