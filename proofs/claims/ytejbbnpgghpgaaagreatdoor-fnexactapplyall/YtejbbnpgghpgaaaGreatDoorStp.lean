/- A store copied into memory of the call's own: the model's l1Copy, l7Messages, l7CopyBox, l7Copy; no conditions beyond those that each fact names. -/
import Derived.Test.YtejbbnpgghpgaaaGreatDoorCpdToCpy
import Derived.Laws.AppendOwnNone
import Derived.Deep.RegionHeld3
import Derived.Test.YtejbbnpgghpgaaaGreatDoorMsbToBxs
namespace Go.Proofs.YtejbbnpgghpgaaaGreatDoor
open Go.RowKit List
set_option linter.unusedVariables false
theorem CM.lit (N : Nat) (w : World) (hN : N ≤ w.heap.size) : CM N (w.alloc (.cells #[] 136)) (some ⟨w.heap.size, 0, none⟩, 0, 0) [] [] :=
 ⟨⟨⟨rfl, .inr ⟨w.heap.size, 0, #[], rfl, Nat.zero_le _, heap_alloc_new w _, Nat.le_refl _, Nat.zero_le _, rfl, rfl⟩⟩, fun d hd => by simp at hd⟩, rfl, by simp [blkS, fpM], fun g hg => by simp [blkS, fpM] at hg; omega⟩
theorem CX.lit (N : Nat) (w : World) (hN : N ≤ w.heap.size) : CX N (w.alloc (.cells #[] 128)) (some ⟨w.heap.size, 0, none⟩, 0, 0) [] [] :=
 ⟨⟨⟨rfl, .inr ⟨w.heap.size, 0, #[], rfl, Nat.zero_le _, heap_alloc_new w _, Nat.le_refl _, Nat.zero_le _, rfl, rfl⟩⟩, fun d hd => by simp at hd⟩, rfl, by simp [blkS, fpX], fun g hg => by simp [blkS, fpX] at hg; omega⟩
set_option maxHeartbeats 800000 in
set_option maxRecDepth 100000 in
theorem l1Copy_none (w : World) :
  Calls Tryz.prog 95 #[.slice none 0 0] w fun e w' => ∃ v, e = .returned v ∧ Own w' w.heap.size v [] ∧ Below w.heap.size w w' := by
 have hown : Own (w.alloc (.cells #[] 5)) w.heap.size (.slice (some ⟨w.heap.size, 0, none⟩) 0 0) [] := Own.lit w w.heap.size (Nat.le_refl _) #[] [] rfl (Nat.zero_le _)
 obtain ⟨i0, hi, hz0, hz1, hz2⟩ := info_parts infoB
 have hb : Below w.heap.size w (w.alloc (.cells #[] 5)) := (Below.refl _ _).alloc (Nat.le_refl _) _
 go_enter Tryz.func95, Tryz.ntmps95
 go_wp2_with (at_builtin; refine wpList_append_own_none rfl _ _ 26 rfl w.heap.size 5 i0 1 Tryz.underlying26 hi _ 0 [] rfl hown rfl ?_)
 go_ret
 exact ⟨_, rfl, hown, hb⟩
set_option maxHeartbeats 800000 in
theorem l1Copy_own (s : SlQ) (l : List Nat) (w : World) (hs : OwB w s l) (hn : l.length ≤ 1048576) :
  Calls Tryz.prog 95 #[.slice s.1 s.2.1 s.2.2] w fun e w' => ∃ v, e = .returned v ∧ Own w' w.heap.size v l ∧ Below w.heap.size w w' := by
 obtain ⟨a, n, cap⟩ := s
 have hr := hs.1.rd
 rcases hs.1.2 with ⟨e, h0⟩ | ⟨g, cap', cur, e, -⟩
 ·cases e
  obtain rfl : l = [] := List.length_eq_zero_iff.1 h0
  exact l1Copy_none w
 ·cases e
  exact l1Copy_any g 0 l.length cap l w rfl hr.2 hn
theorem HM.row_at {w : World} {s : SlQ} {ms : List Dm} (h : HM w s ms) (i : Nat) (hi : i < ms.length) : ∃ g, s.1 = some ⟨g, 0, none⟩ ∧ g < w.heap.size ∧
  w.cell? ⟨g, i * 4, none⟩ = some (.int .i64 ms[i].m.u) ∧ w.cell? ⟨g, i * 4 + 1, none⟩ = some (.int .i64 ms[i].m.f) ∧ w.cell? ⟨g, i * 4 + 2, none⟩ = some (.int .i64 ms[i].m.d) ∧ w.cell? ⟨g, i * 4 + 3, none⟩ = some (slW ms[i].s) := by
 obtain ⟨⟨a', n', c'⟩, e, h1, h2, h3, h4⟩ := row_form h.1
 obtain ⟨a, n, c⟩ := s
 cases e
 dsimp only at h1 h4
 rcases h4 with ⟨-, h0⟩ | ⟨g, rfl⟩
 ·omega
 ·have hr := h.1
  rw [h1] at hr
  obtain ⟨hg, c0, c1, c2, c3⟩ := ownQ_cells hr i (by rw [List.length_map]; exact hi)
  rw [map_nthQ hi] at c0 c1 c2 c3
  exact ⟨g, rfl, hg, c0, c1, c2, c3⟩
theorem HX.row_at {w : World} {s : SlQ} {xs : List Dx} (h : HX w s xs) (i : Nat) (hi : i < xs.length) : ∃ g, s.1 = some ⟨g, 0, none⟩ ∧ g < w.heap.size ∧
  w.cell? ⟨g, i * 4, none⟩ = some (.string xs[i].n) ∧ w.cell? ⟨g, i * 4 + 1, none⟩ = some (.int .i64 xs[i].v) ∧ w.cell? ⟨g, i * 4 + 2, none⟩ = some (.int .i64 xs[i].x) ∧ w.cell? ⟨g, i * 4 + 3, none⟩ = some (slW xs[i].s) := by
 obtain ⟨⟨a', n', c'⟩, e, h1, h2, h3, h4⟩ := row_form h.1
 obtain ⟨a, n, c⟩ := s
 cases e
 dsimp only at h1 h4
 rcases h4 with ⟨-, h0⟩ | ⟨g, rfl⟩
 ·omega
 ·have hr := h.1
  rw [h1] at hr
  obtain ⟨hg, c0, c1, c2, c3⟩ := ownQ_cells hr i (by rw [List.length_map]; exact hi)
  rw [map_nthQ hi] at c0 c1 c2 c3
  exact ⟨g, rfl, hg, c0, c1, c2, c3⟩
def FtD (ms : List Dm) : Prop := ms.length ≤ 1048576 ∧ ∀ d ∈ ms, d.m.b.length ≤ 1048576
def FtH (xs : List Dx) : Prop := xs.length ≤ 1048576 ∧ ∀ d ∈ xs, FtD d.ms
set_option maxHeartbeats 1600000 in
set_option maxRecDepth 100000 in
theorem l7Messages_any (s : SlQ) (ms0 : List Dm) (w : World) (hs : HM w s ms0) (hf : FtD ms0) :
  Calls Tryz.prog 168 #[slW s] w fun e w' => CpM w (ms0.map Dm.m) e w' := by
 obtain ⟨a, n, cap⟩ := s
 obtain ⟨⟨a', n', c'⟩, e, hl, hnc, hcm, -⟩ := row_form hs.1
 cases e
 obtain ⟨hn, hft⟩ := hf
 dsimp only [slW] at *
 unfold maxLen at hcm
 replace hl := hl.symm
 rw [hl] at hnc hn
 go_enter Tryz.func168, Tryz.ntmps168
 go_wp2
 go_loopw [3, 4] (fun v i wr => ∃ (k : Nat) (s' : SlQ) (ms : List Dm), k ≤ n ∧ i = .int .i64 k ∧ v = slW s' ∧ CM w.heap.size wr s' ((ms0.map Dm.m).take k) ms ∧ Below w.heap.size w wr)
  (fun _ i _ => n - (intOf i).toNat)
 case atStart => exact ⟨0, (some ⟨w.heap.size, 0, none⟩, 0, 0), [], Nat.zero_le _, rfl, rfl, CM.lit _ _ (Nat.le_refl _), (Below.refl _ _).alloc (Nat.le_refl _) _⟩
 case round =>
  obtain ⟨k, s', ms, hk, rfl, rfl, hC, hbel⟩ := hrel
  by_cases hkn : k < n
  ·have hki : (k : Int) < (n : Int) := by omega
   have hkm : k < ms0.length := by omega
   obtain ⟨b, rfl, hblt, c0, c1, c2, c3⟩ := (hs.below hbel (Nat.le_refl _)).row_at k hkm
   have hI := (hs.below hbel (Nat.le_refl _)).2 _ (List.getElem_mem hkm)
   have hfk := hft _ (List.getElem_mem hkm)
   have HT : Hid ((ms0.map Dm.m).take (k + 1) = (ms0.map Dm.m).take k ++ [ms0[k].m]) := by show _ = _; rw [take_snocM _ k (by rw [List.length_map]; exact hkm), map_nthM hkm]
   generalize ms0[k] = p at *
   obtain ⟨⟨mu, mf, md, mb⟩, sd⟩ := p
   dsimp only at c0 c1 c2 c3 HT hI hfk
   have hb0 : Below wr.heap.size wr (wr.alloc (.cells #[.int .i64 mu, .int .i64 mf, .int .i64 md, slW sd] 136)) := (Below.refl _ _).alloc (Nat.le_refl _) _
   have hI0 := hI.below hb0 (Nat.le_refl _)
   have HC := l1Copy_own sd mb (wr.alloc (.cells #[.int .i64 mu, .int .i64 mf, .int .i64 md, slW sd] 136)) hI0 hfk
   have hC0 := hC.below hb0 (Nat.le_refl _)
   have hQ0 := Qw.new wr (.int .i64 mu) (.int .i64 mf) (.int .i64 md) (slW sd) 136
   have hbel0 := hbel.trans (hb0.mono hbel.size)
   have hsz0 : (wr.alloc (.cells #[.int .i64 mu, .int .i64 mf, .int .i64 md, slW sd] 136)).heap.size = wr.heap.size + 1 := by simp
   have HIB : Hid (IsB mb) := hI.2
   clear hI hI0
   go_wp2_with fail
   refine HC.mono ?_
   rintro e w1 ⟨v1, rfl, hO1, hb1⟩
   rw [hsz0] at hb1
   obtain ⟨s1, rfl, hOB, hge⟩ := hO1.slq HIB.out
   rw [hsz0] at hge
   have hC1 := hC0.below hb1 (Nat.le_of_eq hsz0)
   have hQ1 := hQ0.below hb1 (by omega)
   have hbel1 : Below w.heap.size w w1 := hbel0.trans (hb1.mono (by have := hbel.size; omega))
   have hz1 : wr.heap.size + 1 ≤ w1.heap.size := by have := hb1.size; rw [hsz0] at this; exact this
   clear HC hC0 hQ0 hbel0 hO1 hb1
   obtain ⟨⟨d0, d1, d2, d3⟩, f⟩ := id hQ1
   have f3 := f 3
   dsimp only at d0 d1 d2 d3
   have hQ2 := hQ1.set3 (slW s1)
   have hno : wr.heap.size ∉ blkS s' ++ fpM ms := fun hc => by
    have := hC.1.lt _ hc; omega
   have hC2 := (hC1.far wr.heap.size 3 (slW s1) hno)
   have hOB2 : OwB (w1.setCell ⟨wr.heap.size, 3, none⟩ (slW s1)) s1 mb := hOB.keep fun g hg => Below.heap_setCell _ _ _ _ (fun e => by have := (hge g hg).1; simp at e; omega)
   have hbel2 : Below w.heap.size w (w1.setCell ⟨wr.heap.size, 3, none⟩ (slW s1)) := hbel1.setCell hbel.size _
   obtain ⟨W, hW⟩ : ∃ W, w1.setCell ⟨wr.heap.size, 3, none⟩ (slW s1) = W := ⟨_, rfl⟩
   have hWz : W.heap.size = w1.heap.size := by rw [← hW]; simp
   rw [hW] at hQ2 hC2 hOB2 hbel2
   have hq3 := hQ2.1
   obtain ⟨q0, q1, q2, q3⟩ := id hq3
   dsimp only at q0 q1 q2 q3
   have hC3 := hC2.alloc (.cells #[.int .i64 mu, .int .i64 mf, .int .i64 md, slW s1] 136)
   have hOB3 : OwB (W.alloc (.cells #[.int .i64 mu, .int .i64 mf, .int .i64 md, slW s1] 136)) s1 mb := hOB2.below ((Below.refl _ W).alloc (Nat.le_refl _) _) (Nat.le_refl _)
   have hbel3 : Below w.heap.size w (W.alloc (.cells #[.int .i64 mu, .int .i64 mf, .int .i64 md, slW s1] 136)) := hbel2.alloc hbel2.size _
   have hml : ms.length = k := by obtain ⟨_, _, _, h, _⟩ := hC.form; rw [h, List.length_take, List.length_map]; omega
   have hnew := hWz ▸ Qc.new W (.int .i64 mu) (.int .i64 mf) (.int .i64 md) (slW s1) 136
   have hof : ∀ g ∈ blkS s1, g ∉ blkS s' ++ fpM ms := fun g hg hc => by have h1 := (hge g hg).1; have h2 := hC.1.lt _ hc; omega
   have hzz := hbel.size
   have hN : ∀ g ∈ blkS s1, w.heap.size ≤ g := fun g hg => by have h1 := (hge g hg).1; omega
   clear hC1 hQ1 hOB hC2 hOB2 hbel2 hQ2 hq3 hge hno
   go_wp2_with (at_builtin; go_loud (refine app4 rfl _ _ 126 136 rfl _ 48 rfl (by decide) Tryz.underlying126 infoMessage s' (ms.map Dm.q) rfl (by rw [List.length_map]; exact hC3.1.1) w1.heap.size (Dm.q ⟨⟨mu, mf, md, mb⟩, s1⟩) rfl hnew (Dm.one _) (by rw [List.length_map, hml]; omega) ?_; intro s2 w2 hrow hgr hloc))
   obtain ⟨hC4, -⟩ := hC3.grow (m := ⟨mu, mf, md, mb⟩) hOB3 hof hN hbel3.size hrow hgr hloc
   have hbel4 : Below w.heap.size w w2 := hbel3.grown hgr hbel3.size (fun g hg => hC3.2.2.2 g (List.mem_append_left _ (mem_blkS.2 hg)))
   have HC4 : Hid (CM w.heap.size w2 s2 ((ms0.map Dm.m).take (k + 1)) (ms ++ [⟨⟨mu, mf, md, mb⟩, s1⟩])) := by rw [HT.out]; exact hC4
   clear hC4 hrow hgr hloc hC3 hOB3
   go_wp2
   go_roundw
   case rel => exact ⟨k + 1, s2, _, by omega, by go_num, rfl, HC4.out, hbel4⟩
   case measure => simp [intOf]; omega
  ·have hkk : k = n := by omega
   subst hkk
   have hki : ¬ (k : Int) < (k : Int) := by omega
   have HM : Hid (CM w.heap.size wr s' (ms0.map Dm.m) ms) := by rw [List.take_of_length_le (by rw [List.length_map]; omega)] at hC; exact hC
   clear hC
   go_wp2
   go_ret
   exact ⟨s', ms, rfl, HM.out, hbel⟩
theorem Qw.four {w : World} {g : Nat} {q : Qd} (h : Qw w g q) (a b c d : Value) : Qw ((((w.setCell ⟨g, 0, none⟩ a).setCell ⟨g, 1, none⟩ b).setCell ⟨g, 2, none⟩ c).setCell ⟨g, 3, none⟩ d) g (a, b, c, d) := ((((h.set0 a).set1 b).set2 c).set3 d)
def CpX (n : ByteArray) (v x : Int) (l : List Msg) (w : World) (e : Ending) (w' : World) : Prop := ∃ s ms, e = .returned (.agg #[.string n, .int .i64 v, .int .i64 x, slW s]) ∧ CM w.heap.size w' s l ms ∧ Below w.heap.size w w'
set_option maxHeartbeats 1600000 in
set_option maxRecDepth 100000 in
theorem l7CopyBox_any (n : ByteArray) (v x : Int) (s : SlQ) (ms0 : List Dm) (w : World) (hs : HM w s ms0) (hf : FtD ms0) :
  Calls Tryz.prog 130 #[.agg #[.string n, .int .i64 v, .int .i64 x, slW s]] w fun e w' => CpX n v x (ms0.map Dm.m) w e w' := by
 obtain ⟨W, hW⟩ : ∃ W, (w.alloc (.cells #[.string n, .int .i64 v, .int .i64 x, slW s] 128)).alloc (.cells #[.string ⟨#[]⟩, .int .i64 0, .int .i64 0, .slice none 0 0] 128) = W := ⟨_, rfl⟩
 have hb0 : Below w.heap.size w W := by rw [← hW]; exact ((Below.refl _ _).alloc (Nat.le_refl _) _).alloc (by simp) _
 have hQ := (Qw.new w (.string n) (.int .i64 v) (.int .i64 x) (slW s) 128).below (w' := W) (C := w.heap.size + 1) (by rw [← hW]; exact (Below.refl _ _).alloc (by simp) _) (by omega)
 have hZ : Qw W (w.heap.size + 1) (.string ⟨#[]⟩, .int .i64 0, .int .i64 0, .slice none 0 0) := by
  have h := Qw.new (w.alloc (.cells #[.string n, .int .i64 v, .int .i64 x, slW s] 128)) (.string ⟨#[]⟩) (.int .i64 0) (.int .i64 0) (.slice none 0 0) 128
  rw [hW] at h
  simpa using h
 have hsz : W.heap.size = w.heap.size + 1 + 1 := by rw [← hW]; simp
 have HC := l7Messages_any s ms0 W (hs.below hb0 (Nat.le_refl _)) hf
 obtain ⟨c0, c1, c2, c3⟩ := id hQ.1
 dsimp only at c0 c1 c2 c3
 go_enter Tryz.func130, Tryz.ntmps130
 go_wp2_with fail
 refine HC.mono ?_
 rintro e w1 ⟨s1, ms1, rfl, hM, hb1⟩
 rw [hsz] at hb1 hM
 have hQ1 := hQ.below hb1 (by omega)
 have hZ1 := hZ.below hb1 (by omega)
 have hbel1 : Below w.heap.size w w1 := hb0.trans (hb1.mono (by omega))
 have hQ2 := hQ1.set3 (slW s1)
 have hZ2 := hZ1.far w.heap.size 3 (slW s1) (by omega)
 have hM2 := hM.far w.heap.size 3 (slW s1) (fun hc => by have := hM.2.2.2 _ hc; omega)
 have hbel2 : Below w.heap.size w (w1.setCell ⟨w.heap.size, 3, none⟩ (slW s1)) := hbel1.setCell (Nat.le_refl _) _
 clear c0 c1 c2 c3 HC hQ hZ hb0 hb1
 have f3 := hQ1.2 3
 obtain ⟨y0, y1, y2, y3⟩ := id hQ1.1
 obtain ⟨z0, z1, z2, z3⟩ := id hZ2.1
 have g0 := hZ2.2 0
 have g1 := hZ2.2 1
 have g2 := hZ2.2 2
 have g3 := hZ2.2 3
 obtain ⟨x0, x1, x2, x3⟩ := id hQ2.1
 dsimp only at y0 y1 y2 y3 z0 z1 z2 z3 x0 x1 x2 x3
 obtain ⟨W2, hW2⟩ : ∃ W2, w1.setCell ⟨w.heap.size, 3, none⟩ (slW s1) = W2 := ⟨_, rfl⟩
 rw [hW2] at hQ2 hZ2 hM2 hbel2 z0 z1 z2 z3 g0 g1 g2 g3 x0 x1 x2 x3
 have hR := hZ2.four (.string n) (.int .i64 v) (.int .i64 x) (slW s1)
 have hno : w.heap.size + 1 ∉ blkS s1 ++ fpM ms1 := fun hc => by have := hM.2.2.2 _ hc; omega
 have HMM : Hid (_) := (((hM2.far (w.heap.size + 1) 0 (.string n) hno).far (w.heap.size + 1) 1 (.int .i64 v) hno).far (w.heap.size + 1) 2 (.int .i64 x) hno).far (w.heap.size + 1) 3 (slW s1) hno
 have HB : Hid (_) := below_put (below_put (below_put (below_put hbel2 (w.heap.size + 1) 0 (.string n) (by omega)) (w.heap.size + 1) 1 (.int .i64 v) (by omega)) (w.heap.size + 1) 2 (.int .i64 x) (by omega)) (w.heap.size + 1) 3 (slW s1) (by omega)
 obtain ⟨r0, r1, r2, r3⟩ := hR.1
 dsimp only at r0 r1 r2 r3
 clear hM hM2 hQ2 hZ2 hZ1 hbel2 hbel1 hR hno
 go_wp2
 refine bodyPost_ret (v := .agg #[.string n, .int .i64 v, .int .i64 x, slW s1]) (by simp [results, Tryz.results130, go_sem, r0, r1, r2, r3]) rfl ?_
 exact ⟨s1, ms1, rfl, CM.low HMM.out (by omega), HB.out⟩
def CpS (v : Int) (l : List Bx) (w : World) (e : Ending) (w' : World) : Prop := ∃ s xs, e = .returned (.agg #[.int .i64 v, slW s]) ∧ CX w.heap.size w' s l xs ∧ Below w.heap.size w w'
set_option maxHeartbeats 3200000 in
set_option maxRecDepth 100000 in
theorem l7Copy_any (v : Int) (s : SlQ) (xs0 : List Dx) (w : World) (hs : HX w s xs0) (hf : FtH xs0) :
  Calls Tryz.prog 74 #[.agg #[.int .i64 v, slW s]] w fun e w' => CpS v (xs0.map Dx.bx) w e w' := by
 obtain ⟨n, hl⟩ : ∃ n, xs0.length = n := ⟨_, rfl⟩
 obtain ⟨cap, hs', hnc, hcm⟩ : ∃ cap, s = (s.1, n, cap) ∧ n ≤ cap ∧ cap ≤ maxLen := by
  obtain ⟨⟨a', n', c'⟩, e, h1, h2, h3, -⟩ := row_form hs.1
  obtain ⟨a, n0, c0⟩ := s
  cases e
  dsimp only at h1 h2 h3
  exact ⟨c', by rw [h1, hl], by omega, h3⟩
 obtain ⟨a, n', c'⟩ := s
 obtain ⟨rfl, rfl⟩ : n' = n ∧ c' = cap := by dsimp only at hs'; injection hs' with _ h; injection h with h1 h2; exact ⟨h1, h2⟩
 clear hs'
 obtain ⟨s, hse⟩ : ∃ s : SlQ, s = (a, n', c') := ⟨_, rfl⟩
 have hsl : slW s = .slice a n' c' := by rw [hse]
 rw [← hse] at hs
 obtain ⟨hn, hft⟩ := hf
 unfold maxLen at hcm
 rw [hl] at hn
 obtain ⟨W, hW⟩ : ∃ W, ((w.alloc (.cells #[.int .i64 v, .slice a n' c'] 33)).alloc (.cells #[.int .i64 0, .slice none 0 0] 33)).alloc (.cells #[.int .i64 v, .slice none 0 0] 33) = W := ⟨_, rfl⟩
 have hbW : Below w.heap.size w W := by rw [← hW]; exact (((Below.refl _ _).alloc (Nat.le_refl _) _).alloc (by simp) _).alloc (by simp; omega) _
 have hzW : W.heap.size = w.heap.size + 3 := by rw [← hW]; simp
 have hA : Dw W w.heap.size (.int .i64 v, slW s) := by
  rw [← hW, hsl]
  exact (Dw.new w (.int .i64 v) (.slice a n' c') 33).below (((Below.refl _ _).alloc (Nat.le_refl _) _).alloc (by simp) _) (by simp)
 have hZ : Dw W (w.heap.size + 1) (.int .i64 0, .slice none 0 0) := by
  have h := (Dw.new (w.alloc (.cells #[.int .i64 v, .slice a n' c'] 33)) (.int .i64 0) (.slice none 0 0) 33).below ((Below.refl _ _).alloc (Nat.le_refl _) (.cells #[.int .i64 v, .slice none 0 0] 33)) (by simp)
  rw [hW] at h
  simpa using h
 have hO : Dw W (w.heap.size + 2) (.int .i64 v, slW (none, 0, 0)) := by
  have h := Dw.new ((w.alloc (.cells #[.int .i64 v, .slice a n' c'] 33)).alloc (.cells #[.int .i64 0, .slice none 0 0] 33)) (.int .i64 v) (.slice none 0 0) 33
  rw [hW] at h
  simpa using h
 have HSL : Hid (slW s = .slice a n' c') := hsl
 have HW : Hid (_ = W) := hW
 clear hse hsl hW
 rw [show (#[Value.agg #[.int .i64 v, .slice a n' c']] : Array Value) = #[.agg #[.int .i64 v, .slice a n' c']] from rfl]
 go_enter Tryz.func74, Tryz.ntmps74
 go_wp2
 rw [HW.out]
 go_loopw [4] (fun i wr => ∃ (k : Nat) (s' : SlQ) (xs : List Dx), k ≤ n' ∧ i = .int .i64 k ∧ Dw wr (w.heap.size + 2) (.int .i64 v, slW s') ∧ CX (w.heap.size + 3) wr s' ((xs0.map Dx.bx).take k) xs ∧ Below (w.heap.size + 2) W wr)
  (fun i _ => n' - (intOf i).toNat)
 case atStart => exact ⟨0, (none, 0, 0), [], Nat.zero_le _, rfl, hO, CX.nil _ _, Below.refl _ _⟩
 case round =>
  obtain ⟨k, s', xs, hk, rfl, hD, hC, hbel⟩ := hrel
  clear hO
  have hbw : Below w.heap.size w wr := hbW.trans (hbel.mono (by omega))
  have hA1 := hA.below hbel (by omega)
  have hz := hbel.size
  rw [hzW] at hz
  obtain ⟨a0, a1⟩ := id hA1.1
  dsimp only at a0 a1
  rw [HSL.out] at a1
  by_cases hkn : k < n'
  ·have hki : (k : Int) < (n' : Int) := by omega
   have hkm : k < xs0.length := by omega
   obtain ⟨b, hbe, hblt, c0, c1, c2, c3⟩ := hs.row_at k hkm
   have hI := hs.2 _ (List.getElem_mem hkm)
   have hfk := hft _ (List.getElem_mem hkm)
   have HT : Hid ((xs0.map Dx.bx).take (k + 1) = (xs0.map Dx.bx).take k ++ [xs0[k].bx]) := by show _ = _; rw [take_snocX _ k (by rw [List.length_map]; exact hkm), map_nthX hkm]
   generalize xs0[k] = p at *
   obtain ⟨bn, bv, bx, sd, bm⟩ := p
   dsimp only at c0 c1 c2 c3 hI hfk
   have ha : a = some ⟨b, 0, none⟩ := by have h := congrArg (fun x : Value => match x with | .slice a _ _ => a | _ => none) HSL.out; dsimp only [slW] at h; rw [← h]; exact hbe
   subst ha
   have HS : Hid (∀ Y, Below w.heap.size w Y → Dw Y w.heap.size (.int .i64 v, slW s) → Y.cell? ⟨w.heap.size, 1, none⟩ = some (.slice (some ⟨b, 0, none⟩) n' c') ∧ Y.cell? ⟨b, k * 4, none⟩ = some (.string bn) ∧ Y.cell? ⟨b, k * 4 + 1, none⟩ = some (.int .i64 bv) ∧ Y.cell? ⟨b, k * 4 + 2, none⟩ = some (.int .i64 bx) ∧ Y.cell? ⟨b, k * 4 + 3, none⟩ = some (slW sd)) := fun Y hY hD => ⟨hD.1.2.trans (by show some (slW s) = _; rw [HSL.out]), (hY.cell (p := ⟨b, k * 4, none⟩) hblt).trans c0, (hY.cell (p := ⟨b, k * 4 + 1, none⟩) hblt).trans c1, (hY.cell (p := ⟨b, k * 4 + 2, none⟩) hblt).trans c2, (hY.cell (p := ⟨b, k * 4 + 3, none⟩) hblt).trans c3⟩
   clear c0 c1 c2 c3
   go_wp2_with fail
   have hb0 : Below wr.heap.size wr wr.drew := (Below.refl _ _).drew
   have hbw0 := hbw.trans (hb0.mono hbw.size)
   have hA0 := hA1.below hb0 hA1.lt
   have hD0 := hD.below hb0 hD.lt
   have hC0 := hC.below hb0 (Nat.le_refl _)
   have hbel0 := hbel.trans (hb0.mono (by omega))
   have hz0 : w.heap.size + 3 ≤ (World.drew wr).heap.size := Nat.le_trans hz hb0.size
   have hI0 := hI.below hbw0 (Nat.le_refl _)
   refine wp_region_held_drew (S := fun w' => w'.cell? ⟨w.heap.size, 1, none⟩ = some (.slice (some ⟨b, 0, none⟩) n' c') ∧ w'.cell? ⟨b, k * 4, none⟩ = some (.string bn) ∧ w'.cell? ⟨b, k * 4 + 1, none⟩ = some (.int .i64 bv) ∧ w'.cell? ⟨b, k * 4 + 2, none⟩ = some (.int .i64 bx) ∧ w'.cell? ⟨b, k * 4 + 3, none⟩ = some (slW sd)) (by kernel_rfl) ?hS1 (fun hHeld => ?_)
   case hS1 => exact (HS.out _ hbw0 hA0)
   refine tk (i := 0) (v := ?_) rfl (Or.inl ⟨by rfl, ?hy2⟩) ?ty2
   case hy2 => (intro w5 hSw; (try obtain ⟨p0, p1, p2, p3, p4⟩ := hSw); go_simp; all_goals with_reducible rfl)
   simp only [Act.put, J1, J2, J4, J5, J6]
   refine tk (i := 2) (v := ?_) rfl (Or.inl ⟨by rfl, ?hy3⟩) ?ty3
   case hy3 => (intro w5 hSw; (try obtain ⟨p0, p1, p2, p3, p4⟩ := hSw); go_simp; all_goals with_reducible rfl)
   simp only [Act.put, J1, J2, J3, J4, J5, J6]
   refine tk (i := 3) (v := ?_) rfl (Or.inl ⟨by rfl, ?hy4⟩) ?ty4
   case hy4 => (intro w5 hSw; (try obtain ⟨p0, p1, p2, p3, p4⟩ := hSw); go_simp; all_goals with_reducible rfl)
   simp only [Act.put, J1, J2, J3, J4, J5, J6]
   refine tk (i := 4) (v := ?_) rfl (Or.inl ⟨by rfl, ?hy5⟩) ?ty5
   case hy5 => (intro w5 hSw; (try obtain ⟨p0, p1, p2, p3, p4⟩ := hSw); go_simp; all_goals with_reducible rfl)
   simp only [Act.put, J1, J2, J3, J4, J5, J6]
   refine tk (i := 5) (v := ?_) rfl (Or.inl ⟨by rfl, ?hy6⟩) ?ty6
   case hy6 => (intro w5 hSw; (try obtain ⟨p0, p1, p2, p3, p4⟩ := hSw); go_simp; all_goals with_reducible rfl)
   simp only [Act.put, J1, J2, J3, J4, J5, J6]
   refine tk (i := 6) (v := ?_) rfl (Or.inl ⟨by rfl, ?hy7⟩) ?ty7
   case hy7 => (intro w5 hSw; (try obtain ⟨p0, p1, p2, p3, p4⟩ := hSw); go_simp; all_goals with_reducible rfl)
   simp only [Act.put, J1, J2, J3, J4, J5, J6]
   clear hb0 hA1 hbw hD hbel
   generalize World.drew wr = Y0 at *
   refine wpAnyH_ready (rs := [1, 7]) (by kernel_rfl) (by simp) ?_
   refine AllReadyH.cons rfl (fun K hK => ?_) (AllReadyH.cons rfl (fun K hK => ?_) AllReadyH.nil)
   ·have cL := hD0.1.2
    dsimp only at cL
    go_simp
    refine hK.out _ _ (HS.out _ hbw0 hA0) (fun hHeld => ?_)
    clear hK K
    refine wpAnyH_ready (rs := [7]) (by kernel_rfl) (by simp) ?_
    refine AllReadyH.cons rfl (fun K hK => ?_) AllReadyH.nil
    go_simp
    refine (l7CopyBox_any bn bv bx sd bm Y0 hI0 hfk).mono ?_
    rintro e Y1 ⟨s1, m1, rfl, hM1, hb1⟩
    have hMlo := hM1.2.2.2
    have hE : Dx.bx ⟨bn, bv, bx, s1, m1⟩ = Dx.bx ⟨bn, bv, bx, sd, bm⟩ := by simp only [Dx.bx, hM1.2.1]
    have hM1 := hM1.low hz0
    have hD1 := hD0.below hb1 hD0.lt
    have hA1 := hA0.below hb1 hA0.lt
    have hC1 := hC0.below hb1 (Nat.le_refl _)
    have hbel1 := hbel0.trans (hb1.mono (by omega))
    have hbw1 := hbw0.trans (hb1.mono hbw0.size)
    have hz1 := Nat.le_trans hz0 hb1.size
    have hof : ∀ g ∈ fpD ⟨bn, bv, bx, s1, m1⟩, g ∉ blkS s' ++ fpX xs := fun g hg hc => by have h1 := hMlo g hg; have h2 := hC0.1.lt _ hc; omega
    refine hK.out _ _ (HS.out _ hbw1 hA1) (fun hHeld => ?_)
    clear hK K
    refine wpAnyH_ready (rs := [8]) (by kernel_rfl) (by simp) ?_
    refine AllReadyH.cons rfl (fun K hK => ?_) AllReadyH.nil
    have hb3 : Below Y1.heap.size Y1 (Y1.alloc (.cells #[.string bn, .int .i64 bv, .int .i64 bx, slW s1] 128)) := (Below.refl _ _).alloc (Nat.le_refl _) _
    have hQ3 := Qc.new Y1 (.string bn) (.int .i64 bv) (.int .i64 bx) (slW s1) 128
    have hD3 := hD1.below hb3 hD1.lt
    have hA3 := hA1.below hb3 hA1.lt
    have hC3 := hC1.below hb3 (Nat.le_refl _)
    have hM3 := hM1.below hb3 (Nat.le_refl _)
    have hbel3 := hbel1.trans (hb3.mono (by omega))
    have hbw3 := hbw1.trans (hb3.mono hbw1.size)
    have hz3 := Nat.le_trans hz1 hb3.size
    go_simp
    generalize World.alloc Y1 (.cells #[.string bn, .int .i64 bv, .int .i64 bx, slW s1] 128) = Y3 at *
    refine hK.out _ _ (HS.out _ hbw3 hA3) (fun hHeld => ?_)
    clear hK K
    clear hD1 hA1 hC1 hM1 hbel1 hbw1 hb3
    refine wpAnyH_ready (rs := [9]) (by kernel_rfl) (by simp) ?_
    refine AllReadyH.cons rfl (fun K hK => ?_) AllReadyH.nil
    have hml : xs.length = k := by obtain ⟨_, _, _, h, _⟩ := hC.form; rw [h, List.length_take, List.length_map]; omega
    refine step4 rfl _ _ 31 128 rfl _ 56 rfl (by decide) Tryz.underlying31 infoBox s' (xs.map Dx.q) (by rfl) (by rw [List.length_map]; exact hC3.1.1) Y1.heap.size (Dx.q ⟨bn, bv, bx, s1, m1⟩) (by rfl) hQ3 (Dx.one _) (by rw [List.length_map, hml]; omega) ?_
    intro s2 Y4 hrow hgr hloc
    have hown : ∀ g, (slW s').ownBlock = some g → w.heap.size + 3 ≤ g := fun g hg => hC3.2.2.2 g (List.mem_append_left _ (mem_blkS.2 hg))
    obtain ⟨hC4, -⟩ := hC3.grow (d := ⟨bn, bv, bx, s1, m1⟩) hM3.1 hM3.2.2.1 hof (fun g hg => (hM3.2.2.2 g hg)) hz3 hrow hgr hloc
    have hB4 : Below (w.heap.size + 3) Y3 Y4 := (Below.refl _ _).grown hgr hz3 hown
    have hD4 := hD3.below hB4 (by omega)
    have hA4 := hA3.below hB4 (by omega)
    have hbel4 := hbel3.trans (hB4.mono (by omega))
    have hbw4 := hbw3.trans (hB4.mono (by omega))
    have hz4 := Nat.le_trans hz3 hB4.size
    refine hK.out _ _ (HS.out _ hbw4 hA4) (fun hHeld => ?_)
    clear hK K
    clear hrow hgr hloc hown hB4 hC3 hD3 hA3 hbel3 hbw3 hM3
    refine tk (i := 10) (v := ?_) rfl (Or.inl ⟨by rfl, ?hy8⟩) ?ty8
    case hy8 => (intro w5 hSw; (try obtain ⟨p0, p1, p2, p3, p4⟩ := hSw); go_simp; all_goals with_reducible rfl)
    simp only [Act.put, J1, J2, J3, J4, J5, J6]
    obtain ⟨⟨e0, e1⟩, fz⟩ := id hD4
    have fz1 := fz 1
    dsimp only at e0 e1
    refine wpAnyH_ready (rs := [11]) (by kernel_rfl) (by simp) ?_
    refine AllReadyH.cons rfl (fun K hK => ?_) AllReadyH.nil
    have hD5 := hD4.set1 (slW s2)
    have hA5 := hA4.far (w.heap.size + 2) 1 (slW s2) (by omega)
    have hC5 := hC4.far (w.heap.size + 2) 1 (slW s2) (fun hc => by have := hC4.2.2.2 _ hc; omega)
    have hbel5 := below_put hbel4 (w.heap.size + 2) 1 (slW s2) (Nat.le_refl _)
    have hbw5 := below_put hbw4 (w.heap.size + 2) 1 (slW s2) (by omega)
    go_simp
    generalize World.setCell Y4 ⟨w.heap.size + 2, 1, none⟩ (slW s2) = Y5 at *
    refine hK.out _ _ (HS.out _ hbw5 hA5) (fun hHeld => ?_)
    clear hK K
    refine wpAnyH_done (by kernel_rfl) ?_ _
    have HC5 : Hid (CX (w.heap.size + 3) Y5 s2 ((xs0.map Dx.bx).take (k + 1)) (xs ++ [⟨bn, bv, bx, s1, m1⟩])) := by rw [HT.out]; exact hE ▸ hC5
    clear hC5 hC4 hHeld fz e0 e1 fz1 hbw5 hA5
    go_wp2
    go_roundw
    case rel => exact ⟨k + 1, s2, _, by omega, by go_num, hD5, HC5.out, hbel5⟩
    case measure => simp [intOf]; omega
   ·go_simp
    refine (l7CopyBox_any bn bv bx sd bm Y0 hI0 hfk).mono ?_
    rintro e Y1 ⟨s1, m1, rfl, hM1, hb1⟩
    have hMlo := hM1.2.2.2
    have hE : Dx.bx ⟨bn, bv, bx, s1, m1⟩ = Dx.bx ⟨bn, bv, bx, sd, bm⟩ := by simp only [Dx.bx, hM1.2.1]
    have hM1 := hM1.low hz0
    have hD1 := hD0.below hb1 hD0.lt
    have hA1 := hA0.below hb1 hA0.lt
    have hC1 := hC0.below hb1 (Nat.le_refl _)
    have hbel1 := hbel0.trans (hb1.mono (by omega))
    have hbw1 := hbw0.trans (hb1.mono hbw0.size)
    have hz1 := Nat.le_trans hz0 hb1.size
    have hof : ∀ g ∈ fpD ⟨bn, bv, bx, s1, m1⟩, g ∉ blkS s' ++ fpX xs := fun g hg hc => by have h1 := hMlo g hg; have h2 := hC0.1.lt _ hc; omega
    refine hK.out _ _ (HS.out _ hbw1 hA1) (fun hHeld => ?_)
    clear hK K
    refine wpAnyH_ready (rs := [1, 8]) (by kernel_rfl) (by simp) ?_
    refine AllReadyH.cons rfl (fun K hK => ?_) (AllReadyH.cons rfl (fun K hK => ?_) AllReadyH.nil)
    ·have cL := hD1.1.2
     dsimp only at cL
     go_simp
     refine hK.out _ _ (HS.out _ hbw1 hA1) (fun hHeld => ?_)
     clear hK K
     refine wpAnyH_ready (rs := [8]) (by kernel_rfl) (by simp) ?_
     refine AllReadyH.cons rfl (fun K hK => ?_) AllReadyH.nil
     have hb3 : Below Y1.heap.size Y1 (Y1.alloc (.cells #[.string bn, .int .i64 bv, .int .i64 bx, slW s1] 128)) := (Below.refl _ _).alloc (Nat.le_refl _) _
     have hQ3 := Qc.new Y1 (.string bn) (.int .i64 bv) (.int .i64 bx) (slW s1) 128
     have hD3 := hD1.below hb3 hD1.lt
     have hA3 := hA1.below hb3 hA1.lt
     have hC3 := hC1.below hb3 (Nat.le_refl _)
     have hM3 := hM1.below hb3 (Nat.le_refl _)
     have hbel3 := hbel1.trans (hb3.mono (by omega))
     have hbw3 := hbw1.trans (hb3.mono hbw1.size)
     have hz3 := Nat.le_trans hz1 hb3.size
     go_simp
     generalize World.alloc Y1 (.cells #[.string bn, .int .i64 bv, .int .i64 bx, slW s1] 128) = Y3 at *
     refine hK.out _ _ (HS.out _ hbw3 hA3) (fun hHeld => ?_)
     clear hK K
     clear hD1 hA1 hC1 hM1 hbel1 hbw1 hb3
     refine wpAnyH_ready (rs := [9]) (by kernel_rfl) (by simp) ?_
     refine AllReadyH.cons rfl (fun K hK => ?_) AllReadyH.nil
     have hml : xs.length = k := by obtain ⟨_, _, _, h, _⟩ := hC.form; rw [h, List.length_take, List.length_map]; omega
     refine step4 rfl _ _ 31 128 rfl _ 56 rfl (by decide) Tryz.underlying31 infoBox s' (xs.map Dx.q) (by rfl) (by rw [List.length_map]; exact hC3.1.1) Y1.heap.size (Dx.q ⟨bn, bv, bx, s1, m1⟩) (by rfl) hQ3 (Dx.one _) (by rw [List.length_map, hml]; omega) ?_
     intro s2 Y4 hrow hgr hloc
     have hown : ∀ g, (slW s').ownBlock = some g → w.heap.size + 3 ≤ g := fun g hg => hC3.2.2.2 g (List.mem_append_left _ (mem_blkS.2 hg))
     obtain ⟨hC4, -⟩ := hC3.grow (d := ⟨bn, bv, bx, s1, m1⟩) hM3.1 hM3.2.2.1 hof (fun g hg => (hM3.2.2.2 g hg)) hz3 hrow hgr hloc
     have hB4 : Below (w.heap.size + 3) Y3 Y4 := (Below.refl _ _).grown hgr hz3 hown
     have hD4 := hD3.below hB4 (by omega)
     have hA4 := hA3.below hB4 (by omega)
     have hbel4 := hbel3.trans (hB4.mono (by omega))
     have hbw4 := hbw3.trans (hB4.mono (by omega))
     have hz4 := Nat.le_trans hz3 hB4.size
     refine hK.out _ _ (HS.out _ hbw4 hA4) (fun hHeld => ?_)
     clear hK K
     clear hrow hgr hloc hown hB4 hC3 hD3 hA3 hbel3 hbw3 hM3
     refine tk (i := 10) (v := ?_) rfl (Or.inl ⟨by rfl, ?hy9⟩) ?ty9
     case hy9 => (intro w5 hSw; (try obtain ⟨p0, p1, p2, p3, p4⟩ := hSw); go_simp; all_goals with_reducible rfl)
     simp only [Act.put, J1, J2, J3, J4, J5, J6]
     obtain ⟨⟨e0, e1⟩, fz⟩ := id hD4
     have fz1 := fz 1
     dsimp only at e0 e1
     refine wpAnyH_ready (rs := [11]) (by kernel_rfl) (by simp) ?_
     refine AllReadyH.cons rfl (fun K hK => ?_) AllReadyH.nil
     have hD5 := hD4.set1 (slW s2)
     have hA5 := hA4.far (w.heap.size + 2) 1 (slW s2) (by omega)
     have hC5 := hC4.far (w.heap.size + 2) 1 (slW s2) (fun hc => by have := hC4.2.2.2 _ hc; omega)
     have hbel5 := below_put hbel4 (w.heap.size + 2) 1 (slW s2) (Nat.le_refl _)
     have hbw5 := below_put hbw4 (w.heap.size + 2) 1 (slW s2) (by omega)
     go_simp
     generalize World.setCell Y4 ⟨w.heap.size + 2, 1, none⟩ (slW s2) = Y5 at *
     refine hK.out _ _ (HS.out _ hbw5 hA5) (fun hHeld => ?_)
     clear hK K
     refine wpAnyH_done (by kernel_rfl) ?_ _
     have HC5 : Hid (CX (w.heap.size + 3) Y5 s2 ((xs0.map Dx.bx).take (k + 1)) (xs ++ [⟨bn, bv, bx, s1, m1⟩])) := by rw [HT.out]; exact hE ▸ hC5
     clear hC5 hC4 hHeld fz e0 e1 fz1 hbw5 hA5
     go_wp2
     go_roundw
     case rel => exact ⟨k + 1, s2, _, by omega, by go_num, hD5, HC5.out, hbel5⟩
     case measure => simp [intOf]; omega
    ·have hb3 : Below Y1.heap.size Y1 (Y1.alloc (.cells #[.string bn, .int .i64 bv, .int .i64 bx, slW s1] 128)) := (Below.refl _ _).alloc (Nat.le_refl _) _
     have hQ3 := Qc.new Y1 (.string bn) (.int .i64 bv) (.int .i64 bx) (slW s1) 128
     have hD3 := hD1.below hb3 hD1.lt
     have hA3 := hA1.below hb3 hA1.lt
     have hC3 := hC1.below hb3 (Nat.le_refl _)
     have hM3 := hM1.below hb3 (Nat.le_refl _)
     have hbel3 := hbel1.trans (hb3.mono (by omega))
     have hbw3 := hbw1.trans (hb3.mono hbw1.size)
     have hz3 := Nat.le_trans hz1 hb3.size
     go_simp
     generalize World.alloc Y1 (.cells #[.string bn, .int .i64 bv, .int .i64 bx, slW s1] 128) = Y3 at *
     refine hK.out _ _ (HS.out _ hbw3 hA3) (fun hHeld => ?_)
     clear hK K
     clear hD1 hA1 hC1 hM1 hbel1 hbw1 hb3
     refine wpAnyH_ready (rs := [1]) (by kernel_rfl) (by simp) ?_
     refine AllReadyH.cons rfl (fun K hK => ?_) AllReadyH.nil
     have cL := hD3.1.2
     dsimp only at cL
     go_simp
     refine hK.out _ _ (HS.out _ hbw3 hA3) (fun hHeld => ?_)
     clear hK K
     refine wpAnyH_ready (rs := [9]) (by kernel_rfl) (by simp) ?_
     refine AllReadyH.cons rfl (fun K hK => ?_) AllReadyH.nil
     have hml : xs.length = k := by obtain ⟨_, _, _, h, _⟩ := hC.form; rw [h, List.length_take, List.length_map]; omega
     refine step4 rfl _ _ 31 128 rfl _ 56 rfl (by decide) Tryz.underlying31 infoBox s' (xs.map Dx.q) (by rfl) (by rw [List.length_map]; exact hC3.1.1) Y1.heap.size (Dx.q ⟨bn, bv, bx, s1, m1⟩) (by rfl) hQ3 (Dx.one _) (by rw [List.length_map, hml]; omega) ?_
     intro s2 Y4 hrow hgr hloc
     have hown : ∀ g, (slW s').ownBlock = some g → w.heap.size + 3 ≤ g := fun g hg => hC3.2.2.2 g (List.mem_append_left _ (mem_blkS.2 hg))
     obtain ⟨hC4, -⟩ := hC3.grow (d := ⟨bn, bv, bx, s1, m1⟩) hM3.1 hM3.2.2.1 hof (fun g hg => (hM3.2.2.2 g hg)) hz3 hrow hgr hloc
     have hB4 : Below (w.heap.size + 3) Y3 Y4 := (Below.refl _ _).grown hgr hz3 hown
     have hD4 := hD3.below hB4 (by omega)
     have hA4 := hA3.below hB4 (by omega)
     have hbel4 := hbel3.trans (hB4.mono (by omega))
     have hbw4 := hbw3.trans (hB4.mono (by omega))
     have hz4 := Nat.le_trans hz3 hB4.size
     refine hK.out _ _ (HS.out _ hbw4 hA4) (fun hHeld => ?_)
     clear hK K
     clear hrow hgr hloc hown hB4 hC3 hD3 hA3 hbel3 hbw3 hM3
     refine tk (i := 10) (v := ?_) rfl (Or.inl ⟨by rfl, ?hy10⟩) ?ty10
     case hy10 => (intro w5 hSw; (try obtain ⟨p0, p1, p2, p3, p4⟩ := hSw); go_simp; all_goals with_reducible rfl)
     simp only [Act.put, J1, J2, J3, J4, J5, J6]
     obtain ⟨⟨e0, e1⟩, fz⟩ := id hD4
     have fz1 := fz 1
     dsimp only at e0 e1
     refine wpAnyH_ready (rs := [11]) (by kernel_rfl) (by simp) ?_
     refine AllReadyH.cons rfl (fun K hK => ?_) AllReadyH.nil
     have hD5 := hD4.set1 (slW s2)
     have hA5 := hA4.far (w.heap.size + 2) 1 (slW s2) (by omega)
     have hC5 := hC4.far (w.heap.size + 2) 1 (slW s2) (fun hc => by have := hC4.2.2.2 _ hc; omega)
     have hbel5 := below_put hbel4 (w.heap.size + 2) 1 (slW s2) (Nat.le_refl _)
     have hbw5 := below_put hbw4 (w.heap.size + 2) 1 (slW s2) (by omega)
     go_simp
     generalize World.setCell Y4 ⟨w.heap.size + 2, 1, none⟩ (slW s2) = Y5 at *
     refine hK.out _ _ (HS.out _ hbw5 hA5) (fun hHeld => ?_)
     clear hK K
     refine wpAnyH_done (by kernel_rfl) ?_ _
     have HC5 : Hid (CX (w.heap.size + 3) Y5 s2 ((xs0.map Dx.bx).take (k + 1)) (xs ++ [⟨bn, bv, bx, s1, m1⟩])) := by rw [HT.out]; exact hE ▸ hC5
     clear hC5 hC4 hHeld fz e0 e1 fz1 hbw5 hA5
     go_wp2
     go_roundw
     case rel => exact ⟨k + 1, s2, _, by omega, by go_num, hD5, HC5.out, hbel5⟩
     case measure => simp [intOf]; omega
  ·have hkk : k = n' := by omega
   subst hkk
   have hki : ¬ (k : Int) < (k : Int) := by omega
   have HC1 : Hid (CX (w.heap.size + 3) wr s' (xs0.map Dx.bx) xs) := by rw [List.take_of_length_le (by rw [List.length_map]; omega)] at hC; exact hC
   clear hC
   have hZ1 := hZ.below hbel (by omega)
   obtain ⟨e0, e1⟩ := id hD.1
   obtain ⟨z0, z1⟩ := id hZ1.1
   have f0 := hZ1.2 0
   have f1 := hZ1.2 1
   dsimp only at e0 e1 z0 z1
   have hR := (hZ1.set0 (.int .i64 v)).set1 (slW s')
   obtain ⟨r0, r1⟩ := id hR.1
   dsimp only at r0 r1
   have hno : w.heap.size + 1 ∉ blkS s' ++ fpX xs := fun hc => by have := HC1.out.2.2.2 _ hc; omega
   have HCC : Hid (CX (w.heap.size + 3) ((wr.setCell ⟨w.heap.size + 1, 0, none⟩ (.int .i64 v)).setCell ⟨w.heap.size + 1, 1, none⟩ (slW s')) s' (xs0.map Dx.bx) xs) := (HC1.out.far (w.heap.size + 1) 0 (.int .i64 v) hno).far (w.heap.size + 1) 1 (slW s') hno
   have HBB : Hid (Below w.heap.size w ((wr.setCell ⟨w.heap.size + 1, 0, none⟩ (.int .i64 v)).setCell ⟨w.heap.size + 1, 1, none⟩ (slW s'))) := below_put (below_put hbw (w.heap.size + 1) 0 (.int .i64 v) (by omega)) (w.heap.size + 1) 1 (slW s') (by omega)
   go_wp2
   refine bodyPost_ret (v := .agg #[.int .i64 v, slW s']) (by simp [results, Tryz.results74, go_sem, r0, r1]) rfl ?_
   exact ⟨s', xs, rfl, CX.low HCC.out (by omega), HBB.out⟩
end Go.Proofs.YtejbbnpgghpgaaaGreatDoor
