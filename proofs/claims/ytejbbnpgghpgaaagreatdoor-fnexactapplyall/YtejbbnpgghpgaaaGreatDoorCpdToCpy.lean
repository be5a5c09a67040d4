/- Bytes copied into memory of the call's own: the program's; no conditions beyond those that each fact names · A store copied into memory of the call's own: the program's ownMessages, ownShelf; no conditions beyond those that each fact names · The model's copy of bytes. -/
import Derived.Test.YtejbbnpgghpgaaaGreatDoorJfzToMrk0
import Derived.Laws.CopyOwn
import Derived.Test.YtejbbnpgghpgaaaGreatDoorStn
namespace Go.Proofs.YtejbbnpgghpgaaaGreatDoor
open Go.RowKit
theorem rowJ {w : World} {B e g n : Nat} {xs : List Value} (h : w.ownsRow B e 1 (.slice (some ⟨g, 0, none⟩) n n) n xs) : ∃ cur : List Value, w.heap[g]? = some (.cells cur.toArray e (0, 0)) ∧ cur.length = n := by
  rcases h.2 with ⟨h', _⟩ | ⟨g', cap, cur, h1, _, h3, _, _, h6, _⟩
  · cases h'
  · injection h1 with h1 _ h2
    injection h1 with h1
    injection h1 with h1
    subst h1 h2
    exact ⟨cur.toList, by simpa using h3, by simpa using h6⟩
set_option maxHeartbeats 800000 in
set_option maxRecDepth 100000 in
theorem copiedJ (a : Option Addr) (n cap : Nat) (l : List Nat) (w : World) (hl : l.length = n) (hr : Rd w a l) (hn : n ≤ 1048576) :
    Calls Tryz.prog 101 #[.slice a n cap] w fun e w' => ∃ v, e = .returned v ∧ Own w' w.heap.size v l ∧ Below w.heap.size w w' := by
  obtain ⟨i0, hi, hz0, hz1, hz2⟩ := info_parts infoB
  have hsz1 : (Tryz.prog.info? 5).map (·.size) = some 1 := by rw [hi]; simp [hz1]
  have HP : Hid (∀ w0, Below w.heap.size w w0 → 0 < (bc l).length → ∃ ad, a = some ad ∧ ∀ j v, (bc l)[j]? = some v → w0.cell? (ad.add j) = some v) := fun w0 hb hp => by
    rw [bc_len] at hp
    obtain ⟨b, off, rfl, hlt, hc⟩ := hr.at_ hp
    refine ⟨_, rfl, fun j v hj => ?_⟩
    have hjl : j < l.length := by
      rcases Nat.lt_or_ge j l.length with hlt | hge
      · exact hlt
      · rw [List.getElem?_eq_none (by rw [bc_len]; exact hge)] at hj; cases hj
    rw [bc_get hjl] at hj
    cases hj
    rw [Go.WideShapes.add_plain]
    exact (hb.cell (p := ⟨b, off + j, none⟩) hlt).trans (hc j hjl)
  have HS : Hid (∀ cur : List Value, cur.length = n → splice cur 0 (bc l) = bc l) := fun cur hc => by
    unfold splice
    rw [List.drop_of_length_le (by rw [bc_len]; omega)]; simp
  have hbl : (bc l).length = n := by rw [bc_len, hl]
  go_enter Tryz.func101, Tryz.ntmps101
  go_wp2_with (first
    | (at_make; refine wpList_make_full _ rfl _ _ 26 rfl w.heap.size 5 i0 (.int .u8 0) 1 Tryz.underlying26 hi hz0 hz1 .i64 .i64 _ _ n rfl rfl rfl rfl (by rw [hz2]; omega) (by unfold maxLen; omega) (Nat.le_refl _) ?_; intro w0 hown0 hgrow0; obtain ⟨cur, hg, hcl⟩ := rowJ hown0; have hb0 : Below w.heap.size w w0 := (Below.refl _ _).grown hgrow0 (Nat.le_refl _) (by intro k hk; cases hk); clear hown0 hgrow0)
    | (refine wpList_copy_splice rfl _ _ 26 26 rfl 5 Tryz.underlying26 hsz1 (some ⟨w.heap.size, 0, none⟩) a n n n cap rfl rfl w.heap.size 0 cur 5 hg (bc l) (by rw [hbl]; exact (Nat.min_self n).symm) (fun hp => ⟨rfl, HP.out _ hb0 hp⟩) (by omega) (bc_one l) w.heap.size w hb0 (Nat.le_refl _) ?_; intro w1 hg1 hb1; have hg1' := hg1.out; rw [HS.out cur hcl] at hg1'; have HO : Hid (Own w1 w.heap.size (.slice (some ⟨w.heap.size, 0, none⟩) n n) l) := (by unfold Hid Own; rw [hl]; exact ⟨by rw [hbl]; simp, .inr ⟨w.heap.size, n, (bc l).toArray, rfl, Nat.le_refl _, hg1', Nat.le_refl _, by unfold maxLen; omega, by simp [hbl], by rw [List.take_of_length_le (by simp [hbl])]⟩⟩); clear hg1 hg1' hg HP HS))
  go_wp2
  go_ret
  exact ⟨_, rfl, HO.out, hb1⟩
end Go.Proofs.YtejbbnpgghpgaaaGreatDoor
namespace Go.Proofs.YtejbbnpgghpgaaaGreatDoor
open Go.RowKit
set_option linter.unusedVariables false
theorem take_snocM (l : List Msg) (k : Nat) (h : k < l.length) : l.take (k + 1) = l.take k ++ [nthM l k] := by rw [nthM_get h, List.take_succ_eq_append_getElem h]
theorem take_snocX (l : List Bx) (k : Nat) (h : k < l.length) : l.take (k + 1) = l.take k ++ [nthX l k] := by rw [nthX_get h, List.take_succ_eq_append_getElem h]
def CpM (w : World) (l : List Msg) (e : Ending) (w' : World) : Prop := ∃ s ms, e = .returned (slW s) ∧ CM w.heap.size w' s l ms ∧ Below w.heap.size w w'
set_option maxHeartbeats 1600000 in
set_option maxRecDepth 100000 in
theorem ownMessages_any (s : SlQ) (l : List Msg) {lo : Nat} (w : World) (hs : IsMs lo w s l) (hf : FtMs l) :
    Calls Tryz.prog 123 #[slW s] w fun e w' => CpM w l e w' := by
  obtain ⟨a, n, cap⟩ := s
  obtain ⟨hl, hnc, hcm, hr⟩ := hs
  obtain ⟨hn, hft⟩ := hf
  dsimp only [slW] at *
  unfold maxLen at hcm
  go_enter Tryz.func123, Tryz.ntmps123
  go_wp2
  go_loopw [3, 8] (fun v i wr => ∃ (k : Nat) (s' : SlQ) (ms : List Dm), k ≤ n ∧ i = .int .i64 k ∧ v = slW s' ∧ CM w.heap.size wr s' (l.take k) ms ∧ Below w.heap.size w wr)
    (fun _ i _ => n - (intOf i).toNat)
  case atStart => exact ⟨0, (none, 0, 0), [], Nat.zero_le _, rfl, rfl, CM.nil _ _, Below.refl _ _⟩
  case round =>
    obtain ⟨k, s', ms, hk, rfl, rfl, hC, hbel⟩ := hrel
    by_cases hkn : k < n
    · have hki : (k : Int) < (n : Int) := by omega
      obtain ⟨b, off, rfl, -, hblt, hcell⟩ := (hr.below hbel).at_ (by omega)
      obtain ⟨sd, ⟨c0, c1, c2, c3⟩, hI⟩ := hcell k (by omega)
      have hfk := hft k (by omega)
      have HT : Hid (l.take (k + 1) = l.take k ++ [nthM l k]) := take_snocM l k (by omega)
      clear hcell
      generalize nthM l k = p at *
      obtain ⟨mu, mf, md, mb⟩ := p
      dsimp only at c0 c1 c2 HT
      have hb0 : Below wr.heap.size wr (wr.alloc (.cells #[.int .i64 mu, .int .i64 mf, .int .i64 md, slW sd] 136)) := (Below.refl _ _).alloc (Nat.le_refl _) _
      have hI0 := hI.below hb0
      have HC := copiedJ sd.1 sd.2.1 sd.2.2 mb (wr.alloc (.cells #[.int .i64 mu, .int .i64 mf, .int .i64 md, slW sd] 136)) hI0.1 hI0.2.2.2.2.1 (by rw [← hI.1]; exact hfk)
      have hC0 := hC.below hb0 (Nat.le_refl _)
      have hQ0 := Qw.new wr (.int .i64 mu) (.int .i64 mf) (.int .i64 md) (slW sd) 136
      have hbel0 := hbel.trans (hb0.mono hbel.size)
      have hsz0 : (wr.alloc (.cells #[.int .i64 mu, .int .i64 mf, .int .i64 md, slW sd] 136)).heap.size = wr.heap.size + 1 := by simp
      have HIB : Hid (IsB mb) := hI.2.2.2.1
      clear hI hI0
      go_wp2_with fail
      refine HC.mono ?_
      rintro e w1 ⟨v1, rfl, hO1, hb1⟩
      rw [hsz0] at hb1
      obtain ⟨s1, rfl, hOB, hge⟩ := hO1.slq HIB.out
      rw [hsz0] at hge
      have hC1 := hC0.below hb1 (Nat.le_of_eq hsz0)
      have hQ1 := hQ0.below hb1 (by omega)
      have hbel1 : Below w.heap.size w w1 := hbel0.trans (hb1.mono (by have := hbel.size; omega))
      have hz1 : wr.heap.size + 1 ≤ w1.heap.size := by have := hb1.size; rw [hsz0] at this; exact this
      clear HC hC0 hQ0 hbel0 hO1 hb1
      obtain ⟨⟨d0, d1, d2, d3⟩, f⟩ := id hQ1
      have f3 := f 3
      dsimp only at d0 d1 d2 d3
      have hQ2 := hQ1.set3 (slW s1)
      have hno : wr.heap.size ∉ blkS s' ++ fpM ms := fun hc => by
        have := hC.1.lt _ hc; omega
      have hC2 := (hC1.far wr.heap.size 3 (slW s1) hno)
      have hOB2 : OwB (w1.setCell ⟨wr.heap.size, 3, none⟩ (slW s1)) s1 mb := hOB.keep fun g hg => Below.heap_setCell _ _ _ _ (fun e => by have := (hge g hg).1; simp at e; omega)
      have hbel2 : Below w.heap.size w (w1.setCell ⟨wr.heap.size, 3, none⟩ (slW s1)) := hbel1.setCell hbel.size _
      obtain ⟨W, hW⟩ : ∃ W, w1.setCell ⟨wr.heap.size, 3, none⟩ (slW s1) = W := ⟨_, rfl⟩
      have hWz : W.heap.size = w1.heap.size := by rw [← hW]; simp
      rw [hW] at hQ2 hC2 hOB2 hbel2
      have hq3 := hQ2.1
      obtain ⟨q0, q1, q2, q3⟩ := id hq3
      dsimp only at q0 q1 q2 q3
      have hC3 := hC2.alloc (.cells #[.int .i64 mu, .int .i64 mf, .int .i64 md, slW s1] 136)
      have hOB3 : OwB (W.alloc (.cells #[.int .i64 mu, .int .i64 mf, .int .i64 md, slW s1] 136)) s1 mb := hOB2.below ((Below.refl _ W).alloc (Nat.le_refl _) _) (Nat.le_refl _)
      have hbel3 : Below w.heap.size w (W.alloc (.cells #[.int .i64 mu, .int .i64 mf, .int .i64 md, slW s1] 136)) := hbel2.alloc hbel2.size _
      have hml : ms.length = k := by obtain ⟨_, _, _, h, _⟩ := hC.form; rw [h, List.length_take]; omega
      have hnew := hWz ▸ Qc.new W (.int .i64 mu) (.int .i64 mf) (.int .i64 md) (slW s1) 136
      have hof : ∀ g ∈ blkS s1, g ∉ blkS s' ++ fpM ms := fun g hg hc => by have h1 := (hge g hg).1; have h2 := hC.1.lt _ hc; omega
      have hzz := hbel.size
      have hN : ∀ g ∈ blkS s1, w.heap.size ≤ g := fun g hg => by have h1 := (hge g hg).1; omega
      clear hC1 hQ1 hOB hC2 hOB2 hbel2 hQ2 hq3 hge hno
      go_wp2_with (at_builtin; go_loud (refine app4 rfl _ _ 126 136 rfl _ 48 rfl (by decide) Tryz.underlying126 infoMessage s' (ms.map Dm.q) rfl (by rw [List.length_map]; exact hC3.1.1) w1.heap.size (Dm.q ⟨⟨mu, mf, md, mb⟩, s1⟩) rfl hnew (Dm.one _) (by rw [List.length_map, hml]; omega) ?_; intro s2 w2 hrow hgr hloc))
      obtain ⟨hC4, -⟩ := hC3.grow (m := ⟨mu, mf, md, mb⟩) hOB3 hof hN hbel3.size hrow hgr hloc
      have hbel4 : Below w.heap.size w w2 := hbel3.grown hgr hbel3.size (fun g hg => hC3.2.2.2 g (List.mem_append_left _ (mem_blkS.2 hg)))
      have HC4 : Hid (CM w.heap.size w2 s2 (l.take (k + 1)) (ms ++ [⟨⟨mu, mf, md, mb⟩, s1⟩])) := by rw [HT.out]; exact hC4
      clear hC4 hrow hgr hloc hC3 hOB3
      go_wp2
      go_roundw
      case rel => exact ⟨k + 1, s2, _, by omega, by go_num, rfl, HC4.out, hbel4⟩
      case measure => simp [intOf]; omega
    · have hkk : k = n := by omega
      subst hkk
      have hki : ¬ (k : Int) < (k : Int) := by omega
      have HM : Hid (CM w.heap.size wr s' l ms) := by rw [List.take_of_length_le (by omega)] at hC; exact hC
      clear hC
      go_wp2
      go_ret
      exact ⟨s', ms, rfl, HM.out, hbel⟩
def Sh (N : Nat) (w : World) (g : Nat) (v : Int) (l : List Bx) (s : SlQ) (xs : List Dx) : Prop := Dw w g (.int .i64 v, slW s) ∧ CX N w s l xs ∧ g ∉ blkS s ++ fpX xs ∧ N ≤ g
theorem Sh.below {N C g : Nat} {w w' : World} {v : Int} {l : List Bx} {s : SlQ} {xs : List Dx} (h : Sh N w g v l s xs) (hb : Below C w w') (hC : w.heap.size ≤ C) : Sh N w' g v l s xs := ⟨h.1.below hb (Nat.lt_of_lt_of_le h.1.lt hC), h.2.1.below hb hC, h.2.2⟩
theorem Sh.alloc {N g : Nat} {w : World} {v : Int} {l : List Bx} {s : SlQ} {xs : List Dx} (h : Sh N w g v l s xs) (o : Obj) : Sh N (w.alloc o) g v l s xs := h.below ((Below.refl _ w).alloc (Nat.le_refl _) o) (Nat.le_refl _)
theorem Sh.far {N g : Nat} {w : World} {v : Int} {l : List Bx} {s : SlQ} {xs : List Dx} (h : Sh N w g v l s xs) (k j : Nat) (u : Value) (hk : k ≠ g) (hk' : k ∉ blkS s ++ fpX xs) : Sh N (w.setCell ⟨k, j, none⟩ u) g v l s xs := ⟨h.1.far k j u hk, h.2.1.far k j u hk', h.2.2⟩
theorem Sh.push {N g : Nat} {w w1 : World} {v : Int} {l : List Bx} {sl s' : SlQ} {xs : List Dx} {d : Dx} (h : Sh N w g v l sl xs) (hd : HM w d.s d.ms) (hdn : (fpD d).Nodup) (hof : ∀ k ∈ fpD d, k ∉ blkS sl ++ fpX xs ∧ k ≠ g ∧ N ≤ k)
    (hrow : w1.ownsRow 0 128 4 (slW s') (xs.map Dx.q ++ [d.q]).length (qc (xs.map Dx.q ++ [d.q]))) (hg : w.grownBy w1 (slW sl).ownBlock) (hloc : blkS s' = blkS sl ∨ blkS s' = [w.heap.size]) :
    Sh N (w1.setCell ⟨g, 1, none⟩ (slW s')) g v (l ++ [d.bx]) s' (xs ++ [d]) := by
  have hgl := h.1.lt
  have hNg := h.2.2.2
  obtain ⟨hC, hm⟩ := h.2.1.grow hd hdn (fun k hk => (hof k hk).1) (fun k hk => (hof k hk).2.2) (by omega) hrow hg hloc
  have hgn : g ∉ blkS s' ++ fpX (xs ++ [d]) := fun hc => by
    rcases hm g hc with hc | hc
    · rw [show fpX (xs ++ [d]) = fpX xs ++ fpD d from flat_snoc _ _ _, ← List.append_assoc] at hc
      rcases List.mem_append.1 hc with hc | hc
      · exact h.2.2.1 hc
      · exact (hof g hc).2.1 rfl
    · omega
  have hD1 := h.1.grown hg (fun e => h.2.2.1 (List.mem_append_left _ (mem_blkS.2 e.symm)))
  exact ⟨hD1.set1 (slW s'), hC.far g 1 (slW s') hgn, hgn, hNg⟩
def ShEnd (v : Int) (l : List Bx) (w : World) (e : Ending) (w' : World) : Prop := ∃ g s xs, e = .returned (.pointer (some ⟨g, 0, none⟩)) ∧ Sh w.heap.size w' g v l s xs ∧ Below w.heap.size w w'
set_option maxHeartbeats 1600000 in
set_option maxRecDepth 100000 in
theorem ownShelf_any (v : Int) (s : SlQ) (l : List Bx) {lo : Nat} (w : World) (hs : IsXs lo w s l) (hf : FtXs l) :
    Calls Tryz.prog 63 #[.agg #[.int .i64 v, slW s]] w fun e w' => ShEnd v l w e w' := by
  obtain ⟨a, n, cap⟩ := s
  obtain ⟨hl, hnc, hcm, hr⟩ := hs
  obtain ⟨hn, hft⟩ := hf
  dsimp only [slW] at *
  unfold maxLen at hcm
  have hbA : Below w.heap.size w (w.alloc (.cells #[.int .i64 v, .slice a n cap] 33)) := (Below.refl _ _).alloc (Nat.le_refl _) _
  have hbB : Below w.heap.size w ((w.alloc (.cells #[.int .i64 v, .slice a n cap] 33)).alloc (.cells #[.int .i64 v, .slice none 0 0] 143)) := hbA.alloc hbA.size _
  have hSh : Sh w.heap.size ((w.alloc (.cells #[.int .i64 v, .slice a n cap] 33)).alloc (.cells #[.int .i64 v, .slice none 0 0] 143)) (w.heap.size + 1) v [] (none, 0, 0) [] := by
    refine ⟨?_, CX.nil _ _, by simp [blkS, fpX], by omega⟩
    have h := Dw.new (w.alloc (.cells #[.int .i64 v, .slice a n cap] 33)) (.int .i64 v) (.slice none 0 0) 143
    simpa using h
  go_enter Tryz.func63, Tryz.ntmps63
  go_wp2
  go_loopw [12] (fun i wr => ∃ (k : Nat) (s' : SlQ) (xs : List Dx), k ≤ n ∧ i = .int .i64 k ∧ Sh w.heap.size wr (w.heap.size + 1) v (l.take k) s' xs ∧ Below w.heap.size w wr)
    (fun i _ => n - (intOf i).toNat)
  case atStart => exact ⟨0, (none, 0, 0), [], Nat.zero_le _, rfl, hSh, hbB⟩
  case round =>
    obtain ⟨k, s', xs, hk, rfl, hC, hbel⟩ := hrel
    clear hSh hbA hbB
    by_cases hkn : k < n
    · have hki : (k : Int) < (n : Int) := by omega
      obtain ⟨b, off, rfl, -, hblt, hcell⟩ := (hr.below hbel).at_ (by omega)
      obtain ⟨sd, ⟨c0, c1, c2, c3⟩, hI⟩ := hcell k (by omega)
      have hfk := (hft k (by omega)).2
      have HT : Hid (l.take (k + 1) = l.take k ++ [nthX l k]) := take_snocX l k (by omega)
      clear hcell
      generalize nthX l k = p at *
      obtain ⟨bn, bv, bx, bm⟩ := p
      dsimp only at c0 c1 c2 HT
      have hb0 : Below wr.heap.size wr (wr.alloc (.cells #[.string bn, .int .i64 bv, .int .i64 bx, slW sd] 128)) := (Below.refl _ _).alloc (Nat.le_refl _) _
      have HC := ownMessages_any sd bm (wr.alloc (.cells #[.string bn, .int .i64 bv, .int .i64 bx, slW sd] 128)) (hI.below hb0) hfk
      have hC0 := hC.below hb0 (Nat.le_refl _)
      have hQ0 := Qw.new wr (.string bn) (.int .i64 bv) (.int .i64 bx) (slW sd) 128
      have hbel0 := hbel.trans (hb0.mono hbel.size)
      have hsz0 : (wr.alloc (.cells #[.string bn, .int .i64 bv, .int .i64 bx, slW sd] 128)).heap.size = wr.heap.size + 1 := by simp
      clear hI
      go_wp2_with fail
      refine HC.mono ?_
      rintro e w1 ⟨s1, ms, rfl, hM1, hb1⟩
      rw [hsz0] at hb1 hM1
      have hC1 := hC0.below hb1 (Nat.le_of_eq hsz0)
      have hQ1 := hQ0.below hb1 (by omega)
      have hbel1 : Below w.heap.size w w1 := hbel0.trans (hb1.mono (by have := hbel.size; omega))
      have hz1 : wr.heap.size + 1 ≤ w1.heap.size := by have := hb1.size; rw [hsz0] at this; exact this
      clear HC hC0 hQ0 hbel0 hb1
      obtain ⟨⟨d0, d1, d2, d3⟩, f⟩ := id hQ1
      have f3 := f 3
      dsimp only at d0 d1 d2 d3
      have hzz := hbel.size
      have hgl := hC.1.lt
      have hno : wr.heap.size ∉ blkS s' ++ fpX xs := fun hc => by have := hC.2.1.1.lt _ hc; omega
      have hno1 : wr.heap.size ∉ blkS s1 ++ fpM ms := fun hc => by have := hM1.2.2.2 _ hc; omega
      have hC2 := hC1.far wr.heap.size 3 (slW s1) (by omega) hno
      have hM2 := hM1.far wr.heap.size 3 (slW s1) hno1
      have hQ2 := hQ1.set3 (slW s1)
      have hbel2 : Below w.heap.size w (w1.setCell ⟨wr.heap.size, 3, none⟩ (slW s1)) := hbel1.setCell hbel.size _
      obtain ⟨W, hW⟩ : ∃ W, w1.setCell ⟨wr.heap.size, 3, none⟩ (slW s1) = W := ⟨_, rfl⟩
      have hWz : W.heap.size = w1.heap.size := by rw [← hW]; simp
      rw [hW] at hQ2 hC2 hM2 hbel2
      obtain ⟨q0, q1, q2, q3⟩ := id hQ2.1
      obtain ⟨e0, e1⟩ := id hC2.1.1
      dsimp only at q0 q1 q2 q3 e0 e1
      have hC3 := hC2.alloc (.cells #[.string bn, .int .i64 bv, .int .i64 bx, slW s1] 128)
      have hM3 := hM2.alloc (.cells #[.string bn, .int .i64 bv, .int .i64 bx, slW s1] 128)
      have hbel3 : Below w.heap.size w (W.alloc (.cells #[.string bn, .int .i64 bv, .int .i64 bx, slW s1] 128)) := hbel2.alloc hbel2.size _
      have hml : xs.length = k := by obtain ⟨_, _, _, h, _⟩ := hC.2.1.form; rw [h, List.length_take]; omega
      have hnew := hWz ▸ Qc.new W (.string bn) (.int .i64 bv) (.int .i64 bx) (slW s1) 128
      have hof : ∀ g ∈ fpD ⟨bn, bv, bx, s1, ms⟩, g ∉ blkS s' ++ fpX xs ∧ g ≠ w.heap.size + 1 ∧ w.heap.size ≤ g := fun g hg => by
        have h1 := hM1.2.2.2 g hg
        exact ⟨fun hc => by have h2 := hC.2.1.1.lt _ hc; omega, by omega, by omega⟩
      clear hC1 hQ1 hC2 hbel2 hQ2 hno hno1 hM1 hM2 f
      go_wp2_with (at_builtin; go_loud (refine app4 rfl _ _ 141 128 rfl _ 56 rfl (by decide) Tryz.underlying141 infoBox s' (xs.map Dx.q) rfl (by rw [List.length_map]; exact hC3.2.1.1.1) w1.heap.size (Dx.q ⟨bn, bv, bx, s1, ms⟩) rfl hnew (Dx.one _) (by rw [List.length_map, hml]; omega) ?_; intro s2 w2 hrow hgr hloc; have hD2 := hC3.1.grown hgr (fun e => hC3.2.2.1 (List.mem_append_left _ (mem_blkS.2 e.symm))); obtain ⟨⟨a0, a1⟩, fz⟩ := hD2; have fz1 := fz 1; dsimp only at a0 a1))
      have hC4 := hC3.push (d := ⟨bn, bv, bx, s1, ms⟩) hM3.1 hM3.2.2.1 hof hrow hgr hloc
      have hbel4 : Below w.heap.size w (w2.setCell ⟨w.heap.size + 1, 1, none⟩ (slW s2)) := (hbel3.grown hgr hbel3.size (fun g hg => hC3.2.1.2.2.2 g (List.mem_append_left _ (mem_blkS.2 hg)))).setCell (by simp) _
      have HC4 : Hid (Sh w.heap.size (w2.setCell ⟨w.heap.size + 1, 1, none⟩ (slW s2)) (w.heap.size + 1) v (l.take (k + 1)) s2 (xs ++ [⟨bn, bv, bx, s1, ms⟩])) := by rw [HT.out, ← hM3.2.1]; exact hC4
      clear hC4 hrow hgr hloc hC3 hM3 fz
      go_roundw
      case rel => exact ⟨k + 1, s2, _, by omega, by go_num, HC4.out, hbel4⟩
      case measure => simp [intOf]; omega
    · have hkk : k = n := by omega
      subst hkk
      have hki : ¬ (k : Int) < (k : Int) := by omega
      have HM : Hid (Sh w.heap.size wr (w.heap.size + 1) v l s' xs) := by rw [List.take_of_length_le (by omega)] at hC; exact hC
      clear hC
      go_wp2
      go_ret
      exact ⟨_, s', xs, rfl, HM.out, hbel⟩
end Go.Proofs.YtejbbnpgghpgaaaGreatDoor
namespace Go.Proofs.YtejbbnpgghpgaaaGreatDoor
open Go.RowKit
set_option maxHeartbeats 800000 in
set_option maxRecDepth 100000 in
theorem l1Copy_any (b off n cap : Nat) (l : List Nat) (w : World) (hl : l.length = n) (hr : Rd w (some ⟨b, off, none⟩) l) (hn : n ≤ 1048576) :
    Calls Tryz.prog 95 #[.slice (some ⟨b, off, none⟩) n cap] w fun e w' => ∃ v, e = .returned v ∧ Own w' w.heap.size v l ∧ Below w.heap.size w w' := by
  have HC : Hid (∀ j, j < n → (w.alloc (.cells #[] 5)).cell? ((⟨b, off, none⟩ : Addr).add j) = some (.int .u8 (nth l j : Int))) := fun j hj => by
    obtain ⟨b', off', e, -, hc⟩ := (hr.below ((Below.refl _ w).alloc (Nat.le_refl _) (.cells #[] 5))).at_ (by omega)
    cases e
    rw [Go.WideShapes.add_plain]
    exact hc j (by omega)
  go_enter Tryz.func95, Tryz.ntmps95
  go_wp2_with (at_builtin; refine wpList_app rfl _ _ rfl w.heap.size _ [] rfl (Own.lit w w.heap.size (Nat.le_refl _) #[] [] rfl (Nat.zero_le _)) ⟨b, off, none⟩ n cap l rfl hl HC.out (by simp; omega) (by simp) ?_; intro v' w1 hown' hb')
  have hb : Below w.heap.size w w1 := ((Below.refl _ _).alloc (Nat.le_refl _) _).trans hb'
  obtain ⟨a, cp, hv, -, -⟩ := hown'.form
  subst hv
  go_wp2
  go_ret
  exact ⟨_, rfl, hown', hb⟩
end Go.Proofs.YtejbbnpgghpgaaaGreatDoor
