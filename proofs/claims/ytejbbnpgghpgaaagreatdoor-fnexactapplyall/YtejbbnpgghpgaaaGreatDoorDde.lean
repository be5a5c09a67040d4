/- What is done to a shelf: deleted messages are gone; no conditions beyond those that each fact names. -/
import Derived.Test.YtejbbnpgghpgaaaGreatDoorDdd
namespace Go.Proofs.YtejbbnpgghpgaaaGreatDoor
open Go.RowKit
set_option linter.unusedVariables false
theorem lf_filter (ms : List Dm) (pr : Dm → Bool) : (lfN (psZ (fun k => pr (nthD ms k)) ms.length) ms.length).map (nthQ (ms.map Dm.q)) = (ms.filter fun d => !pr d).map Dm.q := by
  have e1 : lfN (psZ (fun k => pr (nthD ms k)) ms.length) ms.length = psN (fun k => !pr (nthD ms k)) ms.length := by
    rw [psN_eq]
    unfold lfN
    refine List.filter_congr fun j hj => ?_
    rw [hasZ_psZ _ (List.mem_range.1 hj)]
  rw [e1, ← filt_nthD ms (fun d => !pr d), List.map_map]
  refine List.map_congr_left fun k hk => ?_
  have hkl := psN_lt hk
  rw [map_nthQ hkl, Function.comp, nthD_get hkl]
theorem CX.less {N : Nat} {W W1 : World} {s : SlQ} {l : List Bx} {xs : List Dx} (h : CX N W s l xs) (i : Nat) (hi : i < xs.length) (hb : Below W.heap.size W W1) (hN : N ≤ W.heap.size) {g n cap : Nat} (hs : s = (some ⟨g, 0, none⟩, n, cap)) (d : Dx) (hd : xs[i] = d) (s1 : SlQ) (ms' : List Dm) (hsub : ms'.Sublist d.ms)
    (hrow : W1.ownsRow 0 136 4 (slW s1) (ms'.map Dm.q).length (qc (ms'.map Dm.q))) (hge : ∀ k ∈ blkS s1, W.heap.size ≤ k) :
    CX N (W1.setCell ⟨g, i * 4 + 3, none⟩ (slW s1)) s (l.set i ⟨d.n, d.v, d.x, ms'.map Dm.m⟩) (xs.set i ⟨d.n, d.v, d.x, s1, ms'⟩) ∧ (∀ k ∈ blkS s ++ fpX (xs.set i ⟨d.n, d.v, d.x, s1, ms'⟩), k ∈ blkS s ++ fpX xs ∨ W.heap.size ≤ k) ∧ Kx (blkS s ++ fpX xs) W (W1.setCell ⟨g, i * 4 + 3, none⟩ (slW s1)) := by
  subst hd hs
  have hB := h.box i hi
  have hlt := h.1.lt
  have hsubf : (fpM ms').Sublist (fpM xs[i].ms) := flat_sub hsub
  have hgs : g ∈ blkS ((some ⟨g, 0, none⟩, n, cap) : SlQ) := by simp [blkS]
  have hgl := hlt g (List.mem_append_left _ hgs)
  have hr1 := row_keep h.1.1 (w' := W1) fun k hk => hb.block k (h.1.1.lt k hk).2
  obtain ⟨⟨a', n', c'⟩, e, h2, -⟩ := row_form hr1
  cases e
  dsimp only at h2
  subst h2
  have hr2 := row_set3 hr1 (i := i) (by rw [List.length_map]; exact hi) (slW s1)
  rw [map_nthQ hi] at hr2
  have hHM : HM (W1.setCell ⟨g, i * 4 + 3, none⟩ (slW s1)) s1 ms' := by
    have h0 : HM W1 s1 ms' := ⟨by rw [List.length_map] at hrow; exact hrow, fun d hd => (hB.1.2 d (hsub.subset hd)).below hb (Nat.le_refl _)⟩
    refine h0.far g _ _ (fun hc => ?_)
    rcases List.mem_append.1 hc with hc | hc
    · have := hge g hc; omega
    · exact h.off i hi hgs (List.mem_append_right _ (hsubf.subset hc))
  have hK : Kx (blkS ((some ⟨g, 0, none⟩, xs.length, cap) : SlQ) ++ fpD xs[i]) W (W1.setCell ⟨g, i * 4 + 3, none⟩ (slW s1)) := ((Kx.of_below hb).set g _ _ (.inl (List.mem_append_left _ hgs)))
  have hdn : (fpD ⟨xs[i].n, xs[i].v, xs[i].x, s1, ms'⟩).Nodup := nd_app (blkS_nodup _) (nd_sub hsubf (nd_right hB.2.2.1)) (fun k hk hc => by have h3 := hge k hk; have h4 := hlt k (List.mem_append_right _ (mem_flat_get hi (List.mem_append_right _ (hsubf.subset hc)))); omega)
  have hf : ∀ k ∈ fpD ⟨xs[i].n, xs[i].v, xs[i].x, s1, ms'⟩, k ∈ fpD xs[i] ∨ W.heap.size ≤ k := fun k hk => by
    rcases List.mem_append.1 hk with hk | hk
    · exact .inr (hge k hk)
    · exact .inl (List.mem_append_right _ (hsubf.subset hk))
  obtain ⟨r1, r2⟩ := h.upd i hi ⟨xs[i].n, xs[i].v, xs[i].x, s1, ms'⟩ hr2 hHM hdn hf hK hN
  refine ⟨r1, r2, hK.mono fun k hk => .inl ?_⟩
  rcases List.mem_append.1 hk with hk | hk
  · exact List.mem_append_left _ hk
  · exact List.mem_append_right _ (mem_flat_get hi hk)
def puR (v : Int) (l : List Bx) (i : Nat) : Rs := (0, ((nthX l i).m.filter delM).map Msg.u, v, l.set i ⟨(nthX l i).n, (nthX l i).v, (nthX l i).x, (nthX l i).m.filter fun x => !delM x⟩)
theorem pu_fin {N gs : Nat} {v : Int} {l : List Bx} {d : Dx} {i : Nat} {s : SlQ} {xs : List Dx} {w W : World} {su : SlQ} (hbx : nthX l i = d.bx)
    (h1 : OwZ 2 W su ((psN (fun k => delM (nthD d.ms k).m) d.ms.length).map fun k => (nthD d.ms k).m.u)) (h2 : Sh N W gs v (l.set i ⟨d.n, d.v, d.x, (d.ms.filter fun x => !delM x.m).map Dm.m⟩) s xs) (h3 : ∀ g ∈ blkS su, N ≤ g ∧ g ≠ gs ∧ g ∉ blkS s ++ fpX xs) (h4 : Below N w W) :
    DeEnd N gs (puR v l i) w (.returned (.tuple #[slW su, .int .i64 0])) W := by
  refine .inr ⟨rfl, su, s, xs, rfl, ?_, ?_, h3, h4⟩
  · show OwZ _ _ _ (((nthX l i).m.filter delM).map Msg.u)
    have e : (psN (fun k => delM (nthD d.ms k).m) d.ms.length).map (fun k => (nthD d.ms k).m.u) = ((nthX l i).m.filter delM).map Msg.u := by
      have h := filt_nthD d.ms (fun d => delM d.m)
      rw [hbx, show (fun k => (nthD d.ms k).m.u) = (fun d : Dm => d.m.u) ∘ nthD d.ms from rfl, ← List.map_map, h, show d.bx.m = d.ms.map Dm.m from rfl, List.filter_map, List.map_map]
      rfl
    rw [← e]; exact h1
  · show Sh N W gs v (l.set i ⟨(nthX l i).n, (nthX l i).v, (nthX l i).x, (nthX l i).m.filter fun x => !delM x⟩) s xs
    rw [hbx, show d.bx.m = d.ms.map Dm.m from rfl, List.filter_map]
    exact h2
set_option maxHeartbeats 1600000 in
set_option maxRecDepth 100000 in
theorem purgeMessages_any (N gs : Nat) (v : Int) (l : List Bx) (s : SlQ) (xs : List Dx) (o : OpR) (p : SlO) (i : Nat) (w : World) (hS : Sh N w gs v l s xs) (hG : GdS v l) (hN : N ≤ w.heap.size) (hi : i < l.length) :
    Calls Tryz.prog 165 #[.pointer (some ⟨gs, 0, none⟩), opX o p, .int .i64 (i : Int)] w fun e w' => DeEnd N gs (puR v l i) w e w' := by
  obtain ⟨ok, ox, ot, ou, om, of, od, ob⟩ := o
  have hb0 : Below w.heap.size w (w.alloc (.cells #[.int .i64 ok, .string ox, .string ot, slW p.1, .int .i64 om, .int .i64 of, .int .i64 od, slW p.2] 38)) := (Below.refl _ _).alloc (Nat.le_refl _) _
  have hS0 := hS.below hb0 (Nat.le_refl _)
  have hbN := hb0.mono hN
  have hzN := Nat.le_trans hN hb0.size
  obtain ⟨a, cap, rfl, hxl, hlc, hcm, ha⟩ := hS.len
  obtain ⟨⟨hv1, hv2⟩, hl3, hGb⟩ := hG
  obtain ⟨-, hm6, hmf⟩ := hGb _ (nthX_mem hi)
  obtain ⟨gX, rfl⟩ : ∃ gX, a = some ⟨gX, 0, none⟩ := by
    rcases ha with ⟨-, h0⟩ | h0
    · rw [h0] at hi; simp at hi
    · exact h0
  obtain ⟨gX', e, hgl, c0, c1, c2, c3⟩ := hS0.2.1.1.row_at i (by omega)
  cases e
  obtain ⟨d0, d1⟩ := id hS0.1.1
  have hix : i < xs.length := by omega
  have hbx : nthX l i = xs[i].bx := (congrArg (fun l => nthX l i) hS.2.1.2.1.symm).trans (map_nthX hix)
  obtain ⟨d, hd⟩ : ∃ d, xs[i] = d := ⟨_, rfl⟩
  have HHM : Hid (∀ W, CX N W (some ⟨gX, 0, none⟩, l.length, cap) l xs → HM W d.s d.ms) := fun W h => hd ▸ (h.box i hix).1
  have HROW : Hid (∀ W, CX N W (some ⟨gX, 0, none⟩, l.length, cap) l xs → W.cell? ⟨gX, i * 4 + 3, none⟩ = some (slW d.s)) := fun W h => by
    obtain ⟨g', e, -, -, -, -, r⟩ := h.1.row_at i hix
    cases e
    rw [hd] at r
    exact r
  have HLESS : Hid (∀ (W W1 : World) (s1 : SlQ), CX N W (some ⟨gX, 0, none⟩, l.length, cap) l xs → Below W.heap.size W W1 → N ≤ W.heap.size → W1.ownsRow 0 136 4 (slW s1) ((d.ms.filter fun x => !delM x.m).map Dm.q).length (qc ((d.ms.filter fun x => !delM x.m).map Dm.q)) → (∀ k ∈ blkS s1, W.heap.size ≤ k) → _) := fun W W1 s1 h1 h2 h3 h4 h5 => h1.less i hix h2 h3 rfl d hd s1 _ List.filter_sublist h4 h5
  rw [hd] at hbx c0 c1 c2 c3
  have HBX : Hid (nthX l i = d.bx) := hbx
  have hmn : d.ms.length ≤ 6 := by rw [hbx] at hm6; simpa [Dx.bx] using hm6
  have hmF : ∀ k, k < d.ms.length → 0 ≤ (nthD d.ms k).m.f ∧ (nthD d.ms k).m.f ≤ 15 := fun k hk => by
    rw [hbx] at hmf
    exact (hmf (nthD d.ms k).m (by rw [nthD_get hk]; exact List.mem_map.2 ⟨_, List.getElem_mem hk, rfl⟩)).1
  obtain ⟨sa, hms, hma⟩ : ∃ sa, d.s = (sa, d.ms.length, d.s.2.2) ∧ d.ms.length ≤ d.s.2.2 ∧ d.s.2.2 ≤ maxLen ∧ (d.ms = [] ∨ ∃ g, sa = some ⟨g, 0, none⟩) := by
    obtain ⟨ma, mcap, hms, -, hmc, hmm, hma⟩ := (hd ▸ hS0.2.1.box i hix : CM N _ d.s (d.ms.map Dm.m) d.ms).form
    rw [List.length_map] at hms hmc
    refine ⟨ma, by rw [hms], by rw [hms]; exact hmc, by rw [hms]; exact hmm, ?_⟩
    rcases hma with ⟨-, h⟩ | h
    · exact .inl (List.map_eq_nil_iff.1 h)
    · exact .inr h
  obtain ⟨hmc, hmm, hma⟩ := hma
  have HPL : Hid (∀ W, HM W d.s d.ms → Calls Tryz.prog 193 #[slW d.s, .func (.func 197) #[] #[]] W fun e w' => PlEnd (psZ (fun k => delM (nthD d.ms k).m) d.ms.length) W e w') := fun W hs => by
    have h := placesOf_fn 197 d.s (d.ms.map Dm.m) (fun k => delM (nthD d.ms k).m) W (hs.ms (lo := 0) (fun _ _ => Nat.zero_le _)) (by rw [List.length_map]; omega) (fun _ _ => by kernel_rfl) (fun k hk q w' hb => by
      rw [List.length_map] at hk
      have hF := hmF k hk
      rw [map_nthM hk]
      rw [nthD_get hk] at hF
      have h := isDeleted_any d.ms[k].m q w' hF
      rw [← nthD_get hk] at h ⊢
      exact h)
    rw [List.length_map] at h
    exact h
  have HWO : Hid (∀ (W : World) (ps : SlQ), HM W d.s d.ms → OwZ 3 W ps (psZ (fun k => delM (nthD d.ms k).m) d.ms.length) → Calls Tryz.prog 196 #[slW d.s, slW ps] W fun e w' => WoEnd 136 ((d.ms.filter fun x => !delM x.m).map Dm.q) W e w') := fun W ps h1 h2 => by
    have hL3 := psZ_len (fun k => delM (nthD d.ms k).m) d.ms.length
    have h := withoutM_any d.s ps d.ms (psZ (fun k => delM (nthD d.ms k).m) d.ms.length) W h1.1 (by omega) h2 (by omega) (fun z hz => by
      obtain ⟨k, hk, rfl⟩ := List.mem_map.1 hz
      have := psN_lt hk
      omega)
    rw [lf_filter d.ms (fun d => delM d.m)] at h
    exact h
  have hL2 : ∀ k ∈ psN (fun k => delM (nthD d.ms k).m) d.ms.length, k < d.ms.length := fun k hk => psN_lt hk
  have hL3 := psN_len (fun k => delM (nthD d.ms k).m) d.ms.length
  have HFIN : Hid (∀ (W : World) (su s' : SlQ) (xs' : List Dx), OwZ 2 W su ((psN (fun k => delM (nthD d.ms k).m) d.ms.length).map fun k => (nthD d.ms k).m.u) → Sh N W gs v (l.set i ⟨d.n, d.v, d.x, (d.ms.filter fun x => !delM x.m).map Dm.m⟩) s' xs' → (∀ g ∈ blkS su, N ≤ g ∧ g ≠ gs ∧ g ∉ blkS s' ++ fpX xs') → Below N w W → DeEnd N gs (puR v l i) w (.returned (.tuple #[slW su, .int .i64 0])) W) := fun W su s' xs' a b c d => pu_fin HBX.out a b c d
  have hms0 : ∀ k ∈ blkS ((some ⟨gX, 0, none⟩, l.length, cap) : SlQ) ++ fpX xs, k < w.heap.size := hS.2.1.1.lt
  have hii : (i : Int) < (l.length : Int) := by omega
  clear hbx hd HBX hmF hm6 hmf
  obtain ⟨qn, qv, qx, qs, qm⟩ := d
  obtain ⟨mb, mn, mcap⟩ := qs
  dsimp only at c0 c1 c2 c3 HHM HROW HLESS HPL HWO hL2 hL3 HFIN hmn hms hmc hmm hma
  obtain ⟨rfl, rfl⟩ : sa = mb ∧ mn = qm.length := by injection hms with h1 h2; injection h2 with h2 h3; exact ⟨h1.symm, h2⟩
  clear hms
  unfold maxLen at hcm hmm
  obtain ⟨L, hLe⟩ : ∃ L, psN (fun k => delM (nthD qm k).m) qm.length = L := ⟨_, rfl⟩
  have hLz : psZ (fun k => delM (nthD qm k).m) qm.length = L.map (fun (k : Nat) => (k : Int)) := by unfold psZ; rw [hLe]
  rw [hLe] at HFIN hL2 hL3
  rw [hLz] at HPL HWO
  clear hLe hLz
  dsimp only [slW] at d0 d1 c3
  dsimp only [opX]
  go_enter Tryz.func165, Tryz.ntmps165
  go_wp2_with fail
  generalize w.alloc (.cells #[.int .i64 ok, .string ox, .string ot, slW p.1, .int .i64 om, .int .i64 of, .int .i64 od, slW p.2] 38) = W at *
  refine (HPL.out W (HHM.out W hS0.2.1)).mono ?_
  rintro e W2 ⟨sp, rfl, hO2, hge2, hb2⟩
  obtain ⟨pa, pn, pcap⟩ := sp
  obtain ⟨hp1, hp2, hp3⟩ := hO2.form
  dsimp only at hp1 hp2 hp3
  rw [List.length_map] at hp1 hp2
  unfold maxLen at hp3
  have hpl := hp1.symm
  rw [hpl] at hp2 hL3
  have HLP : Hid (L.length = pn) := hpl
  clear hp1 hpl
  have hS2 := hS0.below hb2 (Nat.le_refl _)
  have hbN2 := hbN.trans (hb2.mono hzN)
  have hzN2 := Nat.le_trans hzN hb2.size
  have hz2 : w.heap.size ≤ W2.heap.size := Nat.le_trans hb0.size hb2.size
  clear c0 c1 c2 c3 d0 d1 hS0 hbN hzN hb2 HPL
  dsimp only [slW]
  go_wp2
  go_loopw [10, 26] (fun u y wr => ∃ (j : Nat) (su : SlQ), j ≤ pn ∧ y = .int .i64 j ∧ u = slW su ∧ OwZ 2 wr su ((L.take j).map fun k => (nthD qm k).m.u) ∧ (∀ g ∈ blkS su, W2.heap.size ≤ g) ∧ Below W2.heap.size W2 wr) (fun _ y _ => pn - (intV y).toNat)
  case atStart => exact ⟨0, (none, 0, 0), Nat.zero_le _, rfl, rfl, OwZ.nil _ _, fun g hg => by simp [blkS] at hg, Below.refl _ _⟩
  case round =>
    obtain ⟨j, su, hj, rfl, rfl, hU, hge, hbel⟩ := hrel
    have hSw := hS2.below hbel (Nat.le_refl _)
    have hOp := hO2.below hbel (Nat.le_refl _)
    have c3 := HROW.out wr hSw.2.1
    have hHMw := HHM.out wr hSw.2.1
    by_cases hjn : j < pn
    · have hji : (j : Int) < (pn : Int) := by omega
      have hjL : j < L.length := by have := HLP.out; omega
      obtain ⟨pg, poff, rfl, hpgl, hpc⟩ := hOp.rd.at_ (by rw [List.length_map]; omega)
      have cp := hpc j (by rw [List.length_map]; exact hjL)
      rw [nthI_get (by rw [List.length_map]; exact hjL), List.getElem_map] at cp
      have hkq := hL2 _ (List.getElem_mem hjL)
      have HT : Hid ((L.take (j + 1)).map (fun k => (nthD qm k).m.u) = (L.take j).map (fun k => (nthD qm k).m.u) ++ [(nthD qm L[j]).m.u]) := by show _ = _; rw [List.take_succ_eq_append_getElem hjL, List.map_append]; rfl
      have hul2 : ((L.take j).map fun k => (nthD qm k).m.u).length + 1 ≤ 1048576 := by rw [List.length_map, List.length_take]; omega
      clear hpc
      generalize L[j] = k at *
      obtain ⟨gm, eg, -, m0, -, -, -⟩ := hHMw.row_at k hkq
      dsimp only at eg
      subst eg
      rw [← nthD_get hkq] at m0
      have hki : (k : Int) < (qm.length : Int) := by omega
      have hb5 : Below wr.heap.size wr (wr.alloc (.cells #[.int .i64 (nthD qm k).m.u] 2)) := (Below.refl _ _).alloc (Nat.le_refl _) _
      have hU5 := hU.below hb5 (Nat.le_refl _)
      have hbel5 := hbel.trans (hb5.mono hbel.size)
      dsimp only [slW] at c3
      clear hHMw hSw hOp hU hb5
      go_wp2_with (at_builtin; go_loud (refine app1 rfl _ _ 25 2 rfl Tryz.underlying25 infoZ64 su ((L.take j).map fun k => (nthD qm k).m.u) rfl hU5 wr.heap.size (nthD qm k).m.u rfl (by simp) hul2 ?_; intro s6 Y6 hU6 hgr6 hloc6))
      have hbel6 : Below W2.heap.size W2 Y6 := hbel5.grown hgr6 hbel5.size (fun g hg => hge g (mem_blkS.2 hg))
      have hge7 : ∀ g ∈ blkS s6, W2.heap.size ≤ g := fun g hg => by
        rcases hloc6 with e | e
        · exact hge g (e ▸ hg)
        · rw [e, List.mem_singleton] at hg; rw [hg]; exact hbel5.size
      have HU7 : Hid (OwZ 2 Y6 s6 ((L.take (j + 1)).map fun k => (nthD qm k).m.u)) := by rw [HT.out]; exact hU6
      clear hU6 hgr6 hloc6 hU5 hbel5
      go_wp2
      go_roundw
      case rel => exact ⟨j + 1, s6, by omega, by go_num, rfl, HU7.out, hge7, hbel6⟩
      case measure => simp [intV, Go.RowKit.intOf]; omega
    · have hji : ¬ (j : Int) < (pn : Int) := by omega
      have hjt : L.take j = L := List.take_of_length_le (by have := HLP.out; omega)
      rw [hjt] at hU
      have hzN3 := Nat.le_trans hzN2 hbel.size
      have hbN3 := hbN2.trans (hbel.mono hzN2)
      have HC := HWO.out wr (pa, pn, pcap) hHMw hOp
      dsimp only [slW] at c3 HC
      go_wp2_with fail
      refine HC.mono ?_
      rintro e W4 ⟨s4, rfl, hr4, hge4, hb4⟩
      obtain ⟨hC5, hm5, hK5⟩ := HLESS.out wr W4 s4 hSw.2.1 hb4 hzN3 hr4 hge4
      have hS5 := hSw.turn hC5 hm5 hK5
      have hU5 : OwZ 2 (W4.setCell ⟨gX, i * 4 + 3, none⟩ (slW s4)) su (L.map fun k => (nthD qm k).m.u) := (hU.below hb4 (Nat.le_refl _)).keep fun g hg => Below.heap_setCell _ _ _ _ (fun e => by
        have h1 := hge g hg
        have h2 := hms0 gX (List.mem_append_left _ (by simp [blkS]))
        rw [show g = gX from e] at h1
        omega)
      have HE : Hid (_) := HFIN.out _ su _ _ hU5 hS5 (fun g hg => ⟨by have := hge g hg; omega, by have := hge g hg; have := hS2.1.lt; omega, fun hc => by
        have h1 := hge g hg
        have h3 := hU.lt g hg
        rcases hm5 g hc with h2 | h2
        · have := hms0 g h2; omega
        · omega⟩) (hbN3.trans (hK5.belowN hzN3 hSw.2.1.2.2.2))
      have hr5 := row_keep hSw.2.1.1.1 (w' := W4) fun k hk => hb4.block k (hSw.2.1.1.1.lt k hk).2
      have fz : W4.frozen? ⟨gX, i * 4 + 3, none⟩ = false := (hb4.frozen (p := ⟨gX, i * 4 + 3, none⟩) (World.block_lt_of_cell? wr _ c3)).trans (by
        have hr6 := hSw.2.1.1.1
        rw [hxl] at hr6
        exact hr6.frozenAt _)
      have c3' := (hb4.cell (p := ⟨gX, i * 4 + 3, none⟩) (World.block_lt_of_cell? wr _ c3)).trans c3
      clear hC5 hm5 hK5 hS5 hU5 HC hU hr5 hr4 hb4 c3 HFIN HLESS
      go_wp2
      go_ret2
      exact HE.out
end Go.Proofs.YtejbbnpgghpgaaaGreatDoor
