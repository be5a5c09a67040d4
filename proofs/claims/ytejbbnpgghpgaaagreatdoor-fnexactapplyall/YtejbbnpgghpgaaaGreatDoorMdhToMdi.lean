/- The model: an op done, of the kind 1; no conditions beyond those that each fact names · The model: an op done, of the kind 3; no conditions beyond those that each fact names. -/
import Derived.Test.YtejbbnpgghpgaaaGreatDoorMdg
import Derived.Test.YtejbbnpgghpgaaaGreatDoorMsbToBxs
namespace Go.Proofs.YtejbbnpgghpgaaaGreatDoor
open Go.RowKit
set_option linter.unusedVariables false
set_option maxHeartbeats 3200000 in
set_option maxRecDepth 100000 in
theorem l8Apply_1 (B : Nat) (v : Int) (s : SlQ) (xs0 : List Dx) (o : OpR) (p : SlO) (w : World) (hs : HX w s xs0) (hf : FtH xs0) (hG : GdS v (xs0.map Dx.bx)) (hQ : Qo w B (opQ o p)) (hI : o.u.length = p.1.2.1 ∧ RdI w p.1.1 o.u) (hIo : ∀ x, p.1.1 = some x → x.block < w.heap.size) (hul : o.u.length ≤ 6) (hk : o.k = 1) :
    Calls Tryz.prog 58 #[.agg #[.int .i64 v, slW s], .pointer (some ⟨B, 0, none⟩)] w fun e w' => SrEnd (if ixG (xs0.map Dx.bx).length (nmX (xs0.map Dx.bx) o.x) < 0 ∧ o.k ≠ 1 then badR 4 else kdR v (xs0.map Dx.bx) o (ixG (xs0.map Dx.bx).length (nmX (xs0.map Dx.bx) o.x))) w e w' := by
  obtain ⟨a, n, cap⟩ := s
  obtain ⟨⟨a', n', c'⟩, e, hl, hnc, hcm, -⟩ := row_form hs.1
  cases e
  dsimp only [slW] at hl hnc hcm ⊢
  replace hl := hl.symm
  rw [hl] at hnc
  unfold maxLen at hcm
  obtain ⟨l, hle⟩ : ∃ l, xs0.map Dx.bx = l := ⟨_, rfl⟩
  rw [hle] at hG ⊢
  have hln : l.length = n := by rw [← hle, List.length_map]; exact hl
  obtain ⟨W, hW⟩ : ∃ W, (w.alloc (.cells #[.int .i64 v, .slice a n cap] 33)).alloc (.cells #[.int .i64 0, .slice none 0 0, .int .i64 0, .slice none 0 0] 35) = W := ⟨_, rfl⟩
  have hbW : Below w.heap.size w W := by rw [← hW]; exact ((Below.refl _ _).alloc (Nat.le_refl _) _).alloc (by simp) _
  have hA : Dw W w.heap.size (.int .i64 v, .slice a n cap) := by
    rw [← hW]
    exact (Dw.new w (.int .i64 v) (.slice a n cap) 33).below ((Below.refl _ _).alloc (Nat.le_refl _) _) (by simp)
  have hZ : Qw W (w.heap.size + 1) (.int .i64 0, .slice none 0 0, .int .i64 0, .slice none 0 0) := by
    have h := Qw.new (w.alloc (.cells #[.int .i64 v, .slice a n cap] 33)) (.int .i64 0) (.slice none 0 0) (.int .i64 0) (.slice none 0 0) 35
    rw [hW] at h
    simpa using h
  have hzW : W.heap.size = w.heap.size + 2 := by rw [← hW]; simp
  have hBl := hQ.lt
  have hQ0 := hQ.below hbW hBl
  have HV0 : Hid ((if ixG l.length (nmX l o.x) < 0 ∧ o.k ≠ 1 then badR 4 else kdR v l o (ixG l.length (nmX l o.x))) = mkR v l o.x (ixG l.length (nmX l o.x))) := (if_neg (fun h' => h'.2 hk)).trans (by unfold kdR; rw [hk]; rfl)
  generalize (if ixG l.length (nmX l o.x) < 0 ∧ o.k ≠ 1 then badR 4 else kdR v l o (ixG l.length (nmX l o.x))) = rr at *
  have HMK := l8Make_any B v (a, n, cap) xs0 o p W (hs.below hbW (Nat.le_refl _)) hf ⟨by have := hG.1; omega, hG.1.2⟩ hQ0
  rw [hle] at HMK
  generalize mkR v l o.x (ixG l.length (nmX l o.x)) = r at *
  obtain ⟨ok, ox, ot, ou, om, of, od, ob⟩ := o
  dsimp only at hk
  subst hk
  dsimp only [opQ, slW] at hQ0 HMK hQ
  have HW : Hid (_ = W) := hW
  obtain ⟨o0, o1, o2, o3, o4, o5, o6, o7⟩ := id hQ0
  dsimp only at o0
  obtain ⟨a0, a1⟩ := id hA.1
  dsimp only at a0 a1
  clear hW hs hle hl hln o1 o2 o3 o4 o5 o6 o7
  go_enter Tryz.func58, Tryz.ntmps58
  have hW := HW.out
  go_wp2_with fail
  (try rw [hW])
  refine HMK.mono ?_
  intro e Y hE
  clear HW hW HMK o0 a0 a1
  rcases hE with ⟨hr, rfl, hb⟩ | ⟨hr, su, s', xs', rfl, hU, hC, hus, hb⟩
  · have hbw := hbW.trans (hb.mono hbW.size)
    have hZ2 := hZ.below hb (by omega)
    obtain ⟨rc, ru, rv, rl⟩ := r
    dsimp only at hr ⊢
    have hR := hZ2.four (.int .i64 rc) (.slice none 0 0) (.int .i64 0) (.slice none 0 0)
    have HB : Hid (_) := below_put (below_put (below_put (below_put hbw (w.heap.size + 1) 0 (.int .i64 rc) (by omega)) (w.heap.size + 1) 1 (.slice none 0 0) (by omega)) (w.heap.size + 1) 2 (.int .i64 0) (by omega)) (w.heap.size + 1) 3 (.slice none 0 0) (by omega)
    obtain ⟨z0, z1, z2, z3⟩ := id hZ2.1
    have f0 := hZ2.2 0
    have f1 := hZ2.2 1
    have f2 := hZ2.2 2
    have f3 := hZ2.2 3
    obtain ⟨r0, r1, r2, r3⟩ := id hR.1
    dsimp only at z0 z1 z2 z3 r0 r1 r2 r3
    go_wp2
    refine bodyPost_ret (v := .agg #[.int .i64 rc, .slice none 0 0, .int .i64 0, .slice none 0 0]) (by simp [results, Tryz.results58, go_sem, r0, r1, r2, r3]) rfl ?_
    rw [HV0.out]
    exact .inl ⟨hr, rfl, HB.out⟩
  · have hbw := hbW.trans (hb.mono hbW.size)
    have hZ2 := hZ.below hb (by omega)
    obtain ⟨rc, ru, rv, rl⟩ := r
    dsimp only at hr hU hC ⊢
    subst hr
    have hR := hZ2.four (.int .i64 0) (slW su) (.int .i64 rv) (slW s')
    have HB : Hid (_) := below_put (below_put (below_put (below_put hbw (w.heap.size + 1) 0 (.int .i64 0) (by omega)) (w.heap.size + 1) 1 (slW su) (by omega)) (w.heap.size + 1) 2 (.int .i64 rv) (by omega)) (w.heap.size + 1) 3 (slW s') (by omega)
    have hno : w.heap.size + 1 ∉ blkS s' ++ fpX xs' := fun hc => by have := hC.2.2.2 _ hc; omega
    have HC : Hid (_) := (((hC.far (w.heap.size + 1) 0 (.int .i64 0) hno).far (w.heap.size + 1) 1 (slW su) hno).far (w.heap.size + 1) 2 (.int .i64 rv) hno).far (w.heap.size + 1) 3 (slW s') hno
    have hnu : ∀ k ∈ blkS su, k ≠ w.heap.size + 1 := fun k hk => by have := (hus k hk).1; omega
    have HU : Hid (OwZ 2 ((((Y.setCell ⟨w.heap.size + 1, 0, none⟩ (.int .i64 0)).setCell ⟨w.heap.size + 1, 1, none⟩ (slW su)).setCell ⟨w.heap.size + 1, 2, none⟩ (.int .i64 rv)).setCell ⟨w.heap.size + 1, 3, none⟩ (slW s')) su _) := hU.keep fun k hk => by
      have hne := hnu k hk
      rw [Below.heap_setCell _ _ _ _ hne, Below.heap_setCell _ _ _ _ hne, Below.heap_setCell _ _ _ _ hne, Below.heap_setCell _ _ _ _ hne]
    obtain ⟨z0, z1, z2, z3⟩ := id hZ2.1
    have f0 := hZ2.2 0
    have f1 := hZ2.2 1
    have f2 := hZ2.2 2
    have f3 := hZ2.2 3
    obtain ⟨r0, r1, r2, r3⟩ := id hR.1
    dsimp only at z0 z1 z2 z3 r0 r1 r2 r3
    go_wp2
    refine bodyPost_ret (v := .agg #[.int .i64 0, slW su, .int .i64 rv, slW s']) (by simp [results, Tryz.results58, go_sem, r0, r1, r2, r3]) rfl ?_
    rw [HV0.out]
    exact .inr ⟨rfl, su, s', xs', rfl, HU.out, CX.low HC.out hbW.size, fun k hk => ⟨Nat.le_trans hbW.size (hus k hk).1, (hus k hk).2⟩, HB.out⟩
end Go.Proofs.YtejbbnpgghpgaaaGreatDoor
namespace Go.Proofs.YtejbbnpgghpgaaaGreatDoor
open Go.RowKit List
set_option linter.unusedVariables false
set_option maxHeartbeats 3200000 in
set_option maxRecDepth 100000 in
theorem l8Apply_3 (B : Nat) (v : Int) (s : SlQ) (xs0 : List Dx) (o : OpR) (p : SlO) (w : World) (hs : HX w s xs0) (hf : FtH xs0) (hG : GdS v (xs0.map Dx.bx)) (hQ : Qo w B (opQ o p)) (hI : o.u.length = p.1.2.1 ∧ RdI w p.1.1 o.u) (hIo : ∀ x, p.1.1 = some x → x.block < w.heap.size) (hul : o.u.length ≤ 6) (hDt : OwB w p.2 o.b) (hbl : o.b.length ≤ 400) (hk : o.k = 3) :
    Calls Tryz.prog 58 #[.agg #[.int .i64 v, slW s], .pointer (some ⟨B, 0, none⟩)] w fun e w' => SrEnd (if ixG (xs0.map Dx.bx).length (nmX (xs0.map Dx.bx) o.x) < 0 ∧ o.k ≠ 1 then badR 4 else kdR v (xs0.map Dx.bx) o (ixG (xs0.map Dx.bx).length (nmX (xs0.map Dx.bx) o.x))) w e w' := by
  obtain ⟨a, n, cap⟩ := s
  obtain ⟨⟨a', n', c'⟩, e, hl, hnc, hcm, -⟩ := row_form hs.1
  cases e
  dsimp only [slW] at hl hnc hcm ⊢
  replace hl := hl.symm
  rw [hl] at hnc
  unfold maxLen at hcm
  obtain ⟨l, hle⟩ : ∃ l, xs0.map Dx.bx = l := ⟨_, rfl⟩
  rw [hle] at hG ⊢
  have hln : l.length = n := by rw [← hle, List.length_map]; exact hl
  obtain ⟨W, hW⟩ : ∃ W, (w.alloc (.cells #[.int .i64 v, .slice a n cap] 33)).alloc (.cells #[.int .i64 0, .slice none 0 0, .int .i64 0, .slice none 0 0] 35) = W := ⟨_, rfl⟩
  have hbW : Below w.heap.size w W := by rw [← hW]; exact ((Below.refl _ _).alloc (Nat.le_refl _) _).alloc (by simp) _
  have hA : Dw W w.heap.size (.int .i64 v, .slice a n cap) := by
    rw [← hW]
    exact (Dw.new w (.int .i64 v) (.slice a n cap) 33).below ((Below.refl _ _).alloc (Nat.le_refl _) _) (by simp)
  have hZ : Qw W (w.heap.size + 1) (.int .i64 0, .slice none 0 0, .int .i64 0, .slice none 0 0) := by
    have h := Qw.new (w.alloc (.cells #[.int .i64 v, .slice a n cap] 33)) (.int .i64 0) (.slice none 0 0) (.int .i64 0) (.slice none 0 0) 35
    rw [hW] at h
    simpa using h
  have hzW : W.heap.size = w.heap.size + 2 := by rw [← hW]; simp
  have hBl := hQ.lt
  have hQ0 := hQ.below hbW hBl
  have HAT := l7At_any v l (a, n, cap) o.x w.heap.size (lo := 0) W (hle ▸ (hs.below hbW (Nat.le_refl _)).xs (fun _ _ => Nat.zero_le _)) hA.1
  have HCP : Hid (∀ W', Below w.heap.size w W' → Calls Tryz.prog 74 #[.agg #[.int .i64 v, .slice a n cap]] W' fun e w' => CpS v l W' e w') := fun W' hb => hle ▸ l7Copy_any v (a, n, cap) xs0 W' (hs.below hb (Nat.le_refl _)) hf
  have HIX : Hid (0 ≤ ixG l.length (nmX l o.x) → ∃ j : Nat, ixG l.length (nmX l o.x) = (j : Int) ∧ j < l.length) := fun h => by
    rcases ixG_cases l.length (nmX l o.x) with ⟨e, -⟩ | ⟨k, hk, e, -⟩
    · omega
    · exact ⟨k, e, hk⟩
  have HV4 : Hid (ixG l.length (nmX l o.x) < 0 → (if ixG l.length (nmX l o.x) < 0 ∧ o.k ≠ 1 then badR 4 else kdR v l o (ixG l.length (nmX l o.x))) = badR 4) := fun h => if_pos ⟨h, by rw [hk]; decide⟩
  have HV0 : Hid (¬ ixG l.length (nmX l o.x) < 0 → (if ixG l.length (nmX l o.x) < 0 ∧ o.k ≠ 1 then badR 4 else kdR v l o (ixG l.length (nmX l o.x))) = adR v l (ixG l.length (nmX l o.x)).toNat o.f o.d o.b) := fun h => (if_neg (fun h' => h h'.1)).trans (by unfold kdR; rw [hk]; rfl)
  generalize (if ixG l.length (nmX l o.x) < 0 ∧ o.k ≠ 1 then badR 4 else kdR v l o (ixG l.length (nmX l o.x))) = rr at *
  obtain ⟨ok, ox, ot, ou, om, of, od, ob⟩ := o
  dsimp only at hk
  subst hk
  dsimp only [opQ, slW] at hQ0 HAT hI hul hQ HV4 HV0 HIX hDt hbl ⊢
  have HLN : Hid (_ = _) := hln
  have HW : Hid (_ = W) := hW
  obtain ⟨o0, o1, o2, o3, o4, o5, o6, o7⟩ := id hQ0
  dsimp only at o0 o1
  clear hW hs hle hl hln o2 o3 o4 o5 o6 o7
  go_enter Tryz.func58, Tryz.ntmps58
  have hW := HW.out
  go_wp2_with fail
  (try rw [hW])
  refine HAT.mono ?_
  rintro e W1 ⟨rfl, hb1⟩
  have hA1 := hA.below hb1 (by omega)
  have hQ1 := hQ0.below hb1 hQ0.lt
  have hZ1 := hZ.below hb1 (by omega)
  have hbw1 := hbW.trans (hb1.mono hbW.size)
  have hz1 : w.heap.size + 2 ≤ W1.heap.size := by rw [← hzW]; exact hb1.size
  clear HAT hA hQ0 hZ hbW hb1 HW hW hzW o0 o1
  obtain ⟨a0, a1⟩ := id hA1.1
  dsimp only at a0 a1
  by_cases h1 : ixG l.length (nmX l ox) < 0
  · have HV : Hid (rr = badR 4) := HV4.out h1
    clear HV4 HV0 HCP HIX
    go_wp2_with fail
    refine (l8Bad_any 4 W1).mono ?_
    rintro e Wb ⟨rfl, hbb⟩
    have hZb := hZ1.below hbb hZ1.lt
    have hbwb := hbw1.trans (hbb.mono hbw1.size)
    have hR := hZb.four (.int .i64 4) (.slice none 0 0) (.int .i64 0) (.slice none 0 0)
    have HB : Hid (_) := below_put (below_put (below_put (below_put hbwb (w.heap.size + 1) 0 (.int .i64 4) (by omega)) (w.heap.size + 1) 1 (.slice none 0 0) (by omega)) (w.heap.size + 1) 2 (.int .i64 0) (by omega)) (w.heap.size + 1) 3 (.slice none 0 0) (by omega)
    obtain ⟨z0, z1, z2, z3⟩ := id hZb.1
    have f0 := hZb.2 0
    have f1 := hZb.2 1
    have f2 := hZb.2 2
    have f3 := hZb.2 3
    obtain ⟨r0, r1, r2, r3⟩ := id hR.1
    dsimp only at z0 z1 z2 z3 r0 r1 r2 r3
    go_wp2
    refine bodyPost_ret (v := .agg #[.int .i64 4, .slice none 0 0, .int .i64 0, .slice none 0 0]) (by simp [results, Tryz.results58, go_sem, r0, r1, r2, r3]) rfl ?_
    rw [HV.out]
    exact .inl ⟨by decide, rfl, HB.out⟩
  · obtain ⟨i, hie, hi⟩ := HIX.out (by omega)
    rw [hie] at h1 HV0 ⊢
    have HV : Hid (_) := HV0.out (by omega)
    clear HV4 HV0 HIX
    go_wp2_with fail
    refine (HCP.out W1 hbw1).mono ?_
    rintro e W2 ⟨s2, xs, rfl, hC2, hb2⟩
    obtain ⟨a2, cap2, rfl, hxl, hlc, hcm2, ha2⟩ := hC2.form
    obtain ⟨gX, rfl⟩ : ∃ gX, a2 = some ⟨gX, 0, none⟩ := by
      rcases ha2 with ⟨-, h0⟩ | h0
      · rw [h0] at hi; simp at hi
      · exact h0
    unfold maxLen at hcm2
    dsimp only [slW]
    have hii : (i : Int) < (l.length : Int) := by omega
    have hb3 : Below W2.heap.size W2 (W2.alloc (.cells #[.int .i64 0, .slice none 0 0, .int .i64 v, .slice (some ⟨gX, 0, none⟩) l.length cap2] 35)) := (Below.refl _ _).alloc (Nat.le_refl _) _
    have hO3 := Qw.new W2 (.int .i64 0) (.slice none 0 0) (.int .i64 v) (.slice (some ⟨gX, 0, none⟩) l.length cap2) 35
    have hC3 := hC2.below hb3 (Nat.le_refl _)
    have hbN3 : Below W1.heap.size W1 (W2.alloc (.cells #[.int .i64 0, .slice none 0 0, .int .i64 v, .slice (some ⟨gX, 0, none⟩) l.length cap2] 35)) := hb2.trans (hb3.mono hb2.size)
    have hgO : W2.heap.size ∉ blkS ((some ⟨gX, 0, none⟩, l.length, cap2) : SlQ) ++ fpX xs := fun hc => absurd (hC2.1.lt _ hc) (Nat.lt_irrefl _)
    have hz2 := hb2.size
    have hQ3 := hQ1.below hbN3 (by omega)
    have k3 := hQ3.1
    dsimp only at k3
    have hix : i < xs.length := by omega
    have hbx : nthX l i = xs[i].bx := (congrArg (fun l => nthX l i) hC3.2.1.symm).trans (map_nthX hix)
    obtain ⟨d, hd⟩ : ∃ d, xs[i] = d := ⟨_, rfl⟩
    rw [hd] at hbx
    obtain ⟨ma, mcap, hms, hmc, hmm⟩ : ∃ ma mcap, d.s = (ma, d.ms.length, mcap) ∧ d.ms.length ≤ mcap ∧ mcap ≤ maxLen := by
      obtain ⟨a1, a2, a3, -, a4, a5, -⟩ := (hd ▸ hC3.box i hix : CM W1.heap.size _ d.s (d.ms.map Dm.m) d.ms).form
      rw [List.length_map] at a3 a4
      exact ⟨a1, a2, a3, a4, a5⟩
    unfold maxLen at hmm
    have hGi := hG.2.2 _ (nthX_mem hi)
    have hmx : (nthX l i).m.length = d.ms.length ∧ (nthX l i).x = d.x := by rw [hbx]; exact ⟨by simp [Dx.bx], rfl⟩
    have hd6 : d.ms.length ≤ 6 := by rw [← hmx.1]; exact hGi.2.1
    have hdx : 1 ≤ d.x ∧ d.x ≤ 1000 := by rw [← hmx.2]; exact hGi.1
    have HMX : Hid (_ ∧ _) := hmx
    obtain ⟨c2, c3⟩ : (W2.alloc (.cells #[.int .i64 0, .slice none 0 0, .int .i64 v, .slice (some ⟨gX, 0, none⟩) l.length cap2] 35)).cell? ⟨gX, i * 4 + 2, none⟩ = some (.int .i64 d.x) ∧ (W2.alloc (.cells #[.int .i64 0, .slice none 0 0, .int .i64 v, .slice (some ⟨gX, 0, none⟩) l.length cap2] 35)).cell? ⟨gX, i * 4 + 3, none⟩ = some (.slice ma d.ms.length mcap) := by
      obtain ⟨g', eg, -, -, -, e2, e3⟩ := hC3.1.row_at i hix
      cases eg
      rw [hd] at e2 e3
      rw [hms] at e3
      exact ⟨e2, e3⟩
    have HVR : Hid (rr = if d.ms.length + 1 ≤ 6 ∧ d.x + 1 ≤ 1000 then (0, [d.x], v, l.set i (putB (nthX l i) of od ob)) else badR 10) := by
      show _ = _
      rw [HV.out]
      show adR v l i of od ob = _
      unfold adR roomB
      rw [HMX.out.1, HMX.out.2]
      by_cases h : d.ms.length + 1 ≤ 6 ∧ d.x + 1 ≤ 1000
      · rw [if_pos h]; exact if_pos (decide_eq_true ⟨h.1, by have := h.2; omega⟩)
      · rw [if_neg h]; exact if_neg (fun h' => h (by have h2 := of_decide_eq_true h'; exact ⟨h2.1, by have := h2.2; omega⟩))
    clear hbx hms hmx hd HV hGi
    clear HCP a0 a1 hC2 hb2 hb3 ha2 hA1
    by_cases h6 : 6 ≤ d.ms.length
    · have h6' : (6 : Int) ≤ (d.ms.length : Int) := by omega
      have HV : Hid (rr = badR 10) := HVR.out.trans (if_neg (by omega))
      clear HVR
      go_wp2_with fail
      generalize W2.alloc (.cells #[.int .i64 0, .slice none 0 0, .int .i64 v, .slice (some ⟨gX, 0, none⟩) l.length cap2] 35) = W3 at *
      obtain ⟨gO, hgOe⟩ : ∃ gO, W2.heap.size = gO := ⟨_, rfl⟩
      rw [hgOe] at hO3 hgO hz2 ⊢
      clear hgOe
      have hBo : B ∉ blkS ((some ⟨gX, 0, none⟩, l.length, cap2) : SlQ) ++ fpX xs := fun hc => by have := hC3.2.2.2 B hc; omega
      have hIo3 : ∀ x, p.1.1 = some x → x.block < W3.heap.size ∧ x.block ∉ blkS ((some ⟨gX, 0, none⟩, l.length, cap2) : SlQ) ++ fpX xs := fun x hx => by
        have h1 := hIo x hx
        have h2 := hbN3.size
        exact ⟨by omega, fun hc => by have := hC3.2.2.2 _ hc; omega⟩
      have hI3 : ou.length = p.1.2.1 ∧ RdI W3 p.1.1 ou := ⟨hI.1, (hI.2.below hbw1).belowN (fun x hx => by have := hIo x hx; omega) hbN3⟩
      have hbw4 := hbw1.trans (hbN3.mono hbw1.size)
      have hZ4 := hZ1.below hbN3 (by omega)
      clear c2 c3 k3
      refine (l8Bad_any 10 W3).mono ?_
      rintro e Wb ⟨rfl, hbb⟩
      have hZb := hZ4.below hbb hZ4.lt
      have hbwb := hbw4.trans (hbb.mono hbw4.size)
      have hR := hZb.four (.int .i64 10) (.slice none 0 0) (.int .i64 0) (.slice none 0 0)
      have HB : Hid (_) := below_put (below_put (below_put (below_put hbwb (w.heap.size + 1) 0 (.int .i64 10) (by omega)) (w.heap.size + 1) 1 (.slice none 0 0) (by omega)) (w.heap.size + 1) 2 (.int .i64 0) (by omega)) (w.heap.size + 1) 3 (.slice none 0 0) (by omega)
      obtain ⟨z0, z1, z2, z3⟩ := id hZb.1
      have f0 := hZb.2 0
      have f1 := hZb.2 1
      have f2 := hZb.2 2
      have f3 := hZb.2 3
      obtain ⟨r0, r1, r2, r3⟩ := id hR.1
      dsimp only at z0 z1 z2 z3 r0 r1 r2 r3
      go_wp2
      refine bodyPost_ret (v := .agg #[.int .i64 10, .slice none 0 0, .int .i64 0, .slice none 0 0]) (by simp [results, Tryz.results58, go_sem, r0, r1, r2, r3]) rfl ?_
      rw [HV.out]
      exact .inl ⟨by decide, rfl, HB.out⟩
    · have h6' : ¬ (6 : Int) ≤ (d.ms.length : Int) := by omega
      by_cases h7 : 1000 ≤ d.x
      · have HV : Hid (rr = badR 10) := HVR.out.trans (if_neg (by omega))
        clear HVR
        go_wp2_with fail
        generalize W2.alloc (.cells #[.int .i64 0, .slice none 0 0, .int .i64 v, .slice (some ⟨gX, 0, none⟩) l.length cap2] 35) = W3 at *
        obtain ⟨gO, hgOe⟩ : ∃ gO, W2.heap.size = gO := ⟨_, rfl⟩
        rw [hgOe] at hO3 hgO hz2 ⊢
        clear hgOe
        have hBo : B ∉ blkS ((some ⟨gX, 0, none⟩, l.length, cap2) : SlQ) ++ fpX xs := fun hc => by have := hC3.2.2.2 B hc; omega
        have hIo3 : ∀ x, p.1.1 = some x → x.block < W3.heap.size ∧ x.block ∉ blkS ((some ⟨gX, 0, none⟩, l.length, cap2) : SlQ) ++ fpX xs := fun x hx => by
          have h1 := hIo x hx
          have h2 := hbN3.size
          exact ⟨by omega, fun hc => by have := hC3.2.2.2 _ hc; omega⟩
        have hI3 : ou.length = p.1.2.1 ∧ RdI W3 p.1.1 ou := ⟨hI.1, (hI.2.below hbw1).belowN (fun x hx => by have := hIo x hx; omega) hbN3⟩
        have hbw4 := hbw1.trans (hbN3.mono hbw1.size)
        have hZ4 := hZ1.below hbN3 (by omega)
        clear c2 c3 k3
        refine (l8Bad_any 10 W3).mono ?_
        rintro e Wb ⟨rfl, hbb⟩
        have hZb := hZ4.below hbb hZ4.lt
        have hbwb := hbw4.trans (hbb.mono hbw4.size)
        have hR := hZb.four (.int .i64 10) (.slice none 0 0) (.int .i64 0) (.slice none 0 0)
        have HB : Hid (_) := below_put (below_put (below_put (below_put hbwb (w.heap.size + 1) 0 (.int .i64 10) (by omega)) (w.heap.size + 1) 1 (.slice none 0 0) (by omega)) (w.heap.size + 1) 2 (.int .i64 0) (by omega)) (w.heap.size + 1) 3 (.slice none 0 0) (by omega)
        obtain ⟨z0, z1, z2, z3⟩ := id hZb.1
        have f0 := hZb.2 0
        have f1 := hZb.2 1
        have f2 := hZb.2 2
        have f3 := hZb.2 3
        obtain ⟨r0, r1, r2, r3⟩ := id hR.1
        dsimp only at z0 z1 z2 z3 r0 r1 r2 r3
        go_wp2
        refine bodyPost_ret (v := .agg #[.int .i64 10, .slice none 0 0, .int .i64 0, .slice none 0 0]) (by simp [results, Tryz.results58, go_sem, r0, r1, r2, r3]) rfl ?_
        rw [HV.out]
        exact .inl ⟨by decide, rfl, HB.out⟩
      · have HV : Hid (rr = (0, [d.x], v, l.set i (putB (nthX l i) of od ob))) := HVR.out.trans (if_pos (by omega))
        clear HVR
        go_wp2_with fail
        generalize W2.alloc (.cells #[.int .i64 0, .slice none 0 0, .int .i64 v, .slice (some ⟨gX, 0, none⟩) l.length cap2] 35) = W3 at *
        obtain ⟨gO, hgOe⟩ : ∃ gO, W2.heap.size = gO := ⟨_, rfl⟩
        rw [hgOe] at hO3 hgO hz2 ⊢
        clear hgOe
        have hBo : B ∉ blkS ((some ⟨gX, 0, none⟩, l.length, cap2) : SlQ) ++ fpX xs := fun hc => by have := hC3.2.2.2 B hc; omega
        have hIo3 : ∀ x, p.1.1 = some x → x.block < W3.heap.size ∧ x.block ∉ blkS ((some ⟨gX, 0, none⟩, l.length, cap2) : SlQ) ++ fpX xs := fun x hx => by
          have h1 := hIo x hx
          have h2 := hbN3.size
          exact ⟨by omega, fun hc => by have := hC3.2.2.2 _ hc; omega⟩
        have hI3 : ou.length = p.1.2.1 ∧ RdI W3 p.1.1 ou := ⟨hI.1, (hI.2.below hbw1).belowN (fun x hx => by have := hIo x hx; omega) hbN3⟩
        have hb4 : Below W3.heap.size W3 W3.drew := (Below.refl _ _).drew
        have hC4 := hC3.below hb4 (Nat.le_refl _)
        have hQ4 := hQ3.below hb4 hQ3.lt
        have hO4 := hO3.below hb4 hO3.lt
        have hbN4 := hbN3.trans (hb4.mono hbN3.size)
        have hD4 := (hDt.below hbw1 (Nat.le_refl _)).below (hbN3.trans (hb4.mono hbN3.size)) (Nat.le_refl _)
        have hz3 := hbN4.size
        clear hC3 hQ3 hO3 hbN3 hb4 c2 c3 k3 hI3 hIo3
        refine wp_region_held_drew (S := fun w' => w'.cell? ⟨B, 5, none⟩ = some (.int .i64 of) ∧ w'.cell? ⟨B, 6, none⟩ = some (.int .i64 od) ∧ w'.cell? ⟨B, 7, none⟩ = some (slW p.2)) (by kernel_rfl) ?hS1 (fun hHeld => ?_)
        case hS1 => exact ⟨hQ4.2.2.2.2.2.1, hQ4.2.2.2.2.2.2.1, hQ4.2.2.2.2.2.2.2⟩
        refine tk (i := 0) (v := ?_) rfl (Or.inl ⟨by rfl, ?hy2⟩) ?ty2
        case hy2 => (intro w5 hSw; obtain ⟨p0, p1, p2⟩ := hSw; go_simp; all_goals with_reducible rfl)
        simp only [Act.put, J1, J2, J4, J5, J6]
        refine tk (i := 1) (v := ?_) rfl (Or.inl ⟨by rfl, ?hy3⟩) ?ty3
        case hy3 => (intro w5 hSw; obtain ⟨p0, p1, p2⟩ := hSw; go_simp; all_goals with_reducible rfl)
        simp only [Act.put, J1, J2, J3, J4, J5, J6]
        refine tk (i := 2) (v := ?_) rfl (Or.inl ⟨by rfl, ?hy4⟩) ?ty4
        case hy4 => (intro w5 hSw; obtain ⟨p0, p1, p2⟩ := hSw; go_simp; all_goals with_reducible rfl)
        simp only [Act.put, J1, J2, J3, J4, J5, J6]
        refine tk (i := 3) (v := ?_) rfl (Or.inl ⟨by rfl, ?hy5⟩) ?ty5
        case hy5 => (intro w5 hSw; obtain ⟨p0, p1, p2⟩ := hSw; go_simp; all_goals with_reducible rfl)
        simp only [Act.put, J1, J2, J3, J4, J5, J6]
        refine tk (i := 4) (v := ?_) rfl (Or.inl ⟨by rfl, ?hy6⟩) ?ty6
        case hy6 => (intro w5 hSw; obtain ⟨p0, p1, p2⟩ := hSw; go_simp; all_goals with_reducible rfl)
        simp only [Act.put, J1, J2, J3, J4, J5, J6]
        refine tk (i := 5) (v := ?_) rfl (Or.inl ⟨by rfl, ?hy7⟩) ?ty7
        case hy7 => (intro w5 hSw; obtain ⟨p0, p1, p2⟩ := hSw; go_simp; all_goals with_reducible rfl)
        simp only [Act.put, J1, J2, J3, J4, J5, J6]
        refine tk (i := 6) (v := ?_) rfl (Or.inl ⟨by rfl, ?hy8⟩) ?ty8
        case hy8 => (intro w5 hSw; obtain ⟨p0, p1, p2⟩ := hSw; go_simp; all_goals with_reducible rfl)
        simp only [Act.put, J1, J2, J3, J4, J5, J6]
        refine tk (i := 7) (v := ?_) rfl (Or.inl ⟨by rfl, ?hy9⟩) ?ty9
        case hy9 => (intro w5 hSw; obtain ⟨p0, p1, p2⟩ := hSw; go_simp; all_goals with_reducible rfl)
        simp only [Act.put, J1, J2, J3, J4, J5, J6]
        refine tk (i := 8) (v := ?_) rfl (Or.inl ⟨by rfl, ?hy10⟩) ?ty10
        case hy10 => (intro w5 hSw; obtain ⟨p0, p1, p2⟩ := hSw; go_simp; all_goals with_reducible rfl)
        simp only [Act.put, J1, J2, J3, J4, J5, J6]
        refine tk (i := 9) (v := ?_) rfl (Or.inl ⟨by rfl, ?hy11⟩) ?ty11
        case hy11 => (intro w5 hSw; obtain ⟨p0, p1, p2⟩ := hSw; go_simp; all_goals with_reducible rfl)
        simp only [Act.put, J1, J2, J3, J4, J5, J6]
        refine tk (i := 10) (v := ?_) rfl (Or.inl ⟨by rfl, ?hy12⟩) ?ty12
        case hy12 => (intro w5 hSw; obtain ⟨p0, p1, p2⟩ := hSw; go_simp; all_goals with_reducible rfl)
        simp only [Act.put, J1, J2, J3, J4, J5, J6]
        refine tk (i := 11) (v := ?_) rfl (Or.inl ⟨by rfl, ?hy13⟩) ?ty13
        case hy13 => (intro w5 hSw; obtain ⟨p0, p1, p2⟩ := hSw; go_simp; all_goals with_reducible rfl)
        simp only [Act.put, J1, J2, J3, J4, J5, J6]
        refine tk (i := 12) (v := ?_) rfl (Or.inl ⟨by rfl, ?hy14⟩) ?ty14
        case hy14 => (intro w5 hSw; obtain ⟨p0, p1, p2⟩ := hSw; go_simp; all_goals with_reducible rfl)
        simp only [Act.put, J1, J2, J3, J4, J5, J6]
        refine tk (i := 13) (v := ?_) rfl (Or.inl ⟨by rfl, ?hy15⟩) ?ty15
        case hy15 => (intro w5 hSw; obtain ⟨p0, p1, p2⟩ := hSw; go_simp; all_goals with_reducible rfl)
        simp only [Act.put, J1, J2, J3, J4, J5, J6]
        generalize World.drew W3 = Z at *
        refine wpAnyH_ready (rs := [14]) (by kernel_rfl) (by simp) ?_
        refine AllReadyH.cons rfl (fun K hK => ?_) AllReadyH.nil
        go_simp
        refine (l8Put_any W1.heap.size gX i (some ⟨gX, 0, none⟩, l.length, cap2) l xs 0 of od p.2 ob Z hC4 rfl hix hD4 (by omega) (by rw [HMX.out.2]; omega) (by rw [HMX.out.1]; omega) hz3).mono ?_
        rintro e Y ⟨d', rfl, hC5, hms5, hK5, -, -⟩
        have hbN5 : Below W1.heap.size W1 Y := hbN4.trans (hK5.belowN hz3 hC4.2.2.2)
        have hQ5 := hQ1.below hbN5 (by omega)
        have hO5 := hO4.block (hK5.block gO hO4.lt hgO)
        have hlt4 := hO4.lt
        have hzY := hK5.size
        have hne5 : gO ∉ blkS ((some ⟨gX, 0, none⟩, l.length, cap2) : SlQ) ++ fpX (xs.set i d') := fun hc => by
          rcases hms5 gO hc with h | h
          · exact hgO h
          · omega
        rw [HMX.out.2]
        refine hK.out _ _ ⟨hQ5.2.2.2.2.2.1, hQ5.2.2.2.2.2.2.1, hQ5.2.2.2.2.2.2.2⟩ (fun hHeld => ?_)
        clear hK K
        refine wpAnyH_ready (rs := [15]) (by kernel_rfl) (by simp) ?_
        refine AllReadyH.cons rfl (fun K hK => ?_) AllReadyH.nil
        have hb6 : Below Y.heap.size Y (Y.alloc (.cells #[.int .i64 d.x] 2)) := (Below.refl _ _).alloc (Nat.le_refl _) _
        have hU6 := OwZ.one 2 Y d.x
        have hC6 := hC5.below hb6 (Nat.le_refl _)
        have hO6 := hO5.below hb6 hO5.lt
        have hbN6 := hbN5.trans (hb6.mono hbN5.size)
        have hQ6 := hQ1.below hbN6 (by omega)
        have huo : ∀ k ∈ blkS ((some ⟨Y.heap.size, 0, none⟩, 1, 1) : SlQ), W1.heap.size ≤ k ∧ k ∉ blkS ((some ⟨gX, 0, none⟩, l.length, cap2) : SlQ) ++ fpX (xs.set i d') := fun k hk => by
          obtain rfl : k = Y.heap.size := by simpa [blkS] using hk
          exact ⟨hbN5.size, fun hc => absurd (hC5.1.lt _ hc) (Nat.lt_irrefl _)⟩
        have hgY : gO < Y.heap.size := hO5.lt
        go_simp
        generalize World.alloc Y (.cells #[.int .i64 d.x] 2) = Y6 at *
        obtain ⟨gU, hgU⟩ : ∃ gU, Y.heap.size = gU := ⟨_, rfl⟩
        rw [hgU] at hU6 huo hgY ⊢
        refine hK.out _ _ ⟨hQ6.2.2.2.2.2.1, hQ6.2.2.2.2.2.2.1, hQ6.2.2.2.2.2.2.2⟩ (fun hHeld => ?_)
        clear hK K
        refine tk (i := 16) (v := ?_) rfl (Or.inl ⟨by rfl, ?hy16⟩) ?ty16
        case hy16 => (intro w5 hSw; obtain ⟨p0, p1, p2⟩ := hSw; go_simp; all_goals with_reducible rfl)
        simp only [Act.put, J1, J2, J3, J4, J5, J6]
        have e1 := hO6.2 1
        obtain ⟨y0, y1, y2, y3⟩ := id hO6.1
        dsimp only at y0 y1 y2 y3
        refine wpAnyH_ready (rs := [17]) (by kernel_rfl) (by simp) ?_
        refine AllReadyH.cons rfl (fun K hK => ?_) AllReadyH.nil
        have hO7 := hO6.set1 (.slice (some ⟨gU, 0, none⟩) 1 1)
        have hC7 := hC6.far gO 1 (.slice (some ⟨gU, 0, none⟩) 1 1) hne5
        have hU7 : OwZ 2 (Y6.setCell ⟨gO, 1, none⟩ (.slice (some ⟨gU, 0, none⟩) 1 1)) (some ⟨gU, 0, none⟩, 1, 1) [d.x] := hU6.keep fun k hk => Below.heap_setCell _ _ _ _ (fun e => by have h1 : k = gU := (by simpa [blkS] using hk); rw [show k = gO from e] at h1; omega)
        have hbN7 := below_put hbN6 gO 1 (.slice (some ⟨gU, 0, none⟩) 1 1) hz2
        have hQ7 := hQ1.below hbN7 (by omega)
        go_simp
        generalize World.setCell Y6 ⟨gO, 1, none⟩ (.slice (some ⟨gU, 0, none⟩) 1 1) = Y7 at *
        refine hK.out _ _ ⟨hQ7.2.2.2.2.2.1, hQ7.2.2.2.2.2.2.1, hQ7.2.2.2.2.2.2.2⟩ (fun hHeld => ?_)
        clear hK K
        refine wpAnyH_done (by kernel_rfl) ?_ _
        clear hHeld y0 y1 y2 y3 e1 hC6 hO6 hU6 hbN6 hQ6 hC5 hO5 hQ5 hC4 hO4 hQ4 hQ7 hbN5 hbN4 hne5
        have hZ6 := hZ1.below hbN7 (by omega)
        have hbw6 := hbw1.trans (hbN7.mono hbw1.size)
        have hR := hZ6.four (.int .i64 0) (slW ((some ⟨gU, 0, none⟩, 1, 1) : SlQ)) (.int .i64 v) (slW ((some ⟨gX, 0, none⟩, l.length, cap2) : SlQ))
        have HB : Hid (_) := below_put (below_put (below_put (below_put hbw6 (w.heap.size + 1) 0 (.int .i64 0) (by omega)) (w.heap.size + 1) 1 (slW ((some ⟨gU, 0, none⟩, 1, 1) : SlQ)) (by omega)) (w.heap.size + 1) 2 (.int .i64 v) (by omega)) (w.heap.size + 1) 3 (slW ((some ⟨gX, 0, none⟩, l.length, cap2) : SlQ)) (by omega)
        have hno : w.heap.size + 1 ∉ blkS ((some ⟨gX, 0, none⟩, l.length, cap2) : SlQ) ++ fpX (xs.set i d') := fun hc => by have := hC7.2.2.2 _ hc; omega
        have HC : Hid (_) := (((hC7.far (w.heap.size + 1) 0 (.int .i64 0) hno).far (w.heap.size + 1) 1 (slW ((some ⟨gU, 0, none⟩, 1, 1) : SlQ)) hno).far (w.heap.size + 1) 2 (.int .i64 v) hno).far (w.heap.size + 1) 3 (slW ((some ⟨gX, 0, none⟩, l.length, cap2) : SlQ)) hno
        have hnu : ∀ k ∈ blkS ((some ⟨gU, 0, none⟩, 1, 1) : SlQ), k ≠ w.heap.size + 1 := fun k hk => by have := (huo k hk).1; omega
        have HU : Hid (OwZ 2 ((((Y7.setCell ⟨w.heap.size + 1, 0, none⟩ (.int .i64 0)).setCell ⟨w.heap.size + 1, 1, none⟩ (slW ((some ⟨gU, 0, none⟩, 1, 1) : SlQ))).setCell ⟨w.heap.size + 1, 2, none⟩ (.int .i64 v)).setCell ⟨w.heap.size + 1, 3, none⟩ (slW ((some ⟨gX, 0, none⟩, l.length, cap2) : SlQ))) ((some ⟨gU, 0, none⟩, 1, 1) : SlQ) _) := hU7.keep fun k hk => by
          have hne := hnu k hk
          rw [Below.heap_setCell _ _ _ _ hne, Below.heap_setCell _ _ _ _ hne, Below.heap_setCell _ _ _ _ hne, Below.heap_setCell _ _ _ _ hne]
        obtain ⟨z0, z1, z2, z3⟩ := id hZ6.1
        have f0 := hZ6.2 0
        have f1 := hZ6.2 1
        have f2 := hZ6.2 2
        have f3 := hZ6.2 3
        obtain ⟨r0, r1, r2, r3⟩ := id hR.1
        obtain ⟨q0, q1, q2, q3⟩ := id hO7.1
        dsimp only at z0 z1 z2 z3 r0 r1 r2 r3 q0 q1 q2 q3
        (try dsimp only [slW] at q3)
        clear hO7 hC7 hU7 hbN7 hR hZ6 hbw6
        dsimp only [slW] at HB HC HU r0 r1 r2 r3
        go_wp2
        refine bodyPost_ret (v := .agg #[.int .i64 0, .slice (some ⟨gU, 0, none⟩) 1 1, .int .i64 v, .slice (some ⟨gX, 0, none⟩) l.length cap2]) (by simp [results, Tryz.results58, go_sem, r0, r1, r2, r3]) rfl ?_
        rw [HV.out]
        exact .inr ⟨rfl, (some ⟨gU, 0, none⟩, 1, 1), (some ⟨gX, 0, none⟩, l.length, cap2), _, rfl, HU.out, CX.low HC.out hbw1.size, fun k hk => ⟨Nat.le_trans hbw1.size (huo k hk).1, (huo k hk).2⟩, HB.out⟩
end Go.Proofs.YtejbbnpgghpgaaaGreatDoor
