/- The model: an op done, of the kind 1; no conditions beyond those that each fact names. -/
import Derived.Test.YtejbbnpgghpgaaaGreatDoorMdg
namespace Go.Proofs.YtejbbnpgghpgaaaGreatDoor
open Go.RowKit
set_option linter.unusedVariables false

set_option maxHeartbeats 3200000 in
set_option maxRecDepth 100000 in
theorem l8Apply_1 (B : Nat) (v : Int) (s : SlQ) (xs0 : List Dx) (o : OpR) (p : SlO) (w : World) (hs : HX w s xs0) (hf : FtH xs0) (hG : GdS v (xs0.map Dx.bx)) (hQ : Qo w B (opQ o p)) (hI : o.u.length = p.1.2.1 ∧ RdI w p.1.1 o.u) (hIo : ∀ x, p.1.1 = some x → x.block < w.heap.size) (hul : o.u.length ≤ 6) (hk : o.k = 1) :
    Calls Tryz.prog 58 #[.agg #[.int .i64 v, slW s], .pointer (some ⟨B, 0, none⟩)] w fun e w' => SrEnd (if ixG (xs0.map Dx.bx).length (nmX (xs0.map Dx.bx) o.x) < 0 ∧ o.k ≠ 1 then badR 4 else kdR v (xs0.map Dx.bx) o (ixG (xs0.map Dx.bx).length (nmX (xs0.map Dx.bx) o.x))) w e w' := by
  obtain ⟨a, n, cap⟩ := s
  obtain ⟨⟨a', n', c'⟩, e, hl, hnc, hcm, -⟩ := row_form hs.1
  cases e
  dsimp only [slW] at hl hnc hcm ⊢
  replace hl := hl.symm
  rw [hl] at hnc
  unfold maxLen at hcm
  obtain ⟨l, hle⟩ : ∃ l, xs0.map Dx.bx = l := ⟨_, rfl⟩
  rw [hle] at hG ⊢
  have hln : l.length = n := by rw [← hle, List.length_map]; exact hl
  obtain ⟨W, hW⟩ : ∃ W, (w.alloc (.cells #[.int .i64 v, .slice a n cap] 33)).alloc (.cells #[.int .i64 0, .slice none 0 0, .int .i64 0, .slice none 0 0] 35) = W := ⟨_, rfl⟩
  have hbW : Below w.heap.size w W := by rw [← hW]; exact ((Below.refl _ _).alloc (Nat.le_refl _) _).alloc (by simp) _
  have hA : Dw W w.heap.size (.int .i64 v, .slice a n cap) := by
    rw [← hW]
    exact (Dw.new w (.int .i64 v) (.slice a n cap) 33).below ((Below.refl _ _).alloc (Nat.le_refl _) _) (by simp)
  have hZ : Qw W (w.heap.size + 1) (.int .i64 0, .slice none 0 0, .int .i64 0, .slice none 0 0) := by
    have h := Qw.new (w.alloc (.cells #[.int .i64 v, .slice a n cap] 33)) (.int .i64 0) (.slice none 0 0) (.int .i64 0) (.slice none 0 0) 35
    rw [hW] at h
    simpa using h
  have hzW : W.heap.size = w.heap.size + 2 := by rw [← hW]; simp
  have hBl := hQ.lt
  have hQ0 := hQ.below hbW hBl
  have HV0 : Hid ((if ixG l.length (nmX l o.x) < 0 ∧ o.k ≠ 1 then badR 4 else kdR v l o (ixG l.length (nmX l o.x))) = mkR v l o.x (ixG l.length (nmX l o.x))) := (if_neg (fun h' => h'.2 hk)).trans (by unfold kdR; rw [hk]; rfl)
  generalize (if ixG l.length (nmX l o.x) < 0 ∧ o.k ≠ 1 then badR 4 else kdR v l o (ixG l.length (nmX l o.x))) = rr at *
  have HMK := l8Make_any B v (a, n, cap) xs0 o p W (hs.below hbW (Nat.le_refl _)) hf ⟨by have := hG.1; omega, hG.1.2⟩ hQ0
  rw [hle] at HMK
  generalize mkR v l o.x (ixG l.length (nmX l o.x)) = r at *
  obtain ⟨ok, ox, ot, ou, om, of, od, ob⟩ := o
  dsimp only at hk
  subst hk
  dsimp only [opQ, slW] at hQ0 HMK hQ
  have HW : Hid (_ = W) := hW
  obtain ⟨o0, o1, o2, o3, o4, o5, o6, o7⟩ := id hQ0
  dsimp only at o0
  obtain ⟨a0, a1⟩ := id hA.1
  dsimp only at a0 a1
  clear hW hs hle hl hln o1 o2 o3 o4 o5 o6 o7
  go_enter Tryz.func58, Tryz.ntmps58
  have hW := HW.out
  go_wp2_with fail
  (try rw [hW])
  refine HMK.mono ?_
  intro e Y hE
  clear HW hW HMK o0 a0 a1
  rcases hE with ⟨hr, rfl, hb⟩ | ⟨hr, su, s', xs', rfl, hU, hC, hus, hb⟩
  · have hbw := hbW.trans (hb.mono hbW.size)
    have hZ2 := hZ.below hb (by omega)
    obtain ⟨rc, ru, rv, rl⟩ := r
    dsimp only at hr ⊢
    have hR := hZ2.four (.int .i64 rc) (.slice none 0 0) (.int .i64 0) (.slice none 0 0)
    have HB : Hid (_) := below_put (below_put (below_put (below_put hbw (w.heap.size + 1) 0 (.int .i64 rc) (by omega)) (w.heap.size + 1) 1 (.slice none 0 0) (by omega)) (w.heap.size + 1) 2 (.int .i64 0) (by omega)) (w.heap.size + 1) 3 (.slice none 0 0) (by omega)
    obtain ⟨z0, z1, z2, z3⟩ := id hZ2.1
    have f0 := hZ2.2 0
    have f1 := hZ2.2 1
    have f2 := hZ2.2 2
    have f3 := hZ2.2 3
    obtain ⟨r0, r1, r2, r3⟩ := id hR.1
    dsimp only at z0 z1 z2 z3 r0 r1 r2 r3
    go_wp2
    refine bodyPost_ret (v := .agg #[.int .i64 rc, .slice none 0 0, .int .i64 0, .slice none 0 0]) (by simp [results, Tryz.results58, go_sem, r0, r1, r2, r3]) rfl ?_
    rw [HV0.out]
    exact .inl ⟨hr, rfl, HB.out⟩
  · have hbw := hbW.trans (hb.mono hbW.size)
    have hZ2 := hZ.below hb (by omega)
    obtain ⟨rc, ru, rv, rl⟩ := r
    dsimp only at hr hU hC ⊢
    subst hr
    have hR := hZ2.four (.int .i64 0) (slW su) (.int .i64 rv) (slW s')
    have HB : Hid (_) := below_put (below_put (below_put (below_put hbw (w.heap.size + 1) 0 (.int .i64 0) (by omega)) (w.heap.size + 1) 1 (slW su) (by omega)) (w.heap.size + 1) 2 (.int .i64 rv) (by omega)) (w.heap.size + 1) 3 (slW s') (by omega)
    have hno : w.heap.size + 1 ∉ blkS s' ++ fpX xs' := fun hc => by have := hC.2.2.2 _ hc; omega
    have HC : Hid (_) := (((hC.far (w.heap.size + 1) 0 (.int .i64 0) hno).far (w.heap.size + 1) 1 (slW su) hno).far (w.heap.size + 1) 2 (.int .i64 rv) hno).far (w.heap.size + 1) 3 (slW s') hno
    have hnu : ∀ k ∈ blkS su, k ≠ w.heap.size + 1 := fun k hk => by have := (hus k hk).1; omega
    have HU : Hid (OwZ 2 ((((Y.setCell ⟨w.heap.size + 1, 0, none⟩ (.int .i64 0)).setCell ⟨w.heap.size + 1, 1, none⟩ (slW su)).setCell ⟨w.heap.size + 1, 2, none⟩ (.int .i64 rv)).setCell ⟨w.heap.size + 1, 3, none⟩ (slW s')) su _) := hU.keep fun k hk => by
      have hne := hnu k hk
      rw [Below.heap_setCell _ _ _ _ hne, Below.heap_setCell _ _ _ _ hne, Below.heap_setCell _ _ _ _ hne, Below.heap_setCell _ _ _ _ hne]
    obtain ⟨z0, z1, z2, z3⟩ := id hZ2.1
    have f0 := hZ2.2 0
    have f1 := hZ2.2 1
    have f2 := hZ2.2 2
    have f3 := hZ2.2 3
    obtain ⟨r0, r1, r2, r3⟩ := id hR.1
    dsimp only at z0 z1 z2 z3 r0 r1 r2 r3
    go_wp2
    refine bodyPost_ret (v := .agg #[.int .i64 0, slW su, .int .i64 rv, slW s']) (by simp [results, Tryz.results58, go_sem, r0, r1, r2, r3]) rfl ?_
    rw [HV0.out]
    exact .inr ⟨rfl, su, s', xs', rfl, HU.out, CX.low HC.out hbW.size, fun k hk => ⟨Nat.le_trans hbW.size (hus k hk).1, (hus k hk).2⟩, HB.out⟩
end Go.Proofs.YtejbbnpgghpgaaaGreatDoor
