/- The model: an op done, of the kind 5; no conditions beyond those that each fact names. -/
import Derived.Test.YtejbbnpgghpgaaaGreatDoorMdf
namespace Go.Proofs.YtejbbnpgghpgaaaGreatDoor
open Go.RowKit
set_option linter.unusedVariables false
theorem cpR_v (v : Int) (l : List Bx) (i : Nat) (us : List Int) (nm : ByteArray) (h : (cpR v l i us nm).1 = 0) : (cpR v l i us nm).2.2.1 = v := by
  unfold cpR at *
  split at h <;> rename_i h1
  · exact absurd h (by decide)
  · rw [if_neg h1]
    split at h <;> rename_i h2
    · rw [if_pos h2]
    · exact absurd h (by decide)
theorem crR_v (v : Int) (l : List Bx) (i : Nat) (us : List Int) (k : Int) (bn nm : ByteArray) (h : (crR v l i us k bn nm).1 = 0) : (crR v l i us k bn nm).2.2.1 = v := by
  unfold crR at *
  split at h <;> rename_i h1
  · rw [if_pos h1]
    unfold mvR at *
    split at h <;> rename_i h2
    · exact absurd h (by decide)
    · rw [if_neg h2]
      split at h <;> rename_i h3
      · rw [if_pos h3]; exact cpR_v v l i us nm h3
      · exact absurd h h3
  · rw [if_neg h1]; exact cpR_v v l i us nm h
set_option maxHeartbeats 3200000 in
set_option maxRecDepth 100000 in
theorem l8Apply_5 (B : Nat) (v : Int) (s : SlQ) (xs0 : List Dx) (o : OpR) (p : SlO) (w : World) (hs : HX w s xs0) (hf : FtH xs0) (hG : GdS v (xs0.map Dx.bx)) (hQ : Qo w B (opQ o p)) (hI : o.u.length = p.1.2.1 ∧ RdI w p.1.1 o.u) (hIo : ∀ x, p.1.1 = some x → x.block < w.heap.size) (hul : o.u.length ≤ 6) (hk : o.k = 5) :
    Calls Tryz.prog 58 #[.agg #[.int .i64 v, slW s], .pointer (some ⟨B, 0, none⟩)] w fun e w' => SrEnd (if ixG (xs0.map Dx.bx).length (nmX (xs0.map Dx.bx) o.x) < 0 ∧ o.k ≠ 1 then badR 4 else kdR v (xs0.map Dx.bx) o (ixG (xs0.map Dx.bx).length (nmX (xs0.map Dx.bx) o.x))) w e w' := by
  obtain ⟨a, n, cap⟩ := s
  obtain ⟨⟨a', n', c'⟩, e, hl, hnc, hcm, -⟩ := row_form hs.1
  cases e
  dsimp only [slW] at hl hnc hcm ⊢
  replace hl := hl.symm
  rw [hl] at hnc
  unfold maxLen at hcm
  obtain ⟨l, hle⟩ : ∃ l, xs0.map Dx.bx = l := ⟨_, rfl⟩
  rw [hle] at hG ⊢
  have hln : l.length = n := by rw [← hle, List.length_map]; exact hl
  obtain ⟨W, hW⟩ : ∃ W, (w.alloc (.cells #[.int .i64 v, .slice a n cap] 33)).alloc (.cells #[.int .i64 0, .slice none 0 0, .int .i64 0, .slice none 0 0] 35) = W := ⟨_, rfl⟩
  have hbW : Below w.heap.size w W := by rw [← hW]; exact ((Below.refl _ _).alloc (Nat.le_refl _) _).alloc (by simp) _
  have hA : Dw W w.heap.size (.int .i64 v, .slice a n cap) := by
    rw [← hW]
    exact (Dw.new w (.int .i64 v) (.slice a n cap) 33).below ((Below.refl _ _).alloc (Nat.le_refl _) _) (by simp)
  have hZ : Qw W (w.heap.size + 1) (.int .i64 0, .slice none 0 0, .int .i64 0, .slice none 0 0) := by
    have h := Qw.new (w.alloc (.cells #[.int .i64 v, .slice a n cap] 33)) (.int .i64 0) (.slice none 0 0) (.int .i64 0) (.slice none 0 0) 35
    rw [hW] at h
    simpa using h
  have hzW : W.heap.size = w.heap.size + 2 := by rw [← hW]; simp
  have hBl := hQ.lt
  have hQ0 := hQ.below hbW hBl
  have HAT := l7At_any v l (a, n, cap) o.x w.heap.size (lo := 0) W (hle ▸ (hs.below hbW (Nat.le_refl _)).xs (fun _ _ => Nat.zero_le _)) hA.1
  have HCP : Hid (∀ W', Below w.heap.size w W' → Calls Tryz.prog 74 #[.agg #[.int .i64 v, .slice a n cap]] W' fun e w' => CpS v l W' e w') := fun W' hb => hle ▸ l7Copy_any v (a, n, cap) xs0 W' (hs.below hb (Nat.le_refl _)) hf
  have HIX : Hid (0 ≤ ixG l.length (nmX l o.x) → ∃ j : Nat, ixG l.length (nmX l o.x) = (j : Int) ∧ j < l.length) := fun h => by
    rcases ixG_cases l.length (nmX l o.x) with ⟨e, -⟩ | ⟨k, hk, e, -⟩
    · omega
    · exact ⟨k, e, hk⟩
  have HV4 : Hid (ixG l.length (nmX l o.x) < 0 → (if ixG l.length (nmX l o.x) < 0 ∧ o.k ≠ 1 then badR 4 else kdR v l o (ixG l.length (nmX l o.x))) = badR 4) := fun h => if_pos ⟨h, by rw [hk]; decide⟩
  have HV0 : Hid (¬ ixG l.length (nmX l o.x) < 0 → (if ixG l.length (nmX l o.x) < 0 ∧ o.k ≠ 1 then badR 4 else kdR v l o (ixG l.length (nmX l o.x))) = crR v l (ixG l.length (nmX l o.x)).toNat o.u 5 o.x o.t) := fun h => (if_neg (fun h' => h h'.1)).trans (by unfold kdR; rw [hk]; rfl)
  generalize (if ixG l.length (nmX l o.x) < 0 ∧ o.k ≠ 1 then badR 4 else kdR v l o (ixG l.length (nmX l o.x))) = rr at *
  obtain ⟨ok, ox, ot, ou, om, of, od, ob⟩ := o
  dsimp only at hk
  subst hk
  dsimp only [opQ, slW] at hQ0 HAT hI hul hQ HV4 HV0 HIX ⊢
  have HLN : Hid (_ = _) := hln
  have HW : Hid (_ = W) := hW
  obtain ⟨o0, o1, o2, o3, o4, o5, o6, o7⟩ := id hQ0
  dsimp only at o0 o1
  clear hW hs hle hl hln o2 o3 o4 o5 o6 o7
  go_enter Tryz.func58, Tryz.ntmps58
  have hW := HW.out
  go_wp2_with fail
  (try rw [hW])
  refine HAT.mono ?_
  rintro e W1 ⟨rfl, hb1⟩
  have hA1 := hA.below hb1 (by omega)
  have hQ1 := hQ0.below hb1 hQ0.lt
  have hZ1 := hZ.below hb1 (by omega)
  have hbw1 := hbW.trans (hb1.mono hbW.size)
  have hz1 : w.heap.size + 2 ≤ W1.heap.size := by rw [← hzW]; exact hb1.size
  clear HAT hA hQ0 hZ hbW hb1 HW hW hzW o0 o1
  obtain ⟨a0, a1⟩ := id hA1.1
  dsimp only at a0 a1
  by_cases h1 : ixG l.length (nmX l ox) < 0
  · have HV : Hid (rr = badR 4) := HV4.out h1
    clear HV4 HV0 HCP HIX
    go_wp2_with fail
    refine (l8Bad_any 4 W1).mono ?_
    rintro e Wb ⟨rfl, hbb⟩
    have hZb := hZ1.below hbb hZ1.lt
    have hbwb := hbw1.trans (hbb.mono hbw1.size)
    have hR := hZb.four (.int .i64 4) (.slice none 0 0) (.int .i64 0) (.slice none 0 0)
    have HB : Hid (_) := below_put (below_put (below_put (below_put hbwb (w.heap.size + 1) 0 (.int .i64 4) (by omega)) (w.heap.size + 1) 1 (.slice none 0 0) (by omega)) (w.heap.size + 1) 2 (.int .i64 0) (by omega)) (w.heap.size + 1) 3 (.slice none 0 0) (by omega)
    obtain ⟨z0, z1, z2, z3⟩ := id hZb.1
    have f0 := hZb.2 0
    have f1 := hZb.2 1
    have f2 := hZb.2 2
    have f3 := hZb.2 3
    obtain ⟨r0, r1, r2, r3⟩ := id hR.1
    dsimp only at z0 z1 z2 z3 r0 r1 r2 r3
    go_wp2
    refine bodyPost_ret (v := .agg #[.int .i64 4, .slice none 0 0, .int .i64 0, .slice none 0 0]) (by simp [results, Tryz.results58, go_sem, r0, r1, r2, r3]) rfl ?_
    rw [HV.out]
    exact .inl ⟨by decide, rfl, HB.out⟩
  · obtain ⟨i, hie, hi⟩ := HIX.out (by omega)
    rw [hie] at h1 HV0 ⊢
    have HV : Hid (_) := HV0.out (by omega)
    clear HV4 HV0 HIX
    go_wp2_with fail
    refine (HCP.out W1 hbw1).mono ?_
    rintro e W2 ⟨s2, xs, rfl, hC2, hb2⟩
    obtain ⟨a2, cap2, rfl, hxl, hlc, hcm2, ha2⟩ := hC2.form
    obtain ⟨gX, rfl⟩ : ∃ gX, a2 = some ⟨gX, 0, none⟩ := by
      rcases ha2 with ⟨-, h0⟩ | h0
      · rw [h0] at hi; simp at hi
      · exact h0
    unfold maxLen at hcm2
    dsimp only [slW]
    have hii : (i : Int) < (l.length : Int) := by omega
    have hb3 : Below W2.heap.size W2 (W2.alloc (.cells #[.int .i64 0, .slice none 0 0, .int .i64 v, .slice (some ⟨gX, 0, none⟩) l.length cap2] 35)) := (Below.refl _ _).alloc (Nat.le_refl _) _
    have hO3 := Qw.new W2 (.int .i64 0) (.slice none 0 0) (.int .i64 v) (.slice (some ⟨gX, 0, none⟩) l.length cap2) 35
    have hC3 := hC2.below hb3 (Nat.le_refl _)
    have hbN3 : Below W1.heap.size W1 (W2.alloc (.cells #[.int .i64 0, .slice none 0 0, .int .i64 v, .slice (some ⟨gX, 0, none⟩) l.length cap2] 35)) := hb2.trans (hb3.mono hb2.size)
    have hgO : W2.heap.size ∉ blkS ((some ⟨gX, 0, none⟩, l.length, cap2) : SlQ) ++ fpX xs := fun hc => absurd (hC2.1.lt _ hc) (Nat.lt_irrefl _)
    have hz2 := hb2.size
    have hQ3 := hQ1.below hbN3 (by omega)
    have k3 := hQ3.1
    dsimp only at k3
    clear HCP a0 a1 hC2 hb2 hb3 ha2 hA1
    go_wp2_with fail
    generalize W2.alloc (.cells #[.int .i64 0, .slice none 0 0, .int .i64 v, .slice (some ⟨gX, 0, none⟩) l.length cap2] 35) = W3 at *
    obtain ⟨gO, hgOe⟩ : ∃ gO, W2.heap.size = gO := ⟨_, rfl⟩
    rw [hgOe] at hO3 hgO hz2 ⊢
    clear hgOe
    have hBo : B ∉ blkS ((some ⟨gX, 0, none⟩, l.length, cap2) : SlQ) ++ fpX xs := fun hc => by have := hC3.2.2.2 B hc; omega
    have hIo3 : ∀ x, p.1.1 = some x → x.block < W3.heap.size ∧ x.block ∉ blkS ((some ⟨gX, 0, none⟩, l.length, cap2) : SlQ) ++ fpX xs := fun x hx => by
      have h1 := hIo x hx
      have h2 := hbN3.size
      exact ⟨by omega, fun hc => by have := hC3.2.2.2 _ hc; omega⟩
    have hI3 : ou.length = p.1.2.1 ∧ RdI W3 p.1.1 ou := ⟨hI.1, (hI.2.below hbw1).belowN (fun x hx => by have := hIo x hx; omega) hbN3⟩
    have hFL := l8Carry_any W1.heap.size gO B v l (some ⟨gX, 0, none⟩, l.length, cap2) xs ⟨5, ox, ot, ou, om, of, od, ob⟩ p i W3 hC3 hO3.1.2.2.2 hgO hG hbN3.size hi hie hQ3 hBo hI3 hul (.inl rfl)
    refine hFL.mono ?_
    intro e Y hE
    clear hFL
    have HV' : Hid (rr = crR v l i ou 5 ox ot) := HV.out
    clear HV
    have hz3 := hbN3.size
    have hlt3 := hO3.lt
    dsimp only at hE
    have HRV : Hid ((crR v l i ou 5 ox ot).1 = 0 → (crR v l i ou 5 ox ot).2.2.1 = v) := crR_v v l i ou 5 ox ot
    generalize crR v l i ou 5 ox ot = r at *
    rcases hE with ⟨hr, rfl, hK⟩ | ⟨hr, su, xs', rfl, hU, hC, hus, hms, hK⟩
    · have hbN4 : Below W1.heap.size W1 Y := hbN3.trans (hK.belowN hz3 hC3.2.2.2)
      have hbw4 := hbw1.trans (hbN4.mono hbw1.size)
      have hZ4 := hZ1.below hbN4 (by omega)
      have HV : Hid (rr = r) := HV'.out
      obtain ⟨rc, ru, rv, rl⟩ := r
      dsimp only at hr ⊢
      go_wp2_with fail
      refine (l8Bad_any rc Y).mono ?_
      rintro e Wb ⟨rfl, hbb⟩
      have hZb := hZ4.below hbb hZ4.lt
      have hbwb := hbw4.trans (hbb.mono hbw4.size)
      have hR := hZb.four (.int .i64 rc) (.slice none 0 0) (.int .i64 0) (.slice none 0 0)
      have HB : Hid (_) := below_put (below_put (below_put (below_put hbwb (w.heap.size + 1) 0 (.int .i64 rc) (by omega)) (w.heap.size + 1) 1 (.slice none 0 0) (by omega)) (w.heap.size + 1) 2 (.int .i64 0) (by omega)) (w.heap.size + 1) 3 (.slice none 0 0) (by omega)
      obtain ⟨z0, z1, z2, z3⟩ := id hZb.1
      have f0 := hZb.2 0
      have f1 := hZb.2 1
      have f2 := hZb.2 2
      have f3 := hZb.2 3
      obtain ⟨r0, r1, r2, r3⟩ := id hR.1
      dsimp only at z0 z1 z2 z3 r0 r1 r2 r3
      go_wp2
      refine bodyPost_ret (v := .agg #[.int .i64 rc, .slice none 0 0, .int .i64 0, .slice none 0 0]) (by simp [results, Tryz.results58, go_sem, r0, r1, r2, r3]) rfl ?_
      rw [HV.out]
      exact .inl ⟨hr, rfl, HB.out⟩
    · have hO4 := hO3.block (hK.block gO hlt3 hgO)
      have hbN4 : Below W1.heap.size W1 Y := hbN3.trans (hK.belowN hz3 hC3.2.2.2)
      have hne : gO ∉ blkS ((some ⟨gX, 0, none⟩, l.length, cap2) : SlQ) ++ fpX xs' := fun hc => by
        rcases hms gO hc with h | h
        · exact hgO h
        · omega
      have huo : ∀ k ∈ blkS su, W1.heap.size ≤ k ∧ k ∉ blkS ((some ⟨gX, 0, none⟩, l.length, cap2) : SlQ) ++ fpX xs' := fun k hk => ⟨Nat.le_trans hz3 (hus k hk).1, (hus k hk).2⟩
      obtain ⟨y0, y1, y2, y3⟩ := id hO4.1
      have e1 := hO4.2 1
      dsimp only at y0 y1 y2 y3
      have hO5 := hO4.set1 (slW su)
      have hC5 := hC.far gO 1 (slW su) hne
      have hU5 : OwZ 2 (Y.setCell ⟨gO, 1, none⟩ (slW su)) su _ := hU.keep fun k hk => Below.heap_setCell _ _ _ _ (fun e => by have h1 := (hus k hk).1; rw [show k = gO from e] at h1; omega)
      have hbN5 := below_put hbN4 gO 1 (slW su) hz2
      obtain ⟨Y5, hY5⟩ : ∃ Y5, Y.setCell ⟨gO, 1, none⟩ (slW su) = Y5 := ⟨_, rfl⟩
      rw [hY5] at hO5 hC5 hU5 hbN5
      have hZ6 := hZ1.below hbN5 (by omega)
      have hbw6 := hbw1.trans (hbN5.mono hbw1.size)
      have hR := hZ6.four (.int .i64 0) (slW su) (.int .i64 v) (slW (some ⟨gX, 0, none⟩, l.length, cap2))
      have HB : Hid (_) := below_put (below_put (below_put (below_put hbw6 (w.heap.size + 1) 0 (.int .i64 0) (by omega)) (w.heap.size + 1) 1 (slW su) (by omega)) (w.heap.size + 1) 2 (.int .i64 v) (by omega)) (w.heap.size + 1) 3 (slW (some ⟨gX, 0, none⟩, l.length, cap2)) (by omega)
      have hno : w.heap.size + 1 ∉ blkS (some ⟨gX, 0, none⟩, l.length, cap2) ++ fpX xs' := fun hc => by have := hC5.2.2.2 _ hc; omega
      have HC : Hid (_) := (((hC5.far (w.heap.size + 1) 0 (.int .i64 0) hno).far (w.heap.size + 1) 1 (slW su) hno).far (w.heap.size + 1) 2 (.int .i64 v) hno).far (w.heap.size + 1) 3 (slW (some ⟨gX, 0, none⟩, l.length, cap2)) hno
      have hnu : ∀ k ∈ blkS su, k ≠ w.heap.size + 1 := fun k hk => by have := (huo k hk).1; omega
      have HU : Hid (OwZ 2 ((((Y5.setCell ⟨w.heap.size + 1, 0, none⟩ (.int .i64 0)).setCell ⟨w.heap.size + 1, 1, none⟩ (slW su)).setCell ⟨w.heap.size + 1, 2, none⟩ (.int .i64 v)).setCell ⟨w.heap.size + 1, 3, none⟩ (slW (some ⟨gX, 0, none⟩, l.length, cap2))) su _) := hU5.keep fun k hk => by
        have hne := hnu k hk
        rw [Below.heap_setCell _ _ _ _ hne, Below.heap_setCell _ _ _ _ hne, Below.heap_setCell _ _ _ _ hne, Below.heap_setCell _ _ _ _ hne]
      obtain ⟨z0, z1, z2, z3⟩ := id hZ6.1
      have f0 := hZ6.2 0
      have f1 := hZ6.2 1
      have f2 := hZ6.2 2
      have f3 := hZ6.2 3
      obtain ⟨r0, r1, r2, r3⟩ := id hR.1
      obtain ⟨q0, q1, q2, q3⟩ := id hO5.1
      dsimp only at z0 z1 z2 z3 r0 r1 r2 r3 q0 q1 q2 q3
      (try dsimp only [slW] at q3)
      rw [← hY5] at HB HC HU z0 z1 z2 z3 f0 f1 f2 f3 r0 r1 r2 r3
      have HR1 : Hid (r.1 = 0 ∧ r.2.2.1 = v) := ⟨hr, HRV.out hr⟩
      clear hY5 hO5 hC5 hU5 hbN5 hR hZ6 hbw6 q0 q1 q2 q3 hr
      go_wp2
      refine bodyPost_ret (v := .agg #[.int .i64 0, slW su, .int .i64 v, .slice (some ⟨gX, 0, none⟩) l.length cap2]) (by simp [results, Tryz.results58, go_sem, r0, r1, r2, r3]) rfl ?_
      rw [HV'.out]
      exact .inr ⟨HR1.out.1, su, (some ⟨gX, 0, none⟩, l.length, cap2), xs', by rw [HR1.out.2], HU.out, CX.low HC.out hbw1.size, fun k hk => ⟨Nat.le_trans hbw1.size (huo k hk).1, (huo k hk).2⟩, HB.out⟩
set_option maxHeartbeats 3200000 in
set_option maxRecDepth 100000 in
theorem l8Apply_6 (B : Nat) (v : Int) (s : SlQ) (xs0 : List Dx) (o : OpR) (p : SlO) (w : World) (hs : HX w s xs0) (hf : FtH xs0) (hG : GdS v (xs0.map Dx.bx)) (hQ : Qo w B (opQ o p)) (hI : o.u.length = p.1.2.1 ∧ RdI w p.1.1 o.u) (hIo : ∀ x, p.1.1 = some x → x.block < w.heap.size) (hul : o.u.length ≤ 6) (hk : o.k = 6) :
    Calls Tryz.prog 58 #[.agg #[.int .i64 v, slW s], .pointer (some ⟨B, 0, none⟩)] w fun e w' => SrEnd (if ixG (xs0.map Dx.bx).length (nmX (xs0.map Dx.bx) o.x) < 0 ∧ o.k ≠ 1 then badR 4 else kdR v (xs0.map Dx.bx) o (ixG (xs0.map Dx.bx).length (nmX (xs0.map Dx.bx) o.x))) w e w' := by
  obtain ⟨a, n, cap⟩ := s
  obtain ⟨⟨a', n', c'⟩, e, hl, hnc, hcm, -⟩ := row_form hs.1
  cases e
  dsimp only [slW] at hl hnc hcm ⊢
  replace hl := hl.symm
  rw [hl] at hnc
  unfold maxLen at hcm
  obtain ⟨l, hle⟩ : ∃ l, xs0.map Dx.bx = l := ⟨_, rfl⟩
  rw [hle] at hG ⊢
  have hln : l.length = n := by rw [← hle, List.length_map]; exact hl
  obtain ⟨W, hW⟩ : ∃ W, (w.alloc (.cells #[.int .i64 v, .slice a n cap] 33)).alloc (.cells #[.int .i64 0, .slice none 0 0, .int .i64 0, .slice none 0 0] 35) = W := ⟨_, rfl⟩
  have hbW : Below w.heap.size w W := by rw [← hW]; exact ((Below.refl _ _).alloc (Nat.le_refl _) _).alloc (by simp) _
  have hA : Dw W w.heap.size (.int .i64 v, .slice a n cap) := by
    rw [← hW]
    exact (Dw.new w (.int .i64 v) (.slice a n cap) 33).below ((Below.refl _ _).alloc (Nat.le_refl _) _) (by simp)
  have hZ : Qw W (w.heap.size + 1) (.int .i64 0, .slice none 0 0, .int .i64 0, .slice none 0 0) := by
    have h := Qw.new (w.alloc (.cells #[.int .i64 v, .slice a n cap] 33)) (.int .i64 0) (.slice none 0 0) (.int .i64 0) (.slice none 0 0) 35
    rw [hW] at h
    simpa using h
  have hzW : W.heap.size = w.heap.size + 2 := by rw [← hW]; simp
  have hBl := hQ.lt
  have hQ0 := hQ.below hbW hBl
  have HAT := l7At_any v l (a, n, cap) o.x w.heap.size (lo := 0) W (hle ▸ (hs.below hbW (Nat.le_refl _)).xs (fun _ _ => Nat.zero_le _)) hA.1
  have HCP : Hid (∀ W', Below w.heap.size w W' → Calls Tryz.prog 74 #[.agg #[.int .i64 v, .slice a n cap]] W' fun e w' => CpS v l W' e w') := fun W' hb => hle ▸ l7Copy_any v (a, n, cap) xs0 W' (hs.below hb (Nat.le_refl _)) hf
  have HIX : Hid (0 ≤ ixG l.length (nmX l o.x) → ∃ j : Nat, ixG l.length (nmX l o.x) = (j : Int) ∧ j < l.length) := fun h => by
    rcases ixG_cases l.length (nmX l o.x) with ⟨e, -⟩ | ⟨k, hk, e, -⟩
    · omega
    · exact ⟨k, e, hk⟩
  have HV4 : Hid (ixG l.length (nmX l o.x) < 0 → (if ixG l.length (nmX l o.x) < 0 ∧ o.k ≠ 1 then badR 4 else kdR v l o (ixG l.length (nmX l o.x))) = badR 4) := fun h => if_pos ⟨h, by rw [hk]; decide⟩
  have HV0 : Hid (¬ ixG l.length (nmX l o.x) < 0 → (if ixG l.length (nmX l o.x) < 0 ∧ o.k ≠ 1 then badR 4 else kdR v l o (ixG l.length (nmX l o.x))) = crR v l (ixG l.length (nmX l o.x)).toNat o.u 6 o.x o.t) := fun h => (if_neg (fun h' => h h'.1)).trans (by unfold kdR; rw [hk]; rfl)
  generalize (if ixG l.length (nmX l o.x) < 0 ∧ o.k ≠ 1 then badR 4 else kdR v l o (ixG l.length (nmX l o.x))) = rr at *
  obtain ⟨ok, ox, ot, ou, om, of, od, ob⟩ := o
  dsimp only at hk
  subst hk
  dsimp only [opQ, slW] at hQ0 HAT hI hul hQ HV4 HV0 HIX ⊢
  have HLN : Hid (_ = _) := hln
  have HW : Hid (_ = W) := hW
  obtain ⟨o0, o1, o2, o3, o4, o5, o6, o7⟩ := id hQ0
  dsimp only at o0 o1
  clear hW hs hle hl hln o2 o3 o4 o5 o6 o7
  go_enter Tryz.func58, Tryz.ntmps58
  have hW := HW.out
  go_wp2_with fail
  (try rw [hW])
  refine HAT.mono ?_
  rintro e W1 ⟨rfl, hb1⟩
  have hA1 := hA.below hb1 (by omega)
  have hQ1 := hQ0.below hb1 hQ0.lt
  have hZ1 := hZ.below hb1 (by omega)
  have hbw1 := hbW.trans (hb1.mono hbW.size)
  have hz1 : w.heap.size + 2 ≤ W1.heap.size := by rw [← hzW]; exact hb1.size
  clear HAT hA hQ0 hZ hbW hb1 HW hW hzW o0 o1
  obtain ⟨a0, a1⟩ := id hA1.1
  dsimp only at a0 a1
  by_cases h1 : ixG l.length (nmX l ox) < 0
  · have HV : Hid (rr = badR 4) := HV4.out h1
    clear HV4 HV0 HCP HIX
    go_wp2_with fail
    refine (l8Bad_any 4 W1).mono ?_
    rintro e Wb ⟨rfl, hbb⟩
    have hZb := hZ1.below hbb hZ1.lt
    have hbwb := hbw1.trans (hbb.mono hbw1.size)
    have hR := hZb.four (.int .i64 4) (.slice none 0 0) (.int .i64 0) (.slice none 0 0)
    have HB : Hid (_) := below_put (below_put (below_put (below_put hbwb (w.heap.size + 1) 0 (.int .i64 4) (by omega)) (w.heap.size + 1) 1 (.slice none 0 0) (by omega)) (w.heap.size + 1) 2 (.int .i64 0) (by omega)) (w.heap.size + 1) 3 (.slice none 0 0) (by omega)
    obtain ⟨z0, z1, z2, z3⟩ := id hZb.1
    have f0 := hZb.2 0
    have f1 := hZb.2 1
    have f2 := hZb.2 2
    have f3 := hZb.2 3
    obtain ⟨r0, r1, r2, r3⟩ := id hR.1
    dsimp only at z0 z1 z2 z3 r0 r1 r2 r3
    go_wp2
    refine bodyPost_ret (v := .agg #[.int .i64 4, .slice none 0 0, .int .i64 0, .slice none 0 0]) (by simp [results, Tryz.results58, go_sem, r0, r1, r2, r3]) rfl ?_
    rw [HV.out]
    exact .inl ⟨by decide, rfl, HB.out⟩
  · obtain ⟨i, hie, hi⟩ := HIX.out (by omega)
    rw [hie] at h1 HV0 ⊢
    have HV : Hid (_) := HV0.out (by omega)
    clear HV4 HV0 HIX
    go_wp2_with fail
    refine (HCP.out W1 hbw1).mono ?_
    rintro e W2 ⟨s2, xs, rfl, hC2, hb2⟩
    obtain ⟨a2, cap2, rfl, hxl, hlc, hcm2, ha2⟩ := hC2.form
    obtain ⟨gX, rfl⟩ : ∃ gX, a2 = some ⟨gX, 0, none⟩ := by
      rcases ha2 with ⟨-, h0⟩ | h0
      · rw [h0] at hi; simp at hi
      · exact h0
    unfold maxLen at hcm2
    dsimp only [slW]
    have hii : (i : Int) < (l.length : Int) := by omega
    have hb3 : Below W2.heap.size W2 (W2.alloc (.cells #[.int .i64 0, .slice none 0 0, .int .i64 v, .slice (some ⟨gX, 0, none⟩) l.length cap2] 35)) := (Below.refl _ _).alloc (Nat.le_refl _) _
    have hO3 := Qw.new W2 (.int .i64 0) (.slice none 0 0) (.int .i64 v) (.slice (some ⟨gX, 0, none⟩) l.length cap2) 35
    have hC3 := hC2.below hb3 (Nat.le_refl _)
    have hbN3 : Below W1.heap.size W1 (W2.alloc (.cells #[.int .i64 0, .slice none 0 0, .int .i64 v, .slice (some ⟨gX, 0, none⟩) l.length cap2] 35)) := hb2.trans (hb3.mono hb2.size)
    have hgO : W2.heap.size ∉ blkS ((some ⟨gX, 0, none⟩, l.length, cap2) : SlQ) ++ fpX xs := fun hc => absurd (hC2.1.lt _ hc) (Nat.lt_irrefl _)
    have hz2 := hb2.size
    have hQ3 := hQ1.below hbN3 (by omega)
    have k3 := hQ3.1
    dsimp only at k3
    clear HCP a0 a1 hC2 hb2 hb3 ha2 hA1
    go_wp2_with fail
    generalize W2.alloc (.cells #[.int .i64 0, .slice none 0 0, .int .i64 v, .slice (some ⟨gX, 0, none⟩) l.length cap2] 35) = W3 at *
    obtain ⟨gO, hgOe⟩ : ∃ gO, W2.heap.size = gO := ⟨_, rfl⟩
    rw [hgOe] at hO3 hgO hz2 ⊢
    clear hgOe
    have hBo : B ∉ blkS ((some ⟨gX, 0, none⟩, l.length, cap2) : SlQ) ++ fpX xs := fun hc => by have := hC3.2.2.2 B hc; omega
    have hIo3 : ∀ x, p.1.1 = some x → x.block < W3.heap.size ∧ x.block ∉ blkS ((some ⟨gX, 0, none⟩, l.length, cap2) : SlQ) ++ fpX xs := fun x hx => by
      have h1 := hIo x hx
      have h2 := hbN3.size
      exact ⟨by omega, fun hc => by have := hC3.2.2.2 _ hc; omega⟩
    have hI3 : ou.length = p.1.2.1 ∧ RdI W3 p.1.1 ou := ⟨hI.1, (hI.2.below hbw1).belowN (fun x hx => by have := hIo x hx; omega) hbN3⟩
    have hFL := l8Carry_any W1.heap.size gO B v l (some ⟨gX, 0, none⟩, l.length, cap2) xs ⟨6, ox, ot, ou, om, of, od, ob⟩ p i W3 hC3 hO3.1.2.2.2 hgO hG hbN3.size hi hie hQ3 hBo hI3 hul (.inr rfl)
    refine hFL.mono ?_
    intro e Y hE
    clear hFL
    have HV' : Hid (rr = crR v l i ou 6 ox ot) := HV.out
    clear HV
    have hz3 := hbN3.size
    have hlt3 := hO3.lt
    dsimp only at hE
    have HRV : Hid ((crR v l i ou 6 ox ot).1 = 0 → (crR v l i ou 6 ox ot).2.2.1 = v) := crR_v v l i ou 6 ox ot
    generalize crR v l i ou 6 ox ot = r at *
    rcases hE with ⟨hr, rfl, hK⟩ | ⟨hr, su, xs', rfl, hU, hC, hus, hms, hK⟩
    · have hbN4 : Below W1.heap.size W1 Y := hbN3.trans (hK.belowN hz3 hC3.2.2.2)
      have hbw4 := hbw1.trans (hbN4.mono hbw1.size)
      have hZ4 := hZ1.below hbN4 (by omega)
      have HV : Hid (rr = r) := HV'.out
      obtain ⟨rc, ru, rv, rl⟩ := r
      dsimp only at hr ⊢
      go_wp2_with fail
      refine (l8Bad_any rc Y).mono ?_
      rintro e Wb ⟨rfl, hbb⟩
      have hZb := hZ4.below hbb hZ4.lt
      have hbwb := hbw4.trans (hbb.mono hbw4.size)
      have hR := hZb.four (.int .i64 rc) (.slice none 0 0) (.int .i64 0) (.slice none 0 0)
      have HB : Hid (_) := below_put (below_put (below_put (below_put hbwb (w.heap.size + 1) 0 (.int .i64 rc) (by omega)) (w.heap.size + 1) 1 (.slice none 0 0) (by omega)) (w.heap.size + 1) 2 (.int .i64 0) (by omega)) (w.heap.size + 1) 3 (.slice none 0 0) (by omega)
      obtain ⟨z0, z1, z2, z3⟩ := id hZb.1
      have f0 := hZb.2 0
      have f1 := hZb.2 1
      have f2 := hZb.2 2
      have f3 := hZb.2 3
      obtain ⟨r0, r1, r2, r3⟩ := id hR.1
      dsimp only at z0 z1 z2 z3 r0 r1 r2 r3
      go_wp2
      refine bodyPost_ret (v := .agg #[.int .i64 rc, .slice none 0 0, .int .i64 0, .slice none 0 0]) (by simp [results, Tryz.results58, go_sem, r0, r1, r2, r3]) rfl ?_
      rw [HV.out]
      exact .inl ⟨hr, rfl, HB.out⟩
    · have hO4 := hO3.block (hK.block gO hlt3 hgO)
      have hbN4 : Below W1.heap.size W1 Y := hbN3.trans (hK.belowN hz3 hC3.2.2.2)
      have hne : gO ∉ blkS ((some ⟨gX, 0, none⟩, l.length, cap2) : SlQ) ++ fpX xs' := fun hc => by
        rcases hms gO hc with h | h
        · exact hgO h
        · omega
      have huo : ∀ k ∈ blkS su, W1.heap.size ≤ k ∧ k ∉ blkS ((some ⟨gX, 0, none⟩, l.length, cap2) : SlQ) ++ fpX xs' := fun k hk => ⟨Nat.le_trans hz3 (hus k hk).1, (hus k hk).2⟩
      obtain ⟨y0, y1, y2, y3⟩ := id hO4.1
      have e1 := hO4.2 1
      dsimp only at y0 y1 y2 y3
      have hO5 := hO4.set1 (slW su)
      have hC5 := hC.far gO 1 (slW su) hne
      have hU5 : OwZ 2 (Y.setCell ⟨gO, 1, none⟩ (slW su)) su _ := hU.keep fun k hk => Below.heap_setCell _ _ _ _ (fun e => by have h1 := (hus k hk).1; rw [show k = gO from e] at h1; omega)
      have hbN5 := below_put hbN4 gO 1 (slW su) hz2
      obtain ⟨Y5, hY5⟩ : ∃ Y5, Y.setCell ⟨gO, 1, none⟩ (slW su) = Y5 := ⟨_, rfl⟩
      rw [hY5] at hO5 hC5 hU5 hbN5
      have hZ6 := hZ1.below hbN5 (by omega)
      have hbw6 := hbw1.trans (hbN5.mono hbw1.size)
      have hR := hZ6.four (.int .i64 0) (slW su) (.int .i64 v) (slW (some ⟨gX, 0, none⟩, l.length, cap2))
      have HB : Hid (_) := below_put (below_put (below_put (below_put hbw6 (w.heap.size + 1) 0 (.int .i64 0) (by omega)) (w.heap.size + 1) 1 (slW su) (by omega)) (w.heap.size + 1) 2 (.int .i64 v) (by omega)) (w.heap.size + 1) 3 (slW (some ⟨gX, 0, none⟩, l.length, cap2)) (by omega)
      have hno : w.heap.size + 1 ∉ blkS (some ⟨gX, 0, none⟩, l.length, cap2) ++ fpX xs' := fun hc => by have := hC5.2.2.2 _ hc; omega
      have HC : Hid (_) := (((hC5.far (w.heap.size + 1) 0 (.int .i64 0) hno).far (w.heap.size + 1) 1 (slW su) hno).far (w.heap.size + 1) 2 (.int .i64 v) hno).far (w.heap.size + 1) 3 (slW (some ⟨gX, 0, none⟩, l.length, cap2)) hno
      have hnu : ∀ k ∈ blkS su, k ≠ w.heap.size + 1 := fun k hk => by have := (huo k hk).1; omega
      have HU : Hid (OwZ 2 ((((Y5.setCell ⟨w.heap.size + 1, 0, none⟩ (.int .i64 0)).setCell ⟨w.heap.size + 1, 1, none⟩ (slW su)).setCell ⟨w.heap.size + 1, 2, none⟩ (.int .i64 v)).setCell ⟨w.heap.size + 1, 3, none⟩ (slW (some ⟨gX, 0, none⟩, l.length, cap2))) su _) := hU5.keep fun k hk => by
        have hne := hnu k hk
        rw [Below.heap_setCell _ _ _ _ hne, Below.heap_setCell _ _ _ _ hne, Below.heap_setCell _ _ _ _ hne, Below.heap_setCell _ _ _ _ hne]
      obtain ⟨z0, z1, z2, z3⟩ := id hZ6.1
      have f0 := hZ6.2 0
      have f1 := hZ6.2 1
      have f2 := hZ6.2 2
      have f3 := hZ6.2 3
      obtain ⟨r0, r1, r2, r3⟩ := id hR.1
      obtain ⟨q0, q1, q2, q3⟩ := id hO5.1
      dsimp only at z0 z1 z2 z3 r0 r1 r2 r3 q0 q1 q2 q3
      (try dsimp only [slW] at q3)
      rw [← hY5] at HB HC HU z0 z1 z2 z3 f0 f1 f2 f3 r0 r1 r2 r3
      have HR1 : Hid (r.1 = 0 ∧ r.2.2.1 = v) := ⟨hr, HRV.out hr⟩
      clear hY5 hO5 hC5 hU5 hbN5 hR hZ6 hbw6 q0 q1 q2 q3 hr
      go_wp2
      refine bodyPost_ret (v := .agg #[.int .i64 0, slW su, .int .i64 v, .slice (some ⟨gX, 0, none⟩) l.length cap2]) (by simp [results, Tryz.results58, go_sem, r0, r1, r2, r3]) rfl ?_
      rw [HV'.out]
      exact .inr ⟨HR1.out.1, su, (some ⟨gX, 0, none⟩, l.length, cap2), xs', by rw [HR1.out.2], HU.out, CX.low HC.out hbw1.size, fun k hk => ⟨Nat.le_trans hbw1.size (huo k hk).1, (huo k hk).2⟩, HB.out⟩
end Go.Proofs.YtejbbnpgghpgaaaGreatDoor
