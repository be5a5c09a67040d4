/- The model: an op done, of the kind 7; no conditions beyond those that each fact names. -/
import Derived.Test.YtejbbnpgghpgaaaGreatDoorMdhToMdi
import Derived.Test.YtejbbnpgghpgaaaGreatDoorMsbToBxs
namespace Go.Proofs.YtejbbnpgghpgaaaGreatDoor
open Go.RowKit List
set_option linter.unusedVariables false
set_option maxHeartbeats 3200000 in
set_option maxRecDepth 100000 in
theorem l8Apply_7 (B : Nat) (v : Int) (s : SlQ) (xs0 : List Dx) (o : OpR) (p : SlO) (w : World) (hs : HX w s xs0) (hf : FtH xs0) (hG : GdS v (xs0.map Dx.bx)) (hQ : Qo w B (opQ o p)) (hI : o.u.length = p.1.2.1 ∧ RdI w p.1.1 o.u) (hIo : ∀ x, p.1.1 = some x → x.block < w.heap.size) (hul : o.u.length ≤ 6) (hk : o.k = 7) :
    Calls Tryz.prog 58 #[.agg #[.int .i64 v, slW s], .pointer (some ⟨B, 0, none⟩)] w fun e w' => SrEnd (if ixG (xs0.map Dx.bx).length (nmX (xs0.map Dx.bx) o.x) < 0 ∧ o.k ≠ 1 then badR 4 else kdR v (xs0.map Dx.bx) o (ixG (xs0.map Dx.bx).length (nmX (xs0.map Dx.bx) o.x))) w e w' := by
  obtain ⟨a, n, cap⟩ := s
  obtain ⟨⟨a', n', c'⟩, e, hl, hnc, hcm, -⟩ := row_form hs.1
  cases e
  dsimp only [slW] at hl hnc hcm ⊢
  replace hl := hl.symm
  rw [hl] at hnc
  unfold maxLen at hcm
  obtain ⟨l, hle⟩ : ∃ l, xs0.map Dx.bx = l := ⟨_, rfl⟩
  rw [hle] at hG ⊢
  have hln : l.length = n := by rw [← hle, List.length_map]; exact hl
  obtain ⟨W, hW⟩ : ∃ W, (w.alloc (.cells #[.int .i64 v, .slice a n cap] 33)).alloc (.cells #[.int .i64 0, .slice none 0 0, .int .i64 0, .slice none 0 0] 35) = W := ⟨_, rfl⟩
  have hbW : Below w.heap.size w W := by rw [← hW]; exact ((Below.refl _ _).alloc (Nat.le_refl _) _).alloc (by simp) _
  have hA : Dw W w.heap.size (.int .i64 v, .slice a n cap) := by
    rw [← hW]
    exact (Dw.new w (.int .i64 v) (.slice a n cap) 33).below ((Below.refl _ _).alloc (Nat.le_refl _) _) (by simp)
  have hZ : Qw W (w.heap.size + 1) (.int .i64 0, .slice none 0 0, .int .i64 0, .slice none 0 0) := by
    have h := Qw.new (w.alloc (.cells #[.int .i64 v, .slice a n cap] 33)) (.int .i64 0) (.slice none 0 0) (.int .i64 0) (.slice none 0 0) 35
    rw [hW] at h
    simpa using h
  have hzW : W.heap.size = w.heap.size + 2 := by rw [← hW]; simp
  have hBl := hQ.lt
  have hQ0 := hQ.below hbW hBl
  have HAT := l7At_any v l (a, n, cap) o.x w.heap.size (lo := 0) W (hle ▸ (hs.below hbW (Nat.le_refl _)).xs (fun _ _ => Nat.zero_le _)) hA.1
  have HCP : Hid (∀ W', Below w.heap.size w W' → Calls Tryz.prog 74 #[.agg #[.int .i64 v, .slice a n cap]] W' fun e w' => CpS v l W' e w') := fun W' hb => hle ▸ l7Copy_any v (a, n, cap) xs0 W' (hs.below hb (Nat.le_refl _)) hf
  have HIX : Hid (0 ≤ ixG l.length (nmX l o.x) → ∃ j : Nat, ixG l.length (nmX l o.x) = (j : Int) ∧ j < l.length) := fun h => by
    rcases ixG_cases l.length (nmX l o.x) with ⟨e, -⟩ | ⟨k, hk, e, -⟩
    · omega
    · exact ⟨k, e, hk⟩
  have HV4 : Hid (ixG l.length (nmX l o.x) < 0 → (if ixG l.length (nmX l o.x) < 0 ∧ o.k ≠ 1 then badR 4 else kdR v l o (ixG l.length (nmX l o.x))) = badR 4) := fun h => if_pos ⟨h, by rw [hk]; decide⟩
  have HV0 : Hid (¬ ixG l.length (nmX l o.x) < 0 → (if ixG l.length (nmX l o.x) < 0 ∧ o.k ≠ 1 then badR 4 else kdR v l o (ixG l.length (nmX l o.x))) = puR v l (ixG l.length (nmX l o.x)).toNat) := fun h => (if_neg (fun h' => h h'.1)).trans (by unfold kdR; rw [hk]; rfl)
  generalize (if ixG l.length (nmX l o.x) < 0 ∧ o.k ≠ 1 then badR 4 else kdR v l o (ixG l.length (nmX l o.x))) = rr at *
  obtain ⟨ok, ox, ot, ou, om, of, od, ob⟩ := o
  dsimp only at hk
  subst hk
  dsimp only [opQ, slW] at hQ0 HAT hI hul hQ HV4 HV0 HIX ⊢
  have HLN : Hid (_ = _) := hln
  have HW : Hid (_ = W) := hW
  obtain ⟨o0, o1, o2, o3, o4, o5, o6, o7⟩ := id hQ0
  dsimp only at o0 o1
  clear hW hs hle hl hln o2 o3 o4 o5 o6 o7
  go_enter Tryz.func58, Tryz.ntmps58
  have hW := HW.out
  go_wp2_with fail
  (try rw [hW])
  refine HAT.mono ?_
  rintro e W1 ⟨rfl, hb1⟩
  have hA1 := hA.below hb1 (by omega)
  have hQ1 := hQ0.below hb1 hQ0.lt
  have hZ1 := hZ.below hb1 (by omega)
  have hbw1 := hbW.trans (hb1.mono hbW.size)
  have hz1 : w.heap.size + 2 ≤ W1.heap.size := by rw [← hzW]; exact hb1.size
  clear HAT hA hQ0 hZ hbW hb1 HW hW hzW o0 o1
  obtain ⟨a0, a1⟩ := id hA1.1
  dsimp only at a0 a1
  by_cases h1 : ixG l.length (nmX l ox) < 0
  · have HV : Hid (rr = badR 4) := HV4.out h1
    clear HV4 HV0 HCP HIX
    go_wp2_with fail
    refine (l8Bad_any 4 W1).mono ?_
    rintro e Wb ⟨rfl, hbb⟩
    have hZb := hZ1.below hbb hZ1.lt
    have hbwb := hbw1.trans (hbb.mono hbw1.size)
    have hR := hZb.four (.int .i64 4) (.slice none 0 0) (.int .i64 0) (.slice none 0 0)
    have HB : Hid (_) := below_put (below_put (below_put (below_put hbwb (w.heap.size + 1) 0 (.int .i64 4) (by omega)) (w.heap.size + 1) 1 (.slice none 0 0) (by omega)) (w.heap.size + 1) 2 (.int .i64 0) (by omega)) (w.heap.size + 1) 3 (.slice none 0 0) (by omega)
    obtain ⟨z0, z1, z2, z3⟩ := id hZb.1
    have f0 := hZb.2 0
    have f1 := hZb.2 1
    have f2 := hZb.2 2
    have f3 := hZb.2 3
    obtain ⟨r0, r1, r2, r3⟩ := id hR.1
    dsimp only at z0 z1 z2 z3 r0 r1 r2 r3
    go_wp2
    refine bodyPost_ret (v := .agg #[.int .i64 4, .slice none 0 0, .int .i64 0, .slice none 0 0]) (by simp [results, Tryz.results58, go_sem, r0, r1, r2, r3]) rfl ?_
    rw [HV.out]
    exact .inl ⟨by decide, rfl, HB.out⟩
  · obtain ⟨i, hie, hi⟩ := HIX.out (by omega)
    rw [hie] at h1 HV0 ⊢
    have HV : Hid (_) := HV0.out (by omega)
    clear HV4 HV0 HIX
    go_wp2_with fail
    refine (HCP.out W1 hbw1).mono ?_
    rintro e W2 ⟨s2, xs, rfl, hC2, hb2⟩
    obtain ⟨a2, cap2, rfl, hxl, hlc, hcm2, ha2⟩ := hC2.form
    obtain ⟨gX, rfl⟩ : ∃ gX, a2 = some ⟨gX, 0, none⟩ := by
      rcases ha2 with ⟨-, h0⟩ | h0
      · rw [h0] at hi; simp at hi
      · exact h0
    unfold maxLen at hcm2
    dsimp only [slW]
    have hii : (i : Int) < (l.length : Int) := by omega
    have hb3 : Below W2.heap.size W2 (W2.alloc (.cells #[.int .i64 0, .slice none 0 0, .int .i64 v, .slice (some ⟨gX, 0, none⟩) l.length cap2] 35)) := (Below.refl _ _).alloc (Nat.le_refl _) _
    have hO3 := Qw.new W2 (.int .i64 0) (.slice none 0 0) (.int .i64 v) (.slice (some ⟨gX, 0, none⟩) l.length cap2) 35
    have hC3 := hC2.below hb3 (Nat.le_refl _)
    have hbN3 : Below W1.heap.size W1 (W2.alloc (.cells #[.int .i64 0, .slice none 0 0, .int .i64 v, .slice (some ⟨gX, 0, none⟩) l.length cap2] 35)) := hb2.trans (hb3.mono hb2.size)
    have hgO : W2.heap.size ∉ blkS ((some ⟨gX, 0, none⟩, l.length, cap2) : SlQ) ++ fpX xs := fun hc => absurd (hC2.1.lt _ hc) (Nat.lt_irrefl _)
    have hz2 := hb2.size
    have hQ3 := hQ1.below hbN3 (by omega)
    have k3 := hQ3.1
    dsimp only at k3
    clear HCP a0 a1 hC2 hb2 hb3 ha2 hA1
    go_wp2_with fail
    generalize W2.alloc (.cells #[.int .i64 0, .slice none 0 0, .int .i64 v, .slice (some ⟨gX, 0, none⟩) l.length cap2] 35) = W3 at *
    obtain ⟨gO, hgOe⟩ : ∃ gO, W2.heap.size = gO := ⟨_, rfl⟩
    rw [hgOe] at hO3 hgO hz2 ⊢
    clear hgOe
    have hBo : B ∉ blkS ((some ⟨gX, 0, none⟩, l.length, cap2) : SlQ) ++ fpX xs := fun hc => by have := hC3.2.2.2 B hc; omega
    have hIo3 : ∀ x, p.1.1 = some x → x.block < W3.heap.size ∧ x.block ∉ blkS ((some ⟨gX, 0, none⟩, l.length, cap2) : SlQ) ++ fpX xs := fun x hx => by
      have h1 := hIo x hx
      have h2 := hbN3.size
      exact ⟨by omega, fun hc => by have := hC3.2.2.2 _ hc; omega⟩
    have hI3 : ou.length = p.1.2.1 ∧ RdI W3 p.1.1 ou := ⟨hI.1, (hI.2.below hbw1).belowN (fun x hx => by have := hIo x hx; omega) hbN3⟩
    have hz3 := hbN3.size
    have hix : i < xs.length := by omega
    have hbx : nthX l i = xs[i].bx := (congrArg (fun l => nthX l i) hC3.2.1.symm).trans (map_nthX hix)
    obtain ⟨d, hd⟩ : ∃ d, xs[i] = d := ⟨_, rfl⟩
    rw [hd] at hbx
    have hGi := hG.2.2 _ (nthX_mem hi)
    have hd6 : d.ms.length ≤ 6 := by have := hGi.2.1; rw [hbx] at this; simpa [Dx.bx] using this
    have hgX : gX ∈ blkS ((some ⟨gX, 0, none⟩, l.length, cap2) : SlQ) := by simp [blkS]
    have hgXl := hC3.1.lt gX (List.mem_append_left _ hgX)
    have c3 : W3.cell? ⟨gX, i * 4 + 3, none⟩ = some (slW d.s) := by
      obtain ⟨g', eg, -, -, -, -, e3⟩ := hC3.1.row_at i hix
      cases eg
      rw [hd] at e3
      exact e3
    have hr3 := hC3.1.1
    rw [hxl] at hr3
    have HTK := l8Take_any gX (i * 4) d.s (none, 0, 0) d.ms [] 8 W3 (hd ▸ (hC3.box i hix).1) (by omega) hgXl c3 (hr3.frozenAt _) ⟨rfl, .inl rfl⟩ (by simp)
    refine HTK.mono ?_
    rintro e W5 ⟨so, sl, W4, rfl, rfl, hb4, hO4, hL4, hgo4, hgl4, -⟩
    obtain ⟨hCY, hmY, hKY⟩ := hC3.less i hix hb4 hz3 rfl d hd sl _ List.filter_sublist hL4 hgl4
    have hOso := row_keep hO4 (w' := W4.setCell ⟨gX, i * 4 + 3, none⟩ (slW sl)) fun g hg => Below.heap_setCell _ _ _ _ (fun e => by have := hgo4 g (mem_blkS.2 hg); rw [show g = gX from e] at this; omega)
    have hne : gX ≠ gO := fun e => hgO (List.mem_append_left _ (e ▸ hgX))
    have hlt3 := hO3.lt
    have hOY := (hO3.below hb4 hlt3).far gX (i * 4 + 3) (slW sl) hne
    have hbNY : Below W1.heap.size W1 (W4.setCell ⟨gX, i * 4 + 3, none⟩ (slW sl)) := hbN3.trans (hKY.belowN hz3 hC3.2.2.2)
    have hzY := hKY.size
    have hms : (nthX l i).m = d.ms.map Dm.m := by rw [hbx]; rfl
    have htk : ∀ x ∈ d.ms, tkM [] 8 x.m = delM x.m := fun x hx => tkM_del x.m (hGi.2.2 x.m (by rw [hms]; exact List.mem_map.2 ⟨x, hx, rfl⟩)).1
    have HGO : Hid ((d.ms.filter fun x => tkM [] 8 x.m).map (fun x => x.m.u) = ((nthX l i).m.filter delM).map Msg.u) := by
      show _ = _
      rw [hms, List.filter_map, List.map_map]
      exact congrArg _ (List.filter_congr htk)
    have HLE : Hid ((⟨d.n, d.v, d.x, (d.ms.filter fun x => !tkM [] 8 x.m).map Dm.m⟩ : Bx) = ⟨(nthX l i).n, (nthX l i).v, (nthX l i).x, (nthX l i).m.filter fun x => !delM x⟩) := by
      show _ = _
      rw [hms, List.filter_map, hbx]
      have e : (d.ms.filter fun x => !tkM [] 8 x.m) = d.ms.filter ((fun x => !delM x) ∘ Dm.m) := List.filter_congr fun x hx => by show (!tkM [] 8 x.m) = !delM x.m; rw [htk x hx]
      rw [e]
      rfl
    have hgl6 : (d.ms.filter fun x => tkM [] 8 x.m).length ≤ 6 := Nat.le_trans (List.length_filter_le _ _) hd6
    have hne2 : gO ∉ blkS ((some ⟨gX, 0, none⟩, l.length, cap2) : SlQ) ++ fpX (xs.set i ⟨d.n, d.v, d.x, sl, d.ms.filter fun x => !tkM [] 8 x.m⟩) := fun hc => by
      rcases hmY gO hc with h | h
      · exact hgO h
      · omega
    have hnso : ∀ g ∈ blkS so, g ≠ gO := fun g hg e => by have := hgo4 g hg; omega
    rw [HLE.out] at hCY
    clear HTK hb4 hO4 hL4 hgl4 hC3 hO3 hbN3 hQ3 c3 hr3 k3 htk hms hGi hI3 hIo3 hBo HLE hmY hgo4 hKY
    generalize (d.ms.filter fun x => tkM [] 8 x.m) = gone at *
    generalize (xs.set i ⟨d.n, d.v, d.x, sl, d.ms.filter fun x => !tkM [] 8 x.m⟩) = xs' at *
    generalize W4.setCell ⟨gX, i * 4 + 3, none⟩ (slW sl) = Y at *
    rw [List.length_map] at hOso
    obtain ⟨oa, oc, rfl, hoc1, hoc2⟩ : ∃ oa oc, so = (oa, gone.length, oc) ∧ gone.length ≤ oc ∧ oc ≤ maxLen := by
      obtain ⟨⟨a', n', c'⟩, e, h1, h2, h3, -⟩ := row_form hOso
      obtain ⟨b1, b2, b3⟩ := so
      cases e
      dsimp only at h1 h2 h3
      exact ⟨a', c', by rw [h1], by omega, h3⟩
    unfold maxLen at hoc2
    have hgOl := hOY.lt
    dsimp only [slW]
    go_wp2
    go_loopw [10] (fun y wr => ∃ (k : Nat) (su : SlQ), k ≤ gone.length ∧ y = .int .i64 k ∧ Qw wr gO (.int .i64 0, slW su, .int .i64 v, .slice (some ⟨gX, 0, none⟩) l.length cap2) ∧ OwZ 2 wr su ((gone.take k).map fun x => x.m.u) ∧ (∀ g ∈ blkS su, Y.heap.size ≤ g) ∧ Kx [gO] Y wr) (fun y _ => gone.length - (intV y).toNat)
    case atStart => exact ⟨0, (none, 0, 0), Nat.zero_le _, rfl, hOY, OwZ.nil _ _, fun g hg => by simp [blkS] at hg, Kx.refl _ _⟩
    case round =>
      obtain ⟨k, su, hk, rfl, hO, hU, hge, hK⟩ := hrel
      have hsoR := row_keep hOso (w' := wr) fun g hg => hK.block g (hOso.lt g hg).2 (by rw [List.mem_singleton]; exact hnso g (mem_blkS.2 hg))
      by_cases hkn : k < gone.length
      · have hki : (k : Int) < (gone.length : Int) := by omega
        obtain ⟨gm, rfl⟩ : ∃ gm, oa = some ⟨gm, 0, none⟩ := by
          obtain ⟨⟨a', n', c'⟩, e, h1, -, -, h4⟩ := row_form hOso
          cases e
          dsimp only at h4
          rcases h4 with ⟨-, h0⟩ | h0
          · omega
          · exact h0
        have HCEL : Hid (∀ W : World, Kx [gO] Y W → W.cell? ⟨gm, k * 4, none⟩ = some (.int .i64 gone[k].m.u)) := fun W hKW => by
          have hr := row_keep hOso (w' := W) fun g hg => hKW.block g (hOso.lt g hg).2 (by rw [List.mem_singleton]; exact hnso g (mem_blkS.2 hg))
          obtain ⟨-, c0, -⟩ := ownQ_cells hr k (by rw [List.length_map]; exact hkn)
          rw [map_nthQ hkn] at c0
          exact c0
        have HT : Hid ((gone.take (k + 1)).map (fun x => x.m.u) = (gone.take k).map (fun x => x.m.u) ++ [gone[k].m.u]) := by show _ = _; rw [List.take_succ_eq_append_getElem hkn, List.map_append]; rfl
        have hll : ((gone.take k).map fun x => x.m.u).length + 1 ≤ 1048576 := by rw [List.length_map, List.length_take]; omega
        obtain ⟨qn, hqn⟩ : ∃ qn, (gone.take (k + 1)).map (fun x => x.m.u) = qn := ⟨_, rfl⟩
        rw [hqn] at HT
        have HQN : Hid (_ = qn) := hqn
        clear hqn hsoR
        generalize ((gone.take k).map fun x => x.m.u) = qz at *
        generalize gone[k].m.u = z at *
        obtain ⟨ua, un, uc⟩ := su
        go_wp2_with fail
        have hbD : Below wr.heap.size wr wr.drew := (Below.refl _ _).drew
        have hO2 := hO.below hbD hO.lt
        have hU2 := hU.below hbD (Nat.le_refl _)
        have hK2 := hK.below hbD
        clear hO hU hK hbD
        refine wp_region_held_drew (S := fun w' => w'.cell? ⟨gm, k * 4, none⟩ = some (.int .i64 z)) (by kernel_rfl) ?hS1 (fun hHeld => ?_)
        case hS1 => exact HCEL.out _ hK2
        refine tk (i := 0) (v := ?_) rfl (Or.inl ⟨by rfl, ?hy2⟩) ?ty2
        case hy2 => (intro w5 hSw; go_simp; all_goals with_reducible rfl)
        simp only [Act.put, J1, J2, J4, J5, J6]
        refine tk (i := 2) (v := ?_) rfl (Or.inl ⟨by rfl, ?hy3⟩) ?ty3
        case hy3 => (intro w5 hSw; go_simp; all_goals with_reducible rfl)
        simp only [Act.put, J1, J2, J3, J4, J5, J6]
        refine tk (i := 3) (v := ?_) rfl (Or.inl ⟨by rfl, ?hy4⟩) ?ty4
        case hy4 => (intro w5 hSw; go_simp; all_goals with_reducible rfl)
        simp only [Act.put, J1, J2, J3, J4, J5, J6]
        refine tk (i := 4) (v := ?_) rfl (Or.inl ⟨by rfl, ?hy5⟩) ?ty5
        case hy5 => (intro w5 hSw; go_simp; all_goals with_reducible rfl)
        simp only [Act.put, J1, J2, J3, J4, J5, J6]
        refine tk (i := 5) (v := ?_) rfl (Or.inl ⟨by rfl, ?hy6⟩) ?ty6
        case hy6 => (intro w5 hSw; go_simp; all_goals with_reducible rfl)
        simp only [Act.put, J1, J2, J3, J4, J5, J6]
        refine tk (i := 6) (v := ?_) rfl (Or.inl ⟨by rfl, ?hy7⟩) ?ty7
        case hy7 => (intro w5 hSw; go_simp; all_goals with_reducible rfl)
        simp only [Act.put, J1, J2, J3, J4, J5, J6]
        generalize World.drew wr = Z at *
        refine wpAnyH_ready (rs := [1, 7]) (by kernel_rfl) (by simp) ?_
        refine AllReadyH.cons rfl (fun K hK => ?_) (AllReadyH.cons rfl (fun K hK => ?_) AllReadyH.nil)
        · have cL := hO2.1.2.1
          dsimp only [slW] at cL
          go_simp
          refine hK.out _ _ (HCEL.out _ hK2) (fun hHeld => ?_)
          clear hK K
          refine wpAnyH_ready (rs := [7]) (by kernel_rfl) (by simp) ?_
          refine AllReadyH.cons rfl (fun K hK => ?_) AllReadyH.nil
          have hb3 : Below Z.heap.size Z (Z.alloc (.cells #[.int .i64 z] 2)) := (Below.refl _ _).alloc (Nat.le_refl _) _
          have n3 : (Z.alloc (.cells #[.int .i64 z] 2)).cell? ⟨Z.heap.size, 0, none⟩ = some (.int .i64 z) := by simp
          have hO3 := hO2.below hb3 hO2.lt
          have hU3 := hU2.below hb3 (Nat.le_refl _)
          have hK3 := hK2.below hb3
          go_simp
          generalize World.alloc Z (.cells #[.int .i64 z] 2) = Z3 at *
          refine hK.out _ _ (HCEL.out _ hK3) (fun hHeld => ?_)
          clear hK K
          clear hO2 hU2 hK2 hb3
          refine wpAnyH_ready (rs := [8]) (by kernel_rfl) (by simp) ?_
          refine AllReadyH.cons rfl (fun K hK => ?_) AllReadyH.nil
          refine step1 rfl _ _ 25 2 rfl Tryz.underlying25 infoZ64 (ua, un, uc) qz (by rfl) hU3 Z.heap.size z (by rfl) n3 hll ?_
          intro s9 Y9 u9 hgr9 hloc9
          have hO9 := hO3.grown hgr9 (fun e => by have := hge gO (mem_blkS.2 e.symm); omega)
          have hK9 : Kx [gO] Y Y9 := hK3.grown hgr9 (fun g hg => .inr (hge g (mem_blkS.2 hg)))
          have hge9 : ∀ g ∈ blkS s9, Y.heap.size ≤ g := fun g hg => by
            rcases hloc9 with e | e
            · exact hge g (e ▸ hg)
            · rw [e, List.mem_singleton] at hg; rw [hg]; exact hK3.size
          refine hK.out _ _ (HCEL.out _ hK9) (fun hHeld => ?_)
          clear hK K
          clear hO3 hU3 hK3 hgr9 hloc9 n3
          refine tk (i := 9) (v := ?_) rfl (Or.inl ⟨by rfl, ?hy8⟩) ?ty8
          case hy8 => (intro w5 hSw; go_simp; all_goals with_reducible rfl)
          simp only [Act.put, J1, J2, J3, J4, J5, J6]
          have e1 := hO9.2 1
          have y1 := hO9.1.2.1
          dsimp only [slW] at y1
          refine wpAnyH_ready (rs := [10]) (by kernel_rfl) (by simp) ?_
          refine AllReadyH.cons rfl (fun K hK => ?_) AllReadyH.nil
          have hO10 := hO9.set1 (slW s9)
          have u10 : OwZ 2 (Y9.setCell ⟨gO, 1, none⟩ (slW s9)) s9 (qz ++ [z]) := u9.keep fun k hk => Below.heap_setCell _ _ _ _ (fun e => by have h1 := hge9 k hk; rw [show k = gO from e] at h1; omega)
          have hK10 := hK9.set gO 1 (slW s9) (.inl (by simp))
          go_simp
          generalize World.setCell Y9 ⟨gO, 1, none⟩ (slW s9) = Y10 at *
          refine hK.out _ _ (HCEL.out _ hK10) (fun hHeld => ?_)
          clear hK K
          refine wpAnyH_done (by kernel_rfl) ?_ _
          clear hHeld e1 y1 hO9 hK9 u9
          have HU10 : Hid (OwZ 2 Y10 s9 qn) := by rw [Hid, HT.out]; exact u10
          have HO10 : Hid (_) := hO10
          clear u10 hO10
          go_wp2
          go_roundw
          case rel => exact ⟨k + 1, s9, by omega, by go_num, HO10.out, by rw [HQN.out]; exact HU10.out, hge9, hK10⟩
          case measure => simp [intV, Go.RowKit.intOf]; omega
        · have hb3 : Below Z.heap.size Z (Z.alloc (.cells #[.int .i64 z] 2)) := (Below.refl _ _).alloc (Nat.le_refl _) _
          have n3 : (Z.alloc (.cells #[.int .i64 z] 2)).cell? ⟨Z.heap.size, 0, none⟩ = some (.int .i64 z) := by simp
          have hO3 := hO2.below hb3 hO2.lt
          have hU3 := hU2.below hb3 (Nat.le_refl _)
          have hK3 := hK2.below hb3
          go_simp
          generalize World.alloc Z (.cells #[.int .i64 z] 2) = Z3 at *
          refine hK.out _ _ (HCEL.out _ hK3) (fun hHeld => ?_)
          clear hK K
          clear hO2 hU2 hK2 hb3
          refine wpAnyH_ready (rs := [1]) (by kernel_rfl) (by simp) ?_
          refine AllReadyH.cons rfl (fun K hK => ?_) AllReadyH.nil
          have cL := hO3.1.2.1
          dsimp only [slW] at cL
          go_simp
          refine hK.out _ _ (HCEL.out _ hK3) (fun hHeld => ?_)
          clear hK K
          refine wpAnyH_ready (rs := [8]) (by kernel_rfl) (by simp) ?_
          refine AllReadyH.cons rfl (fun K hK => ?_) AllReadyH.nil
          refine step1 rfl _ _ 25 2 rfl Tryz.underlying25 infoZ64 (ua, un, uc) qz (by rfl) hU3 Z.heap.size z (by rfl) n3 hll ?_
          intro s9 Y9 u9 hgr9 hloc9
          have hO9 := hO3.grown hgr9 (fun e => by have := hge gO (mem_blkS.2 e.symm); omega)
          have hK9 : Kx [gO] Y Y9 := hK3.grown hgr9 (fun g hg => .inr (hge g (mem_blkS.2 hg)))
          have hge9 : ∀ g ∈ blkS s9, Y.heap.size ≤ g := fun g hg => by
            rcases hloc9 with e | e
            · exact hge g (e ▸ hg)
            · rw [e, List.mem_singleton] at hg; rw [hg]; exact hK3.size
          refine hK.out _ _ (HCEL.out _ hK9) (fun hHeld => ?_)
          clear hK K
          clear hO3 hU3 hK3 hgr9 hloc9 n3
          refine tk (i := 9) (v := ?_) rfl (Or.inl ⟨by rfl, ?hy9⟩) ?ty9
          case hy9 => (intro w5 hSw; go_simp; all_goals with_reducible rfl)
          simp only [Act.put, J1, J2, J3, J4, J5, J6]
          have e1 := hO9.2 1
          have y1 := hO9.1.2.1
          dsimp only [slW] at y1
          refine wpAnyH_ready (rs := [10]) (by kernel_rfl) (by simp) ?_
          refine AllReadyH.cons rfl (fun K hK => ?_) AllReadyH.nil
          have hO10 := hO9.set1 (slW s9)
          have u10 : OwZ 2 (Y9.setCell ⟨gO, 1, none⟩ (slW s9)) s9 (qz ++ [z]) := u9.keep fun k hk => Below.heap_setCell _ _ _ _ (fun e => by have h1 := hge9 k hk; rw [show k = gO from e] at h1; omega)
          have hK10 := hK9.set gO 1 (slW s9) (.inl (by simp))
          go_simp
          generalize World.setCell Y9 ⟨gO, 1, none⟩ (slW s9) = Y10 at *
          refine hK.out _ _ (HCEL.out _ hK10) (fun hHeld => ?_)
          clear hK K
          refine wpAnyH_done (by kernel_rfl) ?_ _
          clear hHeld e1 y1 hO9 hK9 u9
          have HU10 : Hid (OwZ 2 Y10 s9 qn) := by rw [Hid, HT.out]; exact u10
          have HO10 : Hid (_) := hO10
          clear u10 hO10
          go_wp2
          go_roundw
          case rel => exact ⟨k + 1, s9, by omega, by go_num, HO10.out, by rw [HQN.out]; exact HU10.out, hge9, hK10⟩
          case measure => simp [intV, Go.RowKit.intOf]; omega
      · have hki : ¬ (k : Int) < (gone.length : Int) := by omega
        obtain rfl : k = gone.length := by omega
        rw [List.take_length, HGO.out] at hU
        have hCW : CX W1.heap.size wr (some ⟨gX, 0, none⟩, l.length, cap2) _ xs' := ⟨hCY.1.keep fun g hg => hK.block g (hCY.1.lt g hg) (by rw [List.mem_singleton]; exact fun e => hne2 (e ▸ hg)), hCY.2⟩
        have hbNW : Below W1.heap.size W1 wr := hbNY.trans (hK.belowN hbNY.size (fun g hg => by rw [List.mem_singleton] at hg; omega))
        have huo : ∀ k ∈ blkS su, W1.heap.size ≤ k ∧ k ∉ blkS ((some ⟨gX, 0, none⟩, l.length, cap2) : SlQ) ++ fpX xs' := fun k hk => ⟨Nat.le_trans hbNY.size (hge k hk), fun hc => by have h1 := hCY.1.lt k hc; have h2 := hge k hk; omega⟩
        have hZ6 := hZ1.below hbNW (by omega)
        have hbw6 := hbw1.trans (hbNW.mono hbw1.size)
        have hR := hZ6.four (.int .i64 0) (slW su) (.int .i64 v) (slW ((some ⟨gX, 0, none⟩, l.length, cap2) : SlQ))
        have HB : Hid (_) := below_put (below_put (below_put (below_put hbw6 (w.heap.size + 1) 0 (.int .i64 0) (by omega)) (w.heap.size + 1) 1 (slW su) (by omega)) (w.heap.size + 1) 2 (.int .i64 v) (by omega)) (w.heap.size + 1) 3 (slW ((some ⟨gX, 0, none⟩, l.length, cap2) : SlQ)) (by omega)
        have hno : w.heap.size + 1 ∉ blkS ((some ⟨gX, 0, none⟩, l.length, cap2) : SlQ) ++ fpX xs' := fun hc => by have := hCW.2.2.2 _ hc; omega
        have HC : Hid (_) := (((hCW.far (w.heap.size + 1) 0 (.int .i64 0) hno).far (w.heap.size + 1) 1 (slW su) hno).far (w.heap.size + 1) 2 (.int .i64 v) hno).far (w.heap.size + 1) 3 (slW ((some ⟨gX, 0, none⟩, l.length, cap2) : SlQ)) hno
        have hnu : ∀ k ∈ blkS su, k ≠ w.heap.size + 1 := fun k hk => by have := (huo k hk).1; omega
        have HU : Hid (OwZ 2 ((((wr.setCell ⟨w.heap.size + 1, 0, none⟩ (.int .i64 0)).setCell ⟨w.heap.size + 1, 1, none⟩ (slW su)).setCell ⟨w.heap.size + 1, 2, none⟩ (.int .i64 v)).setCell ⟨w.heap.size + 1, 3, none⟩ (slW ((some ⟨gX, 0, none⟩, l.length, cap2) : SlQ))) su _) := hU.keep fun k hk => by
          have hne := hnu k hk
          rw [Below.heap_setCell _ _ _ _ hne, Below.heap_setCell _ _ _ _ hne, Below.heap_setCell _ _ _ _ hne, Below.heap_setCell _ _ _ _ hne]
        obtain ⟨z0, z1, z2, z3⟩ := id hZ6.1
        have f0 := hZ6.2 0
        have f1 := hZ6.2 1
        have f2 := hZ6.2 2
        have f3 := hZ6.2 3
        obtain ⟨r0, r1, r2, r3⟩ := id hR.1
        obtain ⟨q0, q1, q2, q3⟩ := id hO.1
        dsimp only at z0 z1 z2 z3 r0 r1 r2 r3 q0 q1 q2 q3
        (try dsimp only [slW] at q3)
        clear hO hCW hU hbNW hR hZ6 hbw6 hsoR
        go_wp2
        refine bodyPost_ret (v := .agg #[.int .i64 0, slW su, .int .i64 v, .slice (some ⟨gX, 0, none⟩) l.length cap2]) (by simp [results, Tryz.results58, go_sem, r0, r1, r2, r3]) rfl ?_
        rw [HV.out]
        exact .inr ⟨rfl, su, (some ⟨gX, 0, none⟩, l.length, cap2), _, rfl, HU.out, CX.low HC.out hbw1.size, fun k hk => ⟨Nat.le_trans hbw1.size (huo k hk).1, (huo k hk).2⟩, HB.out⟩
end Go.Proofs.YtejbbnpgghpgaaaGreatDoor
