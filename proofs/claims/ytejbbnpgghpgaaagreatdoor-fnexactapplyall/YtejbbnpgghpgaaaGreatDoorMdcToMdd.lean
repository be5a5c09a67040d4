/- The model: a mailbox is made; no conditions beyond those that each fact names · A store inside a result; a mailbox of a row put in place of another; no conditions beyond those that each fact names. -/
import Derived.Test.YtejbbnpgghpgaaaGreatDoorMdb
import Derived.Test.YtejbbnpgghpgaaaGreatDoorMsbToBxs
namespace Go.Proofs.YtejbbnpgghpgaaaGreatDoor
open Go.RowKit List
set_option linter.unusedVariables false
set_option maxHeartbeats 800000 in
theorem l8Bad_any (c : Int) (w : World) : Calls Tryz.prog 56 #[.int .i64 c] w fun e w' => e = .returned (.agg #[.int .i64 c, .slice none 0 0, .int .i64 0, .slice none 0 0]) ∧ Below w.heap.size w w' := by
  go_enter Tryz.func56, Tryz.ntmps56
  go_wp2
  refine bodyPost_ret (v := .agg #[.int .i64 c, .slice none 0 0, .int .i64 0, .slice none 0 0]) (by simp [results, Tryz.results56, go_sem]) rfl ?_
  exact ⟨rfl, (Below.refl _ _).alloc (Nat.le_refl _) _⟩
set_option maxHeartbeats 3200000 in
set_option maxRecDepth 100000 in
theorem l8Make_any (B : Nat) (v : Int) (s : SlQ) (xs0 : List Dx) (o : OpR) (p : SlO) (w : World) (hs : HX w s xs0) (hf : FtH xs0) (hv : 0 ≤ v ∧ v ≤ 1000) (hQ : Qo w B (opQ o p)) :
    Calls Tryz.prog 113 #[.agg #[.int .i64 v, slW s], .pointer (some ⟨B, 0, none⟩)] w fun e w' => SrEnd (mkR v (xs0.map Dx.bx) o.x (ixG (xs0.map Dx.bx).length (nmX (xs0.map Dx.bx) o.x))) w e w' := by
  obtain ⟨a, n, cap⟩ := s
  obtain ⟨⟨a', n', c'⟩, e, hl, hnc, hcm, -⟩ := row_form hs.1
  cases e
  dsimp only [slW] at hl hnc hcm ⊢
  replace hl := hl.symm
  rw [hl] at hnc
  unfold maxLen at hcm
  obtain ⟨l, hle⟩ : ∃ l, xs0.map Dx.bx = l := ⟨_, rfl⟩
  rw [hle]
  have hln : l.length = n := by rw [← hle, List.length_map]; exact hl
  obtain ⟨W, hW⟩ : ∃ W, (w.alloc (.cells #[.int .i64 v, .slice a n cap] 33)).alloc (.cells #[.int .i64 0, .slice none 0 0, .int .i64 0, .slice none 0 0] 35) = W := ⟨_, rfl⟩
  have hbW : Below w.heap.size w W := by rw [← hW]; exact ((Below.refl _ _).alloc (Nat.le_refl _) _).alloc (by simp) _
  have hA : Dw W w.heap.size (.int .i64 v, .slice a n cap) := by
    rw [← hW]
    exact (Dw.new w (.int .i64 v) (.slice a n cap) 33).below ((Below.refl _ _).alloc (Nat.le_refl _) _) (by simp)
  have hZ : Qw W (w.heap.size + 1) (.int .i64 0, .slice none 0 0, .int .i64 0, .slice none 0 0) := by
    have h := Qw.new (w.alloc (.cells #[.int .i64 v, .slice a n cap] 33)) (.int .i64 0) (.slice none 0 0) (.int .i64 0) (.slice none 0 0) 35
    rw [hW] at h
    simpa using h
  have hzW : W.heap.size = w.heap.size + 2 := by rw [← hW]; simp
  have hBl := hQ.lt
  have hQ0 := hQ.below hbW hBl
  have HAT := l7At_any v l (a, n, cap) o.x w.heap.size (lo := 0) W (hle ▸ (hs.below hbW (Nat.le_refl _)).xs (fun _ _ => Nat.zero_le _)) hA.1
  have HCP : Hid (∀ W', Below w.heap.size w W' → Calls Tryz.prog 74 #[.agg #[.int .i64 v, .slice a n cap]] W' fun e w' => CpS v l W' e w') := fun W' hb => hle ▸ l7Copy_any v (a, n, cap) xs0 W' (hs.below hb (Nat.le_refl _)) hf
  have HV6 : Hid (0 ≤ ixG l.length (nmX l o.x) → mkR v l o.x (ixG l.length (nmX l o.x)) = badR 6) := fun h => if_pos h
  have HV10 : Hid (¬ 0 ≤ ixG l.length (nmX l o.x) → (3 ≤ n ∨ 999 < v) → mkR v l o.x (ixG l.length (nmX l o.x)) = badR 10) := fun h h2 => (if_neg h).trans (if_pos (by rw [hln]; exact h2))
  have HV0 : Hid (¬ 0 ≤ ixG l.length (nmX l o.x) → ¬ (3 ≤ n ∨ 999 < v) → mkR v l o.x (ixG l.length (nmX l o.x)) = (0, [], v + 1, l ++ [⟨o.x, v, 1, []⟩])) := fun h h2 => (if_neg h).trans (if_neg (by rw [hln]; exact h2))
  generalize mkR v l o.x (ixG l.length (nmX l o.x)) = rr at *
  generalize ixG l.length (nmX l o.x) = pl at *
  obtain ⟨ok, ox, ot, ou, om, of, od, ob⟩ := o
  dsimp only [opQ, slW] at hQ0 HAT HV6 HV10 HV0
  have HLN : Hid (_ = _) := hln
  have HW : Hid (_ = W) := hW
  obtain ⟨o0, o1, o2, o3, o4, o5, o6, o7⟩ := id hQ0
  dsimp only at o1
  clear hW hs hle hl hln o0 o2 o3 o4 o5 o6 o7 hQ
  go_enter Tryz.func113, Tryz.ntmps113
  have hW := HW.out
  go_wp2_with fail
  (try rw [hW])
  refine HAT.mono ?_
  rintro e W1 ⟨rfl, hb1⟩
  have hA1 := hA.below hb1 (by omega)
  have hQ1 := hQ0.below hb1 hQ0.lt
  have hZ1 := hZ.below hb1 (by omega)
  have hbw1 := hbW.trans (hb1.mono hbW.size)
  have hz1 : w.heap.size + 2 ≤ W1.heap.size := by rw [← hzW]; exact hb1.size
  clear HAT hA hQ0 hZ hbW hb1 HW hW hzW o1
  obtain ⟨a0, a1⟩ := id hA1.1
  dsimp only at a0 a1
  by_cases h1 : 0 ≤ pl
  · have HV : Hid (rr = badR 6) := HV6.out h1
    clear HV6 HV10 HV0 HCP
    go_wp2_with fail
    refine (l8Bad_any 6 W1).mono ?_
    rintro e W2 ⟨rfl, hb2⟩
    have hZ2 := hZ1.below hb2 hZ1.lt
    have hbw2 := hbw1.trans (hb2.mono hbw1.size)
    have hR := hZ2.four (.int .i64 6) (.slice none 0 0) (.int .i64 0) (.slice none 0 0)
    have HB : Hid (_) := below_put (below_put (below_put (below_put hbw2 (w.heap.size + 1) 0 (.int .i64 6) (by omega)) (w.heap.size + 1) 1 (.slice none 0 0) (by omega)) (w.heap.size + 1) 2 (.int .i64 0) (by omega)) (w.heap.size + 1) 3 (.slice none 0 0) (by omega)
    obtain ⟨z0, z1, z2, z3⟩ := id hZ2.1
    have f0 := hZ2.2 0
    have f1 := hZ2.2 1
    have f2 := hZ2.2 2
    have f3 := hZ2.2 3
    obtain ⟨r0, r1, r2, r3⟩ := id hR.1
    dsimp only at z0 z1 z2 z3 r0 r1 r2 r3
    clear hA1 hQ1 hZ1 a0 a1
    go_wp2
    refine bodyPost_ret (v := .agg #[.int .i64 6, .slice none 0 0, .int .i64 0, .slice none 0 0]) (by simp [results, Tryz.results113, go_sem, r0, r1, r2, r3]) rfl ?_
    rw [HV.out]
    exact .inl ⟨by decide, rfl, HB.out⟩
  · by_cases h2 : 3 ≤ n
    · have h2' : (3 : Int) ≤ (n : Int) := by omega
      have HV : Hid (rr = badR 10) := HV10.out (by omega) (.inl h2)
      clear HV6 HV10 HV0 HCP
      go_wp2_with fail
      refine (l8Bad_any 10 W1).mono ?_
      rintro e W2 ⟨rfl, hb2⟩
      have hZ2 := hZ1.below hb2 hZ1.lt
      have hbw2 := hbw1.trans (hb2.mono hbw1.size)
      have hR := hZ2.four (.int .i64 10) (.slice none 0 0) (.int .i64 0) (.slice none 0 0)
      have HB : Hid (_) := below_put (below_put (below_put (below_put hbw2 (w.heap.size + 1) 0 (.int .i64 10) (by omega)) (w.heap.size + 1) 1 (.slice none 0 0) (by omega)) (w.heap.size + 1) 2 (.int .i64 0) (by omega)) (w.heap.size + 1) 3 (.slice none 0 0) (by omega)
      obtain ⟨z0, z1, z2, z3⟩ := id hZ2.1
      have f0 := hZ2.2 0
      have f1 := hZ2.2 1
      have f2 := hZ2.2 2
      have f3 := hZ2.2 3
      obtain ⟨r0, r1, r2, r3⟩ := id hR.1
      dsimp only at z0 z1 z2 z3 r0 r1 r2 r3
      clear hA1 hQ1 hZ1 a0 a1
      go_wp2
      refine bodyPost_ret (v := .agg #[.int .i64 10, .slice none 0 0, .int .i64 0, .slice none 0 0]) (by simp [results, Tryz.results113, go_sem, r0, r1, r2, r3]) rfl ?_
      rw [HV.out]
      exact .inl ⟨by decide, rfl, HB.out⟩
    · have h2' : ¬ (3 : Int) ≤ (n : Int) := by omega
      by_cases h3 : 999 < v
      · have h3' : 1000 ≤ v := by omega
        have HV : Hid (rr = badR 10) := HV10.out (by omega) (.inr h3)
        clear HV6 HV10 HV0 HCP
        go_wp2_with fail
        refine (l8Bad_any 10 W1).mono ?_
        rintro e W2 ⟨rfl, hb2⟩
        have hZ2 := hZ1.below hb2 hZ1.lt
        have hbw2 := hbw1.trans (hb2.mono hbw1.size)
        have hR := hZ2.four (.int .i64 10) (.slice none 0 0) (.int .i64 0) (.slice none 0 0)
        have HB : Hid (_) := below_put (below_put (below_put (below_put hbw2 (w.heap.size + 1) 0 (.int .i64 10) (by omega)) (w.heap.size + 1) 1 (.slice none 0 0) (by omega)) (w.heap.size + 1) 2 (.int .i64 0) (by omega)) (w.heap.size + 1) 3 (.slice none 0 0) (by omega)
        obtain ⟨z0, z1, z2, z3⟩ := id hZ2.1
        have f0 := hZ2.2 0
        have f1 := hZ2.2 1
        have f2 := hZ2.2 2
        have f3 := hZ2.2 3
        obtain ⟨r0, r1, r2, r3⟩ := id hR.1
        dsimp only at z0 z1 z2 z3 r0 r1 r2 r3
        clear hA1 hQ1 hZ1 a0 a1
        go_wp2
        refine bodyPost_ret (v := .agg #[.int .i64 10, .slice none 0 0, .int .i64 0, .slice none 0 0]) (by simp [results, Tryz.results113, go_sem, r0, r1, r2, r3]) rfl ?_
        rw [HV.out]
        exact .inl ⟨by decide, rfl, HB.out⟩
      · have h3' : ¬ 1000 ≤ v := by omega
        have HV : Hid (rr = (0, [], v + 1, l ++ [⟨ox, v, 1, []⟩])) := HV0.out (by omega) (fun h => h.elim h2 h3)
        clear HV6 HV10 HV0
        go_wp2_with fail
        refine (HCP.out W1 hbw1).mono ?_
        rintro e W2 ⟨⟨a2, n2, cap2⟩, xs, rfl, hC2, hb2⟩
        have hxl : xs.length < 3 := by obtain ⟨_, _, _, h, _⟩ := hC2.form; rw [h, HLN.out]; omega
        dsimp only [slW]
        have hb3 : Below W2.heap.size W2 (W2.alloc (.cells #[.int .i64 v, .slice a2 n2 cap2] 33)) := (Below.refl _ _).alloc (Nat.le_refl _) _
        have hS3 : Sh W1.heap.size (W2.alloc (.cells #[.int .i64 v, .slice a2 n2 cap2] 33)) W2.heap.size v l (a2, n2, cap2) xs := ⟨Dw.new W2 (.int .i64 v) (.slice a2 n2 cap2) 33, hC2.below hb3 (Nat.le_refl _), fun hc => absurd (hC2.1.lt _ hc) (Nat.lt_irrefl _), hb2.size⟩
        have hbN3 : Below W1.heap.size W1 (W2.alloc (.cells #[.int .i64 v, .slice a2 n2 cap2] 33)) := hb2.trans (hb3.mono hb2.size)
        have hz2 := hb2.size
        clear HCP a0 a1 hC2 hb2 hb3
        go_wp2_with fail
        generalize W2.alloc (.cells #[.int .i64 v, .slice a2 n2 cap2] 33) = W3 at *
        have hb4 : Below W3.heap.size W3 W3.drew := (Below.refl _ _).drew
        have hS := hS3.below hb4 (Nat.le_refl _)
        have hbN := hbN3.trans (hb4.mono hbN3.size)
        have hlt : ∀ g ∈ blkS ((a2, n2, cap2) : SlQ), W1.heap.size ≤ g := fun g hg => hS.2.1.2.2.2 g (List.mem_append_left _ hg)
        obtain ⟨gs, hgs⟩ : ∃ gs, W2.heap.size = gs := ⟨_, rfl⟩
        rw [hgs] at hS hz2 ⊢
        clear hS3 hb4 hbN3 hgs
        refine wp_region_held_drew (S := fun w' => w'.cell? ⟨B, 1, none⟩ = some (.string ox) ∧ w'.cell? ⟨w.heap.size, 0, none⟩ = some (.int .i64 v)) (by kernel_rfl) ?hS1 (fun hHeld => ?_)
        case hS1 => exact ⟨(hQ1.below hbN (by omega)).2.1, (hA1.below hbN (by omega)).1.1⟩
        refine tk (i := 0) (v := ?_) rfl (Or.inl ⟨by rfl, ?hy2⟩) ?ty2
        case hy2 => (intro w5 hSw; obtain ⟨p0, p1⟩ := hSw; go_simp; all_goals with_reducible rfl)
        simp only [Act.put, J1, J2, J4, J5, J6]
        refine tk (i := 2) (v := ?_) rfl (Or.inl ⟨by rfl, ?hy3⟩) ?ty3
        case hy3 => (intro w5 hSw; obtain ⟨p0, p1⟩ := hSw; go_simp; all_goals with_reducible rfl)
        simp only [Act.put, J1, J2, J3, J4, J5, J6]
        refine tk (i := 3) (v := ?_) rfl (Or.inl ⟨by rfl, ?hy4⟩) ?ty4
        case hy4 => (intro w5 hSw; obtain ⟨p0, p1⟩ := hSw; go_simp; all_goals with_reducible rfl)
        simp only [Act.put, J1, J2, J3, J4, J5, J6]
        refine tk (i := 4) (v := ?_) rfl (Or.inl ⟨by rfl, ?hy5⟩) ?ty5
        case hy5 => (intro w5 hSw; obtain ⟨p0, p1⟩ := hSw; go_simp; all_goals with_reducible rfl)
        simp only [Act.put, J1, J2, J3, J4, J5, J6]
        refine tk (i := 5) (v := ?_) rfl (Or.inl ⟨by rfl, ?hy6⟩) ?ty6
        case hy6 => (intro w5 hSw; obtain ⟨p0, p1⟩ := hSw; go_simp; all_goals with_reducible rfl)
        simp only [Act.put, J1, J2, J3, J4, J5, J6]
        refine tk (i := 6) (v := ?_) rfl (Or.inl ⟨by rfl, ?hy7⟩) ?ty7
        case hy7 => (intro w5 hSw; obtain ⟨p0, p1⟩ := hSw; go_simp; all_goals with_reducible rfl)
        simp only [Act.put, J1, J2, J3, J4, J5, J6]
        refine tk (i := 7) (v := ?_) rfl (Or.inl ⟨by rfl, ?hy8⟩) ?ty8
        case hy8 => (intro w5 hSw; obtain ⟨p0, p1⟩ := hSw; go_simp; all_goals with_reducible rfl)
        simp only [Act.put, J1, J2, J3, J4, J5, J6]
        refine tk (i := 8) (v := ?_) rfl (Or.inl ⟨by rfl, ?hy9⟩) ?ty9
        case hy9 => (intro w5 hSw; obtain ⟨p0, p1⟩ := hSw; go_simp; all_goals with_reducible rfl)
        simp only [Act.put, J1, J2, J3, J4, J5, J6]
        generalize World.drew W3 = Y0 at *
        refine wpAnyH_ready (rs := [1, 9]) (by kernel_rfl) (by simp) ?_
        refine AllReadyH.cons rfl (fun K hK => ?_) (AllReadyH.cons rfl (fun K hK => ?_) AllReadyH.nil)
        · have cL := hS.1.1.2
          dsimp only [slW] at cL
          go_simp
          refine hK.out _ _ ⟨(hQ1.below hbN (by omega)).2.1, (hA1.below hbN (by omega)).1.1⟩ (fun hHeld => ?_)
          clear hK K
          refine wpAnyH_ready (rs := [9]) (by kernel_rfl) (by simp) ?_
          refine AllReadyH.cons rfl (fun K hK => ?_) AllReadyH.nil
          have hb3 : Below Y0.heap.size Y0 (Y0.alloc (.cells #[.string ox, .int .i64 v, .int .i64 1, .slice none 0 0] 128)) := (Below.refl _ _).alloc (Nat.le_refl _) _
          have hQ3 := Qc.new Y0 (.string ox) (.int .i64 v) (.int .i64 1) (.slice none 0 0) 128
          have hS3 := hS.below hb3 (Nat.le_refl _)
          have hbN3 := hbN.trans (hb3.mono hbN.size)
          go_simp
          generalize World.alloc Y0 (.cells #[.string ox, .int .i64 v, .int .i64 1, .slice none 0 0] 128) = Y3 at *
          refine hK.out _ _ ⟨(hQ1.below hbN3 (by omega)).2.1, (hA1.below hbN3 (by omega)).1.1⟩ (fun hHeld => ?_)
          clear hK K
          clear hS hbN hb3
          refine wpAnyH_ready (rs := [10]) (by kernel_rfl) (by simp) ?_
          refine AllReadyH.cons rfl (fun K hK => ?_) AllReadyH.nil
          refine step4 rfl _ _ 31 128 rfl _ 56 rfl (by decide) Tryz.underlying31 infoBox (a2, n2, cap2) (xs.map Dx.q) (by rfl) (by rw [List.length_map]; exact hS3.2.1.1.1) Y0.heap.size (Dx.q ⟨ox, v, 1, (none, 0, 0), []⟩) (by rfl) hQ3 (Dx.one _) (by rw [List.length_map]; omega) ?_
          intro s2 Y4 hrow hgr hloc
          have hD4 := hS3.1.grown hgr (fun e => hS3.2.2.1 (List.mem_append_left _ (mem_blkS.2 e.symm)))
          have hbN4 : Below W1.heap.size W1 Y4 := hbN3.grown hgr hbN3.size (fun g hg => hlt g (mem_blkS.2 hg))
          refine hK.out _ _ ⟨(hQ1.below hbN4 (by omega)).2.1, (hA1.below hbN4 (by omega)).1.1⟩ (fun hHeld => ?_)
          clear hK K
          refine tk (i := 11) (v := ?_) rfl (Or.inl ⟨by rfl, ?hy11⟩) ?ty11
          case hy11 => (intro w5 hSw; obtain ⟨p0, p1⟩ := hSw; go_simp; all_goals with_reducible rfl)
          simp only [Act.put, J1, J2, J3, J4, J5, J6]
          have fz1 := hD4.2 1
          have cS := hD4.1.2
          dsimp only [slW] at cS
          refine wpAnyH_ready (rs := [12]) (by kernel_rfl) (by simp) ?_
          refine AllReadyH.cons rfl (fun K hK => ?_) AllReadyH.nil
          have hS5 := hS3.made ox hrow hgr hloc
          have hbN5 := below_put hbN4 gs 1 (slW s2) hS3.2.2.2
          go_simp
          generalize World.setCell Y4 ⟨gs, 1, none⟩ (slW s2) = Y5 at *
          refine hK.out _ _ ⟨(hQ1.below hbN5 (by omega)).2.1, (hA1.below hbN5 (by omega)).1.1⟩ (fun hHeld => ?_)
          clear hK K
          refine wpAnyH_done (by kernel_rfl) ?_ _
          clear hHeld fz1 cS hD4 hbN4 hrow hgr hloc hS3 hbN3
          have fz0 := hS5.1.2 0
          have c0 := hS5.1.1.1
          have v0 := (hA1.below hbN5 (by omega)).1.1
          dsimp only at c0 v0
          have hS6 := hS5.val (v + 1)
          have hbN6 := below_put hbN5 gs 0 (.int .i64 (v + 1)) hS5.2.2.2
          clear hS5
          obtain ⟨Y6, hY6⟩ : ∃ Y6, World.setCell Y5 ⟨gs, 0, none⟩ (.int .i64 (v + 1)) = Y6 := ⟨_, rfl⟩
          rw [hY6] at hS6 hbN6
          have hZ6 := hZ1.below hbN6 (by omega)
          have hbw6 := hbw1.trans (hbN6.mono hbw1.size)
          obtain ⟨c0, c1⟩ := id hS6.1.1
          have hR := hZ6.four (.int .i64 0) (.slice none 0 0) (.int .i64 (v + 1)) (slW s2)
          have HB : Hid (_) := below_put (below_put (below_put (below_put hbw6 (w.heap.size + 1) 0 (.int .i64 0) (by omega)) (w.heap.size + 1) 1 (.slice none 0 0) (by omega)) (w.heap.size + 1) 2 (.int .i64 (v + 1)) (by omega)) (w.heap.size + 1) 3 (slW s2) (by omega)
          have hno : w.heap.size + 1 ∉ blkS s2 ++ fpX (xs ++ [⟨ox, v, 1, (none, 0, 0), []⟩]) := fun hc => by have := hS6.2.1.2.2.2 _ hc; omega
          have HC : Hid (_) := (((hS6.2.1.far (w.heap.size + 1) 0 (.int .i64 0) hno).far (w.heap.size + 1) 1 (.slice none 0 0) hno).far (w.heap.size + 1) 2 (.int .i64 (v + 1)) hno).far (w.heap.size + 1) 3 (slW s2) hno
          obtain ⟨z0, z1, z2, z3⟩ := id hZ6.1
          have f0 := hZ6.2 0
          have f1 := hZ6.2 1
          have f2 := hZ6.2 2
          have f3 := hZ6.2 3
          obtain ⟨r0, r1, r2, r3⟩ := id hR.1
          dsimp only at c0 c1 z0 z1 z2 z3 r0 r1 r2 r3
          clear hS6 hZ6 hR hbN6
          clear hbN5
          rw [← hY6] at HB HC c0 c1 z0 z1 z2 z3 f0 f1 f2 f3 r0 r1 r2 r3
          clear hY6
          go_wp2
          refine bodyPost_ret (v := .agg #[.int .i64 0, .slice none 0 0, .int .i64 (v + 1), slW s2]) (by simp [results, Tryz.results113, go_sem, r0, r1, r2, r3]) rfl ?_
          rw [HV.out]
          exact .inr ⟨rfl, (none, 0, 0), s2, _, rfl, OwZ.nil _ _, CX.low HC.out hbw1.size, fun g hg => by simp [blkS] at hg, HB.out⟩
        · have hb3 : Below Y0.heap.size Y0 (Y0.alloc (.cells #[.string ox, .int .i64 v, .int .i64 1, .slice none 0 0] 128)) := (Below.refl _ _).alloc (Nat.le_refl _) _
          have hQ3 := Qc.new Y0 (.string ox) (.int .i64 v) (.int .i64 1) (.slice none 0 0) 128
          have hS3 := hS.below hb3 (Nat.le_refl _)
          have hbN3 := hbN.trans (hb3.mono hbN.size)
          go_simp
          generalize World.alloc Y0 (.cells #[.string ox, .int .i64 v, .int .i64 1, .slice none 0 0] 128) = Y3 at *
          refine hK.out _ _ ⟨(hQ1.below hbN3 (by omega)).2.1, (hA1.below hbN3 (by omega)).1.1⟩ (fun hHeld => ?_)
          clear hK K
          clear hS hbN hb3
          refine wpAnyH_ready (rs := [1]) (by kernel_rfl) (by simp) ?_
          refine AllReadyH.cons rfl (fun K hK => ?_) AllReadyH.nil
          have cL := hS3.1.1.2
          dsimp only [slW] at cL
          go_simp
          refine hK.out _ _ ⟨(hQ1.below hbN3 (by omega)).2.1, (hA1.below hbN3 (by omega)).1.1⟩ (fun hHeld => ?_)
          clear hK K
          refine wpAnyH_ready (rs := [10]) (by kernel_rfl) (by simp) ?_
          refine AllReadyH.cons rfl (fun K hK => ?_) AllReadyH.nil
          refine step4 rfl _ _ 31 128 rfl _ 56 rfl (by decide) Tryz.underlying31 infoBox (a2, n2, cap2) (xs.map Dx.q) (by rfl) (by rw [List.length_map]; exact hS3.2.1.1.1) Y0.heap.size (Dx.q ⟨ox, v, 1, (none, 0, 0), []⟩) (by rfl) hQ3 (Dx.one _) (by rw [List.length_map]; omega) ?_
          intro s2 Y4 hrow hgr hloc
          have hD4 := hS3.1.grown hgr (fun e => hS3.2.2.1 (List.mem_append_left _ (mem_blkS.2 e.symm)))
          have hbN4 : Below W1.heap.size W1 Y4 := hbN3.grown hgr hbN3.size (fun g hg => hlt g (mem_blkS.2 hg))
          refine hK.out _ _ ⟨(hQ1.below hbN4 (by omega)).2.1, (hA1.below hbN4 (by omega)).1.1⟩ (fun hHeld => ?_)
          clear hK K
          refine tk (i := 11) (v := ?_) rfl (Or.inl ⟨by rfl, ?hy12⟩) ?ty12
          case hy12 => (intro w5 hSw; obtain ⟨p0, p1⟩ := hSw; go_simp; all_goals with_reducible rfl)
          simp only [Act.put, J1, J2, J3, J4, J5, J6]
          have fz1 := hD4.2 1
          have cS := hD4.1.2
          dsimp only [slW] at cS
          refine wpAnyH_ready (rs := [12]) (by kernel_rfl) (by simp) ?_
          refine AllReadyH.cons rfl (fun K hK => ?_) AllReadyH.nil
          have hS5 := hS3.made ox hrow hgr hloc
          have hbN5 := below_put hbN4 gs 1 (slW s2) hS3.2.2.2
          go_simp
          generalize World.setCell Y4 ⟨gs, 1, none⟩ (slW s2) = Y5 at *
          refine hK.out _ _ ⟨(hQ1.below hbN5 (by omega)).2.1, (hA1.below hbN5 (by omega)).1.1⟩ (fun hHeld => ?_)
          clear hK K
          refine wpAnyH_done (by kernel_rfl) ?_ _
          clear hHeld fz1 cS hD4 hbN4 hrow hgr hloc hS3 hbN3
          have fz0 := hS5.1.2 0
          have c0 := hS5.1.1.1
          have v0 := (hA1.below hbN5 (by omega)).1.1
          dsimp only at c0 v0
          have hS6 := hS5.val (v + 1)
          have hbN6 := below_put hbN5 gs 0 (.int .i64 (v + 1)) hS5.2.2.2
          clear hS5
          obtain ⟨Y6, hY6⟩ : ∃ Y6, World.setCell Y5 ⟨gs, 0, none⟩ (.int .i64 (v + 1)) = Y6 := ⟨_, rfl⟩
          rw [hY6] at hS6 hbN6
          have hZ6 := hZ1.below hbN6 (by omega)
          have hbw6 := hbw1.trans (hbN6.mono hbw1.size)
          obtain ⟨c0, c1⟩ := id hS6.1.1
          have hR := hZ6.four (.int .i64 0) (.slice none 0 0) (.int .i64 (v + 1)) (slW s2)
          have HB : Hid (_) := below_put (below_put (below_put (below_put hbw6 (w.heap.size + 1) 0 (.int .i64 0) (by omega)) (w.heap.size + 1) 1 (.slice none 0 0) (by omega)) (w.heap.size + 1) 2 (.int .i64 (v + 1)) (by omega)) (w.heap.size + 1) 3 (slW s2) (by omega)
          have hno : w.heap.size + 1 ∉ blkS s2 ++ fpX (xs ++ [⟨ox, v, 1, (none, 0, 0), []⟩]) := fun hc => by have := hS6.2.1.2.2.2 _ hc; omega
          have HC : Hid (_) := (((hS6.2.1.far (w.heap.size + 1) 0 (.int .i64 0) hno).far (w.heap.size + 1) 1 (.slice none 0 0) hno).far (w.heap.size + 1) 2 (.int .i64 (v + 1)) hno).far (w.heap.size + 1) 3 (slW s2) hno
          obtain ⟨z0, z1, z2, z3⟩ := id hZ6.1
          have f0 := hZ6.2 0
          have f1 := hZ6.2 1
          have f2 := hZ6.2 2
          have f3 := hZ6.2 3
          obtain ⟨r0, r1, r2, r3⟩ := id hR.1
          dsimp only at c0 c1 z0 z1 z2 z3 r0 r1 r2 r3
          clear hS6 hZ6 hR hbN6
          clear hbN5
          rw [← hY6] at HB HC c0 c1 z0 z1 z2 z3 f0 f1 f2 f3 r0 r1 r2 r3
          clear hY6
          go_wp2
          refine bodyPost_ret (v := .agg #[.int .i64 0, .slice none 0 0, .int .i64 (v + 1), slW s2]) (by simp [results, Tryz.results113, go_sem, r0, r1, r2, r3]) rfl ?_
          rw [HV.out]
          exact .inr ⟨rfl, (none, 0, 0), s2, _, rfl, OwZ.nil _ _, CX.low HC.out hbw1.size, fun g hg => by simp [blkS] at hg, HB.out⟩
end Go.Proofs.YtejbbnpgghpgaaaGreatDoor
namespace Go.Proofs.YtejbbnpgghpgaaaGreatDoor
open Go.RowKit
set_option linter.unusedVariables false
set_option maxHeartbeats 1600000 in
set_option maxRecDepth 100000 in
theorem l7At2_any (l : List Bx) (s : SlQ) (nm : ByteArray) (g0 : Nat) {lo : Nat} (w : World) (hs : IsXs lo w s l) (hD : w.cell? ⟨g0, 3, none⟩ = some (slW s)) (hgl : g0 < w.heap.size) :
    Calls Tryz.prog 114 #[.pointer (some ⟨g0, 2, none⟩), .string nm] w fun e w' => e = .returned (.int .i64 (ixG l.length (nmX l nm))) ∧ Below w.heap.size w w' := by
  obtain ⟨a, n, cap⟩ := s
  obtain ⟨hl, hnc, hcm, hr⟩ := hs
  dsimp only [slW] at *
  unfold maxLen at hcm
  rw [hl]
  go_enter Tryz.func114, Tryz.ntmps114
  go_wp2
  go_loopw [5] (fun i wr => ∃ k : Nat, k ≤ n ∧ i = .int .i64 k ∧ (∀ j, j < k → nmX l nm j = false) ∧ Below w.heap.size w wr) (fun i _ => n - (intOf i).toNat)
  case atStart => exact ⟨0, Nat.zero_le _, rfl, fun j hj => absurd hj (Nat.not_lt_zero _), Below.refl _ _⟩
  case round =>
    obtain ⟨k, hk, rfl, hall, hbel⟩ := hrel
    have d1 := (World.cell?_of_block (hbel.block g0 hgl)).trans hD
    by_cases hkn : k < n
    · have hki : (k : Int) < (n : Int) := by omega
      obtain ⟨g, off, rfl, -, hglt, hcell⟩ := (hr.below hbel).at_ (by omega)
      obtain ⟨q, ⟨c0, -, -, -⟩, -⟩ := hcell k (by omega)
      have HY : Hid ((nthX l k).n = nm → ixG n (nmX l nm) = (k : Int)) := fun h => ixG_at hkn (decide_eq_true h) hall
      have HN : Hid ((nthX l k).n ≠ nm → ∀ j, j < k + 1 → nmX l nm j = false) := fun h j hj => by
        rcases Nat.lt_or_ge j k with h' | h'
        · exact hall j h'
        · obtain rfl : j = k := by omega
          exact decide_eq_false h
      clear hall hcell
      generalize (nthX l k).n = yn at *
      by_cases h : yn = nm
      · have HM : Hid (ixG n (nmX l nm) = (k : Int)) := HY.out h
        clear HY HN
        subst h
        go_wp2
        go_ret
        rw [HM.out]
        exact ⟨rfl, hbel⟩
      · have HM : Hid (_) := HN.out h
        have h' : (yn.toList == nm.toList) = false := by simpa using toList_ne h
        clear HY HN
        go_wp2
        go_roundw
        case rel => exact ⟨k + 1, by omega, by go_num, HM.out, hbel⟩
        case measure => simp [intOf]; omega
    · have hki : ¬ (k : Int) < (n : Int) := by omega
      have HM : Hid (ixG n (nmX l nm) = -1) := ixG_no (fun i hi => hall i (by omega))
      clear hall
      go_wp2
      go_ret
      rw [HM.out]
      exact ⟨rfl, hbel⟩
theorem nd_swap {α : Type} {f : α → List Nat} {l : List α} {i : Nat} {d : α} {A : List Nat} (hi : i < l.length) (h : (A ++ l.flatMap f).Nodup) (hd : (f d).Nodup) (hf : ∀ g ∈ f d, g ∉ A ++ l.flatMap f) : (A ++ (l.set i d).flatMap f).Nodup := by
  rw [flat_set f l i d hi]
  rw [flat_split f l i hi] at h hf
  have hA := nd_left h
  have hR := nd_right h
  have h1 := nd_left hR
  have h2 := nd_right hR
  have h3 := nd_right h2
  refine nd_app hA (nd_app h1 (nd_app hd h3 ?_) ?_) ?_
  · intro g hg hc
    exact hf g hg (by simp [hc])
  · intro g hg hc
    rcases List.mem_append.1 hc with hc | hc
    · exact hf g hc (by simp [hg])
    · exact nd_off hR hg (List.mem_append_right _ hc)
  · intro g hg hc
    rcases List.mem_append.1 hc with hc | hc
    · exact nd_off h hg (List.mem_append_left _ hc)
    · rcases List.mem_append.1 hc with hc | hc
      · exact hf g hc (by simp [hg])
      · exact nd_off h hg (List.mem_append_right _ (List.mem_append_right _ hc))
theorem CX.swap4 {N : Nat} {W : World} {s : SlQ} {l : List Bx} {xs : List Dx} (h : CX N W s l xs) (i : Nat) (hi : i < xs.length) {g n cap : Nat} (hs : s = (some ⟨g, 0, none⟩, n, cap)) (d' : Dx) (hd : HM W d'.s d'.ms) (hdn : (fpD d').Nodup) (hf : ∀ k ∈ fpD d', k ∉ blkS s ++ fpX xs) (hge : ∀ k ∈ fpD d', N ≤ k) :
    CX N ((((W.setCell ⟨g, i * 4, none⟩ (.string d'.n)).setCell ⟨g, i * 4 + 1, none⟩ (.int .i64 d'.v)).setCell ⟨g, i * 4 + 2, none⟩ (.int .i64 d'.x)).setCell ⟨g, i * 4 + 3, none⟩ (slW d'.s)) s (l.set i d'.bx) (xs.set i d') := by
  subst hs
  have hgs : g ∈ blkS ((some ⟨g, 0, none⟩, n, cap) : SlQ) := by simp [blkS]
  have hr0 := h.1.1
  obtain ⟨⟨a', n', c'⟩, e, h2, -⟩ := row_form hr0
  cases e
  dsimp only at h2
  subst h2
  have hil : i < (xs.map Dx.q).length := by rw [List.length_map]; exact hi
  have hr1 := row_set0 hr0 hil (.string d'.n)
  have hr2 := row_set1 hr1 (i := i) (by rw [List.length_set]; exact hil) (.int .i64 d'.v)
  rw [nthQ_set hil, List.set_set] at hr2
  have hr3 := row_set2 hr2 (i := i) (by rw [List.length_set]; exact hil) (.int .i64 d'.x)
  rw [nthQ_set hil, List.set_set] at hr3
  have hr4 := row_set3 hr3 (i := i) (by rw [List.length_set]; exact hil) (slW d'.s)
  rw [nthQ_set hil, List.set_set] at hr4
  have hblk : ∀ k, k ≠ g → ((((W.setCell ⟨g, i * 4, none⟩ (.string d'.n)).setCell ⟨g, i * 4 + 1, none⟩ (.int .i64 d'.v)).setCell ⟨g, i * 4 + 2, none⟩ (.int .i64 d'.x)).setCell ⟨g, i * 4 + 3, none⟩ (slW d'.s)).heap[k]? = W.heap[k]? := fun k hne => by
    rw [Below.heap_setCell _ _ _ _ hne, Below.heap_setCell _ _ _ _ hne, Below.heap_setCell _ _ _ _ hne, Below.heap_setCell _ _ _ _ hne]
  have hHM := hd.keep (w' := ((((W.setCell ⟨g, i * 4, none⟩ (.string d'.n)).setCell ⟨g, i * 4 + 1, none⟩ (.int .i64 d'.v)).setCell ⟨g, i * 4 + 2, none⟩ (.int .i64 d'.x)).setCell ⟨g, i * 4 + 3, none⟩ (slW d'.s))) fun k hk => hblk k (fun e => hf k hk (List.mem_append_left _ (e ▸ hgs)))
  refine ⟨h.1.upd i d' hr4 hHM (fun j hj hne k hk => hblk k (fun e => h.off j hj hgs (e ▸ hk))), by rw [List.map_set, h.2.1], nd_swap hi h.2.2.1 hdn hf, fun k hk => ?_⟩
  rcases List.mem_append.1 hk with hk | hk
  · exact h.2.2.2 k (List.mem_append_left _ hk)
  · rcases flat_mem_set hi hk with hk | hk
    · exact h.2.2.2 k (List.mem_append_right _ hk)
    · exact hge k hk
theorem and0 (f : Int) (h : 0 ≤ f ∧ f ≤ 15) : bits .and .i64 f 0 = 0 := by
  obtain ⟨k, rfl⟩ : ∃ k : Nat, f = (k : Int) := ⟨f.toNat, by omega⟩
  have : ∀ k : Nat, k < 16 → bits .and .i64 (k : Int) 0 = 0 := by decide +kernel
  exact this k (by omega)
theorem tkM_none (us : List Int) (m : Msg) (h : 0 ≤ m.f ∧ m.f ≤ 15) : tkM us 0 m = hasZ us m.u := by
  unfold tkM
  rw [and0 _ h]
  simp
theorem tkM_del (m : Msg) (h : 0 ≤ m.f ∧ m.f ≤ 15) : tkM [] 8 m = delM m := by
  unfold tkM delM
  rw [and8 _ h]
  by_cases h8 : 8 ≤ m.f
  · rw [if_pos h8]; simp [hasZ, h8]
  · rw [if_neg h8]; simp [hasZ, h8]
end Go.Proofs.YtejbbnpgghpgaaaGreatDoor
