/- An op done to a store: the program's ApplyOp; no conditions beyond those that each fact names. -/
import Derived.Test.YtejbbnpgghpgaaaGreatDoorDdh
import Derived.Test.YtejbbnpgghpgaaaGreatDoorTkwToBxs
namespace Go.Proofs.YtejbbnpgghpgaaaGreatDoor
open Go.RowKit List
set_option linter.unusedVariables false

theorem sxV_all {v : Int} {l : List Bx} : ∀ (r k : Nat), sxV v l r k = 0 → ∀ j, k ≤ j → j < k + r → sbE v l j = 0
  | 0, k, _, j, h1, h2 => by omega
  | r + 1, k, h, j, h1, h2 => by
    unfold sxV at h
    split at h <;> rename_i hs
    · rcases Nat.eq_or_lt_of_le h1 with e | e
      · rw [← e]; exact hs
      · exact sxV_all r (k + 1) h j (by omega) (by omega)
    · exact absurd h hs
theorem bmV_all {x : Int} : ∀ (l : List Msg) (p : Int), bmV x p l = 0 → ∀ m ∈ l, mfV m = 0
  | [], _, _, m, hm => by simp at hm
  | a :: l, p, h, m, hm => by
    unfold bmV at h
    split at h <;> rename_i h1
    · split at h <;> rename_i h2
      · cases h
      · rcases List.mem_cons.1 hm with rfl | hm
        · exact h1
        · exact bmV_all l _ h m hm
    · exact absurd h h1
theorem stV_good {v : Int} {l : List Bx} (h : stV v l = 0) : GdS v l := by
  unfold stV at h
  split at h <;> rename_i h1
  · split at h <;> rename_i h2
    · cases h
    · refine ⟨of_decide_eq_true h1, by omega, fun b hb => ?_⟩
      obtain ⟨k, hk, e⟩ := List.getElem_of_mem hb
      have hs := sxV_all l.length 0 h k (Nat.zero_le _) (by omega)
      unfold sbE at hs
      rw [nthX_get hk, e] at hs
      split at hs <;> rename_i h3
      · unfold bfV at h3
        split at h3
        · split at h3 <;> rename_i h4
          · split at h3 <;> rename_i h5
            · cases h3
            · refine ⟨of_decide_eq_true h4.2, by omega, fun m hm => ?_⟩
              have hf := bmV_all _ _ h3 m hm
              unfold mfV at hf
              split at hf <;> rename_i h6
              · split at hf <;> rename_i h7
                · cases hf
                · exact ⟨of_decide_eq_true h6.2.1, by omega⟩
              · cases hf
          · cases h3
        · cases h3
      · exact absurd hs h3
  · cases h

set_option maxHeartbeats 1600000 in
set_option maxRecDepth 100000 in
theorem store_any (g : Nat) (v : Int) (s : SlQ) (w : World) (hD : Dw w g (.int .i64 v, slW s)) :
    Calls Tryz.prog 65 #[.pointer (some ⟨g, 0, none⟩)] w fun e w' => e = .returned (.agg #[.int .i64 v, slW s]) ∧ Below w.heap.size w w' := by
  have hb0 : Below w.heap.size w (w.alloc (.cells #[.int .i64 0, .slice none 0 0] 33)) := (Below.refl _ _).alloc (Nat.le_refl _) _
  have hD0 := hD.below hb0 hD.lt
  have hZ0 := Dw.new w (.int .i64 0) (.slice none 0 0) 33
  have hgl := hD.lt
  go_enter Tryz.func65, Tryz.ntmps65
  go_wp2_with fail
  generalize w.alloc (.cells #[.int .i64 0, .slice none 0 0] 33) = W at *
  have hbD : Below W.heap.size W W.drew := (Below.refl _ _).drew
  have hD1 := hD0.below hbD hD0.lt
  have hZ1 := hZ0.below hbD hZ0.lt
  have hb1 := hb0.trans (hbD.mono hb0.size)
  clear hD0 hZ0 hb0 hbD
  refine wp_region_held_drew (S := fun w' => w'.cell? ⟨g, 0, none⟩ = some (.int .i64 v) ∧ w'.cell? ⟨g, 1, none⟩ = some (slW s)) (by kernel_rfl) ?hS1 (fun hHeld => ?_)
  case hS1 => exact ⟨hD1.1.1, hD1.1.2⟩
  refine tk (i := 0) (v := ?_) rfl (Or.inl ⟨by rfl, ?hy2⟩) ?ty2
  case hy2 => (intro w5 hSw; obtain ⟨p0, p1⟩ := hSw; go_simp; all_goals with_reducible rfl)
  simp only [Act.put, J1, J2, J4, J5, J6]
  refine tk (i := 1) (v := ?_) rfl (Or.inl ⟨by rfl, ?hy3⟩) ?ty3
  case hy3 => (intro w5 hSw; obtain ⟨p0, p1⟩ := hSw; go_simp; all_goals with_reducible rfl)
  simp only [Act.put, J1, J2, J3, J4, J5, J6]
  refine tk (i := 2) (v := ?_) rfl (Or.inl ⟨by rfl, ?hy4⟩) ?ty4
  case hy4 => (intro w5 hSw; obtain ⟨p0, p1⟩ := hSw; go_simp; all_goals with_reducible rfl)
  simp only [Act.put, J1, J2, J3, J4, J5, J6]
  refine tk (i := 3) (v := ?_) rfl (Or.inl ⟨by rfl, ?hy5⟩) ?ty5
  case hy5 => (intro w5 hSw; obtain ⟨p0, p1⟩ := hSw; go_simp; all_goals with_reducible rfl)
  simp only [Act.put, J1, J2, J3, J4, J5, J6]
  refine tk (i := 4) (v := ?_) rfl (Or.inl ⟨by rfl, ?hy6⟩) ?ty6
  case hy6 => (intro w5 hSw; obtain ⟨p0, p1⟩ := hSw; go_simp; all_goals with_reducible rfl)
  simp only [Act.put, J1, J2, J3, J4, J5, J6]
  refine tk (i := 5) (v := ?_) rfl (Or.inl ⟨by rfl, ?hy7⟩) ?ty7
  case hy7 => (intro w5 hSw; obtain ⟨p0, p1⟩ := hSw; go_simp; all_goals with_reducible rfl)
  simp only [Act.put, J1, J2, J3, J4, J5, J6]
  refine tk (i := 6) (v := ?_) rfl (Or.inl ⟨by rfl, ?hy8⟩) ?ty8
  case hy8 => (intro w5 hSw; obtain ⟨p0, p1⟩ := hSw; go_simp; all_goals with_reducible rfl)
  simp only [Act.put, J1, J2, J3, J4, J5, J6]
  refine tk (i := 7) (v := ?_) rfl (Or.inl ⟨by rfl, ?hy9⟩) ?ty9
  case hy9 => (intro w5 hSw; obtain ⟨p0, p1⟩ := hSw; go_simp; all_goals with_reducible rfl)
  simp only [Act.put, J1, J2, J3, J4, J5, J6]
  refine tk (i := 8) (v := ?_) rfl (Or.inl ⟨by rfl, ?hy10⟩) ?ty10
  case hy10 => (intro w5 hSw; obtain ⟨p0, p1⟩ := hSw; go_simp; all_goals with_reducible rfl)
  simp only [Act.put, J1, J2, J3, J4, J5, J6]
  generalize World.drew W = Y0 at *
  obtain ⟨⟨z0, z1⟩, zf⟩ := id hZ1
  have zf0 := zf 0
  have zf1 := zf 1
  dsimp only at z0 z1
  refine wpAnyH_ready (rs := [9]) (by kernel_rfl) (by simp) ?_
  refine AllReadyH.cons rfl (fun K hK => ?_) AllReadyH.nil
  have hZ2 := (hZ1.set0 (.int .i64 v)).set1 (slW s)
  have hD2 := (hD1.far w.heap.size 0 (.int .i64 v) (by omega)).far w.heap.size 1 (slW s) (by omega)
  have hb2 := below_put (below_put hb1 w.heap.size 0 (.int .i64 v) (Nat.le_refl _)) w.heap.size 1 (slW s) (Nat.le_refl _)
  go_simp
  generalize World.setCell (World.setCell Y0 ⟨w.heap.size, 0, none⟩ (.int .i64 v)) ⟨w.heap.size, 1, none⟩ (slW s) = Y1 at *
  refine hK.out _ _ ⟨hD2.1.1, hD2.1.2⟩ (fun hHeld => ?_)
  clear hK K
  refine wpAnyH_done (by kernel_rfl) ?_ _
  clear hHeld z0 z1 zf zf0 zf1
  obtain ⟨r0, r1⟩ := id hZ2.1
  dsimp only at r0 r1
  go_wp2
  refine bodyPost_ret (v := .agg #[.int .i64 v, slW s]) (by simp [results, Tryz.results65, go_sem, r0, r1]) rfl ?_
  exact ⟨rfl, hb2⟩

/-- How an op on a store ends. -/
def SrEnd (r : Rs) (w : World) (e : Ending) (w' : World) : Prop :=
  (r.1 ≠ 0 ∧ e = .returned (.agg #[.int .i64 r.1, .slice none 0 0, .int .i64 0, .slice none 0 0]) ∧ Below w.heap.size w w') ∨
  (r.1 = 0 ∧ ∃ su s xs, e = .returned (.agg #[.int .i64 0, slW su, .int .i64 r.2.2.1, slW s]) ∧ OwZ 2 w' su r.2.1 ∧ CX w.heap.size w' s r.2.2.2 xs ∧ (∀ g ∈ blkS su, w.heap.size ≤ g ∧ g ∉ blkS s ++ fpX xs) ∧ Below w.heap.size w w')
def aoR (v : Int) (l : List Bx) (o : OpR) : Rs := if stV v l = 0 then apR v l o else badR (stV v l)

set_option maxHeartbeats 1600000 in
set_option maxRecDepth 100000 in
theorem applyOp_any (v : Int) (s : SlQ) (l : List Bx) (o : OpR) (p : SlO) {lo : Nat} (w : World) (hs : IsXs lo w s l) (hf : FtXs l) (hO : IsOp lo w p o) (hT : TabH8 w) (hxs : o.x.size ≤ 1048576) (hts : o.t.size ≤ 1048576) (hIo : ∀ x, p.1.1 = some x → x.block < w.heap.size) :
    Calls Tryz.prog 17 #[.agg #[.int .i64 v, slW s], opX o p] w fun e w' => SrEnd (aoR v l o) w e w' := by
  obtain ⟨W, hW⟩ : ∃ W, ((w.alloc (.cells #[.int .i64 v, slW s] 33)).alloc (.cells #[.int .i64 o.k, .string o.x, .string o.t, slW p.1, .int .i64 o.m, .int .i64 o.f, .int .i64 o.d, slW p.2] 38)).alloc (.cells #[.int .i64 0, .slice none 0 0, .int .i64 0, .slice none 0 0] 35) = W := ⟨_, rfl⟩
  have hbW : Below w.heap.size w W := by rw [← hW]; exact (((Below.refl _ _).alloc (Nat.le_refl _) _).alloc (by simp) _).alloc (by simp; omega) _
  have hA : Dw W w.heap.size (.int .i64 v, slW s) := by
    rw [← hW]
    exact (Dw.new w (.int .i64 v) (slW s) 33).below (((Below.refl _ _).alloc (Nat.le_refl _) _).alloc (by simp) _) (by simp)
  have hQ : Qo W (w.heap.size + 1) ⟨.int .i64 o.k, .string o.x, .string o.t, slW p.1, .int .i64 o.m, .int .i64 o.f, .int .i64 o.d, slW p.2⟩ := by
    have h := (Qo.new (w.alloc (.cells #[.int .i64 v, slW s] 33)) (.int .i64 o.k) (.string o.x) (.string o.t) (slW p.1) (.int .i64 o.m) (.int .i64 o.f) (.int .i64 o.d) (slW p.2) 38).below ((Below.refl _ _).alloc (Nat.le_refl _) (.cells #[.int .i64 0, .slice none 0 0, .int .i64 0, .slice none 0 0] 35)) (by simp)
    rw [hW] at h
    simpa using h
  have hZ : Qw W (w.heap.size + 2) (.int .i64 0, .slice none 0 0, .int .i64 0, .slice none 0 0) := by
    have h := Qw.new ((w.alloc (.cells #[.int .i64 v, slW s] 33)).alloc (.cells #[.int .i64 o.k, .string o.x, .string o.t, slW p.1, .int .i64 o.m, .int .i64 o.f, .int .i64 o.d, slW p.2] 38)) (.int .i64 0) (.slice none 0 0) (.int .i64 0) (.slice none 0 0) 35
    rw [hW] at h
    simpa using h
  have hzW : W.heap.size = w.heap.size + 3 := by rw [← hW]; simp
  have HSF := storeFault_any v s l W (hs.below hbW) hf
  have HOS : Hid (∀ W', Below w.heap.size w W' → Calls Tryz.prog 63 #[.agg #[.int .i64 v, slW s]] W' fun e w' => ShEnd v l W' e w') := fun W' hb => ownShelf_any v s l W' (hs.below hb) hf
  have HAP : Hid (∀ (W' W2 : World) (g : Nat) (s2 : SlQ) (xs : List Dx), stV v l = 0 → Below w.heap.size w W' → Below W'.heap.size W' W2 → Sh W'.heap.size W2 g v l s2 xs → Calls Tryz.prog 64 #[.pointer (some ⟨g, 0, none⟩), opX o p] W2 fun e w' => DeEnd W'.heap.size g (apR v l o) W2 e w') := fun W' W2 g s2 xs h0 hb hb2 hS =>
    apply_any W'.heap.size g v l s2 xs o p W2 hS (stV_good h0) hb2.size ⟨(hO.1.below hb).below hb2, (hO.2.below hb).below hb2⟩ ((hT.below hb).below hb2) hxs hts (fun x hx => Nat.lt_of_lt_of_le (hIo x hx) hb.size)
  have HVF : Hid (stV v l ≠ 0 → aoR v l o = badR (stV v l)) := fun h => if_neg h
  have HVA : Hid (stV v l = 0 → aoR v l o = apR v l o) := fun h => if_pos h
  generalize aoR v l o = rr at *
  generalize apR v l o = ra at *
  generalize stV v l = c at *
  obtain ⟨ok, ox, ot, ou, om, of, od, ob⟩ := o
  dsimp only [opX] at HAP hQ ⊢
  have HW : Hid (_ = W) := hW
  clear hW
  obtain ⟨a0, a1⟩ := id hA.1
  dsimp only at a0 a1
  go_enter Tryz.func17, Tryz.ntmps17
  go_wp2_with fail
  have hW := HW.out
  skip
  rw [hW]
  refine HSF.mono ?_
  rintro e W1 ⟨rfl, hb1⟩
  have hA1 := hA.below hb1 (by omega)
  have hQ1 := hQ.below hb1 (by omega)
  have hZ1 := hZ.below hb1 (by omega)
  have hbw1 := hbW.trans (hb1.mono hbW.size)
  have hz1 : w.heap.size + 3 ≤ W1.heap.size := by rw [← hzW]; exact hb1.size
  clear HSF hA hQ hZ hbW hb1 HW hW hzW a0 a1
  obtain ⟨a0, a1⟩ := id hA1.1
  obtain ⟨z0, z1, z2, z3⟩ := id hZ1.1
  have f0 := hZ1.2 0
  have f1 := hZ1.2 1
  have f2 := hZ1.2 2
  have f3 := hZ1.2 3
  dsimp only at a0 a1 z0 z1 z2 z3
  by_cases hc : c = 0
  · subst hc
    have HV : Hid (rr = ra) := HVA.out (by trivial)
    clear HVA HVF z0 z1 z2 z3 f0 f1 f2 f3
    go_wp2_with fail
    refine (HOS.out W1 hbw1).mono ?_
    rintro e W2 ⟨g, s2, xs, rfl, hS2, hb2⟩
    have hQ2 := hQ1.below hb2 (by omega)
    have hZ2 := hZ1.below hb2 (by omega)
    have hbw2 := hbw1.trans (hb2.mono hbw1.size)
    obtain ⟨o0, o1, o2, o3, o4, o5, o6, o7⟩ := id hQ2
    dsimp only at o0 o1 o2 o3 o4 o5 o6 o7
    clear a0 a1 hA1 hQ1 hZ1
    go_wp2_with fail
    refine (HAP.out W1 W2 g s2 xs (by trivial) hbw1 hb2 hS2).mono ?_
    intro e W3 hE
    rcases hE with ⟨h1, rfl, hb3⟩ | ⟨h1, su, s3, xs3, rfl, hu3, hS3, huo3, hb3⟩
    · obtain ⟨rc, ru, rv, rl⟩ := ra
      dsimp only at h1
      have hZ3 := hZ2.below hb3 (by omega)
      have hbw3 := hbw2.trans (hb3.mono (by omega))
      have hR := hZ3.four (.int .i64 rc) (.slice none 0 0) (.int .i64 0) (.slice none 0 0)
      have HB : Hid (_) := below_put (below_put (below_put (below_put hbw3 (w.heap.size + 2) 0 (.int .i64 rc) (by omega)) (w.heap.size + 2) 1 (.slice none 0 0) (by omega)) (w.heap.size + 2) 2 (.int .i64 0) (by omega)) (w.heap.size + 2) 3 (.slice none 0 0) (by omega)
      obtain ⟨z0, z1, z2, z3⟩ := id hZ3.1
      have f0 := hZ3.2 0
      have f1 := hZ3.2 1
      have f2 := hZ3.2 2
      have f3 := hZ3.2 3
      obtain ⟨r0, r1, r2, r3⟩ := id hR.1
      dsimp only at z0 z1 z2 z3 r0 r1 r2 r3
      clear o0 o1 o2 o3 o4 o5 o6 o7 hQ2 hZ2 HAP HOS
      go_wp2
      refine bodyPost_ret (v := .agg #[.int .i64 rc, .slice none 0 0, .int .i64 0, .slice none 0 0]) (by simp [results, Tryz.results17, go_sem, r0, r1, r2, r3]) rfl ?_
      rw [HV.out]
      exact .inl ⟨h1, rfl, HB.out⟩
    · obtain ⟨rc, ru, rv, rl⟩ := ra
      dsimp only at h1 hu3 hS3
      subst h1
      have hZ3 := hZ2.below hb3 (by omega)
      have hbw3 := hbw2.trans (hb3.mono (by omega))
      clear o0 o1 o2 o3 o4 o5 o6 o7 hQ2 hZ2 HAP HOS
      go_wp2_with fail
      refine (store_any g rv s3 W3 hS3.1).mono ?_
      rintro e W4 ⟨rfl, hb4⟩
      have hz3 := Nat.le_trans hb2.size hb3.size
      have hZ4 := hZ3.below hb4 hZ3.lt
      have hbw4 := hbw3.trans (hb4.mono hbw3.size)
      have hu4 := hu3.below hb4 (Nat.le_refl _)
      have hC4 := hS3.2.1.below hb4 (Nat.le_refl _)
      have hR := hZ4.four (.int .i64 0) (slW su) (.int .i64 rv) (slW s3)
      have HB : Hid (_) := below_put (below_put (below_put (below_put hbw4 (w.heap.size + 2) 0 (.int .i64 0) (by omega)) (w.heap.size + 2) 1 (slW su) (by omega)) (w.heap.size + 2) 2 (.int .i64 rv) (by omega)) (w.heap.size + 2) 3 (slW s3) (by omega)
      have hno : w.heap.size + 2 ∉ blkS s3 ++ fpX xs3 := fun hc => by have := hC4.2.2.2 _ hc; omega
      have HC : Hid (_) := (((hC4.far (w.heap.size + 2) 0 (.int .i64 0) hno).far (w.heap.size + 2) 1 (slW su) hno).far (w.heap.size + 2) 2 (.int .i64 rv) hno).far (w.heap.size + 2) 3 (slW s3) hno
      have hnu : ∀ k ∈ blkS su, k ≠ w.heap.size + 2 := fun k hk => by have := (huo3 k hk).1; omega
      have HU : Hid (OwZ 2 ((((W4.setCell ⟨w.heap.size + 2, 0, none⟩ (.int .i64 0)).setCell ⟨w.heap.size + 2, 1, none⟩ (slW su)).setCell ⟨w.heap.size + 2, 2, none⟩ (.int .i64 rv)).setCell ⟨w.heap.size + 2, 3, none⟩ (slW s3)) su ru) := hu4.keep fun k hk => by
        have hne := hnu k hk
        rw [Below.heap_setCell _ _ _ _ hne, Below.heap_setCell _ _ _ _ hne, Below.heap_setCell _ _ _ _ hne, Below.heap_setCell _ _ _ _ hne]
      obtain ⟨z0, z1, z2, z3⟩ := id hZ4.1
      have f0 := hZ4.2 0
      have f1 := hZ4.2 1
      have f2 := hZ4.2 2
      have f3 := hZ4.2 3
      obtain ⟨r0, r1, r2, r3⟩ := id hR.1
      dsimp only at z0 z1 z2 z3 r0 r1 r2 r3
      go_wp2
      refine bodyPost_ret (v := .agg #[.int .i64 0, slW su, .int .i64 rv, slW s3]) (by simp [results, Tryz.results17, go_sem, r0, r1, r2, r3]) rfl ?_
      rw [HV.out]
      exact .inr ⟨rfl, su, s3, xs3, rfl, HU.out, CX.low HC.out hbw1.size, fun k hk => ⟨Nat.le_trans hbw1.size (huo3 k hk).1, (huo3 k hk).2.2⟩, HB.out⟩
  · have HV : Hid (rr = badR c) := HVF.out hc
    have hR := hZ1.four (.int .i64 c) (.slice none 0 0) (.int .i64 0) (.slice none 0 0)
    have HB : Hid (_) := below_put (below_put (below_put (below_put hbw1 (w.heap.size + 2) 0 (.int .i64 c) (by omega)) (w.heap.size + 2) 1 (.slice none 0 0) (by omega)) (w.heap.size + 2) 2 (.int .i64 0) (by omega)) (w.heap.size + 2) 3 (.slice none 0 0) (by omega)
    obtain ⟨r0, r1, r2, r3⟩ := id hR.1
    dsimp only at r0 r1 r2 r3
    clear HVA HVF HOS HAP
    go_wp2
    refine bodyPost_ret (v := .agg #[.int .i64 c, .slice none 0 0, .int .i64 0, .slice none 0 0]) (by simp [results, Tryz.results17, go_sem, r0, r1, r2, r3]) rfl ?_
    rw [HV.out]
    exact .inl ⟨hc, rfl, HB.out⟩
end Go.Proofs.YtejbbnpgghpgaaaGreatDoor
