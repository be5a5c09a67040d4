/- A message put into a mailbox: the program's put and the model's l8Put; no conditions beyond those that each fact names. -/
import Derived.Test.YtejbbnpgghpgaaaGreatDoorStqToStu
import Derived.Test.YtejbbnpgghpgaaaGreatDoorMsbToBxs
namespace Go.Proofs.YtejbbnpgghpgaaaGreatDoor
open Go.RowKit List
set_option linter.unusedVariables false
set_option maxHeartbeats 6400000 in
set_option maxRecDepth 100000 in
theorem put_any (N g i : Nat) (s : SlQ) (l : List Bx) (xs : List Dx) (u f d : Int) (sd : SlQ) (c : List Nat) {lo : Nat} (w : World) (hC : CX N w s l xs) (hg : s.1 = some ⟨g, 0, none⟩) (hi : i < xs.length) (hI : IsSl lo w sd c) (hcl : c.length ≤ 1048576)
    (hx0 : 0 ≤ (nthX l i).x ∧ (nthX l i).x ≤ 1000000) (hmm : (nthX l i).m.length + 1 ≤ 1048576) (hN : N ≤ w.heap.size) :
    Calls Tryz.prog 192 #[.pointer (some ⟨g, i * 4, none⟩), .agg #[.int .i64 u, .int .i64 f, .int .i64 d, slW sd]] w fun e w' => PutEnd N s l xs i f d c w e w' := by
  obtain ⟨n, cap, rfl⟩ : ∃ n cap, s = (some ⟨g, 0, none⟩, n, cap) := ⟨s.2.1, s.2.2, by rw [← hg]⟩
  have hnl : xs.length = n := by
    obtain ⟨⟨a', n', c'⟩, e, h1, h2, h3, -⟩ := row_form hC.1.1
    cases e
    exact h1.symm
  have hbx : (nthX l i) = xs[i].bx := by rw [← hC.2.1, map_nthX hi]
  obtain ⟨-, -, hglt, c0, c1, c2, c3⟩ : ∃ g', (some ⟨g, 0, none⟩ : Option Addr) = some ⟨g', 0, none⟩ ∧ g < w.heap.size ∧ w.cell? ⟨g, i * 4, none⟩ = some (.string xs[i].n) ∧ w.cell? ⟨g, i * 4 + 1, none⟩ = some (.int .i64 xs[i].v) ∧ w.cell? ⟨g, i * 4 + 2, none⟩ = some (.int .i64 xs[i].x) ∧ w.cell? ⟨g, i * 4 + 3, none⟩ = some (slW xs[i].s) := by
    obtain ⟨g', e, r⟩ := hC.1.row_at i hi
    cases e
    exact ⟨g, rfl, r⟩
  have hB := hC.box i hi
  have hoff : ∀ k ∈ blkS (some ⟨g, 0, none⟩, n, cap), k ∉ fpD xs[i] := fun k hk => hC.off i hi hk
  have hlt : ∀ k ∈ blkS ((some ⟨g, 0, none⟩, n, cap) : SlQ) ++ fpD xs[i], k < w.heap.size := fun k hk => by
    rcases List.mem_append.1 hk with hk | hk
    · exact hC.1.lt k (List.mem_append_left _ hk)
    · exact hC.1.lt k (List.mem_append_right _ (mem_flat_get hi hk))
  have HF : Hid (∀ (Y : World) (s2 : SlQ) (ql : List Qd) (d' : Dx), PS (blkS (some ⟨g, 0, none⟩, n, cap) ++ fpD xs[i]) (PdM (nthX l i).m.length xs[i].s) w Y (some ⟨g, 0, none⟩, n, cap) s2 n ql d'.ms → d'.s = s2 → ql = (xs.map Dx.q).set i d'.q → (fpD d').Nodup → (∀ k ∈ fpD d', k ∈ fpD xs[i] ∨ w.heap.size ≤ k) → d'.bx = putB (nthX l i) f d c → (blkS d'.s = blkS xs[i].s ∨ ∀ g ∈ blkS d'.s, w.heap.size ≤ g) →
      PutEnd N (some ⟨g, 0, none⟩, n, cap) l xs i f d c w (.returned (.int .i64 (nthX l i).x)) Y) := fun Y s2 ql d' hP h1 h2 h3 h4 h5 h6 => by
    obtain ⟨r1, r2, r3⟩ := PS.fin hC hi rfl hnl hN hP h1 h2 h3 h4
    rw [h5] at r1
    exact ⟨d', rfl, r1, r2, r3, by rw [nthE_get hi]; exact hP.old, by rw [nthE_get hi]; exact h6⟩
  have hP : PS (blkS (some ⟨g, 0, none⟩, n, cap) ++ fpD xs[i]) (PdM (nthX l i).m.length xs[i].s) w w (some ⟨g, 0, none⟩, n, cap) xs[i].s n (xs.map Dx.q) xs[i].ms := ⟨by rw [← hnl]; have h := hC.1.1; rw [hnl] at h ⊢; exact h, hB.1, Kx.refl _ _, fun _ _ _ h => h⟩
  have hM0 : (nthX l i).m.length ≤ xs[i].ms.length := by rw [hbx]; simp [Dx.bx]
  have hM : ∀ sl0 ms0, PdM (nthX l i).m.length xs[i].s sl0 ms0 → ms0.length ≤ xs[i].ms.length ∨ ∀ g ∈ blkS sl0, g ∉ blkS xs[i].s := fun sl0 ms0 h => h.imp (fun h => Nat.le_trans h hM0) id
  have hql : nthQ (xs.map Dx.q) i = xs[i].q := map_nthQ hi
  have hqn : i < (xs.map Dx.q).length := by rw [List.length_map]; exact hi
  have hml : xs[i].ms.length + 1 ≤ 1048576 := by rw [hbx] at hmm; simpa [Dx.bx] using hmm
  rw [hbx] at hx0
  have hxe : (nthX l i).x = xs[i].x := by rw [hbx]; rfl
  have hpb : putB (nthX l i) f d c = ⟨xs[i].n, xs[i].v, xs[i].x + 1, xs[i].ms.map Dm.m ++ [⟨xs[i].x, f, d, c⟩]⟩ := by rw [hbx]; rfl
  rw [hpb, hxe] at HF
  clear hM0
  generalize (nthX l i).m.length = M at *
  generalize xs[i] = p at *
  obtain ⟨bn, bv, bx, sm, ms⟩ := p
  dsimp only [Dx.q, Dx.bx] at c0 c1 c2 c3 hB hoff hlt HF hP hM hql hml hx0
  generalize xs.map Dx.q = ql at *
  have HB : Hid (CM N w sm (ms.map Dm.m) ms) := hB
  clear hB hbx hxe hpb hmm hnl
  have hb0 : Below w.heap.size w (w.alloc (.cells #[.int .i64 u, .int .i64 f, .int .i64 d, slW sd] 136)) := (Below.refl _ _).alloc (Nat.le_refl _) _
  have hQ := Qw.new w (.int .i64 u) (.int .i64 f) (.int .i64 d) (slW sd) 136
  have hP := hP.below hb0
  have hI := hI.below hb0
  have hz : w.heap.size + 1 ≤ (w.alloc (.cells #[.int .i64 u, .int .i64 f, .int .i64 d, slW sd] 136)).heap.size := by simp
  go_enter Tryz.func192, Tryz.ntmps192
  go_wp2_with fail
  generalize w.alloc (.cells #[.int .i64 u, .int .i64 f, .int .i64 d, slW sd] 136) = W at *
  have hb1 : Below W.heap.size W W.drew := (Below.refl _ _).drew
  have hQ := hQ.below hb1 hQ.lt
  have hP := hP.below hb1
  have hI := hI.below hb1
  have hz := Nat.le_trans hz hb1.size
  have hcx : ∀ (Y : World), PS (blkS (some ⟨g, 0, none⟩, n, cap) ++ fpD ⟨bn, bv, bx, sm, ms⟩) (PdM M sm) w Y (some ⟨g, 0, none⟩, n, cap) sm n ql ms → Y.cell? ⟨g, i * 4 + 2, none⟩ = some (.int .i64 bx) := fun Y h => by have e := (ownQ_cells h.row i hqn).2.2.2.1; rw [hql] at e; exact e
  clear c0 c1 c2 c3 hb0 hb1
  refine wp_region_held_drew (S := fun w' => w'.cell? ⟨g, i * 4 + 2, none⟩ = some (.int .i64 bx)) (by kernel_rfl) ?hS1 (fun hHeld => ?_)
  case hS1 => exact (hcx _ hP)
  refine tk (i := 0) (v := ?_) rfl (Or.inl ⟨by rfl, ?hy2⟩) ?ty2
  case hy2 => (intro w5 hSw; go_simp; all_goals with_reducible rfl)
  simp only [Act.put, J1, J2, J4, J5, J6]
  refine tk (i := 1) (v := ?_) rfl (Or.inl ⟨by rfl, ?hy3⟩) ?ty3
  case hy3 => (intro w5 hSw; go_simp; all_goals with_reducible rfl)
  simp only [Act.put, J1, J2, J3, J4, J5, J6]
  refine tk (i := 2) (v := ?_) rfl (Or.inl ⟨by rfl, ?hy4⟩) ?ty4
  case hy4 => (intro w5 hSw; go_simp; all_goals with_reducible rfl)
  simp only [Act.put, J1, J2, J3, J4, J5, J6]
  refine tk (i := 3) (v := ?_) rfl (Or.inl ⟨by rfl, ?hy5⟩) ?ty5
  case hy5 => (intro w5 hSw; go_simp; all_goals with_reducible rfl)
  simp only [Act.put, J1, J2, J3, J4, J5, J6]
  refine tk (i := 4) (v := ?_) rfl (Or.inl ⟨by rfl, ?hy6⟩) ?ty6
  case hy6 => (intro w5 hSw; go_simp; all_goals with_reducible rfl)
  simp only [Act.put, J1, J2, J3, J4, J5, J6]
  generalize World.drew W = Y0 at *
  refine wpAnyH_ready (rs := [5]) (by kernel_rfl) (by simp) ?_
  refine AllReadyH.cons rfl (fun K hK => ?_) AllReadyH.nil
  have cL := hQ.1.2.2.2
  dsimp only at cL
  go_simp
  refine hK.out _ _ (hcx _ hP) (fun hHeld => ?_)
  clear hK K
  refine tk (i := 7) (v := ?_) rfl (Or.inl ⟨by rfl, ?hy7⟩) ?ty7
  case hy7 => (intro w5 hSw; go_simp; all_goals with_reducible rfl)
  simp only [Act.put, J1, J2, J3, J4, J5, J6]
  refine wpAnyH_ready (rs := [6]) (by kernel_rfl) (by simp) ?_
  refine AllReadyH.cons rfl (fun K hK => ?_) AllReadyH.nil
  go_simp
  refine (copiedJ sd.1 sd.2.1 sd.2.2 c Y0 hI.1 hI.2.2.2.2.1 (by rw [← hI.1]; exact hcl)).mono ?_
  rintro e Y1 ⟨v1, rfl, hO1, hb1⟩
  obtain ⟨s1, rfl, hOB, hge1⟩ := hO1.slq hI.2.2.2.1
  have hQ1 := hQ.below hb1 hQ.lt
  have hP1 := hP.below hb1
  have hz1 := Nat.le_trans hz hb1.size
  have hge : ∀ k ∈ blkS s1, w.heap.size ≤ k := fun k hk => by have := (hge1 k hk).1; omega
  have hof : ∀ k ∈ blkS s1, k ∉ blkS sm ++ fpM ms := fun k hk hc => by have h1 := hge k hk; have h2 := hlt k (List.mem_append_right _ hc); omega
  have hne1 : ∀ k ∈ blkS s1, k ≠ w.heap.size := fun k hk => by have := (hge1 k hk).1; omega
  refine hK.out _ _ (hcx _ hP1) (fun hHeld => ?_)
  clear hK K
  clear hP hQ hO1 hb1 hI cL hge1
  have fz0 := hQ1.2 0
  refine wpAnyH_ready (rs := [8]) (by kernel_rfl) (by simp) ?_
  refine AllReadyH.cons rfl (fun K hK => ?_) AllReadyH.nil
  have cL := hQ1.1.1
  dsimp only at cL
  have hQ2 := hQ1.set0 (.int .i64 bx)
  have hP2 := hP1.far w.heap.size 0 (.int .i64 bx) (Nat.le_refl _) hlt
  have hOB2 : OwB (Y1.setCell ⟨w.heap.size, 0, none⟩ (.int .i64 bx)) s1 c := hOB.keep fun k hk => Below.heap_setCell _ _ _ _ (fun e => hne1 k hk e)
  have hz2 : w.heap.size + 1 ≤ (Y1.setCell ⟨w.heap.size, 0, none⟩ (.int .i64 bx)).heap.size := by simpa using hz1
  go_simp
  generalize World.setCell Y1 ⟨w.heap.size, 0, none⟩ (.int .i64 bx) = Y2 at *
  refine hK.out _ _ (hcx _ hP2) (fun hHeld => ?_)
  clear hK K
  clear hP1 hQ1 hOB fz0 cL
  refine tk (i := 9) (v := ?_) rfl (Or.inl ⟨by rfl, ?hy8⟩) ?ty8
  case hy8 => (intro w5 hSw; go_simp; all_goals with_reducible rfl)
  simp only [Act.put, J1, J2, J3, J4, J5, J6]
  have fz3 := hQ2.2 3
  refine wpAnyH_ready (rs := [10]) (by kernel_rfl) (by simp) ?_
  refine AllReadyH.cons rfl (fun K hK => ?_) AllReadyH.nil
  have cL := hQ2.1.2.2.2
  dsimp only at cL
  have hQ := hQ2.set3 (slW s1)
  have hP := hP2.far w.heap.size 3 (slW s1) (Nat.le_refl _) hlt
  have hOB : OwB (Y2.setCell ⟨w.heap.size, 3, none⟩ (slW s1)) s1 c := hOB2.keep fun k hk => Below.heap_setCell _ _ _ _ (fun e => hne1 k hk e)
  have hz : w.heap.size + 1 ≤ (Y2.setCell ⟨w.heap.size, 3, none⟩ (slW s1)).heap.size := by simpa using hz2
  go_simp
  generalize World.setCell Y2 ⟨w.heap.size, 3, none⟩ (slW s1) = Y at *
  refine hK.out _ _ (hcx _ hP) (fun hHeld => ?_)
  clear hK K
  clear hP2 hQ2 hOB2 fz3 cL
  refine wpAnyH_done (by kernel_rfl) ?_ _
  clear hHeld hcx
  go_wp2_with fail
  have hb1 : Below Y.heap.size Y Y.drew := (Below.refl _ _).drew
  have hQ := hQ.below hb1 hQ.lt
  have hP := hP.below hb1
  have hOB := hOB.below hb1 (Nat.le_refl _)
  have hz := Nat.le_trans hz hb1.size
  clear hb1
  refine wp_region_held_drew (S := fun w' => w'.cell? ⟨w.heap.size, 0, none⟩ = some (.int .i64 bx) ∧ w'.cell? ⟨w.heap.size, 1, none⟩ = some (.int .i64 f) ∧ w'.cell? ⟨w.heap.size, 2, none⟩ = some (.int .i64 d) ∧ w'.cell? ⟨w.heap.size, 3, none⟩ = some (slW s1)) (by kernel_rfl) ?hS9 (fun hHeld => ?_)
  case hS9 => exact hQ.1
  refine tk (i := 0) (v := ?_) rfl (Or.inl ⟨by rfl, ?hy10⟩) ?ty10
  case hy10 => (intro w5 hSw; obtain ⟨p0, p1, p2, p3⟩ := hSw; go_simp; all_goals with_reducible rfl)
  simp only [Act.put, J1, J2, J4, J5, J6]
  refine tk (i := 1) (v := ?_) rfl (Or.inl ⟨by rfl, ?hy11⟩) ?ty11
  case hy11 => (intro w5 hSw; obtain ⟨p0, p1, p2, p3⟩ := hSw; go_simp; all_goals with_reducible rfl)
  simp only [Act.put, J1, J2, J3, J4, J5, J6]
  refine tk (i := 2) (v := ?_) rfl (Or.inl ⟨by rfl, ?hy12⟩) ?ty12
  case hy12 => (intro w5 hSw; obtain ⟨p0, p1, p2, p3⟩ := hSw; go_simp; all_goals with_reducible rfl)
  simp only [Act.put, J1, J2, J3, J4, J5, J6]
  refine tk (i := 3) (v := ?_) rfl (Or.inl ⟨by rfl, ?hy13⟩) ?ty13
  case hy13 => (intro w5 hSw; obtain ⟨p0, p1, p2, p3⟩ := hSw; go_simp; all_goals with_reducible rfl)
  simp only [Act.put, J1, J2, J3, J4, J5, J6]
  refine tk (i := 5) (v := ?_) rfl (Or.inl ⟨by rfl, ?hy14⟩) ?ty14
  case hy14 => (intro w5 hSw; obtain ⟨p0, p1, p2, p3⟩ := hSw; go_simp; all_goals with_reducible rfl)
  simp only [Act.put, J1, J2, J3, J4, J5, J6]
  generalize World.drew Y = Y0 at *
  refine wpAnyH_ready (rs := [4, 6]) (by kernel_rfl) (by simp) ?_
  refine AllReadyH.cons rfl (fun K hK => ?_) (AllReadyH.cons rfl (fun K hK => ?_) AllReadyH.nil)
  · have cL : _ = some (nthQ ql i).2.2.2 := (ownQ_cells hP.row i hqn).2.2.2.2
    rw [hql] at cL
    go_simp
    refine hK.out _ _ hQ.1 (fun hHeld => ?_)
    clear hK K
    refine wpAnyH_ready (rs := [6]) (by kernel_rfl) (by simp) ?_
    refine AllReadyH.cons rfl (fun K hK => ?_) AllReadyH.nil
    have hb3 : Below Y0.heap.size Y0 (Y0.alloc (.cells #[.int .i64 bx, .int .i64 f, .int .i64 d, slW s1] 136)) := (Below.refl _ _).alloc (Nat.le_refl _) _
    have hQ3 := Qc.new Y0 (.int .i64 bx) (.int .i64 f) (.int .i64 d) (slW s1) 136
    have hP3 := hP.below hb3
    have hq3 := hQ.below hb3 hQ.lt
    have hOB3 := hOB.below hb3 (Nat.le_refl _)
    have hz3 := Nat.le_trans hz hb3.size
    go_simp
    generalize World.alloc Y0 (.cells #[.int .i64 bx, .int .i64 f, .int .i64 d, slW s1] 136) = Y3 at *
    refine hK.out _ _ hq3.1 (fun hHeld => ?_)
    clear hK K
    clear hP hQ hOB hb3
    refine wpAnyH_ready (rs := [7]) (by kernel_rfl) (by simp) ?_
    refine AllReadyH.cons rfl (fun K hK => ?_) AllReadyH.nil
    refine step4k rfl _ _ 126 136 rfl _ 48 rfl (by decide) Tryz.underlying126 infoMessage sm (ms.map Dm.q) (by rfl) (by rw [List.length_map]; exact hP3.hm.1) Y0.heap.size (Dm.q ⟨⟨bx, f, d, c⟩, s1⟩) (by rfl) hQ3 (Dm.one _) (by rw [List.length_map]; exact hml) ?_
    intro s2 Y4 hrow hgr hloc hold
    obtain ⟨hP4, hnd4, hm4⟩ := hP3.app (m := ⟨bx, f, d, c⟩) hM (fun k hk => List.mem_append_right _ (List.mem_append_left _ hk)) (fun k hk hc => hoff k hk (List.mem_append_left _ hc)) HB.out.2.2.1 hOB3 hof hrow hgr hloc hold
    have hl6 : blkS s2 = blkS sm ∨ ∀ g ∈ blkS s2, w.heap.size ≤ g := hloc.imp id (fun e g hg => by rw [e, List.mem_singleton] at hg; omega)
    have hq4 := hq3.grown hgr (fun e => by have := hlt _ (List.mem_append_right _ (List.mem_append_left _ (mem_blkS.2 e.symm))); omega)
    refine hK.out _ _ hq4.1 (fun hHeld => ?_)
    clear hK K
    clear hrow hgr hloc hold hP3 hOB3 hq3
    refine tk (i := 8) (v := ?_) rfl (Or.inl ⟨by rfl, ?hy15⟩) ?ty15
    case hy15 => (intro w5 hSw; obtain ⟨p0, p1, p2, p3⟩ := hSw; go_simp; all_goals with_reducible rfl)
    simp only [Act.put, J1, J2, J3, J4, J5, J6]
    refine tk (i := 9) (v := ?_) rfl (Or.inl ⟨by rfl, ?hy16⟩) ?ty16
    case hy16 => (intro w5 hSw; obtain ⟨p0, p1, p2, p3⟩ := hSw; go_simp; all_goals with_reducible rfl)
    simp only [Act.put, J1, J2, J3, J4, J5, J6]
    have fz : Y4.frozen? ⟨g, i * 4 + 3, none⟩ = false := hP4.row.frozenAt _
    have e3 : _ = some (nthQ ql i).2.2.2 := (ownQ_cells hP4.row i hqn).2.2.2.2
    rw [hql] at e3
    refine wpAnyH_ready (rs := [10]) (by kernel_rfl) (by simp) ?_
    refine AllReadyH.cons rfl (fun K hK => ?_) AllReadyH.nil
    have hP5 := hP4.set3 hqn (List.mem_append_left _ (by simp [blkS])) (slW s2)
    have hq5 := hq4.far g (i * 4 + 3) (slW s2) (by omega)
    go_simp
    generalize World.setCell Y4 ⟨g, i * 4 + 3, none⟩ (slW s2) = Y5 at *
    refine hK.out _ _ hq5.1 (fun hHeld => ?_)
    clear hK K
    refine wpAnyH_done (by kernel_rfl) ?_ _
    clear hHeld fz e3 hP4 hq4
    rw [hql] at hP5
    have hqn5 : i < (ql.set i (.string bn, .int .i64 bv, .int .i64 bx, slW s2)).length := by rw [List.length_set]; exact hqn
    obtain ⟨-, e0, e1, e2, e3⟩ := ownQ_cells hP5.row i hqn5
    rw [nthQ_set hqn] at e0 e1 e2 e3
    dsimp only at e0 e1 e2 e3
    have fz2 : Y5.frozen? ⟨g, i * 4 + 2, none⟩ = false := hP5.row.frozenAt _
    have hP6 := hP5.set2 hqn5 (List.mem_append_left _ (by simp [blkS])) (.int .i64 (bx + 1))
    rw [nthQ_set hqn, set_set] at hP6
    have hq6 := hq5.far g (i * 4 + 2) (.int .i64 (bx + 1)) (by omega)
    obtain ⟨b0, b1, b2, b3⟩ := hq6.1
    dsimp only at b0 b1 b2 b3
    have HE : Hid (_) := HF.out _ s2 _ (Dx.mk bn bv (bx + 1) s2 (ms ++ [Dm.mk (Msg.mk bx f d c) s1])) hP6 rfl rfl hnd4 (fun k hk => by rcases hm4 k hk with h | h | h; exact .inl h; exact .inr (hge k h); exact .inr (by omega)) (by simp) hl6
    clear hP5 hP6 hq5 hq6 HF hnd4 hm4 hQ3 hl6
    go_wp2
    go_ret
    exact HE.out
  · have hb3 : Below Y0.heap.size Y0 (Y0.alloc (.cells #[.int .i64 bx, .int .i64 f, .int .i64 d, slW s1] 136)) := (Below.refl _ _).alloc (Nat.le_refl _) _
    have hQ3 := Qc.new Y0 (.int .i64 bx) (.int .i64 f) (.int .i64 d) (slW s1) 136
    have hP3 := hP.below hb3
    have hq3 := hQ.below hb3 hQ.lt
    have hOB3 := hOB.below hb3 (Nat.le_refl _)
    have hz3 := Nat.le_trans hz hb3.size
    go_simp
    generalize World.alloc Y0 (.cells #[.int .i64 bx, .int .i64 f, .int .i64 d, slW s1] 136) = Y3 at *
    refine hK.out _ _ hq3.1 (fun hHeld => ?_)
    clear hK K
    clear hP hQ hOB hb3
    refine wpAnyH_ready (rs := [4]) (by kernel_rfl) (by simp) ?_
    refine AllReadyH.cons rfl (fun K hK => ?_) AllReadyH.nil
    have cL : _ = some (nthQ ql i).2.2.2 := (ownQ_cells hP3.row i hqn).2.2.2.2
    rw [hql] at cL
    go_simp
    refine hK.out _ _ hq3.1 (fun hHeld => ?_)
    clear hK K
    refine wpAnyH_ready (rs := [7]) (by kernel_rfl) (by simp) ?_
    refine AllReadyH.cons rfl (fun K hK => ?_) AllReadyH.nil
    refine step4k rfl _ _ 126 136 rfl _ 48 rfl (by decide) Tryz.underlying126 infoMessage sm (ms.map Dm.q) (by rfl) (by rw [List.length_map]; exact hP3.hm.1) Y0.heap.size (Dm.q ⟨⟨bx, f, d, c⟩, s1⟩) (by rfl) hQ3 (Dm.one _) (by rw [List.length_map]; exact hml) ?_
    intro s2 Y4 hrow hgr hloc hold
    obtain ⟨hP4, hnd4, hm4⟩ := hP3.app (m := ⟨bx, f, d, c⟩) hM (fun k hk => List.mem_append_right _ (List.mem_append_left _ hk)) (fun k hk hc => hoff k hk (List.mem_append_left _ hc)) HB.out.2.2.1 hOB3 hof hrow hgr hloc hold
    have hl6 : blkS s2 = blkS sm ∨ ∀ g ∈ blkS s2, w.heap.size ≤ g := hloc.imp id (fun e g hg => by rw [e, List.mem_singleton] at hg; omega)
    have hq4 := hq3.grown hgr (fun e => by have := hlt _ (List.mem_append_right _ (List.mem_append_left _ (mem_blkS.2 e.symm))); omega)
    refine hK.out _ _ hq4.1 (fun hHeld => ?_)
    clear hK K
    clear hrow hgr hloc hold hP3 hOB3 hq3
    refine tk (i := 8) (v := ?_) rfl (Or.inl ⟨by rfl, ?hy17⟩) ?ty17
    case hy17 => (intro w5 hSw; obtain ⟨p0, p1, p2, p3⟩ := hSw; go_simp; all_goals with_reducible rfl)
    simp only [Act.put, J1, J2, J3, J4, J5, J6]
    refine tk (i := 9) (v := ?_) rfl (Or.inl ⟨by rfl, ?hy18⟩) ?ty18
    case hy18 => (intro w5 hSw; obtain ⟨p0, p1, p2, p3⟩ := hSw; go_simp; all_goals with_reducible rfl)
    simp only [Act.put, J1, J2, J3, J4, J5, J6]
    have fz : Y4.frozen? ⟨g, i * 4 + 3, none⟩ = false := hP4.row.frozenAt _
    have e3 : _ = some (nthQ ql i).2.2.2 := (ownQ_cells hP4.row i hqn).2.2.2.2
    rw [hql] at e3
    refine wpAnyH_ready (rs := [10]) (by kernel_rfl) (by simp) ?_
    refine AllReadyH.cons rfl (fun K hK => ?_) AllReadyH.nil
    have hP5 := hP4.set3 hqn (List.mem_append_left _ (by simp [blkS])) (slW s2)
    have hq5 := hq4.far g (i * 4 + 3) (slW s2) (by omega)
    go_simp
    generalize World.setCell Y4 ⟨g, i * 4 + 3, none⟩ (slW s2) = Y5 at *
    refine hK.out _ _ hq5.1 (fun hHeld => ?_)
    clear hK K
    refine wpAnyH_done (by kernel_rfl) ?_ _
    clear hHeld fz e3 hP4 hq4
    rw [hql] at hP5
    have hqn5 : i < (ql.set i (.string bn, .int .i64 bv, .int .i64 bx, slW s2)).length := by rw [List.length_set]; exact hqn
    obtain ⟨-, e0, e1, e2, e3⟩ := ownQ_cells hP5.row i hqn5
    rw [nthQ_set hqn] at e0 e1 e2 e3
    dsimp only at e0 e1 e2 e3
    have fz2 : Y5.frozen? ⟨g, i * 4 + 2, none⟩ = false := hP5.row.frozenAt _
    have hP6 := hP5.set2 hqn5 (List.mem_append_left _ (by simp [blkS])) (.int .i64 (bx + 1))
    rw [nthQ_set hqn, set_set] at hP6
    have hq6 := hq5.far g (i * 4 + 2) (.int .i64 (bx + 1)) (by omega)
    obtain ⟨b0, b1, b2, b3⟩ := hq6.1
    dsimp only at b0 b1 b2 b3
    have HE : Hid (_) := HF.out _ s2 _ (Dx.mk bn bv (bx + 1) s2 (ms ++ [Dm.mk (Msg.mk bx f d c) s1])) hP6 rfl rfl hnd4 (fun k hk => by rcases hm4 k hk with h | h | h; exact .inl h; exact .inr (hge k h); exact .inr (by omega)) (by simp) hl6
    clear hP5 hP6 hq5 hq6 HF hnd4 hm4 hQ3 hl6
    go_wp2
    go_ret
    exact HE.out
set_option maxHeartbeats 6400000 in
set_option maxRecDepth 100000 in
theorem l8Put_any (N g i : Nat) (s : SlQ) (l : List Bx) (xs : List Dx) (u f d : Int) (sd : SlQ) (c : List Nat) (w : World) (hC : CX N w s l xs) (hg : s.1 = some ⟨g, 0, none⟩) (hi : i < xs.length) (hI : OwB w sd c) (hcl : c.length ≤ 1048576)
    (hx0 : 0 ≤ (nthX l i).x ∧ (nthX l i).x ≤ 1000000) (hmm : (nthX l i).m.length + 1 ≤ 1048576) (hN : N ≤ w.heap.size) :
    Calls Tryz.prog 115 #[.pointer (some ⟨g, i * 4, none⟩), .agg #[.int .i64 u, .int .i64 f, .int .i64 d, slW sd]] w fun e w' => PutEnd N s l xs i f d c w e w' := by
  obtain ⟨n, cap, rfl⟩ : ∃ n cap, s = (some ⟨g, 0, none⟩, n, cap) := ⟨s.2.1, s.2.2, by rw [← hg]⟩
  have hnl : xs.length = n := by
    obtain ⟨⟨a', n', c'⟩, e, h1, h2, h3, -⟩ := row_form hC.1.1
    cases e
    exact h1.symm
  have hbx : (nthX l i) = xs[i].bx := by rw [← hC.2.1, map_nthX hi]
  obtain ⟨-, -, hglt, c0, c1, c2, c3⟩ : ∃ g', (some ⟨g, 0, none⟩ : Option Addr) = some ⟨g', 0, none⟩ ∧ g < w.heap.size ∧ w.cell? ⟨g, i * 4, none⟩ = some (.string xs[i].n) ∧ w.cell? ⟨g, i * 4 + 1, none⟩ = some (.int .i64 xs[i].v) ∧ w.cell? ⟨g, i * 4 + 2, none⟩ = some (.int .i64 xs[i].x) ∧ w.cell? ⟨g, i * 4 + 3, none⟩ = some (slW xs[i].s) := by
    obtain ⟨g', e, r⟩ := hC.1.row_at i hi
    cases e
    exact ⟨g, rfl, r⟩
  have hB := hC.box i hi
  have hoff : ∀ k ∈ blkS (some ⟨g, 0, none⟩, n, cap), k ∉ fpD xs[i] := fun k hk => hC.off i hi hk
  have hlt : ∀ k ∈ blkS ((some ⟨g, 0, none⟩, n, cap) : SlQ) ++ fpD xs[i], k < w.heap.size := fun k hk => by
    rcases List.mem_append.1 hk with hk | hk
    · exact hC.1.lt k (List.mem_append_left _ hk)
    · exact hC.1.lt k (List.mem_append_right _ (mem_flat_get hi hk))
  have HF : Hid (∀ (Y : World) (s2 : SlQ) (ql : List Qd) (d' : Dx), PS (blkS (some ⟨g, 0, none⟩, n, cap) ++ fpD xs[i]) (PdM (nthX l i).m.length xs[i].s) w Y (some ⟨g, 0, none⟩, n, cap) s2 n ql d'.ms → d'.s = s2 → ql = (xs.map Dx.q).set i d'.q → (fpD d').Nodup → (∀ k ∈ fpD d', k ∈ fpD xs[i] ∨ w.heap.size ≤ k) → d'.bx = putB (nthX l i) f d c → (blkS d'.s = blkS xs[i].s ∨ ∀ g ∈ blkS d'.s, w.heap.size ≤ g) →
      PutEnd N (some ⟨g, 0, none⟩, n, cap) l xs i f d c w (.returned (.int .i64 (nthX l i).x)) Y) := fun Y s2 ql d' hP h1 h2 h3 h4 h5 h6 => by
    obtain ⟨r1, r2, r3⟩ := PS.fin hC hi rfl hnl hN hP h1 h2 h3 h4
    rw [h5] at r1
    exact ⟨d', rfl, r1, r2, r3, by rw [nthE_get hi]; exact hP.old, by rw [nthE_get hi]; exact h6⟩
  have hP : PS (blkS (some ⟨g, 0, none⟩, n, cap) ++ fpD xs[i]) (PdM (nthX l i).m.length xs[i].s) w w (some ⟨g, 0, none⟩, n, cap) xs[i].s n (xs.map Dx.q) xs[i].ms := ⟨by rw [← hnl]; have h := hC.1.1; rw [hnl] at h ⊢; exact h, hB.1, Kx.refl _ _, fun _ _ _ h => h⟩
  have hM0 : (nthX l i).m.length ≤ xs[i].ms.length := by rw [hbx]; simp [Dx.bx]
  have hM : ∀ sl0 ms0, PdM (nthX l i).m.length xs[i].s sl0 ms0 → ms0.length ≤ xs[i].ms.length ∨ ∀ g ∈ blkS sl0, g ∉ blkS xs[i].s := fun sl0 ms0 h => h.imp (fun h => Nat.le_trans h hM0) id
  have hql : nthQ (xs.map Dx.q) i = xs[i].q := map_nthQ hi
  have hqn : i < (xs.map Dx.q).length := by rw [List.length_map]; exact hi
  have hml : xs[i].ms.length + 1 ≤ 1048576 := by rw [hbx] at hmm; simpa [Dx.bx] using hmm
  rw [hbx] at hx0
  have hxe : (nthX l i).x = xs[i].x := by rw [hbx]; rfl
  have hpb : putB (nthX l i) f d c = ⟨xs[i].n, xs[i].v, xs[i].x + 1, xs[i].ms.map Dm.m ++ [⟨xs[i].x, f, d, c⟩]⟩ := by rw [hbx]; rfl
  rw [hpb, hxe] at HF
  clear hM0
  generalize (nthX l i).m.length = M at *
  generalize xs[i] = p at *
  obtain ⟨bn, bv, bx, sm, ms⟩ := p
  dsimp only [Dx.q, Dx.bx] at c0 c1 c2 c3 hB hoff hlt HF hP hM hql hml hx0
  generalize xs.map Dx.q = ql at *
  have HB : Hid (CM N w sm (ms.map Dm.m) ms) := hB
  clear hB hbx hxe hpb hmm hnl
  have hb0 : Below w.heap.size w (w.alloc (.cells #[.int .i64 bx, .int .i64 f, .int .i64 d, slW sd] 136)) := (Below.refl _ _).alloc (Nat.le_refl _) _
  have hQ := Qw.new w (.int .i64 bx) (.int .i64 f) (.int .i64 d) (slW sd) 136
  have hP := hP.below hb0
  have HIB : Hid (IsB c) := hI.2
  have hI := hI.below hb0 (Nat.le_refl _)
  have hz : w.heap.size + 1 ≤ (w.alloc (.cells #[.int .i64 bx, .int .i64 f, .int .i64 d, slW sd] 136)).heap.size := by simp
  go_enter Tryz.func115, Tryz.ntmps115
  go_wp2_with fail
  generalize w.alloc (.cells #[.int .i64 bx, .int .i64 f, .int .i64 d, slW sd] 136) = W at *
  refine (l1Copy_own sd c W hI hcl).mono ?_
  rintro e Y1 ⟨v1, rfl, hO1, hb1⟩
  obtain ⟨s1, rfl, hOB, hge1⟩ := hO1.slq HIB.out
  have hQ1 := hQ.below hb1 hQ.lt
  have hP1 := hP.below hb1
  have hz1 := Nat.le_trans hz hb1.size
  have hge : ∀ k ∈ blkS s1, w.heap.size ≤ k := fun k hk => by have := (hge1 k hk).1; omega
  have hof : ∀ k ∈ blkS s1, k ∉ blkS sm ++ fpM ms := fun k hk hc => by have h1 := hge k hk; have h2 := hlt k (List.mem_append_right _ hc); omega
  have hne1 : ∀ k ∈ blkS s1, k ≠ w.heap.size := fun k hk => by have := (hge1 k hk).1; omega
  have fz3 := hQ1.2 3
  have cL := hQ1.1.2.2.2
  dsimp only at cL
  have hQ2 := hQ1.set3 (slW s1)
  have hP2 := hP1.far w.heap.size 3 (slW s1) (Nat.le_refl _) hlt
  have hOB2 : OwB (Y1.setCell ⟨w.heap.size, 3, none⟩ (slW s1)) s1 c := hOB.keep fun k hk => Below.heap_setCell _ _ _ _ (fun e => hne1 k hk e)
  have hz2 : w.heap.size + 1 ≤ (Y1.setCell ⟨w.heap.size, 3, none⟩ (slW s1)).heap.size := by simpa using hz1
  clear hP hQ hO1 hb1 hI hge1 c0 c1 c2 c3 hb0 hP1 hQ1 hOB
  go_wp2_with fail
  generalize Y1.setCell ⟨w.heap.size, 3, none⟩ (slW s1) = Y at *
  have hb1 : Below Y.heap.size Y Y.drew := (Below.refl _ _).drew
  have hQ := hQ2.below hb1 hQ2.lt
  have hP := hP2.below hb1
  have hOB := hOB2.below hb1 (Nat.le_refl _)
  have hz := Nat.le_trans hz2 hb1.size
  clear hb1 hQ2 hP2 hOB2 hz2 cL fz3
  refine wp_region_held_drew (S := fun w' => w'.cell? ⟨w.heap.size, 0, none⟩ = some (.int .i64 bx) ∧ w'.cell? ⟨w.heap.size, 1, none⟩ = some (.int .i64 f) ∧ w'.cell? ⟨w.heap.size, 2, none⟩ = some (.int .i64 d) ∧ w'.cell? ⟨w.heap.size, 3, none⟩ = some (slW s1)) (by kernel_rfl) ?hS19 (fun hHeld => ?_)
  case hS19 => exact hQ.1
  refine tk (i := 0) (v := ?_) rfl (Or.inl ⟨by rfl, ?hy20⟩) ?ty20
  case hy20 => (intro w5 hSw; obtain ⟨p0, p1, p2, p3⟩ := hSw; go_simp; all_goals with_reducible rfl)
  simp only [Act.put, J1, J2, J4, J5, J6]
  refine tk (i := 1) (v := ?_) rfl (Or.inl ⟨by rfl, ?hy21⟩) ?ty21
  case hy21 => (intro w5 hSw; obtain ⟨p0, p1, p2, p3⟩ := hSw; go_simp; all_goals with_reducible rfl)
  simp only [Act.put, J1, J2, J3, J4, J5, J6]
  refine tk (i := 2) (v := ?_) rfl (Or.inl ⟨by rfl, ?hy22⟩) ?ty22
  case hy22 => (intro w5 hSw; obtain ⟨p0, p1, p2, p3⟩ := hSw; go_simp; all_goals with_reducible rfl)
  simp only [Act.put, J1, J2, J3, J4, J5, J6]
  refine tk (i := 3) (v := ?_) rfl (Or.inl ⟨by rfl, ?hy23⟩) ?ty23
  case hy23 => (intro w5 hSw; obtain ⟨p0, p1, p2, p3⟩ := hSw; go_simp; all_goals with_reducible rfl)
  simp only [Act.put, J1, J2, J3, J4, J5, J6]
  refine tk (i := 5) (v := ?_) rfl (Or.inl ⟨by rfl, ?hy24⟩) ?ty24
  case hy24 => (intro w5 hSw; obtain ⟨p0, p1, p2, p3⟩ := hSw; go_simp; all_goals with_reducible rfl)
  simp only [Act.put, J1, J2, J3, J4, J5, J6]
  generalize World.drew Y = Y0 at *
  refine wpAnyH_ready (rs := [4, 6]) (by kernel_rfl) (by simp) ?_
  refine AllReadyH.cons rfl (fun K hK => ?_) (AllReadyH.cons rfl (fun K hK => ?_) AllReadyH.nil)
  · have cL : _ = some (nthQ ql i).2.2.2 := (ownQ_cells hP.row i hqn).2.2.2.2
    rw [hql] at cL
    go_simp
    refine hK.out _ _ hQ.1 (fun hHeld => ?_)
    clear hK K
    refine wpAnyH_ready (rs := [6]) (by kernel_rfl) (by simp) ?_
    refine AllReadyH.cons rfl (fun K hK => ?_) AllReadyH.nil
    have hb3 : Below Y0.heap.size Y0 (Y0.alloc (.cells #[.int .i64 bx, .int .i64 f, .int .i64 d, slW s1] 136)) := (Below.refl _ _).alloc (Nat.le_refl _) _
    have hQ3 := Qc.new Y0 (.int .i64 bx) (.int .i64 f) (.int .i64 d) (slW s1) 136
    have hP3 := hP.below hb3
    have hq3 := hQ.below hb3 hQ.lt
    have hOB3 := hOB.below hb3 (Nat.le_refl _)
    have hz3 := Nat.le_trans hz hb3.size
    go_simp
    generalize World.alloc Y0 (.cells #[.int .i64 bx, .int .i64 f, .int .i64 d, slW s1] 136) = Y3 at *
    refine hK.out _ _ hq3.1 (fun hHeld => ?_)
    clear hK K
    clear hP hQ hOB hb3
    refine wpAnyH_ready (rs := [7]) (by kernel_rfl) (by simp) ?_
    refine AllReadyH.cons rfl (fun K hK => ?_) AllReadyH.nil
    refine step4k rfl _ _ 126 136 rfl _ 48 rfl (by decide) Tryz.underlying126 infoMessage sm (ms.map Dm.q) (by rfl) (by rw [List.length_map]; exact hP3.hm.1) Y0.heap.size (Dm.q ⟨⟨bx, f, d, c⟩, s1⟩) (by rfl) hQ3 (Dm.one _) (by rw [List.length_map]; exact hml) ?_
    intro s2 Y4 hrow hgr hloc hold
    obtain ⟨hP4, hnd4, hm4⟩ := hP3.app (m := ⟨bx, f, d, c⟩) hM (fun k hk => List.mem_append_right _ (List.mem_append_left _ hk)) (fun k hk hc => hoff k hk (List.mem_append_left _ hc)) HB.out.2.2.1 hOB3 hof hrow hgr hloc hold
    have hl6 : blkS s2 = blkS sm ∨ ∀ g ∈ blkS s2, w.heap.size ≤ g := hloc.imp id (fun e g hg => by rw [e, List.mem_singleton] at hg; omega)
    have hq4 := hq3.grown hgr (fun e => by have := hlt _ (List.mem_append_right _ (List.mem_append_left _ (mem_blkS.2 e.symm))); omega)
    refine hK.out _ _ hq4.1 (fun hHeld => ?_)
    clear hK K
    clear hrow hgr hloc hold hP3 hOB3 hq3
    refine tk (i := 8) (v := ?_) rfl (Or.inl ⟨by rfl, ?hy25⟩) ?ty25
    case hy25 => (intro w5 hSw; obtain ⟨p0, p1, p2, p3⟩ := hSw; go_simp; all_goals with_reducible rfl)
    simp only [Act.put, J1, J2, J3, J4, J5, J6]
    refine tk (i := 9) (v := ?_) rfl (Or.inl ⟨by rfl, ?hy26⟩) ?ty26
    case hy26 => (intro w5 hSw; obtain ⟨p0, p1, p2, p3⟩ := hSw; go_simp; all_goals with_reducible rfl)
    simp only [Act.put, J1, J2, J3, J4, J5, J6]
    have fz : Y4.frozen? ⟨g, i * 4 + 3, none⟩ = false := hP4.row.frozenAt _
    have e3 : _ = some (nthQ ql i).2.2.2 := (ownQ_cells hP4.row i hqn).2.2.2.2
    rw [hql] at e3
    refine wpAnyH_ready (rs := [10]) (by kernel_rfl) (by simp) ?_
    refine AllReadyH.cons rfl (fun K hK => ?_) AllReadyH.nil
    have hP5 := hP4.set3 hqn (List.mem_append_left _ (by simp [blkS])) (slW s2)
    have hq5 := hq4.far g (i * 4 + 3) (slW s2) (by omega)
    go_simp
    generalize World.setCell Y4 ⟨g, i * 4 + 3, none⟩ (slW s2) = Y5 at *
    refine hK.out _ _ hq5.1 (fun hHeld => ?_)
    clear hK K
    refine wpAnyH_done (by kernel_rfl) ?_ _
    clear hHeld fz e3 hP4 hq4
    rw [hql] at hP5
    have hqn5 : i < (ql.set i (.string bn, .int .i64 bv, .int .i64 bx, slW s2)).length := by rw [List.length_set]; exact hqn
    obtain ⟨-, e0, e1, e2, e3⟩ := ownQ_cells hP5.row i hqn5
    rw [nthQ_set hqn] at e0 e1 e2 e3
    dsimp only at e0 e1 e2 e3
    have fz2 : Y5.frozen? ⟨g, i * 4 + 2, none⟩ = false := hP5.row.frozenAt _
    have hP6 := hP5.set2 hqn5 (List.mem_append_left _ (by simp [blkS])) (.int .i64 (bx + 1))
    rw [nthQ_set hqn, set_set] at hP6
    have hq6 := hq5.far g (i * 4 + 2) (.int .i64 (bx + 1)) (by omega)
    obtain ⟨b0, b1, b2, b3⟩ := hq6.1
    dsimp only at b0 b1 b2 b3
    have HE : Hid (_) := HF.out _ s2 _ (Dx.mk bn bv (bx + 1) s2 (ms ++ [Dm.mk (Msg.mk bx f d c) s1])) hP6 rfl rfl hnd4 (fun k hk => by rcases hm4 k hk with h | h | h; exact .inl h; exact .inr (hge k h); exact .inr (by omega)) (by simp) hl6
    clear hP5 hP6 hq5 hq6 HF hnd4 hm4 hQ3 hl6
    go_wp2
    go_ret
    exact HE.out
  · have hb3 : Below Y0.heap.size Y0 (Y0.alloc (.cells #[.int .i64 bx, .int .i64 f, .int .i64 d, slW s1] 136)) := (Below.refl _ _).alloc (Nat.le_refl _) _
    have hQ3 := Qc.new Y0 (.int .i64 bx) (.int .i64 f) (.int .i64 d) (slW s1) 136
    have hP3 := hP.below hb3
    have hq3 := hQ.below hb3 hQ.lt
    have hOB3 := hOB.below hb3 (Nat.le_refl _)
    have hz3 := Nat.le_trans hz hb3.size
    go_simp
    generalize World.alloc Y0 (.cells #[.int .i64 bx, .int .i64 f, .int .i64 d, slW s1] 136) = Y3 at *
    refine hK.out _ _ hq3.1 (fun hHeld => ?_)
    clear hK K
    clear hP hQ hOB hb3
    refine wpAnyH_ready (rs := [4]) (by kernel_rfl) (by simp) ?_
    refine AllReadyH.cons rfl (fun K hK => ?_) AllReadyH.nil
    have cL : _ = some (nthQ ql i).2.2.2 := (ownQ_cells hP3.row i hqn).2.2.2.2
    rw [hql] at cL
    go_simp
    refine hK.out _ _ hq3.1 (fun hHeld => ?_)
    clear hK K
    refine wpAnyH_ready (rs := [7]) (by kernel_rfl) (by simp) ?_
    refine AllReadyH.cons rfl (fun K hK => ?_) AllReadyH.nil
    refine step4k rfl _ _ 126 136 rfl _ 48 rfl (by decide) Tryz.underlying126 infoMessage sm (ms.map Dm.q) (by rfl) (by rw [List.length_map]; exact hP3.hm.1) Y0.heap.size (Dm.q ⟨⟨bx, f, d, c⟩, s1⟩) (by rfl) hQ3 (Dm.one _) (by rw [List.length_map]; exact hml) ?_
    intro s2 Y4 hrow hgr hloc hold
    obtain ⟨hP4, hnd4, hm4⟩ := hP3.app (m := ⟨bx, f, d, c⟩) hM (fun k hk => List.mem_append_right _ (List.mem_append_left _ hk)) (fun k hk hc => hoff k hk (List.mem_append_left _ hc)) HB.out.2.2.1 hOB3 hof hrow hgr hloc hold
    have hl6 : blkS s2 = blkS sm ∨ ∀ g ∈ blkS s2, w.heap.size ≤ g := hloc.imp id (fun e g hg => by rw [e, List.mem_singleton] at hg; omega)
    have hq4 := hq3.grown hgr (fun e => by have := hlt _ (List.mem_append_right _ (List.mem_append_left _ (mem_blkS.2 e.symm))); omega)
    refine hK.out _ _ hq4.1 (fun hHeld => ?_)
    clear hK K
    clear hrow hgr hloc hold hP3 hOB3 hq3
    refine tk (i := 8) (v := ?_) rfl (Or.inl ⟨by rfl, ?hy27⟩) ?ty27
    case hy27 => (intro w5 hSw; obtain ⟨p0, p1, p2, p3⟩ := hSw; go_simp; all_goals with_reducible rfl)
    simp only [Act.put, J1, J2, J3, J4, J5, J6]
    refine tk (i := 9) (v := ?_) rfl (Or.inl ⟨by rfl, ?hy28⟩) ?ty28
    case hy28 => (intro w5 hSw; obtain ⟨p0, p1, p2, p3⟩ := hSw; go_simp; all_goals with_reducible rfl)
    simp only [Act.put, J1, J2, J3, J4, J5, J6]
    have fz : Y4.frozen? ⟨g, i * 4 + 3, none⟩ = false := hP4.row.frozenAt _
    have e3 : _ = some (nthQ ql i).2.2.2 := (ownQ_cells hP4.row i hqn).2.2.2.2
    rw [hql] at e3
    refine wpAnyH_ready (rs := [10]) (by kernel_rfl) (by simp) ?_
    refine AllReadyH.cons rfl (fun K hK => ?_) AllReadyH.nil
    have hP5 := hP4.set3 hqn (List.mem_append_left _ (by simp [blkS])) (slW s2)
    have hq5 := hq4.far g (i * 4 + 3) (slW s2) (by omega)
    go_simp
    generalize World.setCell Y4 ⟨g, i * 4 + 3, none⟩ (slW s2) = Y5 at *
    refine hK.out _ _ hq5.1 (fun hHeld => ?_)
    clear hK K
    refine wpAnyH_done (by kernel_rfl) ?_ _
    clear hHeld fz e3 hP4 hq4
    rw [hql] at hP5
    have hqn5 : i < (ql.set i (.string bn, .int .i64 bv, .int .i64 bx, slW s2)).length := by rw [List.length_set]; exact hqn
    obtain ⟨-, e0, e1, e2, e3⟩ := ownQ_cells hP5.row i hqn5
    rw [nthQ_set hqn] at e0 e1 e2 e3
    dsimp only at e0 e1 e2 e3
    have fz2 : Y5.frozen? ⟨g, i * 4 + 2, none⟩ = false := hP5.row.frozenAt _
    have hP6 := hP5.set2 hqn5 (List.mem_append_left _ (by simp [blkS])) (.int .i64 (bx + 1))
    rw [nthQ_set hqn, set_set] at hP6
    have hq6 := hq5.far g (i * 4 + 2) (.int .i64 (bx + 1)) (by omega)
    obtain ⟨b0, b1, b2, b3⟩ := hq6.1
    dsimp only at b0 b1 b2 b3
    have HE : Hid (_) := HF.out _ s2 _ (Dx.mk bn bv (bx + 1) s2 (ms ++ [Dm.mk (Msg.mk bx f d c) s1])) hP6 rfl rfl hnd4 (fun k hk => by rcases hm4 k hk with h | h | h; exact .inl h; exact .inr (hge k h); exact .inr (by omega)) (by simp) hl6
    clear hP5 hP6 hq5 hq6 HF hnd4 hm4 hQ3 hl6
    go_wp2
    go_ret
    exact HE.out
end Go.Proofs.YtejbbnpgghpgaaaGreatDoor
