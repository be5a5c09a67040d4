/- The path of a part, the model's: l5Path. -/
import Derived.Test.YtkjnhcnbbojajaaGreatDoorPdl
import Derived.Test.YtkjnhcnbbojajaaGreatDoorMemFToOpnF
import Derived.Test.YtkjnhcnbbojajaaGreatDoorFdoToFar
import Derived.Deep.RegionHeld3
namespace Go.Proofs.YtkjnhcnbbojajaaGreatDoor
open Go.RowKit

set_option maxHeartbeats 3200000 in
set_option maxRecDepth 100000 in
theorem l5Path_any (g N cp : Nat) (d : List Nat) (l : List PtP) (hok : OkP d l) (hN : l.length = N) (hN8 : N ≤ 8) : ∀ (n : Nat) (w : World), n < N → RdP w (some ⟨g, 0, none⟩) l →
    Calls Tryz.prog 83 #[.slice (some ⟨g, 0, none⟩) N cp, .int .i64 (n : Int)] w fun e w' => ∃ v, e = .returned v ∧ OwnI w' w.heap.size v (pthV l n) ∧ Below w.heap.size w w' := by
  intro n
  induction n using Nat.strongRecOn with
  | ind n ih =>
  intro w hn hrd
  obtain ⟨g', hg', hglt, hcell⟩ := hrd.at_ (by omega)
  cases hg'
  obtain ⟨x0, x1, x2, x3, x4, x5, x6⟩ := hcell n (by omega)
  have hnN : (n : Int) < (N : Int) := by omega
  clear hcell x0 x1 x2 x3 x4
  rcases (hok n (by omega)).2 with ⟨hup, -⟩ | ⟨u, hup, hu⟩
  · have hv : pthV l n = [] := pthV_top (by omega)
    rw [hup] at x5
    rw [hv]
    clear ih hup hv x6
    go_enter Tryz.func83, Tryz.ntmps83
    go_wp2
    go_ret
    exact ⟨_, rfl, OwnI.lit w _ (Nat.le_refl _) #[] [] rfl (by decide), (Below.refl _ _).alloc (Nat.le_refl _) _⟩
  · have HS : Hid (pthV l n = pthV l u ++ [(nthP l n).2.2.2]) := pthV_step hok (by omega) hup hu
    rw [hup] at x5
    have hle := pthV_le hok N u (by omega) (by omega)
    have hneg : ¬ (u : Int) < 0 := by omega
    generalize (nthP l n).2.2.2 = nu at *
    have hpl : (pthV l u ++ [nu]).length = (pthV l u).length + 1 := by simp
    clear hup
    go_enter Tryz.func83, Tryz.ntmps83
    go_wp2_with fail
    refine wp_region_held_drew (S := (fun w' => w'.cell? ⟨g, n * 7 + 5, none⟩ = some (.int .i64 (u : Int)) ∧ w'.cell? ⟨g, n * 7 + 6, none⟩ = some (.int .i64 nu))) (by kernel_rfl) ?hS1 (fun hHeld => ?_)
    case hS1 => exact ⟨x5, x6⟩
    refine wpAnyH_take (i := 0) (v := ?_) rfl (by kernel_rfl) (by kernel_rfl) (by kernel_rfl) (fun _ _ _ h => h) (Or.inl ⟨by rfl, ?hy2⟩) (by assumption) ?ty2
    case hy2 => (intro w hSw; (try dsimp only at hSw); go_simp; all_goals with_reducible rfl)
    simp only [Act.put, List.getElem_toArray, List.getElem_cons_zero, List.setIfInBounds_toArray, List.set_cons_zero, List.set_cons_succ]
    refine wpAnyH_take (i := 1) (v := ?_) rfl (by kernel_rfl) (by kernel_rfl) (by kernel_rfl) (fun _ _ _ h => h) (Or.inl ⟨by rfl, ?hy3⟩) (by assumption) ?ty3
    case hy3 => (intro w hSw; (try dsimp only at hSw); go_simp; all_goals with_reducible rfl)
    simp only [Act.put, List.getElem_toArray, List.getElem_cons_zero, List.getElem_cons_succ, List.setIfInBounds_toArray, List.set_cons_zero, List.set_cons_succ]
    refine wpAnyH_take (i := 2) (v := ?_) rfl (by kernel_rfl) (by kernel_rfl) (by kernel_rfl) (fun _ _ _ h => h) (Or.inl ⟨by rfl, ?hy4⟩) (by assumption) ?ty4
    case hy4 => (intro w hSw; (try dsimp only at hSw); go_simp; all_goals with_reducible rfl)
    simp only [Act.put, List.getElem_toArray, List.getElem_cons_zero, List.getElem_cons_succ, List.setIfInBounds_toArray, List.set_cons_zero, List.set_cons_succ]
    refine wpAnyH_take (i := 3) (v := ?_) rfl (by kernel_rfl) (by kernel_rfl) (by kernel_rfl) (fun _ _ _ h => h) (Or.inl ⟨by rfl, ?hy5⟩) (by assumption) ?ty5
    case hy5 => (intro w hSw; (try dsimp only at hSw); go_simp; all_goals with_reducible rfl)
    simp only [Act.put, List.getElem_toArray, List.getElem_cons_zero, List.getElem_cons_succ, List.setIfInBounds_toArray, List.set_cons_zero, List.set_cons_succ]
    refine wpAnyH_take (i := 4) (v := ?_) rfl (by kernel_rfl) (by kernel_rfl) (by kernel_rfl) (fun _ _ _ h => h) (Or.inl ⟨by rfl, ?hy6⟩) (by assumption) ?ty6
    case hy6 => (intro w hSw; (try dsimp only at hSw); go_simp; all_goals with_reducible rfl)
    simp only [Act.put, List.getElem_toArray, List.getElem_cons_zero, List.getElem_cons_succ, List.setIfInBounds_toArray, List.set_cons_zero, List.set_cons_succ]
    refine wpAnyH_take (i := 5) (v := ?_) rfl (by kernel_rfl) (by kernel_rfl) (by kernel_rfl) (fun _ _ _ h => h) (Or.inl ⟨by rfl, ?hy7⟩) (by assumption) ?ty7
    case hy7 => (intro w hSw; (try dsimp only at hSw); go_simp; all_goals with_reducible rfl)
    simp only [Act.put, List.getElem_toArray, List.getElem_cons_zero, List.getElem_cons_succ, List.setIfInBounds_toArray, List.set_cons_zero, List.set_cons_succ]
    refine wpAnyH_take (i := 7) (v := ?_) rfl (by kernel_rfl) (by kernel_rfl) (by kernel_rfl) (fun _ _ _ h => h) (Or.inl ⟨by rfl, ?hy8⟩) (by assumption) ?ty8
    case hy8 => (intro w hSw; (try dsimp only at hSw); go_simp; all_goals with_reducible rfl)
    simp only [Act.put, List.getElem_toArray, List.getElem_cons_zero, List.getElem_cons_succ, List.setIfInBounds_toArray, List.set_cons_zero, List.set_cons_succ]
    refine wpAnyH_take (i := 8) (v := ?_) rfl (by kernel_rfl) (by kernel_rfl) (by kernel_rfl) (fun _ _ _ h => h) (Or.inl ⟨by rfl, ?hy9⟩) (by assumption) ?ty9
    case hy9 => (intro w hSw; (try dsimp only at hSw); go_simp; all_goals with_reducible rfl)
    simp only [Act.put, List.getElem_toArray, List.getElem_cons_zero, List.getElem_cons_succ, List.setIfInBounds_toArray, List.set_cons_zero, List.set_cons_succ]
    refine wpAnyH_take (i := 9) (v := ?_) rfl (by kernel_rfl) (by kernel_rfl) (by kernel_rfl) (fun _ _ _ h => h) (Or.inl ⟨by rfl, ?hy10⟩) (by assumption) ?ty10
    case hy10 => (intro w hSw; (try dsimp only at hSw); go_simp; all_goals with_reducible rfl)
    simp only [Act.put, List.getElem_toArray, List.getElem_cons_zero, List.getElem_cons_succ, List.setIfInBounds_toArray, List.set_cons_zero, List.set_cons_succ]
    refine wpAnyH_take (i := 10) (v := ?_) rfl (by kernel_rfl) (by kernel_rfl) (by kernel_rfl) (fun _ _ _ h => h) (Or.inl ⟨by rfl, ?hy11⟩) (by assumption) ?ty11
    case hy11 => (intro w hSw; (try dsimp only at hSw); go_simp; all_goals with_reducible rfl)
    simp only [Act.put, List.getElem_toArray, List.getElem_cons_zero, List.getElem_cons_succ, List.setIfInBounds_toArray, List.set_cons_zero, List.set_cons_succ]
    refine wpAnyH_take (i := 11) (v := ?_) rfl (by kernel_rfl) (by kernel_rfl) (by kernel_rfl) (fun _ _ _ h => h) (Or.inl ⟨by rfl, ?hy12⟩) (by assumption) ?ty12
    case hy12 => (intro w hSw; (try dsimp only at hSw); go_simp; all_goals with_reducible rfl)
    simp only [Act.put, List.getElem_toArray, List.getElem_cons_zero, List.getElem_cons_succ, List.setIfInBounds_toArray, List.set_cons_zero, List.set_cons_succ]
    refine wpAnyH_ready (rs := [6, 12]) (by kernel_rfl) (by simp) ?_
    refine AllReadyH.cons rfl (fun K hK => ?_) (AllReadyH.cons rfl (fun K hK => ?_) AllReadyH.nil)
    · go_simp
      refine (ih u hu w.drew (by omega) hrd).mono ?_
      rintro e w1 ⟨v, rfl, ho, hb⟩
      have hbw : Below w.heap.size w w1 := (Below.refl _ _).drew.trans hb
      refine hK.out _ _ ⟨(hbw.cell (p := ⟨g, n * 7 + 5, none⟩) hglt).trans x5, (hbw.cell (p := ⟨g, n * 7 + 6, none⟩) hglt).trans x6⟩ (fun hHeld => ?_)
      clear hK K
      refine wpAnyH_ready (rs := [12]) (by kernel_rfl) (by simp) ?_
      refine AllReadyH.cons rfl (fun K hK => ?_) AllReadyH.nil
      go_simp
      have hbA : Below w.heap.size w (w1.alloc (.cells #[.int .i64 nu] 2)) := hbw.alloc hbw.size _
      refine hK.out _ _ ⟨(hbA.cell (p := ⟨g, n * 7 + 5, none⟩) hglt).trans x5, (hbA.cell (p := ⟨g, n * 7 + 6, none⟩) hglt).trans x6⟩ (fun hHeld => ?_)
      clear hK K
      have ho1 : OwnI w1 w.heap.size v (pthV l u) := ho
      obtain ⟨a1, c1, hv1, -, -⟩ := ho1.form
      subst hv1
      refine wpAnyH_ready (rs := [13]) (by kernel_rfl) (by simp) ?_
      refine AllReadyH.cons rfl (fun K hK => ?_) AllReadyH.nil
      refine step_appI (by rfl) _ _ (by rfl) w.heap.size _ (pthV l u) (by rfl) (ho1.alloc _) ⟨w1.heap.size, 0, none⟩ 1 1 [nu] (by rfl) (by rfl) (new_cellsI (new := [nu]) rfl 1 rfl) (by omega) (by have := hbw.size; first | omega | (simp; omega)) ?_
      intro v' w3 hown' hb'
      have hb3 := hbA.trans hb'
      obtain ⟨a3, c3, hv3, -, -⟩ := hown'.form
      rw [hpl] at hv3
      subst hv3
      refine hK.out _ _ ⟨(hb3.cell (p := ⟨g, n * 7 + 5, none⟩) hglt).trans x5, (hb3.cell (p := ⟨g, n * 7 + 6, none⟩) hglt).trans x6⟩ (fun hHeld => ?_)
      clear hK K
      refine wpAnyH_take (i := 14) (v := ?_) rfl (by kernel_rfl) (by kernel_rfl) (by kernel_rfl) (fun _ _ _ h => h) (Or.inl ⟨by rfl, ?hy13⟩) (by assumption) ?ty13
      case hy13 => (intro w hSw; (try dsimp only at hSw); go_simp; all_goals with_reducible rfl)
      simp only [Act.put, List.getElem_toArray, List.getElem_cons_zero, List.getElem_cons_succ, List.setIfInBounds_toArray, List.set_cons_zero, List.set_cons_succ]
      refine wpAnyH_done (by kernel_rfl) ?_ _
      clear hHeld
      have HE : Hid (OwnI w3 w.heap.size (.slice a3 ((pthV l u).length + 1) c3) (pthV l n)) := by show OwnI _ _ _ _; rw [HS.out]; exact hown'
      clear hown'
      go_wp2
      go_ret
      exact ⟨_, rfl, HE.out, hb3⟩
    · go_simp
      have hbA : Below w.heap.size w (w.drew.alloc (.cells #[.int .i64 nu] 2)) := (Below.refl _ _).drew.alloc (Nat.le_refl _) _
      refine hK.out _ _ ⟨(hbA.cell (p := ⟨g, n * 7 + 5, none⟩) hglt).trans x5, (hbA.cell (p := ⟨g, n * 7 + 6, none⟩) hglt).trans x6⟩ (fun hHeld => ?_)
      clear hK K
      refine wpAnyH_ready (rs := [6]) (by kernel_rfl) (by simp) ?_
      refine AllReadyH.cons rfl (fun K hK => ?_) AllReadyH.nil
      go_simp
      refine (ih u hu _ (by omega) (hrd.below hbA)).mono ?_
      rintro e w1 ⟨v, rfl, ho, hb⟩
      have hbw : Below w.heap.size w w1 := hbA.trans (hb.mono (by rw [World.size_alloc]; exact Nat.le_succ _))
      refine hK.out _ _ ⟨(hbw.cell (p := ⟨g, n * 7 + 5, none⟩) hglt).trans x5, (hbw.cell (p := ⟨g, n * 7 + 6, none⟩) hglt).trans x6⟩ (fun hHeld => ?_)
      clear hK K
      have ho1 : OwnI w1 w.heap.size v (pthV l u) := row_low ho (by rw [World.size_alloc]; exact Nat.le_succ _)
      obtain ⟨a1, c1, hv1, -, -⟩ := ho1.form
      subst hv1
      have hnq : ∀ j, j < 1 → w1.cell? ((⟨w.heap.size, 0, none⟩ : Addr).add j) = some (.int .i64 (nthI [nu] j)) := fun j hj => by
        have h0 := new_cellsI (wr := w.drew) (cs := #[.int .i64 nu]) (new := [nu]) rfl 1 rfl j hj
        rw [Go.WideShapes.add_plain] at h0 ⊢
        exact (hb.cell (p := ⟨w.heap.size, 0 + j, none⟩) (by rw [World.size_alloc]; exact Nat.lt_succ_self _)).trans h0
      refine wpAnyH_ready (rs := [13]) (by kernel_rfl) (by simp) ?_
      refine AllReadyH.cons rfl (fun K hK => ?_) AllReadyH.nil
      refine step_appI (by rfl) _ _ (by rfl) w.heap.size _ (pthV l u) (by rfl) ho1 ⟨w.heap.size, 0, none⟩ 1 1 [nu] (by rfl) (by rfl) hnq (by omega) (by have := hbw.size; first | omega | (simp; omega)) ?_
      intro v' w3 hown' hb'
      have hb3 := hbw.trans hb'
      obtain ⟨a3, c3, hv3, -, -⟩ := hown'.form
      rw [hpl] at hv3
      subst hv3
      refine hK.out _ _ ⟨(hb3.cell (p := ⟨g, n * 7 + 5, none⟩) hglt).trans x5, (hb3.cell (p := ⟨g, n * 7 + 6, none⟩) hglt).trans x6⟩ (fun hHeld => ?_)
      clear hK K
      refine wpAnyH_take (i := 14) (v := ?_) rfl (by kernel_rfl) (by kernel_rfl) (by kernel_rfl) (fun _ _ _ h => h) (Or.inl ⟨by rfl, ?hy14⟩) (by assumption) ?ty14
      case hy14 => (intro w hSw; (try dsimp only at hSw); go_simp; all_goals with_reducible rfl)
      simp only [Act.put, List.getElem_toArray, List.getElem_cons_zero, List.getElem_cons_succ, List.setIfInBounds_toArray, List.set_cons_zero, List.set_cons_succ]
      refine wpAnyH_done (by kernel_rfl) ?_ _
      clear hHeld
      have HE : Hid (OwnI w3 w.heap.size (.slice a3 ((pthV l u).length + 1) c3) (pthV l n)) := by show OwnI _ _ _ _; rw [HS.out]; exact hown'
      clear hown'
      go_wp2
      go_ret
      exact ⟨_, rfl, HE.out, hb3⟩
end Go.Proofs.YtkjnhcnbbojajaaGreatDoor
