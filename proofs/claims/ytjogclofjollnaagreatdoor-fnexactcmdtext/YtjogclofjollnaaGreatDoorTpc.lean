/- A term's own fault: the program's side; no conditions beyond those that each fact names. -/
import Derived.Test.YtjogclofjollnaaGreatDoorTpb
namespace Go.Proofs.YtjogclofjollnaaGreatDoor
open Go.RowKit
set_option linter.unusedVariables false
set_option maxHeartbeats 3200000 in
set_option maxRecDepth 100000 in
theorem ownFault_out (k n l r : Int) (p : SlT) (w : World) (rv : Int) (HR : Hid (rv = 1)) (HB : bty k 1 11 = false) :
  Calls Tryz.prog 116 #[.agg #[.int .i64 k, .int .i64 n, slW p.1, slW p.2, .int .i64 l, .int .i64 r]] w fun e w' => e = .returned (.int .i64 rv) ∧ Below w.heap.size w w' := by
 have hbW : Below w.heap.size w (w.alloc (.cells #[.int .i64 k, .int .i64 n, slW p.1, slW p.2, .int .i64 l, .int .i64 r] 74)) := (Below.refl _ _).alloc (Nat.le_refl _) _
 have hQ := Qu.new w (.int .i64 k) (.int .i64 n) (slW p.1) (slW p.2) (.int .i64 l) (.int .i64 r) 74
 go_enter Tryz.func116, Tryz.ntmps116
 go_wp2_with fail
 generalize w.alloc (.cells #[.int .i64 k, .int .i64 n, slW p.1, slW p.2, .int .i64 l, .int .i64 r] 74) = W at *
 refine wp_region_held_drew (S := fun w' => w'.cell? ⟨w.heap.size, 0, none⟩ = some (.int .i64 k) ∧ w'.cell? ⟨w.heap.size, 1, none⟩ = some (.int .i64 n) ∧ w'.cell? ⟨w.heap.size, 2, none⟩ = some (slW p.1) ∧ w'.cell? ⟨w.heap.size, 3, none⟩ = some (slW p.2) ∧ w'.cell? ⟨w.heap.size, 4, none⟩ = some (.int .i64 l) ∧ w'.cell? ⟨w.heap.size, 5, none⟩ = some (.int .i64 r)) (by kernel_rfl) ?hS1 (fun hHeld => ?_)
 case hS1 => exact hQ
 refine wpAnyH_take (i := 0) (v := ?_) rfl (by kernel_rfl) (by kernel_rfl) (by kernel_rfl) (fun _ _ _ h => h) (Or.inl ⟨by kernel_rfl, ?hy2⟩) (by assumption) ?ty2
 case hy2 => (intro w5 hSw; (try dsimp only at hSw); obtain ⟨s0, s1, s2, s3, s4, s5⟩ := hSw; go_simp; all_goals with_reducible rfl)
 simp only [Act.put, List.getElem_toArray, List.getElem_cons_zero, List.setIfInBounds_toArray, List.set_cons_zero, List.set_cons_succ]
 refine wpAnyH_take (i := 1) (v := ?_) rfl (by kernel_rfl) (by kernel_rfl) (by kernel_rfl) (fun _ _ _ h => h) (Or.inl ⟨by kernel_rfl, ?hy3⟩) (by assumption) ?ty3
 case hy3 => (intro w5 hSw; (try dsimp only at hSw); obtain ⟨s0, s1, s2, s3, s4, s5⟩ := hSw; go_simp; all_goals with_reducible rfl)
 simp only [Act.put, List.getElem_toArray, List.getElem_cons_zero, List.getElem_cons_succ, List.setIfInBounds_toArray, List.set_cons_zero, List.set_cons_succ]
 have hQ0 : Qu W.drew w.heap.size ⟨.int .i64 k, .int .i64 n, slW p.1, slW p.2, .int .i64 l, .int .i64 r⟩ := hQ
 have hb0 : Below w.heap.size w W.drew := hbW.drew
 clear hQ hbW
 generalize W.drew = Y at *
 refine wpAnyH_ready (rs := [2]) (by kernel_rfl) (by simp) ?_
 refine AllReadyH.cons rfl (fun K hK => ?_) AllReadyH.nil
 go_simp
 refine (isBetween_y _ _ _ _).mono ?_
 rintro e w1 ⟨rfl, rfl⟩
 rw [HB]
 refine hK.out _ _ hQ0 (fun hHeld => ?_)
 clear hK K
 refine wpAnyH_take (i := 3) (v := ?_) rfl (by kernel_rfl) (by kernel_rfl) (by kernel_rfl) (fun _ _ _ h => h) (Or.inl ⟨by kernel_rfl, ?hy4⟩) (by assumption) ?ty4
 case hy4 => (intro w5 hSw; (try dsimp only at hSw); obtain ⟨s0, s1, s2, s3, s4, s5⟩ := hSw; go_simp; all_goals with_reducible rfl)
 simp only [Act.put, List.getElem_toArray, List.getElem_cons_zero, List.getElem_cons_succ, List.setIfInBounds_toArray, List.set_cons_zero, List.set_cons_succ]
 refine wpAnyH_take (i := 4) (v := ?_) rfl (by kernel_rfl) (by kernel_rfl) (by kernel_rfl) (fun _ _ _ h => h) (Or.inl ⟨by kernel_rfl, ?hy5⟩) (by assumption) ?ty5
 case hy5 => (intro w5 hSw; (try dsimp only at hSw); obtain ⟨s0, s1, s2, s3, s4, s5⟩ := hSw; go_simp; all_goals with_reducible rfl)
 simp only [Act.put, List.getElem_toArray, List.getElem_cons_zero, List.getElem_cons_succ, List.setIfInBounds_toArray, List.set_cons_zero, List.set_cons_succ]
 refine wpAnyH_take (i := 5) (v := undef) rfl (by kernel_rfl) (by kernel_rfl) (by kernel_rfl) (fun _ _ _ h => h) (Or.inr ⟨by kernel_rfl, rfl⟩) (by assumption) ?_
 simp only [Act.put, List.getElem_toArray, List.getElem_cons_zero, List.getElem_cons_succ, List.setIfInBounds_toArray, List.set_cons_zero, List.set_cons_succ]
 refine wpAnyH_take (i := 6) (v := undef) rfl (by kernel_rfl) (by kernel_rfl) (by kernel_rfl) (fun _ _ _ h => h) (Or.inr ⟨by kernel_rfl, rfl⟩) (by assumption) ?_
 simp only [Act.put, List.getElem_toArray, List.getElem_cons_zero, List.getElem_cons_succ, List.setIfInBounds_toArray, List.set_cons_zero, List.set_cons_succ]
 refine wpAnyH_take (i := 7) (v := undef) rfl (by kernel_rfl) (by kernel_rfl) (by kernel_rfl) (fun _ _ _ h => h) (Or.inr ⟨by kernel_rfl, rfl⟩) (by assumption) ?_
 simp only [Act.put, List.getElem_toArray, List.getElem_cons_zero, List.getElem_cons_succ, List.setIfInBounds_toArray, List.set_cons_zero, List.set_cons_succ]
 refine wpAnyH_take (i := 8) (v := undef) rfl (by kernel_rfl) (by kernel_rfl) (by kernel_rfl) (fun _ _ _ h => h) (Or.inr ⟨by kernel_rfl, rfl⟩) (by assumption) ?_
 simp only [Act.put, List.getElem_toArray, List.getElem_cons_zero, List.getElem_cons_succ, List.setIfInBounds_toArray, List.set_cons_zero, List.set_cons_succ]
 refine wpAnyH_take (i := 9) (v := undef) rfl (by kernel_rfl) (by kernel_rfl) (by kernel_rfl) (fun _ _ _ h => h) (Or.inr ⟨by kernel_rfl, rfl⟩) (by assumption) ?_
 simp only [Act.put, List.getElem_toArray, List.getElem_cons_zero, List.getElem_cons_succ, List.setIfInBounds_toArray, List.set_cons_zero, List.set_cons_succ]
 refine wpAnyH_take (i := 10) (v := ?_) rfl (by kernel_rfl) (by kernel_rfl) (by kernel_rfl) (fun _ _ _ h => h) (Or.inl ⟨by kernel_rfl, ?hy6⟩) (by assumption) ?ty6
 case hy6 => (intro w5 hSw; (try dsimp only at hSw); obtain ⟨s0, s1, s2, s3, s4, s5⟩ := hSw; go_simp; all_goals with_reducible rfl)
 simp only [Act.put, List.getElem_toArray, List.getElem_cons_zero, List.getElem_cons_succ, List.setIfInBounds_toArray, List.set_cons_zero, List.set_cons_succ]
 refine wpAnyH_done (by kernel_rfl) ?_ _
 clear hHeld hQ0
 go_wp2
 go_ret
 exact ⟨by rw [HR.out]; rfl, hb0⟩
set_option maxHeartbeats 3200000 in
set_option maxRecDepth 100000 in
theorem ownFault_not (k n l r : Int) (p : SlT) (w : World) (o2 : TmR) (p2 : SlT) (rv : Int) (HR : Hid (rv = 1)) (HB : bty k 1 11 = true)
  (HO : ∀ w' : World, Calls Tryz.prog 132 #[.agg #[.int .i64 k, .int .i64 n, slW p.1, slW p.2, .int .i64 l, .int .i64 r]] w' fun e w'' => e = .returned (tmX o2 p2) ∧ Below w'.heap.size w' w'')
  (HS : ∀ w' : World, Below w.heap.size w w' → Calls Tryz.prog 131 #[.agg #[.int .i64 k, .int .i64 n, slW p.1, slW p.2, .int .i64 l, .int .i64 r], tmX o2 p2] w' fun e w'' => e = .returned (.bool false) ∧ Below w'.heap.size w' w'')
  :
  Calls Tryz.prog 116 #[.agg #[.int .i64 k, .int .i64 n, slW p.1, slW p.2, .int .i64 l, .int .i64 r]] w fun e w' => e = .returned (.int .i64 rv) ∧ Below w.heap.size w w' := by
 have hbW : Below w.heap.size w (w.alloc (.cells #[.int .i64 k, .int .i64 n, slW p.1, slW p.2, .int .i64 l, .int .i64 r] 74)) := (Below.refl _ _).alloc (Nat.le_refl _) _
 have hQ := Qu.new w (.int .i64 k) (.int .i64 n) (slW p.1) (slW p.2) (.int .i64 l) (.int .i64 r) 74
 go_enter Tryz.func116, Tryz.ntmps116
 go_wp2_with fail
 generalize w.alloc (.cells #[.int .i64 k, .int .i64 n, slW p.1, slW p.2, .int .i64 l, .int .i64 r] 74) = W at *
 refine wp_region_held_drew (S := fun w' => w'.cell? ⟨w.heap.size, 0, none⟩ = some (.int .i64 k) ∧ w'.cell? ⟨w.heap.size, 1, none⟩ = some (.int .i64 n) ∧ w'.cell? ⟨w.heap.size, 2, none⟩ = some (slW p.1) ∧ w'.cell? ⟨w.heap.size, 3, none⟩ = some (slW p.2) ∧ w'.cell? ⟨w.heap.size, 4, none⟩ = some (.int .i64 l) ∧ w'.cell? ⟨w.heap.size, 5, none⟩ = some (.int .i64 r)) (by kernel_rfl) ?hS7 (fun hHeld => ?_)
 case hS7 => exact hQ
 refine wpAnyH_take (i := 0) (v := ?_) rfl (by kernel_rfl) (by kernel_rfl) (by kernel_rfl) (fun _ _ _ h => h) (Or.inl ⟨by kernel_rfl, ?hy8⟩) (by assumption) ?ty8
 case hy8 => (intro w5 hSw; (try dsimp only at hSw); obtain ⟨s0, s1, s2, s3, s4, s5⟩ := hSw; go_simp; all_goals with_reducible rfl)
 simp only [Act.put, List.getElem_toArray, List.getElem_cons_zero, List.setIfInBounds_toArray, List.set_cons_zero, List.set_cons_succ]
 refine wpAnyH_take (i := 1) (v := ?_) rfl (by kernel_rfl) (by kernel_rfl) (by kernel_rfl) (fun _ _ _ h => h) (Or.inl ⟨by kernel_rfl, ?hy9⟩) (by assumption) ?ty9
 case hy9 => (intro w5 hSw; (try dsimp only at hSw); obtain ⟨s0, s1, s2, s3, s4, s5⟩ := hSw; go_simp; all_goals with_reducible rfl)
 simp only [Act.put, List.getElem_toArray, List.getElem_cons_zero, List.getElem_cons_succ, List.setIfInBounds_toArray, List.set_cons_zero, List.set_cons_succ]
 have hQ0 : Qu W.drew w.heap.size ⟨.int .i64 k, .int .i64 n, slW p.1, slW p.2, .int .i64 l, .int .i64 r⟩ := hQ
 have hb0 : Below w.heap.size w W.drew := hbW.drew
 clear hQ hbW
 generalize W.drew = Y at *
 refine wpAnyH_ready (rs := [2]) (by kernel_rfl) (by simp) ?_
 refine AllReadyH.cons rfl (fun K hK => ?_) AllReadyH.nil
 go_simp
 refine (isBetween_y _ _ _ _).mono ?_
 rintro e w1 ⟨rfl, rfl⟩
 rw [HB]
 refine hK.out _ _ hQ0 (fun hHeld => ?_)
 clear hK K
 refine wpAnyH_take (i := 3) (v := ?_) rfl (by kernel_rfl) (by kernel_rfl) (by kernel_rfl) (fun _ _ _ h => h) (Or.inl ⟨by kernel_rfl, ?hy10⟩) (by assumption) ?ty10
 case hy10 => (intro w5 hSw; (try dsimp only at hSw); obtain ⟨s0, s1, s2, s3, s4, s5⟩ := hSw; go_simp; all_goals with_reducible rfl)
 simp only [Act.put, List.getElem_toArray, List.getElem_cons_zero, List.getElem_cons_succ, List.setIfInBounds_toArray, List.set_cons_zero, List.set_cons_succ]
 refine wpAnyH_take (i := 4) (v := ?_) rfl (by kernel_rfl) (by kernel_rfl) (by kernel_rfl) (fun _ _ _ h => h) (Or.inl ⟨by kernel_rfl, ?hy11⟩) (by assumption) ?ty11
 case hy11 => (intro w5 hSw; (try dsimp only at hSw); obtain ⟨s0, s1, s2, s3, s4, s5⟩ := hSw; go_simp; all_goals with_reducible rfl)
 simp only [Act.put, List.getElem_toArray, List.getElem_cons_zero, List.getElem_cons_succ, List.setIfInBounds_toArray, List.set_cons_zero, List.set_cons_succ]
 refine wpAnyH_take (i := 5) (v := ?_) rfl (by kernel_rfl) (by kernel_rfl) (by kernel_rfl) (fun _ _ _ h => h) (Or.inl ⟨by kernel_rfl, ?hy12⟩) (by assumption) ?ty12
 case hy12 => (intro w5 hSw; (try dsimp only at hSw); obtain ⟨s0, s1, s2, s3, s4, s5⟩ := hSw; go_simp; all_goals with_reducible rfl)
 simp only [Act.put, List.getElem_toArray, List.getElem_cons_zero, List.getElem_cons_succ, List.setIfInBounds_toArray, List.set_cons_zero, List.set_cons_succ]
 refine wpAnyH_take (i := 6) (v := ?_) rfl (by kernel_rfl) (by kernel_rfl) (by kernel_rfl) (fun _ _ _ h => h) (Or.inl ⟨by kernel_rfl, ?hy13⟩) (by assumption) ?ty13
 case hy13 => (intro w5 hSw; (try dsimp only at hSw); obtain ⟨s0, s1, s2, s3, s4, s5⟩ := hSw; go_simp; all_goals with_reducible rfl)
 simp only [Act.put, List.getElem_toArray, List.getElem_cons_zero, List.getElem_cons_succ, List.setIfInBounds_toArray, List.set_cons_zero, List.set_cons_succ]
 refine wpAnyH_ready (rs := [7]) (by kernel_rfl) (by simp) ?_
 refine AllReadyH.cons rfl (fun K hK => ?_) AllReadyH.nil
 go_simp
 refine (HO _).mono ?_
 rintro e w2 ⟨rfl, hb2⟩
 have hQ2 := hQ0.below hb2 hQ0.lt
 have hB2 := hb0.trans (hb2.mono hb0.size)
 clear hb2 hQ0 hb0
 refine hK.out _ _ hQ2 (fun hHeld => ?_)
 clear hK K
 refine wpAnyH_ready (rs := [8]) (by kernel_rfl) (by simp) ?_
 refine AllReadyH.cons rfl (fun K hK => ?_) AllReadyH.nil
 go_simp
 refine (HS _ hB2).mono ?_
 rintro e w3 ⟨rfl, hb3⟩
 have hQ3 := hQ2.below hb3 hQ2.lt
 have hB3 := hB2.trans (hb3.mono hB2.size)
 clear hb3 hQ2 hB2
 refine hK.out _ _ hQ3 (fun hHeld => ?_)
 clear hK K
 refine wpAnyH_take (i := 9) (v := ?_) rfl (by kernel_rfl) (by kernel_rfl) (by kernel_rfl) (fun _ _ _ h => h) (Or.inl ⟨by kernel_rfl, ?hy14⟩) (by assumption) ?ty14
 case hy14 => (intro w5 hSw; (try dsimp only at hSw); obtain ⟨s0, s1, s2, s3, s4, s5⟩ := hSw; go_simp; all_goals with_reducible rfl)
 simp only [Act.put, List.getElem_toArray, List.getElem_cons_zero, List.getElem_cons_succ, List.setIfInBounds_toArray, List.set_cons_zero, List.set_cons_succ]
 refine wpAnyH_take (i := 10) (v := ?_) rfl (by kernel_rfl) (by kernel_rfl) (by kernel_rfl) (fun _ _ _ h => h) (Or.inl ⟨by kernel_rfl, ?hy15⟩) (by assumption) ?ty15
 case hy15 => (intro w5 hSw; (try dsimp only at hSw); obtain ⟨s0, s1, s2, s3, s4, s5⟩ := hSw; go_simp; all_goals with_reducible rfl)
 simp only [Act.put, List.getElem_toArray, List.getElem_cons_zero, List.getElem_cons_succ, List.setIfInBounds_toArray, List.set_cons_zero, List.set_cons_succ]
 refine wpAnyH_done (by kernel_rfl) ?_ _
 clear hHeld
 clear hQ3
 go_wp2
 go_ret
 exact ⟨by rw [HR.out]; rfl, hB3⟩
set_option maxHeartbeats 3200000 in
set_option maxRecDepth 100000 in
theorem ownFault_so (k n l r : Int) (p : SlT) (w : World) (o2 : TmR) (p2 : SlT) (rv : Int) (bv : Bool) (fv : Int) (HV : Hid (rv = if bv then (if k = 8 then fv else 0) else 3)) (HB : bty k 1 11 = true)
  (HO : ∀ w' : World, Calls Tryz.prog 132 #[.agg #[.int .i64 k, .int .i64 n, slW p.1, slW p.2, .int .i64 l, .int .i64 r]] w' fun e w'' => e = .returned (tmX o2 p2) ∧ Below w'.heap.size w' w'')
  (HS : ∀ w' : World, Below w.heap.size w w' → Calls Tryz.prog 131 #[.agg #[.int .i64 k, .int .i64 n, slW p.1, slW p.2, .int .i64 l, .int .i64 r], tmX o2 p2] w' fun e w'' => e = .returned (.bool true) ∧ Below w'.heap.size w' w'')
  (HT : Hid (∀ w' : World, Below w.heap.size w w' → Calls Tryz.prog 133 #[.agg #[.int .i64 k, .int .i64 n, slW p.1, slW p.2, .int .i64 l, .int .i64 r]] w' fun e w'' => e = .returned (.bool bv) ∧ Below w'.heap.size w' w''))
  (HF : Hid (∀ w' : World, Below w.heap.size w w' → Calls Tryz.prog 69 #[slW p.2] w' fun e w'' => e = .returned (.int .i64 fv) ∧ Below w'.heap.size w' w'')) :
  Calls Tryz.prog 116 #[.agg #[.int .i64 k, .int .i64 n, slW p.1, slW p.2, .int .i64 l, .int .i64 r]] w fun e w' => e = .returned (.int .i64 rv) ∧ Below w.heap.size w w' := by
 have hbW : Below w.heap.size w (w.alloc (.cells #[.int .i64 k, .int .i64 n, slW p.1, slW p.2, .int .i64 l, .int .i64 r] 74)) := (Below.refl _ _).alloc (Nat.le_refl _) _
 have hQ := Qu.new w (.int .i64 k) (.int .i64 n) (slW p.1) (slW p.2) (.int .i64 l) (.int .i64 r) 74
 go_enter Tryz.func116, Tryz.ntmps116
 go_wp2_with fail
 generalize w.alloc (.cells #[.int .i64 k, .int .i64 n, slW p.1, slW p.2, .int .i64 l, .int .i64 r] 74) = W at *
 refine wp_region_held_drew (S := fun w' => w'.cell? ⟨w.heap.size, 0, none⟩ = some (.int .i64 k) ∧ w'.cell? ⟨w.heap.size, 1, none⟩ = some (.int .i64 n) ∧ w'.cell? ⟨w.heap.size, 2, none⟩ = some (slW p.1) ∧ w'.cell? ⟨w.heap.size, 3, none⟩ = some (slW p.2) ∧ w'.cell? ⟨w.heap.size, 4, none⟩ = some (.int .i64 l) ∧ w'.cell? ⟨w.heap.size, 5, none⟩ = some (.int .i64 r)) (by kernel_rfl) ?hS16 (fun hHeld => ?_)
 case hS16 => exact hQ
 refine wpAnyH_take (i := 0) (v := ?_) rfl (by kernel_rfl) (by kernel_rfl) (by kernel_rfl) (fun _ _ _ h => h) (Or.inl ⟨by kernel_rfl, ?hy17⟩) (by assumption) ?ty17
 case hy17 => (intro w5 hSw; (try dsimp only at hSw); obtain ⟨s0, s1, s2, s3, s4, s5⟩ := hSw; go_simp; all_goals with_reducible rfl)
 simp only [Act.put, List.getElem_toArray, List.getElem_cons_zero, List.setIfInBounds_toArray, List.set_cons_zero, List.set_cons_succ]
 refine wpAnyH_take (i := 1) (v := ?_) rfl (by kernel_rfl) (by kernel_rfl) (by kernel_rfl) (fun _ _ _ h => h) (Or.inl ⟨by kernel_rfl, ?hy18⟩) (by assumption) ?ty18
 case hy18 => (intro w5 hSw; (try dsimp only at hSw); obtain ⟨s0, s1, s2, s3, s4, s5⟩ := hSw; go_simp; all_goals with_reducible rfl)
 simp only [Act.put, List.getElem_toArray, List.getElem_cons_zero, List.getElem_cons_succ, List.setIfInBounds_toArray, List.set_cons_zero, List.set_cons_succ]
 have hQ0 : Qu W.drew w.heap.size ⟨.int .i64 k, .int .i64 n, slW p.1, slW p.2, .int .i64 l, .int .i64 r⟩ := hQ
 have hb0 : Below w.heap.size w W.drew := hbW.drew
 clear hQ hbW
 generalize W.drew = Y at *
 refine wpAnyH_ready (rs := [2]) (by kernel_rfl) (by simp) ?_
 refine AllReadyH.cons rfl (fun K hK => ?_) AllReadyH.nil
 go_simp
 refine (isBetween_y _ _ _ _).mono ?_
 rintro e w1 ⟨rfl, rfl⟩
 rw [HB]
 refine hK.out _ _ hQ0 (fun hHeld => ?_)
 clear hK K
 refine wpAnyH_take (i := 3) (v := ?_) rfl (by kernel_rfl) (by kernel_rfl) (by kernel_rfl) (fun _ _ _ h => h) (Or.inl ⟨by kernel_rfl, ?hy19⟩) (by assumption) ?ty19
 case hy19 => (intro w5 hSw; (try dsimp only at hSw); obtain ⟨s0, s1, s2, s3, s4, s5⟩ := hSw; go_simp; all_goals with_reducible rfl)
 simp only [Act.put, List.getElem_toArray, List.getElem_cons_zero, List.getElem_cons_succ, List.setIfInBounds_toArray, List.set_cons_zero, List.set_cons_succ]
 refine wpAnyH_take (i := 4) (v := ?_) rfl (by kernel_rfl) (by kernel_rfl) (by kernel_rfl) (fun _ _ _ h => h) (Or.inl ⟨by kernel_rfl, ?hy20⟩) (by assumption) ?ty20
 case hy20 => (intro w5 hSw; (try dsimp only at hSw); obtain ⟨s0, s1, s2, s3, s4, s5⟩ := hSw; go_simp; all_goals with_reducible rfl)
 simp only [Act.put, List.getElem_toArray, List.getElem_cons_zero, List.getElem_cons_succ, List.setIfInBounds_toArray, List.set_cons_zero, List.set_cons_succ]
 refine wpAnyH_take (i := 5) (v := ?_) rfl (by kernel_rfl) (by kernel_rfl) (by kernel_rfl) (fun _ _ _ h => h) (Or.inl ⟨by kernel_rfl, ?hy21⟩) (by assumption) ?ty21
 case hy21 => (intro w5 hSw; (try dsimp only at hSw); obtain ⟨s0, s1, s2, s3, s4, s5⟩ := hSw; go_simp; all_goals with_reducible rfl)
 simp only [Act.put, List.getElem_toArray, List.getElem_cons_zero, List.getElem_cons_succ, List.setIfInBounds_toArray, List.set_cons_zero, List.set_cons_succ]
 refine wpAnyH_take (i := 6) (v := ?_) rfl (by kernel_rfl) (by kernel_rfl) (by kernel_rfl) (fun _ _ _ h => h) (Or.inl ⟨by kernel_rfl, ?hy22⟩) (by assumption) ?ty22
 case hy22 => (intro w5 hSw; (try dsimp only at hSw); obtain ⟨s0, s1, s2, s3, s4, s5⟩ := hSw; go_simp; all_goals with_reducible rfl)
 simp only [Act.put, List.getElem_toArray, List.getElem_cons_zero, List.getElem_cons_succ, List.setIfInBounds_toArray, List.set_cons_zero, List.set_cons_succ]
 refine wpAnyH_ready (rs := [7]) (by kernel_rfl) (by simp) ?_
 refine AllReadyH.cons rfl (fun K hK => ?_) AllReadyH.nil
 go_simp
 refine (HO _).mono ?_
 rintro e w2 ⟨rfl, hb2⟩
 have hQ2 := hQ0.below hb2 hQ0.lt
 have hB2 := hb0.trans (hb2.mono hb0.size)
 clear hb2 hQ0 hb0
 refine hK.out _ _ hQ2 (fun hHeld => ?_)
 clear hK K
 refine wpAnyH_ready (rs := [8]) (by kernel_rfl) (by simp) ?_
 refine AllReadyH.cons rfl (fun K hK => ?_) AllReadyH.nil
 go_simp
 refine (HS _ hB2).mono ?_
 rintro e w3 ⟨rfl, hb3⟩
 have hQ3 := hQ2.below hb3 hQ2.lt
 have hB3 := hB2.trans (hb3.mono hB2.size)
 clear hb3 hQ2 hB2
 refine hK.out _ _ hQ3 (fun hHeld => ?_)
 clear hK K
 refine wpAnyH_take (i := 9) (v := ?_) rfl (by kernel_rfl) (by kernel_rfl) (by kernel_rfl) (fun _ _ _ h => h) (Or.inl ⟨by kernel_rfl, ?hy23⟩) (by assumption) ?ty23
 case hy23 => (intro w5 hSw; (try dsimp only at hSw); obtain ⟨s0, s1, s2, s3, s4, s5⟩ := hSw; go_simp; all_goals with_reducible rfl)
 simp only [Act.put, List.getElem_toArray, List.getElem_cons_zero, List.getElem_cons_succ, List.setIfInBounds_toArray, List.set_cons_zero, List.set_cons_succ]
 refine wpAnyH_take (i := 10) (v := ?_) rfl (by kernel_rfl) (by kernel_rfl) (by kernel_rfl) (fun _ _ _ h => h) (Or.inl ⟨by kernel_rfl, ?hy24⟩) (by assumption) ?ty24
 case hy24 => (intro w5 hSw; (try dsimp only at hSw); obtain ⟨s0, s1, s2, s3, s4, s5⟩ := hSw; go_simp; all_goals with_reducible rfl)
 simp only [Act.put, List.getElem_toArray, List.getElem_cons_zero, List.getElem_cons_succ, List.setIfInBounds_toArray, List.set_cons_zero, List.set_cons_succ]
 refine wpAnyH_done (by kernel_rfl) ?_ _
 clear hHeld
 obtain ⟨c0, c1, c2, c3, c4, c5⟩ := hQ3
 dsimp only at c0 c1 c2 c3 c4 c5
 go_wp2_with fail
 refine (HT.out _ hB3).mono ?_
 rintro e w4 ⟨rfl, hb4⟩
 have hB4 := hB3.trans (hb4.mono hB3.size)
 have hQ4 : Qu w4 w.heap.size ⟨.int .i64 k, .int .i64 n, slW p.1, slW p.2, .int .i64 l, .int .i64 r⟩ := Qu.below (q := ⟨.int .i64 k, .int .i64 n, slW p.1, slW p.2, .int .i64 l, .int .i64 r⟩) ⟨c0, c1, c2, c3, c4, c5⟩ hb4 (World.block_lt_of_cell? _ ⟨w.heap.size, 0, none⟩ c0)
 clear c0 c1 c2 c3 c4 c5 hb4 hB3 HT HO HS
 cases bv with
 | false =>
  have HR : Hid (rv = 3) := HV.out
  clear HV
  go_wp2
  go_ret
  exact ⟨by rw [HR.out]; rfl, hB4⟩
 | true =>
  obtain ⟨c0, c1, c2, c3, c4, c5⟩ := hQ4
  dsimp only at c0 c1 c2 c3 c4 c5
  by_cases h8 : k = 8
  ·have HR : Hid (rv = fv) := HV.out.trans (by rw [if_pos rfl, if_pos h8])
   clear HV
   subst h8
   go_wp2_with fail
   refine (HF.out _ hB4).mono ?_
   rintro e w5 ⟨rfl, hb5⟩
   have hB5 := hB4.trans (hb5.mono hB4.size)
   clear hb5 HF
   go_wp2
   go_ret
   exact ⟨by rw [HR.out]; rfl, hB5⟩
  ·have HR : Hid (rv = 0) := HV.out.trans (by rw [if_pos rfl, if_neg h8])
   clear HV HF
   go_wp2
   go_ret
   exact ⟨by rw [HR.out]; rfl, hB4⟩
theorem ownFault_any (o : TmR) (p : SlT) {lo : Nat} (w : World) (hs : IsTm lo w p o) (hf : FtU o) :
  Calls Tryz.prog 116 #[tmX o p] w fun e w' => e = .returned (.int .i64 (owF o)) ∧ Below w.heap.size w w' := by
 cases HB : bty o.k 1 11 with
 | false =>
  exact ownFault_out o.k o.n o.l o.r p w _ (show owF o = 1 by unfold owF fmT; rw [HB]; rfl) HB
 | true =>
  have hk : 1 ≤ o.k ∧ o.k ≤ 11 := of_decide_eq_true HB
  have hO := fun w' => ownOf_any o p w' hk
  have hS : ∀ w' : World, Below w.heap.size w w' → Calls Tryz.prog 131 #[tmX o p, tmX (ownT o) (ownP o.k p)] w' fun e w'' => e = .returned (.bool (fmT o)) ∧ Below w'.heap.size w' w'' := fun w' hb => by
   have := isSameTerm_any o (ownT o) p (ownP o.k p) w' (hs.below hb) (ownP_is (hs.below hb))
   rwa [smT_own o hk] at this
  cases hfm : fmT o with
  | false =>
   rw [hfm] at hS
   exact ownFault_not o.k o.n o.l o.r p w (ownT o) (ownP o.k p) _ (show owF o = 1 by unfold owF; rw [hfm]; rfl) HB hO hS
  | true =>
   rw [hfm] at hS
   refine ownFault_so o.k o.n o.l o.r p w (ownT o) (ownP o.k p) _ (bdT o) (rfV o.y) ?_ HB hO hS (fun w' hb => hasTermBounds_any o p w' (hs.below hb)) (fun w' hb => ?_)
   ·show owF o = _
    unfold owF vlT
    rw [hfm, if_pos rfl]
    by_cases h8 : o.k = 8
    ·have : bdT o = true := by unfold bdT; simp [h8]
     rw [if_pos h8, if_pos this, if_pos h8]
    ·rw [if_neg h8, if_neg h8]
   ·have h2 := (hs.below hb).2
    exact rangesFault_any p.2.1 p.2.2.1 p.2.2.2 o.y w' h2.1 h2.2.2.2.1 (by rw [← h2.1]; exact hf.2)
end Go.Proofs.YtjogclofjollnaaGreatDoor
