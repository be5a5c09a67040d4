/- A term with nothing but what its kind has: the program's side; no conditions beyond those that each fact names. -/
import Derived.Test.YtjogclofjollnaaGreatDoorTmeToTpa
namespace Go.Proofs.YtjogclofjollnaaGreatDoor
open Go.RowKit
set_option linter.unusedVariables false
def ownT (o : TmR) : TmR := ⟨o.k, if 2 ≤ o.k ∧ o.k ≤ 5 then o.n else 0, if o.k = 6 ∨ o.k = 7 then o.c else [], if o.k = 8 then o.y else [], if 9 ≤ o.k then o.l else 0, if o.k = 10 ∨ o.k = 11 then o.r else 0⟩
def ownP (k : Int) (p : SlT) : SlT := (if k = 6 ∨ k = 7 then p.1 else (none, 0, 0), if k = 8 then p.2 else (none, 0, 0))
theorem ownP_is {lo : Nat} {w : World} {p : SlT} {o : TmR} (h : IsTm lo w p o) : IsTm lo w (ownP o.k p) (ownT o) := by
 unfold ownP ownT
 refine ⟨?_, ?_⟩
 ·dsimp only
  split
  ·exact h.1
  ·exact ⟨rfl, Nat.le_refl _, by decide, .inl rfl, fun x hx => by cases hx⟩
 ·dsimp only
  split
  ·exact h.2
  ·exact ⟨rfl, Nat.le_refl _, by decide, .inl rfl, fun x hx => by cases hx⟩
set_option maxHeartbeats 1600000 in
set_option maxRecDepth 100000 in
theorem ownOf_1 (n l r : Int) (p : SlT) (w : World) :
  Calls Tryz.prog 132 #[.agg #[.int .i64 1, .int .i64 n, slW p.1, slW p.2, .int .i64 l, .int .i64 r]] w fun e w' => e = .returned (.agg #[.int .i64 1, .int .i64 0, .slice none 0 0, .slice none 0 0, .int .i64 0, .int .i64 0]) ∧ Below w.heap.size w w' := by
 go_enter Tryz.func132, Tryz.ntmps132
 go_wp2
 refine bodyPost_ret (v := .agg #[.int .i64 1, .int .i64 0, .slice none 0 0, .slice none 0 0, .int .i64 0, .int .i64 0]) (by simp [results, Tryz.results132, go_sem]) rfl ?_
 exact ⟨rfl, by go_grown⟩
set_option maxHeartbeats 1600000 in
set_option maxRecDepth 100000 in
theorem ownOf_2 (n l r : Int) (p : SlT) (w : World) :
  Calls Tryz.prog 132 #[.agg #[.int .i64 2, .int .i64 n, slW p.1, slW p.2, .int .i64 l, .int .i64 r]] w fun e w' => e = .returned (.agg #[.int .i64 2, .int .i64 n, .slice none 0 0, .slice none 0 0, .int .i64 0, .int .i64 0]) ∧ Below w.heap.size w w' := by
 go_enter Tryz.func132, Tryz.ntmps132
 go_wp2
 refine bodyPost_ret (v := .agg #[.int .i64 2, .int .i64 n, .slice none 0 0, .slice none 0 0, .int .i64 0, .int .i64 0]) (by simp [results, Tryz.results132, go_sem]) rfl ?_
 exact ⟨rfl, by go_grown⟩
set_option maxHeartbeats 1600000 in
set_option maxRecDepth 100000 in
theorem ownOf_3 (n l r : Int) (p : SlT) (w : World) :
  Calls Tryz.prog 132 #[.agg #[.int .i64 3, .int .i64 n, slW p.1, slW p.2, .int .i64 l, .int .i64 r]] w fun e w' => e = .returned (.agg #[.int .i64 3, .int .i64 n, .slice none 0 0, .slice none 0 0, .int .i64 0, .int .i64 0]) ∧ Below w.heap.size w w' := by
 go_enter Tryz.func132, Tryz.ntmps132
 go_wp2
 refine bodyPost_ret (v := .agg #[.int .i64 3, .int .i64 n, .slice none 0 0, .slice none 0 0, .int .i64 0, .int .i64 0]) (by simp [results, Tryz.results132, go_sem]) rfl ?_
 exact ⟨rfl, by go_grown⟩
set_option maxHeartbeats 1600000 in
set_option maxRecDepth 100000 in
theorem ownOf_4 (n l r : Int) (p : SlT) (w : World) :
  Calls Tryz.prog 132 #[.agg #[.int .i64 4, .int .i64 n, slW p.1, slW p.2, .int .i64 l, .int .i64 r]] w fun e w' => e = .returned (.agg #[.int .i64 4, .int .i64 n, .slice none 0 0, .slice none 0 0, .int .i64 0, .int .i64 0]) ∧ Below w.heap.size w w' := by
 go_enter Tryz.func132, Tryz.ntmps132
 go_wp2
 refine bodyPost_ret (v := .agg #[.int .i64 4, .int .i64 n, .slice none 0 0, .slice none 0 0, .int .i64 0, .int .i64 0]) (by simp [results, Tryz.results132, go_sem]) rfl ?_
 exact ⟨rfl, by go_grown⟩
set_option maxHeartbeats 1600000 in
set_option maxRecDepth 100000 in
theorem ownOf_5 (n l r : Int) (p : SlT) (w : World) :
  Calls Tryz.prog 132 #[.agg #[.int .i64 5, .int .i64 n, slW p.1, slW p.2, .int .i64 l, .int .i64 r]] w fun e w' => e = .returned (.agg #[.int .i64 5, .int .i64 n, .slice none 0 0, .slice none 0 0, .int .i64 0, .int .i64 0]) ∧ Below w.heap.size w w' := by
 go_enter Tryz.func132, Tryz.ntmps132
 go_wp2
 refine bodyPost_ret (v := .agg #[.int .i64 5, .int .i64 n, .slice none 0 0, .slice none 0 0, .int .i64 0, .int .i64 0]) (by simp [results, Tryz.results132, go_sem]) rfl ?_
 exact ⟨rfl, by go_grown⟩
set_option maxHeartbeats 1600000 in
set_option maxRecDepth 100000 in
theorem ownOf_6 (n l r : Int) (p : SlT) (w : World) :
  Calls Tryz.prog 132 #[.agg #[.int .i64 6, .int .i64 n, slW p.1, slW p.2, .int .i64 l, .int .i64 r]] w fun e w' => e = .returned (.agg #[.int .i64 6, .int .i64 0, slW p.1, .slice none 0 0, .int .i64 0, .int .i64 0]) ∧ Below w.heap.size w w' := by
 go_enter Tryz.func132, Tryz.ntmps132
 go_wp2
 refine bodyPost_ret (v := .agg #[.int .i64 6, .int .i64 0, slW p.1, .slice none 0 0, .int .i64 0, .int .i64 0]) (by simp [results, Tryz.results132, go_sem]) rfl ?_
 exact ⟨rfl, by go_grown⟩
set_option maxHeartbeats 1600000 in
set_option maxRecDepth 100000 in
theorem ownOf_7 (n l r : Int) (p : SlT) (w : World) :
  Calls Tryz.prog 132 #[.agg #[.int .i64 7, .int .i64 n, slW p.1, slW p.2, .int .i64 l, .int .i64 r]] w fun e w' => e = .returned (.agg #[.int .i64 7, .int .i64 0, slW p.1, .slice none 0 0, .int .i64 0, .int .i64 0]) ∧ Below w.heap.size w w' := by
 go_enter Tryz.func132, Tryz.ntmps132
 go_wp2
 refine bodyPost_ret (v := .agg #[.int .i64 7, .int .i64 0, slW p.1, .slice none 0 0, .int .i64 0, .int .i64 0]) (by simp [results, Tryz.results132, go_sem]) rfl ?_
 exact ⟨rfl, by go_grown⟩
set_option maxHeartbeats 1600000 in
set_option maxRecDepth 100000 in
theorem ownOf_8 (n l r : Int) (p : SlT) (w : World) :
  Calls Tryz.prog 132 #[.agg #[.int .i64 8, .int .i64 n, slW p.1, slW p.2, .int .i64 l, .int .i64 r]] w fun e w' => e = .returned (.agg #[.int .i64 8, .int .i64 0, .slice none 0 0, slW p.2, .int .i64 0, .int .i64 0]) ∧ Below w.heap.size w w' := by
 go_enter Tryz.func132, Tryz.ntmps132
 go_wp2
 refine bodyPost_ret (v := .agg #[.int .i64 8, .int .i64 0, .slice none 0 0, slW p.2, .int .i64 0, .int .i64 0]) (by simp [results, Tryz.results132, go_sem]) rfl ?_
 exact ⟨rfl, by go_grown⟩
set_option maxHeartbeats 1600000 in
set_option maxRecDepth 100000 in
theorem ownOf_9 (n l r : Int) (p : SlT) (w : World) :
  Calls Tryz.prog 132 #[.agg #[.int .i64 9, .int .i64 n, slW p.1, slW p.2, .int .i64 l, .int .i64 r]] w fun e w' => e = .returned (.agg #[.int .i64 9, .int .i64 0, .slice none 0 0, .slice none 0 0, .int .i64 l, .int .i64 0]) ∧ Below w.heap.size w w' := by
 go_enter Tryz.func132, Tryz.ntmps132
 go_wp2
 refine bodyPost_ret (v := .agg #[.int .i64 9, .int .i64 0, .slice none 0 0, .slice none 0 0, .int .i64 l, .int .i64 0]) (by simp [results, Tryz.results132, go_sem]) rfl ?_
 exact ⟨rfl, by go_grown⟩
set_option maxHeartbeats 3200000 in
set_option maxRecDepth 100000 in
theorem ownOf_10 (n l r : Int) (p : SlT) (w : World) :
  Calls Tryz.prog 132 #[.agg #[.int .i64 10, .int .i64 n, slW p.1, slW p.2, .int .i64 l, .int .i64 r]] w fun e w' => e = .returned (.agg #[.int .i64 10, .int .i64 0, .slice none 0 0, .slice none 0 0, .int .i64 l, .int .i64 r]) ∧ Below w.heap.size w w' := by
 have hbW : Below w.heap.size w (((w.alloc (.cells #[.int .i64 10, .int .i64 n, slW p.1, slW p.2, .int .i64 l, .int .i64 r] 74)).alloc (.cells #[.int .i64 0, .int .i64 0, .slice none 0 0, .slice none 0 0, .int .i64 0, .int .i64 0] 74)).alloc (.cells #[.int .i64 10, .int .i64 0, .slice none 0 0, .slice none 0 0, .int .i64 0, .int .i64 0] 74)) := (((Below.refl _ _).alloc (Nat.le_refl _) _).alloc (by simp) _).alloc (by simp; omega) _
 have hA : Qu (((w.alloc (.cells #[.int .i64 10, .int .i64 n, slW p.1, slW p.2, .int .i64 l, .int .i64 r] 74)).alloc (.cells #[.int .i64 0, .int .i64 0, .slice none 0 0, .slice none 0 0, .int .i64 0, .int .i64 0] 74)).alloc (.cells #[.int .i64 10, .int .i64 0, .slice none 0 0, .slice none 0 0, .int .i64 0, .int .i64 0] 74)) w.heap.size ⟨.int .i64 10, .int .i64 n, slW p.1, slW p.2, .int .i64 l, .int .i64 r⟩ := ((Qu.new w _ _ _ _ _ _ _).below ((Below.refl _ _).alloc (Nat.le_refl _) _) (by simp)).below ((Below.refl _ _).alloc (Nat.le_refl _) _) (by simp; omega)
 have hR : Qu (((w.alloc (.cells #[.int .i64 10, .int .i64 n, slW p.1, slW p.2, .int .i64 l, .int .i64 r] 74)).alloc (.cells #[.int .i64 0, .int .i64 0, .slice none 0 0, .slice none 0 0, .int .i64 0, .int .i64 0] 74)).alloc (.cells #[.int .i64 10, .int .i64 0, .slice none 0 0, .slice none 0 0, .int .i64 0, .int .i64 0] 74)) (w.heap.size + 1) ⟨.int .i64 0, .int .i64 0, .slice none 0 0, .slice none 0 0, .int .i64 0, .int .i64 0⟩ := by
  have h := (Qu.new (w.alloc (.cells #[.int .i64 10, .int .i64 n, slW p.1, slW p.2, .int .i64 l, .int .i64 r] 74)) (.int .i64 0) (.int .i64 0) (.slice none 0 0) (.slice none 0 0) (.int .i64 0) (.int .i64 0) 74).below ((Below.refl _ _).alloc (Nat.le_refl _) (.cells #[.int .i64 10, .int .i64 0, .slice none 0 0, .slice none 0 0, .int .i64 0, .int .i64 0] 74)) (by simp)
  simpa using h
 have fR : Fu (((w.alloc (.cells #[.int .i64 10, .int .i64 n, slW p.1, slW p.2, .int .i64 l, .int .i64 r] 74)).alloc (.cells #[.int .i64 0, .int .i64 0, .slice none 0 0, .slice none 0 0, .int .i64 0, .int .i64 0] 74)).alloc (.cells #[.int .i64 10, .int .i64 0, .slice none 0 0, .slice none 0 0, .int .i64 0, .int .i64 0] 74)) (w.heap.size + 1) := by
  have h := (Fu.new (w.alloc (.cells #[.int .i64 10, .int .i64 n, slW p.1, slW p.2, .int .i64 l, .int .i64 r] 74)) (.int .i64 0) (.int .i64 0) (.slice none 0 0) (.slice none 0 0) (.int .i64 0) (.int .i64 0) 74).below ((Below.refl _ _).alloc (Nat.le_refl _) (.cells #[.int .i64 10, .int .i64 0, .slice none 0 0, .slice none 0 0, .int .i64 0, .int .i64 0] 74)) (by simp)
  simpa using h
 have hO : Qu (((w.alloc (.cells #[.int .i64 10, .int .i64 n, slW p.1, slW p.2, .int .i64 l, .int .i64 r] 74)).alloc (.cells #[.int .i64 0, .int .i64 0, .slice none 0 0, .slice none 0 0, .int .i64 0, .int .i64 0] 74)).alloc (.cells #[.int .i64 10, .int .i64 0, .slice none 0 0, .slice none 0 0, .int .i64 0, .int .i64 0] 74)) (w.heap.size + 1 + 1) ⟨.int .i64 10, .int .i64 0, .slice none 0 0, .slice none 0 0, .int .i64 0, .int .i64 0⟩ := by
  have h := (Qu.new ((w.alloc (.cells #[.int .i64 10, .int .i64 n, slW p.1, slW p.2, .int .i64 l, .int .i64 r] 74)).alloc (.cells #[.int .i64 0, .int .i64 0, .slice none 0 0, .slice none 0 0, .int .i64 0, .int .i64 0] 74)) (.int .i64 10) (.int .i64 0) (.slice none 0 0) (.slice none 0 0) (.int .i64 0) (.int .i64 0) 74)
  simpa using h
 have fO : Fu (((w.alloc (.cells #[.int .i64 10, .int .i64 n, slW p.1, slW p.2, .int .i64 l, .int .i64 r] 74)).alloc (.cells #[.int .i64 0, .int .i64 0, .slice none 0 0, .slice none 0 0, .int .i64 0, .int .i64 0] 74)).alloc (.cells #[.int .i64 10, .int .i64 0, .slice none 0 0, .slice none 0 0, .int .i64 0, .int .i64 0] 74)) (w.heap.size + 1 + 1) := by
  have h := (Fu.new ((w.alloc (.cells #[.int .i64 10, .int .i64 n, slW p.1, slW p.2, .int .i64 l, .int .i64 r] 74)).alloc (.cells #[.int .i64 0, .int .i64 0, .slice none 0 0, .slice none 0 0, .int .i64 0, .int .i64 0] 74)) (.int .i64 10) (.int .i64 0) (.slice none 0 0) (.slice none 0 0) (.int .i64 0) (.int .i64 0) 74)
  simpa using h
 go_enter Tryz.func132, Tryz.ntmps132
 go_wp2_with fail
 generalize ((w.alloc (.cells #[.int .i64 10, .int .i64 n, slW p.1, slW p.2, .int .i64 l, .int .i64 r] 74)).alloc (.cells #[.int .i64 0, .int .i64 0, .slice none 0 0, .slice none 0 0, .int .i64 0, .int .i64 0] 74)).alloc (.cells #[.int .i64 10, .int .i64 0, .slice none 0 0, .slice none 0 0, .int .i64 0, .int .i64 0] 74) = W at *
 refine wp_region_held_drew (S := fun w' => w'.cell? ⟨w.heap.size, 4, none⟩ = some (.int .i64 l) ∧ w'.cell? ⟨w.heap.size, 5, none⟩ = some (.int .i64 r)) (by kernel_rfl) ?hS1 (fun hHeld => ?_)
 case hS1 => exact ⟨hA.2.2.2.2.1, hA.2.2.2.2.2⟩
 refine wpAnyH_take (i := 0) (v := ?_) rfl (by kernel_rfl) (by kernel_rfl) (by kernel_rfl) (fun _ _ _ h => h) (Or.inl ⟨by rfl, ?hy2⟩) (by assumption) ?ty2
 case hy2 => (intro w5 hSw; (try dsimp only at hSw); obtain ⟨s4, s5⟩ := hSw; go_simp; all_goals with_reducible rfl)
 simp only [Act.put, List.getElem_toArray, List.getElem_cons_zero, List.setIfInBounds_toArray, List.set_cons_zero, List.set_cons_succ]
 refine wpAnyH_take (i := 1) (v := ?_) rfl (by kernel_rfl) (by kernel_rfl) (by kernel_rfl) (fun _ _ _ h => h) (Or.inl ⟨by rfl, ?hy3⟩) (by assumption) ?ty3
 case hy3 => (intro w5 hSw; (try dsimp only at hSw); obtain ⟨s4, s5⟩ := hSw; go_simp; all_goals with_reducible rfl)
 simp only [Act.put, List.getElem_toArray, List.getElem_cons_zero, List.getElem_cons_succ, List.setIfInBounds_toArray, List.set_cons_zero, List.set_cons_succ]
 refine wpAnyH_take (i := 2) (v := ?_) rfl (by kernel_rfl) (by kernel_rfl) (by kernel_rfl) (fun _ _ _ h => h) (Or.inl ⟨by rfl, ?hy4⟩) (by assumption) ?ty4
 case hy4 => (intro w5 hSw; (try dsimp only at hSw); obtain ⟨s4, s5⟩ := hSw; go_simp; all_goals with_reducible rfl)
 simp only [Act.put, List.getElem_toArray, List.getElem_cons_zero, List.getElem_cons_succ, List.setIfInBounds_toArray, List.set_cons_zero, List.set_cons_succ]
 refine wpAnyH_take (i := 3) (v := ?_) rfl (by kernel_rfl) (by kernel_rfl) (by kernel_rfl) (fun _ _ _ h => h) (Or.inl ⟨by rfl, ?hy5⟩) (by assumption) ?ty5
 case hy5 => (intro w5 hSw; (try dsimp only at hSw); obtain ⟨s4, s5⟩ := hSw; go_simp; all_goals with_reducible rfl)
 simp only [Act.put, List.getElem_toArray, List.getElem_cons_zero, List.getElem_cons_succ, List.setIfInBounds_toArray, List.set_cons_zero, List.set_cons_succ]
 refine wpAnyH_take (i := 4) (v := ?_) rfl (by kernel_rfl) (by kernel_rfl) (by kernel_rfl) (fun _ _ _ h => h) (Or.inl ⟨by rfl, ?hy6⟩) (by assumption) ?ty6
 case hy6 => (intro w5 hSw; (try dsimp only at hSw); obtain ⟨s4, s5⟩ := hSw; go_simp; all_goals with_reducible rfl)
 simp only [Act.put, List.getElem_toArray, List.getElem_cons_zero, List.getElem_cons_succ, List.setIfInBounds_toArray, List.set_cons_zero, List.set_cons_succ]
 have hO0 : Qu W.drew (w.heap.size + 1 + 1) ⟨.int .i64 10, .int .i64 0, .slice none 0 0, .slice none 0 0, .int .i64 0, .int .i64 0⟩ := hO
 have fO0 : Fu W.drew (w.heap.size + 1 + 1) := fO
 have hA0 : Qu W.drew w.heap.size ⟨.int .i64 10, .int .i64 n, slW p.1, slW p.2, .int .i64 l, .int .i64 r⟩ := hA
 have hR0 : Qu W.drew (w.heap.size + 1) ⟨.int .i64 0, .int .i64 0, .slice none 0 0, .slice none 0 0, .int .i64 0, .int .i64 0⟩ := hR
 have fR0 : Fu W.drew (w.heap.size + 1) := fR
 have hb0 : Below w.heap.size w W.drew := hbW.drew
 clear hO fO hA hR fR hbW
 generalize W.drew = Y at *
 refine wpAnyH_ready (rs := [5]) (by kernel_rfl) (by simp) ?_
 refine AllReadyH.cons rfl (fun K hK => ?_) AllReadyH.nil
 obtain ⟨o0, o1, o2, o3, o4, o5⟩ := hO0
 obtain ⟨f0, f1, f2, f3, f4, f5⟩ := fO0
 dsimp only at o0 o1 o2 o3 o4 o5
 go_simp
 have hO1 : Qu (Y.setCell ⟨w.heap.size + 1 + 1, 4, none⟩ (.int .i64 l)) (w.heap.size + 1 + 1) { c0 := .int .i64 10, c1 := .int .i64 0, c2 := .slice none 0 0, c3 := .slice none 0 0, c4 := .int .i64 l, c5 := .int .i64 0 } := Qu.put4 (q := ⟨.int .i64 10, .int .i64 0, .slice none 0 0, .slice none 0 0, .int .i64 0, .int .i64 0⟩) ⟨o0, o1, o2, o3, o4, o5⟩ (.int .i64 l)
 have fO1 : Fu (Y.setCell ⟨w.heap.size + 1 + 1, 4, none⟩ (.int .i64 l)) (w.heap.size + 1 + 1) := Fu.set ⟨f0, f1, f2, f3, f4, f5⟩ _ _
 have hA1 := hA0.far (w.heap.size + 1 + 1) 4 (.int .i64 l) (by omega)
 have hR1 := hR0.far (w.heap.size + 1 + 1) 4 (.int .i64 l) (by omega)
 have fR1 := fR0.set ⟨w.heap.size + 1 + 1, 4, none⟩ (.int .i64 l)
 have hb1 : Below w.heap.size w (Y.setCell ⟨w.heap.size + 1 + 1, 4, none⟩ (.int .i64 l)) := hb0.setCell (by simp; omega) _
 clear o0 o1 o2 o3 o4 o5 f0 f1 f2 f3 f4 f5 hA0 hR0 fR0 hb0
 generalize Y.setCell ⟨w.heap.size + 1 + 1, 4, none⟩ (.int .i64 l) = Y1 at *
 refine hK.out _ _ ⟨hA1.2.2.2.2.1, hA1.2.2.2.2.2⟩ (fun hHeld => ?_)
 clear hK K
 refine wpAnyH_take (i := 6) (v := ?_) rfl (by kernel_rfl) (by kernel_rfl) (by kernel_rfl) (fun _ _ _ h => h) (Or.inl ⟨by rfl, ?hy7⟩) (by assumption) ?ty7
 case hy7 => (intro w5 hSw; (try dsimp only at hSw); obtain ⟨s4, s5⟩ := hSw; go_simp; all_goals with_reducible rfl)
 simp only [Act.put, List.getElem_toArray, List.getElem_cons_zero, List.getElem_cons_succ, List.setIfInBounds_toArray, List.set_cons_zero, List.set_cons_succ]
 refine wpAnyH_ready (rs := [7]) (by kernel_rfl) (by simp) ?_
 refine AllReadyH.cons rfl (fun K hK => ?_) AllReadyH.nil
 obtain ⟨o0, o1, o2, o3, o4, o5⟩ := hO1
 obtain ⟨f0, f1, f2, f3, f4, f5⟩ := fO1
 dsimp only at o0 o1 o2 o3 o4 o5
 go_simp
 have hO2 : Qu (Y1.setCell ⟨w.heap.size + 1 + 1, 5, none⟩ (.int .i64 r)) (w.heap.size + 1 + 1) ⟨.int .i64 10, .int .i64 0, .slice none 0 0, .slice none 0 0, .int .i64 l, .int .i64 r⟩ := Qu.put5 (q := ⟨.int .i64 10, .int .i64 0, .slice none 0 0, .slice none 0 0, .int .i64 l, .int .i64 0⟩) ⟨o0, o1, o2, o3, o4, o5⟩ (.int .i64 r)
 have hA2 := hA1.far (w.heap.size + 1 + 1) 5 (.int .i64 r) (by omega)
 have hR2 := hR1.far (w.heap.size + 1 + 1) 5 (.int .i64 r) (by omega)
 have fR2 := fR1.set ⟨w.heap.size + 1 + 1, 5, none⟩ (.int .i64 r)
 have hb2 : Below w.heap.size w (Y1.setCell ⟨w.heap.size + 1 + 1, 5, none⟩ (.int .i64 r)) := hb1.setCell (by simp; omega) _
 clear o0 o1 o2 o3 o4 o5 f0 f1 f2 f3 f4 f5 hA1 hR1 fR1 hb1
 generalize Y1.setCell ⟨w.heap.size + 1 + 1, 5, none⟩ (.int .i64 r) = Y2 at *
 refine hK.out _ _ ⟨hA2.2.2.2.2.1, hA2.2.2.2.2.2⟩ (fun hHeld => ?_)
 clear hK K
 refine wpAnyH_done (by kernel_rfl) ?_ _
 clear hHeld hA2
 have hR3 := ((((((hR2.put0 (.int .i64 10)).put1 (.int .i64 0)).put2 (.slice none 0 0)).put3 (.slice none 0 0)).put4 (.int .i64 l)).put5 (.int .i64 r))
 obtain ⟨q0, q1, q2, q3, q4, q5⟩ := hR3
 obtain ⟨o0, o1, o2, o3, o4, o5⟩ := hO2
 obtain ⟨r0, r1, r2, r3, r4, r5⟩ := hR2
 obtain ⟨f0, f1, f2, f3, f4, f5⟩ := fR2
 dsimp only at q0 q1 q2 q3 q4 q5 o0 o1 o2 o3 o4 o5 r0 r1 r2 r3 r4 r5
 have hg1 : w.heap.size + 1 + 1 ≠ w.heap.size + 1 := by omega
 go_wp2
 refine bodyPost_ret (v := .agg #[.int .i64 10, .int .i64 0, .slice none 0 0, .slice none 0 0, .int .i64 l, .int .i64 r]) (by simp [results, Tryz.results132, go_sem, q0, q1, q2, q3, q4, q5]) rfl ?_
 exact ⟨rfl, ((((((hb2.setCell (by simp) _).setCell (by simp) _).setCell (by simp) _).setCell (by simp) _).setCell (by simp) _).setCell (by simp) _)⟩
set_option maxHeartbeats 3200000 in
set_option maxRecDepth 100000 in
theorem ownOf_11 (n l r : Int) (p : SlT) (w : World) :
  Calls Tryz.prog 132 #[.agg #[.int .i64 11, .int .i64 n, slW p.1, slW p.2, .int .i64 l, .int .i64 r]] w fun e w' => e = .returned (.agg #[.int .i64 11, .int .i64 0, .slice none 0 0, .slice none 0 0, .int .i64 l, .int .i64 r]) ∧ Below w.heap.size w w' := by
 have hbW : Below w.heap.size w (((w.alloc (.cells #[.int .i64 11, .int .i64 n, slW p.1, slW p.2, .int .i64 l, .int .i64 r] 74)).alloc (.cells #[.int .i64 0, .int .i64 0, .slice none 0 0, .slice none 0 0, .int .i64 0, .int .i64 0] 74)).alloc (.cells #[.int .i64 11, .int .i64 0, .slice none 0 0, .slice none 0 0, .int .i64 0, .int .i64 0] 74)) := (((Below.refl _ _).alloc (Nat.le_refl _) _).alloc (by simp) _).alloc (by simp; omega) _
 have hA : Qu (((w.alloc (.cells #[.int .i64 11, .int .i64 n, slW p.1, slW p.2, .int .i64 l, .int .i64 r] 74)).alloc (.cells #[.int .i64 0, .int .i64 0, .slice none 0 0, .slice none 0 0, .int .i64 0, .int .i64 0] 74)).alloc (.cells #[.int .i64 11, .int .i64 0, .slice none 0 0, .slice none 0 0, .int .i64 0, .int .i64 0] 74)) w.heap.size ⟨.int .i64 11, .int .i64 n, slW p.1, slW p.2, .int .i64 l, .int .i64 r⟩ := ((Qu.new w _ _ _ _ _ _ _).below ((Below.refl _ _).alloc (Nat.le_refl _) _) (by simp)).below ((Below.refl _ _).alloc (Nat.le_refl _) _) (by simp; omega)
 have hR : Qu (((w.alloc (.cells #[.int .i64 11, .int .i64 n, slW p.1, slW p.2, .int .i64 l, .int .i64 r] 74)).alloc (.cells #[.int .i64 0, .int .i64 0, .slice none 0 0, .slice none 0 0, .int .i64 0, .int .i64 0] 74)).alloc (.cells #[.int .i64 11, .int .i64 0, .slice none 0 0, .slice none 0 0, .int .i64 0, .int .i64 0] 74)) (w.heap.size + 1) ⟨.int .i64 0, .int .i64 0, .slice none 0 0, .slice none 0 0, .int .i64 0, .int .i64 0⟩ := by
  have h := (Qu.new (w.alloc (.cells #[.int .i64 11, .int .i64 n, slW p.1, slW p.2, .int .i64 l, .int .i64 r] 74)) (.int .i64 0) (.int .i64 0) (.slice none 0 0) (.slice none 0 0) (.int .i64 0) (.int .i64 0) 74).below ((Below.refl _ _).alloc (Nat.le_refl _) (.cells #[.int .i64 11, .int .i64 0, .slice none 0 0, .slice none 0 0, .int .i64 0, .int .i64 0] 74)) (by simp)
  simpa using h
 have fR : Fu (((w.alloc (.cells #[.int .i64 11, .int .i64 n, slW p.1, slW p.2, .int .i64 l, .int .i64 r] 74)).alloc (.cells #[.int .i64 0, .int .i64 0, .slice none 0 0, .slice none 0 0, .int .i64 0, .int .i64 0] 74)).alloc (.cells #[.int .i64 11, .int .i64 0, .slice none 0 0, .slice none 0 0, .int .i64 0, .int .i64 0] 74)) (w.heap.size + 1) := by
  have h := (Fu.new (w.alloc (.cells #[.int .i64 11, .int .i64 n, slW p.1, slW p.2, .int .i64 l, .int .i64 r] 74)) (.int .i64 0) (.int .i64 0) (.slice none 0 0) (.slice none 0 0) (.int .i64 0) (.int .i64 0) 74).below ((Below.refl _ _).alloc (Nat.le_refl _) (.cells #[.int .i64 11, .int .i64 0, .slice none 0 0, .slice none 0 0, .int .i64 0, .int .i64 0] 74)) (by simp)
  simpa using h
 have hO : Qu (((w.alloc (.cells #[.int .i64 11, .int .i64 n, slW p.1, slW p.2, .int .i64 l, .int .i64 r] 74)).alloc (.cells #[.int .i64 0, .int .i64 0, .slice none 0 0, .slice none 0 0, .int .i64 0, .int .i64 0] 74)).alloc (.cells #[.int .i64 11, .int .i64 0, .slice none 0 0, .slice none 0 0, .int .i64 0, .int .i64 0] 74)) (w.heap.size + 1 + 1) ⟨.int .i64 11, .int .i64 0, .slice none 0 0, .slice none 0 0, .int .i64 0, .int .i64 0⟩ := by
  have h := (Qu.new ((w.alloc (.cells #[.int .i64 11, .int .i64 n, slW p.1, slW p.2, .int .i64 l, .int .i64 r] 74)).alloc (.cells #[.int .i64 0, .int .i64 0, .slice none 0 0, .slice none 0 0, .int .i64 0, .int .i64 0] 74)) (.int .i64 11) (.int .i64 0) (.slice none 0 0) (.slice none 0 0) (.int .i64 0) (.int .i64 0) 74)
  simpa using h
 have fO : Fu (((w.alloc (.cells #[.int .i64 11, .int .i64 n, slW p.1, slW p.2, .int .i64 l, .int .i64 r] 74)).alloc (.cells #[.int .i64 0, .int .i64 0, .slice none 0 0, .slice none 0 0, .int .i64 0, .int .i64 0] 74)).alloc (.cells #[.int .i64 11, .int .i64 0, .slice none 0 0, .slice none 0 0, .int .i64 0, .int .i64 0] 74)) (w.heap.size + 1 + 1) := by
  have h := (Fu.new ((w.alloc (.cells #[.int .i64 11, .int .i64 n, slW p.1, slW p.2, .int .i64 l, .int .i64 r] 74)).alloc (.cells #[.int .i64 0, .int .i64 0, .slice none 0 0, .slice none 0 0, .int .i64 0, .int .i64 0] 74)) (.int .i64 11) (.int .i64 0) (.slice none 0 0) (.slice none 0 0) (.int .i64 0) (.int .i64 0) 74)
  simpa using h
 go_enter Tryz.func132, Tryz.ntmps132
 go_wp2_with fail
 generalize ((w.alloc (.cells #[.int .i64 11, .int .i64 n, slW p.1, slW p.2, .int .i64 l, .int .i64 r] 74)).alloc (.cells #[.int .i64 0, .int .i64 0, .slice none 0 0, .slice none 0 0, .int .i64 0, .int .i64 0] 74)).alloc (.cells #[.int .i64 11, .int .i64 0, .slice none 0 0, .slice none 0 0, .int .i64 0, .int .i64 0] 74) = W at *
 refine wp_region_held_drew (S := fun w' => w'.cell? ⟨w.heap.size, 4, none⟩ = some (.int .i64 l) ∧ w'.cell? ⟨w.heap.size, 5, none⟩ = some (.int .i64 r)) (by kernel_rfl) ?hS8 (fun hHeld => ?_)
 case hS8 => exact ⟨hA.2.2.2.2.1, hA.2.2.2.2.2⟩
 refine wpAnyH_take (i := 0) (v := ?_) rfl (by kernel_rfl) (by kernel_rfl) (by kernel_rfl) (fun _ _ _ h => h) (Or.inl ⟨by rfl, ?hy9⟩) (by assumption) ?ty9
 case hy9 => (intro w5 hSw; (try dsimp only at hSw); obtain ⟨s4, s5⟩ := hSw; go_simp; all_goals with_reducible rfl)
 simp only [Act.put, List.getElem_toArray, List.getElem_cons_zero, List.setIfInBounds_toArray, List.set_cons_zero, List.set_cons_succ]
 refine wpAnyH_take (i := 1) (v := ?_) rfl (by kernel_rfl) (by kernel_rfl) (by kernel_rfl) (fun _ _ _ h => h) (Or.inl ⟨by rfl, ?hy10⟩) (by assumption) ?ty10
 case hy10 => (intro w5 hSw; (try dsimp only at hSw); obtain ⟨s4, s5⟩ := hSw; go_simp; all_goals with_reducible rfl)
 simp only [Act.put, List.getElem_toArray, List.getElem_cons_zero, List.getElem_cons_succ, List.setIfInBounds_toArray, List.set_cons_zero, List.set_cons_succ]
 refine wpAnyH_take (i := 2) (v := ?_) rfl (by kernel_rfl) (by kernel_rfl) (by kernel_rfl) (fun _ _ _ h => h) (Or.inl ⟨by rfl, ?hy11⟩) (by assumption) ?ty11
 case hy11 => (intro w5 hSw; (try dsimp only at hSw); obtain ⟨s4, s5⟩ := hSw; go_simp; all_goals with_reducible rfl)
 simp only [Act.put, List.getElem_toArray, List.getElem_cons_zero, List.getElem_cons_succ, List.setIfInBounds_toArray, List.set_cons_zero, List.set_cons_succ]
 refine wpAnyH_take (i := 3) (v := ?_) rfl (by kernel_rfl) (by kernel_rfl) (by kernel_rfl) (fun _ _ _ h => h) (Or.inl ⟨by rfl, ?hy12⟩) (by assumption) ?ty12
 case hy12 => (intro w5 hSw; (try dsimp only at hSw); obtain ⟨s4, s5⟩ := hSw; go_simp; all_goals with_reducible rfl)
 simp only [Act.put, List.getElem_toArray, List.getElem_cons_zero, List.getElem_cons_succ, List.setIfInBounds_toArray, List.set_cons_zero, List.set_cons_succ]
 refine wpAnyH_take (i := 4) (v := ?_) rfl (by kernel_rfl) (by kernel_rfl) (by kernel_rfl) (fun _ _ _ h => h) (Or.inl ⟨by rfl, ?hy13⟩) (by assumption) ?ty13
 case hy13 => (intro w5 hSw; (try dsimp only at hSw); obtain ⟨s4, s5⟩ := hSw; go_simp; all_goals with_reducible rfl)
 simp only [Act.put, List.getElem_toArray, List.getElem_cons_zero, List.getElem_cons_succ, List.setIfInBounds_toArray, List.set_cons_zero, List.set_cons_succ]
 have hO0 : Qu W.drew (w.heap.size + 1 + 1) ⟨.int .i64 11, .int .i64 0, .slice none 0 0, .slice none 0 0, .int .i64 0, .int .i64 0⟩ := hO
 have fO0 : Fu W.drew (w.heap.size + 1 + 1) := fO
 have hA0 : Qu W.drew w.heap.size ⟨.int .i64 11, .int .i64 n, slW p.1, slW p.2, .int .i64 l, .int .i64 r⟩ := hA
 have hR0 : Qu W.drew (w.heap.size + 1) ⟨.int .i64 0, .int .i64 0, .slice none 0 0, .slice none 0 0, .int .i64 0, .int .i64 0⟩ := hR
 have fR0 : Fu W.drew (w.heap.size + 1) := fR
 have hb0 : Below w.heap.size w W.drew := hbW.drew
 clear hO fO hA hR fR hbW
 generalize W.drew = Y at *
 refine wpAnyH_ready (rs := [5]) (by kernel_rfl) (by simp) ?_
 refine AllReadyH.cons rfl (fun K hK => ?_) AllReadyH.nil
 obtain ⟨o0, o1, o2, o3, o4, o5⟩ := hO0
 obtain ⟨f0, f1, f2, f3, f4, f5⟩ := fO0
 dsimp only at o0 o1 o2 o3 o4 o5
 go_simp
 have hO1 : Qu (Y.setCell ⟨w.heap.size + 1 + 1, 4, none⟩ (.int .i64 l)) (w.heap.size + 1 + 1) { c0 := .int .i64 11, c1 := .int .i64 0, c2 := .slice none 0 0, c3 := .slice none 0 0, c4 := .int .i64 l, c5 := .int .i64 0 } := Qu.put4 (q := ⟨.int .i64 11, .int .i64 0, .slice none 0 0, .slice none 0 0, .int .i64 0, .int .i64 0⟩) ⟨o0, o1, o2, o3, o4, o5⟩ (.int .i64 l)
 have fO1 : Fu (Y.setCell ⟨w.heap.size + 1 + 1, 4, none⟩ (.int .i64 l)) (w.heap.size + 1 + 1) := Fu.set ⟨f0, f1, f2, f3, f4, f5⟩ _ _
 have hA1 := hA0.far (w.heap.size + 1 + 1) 4 (.int .i64 l) (by omega)
 have hR1 := hR0.far (w.heap.size + 1 + 1) 4 (.int .i64 l) (by omega)
 have fR1 := fR0.set ⟨w.heap.size + 1 + 1, 4, none⟩ (.int .i64 l)
 have hb1 : Below w.heap.size w (Y.setCell ⟨w.heap.size + 1 + 1, 4, none⟩ (.int .i64 l)) := hb0.setCell (by simp; omega) _
 clear o0 o1 o2 o3 o4 o5 f0 f1 f2 f3 f4 f5 hA0 hR0 fR0 hb0
 generalize Y.setCell ⟨w.heap.size + 1 + 1, 4, none⟩ (.int .i64 l) = Y1 at *
 refine hK.out _ _ ⟨hA1.2.2.2.2.1, hA1.2.2.2.2.2⟩ (fun hHeld => ?_)
 clear hK K
 refine wpAnyH_take (i := 6) (v := ?_) rfl (by kernel_rfl) (by kernel_rfl) (by kernel_rfl) (fun _ _ _ h => h) (Or.inl ⟨by rfl, ?hy14⟩) (by assumption) ?ty14
 case hy14 => (intro w5 hSw; (try dsimp only at hSw); obtain ⟨s4, s5⟩ := hSw; go_simp; all_goals with_reducible rfl)
 simp only [Act.put, List.getElem_toArray, List.getElem_cons_zero, List.getElem_cons_succ, List.setIfInBounds_toArray, List.set_cons_zero, List.set_cons_succ]
 refine wpAnyH_ready (rs := [7]) (by kernel_rfl) (by simp) ?_
 refine AllReadyH.cons rfl (fun K hK => ?_) AllReadyH.nil
 obtain ⟨o0, o1, o2, o3, o4, o5⟩ := hO1
 obtain ⟨f0, f1, f2, f3, f4, f5⟩ := fO1
 dsimp only at o0 o1 o2 o3 o4 o5
 go_simp
 have hO2 : Qu (Y1.setCell ⟨w.heap.size + 1 + 1, 5, none⟩ (.int .i64 r)) (w.heap.size + 1 + 1) ⟨.int .i64 11, .int .i64 0, .slice none 0 0, .slice none 0 0, .int .i64 l, .int .i64 r⟩ := Qu.put5 (q := ⟨.int .i64 11, .int .i64 0, .slice none 0 0, .slice none 0 0, .int .i64 l, .int .i64 0⟩) ⟨o0, o1, o2, o3, o4, o5⟩ (.int .i64 r)
 have hA2 := hA1.far (w.heap.size + 1 + 1) 5 (.int .i64 r) (by omega)
 have hR2 := hR1.far (w.heap.size + 1 + 1) 5 (.int .i64 r) (by omega)
 have fR2 := fR1.set ⟨w.heap.size + 1 + 1, 5, none⟩ (.int .i64 r)
 have hb2 : Below w.heap.size w (Y1.setCell ⟨w.heap.size + 1 + 1, 5, none⟩ (.int .i64 r)) := hb1.setCell (by simp; omega) _
 clear o0 o1 o2 o3 o4 o5 f0 f1 f2 f3 f4 f5 hA1 hR1 fR1 hb1
 generalize Y1.setCell ⟨w.heap.size + 1 + 1, 5, none⟩ (.int .i64 r) = Y2 at *
 refine hK.out _ _ ⟨hA2.2.2.2.2.1, hA2.2.2.2.2.2⟩ (fun hHeld => ?_)
 clear hK K
 refine wpAnyH_done (by kernel_rfl) ?_ _
 clear hHeld hA2
 have hR3 := ((((((hR2.put0 (.int .i64 11)).put1 (.int .i64 0)).put2 (.slice none 0 0)).put3 (.slice none 0 0)).put4 (.int .i64 l)).put5 (.int .i64 r))
 obtain ⟨q0, q1, q2, q3, q4, q5⟩ := hR3
 obtain ⟨o0, o1, o2, o3, o4, o5⟩ := hO2
 obtain ⟨r0, r1, r2, r3, r4, r5⟩ := hR2
 obtain ⟨f0, f1, f2, f3, f4, f5⟩ := fR2
 dsimp only at q0 q1 q2 q3 q4 q5 o0 o1 o2 o3 o4 o5 r0 r1 r2 r3 r4 r5
 have hg1 : w.heap.size + 1 + 1 ≠ w.heap.size + 1 := by omega
 go_wp2
 refine bodyPost_ret (v := .agg #[.int .i64 11, .int .i64 0, .slice none 0 0, .slice none 0 0, .int .i64 l, .int .i64 r]) (by simp [results, Tryz.results132, go_sem, q0, q1, q2, q3, q4, q5]) rfl ?_
 exact ⟨rfl, ((((((hb2.setCell (by simp) _).setCell (by simp) _).setCell (by simp) _).setCell (by simp) _).setCell (by simp) _).setCell (by simp) _)⟩
theorem ownOf_any (o : TmR) (p : SlT) (w : World) (hk : 1 ≤ o.k ∧ o.k ≤ 11) :
  Calls Tryz.prog 132 #[tmX o p] w fun e w' => e = .returned (tmX (ownT o) (ownP o.k p)) ∧ Below w.heap.size w w' := by
 obtain ⟨k, n, c, y, l, r⟩ := o
 dsimp only at hk
 have hc : k = 1 ∨ k = 2 ∨ k = 3 ∨ k = 4 ∨ k = 5 ∨ k = 6 ∨ k = 7 ∨ k = 8 ∨ k = 9 ∨ k = 10 ∨ k = 11 := by omega
 rcases hc with rfl | rfl | rfl | rfl | rfl | rfl | rfl | rfl | rfl | rfl | rfl
 ·exact ownOf_1 n l r p w
 ·exact ownOf_2 n l r p w
 ·exact ownOf_3 n l r p w
 ·exact ownOf_4 n l r p w
 ·exact ownOf_5 n l r p w
 ·exact ownOf_6 n l r p w
 ·exact ownOf_7 n l r p w
 ·exact ownOf_8 n l r p w
 ·exact ownOf_9 n l r p w
 ·exact ownOf_10 n l r p w
 ·exact ownOf_11 n l r p w
theorem smU_self (c : List Int) : smU c c = true := eqH_all rfl (fun _ _ => by simp)
theorem smY_self (c : List YgP) : smY c c = true := eqH_all rfl (fun _ _ => by simp)
theorem smU_nil (c : List Int) : smU c [] = decide (c = []) := by
 cases c with
 | nil => rfl
 | cons a c => simp [smU, eqH]
theorem smY_nil (c : List YgP) : smY c [] = decide (c = []) := by
 cases c with
 | nil => rfl
 | cons a c => simp [smY, eqH]
theorem smT_own (o : TmR) (hk : 1 ≤ o.k ∧ o.k ≤ 11) : smT o (ownT o) = fmT o := by
 obtain ⟨k, n, c, y, l, r⟩ := o
 dsimp only at hk
 have hc : k = 1 ∨ k = 2 ∨ k = 3 ∨ k = 4 ∨ k = 5 ∨ k = 6 ∨ k = 7 ∨ k = 8 ∨ k = 9 ∨ k = 10 ∨ k = 11 := by omega
 rcases hc with rfl | rfl | rfl | rfl | rfl | rfl | rfl | rfl | rfl | rfl | rfl <;>
  simp [smT, ownT, fmT, bty, hcK, twK, smU_self, smY_self, smU_nil, smY_nil] <;> (try rw [Bool.eq_iff_iff]) <;> (try simp) <;> (try (intros; exact And.comm))
end Go.Proofs.YtjogclofjollnaaGreatDoor
