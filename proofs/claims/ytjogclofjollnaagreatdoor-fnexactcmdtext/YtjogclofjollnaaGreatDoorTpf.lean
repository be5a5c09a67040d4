/- The tree of a term: the program's side; no conditions beyond those that each fact names. -/
import Derived.Test.YtjogclofjollnaaGreatDoorTpe
namespace Go.Proofs.YtjogclofjollnaaGreatDoor
open Go.RowKit
set_option linter.unusedVariables false
def growV (o : TmR) (p : SlT) (cs : List Value) : Value :=
 if o.k = 2 then .iface 174 (.agg #[.int .i64 o.n])
 else if o.k = 3 then .iface 177 (.agg #[.int .i64 o.n])
 else if o.k = 4 then .iface 178 (.agg #[.int .i64 o.n])
 else if o.k = 5 then .iface 180 (.agg #[.int .i64 o.n])
 else if o.k = 6 then .iface 182 (.agg #[slW p.1])
 else if o.k = 7 then .iface 183 (.agg #[slW p.1])
 else if o.k = 8 then .iface 185 (.agg #[slW p.2])
 else if o.k = 9 then .iface 187 (.agg #[cs.getD 0 .nilIface])
 else if o.k = 10 then .iface 189 (.agg #[cs.getD 0 .nilIface, cs.getD 1 .nilIface])
 else if o.k = 11 then .iface 190 (.agg #[cs.getD 0 .nilIface, cs.getD 1 .nilIface])
 else .iface 200 (.agg #[])
theorem growV_if (o : TmR) (p : SlT) (cs : List Value) : ∃ t u, growV o p cs = .iface t u := by
 unfold growV
 repeat' split
 all_goals exact ⟨_, _, rfl⟩
set_option maxHeartbeats 1600000 in
set_option maxRecDepth 100000 in
theorem grow_2 (n l r : Int) (p : SlT) (w : World) (a : Value) :
  Calls Tryz.prog 119 #[.agg #[.int .i64 2, .int .i64 n, slW p.1, slW p.2, .int .i64 l, .int .i64 r], a] w fun e w' => e = .returned (.iface 174 (.agg #[.int .i64 n])) ∧ Below w.heap.size w w' := by
 go_enter Tryz.func119, Tryz.ntmps119
 go_wp2
 go_ret
 exact ⟨rfl, by go_grown⟩
set_option maxHeartbeats 1600000 in
set_option maxRecDepth 100000 in
theorem grow_3 (n l r : Int) (p : SlT) (w : World) (a : Value) :
  Calls Tryz.prog 119 #[.agg #[.int .i64 3, .int .i64 n, slW p.1, slW p.2, .int .i64 l, .int .i64 r], a] w fun e w' => e = .returned (.iface 177 (.agg #[.int .i64 n])) ∧ Below w.heap.size w w' := by
 go_enter Tryz.func119, Tryz.ntmps119
 go_wp2
 go_ret
 exact ⟨rfl, by go_grown⟩
set_option maxHeartbeats 1600000 in
set_option maxRecDepth 100000 in
theorem grow_4 (n l r : Int) (p : SlT) (w : World) (a : Value) :
  Calls Tryz.prog 119 #[.agg #[.int .i64 4, .int .i64 n, slW p.1, slW p.2, .int .i64 l, .int .i64 r], a] w fun e w' => e = .returned (.iface 178 (.agg #[.int .i64 n])) ∧ Below w.heap.size w w' := by
 go_enter Tryz.func119, Tryz.ntmps119
 go_wp2
 go_ret
 exact ⟨rfl, by go_grown⟩
set_option maxHeartbeats 1600000 in
set_option maxRecDepth 100000 in
theorem grow_5 (n l r : Int) (p : SlT) (w : World) (a : Value) :
  Calls Tryz.prog 119 #[.agg #[.int .i64 5, .int .i64 n, slW p.1, slW p.2, .int .i64 l, .int .i64 r], a] w fun e w' => e = .returned (.iface 180 (.agg #[.int .i64 n])) ∧ Below w.heap.size w w' := by
 go_enter Tryz.func119, Tryz.ntmps119
 go_wp2
 go_ret
 exact ⟨rfl, by go_grown⟩
set_option maxHeartbeats 1600000 in
set_option maxRecDepth 100000 in
theorem grow_6 (n l r : Int) (p : SlT) (w : World) (a : Value) :
  Calls Tryz.prog 119 #[.agg #[.int .i64 6, .int .i64 n, slW p.1, slW p.2, .int .i64 l, .int .i64 r], a] w fun e w' => e = .returned (.iface 182 (.agg #[slW p.1])) ∧ Below w.heap.size w w' := by
 go_enter Tryz.func119, Tryz.ntmps119
 go_wp2
 go_ret
 exact ⟨rfl, by go_grown⟩
set_option maxHeartbeats 1600000 in
set_option maxRecDepth 100000 in
theorem grow_7 (n l r : Int) (p : SlT) (w : World) (a : Value) :
  Calls Tryz.prog 119 #[.agg #[.int .i64 7, .int .i64 n, slW p.1, slW p.2, .int .i64 l, .int .i64 r], a] w fun e w' => e = .returned (.iface 183 (.agg #[slW p.1])) ∧ Below w.heap.size w w' := by
 go_enter Tryz.func119, Tryz.ntmps119
 go_wp2
 go_ret
 exact ⟨rfl, by go_grown⟩
set_option maxHeartbeats 1600000 in
set_option maxRecDepth 100000 in
theorem grow_8 (n l r : Int) (p : SlT) (w : World) (a : Value) :
  Calls Tryz.prog 119 #[.agg #[.int .i64 8, .int .i64 n, slW p.1, slW p.2, .int .i64 l, .int .i64 r], a] w fun e w' => e = .returned (.iface 185 (.agg #[slW p.2])) ∧ Below w.heap.size w w' := by
 go_enter Tryz.func119, Tryz.ntmps119
 go_wp2
 go_ret
 exact ⟨rfl, by go_grown⟩
set_option maxHeartbeats 1600000 in
set_option maxRecDepth 100000 in
theorem grow_o (n l r : Int) (p : SlT) (k : Int) (w : World) (a : Value) (hk : ¬ k = 2 ∧ ¬ k = 3 ∧ ¬ k = 4 ∧ ¬ k = 5 ∧ ¬ k = 6 ∧ ¬ k = 7 ∧ ¬ k = 8 ∧ ¬ k = 9 ∧ ¬ k = 10 ∧ ¬ k = 11) :
  Calls Tryz.prog 119 #[.agg #[.int .i64 k, .int .i64 n, slW p.1, slW p.2, .int .i64 l, .int .i64 r], a] w fun e w' => e = .returned (.iface 200 (.agg #[])) ∧ Below w.heap.size w w' := by
 obtain ⟨k2, k3, k4, k5, k6, k7, k8, k9, k10, k11⟩ := hk
 go_enter Tryz.func119, Tryz.ntmps119
 go_wp2
 go_ret
 exact ⟨rfl, by go_grown⟩
set_option maxHeartbeats 1600000 in
set_option maxRecDepth 100000 in
theorem grow_9 (n l r : Int) (p : SlT) (w : World) (b off m cap : Nat) (x : Int) (t1 : TypeId) (u1 : Value) (hm : 0 < m) (hmc : m ≤ cap) (hcm : cap ≤ maxLen) (hblt : b < w.heap.size) (c1 : w.cell? ⟨b, off + 1, none⟩ = some (.iface t1 u1)) :
  Calls Tryz.prog 119 #[.agg #[.int .i64 9, .int .i64 n, slW p.1, slW p.2, .int .i64 l, .int .i64 r], .slice (some ⟨b, off, none⟩) m cap] w fun e w' => e = .returned (.iface 187 (.agg #[.iface t1 u1])) ∧ Below w.heap.size w w' := by
 unfold maxLen at hcm
 have hbA : Below w.heap.size w (w.alloc (.cells #[.int .i64 9, .int .i64 n, slW p.1, slW p.2, .int .i64 l, .int .i64 r] 74)) := (Below.refl _ _).alloc (Nat.le_refl _) _
 have d1 := (hbA.cell (p := ⟨b, off + 1, none⟩) hblt).trans c1
 have hmi : (0 : Int) < (m : Int) := by omega
 go_enter Tryz.func119, Tryz.ntmps119
 go_wp2
 go_ret
 exact ⟨rfl, by go_grown⟩
set_option maxHeartbeats 1600000 in
set_option maxRecDepth 100000 in
theorem grow_10 (n l r : Int) (p : SlT) (w : World) (b off m cap : Nat) (t1 t3 : TypeId) (u1 u3 : Value) (hm : 1 < m) (hmc : m ≤ cap) (hcm : cap ≤ maxLen) (hblt : b < w.heap.size) (c1 : w.cell? ⟨b, off + 1, none⟩ = some (.iface t1 u1)) (c3 : w.cell? ⟨b, off + 1 * 2 + 1, none⟩ = some (.iface t3 u3)) :
  Calls Tryz.prog 119 #[.agg #[.int .i64 10, .int .i64 n, slW p.1, slW p.2, .int .i64 l, .int .i64 r], .slice (some ⟨b, off, none⟩) m cap] w fun e w' => e = .returned (.iface 189 (.agg #[.iface t1 u1, .iface t3 u3])) ∧ Below w.heap.size w w' := by
 unfold maxLen at hcm
 have hbA : Below w.heap.size w (w.alloc (.cells #[.int .i64 10, .int .i64 n, slW p.1, slW p.2, .int .i64 l, .int .i64 r] 74)) := (Below.refl _ _).alloc (Nat.le_refl _) _
 have d1 := (hbA.cell (p := ⟨b, off + 1, none⟩) hblt).trans c1
 have d3 := (hbA.cell (p := ⟨b, off + 1 * 2 + 1, none⟩) hblt).trans c3
 have hmi : (1 : Int) < (m : Int) := by omega
 have hmi0 : (0 : Int) < (m : Int) := by omega
 have hm0 : 0 < m := by omega
 go_enter Tryz.func119, Tryz.ntmps119
 go_wp2_with fail
 generalize w.alloc (.cells #[.int .i64 10, .int .i64 n, slW p.1, slW p.2, .int .i64 l, .int .i64 r] 74) = W at *
 refine wp_region_held_drew (S := fun w' => w'.cell? ⟨b, off + 1, none⟩ = some (.iface t1 u1) ∧ w'.cell? ⟨b, off + 1 * 2 + 1, none⟩ = some (.iface t3 u3)) (by kernel_rfl) ?hS1 (fun hHeld => ?_)
 case hS1 => exact ⟨d1, d3⟩
 refine wpAnyH_take (i := 0) (v := ?_) rfl (by kernel_rfl) (by kernel_rfl) (by kernel_rfl) (fun _ _ _ h => h) (Or.inl ⟨by kernel_rfl, ?hy2⟩) (by assumption) ?ty2
 case hy2 => (intro w hSw; (try dsimp only at hSw); obtain ⟨s1, s3⟩ := hSw; go_simp; all_goals with_reducible rfl)
 simp only [Act.put, List.getElem_toArray, List.getElem_cons_zero, List.setIfInBounds_toArray, List.set_cons_zero, List.set_cons_succ]
 refine wpAnyH_take (i := 1) (v := ?_) rfl (by kernel_rfl) (by kernel_rfl) (by kernel_rfl) (fun _ _ _ h => h) (Or.inl ⟨by kernel_rfl, ?hy3⟩) (by assumption) ?ty3
 case hy3 => (intro w hSw; (try dsimp only at hSw); obtain ⟨s1, s3⟩ := hSw; go_simp; all_goals with_reducible rfl)
 simp only [Act.put, List.getElem_toArray, List.getElem_cons_zero, List.getElem_cons_succ, List.setIfInBounds_toArray, List.set_cons_zero, List.set_cons_succ]
 refine wpAnyH_take (i := 2) (v := ?_) rfl (by kernel_rfl) (by kernel_rfl) (by kernel_rfl) (fun _ _ _ h => h) (Or.inl ⟨by kernel_rfl, ?hy4⟩) (by assumption) ?ty4
 case hy4 => (intro w hSw; (try dsimp only at hSw); obtain ⟨s1, s3⟩ := hSw; go_simp; all_goals with_reducible rfl)
 simp only [Act.put, List.getElem_toArray, List.getElem_cons_zero, List.getElem_cons_succ, List.setIfInBounds_toArray, List.set_cons_zero, List.set_cons_succ]
 refine wpAnyH_take (i := 3) (v := ?_) rfl (by kernel_rfl) (by kernel_rfl) (by kernel_rfl) (fun _ _ _ h => h) (Or.inl ⟨by kernel_rfl, ?hy5⟩) (by assumption) ?ty5
 case hy5 => (intro w hSw; (try dsimp only at hSw); obtain ⟨s1, s3⟩ := hSw; go_simp; all_goals with_reducible rfl)
 simp only [Act.put, List.getElem_toArray, List.getElem_cons_zero, List.getElem_cons_succ, List.setIfInBounds_toArray, List.set_cons_zero, List.set_cons_succ]
 refine wpAnyH_take (i := 4) (v := ?_) rfl (by kernel_rfl) (by kernel_rfl) (by kernel_rfl) (fun _ _ _ h => h) (Or.inl ⟨by kernel_rfl, ?hy6⟩) (by assumption) ?ty6
 case hy6 => (intro w hSw; (try dsimp only at hSw); obtain ⟨s1, s3⟩ := hSw; go_simp; all_goals with_reducible rfl)
 simp only [Act.put, List.getElem_toArray, List.getElem_cons_zero, List.getElem_cons_succ, List.setIfInBounds_toArray, List.set_cons_zero, List.set_cons_succ]
 refine wpAnyH_take (i := 5) (v := ?_) rfl (by kernel_rfl) (by kernel_rfl) (by kernel_rfl) (fun _ _ _ h => h) (Or.inl ⟨by kernel_rfl, ?hy7⟩) (by assumption) ?ty7
 case hy7 => (intro w hSw; (try dsimp only at hSw); obtain ⟨s1, s3⟩ := hSw; go_simp; all_goals with_reducible rfl)
 simp only [Act.put, List.getElem_toArray, List.getElem_cons_zero, List.getElem_cons_succ, List.setIfInBounds_toArray, List.set_cons_zero, List.set_cons_succ]
 refine wpAnyH_take (i := 6) (v := ?_) rfl (by kernel_rfl) (by kernel_rfl) (by kernel_rfl) (fun _ _ _ h => h) (Or.inl ⟨by kernel_rfl, ?hy8⟩) (by assumption) ?ty8
 case hy8 => (intro w hSw; (try dsimp only at hSw); obtain ⟨s1, s3⟩ := hSw; go_simp; all_goals with_reducible rfl)
 simp only [Act.put, List.getElem_toArray, List.getElem_cons_zero, List.getElem_cons_succ, List.setIfInBounds_toArray, List.set_cons_zero, List.set_cons_succ]
 refine wpAnyH_take (i := 7) (v := ?_) rfl (by kernel_rfl) (by kernel_rfl) (by kernel_rfl) (fun _ _ _ h => h) (Or.inl ⟨by kernel_rfl, ?hy9⟩) (by assumption) ?ty9
 case hy9 => (intro w hSw; (try dsimp only at hSw); obtain ⟨s1, s3⟩ := hSw; go_simp; all_goals with_reducible rfl)
 simp only [Act.put, List.getElem_toArray, List.getElem_cons_zero, List.getElem_cons_succ, List.setIfInBounds_toArray, List.set_cons_zero, List.set_cons_succ]
 refine wpAnyH_take (i := 8) (v := ?_) rfl (by kernel_rfl) (by kernel_rfl) (by kernel_rfl) (fun _ _ _ h => h) (Or.inl ⟨by kernel_rfl, ?hy10⟩) (by assumption) ?ty10
 case hy10 => (intro w hSw; (try dsimp only at hSw); obtain ⟨s1, s3⟩ := hSw; go_simp; all_goals with_reducible rfl)
 simp only [Act.put, List.getElem_toArray, List.getElem_cons_zero, List.getElem_cons_succ, List.setIfInBounds_toArray, List.set_cons_zero, List.set_cons_succ]
 refine wpAnyH_take (i := 9) (v := ?_) rfl (by kernel_rfl) (by kernel_rfl) (by kernel_rfl) (fun _ _ _ h => h) (Or.inl ⟨by kernel_rfl, ?hy11⟩) (by assumption) ?ty11
 case hy11 => (intro w hSw; (try dsimp only at hSw); obtain ⟨s1, s3⟩ := hSw; go_simp; all_goals with_reducible rfl)
 simp only [Act.put, List.getElem_toArray, List.getElem_cons_zero, List.getElem_cons_succ, List.setIfInBounds_toArray, List.set_cons_zero, List.set_cons_succ]
 refine wpAnyH_take (i := 10) (v := ?_) rfl (by kernel_rfl) (by kernel_rfl) (by kernel_rfl) (fun _ _ _ h => h) (Or.inl ⟨by kernel_rfl, ?hy12⟩) (by assumption) ?ty12
 case hy12 => (intro w hSw; (try dsimp only at hSw); obtain ⟨s1, s3⟩ := hSw; go_simp; all_goals with_reducible rfl)
 simp only [Act.put, List.getElem_toArray, List.getElem_cons_zero, List.getElem_cons_succ, List.setIfInBounds_toArray, List.set_cons_zero, List.set_cons_succ]
 refine wpAnyH_done (by kernel_rfl) ?_ _
 clear hHeld
 go_wp2
 go_ret
 exact ⟨rfl, hbA.drew⟩
set_option maxHeartbeats 1600000 in
set_option maxRecDepth 100000 in
theorem grow_11 (n l r : Int) (p : SlT) (w : World) (b off m cap : Nat) (t1 t3 : TypeId) (u1 u3 : Value) (hm : 1 < m) (hmc : m ≤ cap) (hcm : cap ≤ maxLen) (hblt : b < w.heap.size) (c1 : w.cell? ⟨b, off + 1, none⟩ = some (.iface t1 u1)) (c3 : w.cell? ⟨b, off + 1 * 2 + 1, none⟩ = some (.iface t3 u3)) :
  Calls Tryz.prog 119 #[.agg #[.int .i64 11, .int .i64 n, slW p.1, slW p.2, .int .i64 l, .int .i64 r], .slice (some ⟨b, off, none⟩) m cap] w fun e w' => e = .returned (.iface 190 (.agg #[.iface t1 u1, .iface t3 u3])) ∧ Below w.heap.size w w' := by
 unfold maxLen at hcm
 have hbA : Below w.heap.size w (w.alloc (.cells #[.int .i64 11, .int .i64 n, slW p.1, slW p.2, .int .i64 l, .int .i64 r] 74)) := (Below.refl _ _).alloc (Nat.le_refl _) _
 have d1 := (hbA.cell (p := ⟨b, off + 1, none⟩) hblt).trans c1
 have d3 := (hbA.cell (p := ⟨b, off + 1 * 2 + 1, none⟩) hblt).trans c3
 have hmi : (1 : Int) < (m : Int) := by omega
 have hmi0 : (0 : Int) < (m : Int) := by omega
 have hm0 : 0 < m := by omega
 go_enter Tryz.func119, Tryz.ntmps119
 go_wp2_with fail
 generalize w.alloc (.cells #[.int .i64 11, .int .i64 n, slW p.1, slW p.2, .int .i64 l, .int .i64 r] 74) = W at *
 refine wp_region_held_drew (S := fun w' => w'.cell? ⟨b, off + 1, none⟩ = some (.iface t1 u1) ∧ w'.cell? ⟨b, off + 1 * 2 + 1, none⟩ = some (.iface t3 u3)) (by kernel_rfl) ?hS13 (fun hHeld => ?_)
 case hS13 => exact ⟨d1, d3⟩
 refine wpAnyH_take (i := 0) (v := ?_) rfl (by kernel_rfl) (by kernel_rfl) (by kernel_rfl) (fun _ _ _ h => h) (Or.inl ⟨by kernel_rfl, ?hy14⟩) (by assumption) ?ty14
 case hy14 => (intro w hSw; (try dsimp only at hSw); obtain ⟨s1, s3⟩ := hSw; go_simp; all_goals with_reducible rfl)
 simp only [Act.put, List.getElem_toArray, List.getElem_cons_zero, List.setIfInBounds_toArray, List.set_cons_zero, List.set_cons_succ]
 refine wpAnyH_take (i := 1) (v := ?_) rfl (by kernel_rfl) (by kernel_rfl) (by kernel_rfl) (fun _ _ _ h => h) (Or.inl ⟨by kernel_rfl, ?hy15⟩) (by assumption) ?ty15
 case hy15 => (intro w hSw; (try dsimp only at hSw); obtain ⟨s1, s3⟩ := hSw; go_simp; all_goals with_reducible rfl)
 simp only [Act.put, List.getElem_toArray, List.getElem_cons_zero, List.getElem_cons_succ, List.setIfInBounds_toArray, List.set_cons_zero, List.set_cons_succ]
 refine wpAnyH_take (i := 2) (v := ?_) rfl (by kernel_rfl) (by kernel_rfl) (by kernel_rfl) (fun _ _ _ h => h) (Or.inl ⟨by kernel_rfl, ?hy16⟩) (by assumption) ?ty16
 case hy16 => (intro w hSw; (try dsimp only at hSw); obtain ⟨s1, s3⟩ := hSw; go_simp; all_goals with_reducible rfl)
 simp only [Act.put, List.getElem_toArray, List.getElem_cons_zero, List.getElem_cons_succ, List.setIfInBounds_toArray, List.set_cons_zero, List.set_cons_succ]
 refine wpAnyH_take (i := 3) (v := ?_) rfl (by kernel_rfl) (by kernel_rfl) (by kernel_rfl) (fun _ _ _ h => h) (Or.inl ⟨by kernel_rfl, ?hy17⟩) (by assumption) ?ty17
 case hy17 => (intro w hSw; (try dsimp only at hSw); obtain ⟨s1, s3⟩ := hSw; go_simp; all_goals with_reducible rfl)
 simp only [Act.put, List.getElem_toArray, List.getElem_cons_zero, List.getElem_cons_succ, List.setIfInBounds_toArray, List.set_cons_zero, List.set_cons_succ]
 refine wpAnyH_take (i := 4) (v := ?_) rfl (by kernel_rfl) (by kernel_rfl) (by kernel_rfl) (fun _ _ _ h => h) (Or.inl ⟨by kernel_rfl, ?hy18⟩) (by assumption) ?ty18
 case hy18 => (intro w hSw; (try dsimp only at hSw); obtain ⟨s1, s3⟩ := hSw; go_simp; all_goals with_reducible rfl)
 simp only [Act.put, List.getElem_toArray, List.getElem_cons_zero, List.getElem_cons_succ, List.setIfInBounds_toArray, List.set_cons_zero, List.set_cons_succ]
 refine wpAnyH_take (i := 5) (v := ?_) rfl (by kernel_rfl) (by kernel_rfl) (by kernel_rfl) (fun _ _ _ h => h) (Or.inl ⟨by kernel_rfl, ?hy19⟩) (by assumption) ?ty19
 case hy19 => (intro w hSw; (try dsimp only at hSw); obtain ⟨s1, s3⟩ := hSw; go_simp; all_goals with_reducible rfl)
 simp only [Act.put, List.getElem_toArray, List.getElem_cons_zero, List.getElem_cons_succ, List.setIfInBounds_toArray, List.set_cons_zero, List.set_cons_succ]
 refine wpAnyH_take (i := 6) (v := ?_) rfl (by kernel_rfl) (by kernel_rfl) (by kernel_rfl) (fun _ _ _ h => h) (Or.inl ⟨by kernel_rfl, ?hy20⟩) (by assumption) ?ty20
 case hy20 => (intro w hSw; (try dsimp only at hSw); obtain ⟨s1, s3⟩ := hSw; go_simp; all_goals with_reducible rfl)
 simp only [Act.put, List.getElem_toArray, List.getElem_cons_zero, List.getElem_cons_succ, List.setIfInBounds_toArray, List.set_cons_zero, List.set_cons_succ]
 refine wpAnyH_take (i := 7) (v := ?_) rfl (by kernel_rfl) (by kernel_rfl) (by kernel_rfl) (fun _ _ _ h => h) (Or.inl ⟨by kernel_rfl, ?hy21⟩) (by assumption) ?ty21
 case hy21 => (intro w hSw; (try dsimp only at hSw); obtain ⟨s1, s3⟩ := hSw; go_simp; all_goals with_reducible rfl)
 simp only [Act.put, List.getElem_toArray, List.getElem_cons_zero, List.getElem_cons_succ, List.setIfInBounds_toArray, List.set_cons_zero, List.set_cons_succ]
 refine wpAnyH_take (i := 8) (v := ?_) rfl (by kernel_rfl) (by kernel_rfl) (by kernel_rfl) (fun _ _ _ h => h) (Or.inl ⟨by kernel_rfl, ?hy22⟩) (by assumption) ?ty22
 case hy22 => (intro w hSw; (try dsimp only at hSw); obtain ⟨s1, s3⟩ := hSw; go_simp; all_goals with_reducible rfl)
 simp only [Act.put, List.getElem_toArray, List.getElem_cons_zero, List.getElem_cons_succ, List.setIfInBounds_toArray, List.set_cons_zero, List.set_cons_succ]
 refine wpAnyH_take (i := 9) (v := ?_) rfl (by kernel_rfl) (by kernel_rfl) (by kernel_rfl) (fun _ _ _ h => h) (Or.inl ⟨by kernel_rfl, ?hy23⟩) (by assumption) ?ty23
 case hy23 => (intro w hSw; (try dsimp only at hSw); obtain ⟨s1, s3⟩ := hSw; go_simp; all_goals with_reducible rfl)
 simp only [Act.put, List.getElem_toArray, List.getElem_cons_zero, List.getElem_cons_succ, List.setIfInBounds_toArray, List.set_cons_zero, List.set_cons_succ]
 refine wpAnyH_take (i := 10) (v := ?_) rfl (by kernel_rfl) (by kernel_rfl) (by kernel_rfl) (fun _ _ _ h => h) (Or.inl ⟨by kernel_rfl, ?hy24⟩) (by assumption) ?ty24
 case hy24 => (intro w hSw; (try dsimp only at hSw); obtain ⟨s1, s3⟩ := hSw; go_simp; all_goals with_reducible rfl)
 simp only [Act.put, List.getElem_toArray, List.getElem_cons_zero, List.getElem_cons_succ, List.setIfInBounds_toArray, List.set_cons_zero, List.set_cons_succ]
 refine wpAnyH_done (by kernel_rfl) ?_ _
 clear hHeld
 go_wp2
 go_ret
 exact ⟨rfl, hbA.drew⟩
theorem grow_any (o : TmR) (p : SlT) (a : Option Addr) (m cap : Nat) (l : List SdP) (w : World) (hl : l.length = m) (hmc : m ≤ cap) (hcm : cap ≤ maxLen) (hr : RdSd w a l) (hi : IfS l) (hp : l.length = (plT o).length) :
  Calls Tryz.prog 119 #[tmX o p, .slice a m cap] w fun e w' => e = .returned (growV o p (l.map Prod.snd)) ∧ Below w.heap.size w w' := by
 obtain ⟨k, n, c, y, lf, rt⟩ := o
 by_cases h2 : k = 2
 ·subst h2
  exact grow_2 n lf rt p w _
 by_cases h3 : k = 3
 ·subst h3
  exact grow_3 n lf rt p w _
 by_cases h4 : k = 4
 ·subst h4
  exact grow_4 n lf rt p w _
 by_cases h5 : k = 5
 ·subst h5
  exact grow_5 n lf rt p w _
 by_cases h6 : k = 6
 ·subst h6
  exact grow_6 n lf rt p w _
 by_cases h7 : k = 7
 ·subst h7
  exact grow_7 n lf rt p w _
 by_cases h8 : k = 8
 ·subst h8
  exact grow_8 n lf rt p w _
 by_cases h9 : k = 9
 ·subst h9
  have hp1 : l.length = 1 := hp
  obtain ⟨b, off, rfl, hblt, hc⟩ := hr.at_ (by omega)
  obtain ⟨t1, u1, e1⟩ := hi 0 (by omega)
  have c1 := (hc 0 (by omega)).2
  rw [e1] at c1
  have := grow_9 n lf rt p w b off m cap 0 t1 u1 (by omega) hmc hcm hblt (by simpa using c1)
  have hv : growV ⟨9, n, c, y, lf, rt⟩ p (l.map Prod.snd) = .iface 187 (.agg #[.iface t1 u1]) := by
   match l, hp1, e1 with
   | [q], _, e1 =>
    have e2 : q.2 = .iface t1 u1 := e1
    show Value.iface _ (.agg #[q.2]) = _
    rw [e2]
  rw [hv]
  exact this
 by_cases h10 : k = 10
 ·subst h10
  have hp1 : l.length = 2 := hp
  obtain ⟨b, off, rfl, hblt, hc⟩ := hr.at_ (by omega)
  obtain ⟨t1, u1, e1⟩ := hi 0 (by omega)
  obtain ⟨t3, u3, e3⟩ := hi 1 (by omega)
  have c1 := (hc 0 (by omega)).2
  have c3 := (hc 1 (by omega)).2
  rw [e1] at c1
  rw [e3] at c3
  have := grow_10 n lf rt p w b off m cap t1 t3 u1 u3 (by omega) hmc hcm hblt (by simpa using c1) c3
  have hv : growV ⟨10, n, c, y, lf, rt⟩ p (l.map Prod.snd) = .iface 189 (.agg #[.iface t1 u1, .iface t3 u3]) := by
   match l, hp1, e1, e3 with
   | [q, q'], _, e1, e3 =>
    have e2 : q.2 = .iface t1 u1 := e1
    have e4 : q'.2 = .iface t3 u3 := e3
    show Value.iface _ (.agg #[q.2, q'.2]) = _
    rw [e2, e4]
  rw [hv]
  exact this
 by_cases h11 : k = 11
 ·subst h11
  have hp1 : l.length = 2 := hp
  obtain ⟨b, off, rfl, hblt, hc⟩ := hr.at_ (by omega)
  obtain ⟨t1, u1, e1⟩ := hi 0 (by omega)
  obtain ⟨t3, u3, e3⟩ := hi 1 (by omega)
  have c1 := (hc 0 (by omega)).2
  have c3 := (hc 1 (by omega)).2
  rw [e1] at c1
  rw [e3] at c3
  have := grow_11 n lf rt p w b off m cap t1 t3 u1 u3 (by omega) hmc hcm hblt (by simpa using c1) c3
  have hv : growV ⟨11, n, c, y, lf, rt⟩ p (l.map Prod.snd) = .iface 190 (.agg #[.iface t1 u1, .iface t3 u3]) := by
   match l, hp1, e1, e3 with
   | [q, q'], _, e1, e3 =>
    have e2 : q.2 = .iface t1 u1 := e1
    have e4 : q'.2 = .iface t3 u3 := e3
    show Value.iface _ (.agg #[q.2, q'.2]) = _
    rw [e2, e4]
  rw [hv]
  exact this
 have hv : growV ⟨k, n, c, y, lf, rt⟩ p (l.map Prod.snd) = .iface 200 (.agg #[]) := by
  unfold growV
  dsimp only
  rw [if_neg h2, if_neg h3, if_neg h4, if_neg h5, if_neg h6, if_neg h7, if_neg h8, if_neg h9, if_neg h10, if_neg h11]
 rw [hv]
 exact grow_o n lf rt p k w _ ⟨h2, h3, h4, h5, h6, h7, h8, h9, h10, h11⟩
end Go.Proofs.YtjogclofjollnaaGreatDoor
