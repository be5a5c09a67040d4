/- Whether two ops, two lists of ops are the same: both sides; no conditions beyond those that each fact names. -/
import Derived.Test.YtdcgihcjiiemdaaDoorDjrToOpa
import Derived.Deep.RegionHeld3
namespace Go.Proofs.YtdcgihcjiiemdaaDoor
open Go.RowKit
set_option linter.unusedVariables false
def eqH (n m : Nat) (p : Nat → Bool) : Bool := decide (n = m) && (List.range n).all p
theorem eqH_ne {n m : Nat} {p : Nat → Bool} (h : n ≠ m) : eqH n m p = false := by simp [eqH, h]
theorem eqH_bad {n m k : Nat} {p : Nat → Bool} (hk : k < n) (h : p k = false) : eqH n m p = false := by
 have : (List.range n).all p = false := List.all_eq_false.2 ⟨k, by simpa using hk, by simp [h]⟩
 simp [eqH, this]
theorem eqH_all {n m : Nat} {p : Nat → Bool} (h : n = m) (h' : ∀ k, k < n → p k = true) : eqH n m p = true := by
 have : (List.range n).all p = true := List.all_eq_true.2 (fun k hk => h' k (by simpa using hk))
 subst h
 unfold eqH
 rw [this]
 simp
theorem toListO_ne {a b : ByteArray} (h : a ≠ b) : ¬ a.toList = b.toList := fun e => h (by
 rw [ByteArray.toList_eq, ByteArray.toList_eq] at e
 obtain ⟨⟨x⟩⟩ := a
 obtain ⟨⟨y⟩⟩ := b
 have e' : x = y := e
 rw [e'])
def smU (l l' : List Int) : Bool := eqH l.length l'.length (fun i => decide (nthI l i = nthI l' i))
def smO (a b : OpR) : Bool := decide (a.k = b.k) && (decide (a.x = b.x) && (decide (a.t = b.t) && (decide (a.m = b.m) && (decide (a.f = b.f) && (decide (a.d = b.d) && (decide (str a.b = str b.b) && smU a.u b.u))))))
set_option maxHeartbeats 1600000 in
set_option maxRecDepth 100000 in
theorem equalI_any (s s' : SlQ) (l l' : List Int) {lo lo' : Nat} (w : World) (hs : IsIl lo w s l) (hs' : IsIl lo' w s' l') :
  Calls Tryd.prog 66 #[slW s, slW s'] w fun e w' => e = .returned (.bool (smU l l')) ∧ Below w.heap.size w w' := by
 obtain ⟨a, n, cap⟩ := s
 obtain ⟨a', n', cap'⟩ := s'
 obtain ⟨hl, hnc, hcm, hr, -⟩ := hs
 obtain ⟨hl', hnc', hcm', hr', -⟩ := hs'
 dsimp only [slW] at *
 unfold maxLen at hcm hcm'
 have HL : Hid (l.length = n ∧ l'.length = n') := ⟨hl, hl'⟩
 have HB : Hid (∀ k, k < n → nthI l k ≠ nthI l' k → smU l l' = false) := fun k hk h => eqH_bad (by rw [hl]; exact hk) (decide_eq_false h)
 have HE : Hid (n ≠ n' → smU l l' = false) := fun h => eqH_ne (by rw [hl, hl']; exact h)
 have HA : Hid (n = n' → (∀ k, k < n → nthI l k = nthI l' k) → smU l l' = true) := fun h h' => eqH_all (by rw [hl, hl']; exact h) (fun k hk => decide_eq_true (h' k (by omega)))
 generalize smU l l' = r at *
 clear hl hl'
 go_enter Tryd.func66, Tryd.ntmps66
 by_cases hnn : n = n'
 ·subst hnn
  go_wp2
  go_loopw [13, 5] (fun i _ wr => ∃ k : Nat, k ≤ n ∧ i = .int .i64 k ∧ (∀ j, j < k → nthI l j = nthI l' j) ∧ Below w.heap.size w wr) (fun i _ _ => n - (intOf i).toNat)
  case atStart => exact ⟨0, Nat.zero_le _, rfl, fun j hj => absurd hj (Nat.not_lt_zero _), Below.refl _ _⟩
  case round =>
   obtain ⟨k, hk, rfl, hall, hbel⟩ := hrel
   by_cases hkn : k < n
   ·have hki : (k : Int) < (n : Int) := by omega
    obtain ⟨g, off, rfl, hglt, hcell⟩ := (hr.below hbel).at_ (by have := HL.out; omega)
    obtain ⟨g', off', rfl, hglt', hcell'⟩ := (hr'.below hbel).at_ (by have := HL.out; omega)
    have c0 := hcell k (by have := HL.out; omega)
    have d0 := hcell' k (by have := HL.out; omega)
    have HY : Hid (nthI l k = nthI l' k → ∀ j, j < k + 1 → nthI l j = nthI l' j) := fun h j hj => by
     rcases Nat.lt_or_ge j k with h' | h'
     ·exact hall j h'
     ·obtain rfl : j = k := by omega
      exact h
    have HN : Hid (nthI l k ≠ nthI l' k → r = false) := fun h => HB.out k hkn h
    clear hall hcell hcell'
    generalize nthI l k = y at *
    generalize nthI l' k = z at *
    by_cases hyz : y = z
    ·have HM : Hid (_) := HY.out hyz
     clear HY HN
     subst hyz
     go_wp2_with fail
     refine wp_region_held_drew (S := fun w' => w'.cell? ⟨g, off + k, none⟩ = some (.int .i64 y) ∧ w'.cell? ⟨g', off' + k, none⟩ = some (.int .i64 y)) (by kernel_rfl) ?hS1 (fun hHeld => ?_)
     case hS1 => exact ⟨c0, d0⟩
     refine wpAnyH_take (i := 0) (v := ?_) rfl (by kernel_rfl) (by kernel_rfl) (by kernel_rfl) (fun _ _ _ h => h) (Or.inl ⟨by rfl, ?hy2⟩) (by assumption) ?ty2
     case hy2 => (intro w hSw; (try dsimp only at hSw); obtain ⟨s0, s1⟩ := hSw; go_simp; all_goals with_reducible rfl)
     simp only [Act.put, List.getElem_toArray, List.getElem_cons_zero, List.setIfInBounds_toArray, List.set_cons_zero, List.set_cons_succ]
     refine wpAnyH_take (i := 1) (v := ?_) rfl (by kernel_rfl) (by kernel_rfl) (by kernel_rfl) (fun _ _ _ h => h) (Or.inl ⟨by rfl, ?hy3⟩) (by assumption) ?ty3
     case hy3 => (intro w hSw; (try dsimp only at hSw); obtain ⟨s0, s1⟩ := hSw; go_simp; all_goals with_reducible rfl)
     simp only [Act.put, List.getElem_toArray, List.getElem_cons_zero, List.getElem_cons_succ, List.setIfInBounds_toArray, List.set_cons_zero, List.set_cons_succ]
     refine wpAnyH_take (i := 2) (v := ?_) rfl (by kernel_rfl) (by kernel_rfl) (by kernel_rfl) (fun _ _ _ h => h) (Or.inl ⟨by rfl, ?hy4⟩) (by assumption) ?ty4
     case hy4 => (intro w hSw; (try dsimp only at hSw); obtain ⟨s0, s1⟩ := hSw; go_simp; all_goals with_reducible rfl)
     simp only [Act.put, List.getElem_toArray, List.getElem_cons_zero, List.getElem_cons_succ, List.setIfInBounds_toArray, List.set_cons_zero, List.set_cons_succ]
     refine wpAnyH_take (i := 3) (v := ?_) rfl (by kernel_rfl) (by kernel_rfl) (by kernel_rfl) (fun _ _ _ h => h) (Or.inl ⟨by rfl, ?hy5⟩) (by assumption) ?ty5
     case hy5 => (intro w hSw; (try dsimp only at hSw); obtain ⟨s0, s1⟩ := hSw; go_simp; all_goals with_reducible rfl)
     simp only [Act.put, List.getElem_toArray, List.getElem_cons_zero, List.getElem_cons_succ, List.setIfInBounds_toArray, List.set_cons_zero, List.set_cons_succ]
     refine wpAnyH_take (i := 4) (v := ?_) rfl (by kernel_rfl) (by kernel_rfl) (by kernel_rfl) (fun _ _ _ h => h) (Or.inl ⟨by rfl, ?hy6⟩) (by assumption) ?ty6
     case hy6 => (intro w hSw; (try dsimp only at hSw); obtain ⟨s0, s1⟩ := hSw; go_simp; all_goals with_reducible rfl)
     simp only [Act.put, List.getElem_toArray, List.getElem_cons_zero, List.getElem_cons_succ, List.setIfInBounds_toArray, List.set_cons_zero, List.set_cons_succ]
     refine wpAnyH_take (i := 5) (v := ?_) rfl (by kernel_rfl) (by kernel_rfl) (by kernel_rfl) (fun _ _ _ h => h) (Or.inl ⟨by rfl, ?hy7⟩) (by assumption) ?ty7
     case hy7 => (intro w hSw; (try dsimp only at hSw); obtain ⟨s0, s1⟩ := hSw; go_simp; all_goals with_reducible rfl)
     simp only [Act.put, List.getElem_toArray, List.getElem_cons_zero, List.getElem_cons_succ, List.setIfInBounds_toArray, List.set_cons_zero, List.set_cons_succ]
     refine wpAnyH_take (i := 6) (v := ?_) rfl (by kernel_rfl) (by kernel_rfl) (by kernel_rfl) (fun _ _ _ h => h) (Or.inl ⟨by rfl, ?hy8⟩) (by assumption) ?ty8
     case hy8 => (intro w hSw; (try dsimp only at hSw); obtain ⟨s0, s1⟩ := hSw; go_simp; all_goals with_reducible rfl)
     simp only [Act.put, List.getElem_toArray, List.getElem_cons_zero, List.getElem_cons_succ, List.setIfInBounds_toArray, List.set_cons_zero, List.set_cons_succ]
     refine wpAnyH_take (i := 7) (v := ?_) rfl (by kernel_rfl) (by kernel_rfl) (by kernel_rfl) (fun _ _ _ h => h) (Or.inl ⟨by rfl, ?hy9⟩) (by assumption) ?ty9
     case hy9 => (intro w hSw; (try dsimp only at hSw); obtain ⟨s0, s1⟩ := hSw; go_simp; all_goals with_reducible rfl)
     simp only [Act.put, List.getElem_toArray, List.getElem_cons_zero, List.getElem_cons_succ, List.setIfInBounds_toArray, List.set_cons_zero, List.set_cons_succ]
     refine wpAnyH_take (i := 8) (v := .bool false) rfl (by kernel_rfl) (by kernel_rfl) (by kernel_rfl) (fun _ _ _ h => h) (Or.inl ⟨by rfl, ?hy10⟩) (by assumption) ?ty10
     case hy10 => (intro w hSw; (try dsimp only at hSw); obtain ⟨s0, s1⟩ := hSw; go_simp; first | (all_goals with_reducible rfl) | (simp; done) | (simp; omega))
     simp only [Act.put, List.getElem_toArray, List.getElem_cons_zero, List.getElem_cons_succ, List.setIfInBounds_toArray, List.set_cons_zero, List.set_cons_succ]
     refine wpAnyH_done (by kernel_rfl) ?_ _
     clear hHeld
     go_wp2
     go_roundw
     case rel => exact ⟨k + 1, by omega, by go_num, HM.out, hbel.trans (Below.refl _ _).drew⟩
     case measure => simp [intOf]; omega
    ·have HM : Hid (r = false) := HN.out hyz
     clear HY HN
     go_wp2_with fail
     refine wp_region_held_drew (S := fun w' => w'.cell? ⟨g, off + k, none⟩ = some (.int .i64 y) ∧ w'.cell? ⟨g', off' + k, none⟩ = some (.int .i64 z)) (by kernel_rfl) ?hS11 (fun hHeld => ?_)
     case hS11 => exact ⟨c0, d0⟩
     refine wpAnyH_take (i := 0) (v := ?_) rfl (by kernel_rfl) (by kernel_rfl) (by kernel_rfl) (fun _ _ _ h => h) (Or.inl ⟨by rfl, ?hy12⟩) (by assumption) ?ty12
     case hy12 => (intro w hSw; (try dsimp only at hSw); obtain ⟨s0, s1⟩ := hSw; go_simp; all_goals with_reducible rfl)
     simp only [Act.put, List.getElem_toArray, List.getElem_cons_zero, List.setIfInBounds_toArray, List.set_cons_zero, List.set_cons_succ]
     refine wpAnyH_take (i := 1) (v := ?_) rfl (by kernel_rfl) (by kernel_rfl) (by kernel_rfl) (fun _ _ _ h => h) (Or.inl ⟨by rfl, ?hy13⟩) (by assumption) ?ty13
     case hy13 => (intro w hSw; (try dsimp only at hSw); obtain ⟨s0, s1⟩ := hSw; go_simp; all_goals with_reducible rfl)
     simp only [Act.put, List.getElem_toArray, List.getElem_cons_zero, List.getElem_cons_succ, List.setIfInBounds_toArray, List.set_cons_zero, List.set_cons_succ]
     refine wpAnyH_take (i := 2) (v := ?_) rfl (by kernel_rfl) (by kernel_rfl) (by kernel_rfl) (fun _ _ _ h => h) (Or.inl ⟨by rfl, ?hy14⟩) (by assumption) ?ty14
     case hy14 => (intro w hSw; (try dsimp only at hSw); obtain ⟨s0, s1⟩ := hSw; go_simp; all_goals with_reducible rfl)
     simp only [Act.put, List.getElem_toArray, List.getElem_cons_zero, List.getElem_cons_succ, List.setIfInBounds_toArray, List.set_cons_zero, List.set_cons_succ]
     refine wpAnyH_take (i := 3) (v := ?_) rfl (by kernel_rfl) (by kernel_rfl) (by kernel_rfl) (fun _ _ _ h => h) (Or.inl ⟨by rfl, ?hy15⟩) (by assumption) ?ty15
     case hy15 => (intro w hSw; (try dsimp only at hSw); obtain ⟨s0, s1⟩ := hSw; go_simp; all_goals with_reducible rfl)
     simp only [Act.put, List.getElem_toArray, List.getElem_cons_zero, List.getElem_cons_succ, List.setIfInBounds_toArray, List.set_cons_zero, List.set_cons_succ]
     refine wpAnyH_take (i := 4) (v := ?_) rfl (by kernel_rfl) (by kernel_rfl) (by kernel_rfl) (fun _ _ _ h => h) (Or.inl ⟨by rfl, ?hy16⟩) (by assumption) ?ty16
     case hy16 => (intro w hSw; (try dsimp only at hSw); obtain ⟨s0, s1⟩ := hSw; go_simp; all_goals with_reducible rfl)
     simp only [Act.put, List.getElem_toArray, List.getElem_cons_zero, List.getElem_cons_succ, List.setIfInBounds_toArray, List.set_cons_zero, List.set_cons_succ]
     refine wpAnyH_take (i := 5) (v := ?_) rfl (by kernel_rfl) (by kernel_rfl) (by kernel_rfl) (fun _ _ _ h => h) (Or.inl ⟨by rfl, ?hy17⟩) (by assumption) ?ty17
     case hy17 => (intro w hSw; (try dsimp only at hSw); obtain ⟨s0, s1⟩ := hSw; go_simp; all_goals with_reducible rfl)
     simp only [Act.put, List.getElem_toArray, List.getElem_cons_zero, List.getElem_cons_succ, List.setIfInBounds_toArray, List.set_cons_zero, List.set_cons_succ]
     refine wpAnyH_take (i := 6) (v := ?_) rfl (by kernel_rfl) (by kernel_rfl) (by kernel_rfl) (fun _ _ _ h => h) (Or.inl ⟨by rfl, ?hy18⟩) (by assumption) ?ty18
     case hy18 => (intro w hSw; (try dsimp only at hSw); obtain ⟨s0, s1⟩ := hSw; go_simp; all_goals with_reducible rfl)
     simp only [Act.put, List.getElem_toArray, List.getElem_cons_zero, List.getElem_cons_succ, List.setIfInBounds_toArray, List.set_cons_zero, List.set_cons_succ]
     refine wpAnyH_take (i := 7) (v := ?_) rfl (by kernel_rfl) (by kernel_rfl) (by kernel_rfl) (fun _ _ _ h => h) (Or.inl ⟨by rfl, ?hy19⟩) (by assumption) ?ty19
     case hy19 => (intro w hSw; (try dsimp only at hSw); obtain ⟨s0, s1⟩ := hSw; go_simp; all_goals with_reducible rfl)
     simp only [Act.put, List.getElem_toArray, List.getElem_cons_zero, List.getElem_cons_succ, List.setIfInBounds_toArray, List.set_cons_zero, List.set_cons_succ]
     refine wpAnyH_take (i := 8) (v := .bool true) rfl (by kernel_rfl) (by kernel_rfl) (by kernel_rfl) (fun _ _ _ h => h) (Or.inl ⟨by rfl, ?hy20⟩) (by assumption) ?ty20
     case hy20 => (intro w hSw; (try dsimp only at hSw); obtain ⟨s0, s1⟩ := hSw; go_simp; first | (all_goals with_reducible rfl) | (simp; done) | (simp; omega))
     simp only [Act.put, List.getElem_toArray, List.getElem_cons_zero, List.getElem_cons_succ, List.setIfInBounds_toArray, List.set_cons_zero, List.set_cons_succ]
     refine wpAnyH_done (by kernel_rfl) ?_ _
     clear hHeld
     go_wp2
     go_ret
     exact ⟨by rw [HM.out]; rfl, hbel.trans (Below.refl _ _).drew⟩
   ·have hki : ¬ (k : Int) < (n : Int) := by omega
    have HM : Hid (r = true) := HA.out (by trivial) (fun j hj => hall j (by omega))
    clear hall
    go_wp2
    go_ret
    exact ⟨by rw [HM.out]; rfl, hbel⟩
 ·have hnn' : ¬ (n : Int) = (n' : Int) := by omega
  have HM : Hid (r = false) := HE.out hnn
  go_wp2
  go_ret
  exact ⟨by rw [HM.out]; rfl, Below.refl _ _⟩
set_option maxHeartbeats 1600000 in
set_option maxRecDepth 100000 in
theorem bytesEqO_any (s s' : SlQ) (l l' : List Nat) {lo lo' : Nat} (w : World) (hs : IsSl lo w s l) (hs' : IsSl lo' w s' l') :
  Calls Tryd.prog 50 #[slW s, slW s'] w fun e w' => e = .returned (.bool (decide (str l = str l'))) ∧ Below w.heap.size w w' := by
 have hrun := run_str (cap := s.2.2) hs.1 hs.2.2.2.2.1
 have hrun' := run_str (cap := s'.2.2) hs'.1 hs'.2.2.2.2.1
 obtain ⟨a, n, cap⟩ := s
 obtain ⟨a', n', cap'⟩ := s'
 dsimp only [slW] at *
 clear hs hs'
 by_cases h : str l = str l'
 ·have HR : Hid (decide (str l = str l') = true) := decide_eq_true h
  rw [← h] at hrun'
  generalize decide (str l = str l') = r at *
  clear h
  go_enter Tryd.func50, Tryd.ntmps50
  go_wp2
  go_ret
  exact ⟨by rw [HR.out]; simp, by go_grown⟩
 ·have HR : Hid (decide (str l = str l') = false) := decide_eq_false h
  have hne := toListO_ne h
  generalize decide (str l = str l') = r at *
  generalize str l = x at *
  generalize str l' = y at *
  clear h
  go_enter Tryd.func50, Tryd.ntmps50
  go_wp2
  go_ret
  exact ⟨by rw [HR.out]; simp [hne], by go_grown⟩
set_option maxHeartbeats 3200000 in
set_option maxRecDepth 100000 in
theorem isSameOp_any (a b : OpR) (p p' : SlO) {lo lo' : Nat} (w : World) (hs : IsOp lo w p a) (hs' : IsOp lo' w p' b) :
  Calls Tryd.prog 37 #[opX a p, opX b p'] w fun e w' => e = .returned (.bool (smO a b)) ∧ Below w.heap.size w w' := by
 obtain ⟨ak, ax, at', au, am, af, ad, ab⟩ := a
 obtain ⟨bk, bx, bt', bu, bm, bf, bd, bb⟩ := b
 have HV : Hid (smO ⟨ak, ax, at', au, am, af, ad, ab⟩ ⟨bk, bx, bt', bu, bm, bf, bd, bb⟩ = (decide (ak = bk) && (decide (ax = bx) && (decide (at' = bt') && (decide (am = bm) && (decide (af = bf) && (decide (ad = bd) && (decide (str ab = str bb) && smU au bu)))))))) := rfl
 generalize smO ⟨ak, ax, at', au, am, af, ad, ab⟩ ⟨bk, bx, bt', bu, bm, bf, bd, bb⟩ = r at *
 have hbW : Below w.heap.size w ((w.alloc (.cells #[.int .i64 ak, .string ax, .string at', slW p.1, .int .i64 am, .int .i64 af, .int .i64 ad, slW p.2] 27)).alloc (.cells #[.int .i64 bk, .string bx, .string bt', slW p'.1, .int .i64 bm, .int .i64 bf, .int .i64 bd, slW p'.2] 27)) :=
  ((Below.refl _ _).alloc (Nat.le_refl _) _).alloc (by simp) _
 have hQ := (Qo.new w (.int .i64 ak) (.string ax) (.string at') (slW p.1) (.int .i64 am) (.int .i64 af) (.int .i64 ad) (slW p.2) 27).below ((Below.refl _ _).alloc (Nat.le_refl _) (.cells #[.int .i64 bk, .string bx, .string bt', slW p'.1, .int .i64 bm, .int .i64 bf, .int .i64 bd, slW p'.2] 27)) (by simp)
 have hQ' : Qo ((w.alloc (.cells #[.int .i64 ak, .string ax, .string at', slW p.1, .int .i64 am, .int .i64 af, .int .i64 ad, slW p.2] 27)).alloc (.cells #[.int .i64 bk, .string bx, .string bt', slW p'.1, .int .i64 bm, .int .i64 bf, .int .i64 bd, slW p'.2] 27)) (w.heap.size + 1) ⟨.int .i64 bk, .string bx, .string bt', slW p'.1, .int .i64 bm, .int .i64 bf, .int .i64 bd, slW p'.2⟩ := by
  have h := Qo.new (w.alloc (.cells #[.int .i64 ak, .string ax, .string at', slW p.1, .int .i64 am, .int .i64 af, .int .i64 ad, slW p.2] 27)) (.int .i64 bk) (.string bx) (.string bt') (slW p'.1) (.int .i64 bm) (.int .i64 bf) (.int .i64 bd) (slW p'.2) 27
  simpa using h
 have HU := equalI_any p.1 p'.1 au bu _ (hs.1.below hbW) (hs'.1.below hbW)
 have HD : Hid (∀ w', Below w.heap.size w w' → Calls Tryd.prog 50 #[slW p.2, slW p'.2] w' fun e w'' => e = .returned (.bool (decide (str ab = str bb))) ∧ Below w'.heap.size w' w'') := fun w' h => bytesEqO_any p.2 p'.2 ab bb w' (hs.2.below h) (hs'.2.below h)
 generalize decide (str ab = str bb) = sd at *
 generalize smU au bu = su at *
 clear hs hs'
 by_cases h1 : ak = bk
 ·subst h1
  by_cases h2 : ax = bx
  ·subst h2
   by_cases h3 : at' = bt'
   ·subst h3
    go_enter Tryd.func37, Tryd.ntmps37
    go_wp2_with fail
    refine HU.mono ?_
    rintro e w1 ⟨rfl, hb1⟩
    have hQ1 := hQ.below hb1 hQ.lt
    have hQ1' := hQ'.below hb1 hQ'.lt
    have hB1 := hbW.trans (hb1.mono hbW.size)
    obtain ⟨c0, c1, c2, c3, c4, c5, c6, c7⟩ := hQ1
    obtain ⟨d0, d1, d2, d3, d4, d5, d6, d7⟩ := hQ1'
    dsimp only at c0 c1 c2 c3 c4 c5 c6 c7 d0 d1 d2 d3 d4 d5 d6 d7
    clear hQ hQ' hb1 hbW HU
    cases su with
    | false =>
     have HR : Hid (r = false) := HV.out.trans (by simp)
     clear HV
     go_wp2
     go_ret
     exact ⟨by rw [HR.out]; rfl, hB1⟩
    | true =>
     by_cases h5 : am = bm
     rotate_left
     ·have HR : Hid (r = false) := HV.out.trans (by simp [h5])
      have e1 : (am == bm) = false := by simpa using h5
      clear HV
      go_wp2
      go_ret
      exact ⟨by rw [HR.out]; rfl, hB1⟩
     ·subst h5
      by_cases h6 : af = bf
      rotate_left
      ·have HR : Hid (r = false) := HV.out.trans (by simp [h6])
       have e1 : (af == bf) = false := by simpa using h6
       clear HV
       go_wp2
       go_ret
       exact ⟨by rw [HR.out]; rfl, hB1⟩
      ·subst h6
       by_cases h7 : ad = bd
       rotate_left
       ·have HR : Hid (r = false) := HV.out.trans (by simp [h7])
        have e1 : (ad == bd) = false := by simpa using h7
        clear HV
        go_wp2
        go_ret
        exact ⟨by rw [HR.out]; rfl, hB1⟩
       ·subst h7
        have HR : Hid (r = sd) := HV.out.trans (by simp)
        clear HV
        go_wp2_with fail
        refine (HD.out _ hB1).mono ?_
        rintro e w2 ⟨rfl, hb2⟩
        have hB2 := hB1.trans (hb2.mono hB1.size)
        clear hb2 HD
        go_wp2
        go_ret
        exact ⟨by rw [HR.out]; rfl, hB2⟩
   ·have HR : Hid (r = false) := HV.out.trans (by simp [h3])
    have e1 := toListO_ne h3
    clear HV HU HD
    go_enter Tryd.func37, Tryd.ntmps37
    go_wp2
    go_ret
    exact ⟨by rw [HR.out]; first | rfl | simp, hbW⟩
  ·have HR : Hid (r = false) := HV.out.trans (by simp [h2])
   have e1 := toListO_ne h2
   clear HV HU HD
   go_enter Tryd.func37, Tryd.ntmps37
   go_wp2
   go_ret
   exact ⟨by rw [HR.out]; first | rfl | simp, hbW⟩
 ·have HR : Hid (r = false) := HV.out.trans (by simp [h1])
  have e1 : (ak == bk) = false := by simpa using h1
  clear HV HU HD
  go_enter Tryd.func37, Tryd.ntmps37
  go_wp2
  go_ret
  exact ⟨by rw [HR.out]; first | rfl | simp, hbW⟩
set_option maxHeartbeats 1600000 in
set_option maxRecDepth 100000 in
theorem equalOp_any (G : Nat) (s s' : SlQ) (l l' : List OpR) (p : OpR → OpR → Bool) {lo lo' : Nat} (w : World) (hs : IsOs lo w s l) (hs' : IsOs lo' w s' l')
  (hG : ∀ (args : Array Value) (w : World), (callFunc G args).run Tryd.prog w = .ok (.enter G args) w)
  (hI : ∀ (y z : OpR) (q q' : SlO) (w' : World), IsOp lo w' q y → IsOp lo' w' q' z → Calls Tryd.prog G #[opX y q, opX z q'] w' fun e w'' => e = .returned (.bool (p y z)) ∧ Below w'.heap.size w' w'') :
  Calls Tryd.prog 36 #[slW s, slW s', .func (.func G) #[] #[]] w fun e w' => e = .returned (.bool (eqH l.length l'.length (fun i => p (nthO l i) (nthO l' i)))) ∧ Below w.heap.size w w' := by
 obtain ⟨a, n, cap⟩ := s
 obtain ⟨a', n', cap'⟩ := s'
 obtain ⟨hl, hnc, hcm, hr⟩ := hs
 obtain ⟨hl', hnc', hcm', hr'⟩ := hs'
 dsimp only [slW] at *
 unfold maxLen at hcm hcm'
 rw [hl, hl']
 have HI : Hid (∀ (y z : OpR) (q q' : SlO) (w' : World), IsOp lo w' q y → IsOp lo' w' q' z → Calls Tryd.prog G #[opX y q, opX z q'] w' fun e w'' => e = .returned (.bool (p y z)) ∧ Below w'.heap.size w' w'') := hI
 clear hI
 have HB : Hid (∀ k, k < n → p (nthO l k) (nthO l' k) = false → eqH n n' (fun i => p (nthO l i) (nthO l' i)) = false) := fun k hk h => eqH_bad hk h
 have HE : Hid (n ≠ n' → eqH n n' (fun i => p (nthO l i) (nthO l' i)) = false) := fun h => eqH_ne h
 have HA : Hid (n = n' → (∀ k, k < n → p (nthO l k) (nthO l' k) = true) → eqH n n' (fun i => p (nthO l i) (nthO l' i)) = true) := fun h h' => eqH_all h h'
 generalize eqH n n' (fun i => p (nthO l i) (nthO l' i)) = r at *
 go_enter Tryd.func36, Tryd.ntmps36
 by_cases hnn : n = n'
 ·subst hnn
  go_wp2
  go_loopw [17] (fun i wr => ∃ k : Nat, k ≤ n ∧ i = .int .i64 k ∧ (∀ j, j < k → p (nthO l j) (nthO l' j) = true) ∧ Below w.heap.size w wr) (fun i _ => n - (intOf i).toNat)
  case atStart => exact ⟨0, Nat.zero_le _, rfl, fun j hj => absurd hj (Nat.not_lt_zero _), Below.refl _ _⟩
  case round =>
   obtain ⟨k, hk, rfl, hall, hbel⟩ := hrel
   by_cases hkn : k < n
   ·have hki : (k : Int) < (n : Int) := by omega
    obtain ⟨g, off, rfl, -, hglt, hcell⟩ := (hr.below hbel).at_ (by omega)
    obtain ⟨g', off', rfl, -, hglt', hcell'⟩ := (hr'.below hbel).at_ (by omega)
    obtain ⟨q, ⟨c0, c1, c2, c3, c4, c5, c6, c7⟩, hIq⟩ := hcell k (by omega)
    obtain ⟨q', ⟨d0, d1, d2, d3, d4, d5, d6, d7⟩, hIq'⟩ := hcell' k (by omega)
    have HY : Hid (p (nthO l k) (nthO l' k) = true → ∀ j, j < k + 1 → p (nthO l j) (nthO l' j) = true) := fun h j hj => by
     rcases Nat.lt_or_ge j k with h' | h'
     ·exact hall j h'
     ·obtain rfl : j = k := by omega
      exact h
    have HN : Hid (p (nthO l k) (nthO l' k) = false → r = false) := fun h => HB.out k hkn h
    have HC := HI.out (nthO l k) (nthO l' k) q q'
    clear hall hcell hcell'
    generalize nthO l k = y at *
    generalize nthO l' k = z at *
    generalize p y z = bv at *
    obtain ⟨ak, ax, at', au, am, af, ad, ab⟩ := y
    obtain ⟨bk, bx, bt', bu, bm, bf, bd, bb⟩ := z
    dsimp only at c0 c1 c2 c3 c4 c5 c6 c7 d0 d1 d2 d3 d4 d5 d6 d7 HC hIq hIq'
    have hbA : Below wr.heap.size wr (wr.alloc (.cells #[.int .i64 ak, .string ax, .string at', slW q.1, .int .i64 am, .int .i64 af, .int .i64 ad, slW q.2] 27)) := (Below.refl _ _).alloc (Nat.le_refl _) _
    have e0 := (hbA.cell (p := ⟨g', off' + k * 8, none⟩) hglt').trans d0
    have e1 := (hbA.cell (p := ⟨g', off' + k * 8 + 1, none⟩) hglt').trans d1
    have e2 := (hbA.cell (p := ⟨g', off' + k * 8 + 2, none⟩) hglt').trans d2
    have e3 := (hbA.cell (p := ⟨g', off' + k * 8 + 3, none⟩) hglt').trans d3
    have e4 := (hbA.cell (p := ⟨g', off' + k * 8 + 4, none⟩) hglt').trans d4
    have e5 := (hbA.cell (p := ⟨g', off' + k * 8 + 5, none⟩) hglt').trans d5
    have e6 := (hbA.cell (p := ⟨g', off' + k * 8 + 6, none⟩) hglt').trans d6
    have e7 := (hbA.cell (p := ⟨g', off' + k * 8 + 7, none⟩) hglt').trans d7
    obtain ⟨WA, hWA⟩ : ∃ W, wr.alloc (.cells #[.int .i64 ak, .string ax, .string at', slW q.1, .int .i64 am, .int .i64 af, .int .i64 ad, slW q.2] 27) = W := ⟨_, rfl⟩
    have hQA := Qo.new wr (.int .i64 ak) (.string ax) (.string at') (slW q.1) (.int .i64 am) (.int .i64 af) (.int .i64 ad) (slW q.2) 27
    rw [hWA] at hbA e0 e1 e2 e3 e4 e5 e6 e7 hQA
    have hsA : WA.heap.size = wr.heap.size + 1 := by rw [← hWA]; simp
    have hbB : Below WA.heap.size WA (WA.alloc (.cells #[.int .i64 bk, .string bx, .string bt', slW q'.1, .int .i64 bm, .int .i64 bf, .int .i64 bd, slW q'.2] 27)) := (Below.refl _ _).alloc (Nat.le_refl _) _
    have hQB := Qo.new WA (.int .i64 bk) (.string bx) (.string bt') (slW q'.1) (.int .i64 bm) (.int .i64 bf) (.int .i64 bd) (slW q'.2) 27
    have hQAB := hQA.below hbB hQA.lt
    have hbAB := hbA.trans (hbB.mono hbA.size)
    have HC := HC _ (hIq.below hbAB) (hIq'.below hbAB)
    have hbel1 := hbel.trans (hbAB.mono hbel.size)
    obtain ⟨x0, x1, x2, x3, x4, x5, x6, x7⟩ := hQAB
    rw [hsA] at hQB
    obtain ⟨z0, z1, z2, z3, z4, z5, z6, z7⟩ := hQB
    dsimp only at x0 x1 x2 x3 x4 x5 x6 x7 z0 z1 z2 z3 z4 z5 z6 z7
    go_wp2_with fail
    refine HC.mono ?_
    rintro e w2 ⟨rfl, hb2⟩
    have hbel2 := hbel1.trans (hb2.mono hbel1.size)
    clear HC HI hG hb2 hbAB hbA hbB hbel1 c0 c1 c2 c3 c4 c5 c6 c7 d0 d1 d2 d3 d4 d5 d6 d7 e0 e1 e2 e3 e4 e5 e6 e7 x0 x1 x2 x3 x4 x5 x6 x7 z0 z1 z2 z3 z4 z5 z6 z7
    cases bv with
    | true =>
     have HM : Hid (_) := HY.out rfl
     clear HY HN
     go_wp2
     go_roundw
     case rel => exact ⟨k + 1, by omega, by go_num, HM.out, hbel2⟩
     case measure => simp [intOf]; omega
    | false =>
     have HM : Hid (r = false) := HN.out rfl
     clear HY HN
     go_wp2
     go_ret
     exact ⟨by rw [HM.out]; rfl, hbel2⟩
   ·have hki : ¬ (k : Int) < (n : Int) := by omega
    have HM : Hid (r = true) := HA.out (by trivial) (fun j hj => hall j (by omega))
    clear hall
    go_wp2
    go_ret
    exact ⟨by rw [HM.out]; rfl, hbel⟩
 ·have hnn' : ¬ (n : Int) = (n' : Int) := by omega
  have HM : Hid (r = false) := HE.out hnn
  go_wp2
  go_ret
  exact ⟨by rw [HM.out]; rfl, Below.refl _ _⟩
def smL (l l' : List OpR) : Bool := eqH l.length l'.length (fun i => smO (nthO l i) (nthO l' i))
set_option maxHeartbeats 800000 in
set_option maxRecDepth 100000 in
theorem sameOps_any (l l' : List OpR) (s s' : SlQ) {lo lo' : Nat} (w : World) (hs : IsOs lo w s l) (hs' : IsOs lo' w s' l') :
  Calls Tryd.prog 14 #[slW s, slW s'] w fun e w' => e = .returned (.bool (smL l l')) ∧ Below w.heap.size w w' := by
 have HC := equalOp_any 37 s s' l l' smO w hs hs' (fun args w => by kernel_rfl) (fun y z q q' w' h h' => isSameOp_any y z q q' w' h h')
 have HM : Hid (smL l l' = eqH l.length l'.length (fun i => smO (nthO l i) (nthO l' i))) := rfl
 generalize eqH l.length l'.length (fun i => smO (nthO l i) (nthO l' i)) = r at *
 rw [HM.out]
 go_enter Tryd.func14, Tryd.ntmps14
 go_wp2_with fail
 refine HC.mono ?_
 rintro e w1 ⟨rfl, hb1⟩
 go_wp2
 go_ret
 exact ⟨rfl, hb1⟩
end Go.Proofs.YtdcgihcjiiemdaaDoor
