/- Whether two terms, two lists of terms are the same: the program's side; no conditions beyond those that each fact names · The bounds of a term: the program's side; no conditions beyond those that each fact names. -/
import Derived.Test.YtjogclofjollnaaGreatDoorTmtToCms
import Derived.Test.YtjogclofjollnaaGreatDoorTfdToSmo
import Derived.Deep.RegionHeld3
namespace Go.Proofs.YtjogclofjollnaaGreatDoor
open Go.RowKit
set_option linter.unusedVariables false
def smY (l l' : List YgP) : Bool := eqH l.length l'.length (fun i => decide (nthY l i = nthY l' i))
def smT (a b : TmR) : Bool := decide (a.k = b.k) && (decide (a.n = b.n) && (smU a.c b.c && (smY a.y b.y && (decide (a.l = b.l) && decide (a.r = b.r)))))
set_option maxHeartbeats 1600000 in
set_option maxRecDepth 100000 in
theorem equalY_any (s s' : SlQ) (l l' : List YgP) {lo lo' : Nat} (w : World) (hs : IsYl lo w s l) (hs' : IsYl lo' w s' l') :
  Calls Tryz.prog 146 #[slW s, slW s'] w fun e w' => e = .returned (.bool (smY l l')) ∧ Below w.heap.size w w' := by
 obtain ⟨a, n, cap⟩ := s
 obtain ⟨a', n', cap'⟩ := s'
 obtain ⟨hl, hnc, hcm, hr, -⟩ := hs
 obtain ⟨hl', hnc', hcm', hr', -⟩ := hs'
 dsimp only [slW] at *
 unfold maxLen at hcm hcm'
 have HL : Hid (l.length = n ∧ l'.length = n') := ⟨hl, hl'⟩
 have HB : Hid (∀ k, k < n → nthY l k ≠ nthY l' k → smY l l' = false) := fun k hk h => eqH_bad (by rw [hl]; exact hk) (decide_eq_false h)
 have HE : Hid (n ≠ n' → smY l l' = false) := fun h => eqH_ne (by rw [hl, hl']; exact h)
 have HA : Hid (n = n' → (∀ k, k < n → nthY l k = nthY l' k) → smY l l' = true) := fun h h' => eqH_all (by rw [hl, hl']; exact h) (fun k hk => decide_eq_true (h' k (by omega)))
 generalize smY l l' = r at *
 clear hl hl'
 go_enter Tryz.func146, Tryz.ntmps146
 by_cases hnn : n = n'
 ·subst hnn
  go_wp2
  go_loopw [13, 5] (fun i _ wr => ∃ k : Nat, k ≤ n ∧ i = .int .i64 k ∧ (∀ j, j < k → nthY l j = nthY l' j) ∧ Below w.heap.size w wr) (fun i _ _ => n - (intOf i).toNat)
  case atStart => exact ⟨0, Nat.zero_le _, rfl, fun j hj => absurd hj (Nat.not_lt_zero _), Below.refl _ _⟩
  case round =>
   obtain ⟨k, hk, rfl, hall, hbel⟩ := hrel
   by_cases hkn : k < n
   ·have hki : (k : Int) < (n : Int) := by omega
    obtain ⟨g, off, rfl, hglt, hcell⟩ := (hr.below hbel).at_ (by have := HL.out; omega)
    obtain ⟨g', off', rfl, hglt', hcell'⟩ := (hr'.below hbel).at_ (by have := HL.out; omega)
    have c0 := hcell k (by have := HL.out; omega)
    have d0 := hcell' k (by have := HL.out; omega)
    have HY : Hid (nthY l k = nthY l' k → ∀ j, j < k + 1 → nthY l j = nthY l' j) := fun h j hj => by
     rcases Nat.lt_or_ge j k with h' | h'
     ·exact hall j h'
     ·obtain rfl : j = k := by omega
      exact h
    have HN : Hid (nthY l k ≠ nthY l' k → r = false) := fun h => HB.out k hkn h
    clear hall hcell hcell'
    generalize nthY l k = y at *
    generalize nthY l' k = z at *
    obtain ⟨y1, y2⟩ := y
    obtain ⟨z1, z2⟩ := z
    dsimp only at c0 d0
    by_cases hyz : y1 = z1 ∧ y2 = z2
    ·obtain ⟨rfl, rfl⟩ := hyz
     have HM : Hid (_) := HY.out rfl
     clear HY HN
     go_wp2_with fail
     refine wp_region_held_drew (S := fun w' => (w'.cell? ⟨g, off + k * 2, none⟩ = some (.int .i64 y1) ∧ w'.cell? ⟨g, off + k * 2 + 1, none⟩ = some (.int .i64 y2)) ∧ (w'.cell? ⟨g', off' + k * 2, none⟩ = some (.int .i64 y1) ∧ w'.cell? ⟨g', off' + k * 2 + 1, none⟩ = some (.int .i64 y2))) (by kernel_rfl) ?hS1 (fun hHeld => ?_)
     case hS1 => exact ⟨c0, d0⟩
     refine wpAnyH_take (i := 0) (v := ?_) rfl (by kernel_rfl) (by kernel_rfl) (by kernel_rfl) (fun _ _ _ h => h) (Or.inl ⟨by rfl, ?hy2⟩) (by assumption) ?ty2
     case hy2 => (intro w hSw; (try dsimp only at hSw); obtain ⟨⟨s0, s1⟩, s2, s3⟩ := hSw; go_simp; all_goals with_reducible rfl)
     simp only [Act.put, List.getElem_toArray, List.getElem_cons_zero, List.setIfInBounds_toArray, List.set_cons_zero, List.set_cons_succ]
     refine wpAnyH_take (i := 1) (v := ?_) rfl (by kernel_rfl) (by kernel_rfl) (by kernel_rfl) (fun _ _ _ h => h) (Or.inl ⟨by rfl, ?hy3⟩) (by assumption) ?ty3
     case hy3 => (intro w hSw; (try dsimp only at hSw); obtain ⟨⟨s0, s1⟩, s2, s3⟩ := hSw; go_simp; all_goals with_reducible rfl)
     simp only [Act.put, List.getElem_toArray, List.getElem_cons_zero, List.getElem_cons_succ, List.setIfInBounds_toArray, List.set_cons_zero, List.set_cons_succ]
     refine wpAnyH_take (i := 2) (v := ?_) rfl (by kernel_rfl) (by kernel_rfl) (by kernel_rfl) (fun _ _ _ h => h) (Or.inl ⟨by rfl, ?hy4⟩) (by assumption) ?ty4
     case hy4 => (intro w hSw; (try dsimp only at hSw); obtain ⟨⟨s0, s1⟩, s2, s3⟩ := hSw; go_simp; all_goals with_reducible rfl)
     simp only [Act.put, List.getElem_toArray, List.getElem_cons_zero, List.getElem_cons_succ, List.setIfInBounds_toArray, List.set_cons_zero, List.set_cons_succ]
     refine wpAnyH_take (i := 3) (v := ?_) rfl (by kernel_rfl) (by kernel_rfl) (by kernel_rfl) (fun _ _ _ h => h) (Or.inl ⟨by rfl, ?hy5⟩) (by assumption) ?ty5
     case hy5 => (intro w hSw; (try dsimp only at hSw); obtain ⟨⟨s0, s1⟩, s2, s3⟩ := hSw; go_simp; all_goals with_reducible rfl)
     simp only [Act.put, List.getElem_toArray, List.getElem_cons_zero, List.getElem_cons_succ, List.setIfInBounds_toArray, List.set_cons_zero, List.set_cons_succ]
     refine wpAnyH_take (i := 4) (v := ?_) rfl (by kernel_rfl) (by kernel_rfl) (by kernel_rfl) (fun _ _ _ h => h) (Or.inl ⟨by rfl, ?hy6⟩) (by assumption) ?ty6
     case hy6 => (intro w hSw; (try dsimp only at hSw); obtain ⟨⟨s0, s1⟩, s2, s3⟩ := hSw; go_simp; all_goals with_reducible rfl)
     simp only [Act.put, List.getElem_toArray, List.getElem_cons_zero, List.getElem_cons_succ, List.setIfInBounds_toArray, List.set_cons_zero, List.set_cons_succ]
     refine wpAnyH_take (i := 5) (v := ?_) rfl (by kernel_rfl) (by kernel_rfl) (by kernel_rfl) (fun _ _ _ h => h) (Or.inl ⟨by rfl, ?hy7⟩) (by assumption) ?ty7
     case hy7 => (intro w hSw; (try dsimp only at hSw); obtain ⟨⟨s0, s1⟩, s2, s3⟩ := hSw; go_simp; all_goals with_reducible rfl)
     simp only [Act.put, List.getElem_toArray, List.getElem_cons_zero, List.getElem_cons_succ, List.setIfInBounds_toArray, List.set_cons_zero, List.set_cons_succ]
     refine wpAnyH_take (i := 6) (v := ?_) rfl (by kernel_rfl) (by kernel_rfl) (by kernel_rfl) (fun _ _ _ h => h) (Or.inl ⟨by rfl, ?hy8⟩) (by assumption) ?ty8
     case hy8 => (intro w hSw; (try dsimp only at hSw); obtain ⟨⟨s0, s1⟩, s2, s3⟩ := hSw; go_simp; all_goals with_reducible rfl)
     simp only [Act.put, List.getElem_toArray, List.getElem_cons_zero, List.getElem_cons_succ, List.setIfInBounds_toArray, List.set_cons_zero, List.set_cons_succ]
     refine wpAnyH_take (i := 7) (v := ?_) rfl (by kernel_rfl) (by kernel_rfl) (by kernel_rfl) (fun _ _ _ h => h) (Or.inl ⟨by rfl, ?hy9⟩) (by assumption) ?ty9
     case hy9 => (intro w hSw; (try dsimp only at hSw); obtain ⟨⟨s0, s1⟩, s2, s3⟩ := hSw; go_simp; all_goals with_reducible rfl)
     simp only [Act.put, List.getElem_toArray, List.getElem_cons_zero, List.getElem_cons_succ, List.setIfInBounds_toArray, List.set_cons_zero, List.set_cons_succ]
     refine wpAnyH_take (i := 8) (v := .bool false) rfl (by kernel_rfl) (by kernel_rfl) (by kernel_rfl) (fun _ _ _ h => h) (Or.inl ⟨by rfl, ?hy10⟩) (by assumption) ?ty10
     case hy10 => (intro w hSw; (try dsimp only at hSw); obtain ⟨⟨s0, s1⟩, s2, s3⟩ := hSw; go_simp; first | (all_goals with_reducible rfl) | (simp; done) | (simp; omega))
     simp only [Act.put, List.getElem_toArray, List.getElem_cons_zero, List.getElem_cons_succ, List.setIfInBounds_toArray, List.set_cons_zero, List.set_cons_succ]
     refine wpAnyH_done (by kernel_rfl) ?_ _
     clear hHeld
     go_wp2
     go_roundw
     case rel => exact ⟨k + 1, by omega, by go_num, HM.out, hbel.trans (Below.refl _ _).drew⟩
     case measure => simp [intOf]; omega
    ·have HM : Hid (r = false) := HN.out (fun h => hyz (by cases h; exact ⟨rfl, rfl⟩))
     clear HY HN
     go_wp2_with fail
     refine wp_region_held_drew (S := fun w' => (w'.cell? ⟨g, off + k * 2, none⟩ = some (.int .i64 y1) ∧ w'.cell? ⟨g, off + k * 2 + 1, none⟩ = some (.int .i64 y2)) ∧ (w'.cell? ⟨g', off' + k * 2, none⟩ = some (.int .i64 z1) ∧ w'.cell? ⟨g', off' + k * 2 + 1, none⟩ = some (.int .i64 z2))) (by kernel_rfl) ?hS11 (fun hHeld => ?_)
     case hS11 => exact ⟨c0, d0⟩
     refine wpAnyH_take (i := 0) (v := ?_) rfl (by kernel_rfl) (by kernel_rfl) (by kernel_rfl) (fun _ _ _ h => h) (Or.inl ⟨by rfl, ?hy12⟩) (by assumption) ?ty12
     case hy12 => (intro w hSw; (try dsimp only at hSw); obtain ⟨⟨s0, s1⟩, s2, s3⟩ := hSw; go_simp; all_goals with_reducible rfl)
     simp only [Act.put, List.getElem_toArray, List.getElem_cons_zero, List.setIfInBounds_toArray, List.set_cons_zero, List.set_cons_succ]
     refine wpAnyH_take (i := 1) (v := ?_) rfl (by kernel_rfl) (by kernel_rfl) (by kernel_rfl) (fun _ _ _ h => h) (Or.inl ⟨by rfl, ?hy13⟩) (by assumption) ?ty13
     case hy13 => (intro w hSw; (try dsimp only at hSw); obtain ⟨⟨s0, s1⟩, s2, s3⟩ := hSw; go_simp; all_goals with_reducible rfl)
     simp only [Act.put, List.getElem_toArray, List.getElem_cons_zero, List.getElem_cons_succ, List.setIfInBounds_toArray, List.set_cons_zero, List.set_cons_succ]
     refine wpAnyH_take (i := 2) (v := ?_) rfl (by kernel_rfl) (by kernel_rfl) (by kernel_rfl) (fun _ _ _ h => h) (Or.inl ⟨by rfl, ?hy14⟩) (by assumption) ?ty14
     case hy14 => (intro w hSw; (try dsimp only at hSw); obtain ⟨⟨s0, s1⟩, s2, s3⟩ := hSw; go_simp; all_goals with_reducible rfl)
     simp only [Act.put, List.getElem_toArray, List.getElem_cons_zero, List.getElem_cons_succ, List.setIfInBounds_toArray, List.set_cons_zero, List.set_cons_succ]
     refine wpAnyH_take (i := 3) (v := ?_) rfl (by kernel_rfl) (by kernel_rfl) (by kernel_rfl) (fun _ _ _ h => h) (Or.inl ⟨by rfl, ?hy15⟩) (by assumption) ?ty15
     case hy15 => (intro w hSw; (try dsimp only at hSw); obtain ⟨⟨s0, s1⟩, s2, s3⟩ := hSw; go_simp; all_goals with_reducible rfl)
     simp only [Act.put, List.getElem_toArray, List.getElem_cons_zero, List.getElem_cons_succ, List.setIfInBounds_toArray, List.set_cons_zero, List.set_cons_succ]
     refine wpAnyH_take (i := 4) (v := ?_) rfl (by kernel_rfl) (by kernel_rfl) (by kernel_rfl) (fun _ _ _ h => h) (Or.inl ⟨by rfl, ?hy16⟩) (by assumption) ?ty16
     case hy16 => (intro w hSw; (try dsimp only at hSw); obtain ⟨⟨s0, s1⟩, s2, s3⟩ := hSw; go_simp; all_goals with_reducible rfl)
     simp only [Act.put, List.getElem_toArray, List.getElem_cons_zero, List.getElem_cons_succ, List.setIfInBounds_toArray, List.set_cons_zero, List.set_cons_succ]
     refine wpAnyH_take (i := 5) (v := ?_) rfl (by kernel_rfl) (by kernel_rfl) (by kernel_rfl) (fun _ _ _ h => h) (Or.inl ⟨by rfl, ?hy17⟩) (by assumption) ?ty17
     case hy17 => (intro w hSw; (try dsimp only at hSw); obtain ⟨⟨s0, s1⟩, s2, s3⟩ := hSw; go_simp; all_goals with_reducible rfl)
     simp only [Act.put, List.getElem_toArray, List.getElem_cons_zero, List.getElem_cons_succ, List.setIfInBounds_toArray, List.set_cons_zero, List.set_cons_succ]
     refine wpAnyH_take (i := 6) (v := ?_) rfl (by kernel_rfl) (by kernel_rfl) (by kernel_rfl) (fun _ _ _ h => h) (Or.inl ⟨by rfl, ?hy18⟩) (by assumption) ?ty18
     case hy18 => (intro w hSw; (try dsimp only at hSw); obtain ⟨⟨s0, s1⟩, s2, s3⟩ := hSw; go_simp; all_goals with_reducible rfl)
     simp only [Act.put, List.getElem_toArray, List.getElem_cons_zero, List.getElem_cons_succ, List.setIfInBounds_toArray, List.set_cons_zero, List.set_cons_succ]
     refine wpAnyH_take (i := 7) (v := ?_) rfl (by kernel_rfl) (by kernel_rfl) (by kernel_rfl) (fun _ _ _ h => h) (Or.inl ⟨by rfl, ?hy19⟩) (by assumption) ?ty19
     case hy19 => (intro w hSw; (try dsimp only at hSw); obtain ⟨⟨s0, s1⟩, s2, s3⟩ := hSw; go_simp; all_goals with_reducible rfl)
     simp only [Act.put, List.getElem_toArray, List.getElem_cons_zero, List.getElem_cons_succ, List.setIfInBounds_toArray, List.set_cons_zero, List.set_cons_succ]
     refine wpAnyH_take (i := 8) (v := .bool true) rfl (by kernel_rfl) (by kernel_rfl) (by kernel_rfl) (fun _ _ _ h => h) (Or.inl ⟨by rfl, ?hy20⟩) (by assumption) ?ty20
     case hy20 => (intro w hSw; (try dsimp only at hSw); obtain ⟨⟨s0, s1⟩, s2, s3⟩ := hSw; go_simp; first | (exact fun h1 h2 => hyz ⟨h1, h2⟩) | (simp; done) | (simp [hyz]; done) | (simp; omega))
     simp only [Act.put, List.getElem_toArray, List.getElem_cons_zero, List.getElem_cons_succ, List.setIfInBounds_toArray, List.set_cons_zero, List.set_cons_succ]
     refine wpAnyH_done (by kernel_rfl) ?_ _
     clear hHeld
     go_wp2
     go_ret
     exact ⟨by rw [HM.out]; rfl, hbel.trans (Below.refl _ _).drew⟩
   ·have hki : ¬ (k : Int) < (n : Int) := by omega
    have HM : Hid (r = true) := HA.out (by trivial) (fun j hj => hall j (by omega))
    clear hall
    go_wp2
    go_ret
    exact ⟨by rw [HM.out]; rfl, hbel⟩
 ·have hnn' : ¬ (n : Int) = (n' : Int) := by omega
  have HM : Hid (r = false) := HE.out hnn
  go_wp2
  go_ret
  exact ⟨by rw [HM.out]; rfl, Below.refl _ _⟩
set_option maxHeartbeats 3200000 in
set_option maxRecDepth 100000 in
theorem isSameTerm_any (a b : TmR) (p p' : SlT) {lo lo' : Nat} (w : World) (hs : IsTm lo w p a) (hs' : IsTm lo' w p' b) :
  Calls Tryz.prog 131 #[tmX a p, tmX b p'] w fun e w' => e = .returned (.bool (smT a b)) ∧ Below w.heap.size w w' := by
 obtain ⟨ak, an, ac, ay, al, ar⟩ := a
 obtain ⟨bk, bn, bc, by', bl, br⟩ := b
 have HV : Hid (smT ⟨ak, an, ac, ay, al, ar⟩ ⟨bk, bn, bc, by', bl, br⟩ = (decide (ak = bk) && (decide (an = bn) && (smU ac bc && (smY ay by' && (decide (al = bl) && decide (ar = br))))))) := rfl
 generalize smT ⟨ak, an, ac, ay, al, ar⟩ ⟨bk, bn, bc, by', bl, br⟩ = r at *
 have hbW : Below w.heap.size w ((w.alloc (.cells #[.int .i64 ak, .int .i64 an, slW p.1, slW p.2, .int .i64 al, .int .i64 ar] 74)).alloc (.cells #[.int .i64 bk, .int .i64 bn, slW p'.1, slW p'.2, .int .i64 bl, .int .i64 br] 74)) :=
  ((Below.refl _ _).alloc (Nat.le_refl _) _).alloc (by simp) _
 have hQ := (Qu.new w (.int .i64 ak) (.int .i64 an) (slW p.1) (slW p.2) (.int .i64 al) (.int .i64 ar) 74).below ((Below.refl _ _).alloc (Nat.le_refl _) (.cells #[.int .i64 bk, .int .i64 bn, slW p'.1, slW p'.2, .int .i64 bl, .int .i64 br] 74)) (by simp)
 have hQ' : Qu ((w.alloc (.cells #[.int .i64 ak, .int .i64 an, slW p.1, slW p.2, .int .i64 al, .int .i64 ar] 74)).alloc (.cells #[.int .i64 bk, .int .i64 bn, slW p'.1, slW p'.2, .int .i64 bl, .int .i64 br] 74)) (w.heap.size + 1) ⟨.int .i64 bk, .int .i64 bn, slW p'.1, slW p'.2, .int .i64 bl, .int .i64 br⟩ := by
  have h := Qu.new (w.alloc (.cells #[.int .i64 ak, .int .i64 an, slW p.1, slW p.2, .int .i64 al, .int .i64 ar] 74)) (.int .i64 bk) (.int .i64 bn) (slW p'.1) (slW p'.2) (.int .i64 bl) (.int .i64 br) 74
  simpa using h
 have HU := equalI_any p.1 p'.1 ac bc _ (hs.1.below hbW) (hs'.1.below hbW)
 have HD : Hid (∀ w', Below w.heap.size w w' → Calls Tryz.prog 146 #[slW p.2, slW p'.2] w' fun e w'' => e = .returned (.bool (smY ay by')) ∧ Below w'.heap.size w' w'') := fun w' h => equalY_any p.2 p'.2 ay by' w' (hs.2.below h) (hs'.2.below h)
 generalize smY ay by' = sd at *
 generalize smU ac bc = su at *
 clear hs hs'
 by_cases h1 : ak = bk
 ·subst h1
  by_cases h2 : an = bn
  ·subst h2
   go_enter Tryz.func131, Tryz.ntmps131
   go_wp2_with fail
   refine HU.mono ?_
   rintro e w1 ⟨rfl, hb1⟩
   have hQ1 := hQ.below hb1 hQ.lt
   have hQ1' := hQ'.below hb1 hQ'.lt
   have hB1 := hbW.trans (hb1.mono hbW.size)
   have HQ : Hid (_) := And.intro hQ1 hQ1'
   obtain ⟨c0, c1, c2, c3, c4, c5⟩ := hQ1
   obtain ⟨d0, d1, d2, d3, d4, d5⟩ := hQ1'
   dsimp only at c0 c1 c2 c3 c4 c5 d0 d1 d2 d3 d4 d5
   clear hQ hQ' hb1 hbW HU
   cases su with
   | false =>
    have HR : Hid (r = false) := HV.out.trans (by simp)
    clear HV HQ
    go_wp2
    go_ret
    exact ⟨by rw [HR.out]; rfl, hB1⟩
   | true =>
    go_wp2_with fail
    refine (HD.out _ hB1).mono ?_
    rintro e w2 ⟨rfl, hb2⟩
    have hB2 := hB1.trans (hb2.mono hB1.size)
    obtain ⟨hQ1, hQ1'⟩ := HQ.out
    have hQ2 := hQ1.below hb2 hQ1.lt
    have hQ2' := hQ1'.below hb2 hQ1'.lt
    clear hb2 HD HQ hQ1 hQ1' hB1 c0 c1 c2 c3 c4 c5 d0 d1 d2 d3 d4 d5
    obtain ⟨c0, c1, c2, c3, c4, c5⟩ := hQ2
    obtain ⟨d0, d1, d2, d3, d4, d5⟩ := hQ2'
    dsimp only at c0 c1 c2 c3 c4 c5 d0 d1 d2 d3 d4 d5
    cases sd with
    | false =>
     have HR : Hid (r = false) := HV.out.trans (by simp)
     clear HV
     go_wp2
     go_ret
     exact ⟨by rw [HR.out]; rfl, hB2⟩
    | true =>
     by_cases h5 : al = bl
     rotate_left
     ·have HR : Hid (r = false) := HV.out.trans (by simp [h5])
      have e1 : (al == bl) = false := by simpa using h5
      clear HV
      go_wp2
      go_ret
      exact ⟨by rw [HR.out]; first | rfl | simp | simp [e1] | simp [h5], hB2⟩
     ·subst h5
      by_cases h6 : ar = br
      rotate_left
      ·have HR : Hid (r = false) := HV.out.trans (by simp [h6])
       have e1 : (ar == br) = false := by simpa using h6
       clear HV
       go_wp2
       go_ret
       exact ⟨by rw [HR.out]; first | rfl | simp | simp [e1] | simp [h6], hB2⟩
      ·subst h6
       have HR : Hid (r = true) := HV.out.trans (by simp)
       clear HV
       go_wp2
       go_ret
       exact ⟨by rw [HR.out]; first | rfl | simp, hB2⟩
  ·have HR : Hid (r = false) := HV.out.trans (by simp [h2])
   have e1 : (an == bn) = false := by simpa using h2
   clear HV HU HD
   go_enter Tryz.func131, Tryz.ntmps131
   go_wp2
   go_ret
   exact ⟨by rw [HR.out]; first | rfl | simp, hbW⟩
 ·have HR : Hid (r = false) := HV.out.trans (by simp [h1])
  have e1 : (ak == bk) = false := by simpa using h1
  clear HV HU HD
  go_enter Tryz.func131, Tryz.ntmps131
  go_wp2
  go_ret
  exact ⟨by rw [HR.out]; first | rfl | simp, hbW⟩
end Go.Proofs.YtjogclofjollnaaGreatDoor
namespace Go.Proofs.YtjogclofjollnaaGreatDoor
open Go.RowKit
set_option linter.unusedVariables false
theorem isOneFlag_any (n : Int) (w : World) : Calls Tryz.prog 147 #[.int .i64 n] w fun e w' => e = .returned (.bool (ofB n)) ∧ w = w' := by
 go_enter Tryz.func147, Tryz.ntmps147
 go_wp2
 all_goals (go_ret; refine ret_bool ?_; rw [Bool.eq_iff_iff]; simp [ofB]; try omega)
theorem isLookedFor_any (c : Int) (w : World) : Calls Tryz.prog 148 #[.int .i64 c] w fun e w' => e = .returned (.bool (lkC c)) ∧ w = w' := by
 cases hp : chr c with
 | false =>
  have HR : Hid (lkC c = false) := by show _ = _; simp [lkC, hp]
  generalize lkC c = rv at *
  go_enter Tryz.func148, Tryz.ntmps148
  go_wp2_with (first | (go_at_call 157; refine (isCharacter_any _ _).mono ?_; rintro e w1 ⟨rfl, rfl⟩; rw [hp]))
  go_ret
  exact ⟨by rw [HR.out]; rfl, rfl⟩
 | true =>
  by_cases h1 : 32 < c
  ·by_cases h2 : c = 127
   ·have HR : Hid (lkC c = false) := by show _ = _; simp [lkC, h2]
    generalize lkC c = rv at *
    subst h2
    go_enter Tryz.func148, Tryz.ntmps148
    go_wp2_with (first | (go_at_call 157; refine (isCharacter_any _ _).mono ?_; rintro e w1 ⟨rfl, rfl⟩; rw [hp]))
    go_ret
    exact ⟨by rw [HR.out]; rfl, rfl⟩
   ·have HR : Hid (lkC c = true) := by show _ = _; simp [lkC, hp, h1, h2]
    have h2b : (c == 127) = false := by simpa using h2
    generalize lkC c = rv at *
    go_enter Tryz.func148, Tryz.ntmps148
    go_wp2_with (first | (go_at_call 157; refine (isCharacter_any _ _).mono ?_; rintro e w1 ⟨rfl, rfl⟩; rw [hp]))
    go_ret
    exact ⟨by rw [HR.out]; first | rfl | (simp; done) | (simp [h2]; done), rfl⟩
  ·have HR : Hid (lkC c = false) := by show _ = _; simp [lkC, h1]
   generalize lkC c = rv at *
   go_enter Tryz.func148, Tryz.ntmps148
   go_wp2_with (first | (go_at_call 157; refine (isCharacter_any _ _).mono ?_; rintro e w1 ⟨rfl, rfl⟩; rw [hp]))
   go_ret
   exact ⟨by rw [HR.out]; rfl, rfl⟩
set_option maxHeartbeats 1600000 in
set_option maxRecDepth 100000 in
theorem areAll_look (a : Option Addr) (n cap : Nat) (l : List Int) (w : World) (hl : l.length = n) (hr : RdI w a l) (hn : n ≤ 1048576) :
  Calls Tryz.prog 98 #[.slice a n cap, .func (.func 148) #[] #[]] w fun e w' => e = .returned (.bool (l.all lkC)) ∧ Below w.heap.size w w' := by
 go_enter Tryz.func98, Tryz.ntmps98
 go_wp2
 go_loopw [9] (fun v9 wr => ∃ k : Nat, k ≤ n ∧ v9 = .int .i64 k ∧ (l.take k).all lkC = true ∧ Below w.heap.size w wr) (fun v9 _ => n - (intOf v9).toNat)
 case atStart => exact ⟨0, Nat.zero_le _, rfl, by simp, Below.refl _ _⟩
 case round =>
  obtain ⟨k, hk, rfl, hall, hbel⟩ := hrel
  by_cases hkn : k < n
  ·obtain ⟨b, off, rfl, hblt, hcell⟩ := hr.at_ (by omega)
   have hc : wr.cell? ⟨b, off + k, none⟩ = some (.int .i64 (nthI l k)) := (hbel.cell (p := ⟨b, off + k, none⟩) hblt).trans (hcell k (by omega))
   have HS : Hid (lkC (nthI l k) = true → (l.take (k + 1)).all lkC = true) := fun hb => allL_step (by omega) hall hb
   have HF : Hid (lkC (nthI l k) = false → l.all lkC = false) := fun hb => allL_bad (by omega) hb
   clear hcell hr hall
   generalize nthI l k = x at *
   cases hp : lkC x with
   | true =>
    have hall' := HS.out hp
    go_wp2_with (first | (go_at_call 148; refine (isLookedFor_any _ _).mono ?_; rintro e w' ⟨rfl, rfl⟩; rw [hp]))
    go_roundw
    case rel => exact ⟨k + 1, by omega, by go_num, hall', hbel⟩
    case measure => simp [intOf]; omega
   | false =>
    clear HS
    go_wp2_with (first | (go_at_call 148; refine (isLookedFor_any _ _).mono ?_; rintro e w' ⟨rfl, rfl⟩; rw [hp]))
    go_ret
    exact ⟨by rw [HF.out hp]; rfl, hbel⟩
  ·have hkk : k = n := by omega
   subst hkk
   have HA : Hid (l.all lkC = true) := allL_end hl hall
   go_wp2
   go_ret
   exact ⟨by rw [HA.out]; rfl, hbel⟩
set_option maxHeartbeats 1600000 in
set_option maxRecDepth 100000 in
theorem hasTermBounds_2 (n l r : Int) (c : List Int) (y : List YgP) (p : SlT) {lo : Nat} (w : World) (hs : IsTm lo w p ⟨2, n, c, y, l, r⟩) :
  Calls Tryz.prog 133 #[tmX ⟨2, n, c, y, l, r⟩ p] w fun e w' => e = .returned (.bool (bdT ⟨2, n, c, y, l, r⟩)) ∧ Below w.heap.size w w' := by
 have hb0 : Below w.heap.size w (w.alloc (.cells #[.int .i64 2, .int .i64 n, slW p.1, slW p.2, .int .i64 l, .int .i64 r] 74)) := (Below.refl _ _).alloc (Nat.le_refl _) _
 have HR : Hid (bdT ⟨2, n, c, y, l, r⟩ = ofB n) := rfl
 generalize bdT ⟨2, n, c, y, l, r⟩ = rv at *
 go_enter Tryz.func133, Tryz.ntmps133
 go_wp2_with (first | (go_at_call 147; refine (isOneFlag_any _ _).mono ?_; rintro e w1 ⟨rfl, rfl⟩))
 go_ret
 exact ⟨by rw [HR.out]; rfl, hb0⟩
set_option maxHeartbeats 1600000 in
set_option maxRecDepth 100000 in
theorem hasTermBounds_3 (n l r : Int) (c : List Int) (y : List YgP) (p : SlT) {lo : Nat} (w : World) (hs : IsTm lo w p ⟨3, n, c, y, l, r⟩) :
  Calls Tryz.prog 133 #[tmX ⟨3, n, c, y, l, r⟩ p] w fun e w' => e = .returned (.bool (bdT ⟨3, n, c, y, l, r⟩)) ∧ Below w.heap.size w w' := by
 have hb0 : Below w.heap.size w (w.alloc (.cells #[.int .i64 3, .int .i64 n, slW p.1, slW p.2, .int .i64 l, .int .i64 r] 74)) := (Below.refl _ _).alloc (Nat.le_refl _) _
 have HR : Hid (bdT ⟨3, n, c, y, l, r⟩ = bty n 0 9999) := rfl
 generalize bdT ⟨3, n, c, y, l, r⟩ = rv at *
 go_enter Tryz.func133, Tryz.ntmps133
 go_wp2_with (first | (go_at_call 65; refine (isBetween_y _ _ _ _).mono ?_; rintro e w1 ⟨rfl, rfl⟩))
 go_ret
 exact ⟨by rw [HR.out]; rfl, hb0⟩
set_option maxHeartbeats 1600000 in
set_option maxRecDepth 100000 in
theorem hasTermBounds_4 (n l r : Int) (c : List Int) (y : List YgP) (p : SlT) {lo : Nat} (w : World) (hs : IsTm lo w p ⟨4, n, c, y, l, r⟩) :
  Calls Tryz.prog 133 #[tmX ⟨4, n, c, y, l, r⟩ p] w fun e w' => e = .returned (.bool (bdT ⟨4, n, c, y, l, r⟩)) ∧ Below w.heap.size w w' := by
 have hb0 : Below w.heap.size w (w.alloc (.cells #[.int .i64 4, .int .i64 n, slW p.1, slW p.2, .int .i64 l, .int .i64 r] 74)) := (Below.refl _ _).alloc (Nat.le_refl _) _
 have HR : Hid (bdT ⟨4, n, c, y, l, r⟩ = bty n 0 9999) := rfl
 generalize bdT ⟨4, n, c, y, l, r⟩ = rv at *
 go_enter Tryz.func133, Tryz.ntmps133
 go_wp2_with (first | (go_at_call 65; refine (isBetween_y _ _ _ _).mono ?_; rintro e w1 ⟨rfl, rfl⟩))
 go_ret
 exact ⟨by rw [HR.out]; rfl, hb0⟩
set_option maxHeartbeats 1600000 in
set_option maxRecDepth 100000 in
theorem hasTermBounds_5 (n l r : Int) (c : List Int) (y : List YgP) (p : SlT) {lo : Nat} (w : World) (hs : IsTm lo w p ⟨5, n, c, y, l, r⟩) :
  Calls Tryz.prog 133 #[tmX ⟨5, n, c, y, l, r⟩ p] w fun e w' => e = .returned (.bool (bdT ⟨5, n, c, y, l, r⟩)) ∧ Below w.heap.size w w' := by
 have hb0 : Below w.heap.size w (w.alloc (.cells #[.int .i64 5, .int .i64 n, slW p.1, slW p.2, .int .i64 l, .int .i64 r] 74)) := (Below.refl _ _).alloc (Nat.le_refl _) _
 have HR : Hid (bdT ⟨5, n, c, y, l, r⟩ = bty n 0 400) := rfl
 generalize bdT ⟨5, n, c, y, l, r⟩ = rv at *
 go_enter Tryz.func133, Tryz.ntmps133
 go_wp2_with (first | (go_at_call 65; refine (isBetween_y _ _ _ _).mono ?_; rintro e w1 ⟨rfl, rfl⟩))
 go_ret
 exact ⟨by rw [HR.out]; rfl, hb0⟩
set_option maxHeartbeats 1600000 in
set_option maxRecDepth 100000 in
theorem hasTermBounds_6 (n l r : Int) (c : List Int) (y : List YgP) (p : SlT) {lo : Nat} (w : World) (hs : IsTm lo w p ⟨6, n, c, y, l, r⟩) :
  Calls Tryz.prog 133 #[tmX ⟨6, n, c, y, l, r⟩ p] w fun e w' => e = .returned (.bool (bdT ⟨6, n, c, y, l, r⟩)) ∧ Below w.heap.size w w' := by
 have hb0 : Below w.heap.size w (w.alloc (.cells #[.int .i64 6, .int .i64 n, slW p.1, slW p.2, .int .i64 l, .int .i64 r] 74)) := (Below.refl _ _).alloc (Nat.le_refl _) _
 have HV : Hid (bdT ⟨6, n, c, y, l, r⟩ = (bty (c.length : Int) 1 20 && c.all lkC)) := rfl
 generalize bdT ⟨6, n, c, y, l, r⟩ = rv at *
 obtain ⟨⟨s1, m, c1⟩, ⟨s2, q, c2⟩⟩ := p
 have hm : m ≤ maxLen := Nat.le_trans hs.1.2.1 hs.1.2.2.1
 unfold maxLen at hm
 have hcl : c.length = m := hs.1.1
 rw [hcl] at HV
 cases HB : bty (m : Int) 1 20 with
 | false =>
  have HR : Hid (rv = false) := HV.out.trans (by rw [HB]; rfl)
  clear HV
  go_enter Tryz.func133, Tryz.ntmps133
  go_wp2_with (first | (go_at_call 65; refine (isBetween_y _ _ _ _).mono ?_; rintro e w1 ⟨rfl, rfl⟩; rw [HB]))
  go_ret
  exact ⟨by rw [HR.out]; rfl, hb0⟩
 | true =>
  have HR : Hid (rv = c.all lkC) := HV.out.trans (by rw [HB]; rfl)
  have hm20 : m ≤ 1048576 := by have := of_decide_eq_true HB; omega
  have HC := areAll_look s1 m c1 c _ hcl (hs.1.below hb0).2.2.2.1 hm20
  clear HV
  generalize c.all lkC = cv at *
  go_enter Tryz.func133, Tryz.ntmps133
  go_wp2_with (first | (go_at_call 65; refine (isBetween_y _ _ _ _).mono ?_; rintro e w1 ⟨rfl, rfl⟩; rw [HB]))
  refine HC.mono ?_
  rintro e w1 ⟨rfl, hb1⟩
  have hb2 := hb0.trans (hb1.mono hb0.size)
  go_wp2
  go_ret
  exact ⟨by rw [HR.out]; rfl, hb2⟩
set_option maxHeartbeats 1600000 in
set_option maxRecDepth 100000 in
theorem hasTermBounds_7 (n l r : Int) (c : List Int) (y : List YgP) (p : SlT) {lo : Nat} (w : World) (hs : IsTm lo w p ⟨7, n, c, y, l, r⟩) :
  Calls Tryz.prog 133 #[tmX ⟨7, n, c, y, l, r⟩ p] w fun e w' => e = .returned (.bool (bdT ⟨7, n, c, y, l, r⟩)) ∧ Below w.heap.size w w' := by
 have hb0 : Below w.heap.size w (w.alloc (.cells #[.int .i64 7, .int .i64 n, slW p.1, slW p.2, .int .i64 l, .int .i64 r] 74)) := (Below.refl _ _).alloc (Nat.le_refl _) _
 have HV : Hid (bdT ⟨7, n, c, y, l, r⟩ = (bty (c.length : Int) 1 20 && c.all lkC)) := rfl
 generalize bdT ⟨7, n, c, y, l, r⟩ = rv at *
 obtain ⟨⟨s1, m, c1⟩, ⟨s2, q, c2⟩⟩ := p
 have hm : m ≤ maxLen := Nat.le_trans hs.1.2.1 hs.1.2.2.1
 unfold maxLen at hm
 have hcl : c.length = m := hs.1.1
 rw [hcl] at HV
 cases HB : bty (m : Int) 1 20 with
 | false =>
  have HR : Hid (rv = false) := HV.out.trans (by rw [HB]; rfl)
  clear HV
  go_enter Tryz.func133, Tryz.ntmps133
  go_wp2_with (first | (go_at_call 65; refine (isBetween_y _ _ _ _).mono ?_; rintro e w1 ⟨rfl, rfl⟩; rw [HB]))
  go_ret
  exact ⟨by rw [HR.out]; rfl, hb0⟩
 | true =>
  have HR : Hid (rv = c.all lkC) := HV.out.trans (by rw [HB]; rfl)
  have hm20 : m ≤ 1048576 := by have := of_decide_eq_true HB; omega
  have HC := areAll_look s1 m c1 c _ hcl (hs.1.below hb0).2.2.2.1 hm20
  clear HV
  generalize c.all lkC = cv at *
  go_enter Tryz.func133, Tryz.ntmps133
  go_wp2_with (first | (go_at_call 65; refine (isBetween_y _ _ _ _).mono ?_; rintro e w1 ⟨rfl, rfl⟩; rw [HB]))
  refine HC.mono ?_
  rintro e w1 ⟨rfl, hb1⟩
  have hb2 := hb0.trans (hb1.mono hb0.size)
  go_wp2
  go_ret
  exact ⟨by rw [HR.out]; rfl, hb2⟩
set_option maxHeartbeats 1600000 in
set_option maxRecDepth 100000 in
theorem hasTermBounds_o (k : Int) (n l r : Int) (c : List Int) (y : List YgP) (p : SlT) {lo : Nat} (w : World) (hs : IsTm lo w p ⟨k, n, c, y, l, r⟩) (hk : ¬ k = 2 ∧ ¬ k = 3 ∧ ¬ k = 4 ∧ ¬ k = 5 ∧ ¬ k = 6 ∧ ¬ k = 7) :
  Calls Tryz.prog 133 #[tmX ⟨k, n, c, y, l, r⟩ p] w fun e w' => e = .returned (.bool (bdT ⟨k, n, c, y, l, r⟩)) ∧ Below w.heap.size w w' := by
 have hb0 : Below w.heap.size w (w.alloc (.cells #[.int .i64 k, .int .i64 n, slW p.1, slW p.2, .int .i64 l, .int .i64 r] 74)) := (Below.refl _ _).alloc (Nat.le_refl _) _
 have HR : Hid (bdT ⟨k, n, c, y, l, r⟩ = true) := by show _ = _; simp [bdT, hk]
 generalize bdT ⟨k, n, c, y, l, r⟩ = rv at *
 obtain ⟨k2, k3, k4, k5, k6, k7⟩ := hk
 go_enter Tryz.func133, Tryz.ntmps133
 go_wp2
 go_ret
 exact ⟨by rw [HR.out]; rfl, hb0⟩
theorem hasTermBounds_any (o : TmR) (p : SlT) {lo : Nat} (w : World) (hs : IsTm lo w p o) :
  Calls Tryz.prog 133 #[tmX o p] w fun e w' => e = .returned (.bool (bdT o)) ∧ Below w.heap.size w w' := by
 obtain ⟨k, n, c, y, l, r⟩ := o
 by_cases h2 : k = 2
 ·subst h2; exact hasTermBounds_2 n l r c y p w hs
 by_cases h3 : k = 3
 ·subst h3; exact hasTermBounds_3 n l r c y p w hs
 by_cases h4 : k = 4
 ·subst h4; exact hasTermBounds_4 n l r c y p w hs
 by_cases h5 : k = 5
 ·subst h5; exact hasTermBounds_5 n l r c y p w hs
 by_cases h6 : k = 6
 ·subst h6; exact hasTermBounds_6 n l r c y p w hs
 by_cases h7 : k = 7
 ·subst h7; exact hasTermBounds_7 n l r c y p w hs
 exact hasTermBounds_o k n l r c y p w hs ⟨h2, h3, h4, h5, h6, h7⟩
end Go.Proofs.YtjogclofjollnaaGreatDoor
