/- Whether two ops, two lists of ops are the same: the model's side; no conditions beyond those that each fact names. -/
import Derived.Test.YtilepbbcinbmhaaSmq1
import Derived.Test.YtilepbbcinbmhaaSmq2
import Derived.Test.YtilepbbcinbmhaaSmq3
import Derived.Test.YtilepbbcinbmhaaSmq4
namespace Go.Proofs.Ytilepbbcinbmhaa
open Go.RowKit
set_option linter.unusedVariables false

set_option maxHeartbeats 6400000 in
set_option maxRecDepth 100000 in
theorem l8SameOp_any (a b : OpR) (p p' : SlO) (g o h k : Nat) {lo lo' : Nat} (w : World) (hs : IsOp lo w p a) (hs' : IsOp lo' w p' b)
    (hc : w.cell? ⟨g, o, none⟩ = some (.int .i64 a.k) ∧ w.cell? ⟨g, o + 1, none⟩ = some (.string a.x) ∧ w.cell? ⟨g, o + 2, none⟩ = some (.string a.t) ∧ w.cell? ⟨g, o + 3, none⟩ = some (slW p.1) ∧ w.cell? ⟨g, o + 4, none⟩ = some (.int .i64 a.m) ∧ w.cell? ⟨g, o + 5, none⟩ = some (.int .i64 a.f) ∧ w.cell? ⟨g, o + 6, none⟩ = some (.int .i64 a.d) ∧ w.cell? ⟨g, o + 7, none⟩ = some (slW p.2))
    (hd : w.cell? ⟨h, k, none⟩ = some (.int .i64 b.k) ∧ w.cell? ⟨h, k + 1, none⟩ = some (.string b.x) ∧ w.cell? ⟨h, k + 2, none⟩ = some (.string b.t) ∧ w.cell? ⟨h, k + 3, none⟩ = some (slW p'.1) ∧ w.cell? ⟨h, k + 4, none⟩ = some (.int .i64 b.m) ∧ w.cell? ⟨h, k + 5, none⟩ = some (.int .i64 b.f) ∧ w.cell? ⟨h, k + 6, none⟩ = some (.int .i64 b.d) ∧ w.cell? ⟨h, k + 7, none⟩ = some (slW p'.2)) :
    Calls Try.prog 10 #[.pointer (some ⟨g, o, none⟩), .pointer (some ⟨h, k, none⟩)] w fun e w' => e = .returned (.bool (smO a b)) ∧ Below w.heap.size w w' := by
  obtain ⟨ak, ax, at', au, am, af, ad, ab⟩ := a
  obtain ⟨bk, bx, bt', bu, bm, bf, bd, bb⟩ := b
  obtain ⟨⟨s1, n, cap⟩, ⟨s2, q2, k2⟩⟩ := p
  obtain ⟨⟨s1', n', cap'⟩, ⟨s2', q2', k2'⟩⟩ := p'
  obtain ⟨⟨hl, hnc, hcm, hr, -⟩, hb⟩ := hs
  obtain ⟨⟨hl', hnc', hcm', hr', -⟩, hb'⟩ := hs'
  dsimp only [slW] at *
  have hn : n ≤ maxLen := Nat.le_trans hnc hcm
  have hm : n' ≤ maxLen := Nat.le_trans hnc' hcm'
  unfold maxLen at hcm hcm'
  have HV : Hid (smO ⟨ak, ax, at', au, am, af, ad, ab⟩ ⟨bk, bx, bt', bu, bm, bf, bd, bb⟩ = (decide (ak = bk) && (decide (ax = bx) && (decide (at' = bt') && (decide (am = bm) && (decide (af = bf) && (decide (ad = bd) && (decide (str ab = str bb) && eqH n n' (fun i => decide (nthI au i = nthI bu i)))))))))) := by show _ = _; rw [← hl, ← hl']; rfl
  have HL : Hid (au.length = n ∧ bu.length = n') := ⟨hl, hl'⟩
  generalize smO ⟨ak, ax, at', au, am, af, ad, ab⟩ ⟨bk, bx, bt', bu, bm, bf, bd, bb⟩ = r at *
  clear hl hl'
  by_cases h0 : ak = bk
  rotate_left
  · rw [show r = false from HV.out.trans (by simp [h0])]
    exact l8SameOp_p0 (ab := ab) (bb := bb) (g := g) (o := o) (h := h) (k := k) (w := w) (hs := hb) (hs' := hb') (hn := hn) (hm := hm) (hne := h0) (hc := hc) (hd := hd)
  subst h0
  by_cases h1 : ax = bx
  rotate_left
  · rw [show r = false from HV.out.trans (by simp [h1])]
    exact l8SameOp_p1 (ab := ab) (bb := bb) (g := g) (o := o) (h := h) (k := k) (w := w) (hs := hb) (hs' := hb') (hn := hn) (hm := hm) (hne := h1) (hc := hc) (hd := hd)
  subst h1
  by_cases h2 : at' = bt'
  rotate_left
  · rw [show r = false from HV.out.trans (by simp [h2])]
    exact l8SameOp_p2 (ab := ab) (bb := bb) (g := g) (o := o) (h := h) (k := k) (w := w) (hs := hb) (hs' := hb') (hn := hn) (hm := hm) (hne := h2) (hc := hc) (hd := hd)
  subst h2
  by_cases h3 : am = bm
  rotate_left
  · rw [show r = false from HV.out.trans (by simp [h3])]
    exact l8SameOp_p3 (ab := ab) (bb := bb) (g := g) (o := o) (h := h) (k := k) (w := w) (hs := hb) (hs' := hb') (hn := hn) (hm := hm) (hne := h3) (hc := hc) (hd := hd)
  subst h3
  by_cases h4 : af = bf
  rotate_left
  · rw [show r = false from HV.out.trans (by simp [h4])]
    exact l8SameOp_p4 (ab := ab) (bb := bb) (g := g) (o := o) (h := h) (k := k) (w := w) (hs := hb) (hs' := hb') (hn := hn) (hm := hm) (hne := h4) (hc := hc) (hd := hd)
  subst h4
  by_cases h5 : ad = bd
  rotate_left
  · rw [show r = false from HV.out.trans (by simp [h5])]
    exact l8SameOp_p5 (ab := ab) (bb := bb) (g := g) (o := o) (h := h) (k := k) (w := w) (hs := hb) (hs' := hb') (hn := hn) (hm := hm) (hne := h5) (hc := hc) (hd := hd)
  subst h5
  by_cases h6 : str ab = str bb
  rotate_left
  · rw [show r = false from HV.out.trans (by simp [h6])]
    exact l8SameOp_p6 (ab := ab) (bb := bb) (g := g) (o := o) (h := h) (k := k) (w := w) (hs := hb) (hs' := hb') (hn := hn) (hm := hm) (hne := h6) (hc := hc) (hd := hd)
  by_cases h7 : n = n'
  rotate_left
  · rw [show r = false from HV.out.trans (by simp [eqH_ne h7])]
    exact l8SameOp_p7 (ab := ab) (bb := bb) (g := g) (o := o) (h := h) (k := k) (w := w) (hs := hb) (hs' := hb') (hn := hn) (hm := hm) (hst := h6) (hne := h7) (hc := hc) (hd := hd)
  subst h7
  have HA : Hid ((∀ i, i < n → nthI au i = nthI bu i) → r = true) := fun hh => HV.out.trans (by rw [eqH_all rfl (fun i hi => decide_eq_true (hh i hi))]; simp [h6])
  have HB : Hid (∀ i, i < n → nthI au i ≠ nthI bu i → r = false) := fun i hi hh => HV.out.trans (by rw [eqH_bad hi (decide_eq_false hh)]; simp)
  have hst : str ab = str bb := h6
  clear HV
  have hB0 : Below w.heap.size w w.drew := (Below.refl _ _).drew
  have c3 : w.drew.cell? ⟨g, o + 3, none⟩ = some (.slice s1 n cap) := hc.2.2.2.1
  have d3 : w.drew.cell? ⟨h, k + 3, none⟩ = some (.slice s1' n cap') := hd.2.2.2.1
  have hs := hb
  have hs' := hb'
  go_enter Try.func10, Try.ntmps10
  go_wp2_with fail
  simp only [List.append_eq, List.cons_append, List.nil_append]
  refine wp_region_held_drew (S := fun w' => ((w'.cell? ⟨g, o, none⟩ = some (.int .i64 ak) ∧ w'.cell? ⟨g, o + 1, none⟩ = some (.string ax) ∧ w'.cell? ⟨g, o + 2, none⟩ = some (.string at') ∧ w'.cell? ⟨g, o + 3, none⟩ = some (.slice s1 n cap) ∧ w'.cell? ⟨g, o + 4, none⟩ = some (.int .i64 am) ∧ w'.cell? ⟨g, o + 5, none⟩ = some (.int .i64 af) ∧ w'.cell? ⟨g, o + 6, none⟩ = some (.int .i64 ad) ∧ w'.cell? ⟨g, o + 7, none⟩ = some (.slice s2 q2 k2)) ∧ (w'.cell? ⟨h, k, none⟩ = some (.int .i64 ak) ∧ w'.cell? ⟨h, k + 1, none⟩ = some (.string ax) ∧ w'.cell? ⟨h, k + 2, none⟩ = some (.string at') ∧ w'.cell? ⟨h, k + 3, none⟩ = some (.slice s1' n cap') ∧ w'.cell? ⟨h, k + 4, none⟩ = some (.int .i64 am) ∧ w'.cell? ⟨h, k + 5, none⟩ = some (.int .i64 af) ∧ w'.cell? ⟨h, k + 6, none⟩ = some (.int .i64 ad) ∧ w'.cell? ⟨h, k + 7, none⟩ = some (.slice s2' q2' k2'))) ∧ IsSl lo w' (s2, q2, k2) ab ∧ IsSl lo' w' (s2', q2', k2') bb) (by kernel_rfl) ?hS451 (fun hHeld => ?_)
  case hS451 => exact ⟨⟨hc, hd⟩, hs, hs'⟩
  refine wpAnyH_take (i := 0) (v := ?_) rfl (by kernel_rfl) (by kernel_rfl) (by kernel_rfl) (fun _ _ _ h => h) (Or.inl ⟨by kernel_rfl, ?hy452⟩) (by assumption) ?ty452
  case hy452 => (intro w hSw; (try dsimp only at hSw); obtain ⟨⟨⟨e0, e1, e2, e3, e4, e5, e6, e7⟩, ⟨f0, f1, f2, f3, f4, f5, f6, f7⟩⟩, hA, hB⟩ := hSw; go_simp; all_goals with_reducible rfl)
  simp only [Act.put, List.getElem_toArray, List.getElem_cons_zero, List.setIfInBounds_toArray, List.set_cons_zero, List.set_cons_succ]
  refine wpAnyH_take (i := 1) (v := ?_) rfl (by kernel_rfl) (by kernel_rfl) (by kernel_rfl) (fun _ _ _ h => h) (Or.inl ⟨by kernel_rfl, ?hy453⟩) (by assumption) ?ty453
  case hy453 => (intro w hSw; (try dsimp only at hSw); obtain ⟨⟨⟨e0, e1, e2, e3, e4, e5, e6, e7⟩, ⟨f0, f1, f2, f3, f4, f5, f6, f7⟩⟩, hA, hB⟩ := hSw; go_simp; all_goals with_reducible rfl)
  simp only [Act.put, List.getElem_toArray, List.getElem_cons_zero, List.getElem_cons_succ, List.setIfInBounds_toArray, List.set_cons_zero, List.set_cons_succ]
  refine wpAnyH_take (i := 2) (v := ?_) rfl (by kernel_rfl) (by kernel_rfl) (by kernel_rfl) (fun _ _ _ h => h) (Or.inl ⟨by kernel_rfl, ?hy454⟩) (by assumption) ?ty454
  case hy454 => (intro w hSw; (try dsimp only at hSw); obtain ⟨⟨⟨e0, e1, e2, e3, e4, e5, e6, e7⟩, ⟨f0, f1, f2, f3, f4, f5, f6, f7⟩⟩, hA, hB⟩ := hSw; go_simp; all_goals with_reducible rfl)
  simp only [Act.put, List.getElem_toArray, List.getElem_cons_zero, List.getElem_cons_succ, List.setIfInBounds_toArray, List.set_cons_zero, List.set_cons_succ]
  refine wpAnyH_take (i := 3) (v := ?_) rfl (by kernel_rfl) (by kernel_rfl) (by kernel_rfl) (fun _ _ _ h => h) (Or.inl ⟨by kernel_rfl, ?hy455⟩) (by assumption) ?ty455
  case hy455 => (intro w hSw; (try dsimp only at hSw); obtain ⟨⟨⟨e0, e1, e2, e3, e4, e5, e6, e7⟩, ⟨f0, f1, f2, f3, f4, f5, f6, f7⟩⟩, hA, hB⟩ := hSw; go_simp; all_goals with_reducible rfl)
  simp only [Act.put, List.getElem_toArray, List.getElem_cons_zero, List.getElem_cons_succ, List.setIfInBounds_toArray, List.set_cons_zero, List.set_cons_succ]
  refine wpAnyH_take (i := 4) (v := ?_) rfl (by kernel_rfl) (by kernel_rfl) (by kernel_rfl) (fun _ _ _ h => h) (Or.inl ⟨by kernel_rfl, ?hy456⟩) (by assumption) ?ty456
  case hy456 => (intro w hSw; (try dsimp only at hSw); obtain ⟨⟨⟨e0, e1, e2, e3, e4, e5, e6, e7⟩, ⟨f0, f1, f2, f3, f4, f5, f6, f7⟩⟩, hA, hB⟩ := hSw; go_simp; all_goals with_reducible rfl)
  simp only [Act.put, List.getElem_toArray, List.getElem_cons_zero, List.getElem_cons_succ, List.setIfInBounds_toArray, List.set_cons_zero, List.set_cons_succ]
  refine wpAnyH_take (i := 5) (v := ?_) rfl (by kernel_rfl) (by kernel_rfl) (by kernel_rfl) (fun _ _ _ h => h) (Or.inl ⟨by kernel_rfl, ?hy457⟩) (by assumption) ?ty457
  case hy457 => (intro w hSw; (try dsimp only at hSw); obtain ⟨⟨⟨e0, e1, e2, e3, e4, e5, e6, e7⟩, ⟨f0, f1, f2, f3, f4, f5, f6, f7⟩⟩, hA, hB⟩ := hSw; go_simp; all_goals with_reducible rfl)
  simp only [Act.put, List.getElem_toArray, List.getElem_cons_zero, List.getElem_cons_succ, List.setIfInBounds_toArray, List.set_cons_zero, List.set_cons_succ]
  refine wpAnyH_take (i := 6) (v := ?_) rfl (by kernel_rfl) (by kernel_rfl) (by kernel_rfl) (fun _ _ _ h => h) (Or.inl ⟨by kernel_rfl, ?hy458⟩) (by assumption) ?ty458
  case hy458 => (intro w hSw; (try dsimp only at hSw); obtain ⟨⟨⟨e0, e1, e2, e3, e4, e5, e6, e7⟩, ⟨f0, f1, f2, f3, f4, f5, f6, f7⟩⟩, hA, hB⟩ := hSw; go_simp; all_goals with_reducible rfl)
  simp only [Act.put, List.getElem_toArray, List.getElem_cons_zero, List.getElem_cons_succ, List.setIfInBounds_toArray, List.set_cons_zero, List.set_cons_succ]
  refine wpAnyH_take (i := 7) (v := ?_) rfl (by kernel_rfl) (by kernel_rfl) (by kernel_rfl) (fun _ _ _ h => h) (Or.inl ⟨by kernel_rfl, ?hy459⟩) (by assumption) ?ty459
  case hy459 => (intro w hSw; (try dsimp only at hSw); obtain ⟨⟨⟨e0, e1, e2, e3, e4, e5, e6, e7⟩, ⟨f0, f1, f2, f3, f4, f5, f6, f7⟩⟩, hA, hB⟩ := hSw; go_simp; all_goals with_reducible rfl)
  simp only [Act.put, List.getElem_toArray, List.getElem_cons_zero, List.getElem_cons_succ, List.setIfInBounds_toArray, List.set_cons_zero, List.set_cons_succ]
  refine wpAnyH_take (i := 8) (v := .bool false) rfl (by kernel_rfl) (by kernel_rfl) (by kernel_rfl) (fun _ _ _ h => h) (Or.inl ⟨by kernel_rfl, ?hy460⟩) (by assumption) ?ty460
  case hy460 => (intro w hSw; (try dsimp only at hSw); obtain ⟨⟨⟨e0, e1, e2, e3, e4, e5, e6, e7⟩, ⟨f0, f1, f2, f3, f4, f5, f6, f7⟩⟩, hA, hB⟩ := hSw; go_simp; first | (all_goals with_reducible rfl) | (simp; done) | (simp; omega))
  simp only [Act.put, List.getElem_toArray, List.getElem_cons_zero, List.getElem_cons_succ, List.setIfInBounds_toArray, List.set_cons_zero, List.set_cons_succ]
  refine wpAnyH_take (i := 9) (v := ?_) rfl (by kernel_rfl) (by kernel_rfl) (by kernel_rfl) (fun _ _ _ h => h) (Or.inl ⟨by kernel_rfl, ?hy461⟩) (by assumption) ?ty461
  case hy461 => (intro w hSw; (try dsimp only at hSw); obtain ⟨⟨⟨e0, e1, e2, e3, e4, e5, e6, e7⟩, ⟨f0, f1, f2, f3, f4, f5, f6, f7⟩⟩, hA, hB⟩ := hSw; go_simp; all_goals with_reducible rfl)
  simp only [Act.put, List.getElem_toArray, List.getElem_cons_zero, List.getElem_cons_succ, List.setIfInBounds_toArray, List.set_cons_zero, List.set_cons_succ]
  refine wpAnyH_take (i := 10) (v := ?_) rfl (by kernel_rfl) (by kernel_rfl) (by kernel_rfl) (fun _ _ _ h => h) (Or.inl ⟨by kernel_rfl, ?hy462⟩) (by assumption) ?ty462
  case hy462 => (intro w hSw; (try dsimp only at hSw); obtain ⟨⟨⟨e0, e1, e2, e3, e4, e5, e6, e7⟩, ⟨f0, f1, f2, f3, f4, f5, f6, f7⟩⟩, hA, hB⟩ := hSw; go_simp; all_goals with_reducible rfl)
  simp only [Act.put, List.getElem_toArray, List.getElem_cons_zero, List.getElem_cons_succ, List.setIfInBounds_toArray, List.set_cons_zero, List.set_cons_succ]
  refine wpAnyH_take (i := 11) (v := ?_) rfl (by kernel_rfl) (by kernel_rfl) (by kernel_rfl) (fun _ _ _ h => h) (Or.inl ⟨by kernel_rfl, ?hy463⟩) (by assumption) ?ty463
  case hy463 => (intro w hSw; (try dsimp only at hSw); obtain ⟨⟨⟨e0, e1, e2, e3, e4, e5, e6, e7⟩, ⟨f0, f1, f2, f3, f4, f5, f6, f7⟩⟩, hA, hB⟩ := hSw; go_simp; all_goals with_reducible rfl)
  simp only [Act.put, List.getElem_toArray, List.getElem_cons_zero, List.getElem_cons_succ, List.setIfInBounds_toArray, List.set_cons_zero, List.set_cons_succ]
  refine wpAnyH_take (i := 12) (v := ?_) rfl (by kernel_rfl) (by kernel_rfl) (by kernel_rfl) (fun _ _ _ h => h) (Or.inl ⟨by kernel_rfl, ?hy464⟩) (by assumption) ?ty464
  case hy464 => (intro w hSw; (try dsimp only at hSw); obtain ⟨⟨⟨e0, e1, e2, e3, e4, e5, e6, e7⟩, ⟨f0, f1, f2, f3, f4, f5, f6, f7⟩⟩, hA, hB⟩ := hSw; go_simp; all_goals with_reducible rfl)
  simp only [Act.put, List.getElem_toArray, List.getElem_cons_zero, List.getElem_cons_succ, List.setIfInBounds_toArray, List.set_cons_zero, List.set_cons_succ]
  refine wpAnyH_take (i := 13) (v := ?_) rfl (by kernel_rfl) (by kernel_rfl) (by kernel_rfl) (fun _ _ _ h => h) (Or.inl ⟨by kernel_rfl, ?hy465⟩) (by assumption) ?ty465
  case hy465 => (intro w hSw; (try dsimp only at hSw); obtain ⟨⟨⟨e0, e1, e2, e3, e4, e5, e6, e7⟩, ⟨f0, f1, f2, f3, f4, f5, f6, f7⟩⟩, hA, hB⟩ := hSw; go_simp; all_goals with_reducible rfl)
  simp only [Act.put, List.getElem_toArray, List.getElem_cons_zero, List.getElem_cons_succ, List.setIfInBounds_toArray, List.set_cons_zero, List.set_cons_succ]
  refine wpAnyH_take (i := 14) (v := ?_) rfl (by kernel_rfl) (by kernel_rfl) (by kernel_rfl) (fun _ _ _ h => h) (Or.inl ⟨by kernel_rfl, ?hy466⟩) (by assumption) ?ty466
  case hy466 => (intro w hSw; (try dsimp only at hSw); obtain ⟨⟨⟨e0, e1, e2, e3, e4, e5, e6, e7⟩, ⟨f0, f1, f2, f3, f4, f5, f6, f7⟩⟩, hA, hB⟩ := hSw; go_simp; all_goals with_reducible rfl)
  simp only [Act.put, List.getElem_toArray, List.getElem_cons_zero, List.getElem_cons_succ, List.setIfInBounds_toArray, List.set_cons_zero, List.set_cons_succ]
  refine wpAnyH_take (i := 15) (v := ?_) rfl (by kernel_rfl) (by kernel_rfl) (by kernel_rfl) (fun _ _ _ h => h) (Or.inl ⟨by kernel_rfl, ?hy467⟩) (by assumption) ?ty467
  case hy467 => (intro w hSw; (try dsimp only at hSw); obtain ⟨⟨⟨e0, e1, e2, e3, e4, e5, e6, e7⟩, ⟨f0, f1, f2, f3, f4, f5, f6, f7⟩⟩, hA, hB⟩ := hSw; go_simp; all_goals with_reducible rfl)
  simp only [Act.put, List.getElem_toArray, List.getElem_cons_zero, List.getElem_cons_succ, List.setIfInBounds_toArray, List.set_cons_zero, List.set_cons_succ]
  refine wpAnyH_take (i := 16) (v := ?_) rfl (by kernel_rfl) (by kernel_rfl) (by kernel_rfl) (fun _ _ _ h => h) (Or.inl ⟨by kernel_rfl, ?hy468⟩) (by assumption) ?ty468
  case hy468 => (intro w hSw; (try dsimp only at hSw); obtain ⟨⟨⟨e0, e1, e2, e3, e4, e5, e6, e7⟩, ⟨f0, f1, f2, f3, f4, f5, f6, f7⟩⟩, hA, hB⟩ := hSw; go_simp; all_goals with_reducible rfl)
  simp only [Act.put, List.getElem_toArray, List.getElem_cons_zero, List.getElem_cons_succ, List.setIfInBounds_toArray, List.set_cons_zero, List.set_cons_succ]
  refine wpAnyH_take (i := 17) (v := ?_) rfl (by kernel_rfl) (by kernel_rfl) (by kernel_rfl) (fun _ _ _ h => h) (Or.inl ⟨by kernel_rfl, ?hy469⟩) (by assumption) ?ty469
  case hy469 => (intro w hSw; (try dsimp only at hSw); obtain ⟨⟨⟨e0, e1, e2, e3, e4, e5, e6, e7⟩, ⟨f0, f1, f2, f3, f4, f5, f6, f7⟩⟩, hA, hB⟩ := hSw; go_simp; all_goals with_reducible rfl)
  simp only [Act.put, List.getElem_toArray, List.getElem_cons_zero, List.getElem_cons_succ, List.setIfInBounds_toArray, List.set_cons_zero, List.set_cons_succ]
  refine wpAnyH_take (i := 18) (v := .bool false) rfl (by kernel_rfl) (by kernel_rfl) (by kernel_rfl) (fun _ _ _ h => h) (Or.inl ⟨by kernel_rfl, ?hy470⟩) (by assumption) ?ty470
  case hy470 => (intro w hSw; (try dsimp only at hSw); obtain ⟨⟨⟨e0, e1, e2, e3, e4, e5, e6, e7⟩, ⟨f0, f1, f2, f3, f4, f5, f6, f7⟩⟩, hA, hB⟩ := hSw; go_simp; first | (simp; done) | (simp [hst]; done) | (all_goals with_reducible rfl) | (simp; omega))
  simp only [Act.put, List.getElem_toArray, List.getElem_cons_zero, List.getElem_cons_succ, List.setIfInBounds_toArray, List.set_cons_zero, List.set_cons_succ]
  refine wpAnyH_take (i := 19) (v := .bool false) rfl (by kernel_rfl) (by kernel_rfl) (by kernel_rfl) (fun _ _ _ h => h) (Or.inl ⟨by kernel_rfl, ?hy471⟩) (by assumption) ?ty471
  case hy471 => (intro w hSw; (try dsimp only at hSw); obtain ⟨⟨⟨e0, e1, e2, e3, e4, e5, e6, e7⟩, ⟨f0, f1, f2, f3, f4, f5, f6, f7⟩⟩, hA, hB⟩ := hSw; go_simp; first | (all_goals with_reducible rfl) | (simp; done) | (simp; omega))
  simp only [Act.put, List.getElem_toArray, List.getElem_cons_zero, List.getElem_cons_succ, List.setIfInBounds_toArray, List.set_cons_zero, List.set_cons_succ]
  refine wpAnyH_take (i := 20) (v := ?_) rfl (by kernel_rfl) (by kernel_rfl) (by kernel_rfl) (fun _ _ _ h => h) (Or.inl ⟨by kernel_rfl, ?hy472⟩) (by assumption) ?ty472
  case hy472 => (intro w hSw; (try dsimp only at hSw); obtain ⟨⟨⟨e0, e1, e2, e3, e4, e5, e6, e7⟩, ⟨f0, f1, f2, f3, f4, f5, f6, f7⟩⟩, hA, hB⟩ := hSw; go_simp; all_goals with_reducible rfl)
  simp only [Act.put, List.getElem_toArray, List.getElem_cons_zero, List.getElem_cons_succ, List.setIfInBounds_toArray, List.set_cons_zero, List.set_cons_succ]
  refine wpAnyH_take (i := 21) (v := ?_) rfl (by kernel_rfl) (by kernel_rfl) (by kernel_rfl) (fun _ _ _ h => h) (Or.inl ⟨by kernel_rfl, ?hy473⟩) (by assumption) ?ty473
  case hy473 => (intro w hSw; (try dsimp only at hSw); obtain ⟨⟨⟨e0, e1, e2, e3, e4, e5, e6, e7⟩, ⟨f0, f1, f2, f3, f4, f5, f6, f7⟩⟩, hA, hB⟩ := hSw; go_simp; all_goals with_reducible rfl)
  simp only [Act.put, List.getElem_toArray, List.getElem_cons_zero, List.getElem_cons_succ, List.setIfInBounds_toArray, List.set_cons_zero, List.set_cons_succ]
  refine wpAnyH_take (i := 22) (v := ?_) rfl (by kernel_rfl) (by kernel_rfl) (by kernel_rfl) (fun _ _ _ h => h) (Or.inl ⟨by kernel_rfl, ?hy474⟩) (by assumption) ?ty474
  case hy474 => (intro w hSw; (try dsimp only at hSw); obtain ⟨⟨⟨e0, e1, e2, e3, e4, e5, e6, e7⟩, ⟨f0, f1, f2, f3, f4, f5, f6, f7⟩⟩, hA, hB⟩ := hSw; go_simp; all_goals with_reducible rfl)
  simp only [Act.put, List.getElem_toArray, List.getElem_cons_zero, List.getElem_cons_succ, List.setIfInBounds_toArray, List.set_cons_zero, List.set_cons_succ]
  refine wpAnyH_take (i := 23) (v := ?_) rfl (by kernel_rfl) (by kernel_rfl) (by kernel_rfl) (fun _ _ _ h => h) (Or.inl ⟨by kernel_rfl, ?hy475⟩) (by assumption) ?ty475
  case hy475 => (intro w hSw; (try dsimp only at hSw); obtain ⟨⟨⟨e0, e1, e2, e3, e4, e5, e6, e7⟩, ⟨f0, f1, f2, f3, f4, f5, f6, f7⟩⟩, hA, hB⟩ := hSw; go_simp; all_goals with_reducible rfl)
  simp only [Act.put, List.getElem_toArray, List.getElem_cons_zero, List.getElem_cons_succ, List.setIfInBounds_toArray, List.set_cons_zero, List.set_cons_succ]
  refine wpAnyH_take (i := 24) (v := ?_) rfl (by kernel_rfl) (by kernel_rfl) (by kernel_rfl) (fun _ _ _ h => h) (Or.inl ⟨by kernel_rfl, ?hy476⟩) (by assumption) ?ty476
  case hy476 => (intro w hSw; (try dsimp only at hSw); obtain ⟨⟨⟨e0, e1, e2, e3, e4, e5, e6, e7⟩, ⟨f0, f1, f2, f3, f4, f5, f6, f7⟩⟩, hA, hB⟩ := hSw; go_simp; all_goals with_reducible rfl)
  simp only [Act.put, List.getElem_toArray, List.getElem_cons_zero, List.getElem_cons_succ, List.setIfInBounds_toArray, List.set_cons_zero, List.set_cons_succ]
  refine wpAnyH_take (i := 25) (v := ?_) rfl (by kernel_rfl) (by kernel_rfl) (by kernel_rfl) (fun _ _ _ h => h) (Or.inl ⟨by kernel_rfl, ?hy477⟩) (by assumption) ?ty477
  case hy477 => (intro w hSw; (try dsimp only at hSw); obtain ⟨⟨⟨e0, e1, e2, e3, e4, e5, e6, e7⟩, ⟨f0, f1, f2, f3, f4, f5, f6, f7⟩⟩, hA, hB⟩ := hSw; go_simp; all_goals with_reducible rfl)
  simp only [Act.put, List.getElem_toArray, List.getElem_cons_zero, List.getElem_cons_succ, List.setIfInBounds_toArray, List.set_cons_zero, List.set_cons_succ]
  refine wpAnyH_take (i := 26) (v := ?_) rfl (by kernel_rfl) (by kernel_rfl) (by kernel_rfl) (fun _ _ _ h => h) (Or.inl ⟨by kernel_rfl, ?hy478⟩) (by assumption) ?ty478
  case hy478 => (intro w hSw; (try dsimp only at hSw); obtain ⟨⟨⟨e0, e1, e2, e3, e4, e5, e6, e7⟩, ⟨f0, f1, f2, f3, f4, f5, f6, f7⟩⟩, hA, hB⟩ := hSw; go_simp; all_goals with_reducible rfl)
  simp only [Act.put, List.getElem_toArray, List.getElem_cons_zero, List.getElem_cons_succ, List.setIfInBounds_toArray, List.set_cons_zero, List.set_cons_succ]
  refine wpAnyH_take (i := 27) (v := ?_) rfl (by kernel_rfl) (by kernel_rfl) (by kernel_rfl) (fun _ _ _ h => h) (Or.inl ⟨by kernel_rfl, ?hy479⟩) (by assumption) ?ty479
  case hy479 => (intro w hSw; (try dsimp only at hSw); obtain ⟨⟨⟨e0, e1, e2, e3, e4, e5, e6, e7⟩, ⟨f0, f1, f2, f3, f4, f5, f6, f7⟩⟩, hA, hB⟩ := hSw; go_simp; all_goals with_reducible rfl)
  simp only [Act.put, List.getElem_toArray, List.getElem_cons_zero, List.getElem_cons_succ, List.setIfInBounds_toArray, List.set_cons_zero, List.set_cons_succ]
  refine wpAnyH_take (i := 28) (v := ?_) rfl (by kernel_rfl) (by kernel_rfl) (by kernel_rfl) (fun _ _ _ h => h) (Or.inl ⟨by kernel_rfl, ?hy480⟩) (by assumption) ?ty480
  case hy480 => (intro w hSw; (try dsimp only at hSw); obtain ⟨⟨⟨e0, e1, e2, e3, e4, e5, e6, e7⟩, ⟨f0, f1, f2, f3, f4, f5, f6, f7⟩⟩, hA, hB⟩ := hSw; go_simp; all_goals with_reducible rfl)
  simp only [Act.put, List.getElem_toArray, List.getElem_cons_zero, List.getElem_cons_succ, List.setIfInBounds_toArray, List.set_cons_zero, List.set_cons_succ]
  refine wpAnyH_take (i := 29) (v := .bool false) rfl (by kernel_rfl) (by kernel_rfl) (by kernel_rfl) (fun _ _ _ h => h) (Or.inl ⟨by kernel_rfl, ?hy481⟩) (by assumption) ?ty481
  case hy481 => (intro w hSw; (try dsimp only at hSw); obtain ⟨⟨⟨e0, e1, e2, e3, e4, e5, e6, e7⟩, ⟨f0, f1, f2, f3, f4, f5, f6, f7⟩⟩, hA, hB⟩ := hSw; go_simp; first | (simp; done) | (simp [hst]; done) | (all_goals with_reducible rfl) | (simp; omega))
  simp only [Act.put, List.getElem_toArray, List.getElem_cons_zero, List.getElem_cons_succ, List.setIfInBounds_toArray, List.set_cons_zero, List.set_cons_succ]
  refine wpAnyH_take (i := 30) (v := .bool false) rfl (by kernel_rfl) (by kernel_rfl) (by kernel_rfl) (fun _ _ _ h => h) (Or.inl ⟨by kernel_rfl, ?hy482⟩) (by assumption) ?ty482
  case hy482 => (intro w hSw; (try dsimp only at hSw); obtain ⟨⟨⟨e0, e1, e2, e3, e4, e5, e6, e7⟩, ⟨f0, f1, f2, f3, f4, f5, f6, f7⟩⟩, hA, hB⟩ := hSw; go_simp; first | (all_goals with_reducible rfl) | (simp; done) | (simp; omega))
  simp only [Act.put, List.getElem_toArray, List.getElem_cons_zero, List.getElem_cons_succ, List.setIfInBounds_toArray, List.set_cons_zero, List.set_cons_succ]
  refine wpAnyH_take (i := 31) (v := ?_) rfl (by kernel_rfl) (by kernel_rfl) (by kernel_rfl) (fun _ _ _ h => h) (Or.inl ⟨by kernel_rfl, ?hy483⟩) (by assumption) ?ty483
  case hy483 => (intro w hSw; (try dsimp only at hSw); obtain ⟨⟨⟨e0, e1, e2, e3, e4, e5, e6, e7⟩, ⟨f0, f1, f2, f3, f4, f5, f6, f7⟩⟩, hA, hB⟩ := hSw; go_simp; all_goals with_reducible rfl)
  simp only [Act.put, List.getElem_toArray, List.getElem_cons_zero, List.getElem_cons_succ, List.setIfInBounds_toArray, List.set_cons_zero, List.set_cons_succ]
  refine wpAnyH_take (i := 32) (v := ?_) rfl (by kernel_rfl) (by kernel_rfl) (by kernel_rfl) (fun _ _ _ h => h) (Or.inl ⟨by kernel_rfl, ?hy484⟩) (by assumption) ?ty484
  case hy484 => (intro w hSw; (try dsimp only at hSw); obtain ⟨⟨⟨e0, e1, e2, e3, e4, e5, e6, e7⟩, ⟨f0, f1, f2, f3, f4, f5, f6, f7⟩⟩, hA, hB⟩ := hSw; go_simp; all_goals with_reducible rfl)
  simp only [Act.put, List.getElem_toArray, List.getElem_cons_zero, List.getElem_cons_succ, List.setIfInBounds_toArray, List.set_cons_zero, List.set_cons_succ]
  refine wpAnyH_take (i := 33) (v := ?_) rfl (by kernel_rfl) (by kernel_rfl) (by kernel_rfl) (fun _ _ _ h => h) (Or.inl ⟨by kernel_rfl, ?hy485⟩) (by assumption) ?ty485
  case hy485 => (intro w hSw; (try dsimp only at hSw); obtain ⟨⟨⟨e0, e1, e2, e3, e4, e5, e6, e7⟩, ⟨f0, f1, f2, f3, f4, f5, f6, f7⟩⟩, hA, hB⟩ := hSw; go_simp; all_goals with_reducible rfl)
  simp only [Act.put, List.getElem_toArray, List.getElem_cons_zero, List.getElem_cons_succ, List.setIfInBounds_toArray, List.set_cons_zero, List.set_cons_succ]
  refine wpAnyH_take (i := 34) (v := ?_) rfl (by kernel_rfl) (by kernel_rfl) (by kernel_rfl) (fun _ _ _ h => h) (Or.inl ⟨by kernel_rfl, ?hy486⟩) (by assumption) ?ty486
  case hy486 => (intro w hSw; (try dsimp only at hSw); obtain ⟨⟨⟨e0, e1, e2, e3, e4, e5, e6, e7⟩, ⟨f0, f1, f2, f3, f4, f5, f6, f7⟩⟩, hA, hB⟩ := hSw; go_simp; all_goals with_reducible rfl)
  simp only [Act.put, List.getElem_toArray, List.getElem_cons_zero, List.getElem_cons_succ, List.setIfInBounds_toArray, List.set_cons_zero, List.set_cons_succ]
  refine wpAnyH_take (i := 35) (v := ?_) rfl (by kernel_rfl) (by kernel_rfl) (by kernel_rfl) (fun _ _ _ h => h) (Or.inl ⟨by kernel_rfl, ?hy487⟩) (by assumption) ?ty487
  case hy487 => (intro w hSw; (try dsimp only at hSw); obtain ⟨⟨⟨e0, e1, e2, e3, e4, e5, e6, e7⟩, ⟨f0, f1, f2, f3, f4, f5, f6, f7⟩⟩, hA, hB⟩ := hSw; go_simp; all_goals with_reducible rfl)
  simp only [Act.put, List.getElem_toArray, List.getElem_cons_zero, List.getElem_cons_succ, List.setIfInBounds_toArray, List.set_cons_zero, List.set_cons_succ]
  refine wpAnyH_take (i := 36) (v := ?_) rfl (by kernel_rfl) (by kernel_rfl) (by kernel_rfl) (fun _ _ _ h => h) (Or.inl ⟨by kernel_rfl, ?hy488⟩) (by assumption) ?ty488
  case hy488 => (intro w hSw; (try dsimp only at hSw); obtain ⟨⟨⟨e0, e1, e2, e3, e4, e5, e6, e7⟩, ⟨f0, f1, f2, f3, f4, f5, f6, f7⟩⟩, hA, hB⟩ := hSw; go_simp; all_goals with_reducible rfl)
  simp only [Act.put, List.getElem_toArray, List.getElem_cons_zero, List.getElem_cons_succ, List.setIfInBounds_toArray, List.set_cons_zero, List.set_cons_succ]
  refine wpAnyH_take (i := 37) (v := ?_) rfl (by kernel_rfl) (by kernel_rfl) (by kernel_rfl) (fun _ _ _ h => h) (Or.inl ⟨by kernel_rfl, ?hy489⟩) (by assumption) ?ty489
  case hy489 => (intro w hSw; (try dsimp only at hSw); obtain ⟨⟨⟨e0, e1, e2, e3, e4, e5, e6, e7⟩, ⟨f0, f1, f2, f3, f4, f5, f6, f7⟩⟩, hA, hB⟩ := hSw; go_simp; all_goals with_reducible rfl)
  simp only [Act.put, List.getElem_toArray, List.getElem_cons_zero, List.getElem_cons_succ, List.setIfInBounds_toArray, List.set_cons_zero, List.set_cons_succ]
  refine wpAnyH_take (i := 38) (v := ?_) rfl (by kernel_rfl) (by kernel_rfl) (by kernel_rfl) (fun _ _ _ h => h) (Or.inl ⟨by kernel_rfl, ?hy490⟩) (by assumption) ?ty490
  case hy490 => (intro w hSw; (try dsimp only at hSw); obtain ⟨⟨⟨e0, e1, e2, e3, e4, e5, e6, e7⟩, ⟨f0, f1, f2, f3, f4, f5, f6, f7⟩⟩, hA, hB⟩ := hSw; go_simp; all_goals with_reducible rfl)
  simp only [Act.put, List.getElem_toArray, List.getElem_cons_zero, List.getElem_cons_succ, List.setIfInBounds_toArray, List.set_cons_zero, List.set_cons_succ]
  refine wpAnyH_take (i := 39) (v := ?_) rfl (by kernel_rfl) (by kernel_rfl) (by kernel_rfl) (fun _ _ _ h => h) (Or.inl ⟨by kernel_rfl, ?hy491⟩) (by assumption) ?ty491
  case hy491 => (intro w hSw; (try dsimp only at hSw); obtain ⟨⟨⟨e0, e1, e2, e3, e4, e5, e6, e7⟩, ⟨f0, f1, f2, f3, f4, f5, f6, f7⟩⟩, hA, hB⟩ := hSw; go_simp; all_goals with_reducible rfl)
  simp only [Act.put, List.getElem_toArray, List.getElem_cons_zero, List.getElem_cons_succ, List.setIfInBounds_toArray, List.set_cons_zero, List.set_cons_succ]
  refine wpAnyH_take (i := 40) (v := .bool false) rfl (by kernel_rfl) (by kernel_rfl) (by kernel_rfl) (fun _ _ _ h => h) (Or.inl ⟨by kernel_rfl, ?hy492⟩) (by assumption) ?ty492
  case hy492 => (intro w hSw; (try dsimp only at hSw); obtain ⟨⟨⟨e0, e1, e2, e3, e4, e5, e6, e7⟩, ⟨f0, f1, f2, f3, f4, f5, f6, f7⟩⟩, hA, hB⟩ := hSw; go_simp; first | (all_goals with_reducible rfl) | (simp; done) | (simp; omega))
  simp only [Act.put, List.getElem_toArray, List.getElem_cons_zero, List.getElem_cons_succ, List.setIfInBounds_toArray, List.set_cons_zero, List.set_cons_succ]
  refine wpAnyH_take (i := 41) (v := .bool false) rfl (by kernel_rfl) (by kernel_rfl) (by kernel_rfl) (fun _ _ _ h => h) (Or.inl ⟨by kernel_rfl, ?hy493⟩) (by assumption) ?ty493
  case hy493 => (intro w hSw; (try dsimp only at hSw); obtain ⟨⟨⟨e0, e1, e2, e3, e4, e5, e6, e7⟩, ⟨f0, f1, f2, f3, f4, f5, f6, f7⟩⟩, hA, hB⟩ := hSw; go_simp; first | (all_goals with_reducible rfl) | (simp; done) | (simp; omega))
  simp only [Act.put, List.getElem_toArray, List.getElem_cons_zero, List.getElem_cons_succ, List.setIfInBounds_toArray, List.set_cons_zero, List.set_cons_succ]
  refine wpAnyH_take (i := 42) (v := ?_) rfl (by kernel_rfl) (by kernel_rfl) (by kernel_rfl) (fun _ _ _ h => h) (Or.inl ⟨by kernel_rfl, ?hy494⟩) (by assumption) ?ty494
  case hy494 => (intro w hSw; (try dsimp only at hSw); obtain ⟨⟨⟨e0, e1, e2, e3, e4, e5, e6, e7⟩, ⟨f0, f1, f2, f3, f4, f5, f6, f7⟩⟩, hA, hB⟩ := hSw; go_simp; all_goals with_reducible rfl)
  simp only [Act.put, List.getElem_toArray, List.getElem_cons_zero, List.getElem_cons_succ, List.setIfInBounds_toArray, List.set_cons_zero, List.set_cons_succ]
  refine wpAnyH_take (i := 43) (v := ?_) rfl (by kernel_rfl) (by kernel_rfl) (by kernel_rfl) (fun _ _ _ h => h) (Or.inl ⟨by kernel_rfl, ?hy495⟩) (by assumption) ?ty495
  case hy495 => (intro w hSw; (try dsimp only at hSw); obtain ⟨⟨⟨e0, e1, e2, e3, e4, e5, e6, e7⟩, ⟨f0, f1, f2, f3, f4, f5, f6, f7⟩⟩, hA, hB⟩ := hSw; go_simp; all_goals with_reducible rfl)
  simp only [Act.put, List.getElem_toArray, List.getElem_cons_zero, List.getElem_cons_succ, List.setIfInBounds_toArray, List.set_cons_zero, List.set_cons_succ]
  refine wpAnyH_take (i := 44) (v := ?_) rfl (by kernel_rfl) (by kernel_rfl) (by kernel_rfl) (fun _ _ _ h => h) (Or.inl ⟨by kernel_rfl, ?hy496⟩) (by assumption) ?ty496
  case hy496 => (intro w hSw; (try dsimp only at hSw); obtain ⟨⟨⟨e0, e1, e2, e3, e4, e5, e6, e7⟩, ⟨f0, f1, f2, f3, f4, f5, f6, f7⟩⟩, hA, hB⟩ := hSw; go_simp; all_goals with_reducible rfl)
  simp only [Act.put, List.getElem_toArray, List.getElem_cons_zero, List.getElem_cons_succ, List.setIfInBounds_toArray, List.set_cons_zero, List.set_cons_succ]
  refine wpAnyH_take (i := 45) (v := ?_) rfl (by kernel_rfl) (by kernel_rfl) (by kernel_rfl) (fun _ _ _ h => h) (Or.inl ⟨by kernel_rfl, ?hy497⟩) (by assumption) ?ty497
  case hy497 => (intro w hSw; (try dsimp only at hSw); obtain ⟨⟨⟨e0, e1, e2, e3, e4, e5, e6, e7⟩, ⟨f0, f1, f2, f3, f4, f5, f6, f7⟩⟩, hA, hB⟩ := hSw; go_simp; all_goals with_reducible rfl)
  simp only [Act.put, List.getElem_toArray, List.getElem_cons_zero, List.getElem_cons_succ, List.setIfInBounds_toArray, List.set_cons_zero, List.set_cons_succ]
  refine wpAnyH_take (i := 46) (v := ?_) rfl (by kernel_rfl) (by kernel_rfl) (by kernel_rfl) (fun _ _ _ h => h) (Or.inl ⟨by kernel_rfl, ?hy498⟩) (by assumption) ?ty498
  case hy498 => (intro w hSw; (try dsimp only at hSw); obtain ⟨⟨⟨e0, e1, e2, e3, e4, e5, e6, e7⟩, ⟨f0, f1, f2, f3, f4, f5, f6, f7⟩⟩, hA, hB⟩ := hSw; go_simp; all_goals with_reducible rfl)
  simp only [Act.put, List.getElem_toArray, List.getElem_cons_zero, List.getElem_cons_succ, List.setIfInBounds_toArray, List.set_cons_zero, List.set_cons_succ]
  refine wpAnyH_take (i := 47) (v := ?_) rfl (by kernel_rfl) (by kernel_rfl) (by kernel_rfl) (fun _ _ _ h => h) (Or.inl ⟨by kernel_rfl, ?hy499⟩) (by assumption) ?ty499
  case hy499 => (intro w hSw; (try dsimp only at hSw); obtain ⟨⟨⟨e0, e1, e2, e3, e4, e5, e6, e7⟩, ⟨f0, f1, f2, f3, f4, f5, f6, f7⟩⟩, hA, hB⟩ := hSw; go_simp; all_goals with_reducible rfl)
  simp only [Act.put, List.getElem_toArray, List.getElem_cons_zero, List.getElem_cons_succ, List.setIfInBounds_toArray, List.set_cons_zero, List.set_cons_succ]
  refine wpAnyH_take (i := 48) (v := ?_) rfl (by kernel_rfl) (by kernel_rfl) (by kernel_rfl) (fun _ _ _ h => h) (Or.inl ⟨by kernel_rfl, ?hy500⟩) (by assumption) ?ty500
  case hy500 => (intro w hSw; (try dsimp only at hSw); obtain ⟨⟨⟨e0, e1, e2, e3, e4, e5, e6, e7⟩, ⟨f0, f1, f2, f3, f4, f5, f6, f7⟩⟩, hA, hB⟩ := hSw; go_simp; all_goals with_reducible rfl)
  simp only [Act.put, List.getElem_toArray, List.getElem_cons_zero, List.getElem_cons_succ, List.setIfInBounds_toArray, List.set_cons_zero, List.set_cons_succ]
  refine wpAnyH_take (i := 49) (v := ?_) rfl (by kernel_rfl) (by kernel_rfl) (by kernel_rfl) (fun _ _ _ h => h) (Or.inl ⟨by kernel_rfl, ?hy501⟩) (by assumption) ?ty501
  case hy501 => (intro w hSw; (try dsimp only at hSw); obtain ⟨⟨⟨e0, e1, e2, e3, e4, e5, e6, e7⟩, ⟨f0, f1, f2, f3, f4, f5, f6, f7⟩⟩, hA, hB⟩ := hSw; go_simp; all_goals with_reducible rfl)
  simp only [Act.put, List.getElem_toArray, List.getElem_cons_zero, List.getElem_cons_succ, List.setIfInBounds_toArray, List.set_cons_zero, List.set_cons_succ]
  refine wpAnyH_take (i := 50) (v := ?_) rfl (by kernel_rfl) (by kernel_rfl) (by kernel_rfl) (fun _ _ _ h => h) (Or.inl ⟨by kernel_rfl, ?hy502⟩) (by assumption) ?ty502
  case hy502 => (intro w hSw; (try dsimp only at hSw); obtain ⟨⟨⟨e0, e1, e2, e3, e4, e5, e6, e7⟩, ⟨f0, f1, f2, f3, f4, f5, f6, f7⟩⟩, hA, hB⟩ := hSw; go_simp; all_goals with_reducible rfl)
  simp only [Act.put, List.getElem_toArray, List.getElem_cons_zero, List.getElem_cons_succ, List.setIfInBounds_toArray, List.set_cons_zero, List.set_cons_succ]
  refine wpAnyH_take (i := 51) (v := .bool false) rfl (by kernel_rfl) (by kernel_rfl) (by kernel_rfl) (fun _ _ _ h => h) (Or.inl ⟨by kernel_rfl, ?hy503⟩) (by assumption) ?ty503
  case hy503 => (intro w hSw; (try dsimp only at hSw); obtain ⟨⟨⟨e0, e1, e2, e3, e4, e5, e6, e7⟩, ⟨f0, f1, f2, f3, f4, f5, f6, f7⟩⟩, hA, hB⟩ := hSw; go_simp; first | (all_goals with_reducible rfl) | (simp; done) | (simp; omega))
  simp only [Act.put, List.getElem_toArray, List.getElem_cons_zero, List.getElem_cons_succ, List.setIfInBounds_toArray, List.set_cons_zero, List.set_cons_succ]
  refine wpAnyH_take (i := 52) (v := .bool false) rfl (by kernel_rfl) (by kernel_rfl) (by kernel_rfl) (fun _ _ _ h => h) (Or.inl ⟨by kernel_rfl, ?hy504⟩) (by assumption) ?ty504
  case hy504 => (intro w hSw; (try dsimp only at hSw); obtain ⟨⟨⟨e0, e1, e2, e3, e4, e5, e6, e7⟩, ⟨f0, f1, f2, f3, f4, f5, f6, f7⟩⟩, hA, hB⟩ := hSw; go_simp; first | (all_goals with_reducible rfl) | (simp; done) | (simp; omega))
  simp only [Act.put, List.getElem_toArray, List.getElem_cons_zero, List.getElem_cons_succ, List.setIfInBounds_toArray, List.set_cons_zero, List.set_cons_succ]
  refine wpAnyH_take (i := 53) (v := ?_) rfl (by kernel_rfl) (by kernel_rfl) (by kernel_rfl) (fun _ _ _ h => h) (Or.inl ⟨by kernel_rfl, ?hy505⟩) (by assumption) ?ty505
  case hy505 => (intro w hSw; (try dsimp only at hSw); obtain ⟨⟨⟨e0, e1, e2, e3, e4, e5, e6, e7⟩, ⟨f0, f1, f2, f3, f4, f5, f6, f7⟩⟩, hA, hB⟩ := hSw; go_simp; all_goals with_reducible rfl)
  simp only [Act.put, List.getElem_toArray, List.getElem_cons_zero, List.getElem_cons_succ, List.setIfInBounds_toArray, List.set_cons_zero, List.set_cons_succ]
  refine wpAnyH_take (i := 54) (v := ?_) rfl (by kernel_rfl) (by kernel_rfl) (by kernel_rfl) (fun _ _ _ h => h) (Or.inl ⟨by kernel_rfl, ?hy506⟩) (by assumption) ?ty506
  case hy506 => (intro w hSw; (try dsimp only at hSw); obtain ⟨⟨⟨e0, e1, e2, e3, e4, e5, e6, e7⟩, ⟨f0, f1, f2, f3, f4, f5, f6, f7⟩⟩, hA, hB⟩ := hSw; go_simp; all_goals with_reducible rfl)
  simp only [Act.put, List.getElem_toArray, List.getElem_cons_zero, List.getElem_cons_succ, List.setIfInBounds_toArray, List.set_cons_zero, List.set_cons_succ]
  refine wpAnyH_take (i := 55) (v := ?_) rfl (by kernel_rfl) (by kernel_rfl) (by kernel_rfl) (fun _ _ _ h => h) (Or.inl ⟨by kernel_rfl, ?hy507⟩) (by assumption) ?ty507
  case hy507 => (intro w hSw; (try dsimp only at hSw); obtain ⟨⟨⟨e0, e1, e2, e3, e4, e5, e6, e7⟩, ⟨f0, f1, f2, f3, f4, f5, f6, f7⟩⟩, hA, hB⟩ := hSw; go_simp; all_goals with_reducible rfl)
  simp only [Act.put, List.getElem_toArray, List.getElem_cons_zero, List.getElem_cons_succ, List.setIfInBounds_toArray, List.set_cons_zero, List.set_cons_succ]
  refine wpAnyH_take (i := 56) (v := ?_) rfl (by kernel_rfl) (by kernel_rfl) (by kernel_rfl) (fun _ _ _ h => h) (Or.inl ⟨by kernel_rfl, ?hy508⟩) (by assumption) ?ty508
  case hy508 => (intro w hSw; (try dsimp only at hSw); obtain ⟨⟨⟨e0, e1, e2, e3, e4, e5, e6, e7⟩, ⟨f0, f1, f2, f3, f4, f5, f6, f7⟩⟩, hA, hB⟩ := hSw; go_simp; all_goals with_reducible rfl)
  simp only [Act.put, List.getElem_toArray, List.getElem_cons_zero, List.getElem_cons_succ, List.setIfInBounds_toArray, List.set_cons_zero, List.set_cons_succ]
  refine wpAnyH_take (i := 57) (v := ?_) rfl (by kernel_rfl) (by kernel_rfl) (by kernel_rfl) (fun _ _ _ h => h) (Or.inl ⟨by kernel_rfl, ?hy509⟩) (by assumption) ?ty509
  case hy509 => (intro w hSw; (try dsimp only at hSw); obtain ⟨⟨⟨e0, e1, e2, e3, e4, e5, e6, e7⟩, ⟨f0, f1, f2, f3, f4, f5, f6, f7⟩⟩, hA, hB⟩ := hSw; go_simp; all_goals with_reducible rfl)
  simp only [Act.put, List.getElem_toArray, List.getElem_cons_zero, List.getElem_cons_succ, List.setIfInBounds_toArray, List.set_cons_zero, List.set_cons_succ]
  refine wpAnyH_take (i := 58) (v := ?_) rfl (by kernel_rfl) (by kernel_rfl) (by kernel_rfl) (fun _ _ _ h => h) (Or.inl ⟨by kernel_rfl, ?hy510⟩) (by assumption) ?ty510
  case hy510 => (intro w hSw; (try dsimp only at hSw); obtain ⟨⟨⟨e0, e1, e2, e3, e4, e5, e6, e7⟩, ⟨f0, f1, f2, f3, f4, f5, f6, f7⟩⟩, hA, hB⟩ := hSw; go_simp; all_goals with_reducible rfl)
  simp only [Act.put, List.getElem_toArray, List.getElem_cons_zero, List.getElem_cons_succ, List.setIfInBounds_toArray, List.set_cons_zero, List.set_cons_succ]
  refine wpAnyH_take (i := 59) (v := ?_) rfl (by kernel_rfl) (by kernel_rfl) (by kernel_rfl) (fun _ _ _ h => h) (Or.inl ⟨by kernel_rfl, ?hy511⟩) (by assumption) ?ty511
  case hy511 => (intro w hSw; (try dsimp only at hSw); obtain ⟨⟨⟨e0, e1, e2, e3, e4, e5, e6, e7⟩, ⟨f0, f1, f2, f3, f4, f5, f6, f7⟩⟩, hA, hB⟩ := hSw; go_simp; all_goals with_reducible rfl)
  simp only [Act.put, List.getElem_toArray, List.getElem_cons_zero, List.getElem_cons_succ, List.setIfInBounds_toArray, List.set_cons_zero, List.set_cons_succ]
  refine wpAnyH_take (i := 60) (v := ?_) rfl (by kernel_rfl) (by kernel_rfl) (by kernel_rfl) (fun _ _ _ h => h) (Or.inl ⟨by kernel_rfl, ?hy512⟩) (by assumption) ?ty512
  case hy512 => (intro w hSw; (try dsimp only at hSw); obtain ⟨⟨⟨e0, e1, e2, e3, e4, e5, e6, e7⟩, ⟨f0, f1, f2, f3, f4, f5, f6, f7⟩⟩, hA, hB⟩ := hSw; go_simp; all_goals with_reducible rfl)
  simp only [Act.put, List.getElem_toArray, List.getElem_cons_zero, List.getElem_cons_succ, List.setIfInBounds_toArray, List.set_cons_zero, List.set_cons_succ]
  refine wpAnyH_take (i := 61) (v := ?_) rfl (by kernel_rfl) (by kernel_rfl) (by kernel_rfl) (fun _ _ _ h => h) (Or.inl ⟨by kernel_rfl, ?hy513⟩) (by assumption) ?ty513
  case hy513 => (intro w hSw; (try dsimp only at hSw); obtain ⟨⟨⟨e0, e1, e2, e3, e4, e5, e6, e7⟩, ⟨f0, f1, f2, f3, f4, f5, f6, f7⟩⟩, hA, hB⟩ := hSw; go_simp; all_goals with_reducible rfl)
  simp only [Act.put, List.getElem_toArray, List.getElem_cons_zero, List.getElem_cons_succ, List.setIfInBounds_toArray, List.set_cons_zero, List.set_cons_succ]
  refine wpAnyH_take (i := 62) (v := .bool false) rfl (by kernel_rfl) (by kernel_rfl) (by kernel_rfl) (fun _ _ _ h => h) (Or.inl ⟨by kernel_rfl, ?hy514⟩) (by assumption) ?ty514
  case hy514 => (intro w hSw; (try dsimp only at hSw); obtain ⟨⟨⟨e0, e1, e2, e3, e4, e5, e6, e7⟩, ⟨f0, f1, f2, f3, f4, f5, f6, f7⟩⟩, hA, hB⟩ := hSw; go_simp; first | (all_goals with_reducible rfl) | (simp; done) | (simp; omega))
  simp only [Act.put, List.getElem_toArray, List.getElem_cons_zero, List.getElem_cons_succ, List.setIfInBounds_toArray, List.set_cons_zero, List.set_cons_succ]
  refine wpAnyH_take (i := 63) (v := .bool false) rfl (by kernel_rfl) (by kernel_rfl) (by kernel_rfl) (fun _ _ _ h => h) (Or.inl ⟨by kernel_rfl, ?hy515⟩) (by assumption) ?ty515
  case hy515 => (intro w hSw; (try dsimp only at hSw); obtain ⟨⟨⟨e0, e1, e2, e3, e4, e5, e6, e7⟩, ⟨f0, f1, f2, f3, f4, f5, f6, f7⟩⟩, hA, hB⟩ := hSw; go_simp; first | (all_goals with_reducible rfl) | (simp; done) | (simp; omega))
  simp only [Act.put, List.getElem_toArray, List.getElem_cons_zero, List.getElem_cons_succ, List.setIfInBounds_toArray, List.set_cons_zero, List.set_cons_succ]
  refine wpAnyH_take (i := 64) (v := ?_) rfl (by kernel_rfl) (by kernel_rfl) (by kernel_rfl) (fun _ _ _ h => h) (Or.inl ⟨by kernel_rfl, ?hy516⟩) (by assumption) ?ty516
  case hy516 => (intro w hSw; (try dsimp only at hSw); obtain ⟨⟨⟨e0, e1, e2, e3, e4, e5, e6, e7⟩, ⟨f0, f1, f2, f3, f4, f5, f6, f7⟩⟩, hA, hB⟩ := hSw; go_simp; all_goals with_reducible rfl)
  simp only [Act.put, List.getElem_toArray, List.getElem_cons_zero, List.getElem_cons_succ, List.setIfInBounds_toArray, List.set_cons_zero, List.set_cons_succ]
  refine wpAnyH_take (i := 65) (v := ?_) rfl (by kernel_rfl) (by kernel_rfl) (by kernel_rfl) (fun _ _ _ h => h) (Or.inl ⟨by kernel_rfl, ?hy517⟩) (by assumption) ?ty517
  case hy517 => (intro w hSw; (try dsimp only at hSw); obtain ⟨⟨⟨e0, e1, e2, e3, e4, e5, e6, e7⟩, ⟨f0, f1, f2, f3, f4, f5, f6, f7⟩⟩, hA, hB⟩ := hSw; go_simp; all_goals with_reducible rfl)
  simp only [Act.put, List.getElem_toArray, List.getElem_cons_zero, List.getElem_cons_succ, List.setIfInBounds_toArray, List.set_cons_zero, List.set_cons_succ]
  refine wpAnyH_take (i := 66) (v := ?_) rfl (by kernel_rfl) (by kernel_rfl) (by kernel_rfl) (fun _ _ _ h => h) (Or.inl ⟨by kernel_rfl, ?hy518⟩) (by assumption) ?ty518
  case hy518 => (intro w hSw; (try dsimp only at hSw); obtain ⟨⟨⟨e0, e1, e2, e3, e4, e5, e6, e7⟩, ⟨f0, f1, f2, f3, f4, f5, f6, f7⟩⟩, hA, hB⟩ := hSw; go_simp; all_goals with_reducible rfl)
  simp only [Act.put, List.getElem_toArray, List.getElem_cons_zero, List.getElem_cons_succ, List.setIfInBounds_toArray, List.set_cons_zero, List.set_cons_succ]
  refine wpAnyH_take (i := 67) (v := ?_) rfl (by kernel_rfl) (by kernel_rfl) (by kernel_rfl) (fun _ _ _ h => h) (Or.inl ⟨by kernel_rfl, ?hy519⟩) (by assumption) ?ty519
  case hy519 => (intro w hSw; (try dsimp only at hSw); obtain ⟨⟨⟨e0, e1, e2, e3, e4, e5, e6, e7⟩, ⟨f0, f1, f2, f3, f4, f5, f6, f7⟩⟩, hA, hB⟩ := hSw; go_simp; all_goals with_reducible rfl)
  simp only [Act.put, List.getElem_toArray, List.getElem_cons_zero, List.getElem_cons_succ, List.setIfInBounds_toArray, List.set_cons_zero, List.set_cons_succ]
  refine wpAnyH_take (i := 68) (v := ?_) rfl (by kernel_rfl) (by kernel_rfl) (by kernel_rfl) (fun _ _ _ h => h) (Or.inl ⟨by kernel_rfl, ?hy520⟩) (by assumption) ?ty520
  case hy520 => (intro w hSw; (try dsimp only at hSw); obtain ⟨⟨⟨e0, e1, e2, e3, e4, e5, e6, e7⟩, ⟨f0, f1, f2, f3, f4, f5, f6, f7⟩⟩, hA, hB⟩ := hSw; go_simp; all_goals with_reducible rfl)
  simp only [Act.put, List.getElem_toArray, List.getElem_cons_zero, List.getElem_cons_succ, List.setIfInBounds_toArray, List.set_cons_zero, List.set_cons_succ]
  refine wpAnyH_take (i := 69) (v := ?_) rfl (by kernel_rfl) (by kernel_rfl) (by kernel_rfl) (fun _ _ _ h => h) (Or.inl ⟨by kernel_rfl, ?hy521⟩) (by assumption) ?ty521
  case hy521 => (intro w hSw; (try dsimp only at hSw); obtain ⟨⟨⟨e0, e1, e2, e3, e4, e5, e6, e7⟩, ⟨f0, f1, f2, f3, f4, f5, f6, f7⟩⟩, hA, hB⟩ := hSw; have hrun := run_str (cap := k2) hA.1 hA.2.2.2.2.1; dsimp only at hrun; go_simp; all_goals with_reducible rfl)
  simp only [Act.put, List.getElem_toArray, List.getElem_cons_zero, List.getElem_cons_succ, List.setIfInBounds_toArray, List.set_cons_zero, List.set_cons_succ]
  refine wpAnyH_take (i := 70) (v := ?_) rfl (by kernel_rfl) (by kernel_rfl) (by kernel_rfl) (fun _ _ _ h => h) (Or.inl ⟨by kernel_rfl, ?hy522⟩) (by assumption) ?ty522
  case hy522 => (intro w hSw; (try dsimp only at hSw); obtain ⟨⟨⟨e0, e1, e2, e3, e4, e5, e6, e7⟩, ⟨f0, f1, f2, f3, f4, f5, f6, f7⟩⟩, hA, hB⟩ := hSw; go_simp; all_goals with_reducible rfl)
  simp only [Act.put, List.getElem_toArray, List.getElem_cons_zero, List.getElem_cons_succ, List.setIfInBounds_toArray, List.set_cons_zero, List.set_cons_succ]
  refine wpAnyH_take (i := 71) (v := ?_) rfl (by kernel_rfl) (by kernel_rfl) (by kernel_rfl) (fun _ _ _ h => h) (Or.inl ⟨by kernel_rfl, ?hy523⟩) (by assumption) ?ty523
  case hy523 => (intro w hSw; (try dsimp only at hSw); obtain ⟨⟨⟨e0, e1, e2, e3, e4, e5, e6, e7⟩, ⟨f0, f1, f2, f3, f4, f5, f6, f7⟩⟩, hA, hB⟩ := hSw; go_simp; all_goals with_reducible rfl)
  simp only [Act.put, List.getElem_toArray, List.getElem_cons_zero, List.getElem_cons_succ, List.setIfInBounds_toArray, List.set_cons_zero, List.set_cons_succ]
  refine wpAnyH_take (i := 72) (v := ?_) rfl (by kernel_rfl) (by kernel_rfl) (by kernel_rfl) (fun _ _ _ h => h) (Or.inl ⟨by kernel_rfl, ?hy524⟩) (by assumption) ?ty524
  case hy524 => (intro w hSw; (try dsimp only at hSw); obtain ⟨⟨⟨e0, e1, e2, e3, e4, e5, e6, e7⟩, ⟨f0, f1, f2, f3, f4, f5, f6, f7⟩⟩, hA, hB⟩ := hSw; go_simp; all_goals with_reducible rfl)
  simp only [Act.put, List.getElem_toArray, List.getElem_cons_zero, List.getElem_cons_succ, List.setIfInBounds_toArray, List.set_cons_zero, List.set_cons_succ]
  refine wpAnyH_take (i := 73) (v := ?_) rfl (by kernel_rfl) (by kernel_rfl) (by kernel_rfl) (fun _ _ _ h => h) (Or.inl ⟨by kernel_rfl, ?hy525⟩) (by assumption) ?ty525
  case hy525 => (intro w hSw; (try dsimp only at hSw); obtain ⟨⟨⟨e0, e1, e2, e3, e4, e5, e6, e7⟩, ⟨f0, f1, f2, f3, f4, f5, f6, f7⟩⟩, hA, hB⟩ := hSw; go_simp; all_goals with_reducible rfl)
  simp only [Act.put, List.getElem_toArray, List.getElem_cons_zero, List.getElem_cons_succ, List.setIfInBounds_toArray, List.set_cons_zero, List.set_cons_succ]
  refine wpAnyH_take (i := 74) (v := ?_) rfl (by kernel_rfl) (by kernel_rfl) (by kernel_rfl) (fun _ _ _ h => h) (Or.inl ⟨by kernel_rfl, ?hy526⟩) (by assumption) ?ty526
  case hy526 => (intro w hSw; (try dsimp only at hSw); obtain ⟨⟨⟨e0, e1, e2, e3, e4, e5, e6, e7⟩, ⟨f0, f1, f2, f3, f4, f5, f6, f7⟩⟩, hA, hB⟩ := hSw; have hrun := run_str (cap := k2') hB.1 hB.2.2.2.2.1; dsimp only at hrun; go_simp; all_goals with_reducible rfl)
  simp only [Act.put, List.getElem_toArray, List.getElem_cons_zero, List.getElem_cons_succ, List.setIfInBounds_toArray, List.set_cons_zero, List.set_cons_succ]
  refine wpAnyH_take (i := 75) (v := .bool false) rfl (by kernel_rfl) (by kernel_rfl) (by kernel_rfl) (fun _ _ _ h => h) (Or.inl ⟨by kernel_rfl, ?hy527⟩) (by assumption) ?ty527
  case hy527 => (intro w hSw; (try dsimp only at hSw); obtain ⟨⟨⟨e0, e1, e2, e3, e4, e5, e6, e7⟩, ⟨f0, f1, f2, f3, f4, f5, f6, f7⟩⟩, hA, hB⟩ := hSw; go_simp; first | (simp; done) | (simp [hst]; done) | (all_goals with_reducible rfl) | (simp; omega))
  simp only [Act.put, List.getElem_toArray, List.getElem_cons_zero, List.getElem_cons_succ, List.setIfInBounds_toArray, List.set_cons_zero, List.set_cons_succ]
  refine wpAnyH_take (i := 76) (v := .bool false) rfl (by kernel_rfl) (by kernel_rfl) (by kernel_rfl) (fun _ _ _ h => h) (Or.inl ⟨by kernel_rfl, ?hy528⟩) (by assumption) ?ty528
  case hy528 => (intro w hSw; (try dsimp only at hSw); obtain ⟨⟨⟨e0, e1, e2, e3, e4, e5, e6, e7⟩, ⟨f0, f1, f2, f3, f4, f5, f6, f7⟩⟩, hA, hB⟩ := hSw; go_simp; first | (all_goals with_reducible rfl) | (simp; done) | (simp; omega))
  simp only [Act.put, List.getElem_toArray, List.getElem_cons_zero, List.getElem_cons_succ, List.setIfInBounds_toArray, List.set_cons_zero, List.set_cons_succ]
  refine wpAnyH_take (i := 77) (v := ?_) rfl (by kernel_rfl) (by kernel_rfl) (by kernel_rfl) (fun _ _ _ h => h) (Or.inl ⟨by kernel_rfl, ?hy529⟩) (by assumption) ?ty529
  case hy529 => (intro w hSw; (try dsimp only at hSw); obtain ⟨⟨⟨e0, e1, e2, e3, e4, e5, e6, e7⟩, ⟨f0, f1, f2, f3, f4, f5, f6, f7⟩⟩, hA, hB⟩ := hSw; go_simp; all_goals with_reducible rfl)
  simp only [Act.put, List.getElem_toArray, List.getElem_cons_zero, List.getElem_cons_succ, List.setIfInBounds_toArray, List.set_cons_zero, List.set_cons_succ]
  refine wpAnyH_take (i := 78) (v := ?_) rfl (by kernel_rfl) (by kernel_rfl) (by kernel_rfl) (fun _ _ _ h => h) (Or.inl ⟨by kernel_rfl, ?hy530⟩) (by assumption) ?ty530
  case hy530 => (intro w hSw; (try dsimp only at hSw); obtain ⟨⟨⟨e0, e1, e2, e3, e4, e5, e6, e7⟩, ⟨f0, f1, f2, f3, f4, f5, f6, f7⟩⟩, hA, hB⟩ := hSw; go_simp; all_goals with_reducible rfl)
  simp only [Act.put, List.getElem_toArray, List.getElem_cons_zero, List.getElem_cons_succ, List.setIfInBounds_toArray, List.set_cons_zero, List.set_cons_succ]
  refine wpAnyH_take (i := 79) (v := ?_) rfl (by kernel_rfl) (by kernel_rfl) (by kernel_rfl) (fun _ _ _ h => h) (Or.inl ⟨by kernel_rfl, ?hy531⟩) (by assumption) ?ty531
  case hy531 => (intro w hSw; (try dsimp only at hSw); obtain ⟨⟨⟨e0, e1, e2, e3, e4, e5, e6, e7⟩, ⟨f0, f1, f2, f3, f4, f5, f6, f7⟩⟩, hA, hB⟩ := hSw; go_simp; all_goals with_reducible rfl)
  simp only [Act.put, List.getElem_toArray, List.getElem_cons_zero, List.getElem_cons_succ, List.setIfInBounds_toArray, List.set_cons_zero, List.set_cons_succ]
  refine wpAnyH_take (i := 80) (v := ?_) rfl (by kernel_rfl) (by kernel_rfl) (by kernel_rfl) (fun _ _ _ h => h) (Or.inl ⟨by kernel_rfl, ?hy532⟩) (by assumption) ?ty532
  case hy532 => (intro w hSw; (try dsimp only at hSw); obtain ⟨⟨⟨e0, e1, e2, e3, e4, e5, e6, e7⟩, ⟨f0, f1, f2, f3, f4, f5, f6, f7⟩⟩, hA, hB⟩ := hSw; go_simp; all_goals with_reducible rfl)
  simp only [Act.put, List.getElem_toArray, List.getElem_cons_zero, List.getElem_cons_succ, List.setIfInBounds_toArray, List.set_cons_zero, List.set_cons_succ]
  refine wpAnyH_take (i := 81) (v := ?_) rfl (by kernel_rfl) (by kernel_rfl) (by kernel_rfl) (fun _ _ _ h => h) (Or.inl ⟨by kernel_rfl, ?hy533⟩) (by assumption) ?ty533
  case hy533 => (intro w hSw; (try dsimp only at hSw); obtain ⟨⟨⟨e0, e1, e2, e3, e4, e5, e6, e7⟩, ⟨f0, f1, f2, f3, f4, f5, f6, f7⟩⟩, hA, hB⟩ := hSw; go_simp; all_goals with_reducible rfl)
  simp only [Act.put, List.getElem_toArray, List.getElem_cons_zero, List.getElem_cons_succ, List.setIfInBounds_toArray, List.set_cons_zero, List.set_cons_succ]
  refine wpAnyH_take (i := 82) (v := ?_) rfl (by kernel_rfl) (by kernel_rfl) (by kernel_rfl) (fun _ _ _ h => h) (Or.inl ⟨by kernel_rfl, ?hy534⟩) (by assumption) ?ty534
  case hy534 => (intro w hSw; (try dsimp only at hSw); obtain ⟨⟨⟨e0, e1, e2, e3, e4, e5, e6, e7⟩, ⟨f0, f1, f2, f3, f4, f5, f6, f7⟩⟩, hA, hB⟩ := hSw; go_simp; all_goals with_reducible rfl)
  simp only [Act.put, List.getElem_toArray, List.getElem_cons_zero, List.getElem_cons_succ, List.setIfInBounds_toArray, List.set_cons_zero, List.set_cons_succ]
  refine wpAnyH_take (i := 83) (v := ?_) rfl (by kernel_rfl) (by kernel_rfl) (by kernel_rfl) (fun _ _ _ h => h) (Or.inl ⟨by kernel_rfl, ?hy535⟩) (by assumption) ?ty535
  case hy535 => (intro w hSw; (try dsimp only at hSw); obtain ⟨⟨⟨e0, e1, e2, e3, e4, e5, e6, e7⟩, ⟨f0, f1, f2, f3, f4, f5, f6, f7⟩⟩, hA, hB⟩ := hSw; go_simp; all_goals with_reducible rfl)
  simp only [Act.put, List.getElem_toArray, List.getElem_cons_zero, List.getElem_cons_succ, List.setIfInBounds_toArray, List.set_cons_zero, List.set_cons_succ]
  refine wpAnyH_take (i := 84) (v := ?_) rfl (by kernel_rfl) (by kernel_rfl) (by kernel_rfl) (fun _ _ _ h => h) (Or.inl ⟨by kernel_rfl, ?hy536⟩) (by assumption) ?ty536
  case hy536 => (intro w hSw; (try dsimp only at hSw); obtain ⟨⟨⟨e0, e1, e2, e3, e4, e5, e6, e7⟩, ⟨f0, f1, f2, f3, f4, f5, f6, f7⟩⟩, hA, hB⟩ := hSw; go_simp; all_goals with_reducible rfl)
  simp only [Act.put, List.getElem_toArray, List.getElem_cons_zero, List.getElem_cons_succ, List.setIfInBounds_toArray, List.set_cons_zero, List.set_cons_succ]
  refine wpAnyH_take (i := 85) (v := ?_) rfl (by kernel_rfl) (by kernel_rfl) (by kernel_rfl) (fun _ _ _ h => h) (Or.inl ⟨by kernel_rfl, ?hy537⟩) (by assumption) ?ty537
  case hy537 => (intro w hSw; (try dsimp only at hSw); obtain ⟨⟨⟨e0, e1, e2, e3, e4, e5, e6, e7⟩, ⟨f0, f1, f2, f3, f4, f5, f6, f7⟩⟩, hA, hB⟩ := hSw; go_simp; all_goals with_reducible rfl)
  simp only [Act.put, List.getElem_toArray, List.getElem_cons_zero, List.getElem_cons_succ, List.setIfInBounds_toArray, List.set_cons_zero, List.set_cons_succ]
  refine wpAnyH_take (i := 86) (v := ?_) rfl (by kernel_rfl) (by kernel_rfl) (by kernel_rfl) (fun _ _ _ h => h) (Or.inl ⟨by kernel_rfl, ?hy538⟩) (by assumption) ?ty538
  case hy538 => (intro w hSw; (try dsimp only at hSw); obtain ⟨⟨⟨e0, e1, e2, e3, e4, e5, e6, e7⟩, ⟨f0, f1, f2, f3, f4, f5, f6, f7⟩⟩, hA, hB⟩ := hSw; go_simp; all_goals with_reducible rfl)
  simp only [Act.put, List.getElem_toArray, List.getElem_cons_zero, List.getElem_cons_succ, List.setIfInBounds_toArray, List.set_cons_zero, List.set_cons_succ]
  refine wpAnyH_take (i := 87) (v := ?_) rfl (by kernel_rfl) (by kernel_rfl) (by kernel_rfl) (fun _ _ _ h => h) (Or.inl ⟨by kernel_rfl, ?hy539⟩) (by assumption) ?ty539
  case hy539 => (intro w hSw; (try dsimp only at hSw); obtain ⟨⟨⟨e0, e1, e2, e3, e4, e5, e6, e7⟩, ⟨f0, f1, f2, f3, f4, f5, f6, f7⟩⟩, hA, hB⟩ := hSw; go_simp; all_goals with_reducible rfl)
  simp only [Act.put, List.getElem_toArray, List.getElem_cons_zero, List.getElem_cons_succ, List.setIfInBounds_toArray, List.set_cons_zero, List.set_cons_succ]
  refine wpAnyH_take (i := 88) (v := .bool false) rfl (by kernel_rfl) (by kernel_rfl) (by kernel_rfl) (fun _ _ _ h => h) (Or.inl ⟨by kernel_rfl, ?hy540⟩) (by assumption) ?ty540
  case hy540 => (intro w hSw; (try dsimp only at hSw); obtain ⟨⟨⟨e0, e1, e2, e3, e4, e5, e6, e7⟩, ⟨f0, f1, f2, f3, f4, f5, f6, f7⟩⟩, hA, hB⟩ := hSw; go_simp; first | (all_goals with_reducible rfl) | (simp; done) | (simp; omega))
  simp only [Act.put, List.getElem_toArray, List.getElem_cons_zero, List.getElem_cons_succ, List.setIfInBounds_toArray, List.set_cons_zero, List.set_cons_succ]
  refine wpAnyH_take (i := 89) (v := .bool false) rfl (by kernel_rfl) (by kernel_rfl) (by kernel_rfl) (fun _ _ _ h => h) (Or.inl ⟨by kernel_rfl, ?hy541⟩) (by assumption) ?ty541
  case hy541 => (intro w hSw; (try dsimp only at hSw); obtain ⟨⟨⟨e0, e1, e2, e3, e4, e5, e6, e7⟩, ⟨f0, f1, f2, f3, f4, f5, f6, f7⟩⟩, hA, hB⟩ := hSw; go_simp; first | (all_goals with_reducible rfl) | (simp; done) | (simp; omega))
  simp only [Act.put, List.getElem_toArray, List.getElem_cons_zero, List.getElem_cons_succ, List.setIfInBounds_toArray, List.set_cons_zero, List.set_cons_succ]
  refine wpAnyH_done (by kernel_rfl) ?_ _
  clear hHeld hs hs' hb hb' hc hd
  go_wp2
  go_loopw [5] (fun i wr => ∃ j : Nat, j ≤ n ∧ i = .int .i64 j ∧ (∀ q, q < j → nthI au q = nthI bu q) ∧ Below w.heap.size w wr) (fun i _ => n - (intOf i).toNat)
  case atStart => exact ⟨0, Nat.zero_le _, rfl, fun q hq => absurd hq (Nat.not_lt_zero _), hB0⟩
  case round =>
    obtain ⟨j, hj, rfl, hall, hbel⟩ := hrel
    have c3 := (hbel.cell (p := ⟨g, o + 3, none⟩) (World.block_lt_of_cell? w _ c3)).trans c3
    have d3 := (hbel.cell (p := ⟨h, k + 3, none⟩) (World.block_lt_of_cell? w _ d3)).trans d3
    by_cases hjn : j < n
    · have hji : (j : Int) < (n : Int) := by omega
      obtain ⟨g1, off, rfl, hglt, hcell⟩ := (hr.below hbel).at_ (by have := HL.out; omega)
      obtain ⟨g2, off', rfl, hglt', hcell'⟩ := (hr'.below hbel).at_ (by have := HL.out; omega)
      have x0 := hcell j (by have := HL.out; omega)
      have y0 := hcell' j (by have := HL.out; omega)
      have HY : Hid (nthI au j = nthI bu j → ∀ q, q < j + 1 → nthI au q = nthI bu q) := fun h q hq => by
        rcases Nat.lt_or_ge q j with h' | h'
        · exact hall q h'
        · obtain rfl : q = j := by omega
          exact h
      have HN : Hid (nthI au j ≠ nthI bu j → r = false) := fun h => HB.out j hjn h
      clear hall hcell hcell'
      generalize nthI au j = y at *
      generalize nthI bu j = z at *
      by_cases hyz : y = z
      · have HM : Hid (_) := HY.out hyz
        clear HY HN
        subst hyz
        go_wp2_with fail
        refine wp_region_held_drew (S := fun w' => (w'.cell? ⟨g, o + 3, none⟩ = some (.slice (some ⟨g1, off, none⟩) n cap) ∧ w'.cell? ⟨h, k + 3, none⟩ = some (.slice (some ⟨g2, off', none⟩) n cap')) ∧ w'.cell? ⟨g1, off + j, none⟩ = some (.int .i64 y) ∧ w'.cell? ⟨g2, off' + j, none⟩ = some (.int .i64 y)) (by kernel_rfl) ?hS542 (fun hHeld => ?_)
        case hS542 => exact ⟨⟨c3, d3⟩, x0, y0⟩
        refine wpAnyH_take (i := 0) (v := ?_) rfl (by kernel_rfl) (by kernel_rfl) (by kernel_rfl) (fun _ _ _ h => h) (Or.inl ⟨by rfl, ?hy543⟩) (by assumption) ?ty543
        case hy543 => (intro w hSw; (try dsimp only at hSw); obtain ⟨⟨s0, s1⟩, s2, s3⟩ := hSw; go_simp; all_goals with_reducible rfl)
        simp only [Act.put, List.getElem_toArray, List.getElem_cons_zero, List.setIfInBounds_toArray, List.set_cons_zero, List.set_cons_succ]
        refine wpAnyH_take (i := 1) (v := ?_) rfl (by kernel_rfl) (by kernel_rfl) (by kernel_rfl) (fun _ _ _ h => h) (Or.inl ⟨by rfl, ?hy544⟩) (by assumption) ?ty544
        case hy544 => (intro w hSw; (try dsimp only at hSw); obtain ⟨⟨s0, s1⟩, s2, s3⟩ := hSw; go_simp; all_goals with_reducible rfl)
        simp only [Act.put, List.getElem_toArray, List.getElem_cons_zero, List.getElem_cons_succ, List.setIfInBounds_toArray, List.set_cons_zero, List.set_cons_succ]
        refine wpAnyH_take (i := 2) (v := ?_) rfl (by kernel_rfl) (by kernel_rfl) (by kernel_rfl) (fun _ _ _ h => h) (Or.inl ⟨by rfl, ?hy545⟩) (by assumption) ?ty545
        case hy545 => (intro w hSw; (try dsimp only at hSw); obtain ⟨⟨s0, s1⟩, s2, s3⟩ := hSw; go_simp; all_goals with_reducible rfl)
        simp only [Act.put, List.getElem_toArray, List.getElem_cons_zero, List.getElem_cons_succ, List.setIfInBounds_toArray, List.set_cons_zero, List.set_cons_succ]
        refine wpAnyH_take (i := 3) (v := ?_) rfl (by kernel_rfl) (by kernel_rfl) (by kernel_rfl) (fun _ _ _ h => h) (Or.inl ⟨by rfl, ?hy546⟩) (by assumption) ?ty546
        case hy546 => (intro w hSw; (try dsimp only at hSw); obtain ⟨⟨s0, s1⟩, s2, s3⟩ := hSw; go_simp; all_goals with_reducible rfl)
        simp only [Act.put, List.getElem_toArray, List.getElem_cons_zero, List.getElem_cons_succ, List.setIfInBounds_toArray, List.set_cons_zero, List.set_cons_succ]
        refine wpAnyH_take (i := 4) (v := ?_) rfl (by kernel_rfl) (by kernel_rfl) (by kernel_rfl) (fun _ _ _ h => h) (Or.inl ⟨by rfl, ?hy547⟩) (by assumption) ?ty547
        case hy547 => (intro w hSw; (try dsimp only at hSw); obtain ⟨⟨s0, s1⟩, s2, s3⟩ := hSw; go_simp; all_goals with_reducible rfl)
        simp only [Act.put, List.getElem_toArray, List.getElem_cons_zero, List.getElem_cons_succ, List.setIfInBounds_toArray, List.set_cons_zero, List.set_cons_succ]
        refine wpAnyH_take (i := 5) (v := ?_) rfl (by kernel_rfl) (by kernel_rfl) (by kernel_rfl) (fun _ _ _ h => h) (Or.inl ⟨by rfl, ?hy548⟩) (by assumption) ?ty548
        case hy548 => (intro w hSw; (try dsimp only at hSw); obtain ⟨⟨s0, s1⟩, s2, s3⟩ := hSw; go_simp; all_goals with_reducible rfl)
        simp only [Act.put, List.getElem_toArray, List.getElem_cons_zero, List.getElem_cons_succ, List.setIfInBounds_toArray, List.set_cons_zero, List.set_cons_succ]
        refine wpAnyH_take (i := 6) (v := ?_) rfl (by kernel_rfl) (by kernel_rfl) (by kernel_rfl) (fun _ _ _ h => h) (Or.inl ⟨by rfl, ?hy549⟩) (by assumption) ?ty549
        case hy549 => (intro w hSw; (try dsimp only at hSw); obtain ⟨⟨s0, s1⟩, s2, s3⟩ := hSw; go_simp; all_goals with_reducible rfl)
        simp only [Act.put, List.getElem_toArray, List.getElem_cons_zero, List.getElem_cons_succ, List.setIfInBounds_toArray, List.set_cons_zero, List.set_cons_succ]
        refine wpAnyH_take (i := 7) (v := ?_) rfl (by kernel_rfl) (by kernel_rfl) (by kernel_rfl) (fun _ _ _ h => h) (Or.inl ⟨by rfl, ?hy550⟩) (by assumption) ?ty550
        case hy550 => (intro w hSw; (try dsimp only at hSw); obtain ⟨⟨s0, s1⟩, s2, s3⟩ := hSw; go_simp; all_goals with_reducible rfl)
        simp only [Act.put, List.getElem_toArray, List.getElem_cons_zero, List.getElem_cons_succ, List.setIfInBounds_toArray, List.set_cons_zero, List.set_cons_succ]
        refine wpAnyH_take (i := 8) (v := ?_) rfl (by kernel_rfl) (by kernel_rfl) (by kernel_rfl) (fun _ _ _ h => h) (Or.inl ⟨by rfl, ?hy551⟩) (by assumption) ?ty551
        case hy551 => (intro w hSw; (try dsimp only at hSw); obtain ⟨⟨s0, s1⟩, s2, s3⟩ := hSw; go_simp; all_goals with_reducible rfl)
        simp only [Act.put, List.getElem_toArray, List.getElem_cons_zero, List.getElem_cons_succ, List.setIfInBounds_toArray, List.set_cons_zero, List.set_cons_succ]
        refine wpAnyH_take (i := 9) (v := ?_) rfl (by kernel_rfl) (by kernel_rfl) (by kernel_rfl) (fun _ _ _ h => h) (Or.inl ⟨by rfl, ?hy552⟩) (by assumption) ?ty552
        case hy552 => (intro w hSw; (try dsimp only at hSw); obtain ⟨⟨s0, s1⟩, s2, s3⟩ := hSw; go_simp; all_goals with_reducible rfl)
        simp only [Act.put, List.getElem_toArray, List.getElem_cons_zero, List.getElem_cons_succ, List.setIfInBounds_toArray, List.set_cons_zero, List.set_cons_succ]
        refine wpAnyH_take (i := 10) (v := ?_) rfl (by kernel_rfl) (by kernel_rfl) (by kernel_rfl) (fun _ _ _ h => h) (Or.inl ⟨by rfl, ?hy553⟩) (by assumption) ?ty553
        case hy553 => (intro w hSw; (try dsimp only at hSw); obtain ⟨⟨s0, s1⟩, s2, s3⟩ := hSw; go_simp; all_goals with_reducible rfl)
        simp only [Act.put, List.getElem_toArray, List.getElem_cons_zero, List.getElem_cons_succ, List.setIfInBounds_toArray, List.set_cons_zero, List.set_cons_succ]
        refine wpAnyH_take (i := 11) (v := ?_) rfl (by kernel_rfl) (by kernel_rfl) (by kernel_rfl) (fun _ _ _ h => h) (Or.inl ⟨by rfl, ?hy554⟩) (by assumption) ?ty554
        case hy554 => (intro w hSw; (try dsimp only at hSw); obtain ⟨⟨s0, s1⟩, s2, s3⟩ := hSw; go_simp; all_goals with_reducible rfl)
        simp only [Act.put, List.getElem_toArray, List.getElem_cons_zero, List.getElem_cons_succ, List.setIfInBounds_toArray, List.set_cons_zero, List.set_cons_succ]
        refine wpAnyH_take (i := 12) (v := ?_) rfl (by kernel_rfl) (by kernel_rfl) (by kernel_rfl) (fun _ _ _ h => h) (Or.inl ⟨by rfl, ?hy555⟩) (by assumption) ?ty555
        case hy555 => (intro w hSw; (try dsimp only at hSw); obtain ⟨⟨s0, s1⟩, s2, s3⟩ := hSw; go_simp; all_goals with_reducible rfl)
        simp only [Act.put, List.getElem_toArray, List.getElem_cons_zero, List.getElem_cons_succ, List.setIfInBounds_toArray, List.set_cons_zero, List.set_cons_succ]
        refine wpAnyH_take (i := 13) (v := ?_) rfl (by kernel_rfl) (by kernel_rfl) (by kernel_rfl) (fun _ _ _ h => h) (Or.inl ⟨by rfl, ?hy556⟩) (by assumption) ?ty556
        case hy556 => (intro w hSw; (try dsimp only at hSw); obtain ⟨⟨s0, s1⟩, s2, s3⟩ := hSw; go_simp; all_goals with_reducible rfl)
        simp only [Act.put, List.getElem_toArray, List.getElem_cons_zero, List.getElem_cons_succ, List.setIfInBounds_toArray, List.set_cons_zero, List.set_cons_succ]
        refine wpAnyH_take (i := 14) (v := .bool false) rfl (by kernel_rfl) (by kernel_rfl) (by kernel_rfl) (fun _ _ _ h => h) (Or.inl ⟨by rfl, ?hy557⟩) (by assumption) ?ty557
        case hy557 => (intro w hSw; (try dsimp only at hSw); obtain ⟨⟨s0, s1⟩, s2, s3⟩ := hSw; go_simp; first | (all_goals with_reducible rfl) | (simp; done) | (simp; omega))
        simp only [Act.put, List.getElem_toArray, List.getElem_cons_zero, List.getElem_cons_succ, List.setIfInBounds_toArray, List.set_cons_zero, List.set_cons_succ]
        refine wpAnyH_done (by kernel_rfl) ?_ _
        clear hHeld
        go_wp2
        go_roundw
        case rel => exact ⟨j + 1, by omega, by go_num, HM.out, hbel.trans (Below.refl _ _).drew⟩
        case measure => simp [intOf]; omega
      · have HM : Hid (r = false) := HN.out hyz
        clear HY HN
        go_wp2_with fail
        refine wp_region_held_drew (S := fun w' => (w'.cell? ⟨g, o + 3, none⟩ = some (.slice (some ⟨g1, off, none⟩) n cap) ∧ w'.cell? ⟨h, k + 3, none⟩ = some (.slice (some ⟨g2, off', none⟩) n cap')) ∧ w'.cell? ⟨g1, off + j, none⟩ = some (.int .i64 y) ∧ w'.cell? ⟨g2, off' + j, none⟩ = some (.int .i64 z)) (by kernel_rfl) ?hS558 (fun hHeld => ?_)
        case hS558 => exact ⟨⟨c3, d3⟩, x0, y0⟩
        refine wpAnyH_take (i := 0) (v := ?_) rfl (by kernel_rfl) (by kernel_rfl) (by kernel_rfl) (fun _ _ _ h => h) (Or.inl ⟨by rfl, ?hy559⟩) (by assumption) ?ty559
        case hy559 => (intro w hSw; (try dsimp only at hSw); obtain ⟨⟨s0, s1⟩, s2, s3⟩ := hSw; go_simp; all_goals with_reducible rfl)
        simp only [Act.put, List.getElem_toArray, List.getElem_cons_zero, List.setIfInBounds_toArray, List.set_cons_zero, List.set_cons_succ]
        refine wpAnyH_take (i := 1) (v := ?_) rfl (by kernel_rfl) (by kernel_rfl) (by kernel_rfl) (fun _ _ _ h => h) (Or.inl ⟨by rfl, ?hy560⟩) (by assumption) ?ty560
        case hy560 => (intro w hSw; (try dsimp only at hSw); obtain ⟨⟨s0, s1⟩, s2, s3⟩ := hSw; go_simp; all_goals with_reducible rfl)
        simp only [Act.put, List.getElem_toArray, List.getElem_cons_zero, List.getElem_cons_succ, List.setIfInBounds_toArray, List.set_cons_zero, List.set_cons_succ]
        refine wpAnyH_take (i := 2) (v := ?_) rfl (by kernel_rfl) (by kernel_rfl) (by kernel_rfl) (fun _ _ _ h => h) (Or.inl ⟨by rfl, ?hy561⟩) (by assumption) ?ty561
        case hy561 => (intro w hSw; (try dsimp only at hSw); obtain ⟨⟨s0, s1⟩, s2, s3⟩ := hSw; go_simp; all_goals with_reducible rfl)
        simp only [Act.put, List.getElem_toArray, List.getElem_cons_zero, List.getElem_cons_succ, List.setIfInBounds_toArray, List.set_cons_zero, List.set_cons_succ]
        refine wpAnyH_take (i := 3) (v := ?_) rfl (by kernel_rfl) (by kernel_rfl) (by kernel_rfl) (fun _ _ _ h => h) (Or.inl ⟨by rfl, ?hy562⟩) (by assumption) ?ty562
        case hy562 => (intro w hSw; (try dsimp only at hSw); obtain ⟨⟨s0, s1⟩, s2, s3⟩ := hSw; go_simp; all_goals with_reducible rfl)
        simp only [Act.put, List.getElem_toArray, List.getElem_cons_zero, List.getElem_cons_succ, List.setIfInBounds_toArray, List.set_cons_zero, List.set_cons_succ]
        refine wpAnyH_take (i := 4) (v := ?_) rfl (by kernel_rfl) (by kernel_rfl) (by kernel_rfl) (fun _ _ _ h => h) (Or.inl ⟨by rfl, ?hy563⟩) (by assumption) ?ty563
        case hy563 => (intro w hSw; (try dsimp only at hSw); obtain ⟨⟨s0, s1⟩, s2, s3⟩ := hSw; go_simp; all_goals with_reducible rfl)
        simp only [Act.put, List.getElem_toArray, List.getElem_cons_zero, List.getElem_cons_succ, List.setIfInBounds_toArray, List.set_cons_zero, List.set_cons_succ]
        refine wpAnyH_take (i := 5) (v := ?_) rfl (by kernel_rfl) (by kernel_rfl) (by kernel_rfl) (fun _ _ _ h => h) (Or.inl ⟨by rfl, ?hy564⟩) (by assumption) ?ty564
        case hy564 => (intro w hSw; (try dsimp only at hSw); obtain ⟨⟨s0, s1⟩, s2, s3⟩ := hSw; go_simp; all_goals with_reducible rfl)
        simp only [Act.put, List.getElem_toArray, List.getElem_cons_zero, List.getElem_cons_succ, List.setIfInBounds_toArray, List.set_cons_zero, List.set_cons_succ]
        refine wpAnyH_take (i := 6) (v := ?_) rfl (by kernel_rfl) (by kernel_rfl) (by kernel_rfl) (fun _ _ _ h => h) (Or.inl ⟨by rfl, ?hy565⟩) (by assumption) ?ty565
        case hy565 => (intro w hSw; (try dsimp only at hSw); obtain ⟨⟨s0, s1⟩, s2, s3⟩ := hSw; go_simp; all_goals with_reducible rfl)
        simp only [Act.put, List.getElem_toArray, List.getElem_cons_zero, List.getElem_cons_succ, List.setIfInBounds_toArray, List.set_cons_zero, List.set_cons_succ]
        refine wpAnyH_take (i := 7) (v := ?_) rfl (by kernel_rfl) (by kernel_rfl) (by kernel_rfl) (fun _ _ _ h => h) (Or.inl ⟨by rfl, ?hy566⟩) (by assumption) ?ty566
        case hy566 => (intro w hSw; (try dsimp only at hSw); obtain ⟨⟨s0, s1⟩, s2, s3⟩ := hSw; go_simp; all_goals with_reducible rfl)
        simp only [Act.put, List.getElem_toArray, List.getElem_cons_zero, List.getElem_cons_succ, List.setIfInBounds_toArray, List.set_cons_zero, List.set_cons_succ]
        refine wpAnyH_take (i := 8) (v := ?_) rfl (by kernel_rfl) (by kernel_rfl) (by kernel_rfl) (fun _ _ _ h => h) (Or.inl ⟨by rfl, ?hy567⟩) (by assumption) ?ty567
        case hy567 => (intro w hSw; (try dsimp only at hSw); obtain ⟨⟨s0, s1⟩, s2, s3⟩ := hSw; go_simp; all_goals with_reducible rfl)
        simp only [Act.put, List.getElem_toArray, List.getElem_cons_zero, List.getElem_cons_succ, List.setIfInBounds_toArray, List.set_cons_zero, List.set_cons_succ]
        refine wpAnyH_take (i := 9) (v := ?_) rfl (by kernel_rfl) (by kernel_rfl) (by kernel_rfl) (fun _ _ _ h => h) (Or.inl ⟨by rfl, ?hy568⟩) (by assumption) ?ty568
        case hy568 => (intro w hSw; (try dsimp only at hSw); obtain ⟨⟨s0, s1⟩, s2, s3⟩ := hSw; go_simp; all_goals with_reducible rfl)
        simp only [Act.put, List.getElem_toArray, List.getElem_cons_zero, List.getElem_cons_succ, List.setIfInBounds_toArray, List.set_cons_zero, List.set_cons_succ]
        refine wpAnyH_take (i := 10) (v := ?_) rfl (by kernel_rfl) (by kernel_rfl) (by kernel_rfl) (fun _ _ _ h => h) (Or.inl ⟨by rfl, ?hy569⟩) (by assumption) ?ty569
        case hy569 => (intro w hSw; (try dsimp only at hSw); obtain ⟨⟨s0, s1⟩, s2, s3⟩ := hSw; go_simp; all_goals with_reducible rfl)
        simp only [Act.put, List.getElem_toArray, List.getElem_cons_zero, List.getElem_cons_succ, List.setIfInBounds_toArray, List.set_cons_zero, List.set_cons_succ]
        refine wpAnyH_take (i := 11) (v := ?_) rfl (by kernel_rfl) (by kernel_rfl) (by kernel_rfl) (fun _ _ _ h => h) (Or.inl ⟨by rfl, ?hy570⟩) (by assumption) ?ty570
        case hy570 => (intro w hSw; (try dsimp only at hSw); obtain ⟨⟨s0, s1⟩, s2, s3⟩ := hSw; go_simp; all_goals with_reducible rfl)
        simp only [Act.put, List.getElem_toArray, List.getElem_cons_zero, List.getElem_cons_succ, List.setIfInBounds_toArray, List.set_cons_zero, List.set_cons_succ]
        refine wpAnyH_take (i := 12) (v := ?_) rfl (by kernel_rfl) (by kernel_rfl) (by kernel_rfl) (fun _ _ _ h => h) (Or.inl ⟨by rfl, ?hy571⟩) (by assumption) ?ty571
        case hy571 => (intro w hSw; (try dsimp only at hSw); obtain ⟨⟨s0, s1⟩, s2, s3⟩ := hSw; go_simp; all_goals with_reducible rfl)
        simp only [Act.put, List.getElem_toArray, List.getElem_cons_zero, List.getElem_cons_succ, List.setIfInBounds_toArray, List.set_cons_zero, List.set_cons_succ]
        refine wpAnyH_take (i := 13) (v := ?_) rfl (by kernel_rfl) (by kernel_rfl) (by kernel_rfl) (fun _ _ _ h => h) (Or.inl ⟨by rfl, ?hy572⟩) (by assumption) ?ty572
        case hy572 => (intro w hSw; (try dsimp only at hSw); obtain ⟨⟨s0, s1⟩, s2, s3⟩ := hSw; go_simp; all_goals with_reducible rfl)
        simp only [Act.put, List.getElem_toArray, List.getElem_cons_zero, List.getElem_cons_succ, List.setIfInBounds_toArray, List.set_cons_zero, List.set_cons_succ]
        refine wpAnyH_take (i := 14) (v := .bool true) rfl (by kernel_rfl) (by kernel_rfl) (by kernel_rfl) (fun _ _ _ h => h) (Or.inl ⟨by rfl, ?hy573⟩) (by assumption) ?ty573
        case hy573 => (intro w hSw; (try dsimp only at hSw); obtain ⟨⟨s0, s1⟩, s2, s3⟩ := hSw; go_simp; first | (all_goals with_reducible rfl) | (simp; done) | (simp; omega))
        simp only [Act.put, List.getElem_toArray, List.getElem_cons_zero, List.getElem_cons_succ, List.setIfInBounds_toArray, List.set_cons_zero, List.set_cons_succ]
        refine wpAnyH_done (by kernel_rfl) ?_ _
        clear hHeld
        go_wp2
        go_ret
        exact ⟨by rw [HM.out]; rfl, hbel.trans (Below.refl _ _).drew⟩
    · have hji : ¬ (j : Int) < (n : Int) := by omega
      have HM : Hid (r = true) := HA.out (fun q hq => hall q (by omega))
      clear hall
      go_wp2
      go_ret
      exact ⟨by rw [HM.out]; rfl, hbel⟩

set_option maxHeartbeats 1600000 in
set_option maxRecDepth 100000 in
theorem specSameOps_any (l l' : List OpR) (s s' : SlQ) {lo lo' : Nat} (w : World) (hs : IsOs lo w s l) (hs' : IsOs lo' w s' l') :
    Calls Try.prog 5 #[slW s, slW s'] w fun e w' => e = .returned (.bool (smL l l')) ∧ Below w.heap.size w w' := by
  obtain ⟨a, n, cap⟩ := s
  obtain ⟨a', n', cap'⟩ := s'
  obtain ⟨hl, hnc, hcm, hr⟩ := hs
  obtain ⟨hl', hnc', hcm', hr'⟩ := hs'
  dsimp only [slW] at *
  unfold maxLen at hcm hcm'
  have HL : Hid (l.length = n ∧ l'.length = n') := ⟨hl, hl'⟩
  have HB : Hid (∀ k, k < n → smO (nthO l k) (nthO l' k) = false → smL l l' = false) := fun k hk h => eqH_bad (by rw [hl]; exact hk) h
  have HE : Hid (n ≠ n' → smL l l' = false) := fun h => eqH_ne (by rw [hl, hl']; exact h)
  have HA : Hid (n = n' → (∀ k, k < n → smO (nthO l k) (nthO l' k) = true) → smL l l' = true) := fun h h' => eqH_all (by rw [hl, hl']; exact h) (fun k hk => h' k (by omega))
  generalize smL l l' = r at *
  clear hl hl'
  go_enter Try.func5, Try.ntmps5
  by_cases hnn : n = n'
  · subst hnn
    go_wp2
    go_loopw [5] (fun i wr => ∃ k : Nat, k ≤ n ∧ i = .int .i64 k ∧ (∀ j, j < k → smO (nthO l j) (nthO l' j) = true) ∧ Below w.heap.size w wr) (fun i _ => n - (intOf i).toNat)
    case atStart => exact ⟨0, Nat.zero_le _, rfl, fun j hj => absurd hj (Nat.not_lt_zero _), Below.refl _ _⟩
    case round =>
      obtain ⟨k, hk, rfl, hall, hbel⟩ := hrel
      by_cases hkn : k < n
      · have hki : (k : Int) < (n : Int) := by omega
        obtain ⟨g, off, rfl, -, hglt, hcell⟩ := (hr.below hbel).at_ (by have := HL.out; omega)
        obtain ⟨g', off', rfl, -, hglt', hcell'⟩ := (hr'.below hbel).at_ (by have := HL.out; omega)
        obtain ⟨q, hc, hIq⟩ := hcell k (by have := HL.out; omega)
        obtain ⟨q', hc', hIq'⟩ := hcell' k (by have := HL.out; omega)
        have HY : Hid (smO (nthO l k) (nthO l' k) = true → ∀ j, j < k + 1 → smO (nthO l j) (nthO l' j) = true) := fun h j hj => by
          rcases Nat.lt_or_ge j k with h' | h'
          · exact hall j h'
          · obtain rfl : j = k := by omega
            exact h
        have HN : Hid (smO (nthO l k) (nthO l' k) = false → r = false) := fun h => HB.out k hkn h
        have HC : Hid (∀ w' : World, Below wr.heap.size wr w' → Calls Try.prog 10 #[.pointer (some ⟨g, off + k * 8, none⟩), .pointer (some ⟨g', off' + k * 8, none⟩)] w' fun e w'' => e = .returned (.bool (smO (nthO l k) (nthO l' k))) ∧ Below w'.heap.size w' w'') := fun w' hb => l8SameOp_any (nthO l k) (nthO l' k) q q' g (off + k * 8) g' (off' + k * 8) w' (hIq.below hb) (hIq'.below hb) (by obtain ⟨c0, c1, c2, c3, c4, c5, c6, c7⟩ := hc; exact ⟨(hb.cell (p := ⟨g, off + k * 8, none⟩) hglt).trans c0, (hb.cell (p := ⟨g, off + k * 8 + 1, none⟩) hglt).trans c1, (hb.cell (p := ⟨g, off + k * 8 + 2, none⟩) hglt).trans c2, (hb.cell (p := ⟨g, off + k * 8 + 3, none⟩) hglt).trans c3, (hb.cell (p := ⟨g, off + k * 8 + 4, none⟩) hglt).trans c4, (hb.cell (p := ⟨g, off + k * 8 + 5, none⟩) hglt).trans c5, (hb.cell (p := ⟨g, off + k * 8 + 6, none⟩) hglt).trans c6, (hb.cell (p := ⟨g, off + k * 8 + 7, none⟩) hglt).trans c7⟩) (by obtain ⟨c0, c1, c2, c3, c4, c5, c6, c7⟩ := hc'; exact ⟨(hb.cell (p := ⟨g', off' + k * 8, none⟩) hglt').trans c0, (hb.cell (p := ⟨g', off' + k * 8 + 1, none⟩) hglt').trans c1, (hb.cell (p := ⟨g', off' + k * 8 + 2, none⟩) hglt').trans c2, (hb.cell (p := ⟨g', off' + k * 8 + 3, none⟩) hglt').trans c3, (hb.cell (p := ⟨g', off' + k * 8 + 4, none⟩) hglt').trans c4, (hb.cell (p := ⟨g', off' + k * 8 + 5, none⟩) hglt').trans c5, (hb.cell (p := ⟨g', off' + k * 8 + 6, none⟩) hglt').trans c6, (hb.cell (p := ⟨g', off' + k * 8 + 7, none⟩) hglt').trans c7⟩)
        clear hall hcell hcell' hc hc' hIq hIq'
        generalize smO (nthO l k) (nthO l' k) = bv at *
        go_wp2_with fail
        refine wp_region_held_drew (S := fun _ => True) (by kernel_rfl) ?hS574 (fun hHeld => ?_)
        case hS574 => exact trivial
        refine wpAnyH_take (i := 0) (v := ?_) rfl (by kernel_rfl) (by kernel_rfl) (by kernel_rfl) (fun _ _ _ h => h) (Or.inl ⟨by rfl, ?hy575⟩) (by assumption) ?ty575
        case hy575 => (intro w hSw; (try dsimp only at hSw); go_simp; all_goals with_reducible rfl)
        simp only [Act.put, List.getElem_toArray, List.getElem_cons_zero, List.setIfInBounds_toArray, List.set_cons_zero, List.set_cons_succ]
        refine wpAnyH_take (i := 1) (v := ?_) rfl (by kernel_rfl) (by kernel_rfl) (by kernel_rfl) (fun _ _ _ h => h) (Or.inl ⟨by rfl, ?hy576⟩) (by assumption) ?ty576
        case hy576 => (intro w hSw; (try dsimp only at hSw); go_simp; all_goals with_reducible rfl)
        simp only [Act.put, List.getElem_toArray, List.getElem_cons_zero, List.getElem_cons_succ, List.setIfInBounds_toArray, List.set_cons_zero, List.set_cons_succ]
        refine wpAnyH_take (i := 2) (v := ?_) rfl (by kernel_rfl) (by kernel_rfl) (by kernel_rfl) (fun _ _ _ h => h) (Or.inl ⟨by rfl, ?hy577⟩) (by assumption) ?ty577
        case hy577 => (intro w hSw; (try dsimp only at hSw); go_simp; all_goals with_reducible rfl)
        simp only [Act.put, List.getElem_toArray, List.getElem_cons_zero, List.getElem_cons_succ, List.setIfInBounds_toArray, List.set_cons_zero, List.set_cons_succ]
        refine wpAnyH_take (i := 3) (v := ?_) rfl (by kernel_rfl) (by kernel_rfl) (by kernel_rfl) (fun _ _ _ h => h) (Or.inl ⟨by rfl, ?hy578⟩) (by assumption) ?ty578
        case hy578 => (intro w hSw; (try dsimp only at hSw); go_simp; all_goals with_reducible rfl)
        simp only [Act.put, List.getElem_toArray, List.getElem_cons_zero, List.getElem_cons_succ, List.setIfInBounds_toArray, List.set_cons_zero, List.set_cons_succ]
        refine wpAnyH_take (i := 4) (v := ?_) rfl (by kernel_rfl) (by kernel_rfl) (by kernel_rfl) (fun _ _ _ h => h) (Or.inl ⟨by rfl, ?hy579⟩) (by assumption) ?ty579
        case hy579 => (intro w hSw; (try dsimp only at hSw); go_simp; all_goals with_reducible rfl)
        simp only [Act.put, List.getElem_toArray, List.getElem_cons_zero, List.getElem_cons_succ, List.setIfInBounds_toArray, List.set_cons_zero, List.set_cons_succ]
        refine wpAnyH_take (i := 5) (v := ?_) rfl (by kernel_rfl) (by kernel_rfl) (by kernel_rfl) (fun _ _ _ h => h) (Or.inl ⟨by rfl, ?hy580⟩) (by assumption) ?ty580
        case hy580 => (intro w hSw; (try dsimp only at hSw); go_simp; all_goals with_reducible rfl)
        simp only [Act.put, List.getElem_toArray, List.getElem_cons_zero, List.getElem_cons_succ, List.setIfInBounds_toArray, List.set_cons_zero, List.set_cons_succ]
        refine wpAnyH_ready (rs := [6]) (by kernel_rfl) (by simp) ?_
        refine AllReadyH.cons rfl (fun K hK => ?_) AllReadyH.nil
        go_simp
        refine (HC.out _ (Below.refl _ _).drew).mono ?_
        rintro e w1 ⟨rfl, hb0⟩
        have hb1 : Below wr.heap.size wr w1 := (Below.refl _ _).drew.trans hb0
        refine hK.out _ _ trivial (fun hHeld => ?_)
        clear hK K
        refine wpAnyH_take (i := 7) (v := ?_) rfl (by kernel_rfl) (by kernel_rfl) (by kernel_rfl) (fun _ _ _ h => h) (Or.inl ⟨by rfl, ?hy581⟩) (by assumption) ?ty581
        case hy581 => (intro w hSw; (try dsimp only at hSw); go_simp; all_goals with_reducible rfl)
        simp only [Act.put, List.getElem_toArray, List.getElem_cons_zero, List.getElem_cons_succ, List.setIfInBounds_toArray, List.set_cons_zero, List.set_cons_succ]
        refine wpAnyH_done (by kernel_rfl) ?_ _
        have hbel2 := hbel.trans (hb1.mono hbel.size)
        clear hHeld hb1 HC
        cases bv with
        | true =>
          have HM : Hid (_) := HY.out rfl
          clear HY HN
          go_wp2
          go_roundw
          case rel => exact ⟨k + 1, by omega, by go_num, HM.out, hbel2⟩
          case measure => simp [intOf]; omega
        | false =>
          have HM : Hid (r = false) := HN.out rfl
          clear HY HN
          go_wp2
          go_ret
          exact ⟨by rw [HM.out]; rfl, hbel2⟩
      · have hki : ¬ (k : Int) < (n : Int) := by omega
        have HM : Hid (r = true) := HA.out (by trivial) (fun j hj => hall j (by omega))
        clear hall
        go_wp2
        go_ret
        exact ⟨by rw [HM.out]; rfl, hbel⟩
  · have hnn' : ¬ (n : Int) = (n' : Int) := by omega
    have HM : Hid (r = false) := HE.out hnn
    go_wp2
    go_ret
    exact ⟨by rw [HM.out]; rfl, Below.refl _ _⟩
end Go.Proofs.Ytilepbbcinbmhaa
