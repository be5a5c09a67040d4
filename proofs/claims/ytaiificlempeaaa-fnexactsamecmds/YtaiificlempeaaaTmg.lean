/- Whether two terms, two lists of terms are the same: the model's side; no conditions beyond those that each fact names. -/
import Derived.Test.YtaiificlempeaaaTmf1
import Derived.Test.YtaiificlempeaaaTmf2
import Derived.Test.YtaiificlempeaaaTmf3
namespace Go.Proofs.Ytaiificlempeaaa
open Go.RowKit
set_option linter.unusedVariables false

set_option maxHeartbeats 6400000 in
set_option maxRecDepth 100000 in
theorem l12Same_any (a b : TmR) (p p' : SlT) (g o h k : Nat) {lo lo' : Nat} (w : World) (hs : IsTm lo w p a) (hs' : IsTm lo' w p' b)
    (hc : w.cell? ⟨g, o, none⟩ = some (.int .i64 a.k) ∧ w.cell? ⟨g, o + 1, none⟩ = some (.int .i64 a.n) ∧ w.cell? ⟨g, o + 2, none⟩ = some (slW p.1) ∧ w.cell? ⟨g, o + 3, none⟩ = some (slW p.2) ∧ w.cell? ⟨g, o + 4, none⟩ = some (.int .i64 a.l) ∧ w.cell? ⟨g, o + 5, none⟩ = some (.int .i64 a.r))
    (hd : w.cell? ⟨h, k, none⟩ = some (.int .i64 b.k) ∧ w.cell? ⟨h, k + 1, none⟩ = some (.int .i64 b.n) ∧ w.cell? ⟨h, k + 2, none⟩ = some (slW p'.1) ∧ w.cell? ⟨h, k + 3, none⟩ = some (slW p'.2) ∧ w.cell? ⟨h, k + 4, none⟩ = some (.int .i64 b.l) ∧ w.cell? ⟨h, k + 5, none⟩ = some (.int .i64 b.r)) :
    Calls Try.prog 37 #[.pointer (some ⟨g, o, none⟩), .pointer (some ⟨h, k, none⟩)] w fun e w' => e = .returned (.bool (smT a b)) ∧ Below w.heap.size w w' := by
  obtain ⟨ak, an, ac, ay, al, ar⟩ := a
  obtain ⟨bk, bn, bc, by', bl, br⟩ := b
  obtain ⟨⟨s1, n, cap⟩, ⟨s2, q2, k2⟩⟩ := p
  obtain ⟨⟨s1', n', cap'⟩, ⟨s2', q2', k2'⟩⟩ := p'
  obtain ⟨⟨hl, hnc, hcm, hr, -⟩, ⟨hyl, hync, hycm, hyr, -⟩⟩ := hs
  obtain ⟨⟨hl', hnc', hcm', hr', -⟩, ⟨hyl', hync', hycm', hyr', -⟩⟩ := hs'
  dsimp only [slW] at *
  have hn : n ≤ maxLen := Nat.le_trans hnc hcm
  have hm : n' ≤ maxLen := Nat.le_trans hnc' hcm'
  have hq : q2 ≤ maxLen := Nat.le_trans hync hycm
  have hp : q2' ≤ maxLen := Nat.le_trans hync' hycm'
  have HV : Hid (smT ⟨ak, an, ac, ay, al, ar⟩ ⟨bk, bn, bc, by', bl, br⟩ = (decide (ak = bk) && (decide (an = bn) && (eqH n n' (fun i => decide (nthI ac i = nthI bc i)) && (eqH q2 q2' (fun i => decide (nthY ay i = nthY by' i)) && (decide (al = bl) && decide (ar = br))))))) := by
    show smT _ _ = _
    unfold smT smU smY
    dsimp only
    rw [hl, hl', hyl, hyl']
  have HL : Hid ((ac.length = n ∧ bc.length = n') ∧ ay.length = q2 ∧ by'.length = q2') := ⟨⟨hl, hl'⟩, hyl, hyl'⟩
  generalize smT ⟨ak, an, ac, ay, al, ar⟩ ⟨bk, bn, bc, by', bl, br⟩ = r at *
  clear hl hl' hyl hyl'
  by_cases h0 : ak = bk
  rotate_left
  · rw [show r = false from HV.out.trans (by simp [h0])]
    exact l12Same_p0 (g := g) (o := o) (h := h) (k := k) (w := w) (hn := hn) (hm := hm) (hq := hq) (hp := hp) (hne := h0) (hc := hc) (hd := hd)
  subst h0
  by_cases h1 : an = bn
  rotate_left
  · rw [show r = false from HV.out.trans (by simp [h1])]
    exact l12Same_p1 (g := g) (o := o) (h := h) (k := k) (w := w) (hn := hn) (hm := hm) (hq := hq) (hp := hp) (hne := h1) (hc := hc) (hd := hd)
  subst h1
  by_cases h2 : al = bl
  rotate_left
  · rw [show r = false from HV.out.trans (by simp [h2])]
    exact l12Same_p2 (g := g) (o := o) (h := h) (k := k) (w := w) (hn := hn) (hm := hm) (hq := hq) (hp := hp) (hne := h2) (hc := hc) (hd := hd)
  subst h2
  by_cases h3 : ar = br
  rotate_left
  · rw [show r = false from HV.out.trans (by simp [h3])]
    exact l12Same_p3 (g := g) (o := o) (h := h) (k := k) (w := w) (hn := hn) (hm := hm) (hq := hq) (hp := hp) (hne := h3) (hc := hc) (hd := hd)
  subst h3
  by_cases h4 : n = n'
  rotate_left
  · rw [show r = false from HV.out.trans (by simp [eqH_ne h4])]
    exact l12Same_p4 (g := g) (o := o) (h := h) (k := k) (w := w) (hn := hn) (hm := hm) (hq := hq) (hp := hp) (hne := h4) (hc := hc) (hd := hd)
  subst h4
  by_cases h5 : q2 = q2'
  rotate_left
  · rw [show r = false from HV.out.trans (by simp [eqH_ne h5])]
    exact l12Same_p5 (g := g) (o := o) (h := h) (k := k) (w := w) (hn := hn) (hq := hq) (hp := hp) (hne := h5) (hc := hc) (hd := hd)
  subst h5
  unfold maxLen at hn hq
  have HA : Hid ((∀ i, i < n → nthI ac i = nthI bc i) → (∀ i, i < q2 → nthY ay i = nthY by' i) → r = true) := fun hh hh2 => HV.out.trans (by rw [eqH_all rfl (fun i hi => decide_eq_true (hh i hi)), eqH_all rfl (fun i hi => decide_eq_true (hh2 i hi))]; simp)
  have HB : Hid (∀ i, i < n → nthI ac i ≠ nthI bc i → r = false) := fun i hi hh => HV.out.trans (by rw [eqH_bad hi (decide_eq_false hh)]; simp)
  have HB2 : Hid (∀ i, i < q2 → nthY ay i ≠ nthY by' i → r = false) := fun i hi hh => HV.out.trans (by rw [eqH_bad hi (decide_eq_false hh)]; simp)
  clear HV
  have hB0 : Below w.heap.size w w.drew := (Below.refl _ _).drew
  have c2 : w.drew.cell? ⟨g, o + 2, none⟩ = some (.slice s1 n cap) := hc.2.2.1
  have d2 : w.drew.cell? ⟨h, k + 2, none⟩ = some (.slice s1' n cap') := hd.2.2.1
  have c3 : w.drew.cell? ⟨g, o + 3, none⟩ = some (.slice s2 q2 k2) := hc.2.2.2.1
  have d3 : w.drew.cell? ⟨h, k + 3, none⟩ = some (.slice s2' q2 k2') := hd.2.2.2.1
  go_enter Try.func37, Try.ntmps37
  go_wp2_with fail
  simp only [List.append_eq, List.cons_append, List.nil_append]
  refine wp_region_held_drew (S := fun w' => (w'.cell? ⟨g, o, none⟩ = some (.int .i64 ak) ∧ w'.cell? ⟨g, o + 1, none⟩ = some (.int .i64 an) ∧ w'.cell? ⟨g, o + 2, none⟩ = some (.slice s1 n cap) ∧ w'.cell? ⟨g, o + 3, none⟩ = some (.slice s2 q2 k2) ∧ w'.cell? ⟨g, o + 4, none⟩ = some (.int .i64 al) ∧ w'.cell? ⟨g, o + 5, none⟩ = some (.int .i64 ar)) ∧ (w'.cell? ⟨h, k, none⟩ = some (.int .i64 ak) ∧ w'.cell? ⟨h, k + 1, none⟩ = some (.int .i64 an) ∧ w'.cell? ⟨h, k + 2, none⟩ = some (.slice s1' n cap') ∧ w'.cell? ⟨h, k + 3, none⟩ = some (.slice s2' q2 k2') ∧ w'.cell? ⟨h, k + 4, none⟩ = some (.int .i64 al) ∧ w'.cell? ⟨h, k + 5, none⟩ = some (.int .i64 ar))) (by kernel_rfl) ?hS262 (fun hHeld => ?_)
  case hS262 => exact ⟨hc, hd⟩
  refine wpAnyH_take (i := 0) (v := ?_) rfl (by kernel_rfl) (by kernel_rfl) (by kernel_rfl) (fun _ _ _ h => h) (Or.inl ⟨by kernel_rfl, ?hy263⟩) (by assumption) ?ty263
  case hy263 => (intro w hSw; (try dsimp only at hSw); obtain ⟨⟨e0, e1, e2, e3, e4, e5⟩, ⟨f0, f1, f2, f3, f4, f5⟩⟩ := hSw; go_simp; all_goals with_reducible rfl)
  simp only [Act.put, List.getElem_toArray, List.getElem_cons_zero, List.setIfInBounds_toArray, List.set_cons_zero, List.set_cons_succ]
  refine wpAnyH_take (i := 1) (v := ?_) rfl (by kernel_rfl) (by kernel_rfl) (by kernel_rfl) (fun _ _ _ h => h) (Or.inl ⟨by kernel_rfl, ?hy264⟩) (by assumption) ?ty264
  case hy264 => (intro w hSw; (try dsimp only at hSw); obtain ⟨⟨e0, e1, e2, e3, e4, e5⟩, ⟨f0, f1, f2, f3, f4, f5⟩⟩ := hSw; go_simp; all_goals with_reducible rfl)
  simp only [Act.put, List.getElem_toArray, List.getElem_cons_zero, List.getElem_cons_succ, List.setIfInBounds_toArray, List.set_cons_zero, List.set_cons_succ]
  refine wpAnyH_take (i := 2) (v := ?_) rfl (by kernel_rfl) (by kernel_rfl) (by kernel_rfl) (fun _ _ _ h => h) (Or.inl ⟨by kernel_rfl, ?hy265⟩) (by assumption) ?ty265
  case hy265 => (intro w hSw; (try dsimp only at hSw); obtain ⟨⟨e0, e1, e2, e3, e4, e5⟩, ⟨f0, f1, f2, f3, f4, f5⟩⟩ := hSw; go_simp; all_goals with_reducible rfl)
  simp only [Act.put, List.getElem_toArray, List.getElem_cons_zero, List.getElem_cons_succ, List.setIfInBounds_toArray, List.set_cons_zero, List.set_cons_succ]
  refine wpAnyH_take (i := 3) (v := ?_) rfl (by kernel_rfl) (by kernel_rfl) (by kernel_rfl) (fun _ _ _ h => h) (Or.inl ⟨by kernel_rfl, ?hy266⟩) (by assumption) ?ty266
  case hy266 => (intro w hSw; (try dsimp only at hSw); obtain ⟨⟨e0, e1, e2, e3, e4, e5⟩, ⟨f0, f1, f2, f3, f4, f5⟩⟩ := hSw; go_simp; all_goals with_reducible rfl)
  simp only [Act.put, List.getElem_toArray, List.getElem_cons_zero, List.getElem_cons_succ, List.setIfInBounds_toArray, List.set_cons_zero, List.set_cons_succ]
  refine wpAnyH_take (i := 4) (v := ?_) rfl (by kernel_rfl) (by kernel_rfl) (by kernel_rfl) (fun _ _ _ h => h) (Or.inl ⟨by kernel_rfl, ?hy267⟩) (by assumption) ?ty267
  case hy267 => (intro w hSw; (try dsimp only at hSw); obtain ⟨⟨e0, e1, e2, e3, e4, e5⟩, ⟨f0, f1, f2, f3, f4, f5⟩⟩ := hSw; go_simp; all_goals with_reducible rfl)
  simp only [Act.put, List.getElem_toArray, List.getElem_cons_zero, List.getElem_cons_succ, List.setIfInBounds_toArray, List.set_cons_zero, List.set_cons_succ]
  refine wpAnyH_take (i := 5) (v := ?_) rfl (by kernel_rfl) (by kernel_rfl) (by kernel_rfl) (fun _ _ _ h => h) (Or.inl ⟨by kernel_rfl, ?hy268⟩) (by assumption) ?ty268
  case hy268 => (intro w hSw; (try dsimp only at hSw); obtain ⟨⟨e0, e1, e2, e3, e4, e5⟩, ⟨f0, f1, f2, f3, f4, f5⟩⟩ := hSw; go_simp; all_goals with_reducible rfl)
  simp only [Act.put, List.getElem_toArray, List.getElem_cons_zero, List.getElem_cons_succ, List.setIfInBounds_toArray, List.set_cons_zero, List.set_cons_succ]
  refine wpAnyH_take (i := 6) (v := ?_) rfl (by kernel_rfl) (by kernel_rfl) (by kernel_rfl) (fun _ _ _ h => h) (Or.inl ⟨by kernel_rfl, ?hy269⟩) (by assumption) ?ty269
  case hy269 => (intro w hSw; (try dsimp only at hSw); obtain ⟨⟨e0, e1, e2, e3, e4, e5⟩, ⟨f0, f1, f2, f3, f4, f5⟩⟩ := hSw; go_simp; all_goals with_reducible rfl)
  simp only [Act.put, List.getElem_toArray, List.getElem_cons_zero, List.getElem_cons_succ, List.setIfInBounds_toArray, List.set_cons_zero, List.set_cons_succ]
  refine wpAnyH_take (i := 7) (v := ?_) rfl (by kernel_rfl) (by kernel_rfl) (by kernel_rfl) (fun _ _ _ h => h) (Or.inl ⟨by kernel_rfl, ?hy270⟩) (by assumption) ?ty270
  case hy270 => (intro w hSw; (try dsimp only at hSw); obtain ⟨⟨e0, e1, e2, e3, e4, e5⟩, ⟨f0, f1, f2, f3, f4, f5⟩⟩ := hSw; go_simp; all_goals with_reducible rfl)
  simp only [Act.put, List.getElem_toArray, List.getElem_cons_zero, List.getElem_cons_succ, List.setIfInBounds_toArray, List.set_cons_zero, List.set_cons_succ]
  refine wpAnyH_take (i := 8) (v := .bool false) rfl (by kernel_rfl) (by kernel_rfl) (by kernel_rfl) (fun _ _ _ h => h) (Or.inl ⟨by kernel_rfl, ?hy271⟩) (by assumption) ?ty271
  case hy271 => (intro w hSw; (try dsimp only at hSw); obtain ⟨⟨e0, e1, e2, e3, e4, e5⟩, ⟨f0, f1, f2, f3, f4, f5⟩⟩ := hSw; go_simp; first | (all_goals with_reducible rfl) | (simp; done) | (simp; omega))
  simp only [Act.put, List.getElem_toArray, List.getElem_cons_zero, List.getElem_cons_succ, List.setIfInBounds_toArray, List.set_cons_zero, List.set_cons_succ]
  refine wpAnyH_take (i := 9) (v := ?_) rfl (by kernel_rfl) (by kernel_rfl) (by kernel_rfl) (fun _ _ _ h => h) (Or.inl ⟨by kernel_rfl, ?hy272⟩) (by assumption) ?ty272
  case hy272 => (intro w hSw; (try dsimp only at hSw); obtain ⟨⟨e0, e1, e2, e3, e4, e5⟩, ⟨f0, f1, f2, f3, f4, f5⟩⟩ := hSw; go_simp; all_goals with_reducible rfl)
  simp only [Act.put, List.getElem_toArray, List.getElem_cons_zero, List.getElem_cons_succ, List.setIfInBounds_toArray, List.set_cons_zero, List.set_cons_succ]
  refine wpAnyH_take (i := 10) (v := ?_) rfl (by kernel_rfl) (by kernel_rfl) (by kernel_rfl) (fun _ _ _ h => h) (Or.inl ⟨by kernel_rfl, ?hy273⟩) (by assumption) ?ty273
  case hy273 => (intro w hSw; (try dsimp only at hSw); obtain ⟨⟨e0, e1, e2, e3, e4, e5⟩, ⟨f0, f1, f2, f3, f4, f5⟩⟩ := hSw; go_simp; all_goals with_reducible rfl)
  simp only [Act.put, List.getElem_toArray, List.getElem_cons_zero, List.getElem_cons_succ, List.setIfInBounds_toArray, List.set_cons_zero, List.set_cons_succ]
  refine wpAnyH_take (i := 11) (v := ?_) rfl (by kernel_rfl) (by kernel_rfl) (by kernel_rfl) (fun _ _ _ h => h) (Or.inl ⟨by kernel_rfl, ?hy274⟩) (by assumption) ?ty274
  case hy274 => (intro w hSw; (try dsimp only at hSw); obtain ⟨⟨e0, e1, e2, e3, e4, e5⟩, ⟨f0, f1, f2, f3, f4, f5⟩⟩ := hSw; go_simp; all_goals with_reducible rfl)
  simp only [Act.put, List.getElem_toArray, List.getElem_cons_zero, List.getElem_cons_succ, List.setIfInBounds_toArray, List.set_cons_zero, List.set_cons_succ]
  refine wpAnyH_take (i := 12) (v := ?_) rfl (by kernel_rfl) (by kernel_rfl) (by kernel_rfl) (fun _ _ _ h => h) (Or.inl ⟨by kernel_rfl, ?hy275⟩) (by assumption) ?ty275
  case hy275 => (intro w hSw; (try dsimp only at hSw); obtain ⟨⟨e0, e1, e2, e3, e4, e5⟩, ⟨f0, f1, f2, f3, f4, f5⟩⟩ := hSw; go_simp; all_goals with_reducible rfl)
  simp only [Act.put, List.getElem_toArray, List.getElem_cons_zero, List.getElem_cons_succ, List.setIfInBounds_toArray, List.set_cons_zero, List.set_cons_succ]
  refine wpAnyH_take (i := 13) (v := ?_) rfl (by kernel_rfl) (by kernel_rfl) (by kernel_rfl) (fun _ _ _ h => h) (Or.inl ⟨by kernel_rfl, ?hy276⟩) (by assumption) ?ty276
  case hy276 => (intro w hSw; (try dsimp only at hSw); obtain ⟨⟨e0, e1, e2, e3, e4, e5⟩, ⟨f0, f1, f2, f3, f4, f5⟩⟩ := hSw; go_simp; all_goals with_reducible rfl)
  simp only [Act.put, List.getElem_toArray, List.getElem_cons_zero, List.getElem_cons_succ, List.setIfInBounds_toArray, List.set_cons_zero, List.set_cons_succ]
  refine wpAnyH_take (i := 14) (v := ?_) rfl (by kernel_rfl) (by kernel_rfl) (by kernel_rfl) (fun _ _ _ h => h) (Or.inl ⟨by kernel_rfl, ?hy277⟩) (by assumption) ?ty277
  case hy277 => (intro w hSw; (try dsimp only at hSw); obtain ⟨⟨e0, e1, e2, e3, e4, e5⟩, ⟨f0, f1, f2, f3, f4, f5⟩⟩ := hSw; go_simp; all_goals with_reducible rfl)
  simp only [Act.put, List.getElem_toArray, List.getElem_cons_zero, List.getElem_cons_succ, List.setIfInBounds_toArray, List.set_cons_zero, List.set_cons_succ]
  refine wpAnyH_take (i := 15) (v := ?_) rfl (by kernel_rfl) (by kernel_rfl) (by kernel_rfl) (fun _ _ _ h => h) (Or.inl ⟨by kernel_rfl, ?hy278⟩) (by assumption) ?ty278
  case hy278 => (intro w hSw; (try dsimp only at hSw); obtain ⟨⟨e0, e1, e2, e3, e4, e5⟩, ⟨f0, f1, f2, f3, f4, f5⟩⟩ := hSw; go_simp; all_goals with_reducible rfl)
  simp only [Act.put, List.getElem_toArray, List.getElem_cons_zero, List.getElem_cons_succ, List.setIfInBounds_toArray, List.set_cons_zero, List.set_cons_succ]
  refine wpAnyH_take (i := 16) (v := ?_) rfl (by kernel_rfl) (by kernel_rfl) (by kernel_rfl) (fun _ _ _ h => h) (Or.inl ⟨by kernel_rfl, ?hy279⟩) (by assumption) ?ty279
  case hy279 => (intro w hSw; (try dsimp only at hSw); obtain ⟨⟨e0, e1, e2, e3, e4, e5⟩, ⟨f0, f1, f2, f3, f4, f5⟩⟩ := hSw; go_simp; all_goals with_reducible rfl)
  simp only [Act.put, List.getElem_toArray, List.getElem_cons_zero, List.getElem_cons_succ, List.setIfInBounds_toArray, List.set_cons_zero, List.set_cons_succ]
  refine wpAnyH_take (i := 17) (v := ?_) rfl (by kernel_rfl) (by kernel_rfl) (by kernel_rfl) (fun _ _ _ h => h) (Or.inl ⟨by kernel_rfl, ?hy280⟩) (by assumption) ?ty280
  case hy280 => (intro w hSw; (try dsimp only at hSw); obtain ⟨⟨e0, e1, e2, e3, e4, e5⟩, ⟨f0, f1, f2, f3, f4, f5⟩⟩ := hSw; go_simp; all_goals with_reducible rfl)
  simp only [Act.put, List.getElem_toArray, List.getElem_cons_zero, List.getElem_cons_succ, List.setIfInBounds_toArray, List.set_cons_zero, List.set_cons_succ]
  refine wpAnyH_take (i := 18) (v := .bool false) rfl (by kernel_rfl) (by kernel_rfl) (by kernel_rfl) (fun _ _ _ h => h) (Or.inl ⟨by kernel_rfl, ?hy281⟩) (by assumption) ?ty281
  case hy281 => (intro w hSw; (try dsimp only at hSw); obtain ⟨⟨e0, e1, e2, e3, e4, e5⟩, ⟨f0, f1, f2, f3, f4, f5⟩⟩ := hSw; go_simp; first | (all_goals with_reducible rfl) | (simp; done) | (simp; omega))
  simp only [Act.put, List.getElem_toArray, List.getElem_cons_zero, List.getElem_cons_succ, List.setIfInBounds_toArray, List.set_cons_zero, List.set_cons_succ]
  refine wpAnyH_take (i := 19) (v := .bool false) rfl (by kernel_rfl) (by kernel_rfl) (by kernel_rfl) (fun _ _ _ h => h) (Or.inl ⟨by kernel_rfl, ?hy282⟩) (by assumption) ?ty282
  case hy282 => (intro w hSw; (try dsimp only at hSw); obtain ⟨⟨e0, e1, e2, e3, e4, e5⟩, ⟨f0, f1, f2, f3, f4, f5⟩⟩ := hSw; go_simp; first | (all_goals with_reducible rfl) | (simp; done) | (simp; omega))
  simp only [Act.put, List.getElem_toArray, List.getElem_cons_zero, List.getElem_cons_succ, List.setIfInBounds_toArray, List.set_cons_zero, List.set_cons_succ]
  refine wpAnyH_take (i := 20) (v := ?_) rfl (by kernel_rfl) (by kernel_rfl) (by kernel_rfl) (fun _ _ _ h => h) (Or.inl ⟨by kernel_rfl, ?hy283⟩) (by assumption) ?ty283
  case hy283 => (intro w hSw; (try dsimp only at hSw); obtain ⟨⟨e0, e1, e2, e3, e4, e5⟩, ⟨f0, f1, f2, f3, f4, f5⟩⟩ := hSw; go_simp; all_goals with_reducible rfl)
  simp only [Act.put, List.getElem_toArray, List.getElem_cons_zero, List.getElem_cons_succ, List.setIfInBounds_toArray, List.set_cons_zero, List.set_cons_succ]
  refine wpAnyH_take (i := 21) (v := ?_) rfl (by kernel_rfl) (by kernel_rfl) (by kernel_rfl) (fun _ _ _ h => h) (Or.inl ⟨by kernel_rfl, ?hy284⟩) (by assumption) ?ty284
  case hy284 => (intro w hSw; (try dsimp only at hSw); obtain ⟨⟨e0, e1, e2, e3, e4, e5⟩, ⟨f0, f1, f2, f3, f4, f5⟩⟩ := hSw; go_simp; all_goals with_reducible rfl)
  simp only [Act.put, List.getElem_toArray, List.getElem_cons_zero, List.getElem_cons_succ, List.setIfInBounds_toArray, List.set_cons_zero, List.set_cons_succ]
  refine wpAnyH_take (i := 22) (v := ?_) rfl (by kernel_rfl) (by kernel_rfl) (by kernel_rfl) (fun _ _ _ h => h) (Or.inl ⟨by kernel_rfl, ?hy285⟩) (by assumption) ?ty285
  case hy285 => (intro w hSw; (try dsimp only at hSw); obtain ⟨⟨e0, e1, e2, e3, e4, e5⟩, ⟨f0, f1, f2, f3, f4, f5⟩⟩ := hSw; go_simp; all_goals with_reducible rfl)
  simp only [Act.put, List.getElem_toArray, List.getElem_cons_zero, List.getElem_cons_succ, List.setIfInBounds_toArray, List.set_cons_zero, List.set_cons_succ]
  refine wpAnyH_take (i := 23) (v := ?_) rfl (by kernel_rfl) (by kernel_rfl) (by kernel_rfl) (fun _ _ _ h => h) (Or.inl ⟨by kernel_rfl, ?hy286⟩) (by assumption) ?ty286
  case hy286 => (intro w hSw; (try dsimp only at hSw); obtain ⟨⟨e0, e1, e2, e3, e4, e5⟩, ⟨f0, f1, f2, f3, f4, f5⟩⟩ := hSw; go_simp; all_goals with_reducible rfl)
  simp only [Act.put, List.getElem_toArray, List.getElem_cons_zero, List.getElem_cons_succ, List.setIfInBounds_toArray, List.set_cons_zero, List.set_cons_succ]
  refine wpAnyH_take (i := 24) (v := ?_) rfl (by kernel_rfl) (by kernel_rfl) (by kernel_rfl) (fun _ _ _ h => h) (Or.inl ⟨by kernel_rfl, ?hy287⟩) (by assumption) ?ty287
  case hy287 => (intro w hSw; (try dsimp only at hSw); obtain ⟨⟨e0, e1, e2, e3, e4, e5⟩, ⟨f0, f1, f2, f3, f4, f5⟩⟩ := hSw; go_simp; all_goals with_reducible rfl)
  simp only [Act.put, List.getElem_toArray, List.getElem_cons_zero, List.getElem_cons_succ, List.setIfInBounds_toArray, List.set_cons_zero, List.set_cons_succ]
  refine wpAnyH_take (i := 25) (v := ?_) rfl (by kernel_rfl) (by kernel_rfl) (by kernel_rfl) (fun _ _ _ h => h) (Or.inl ⟨by kernel_rfl, ?hy288⟩) (by assumption) ?ty288
  case hy288 => (intro w hSw; (try dsimp only at hSw); obtain ⟨⟨e0, e1, e2, e3, e4, e5⟩, ⟨f0, f1, f2, f3, f4, f5⟩⟩ := hSw; go_simp; all_goals with_reducible rfl)
  simp only [Act.put, List.getElem_toArray, List.getElem_cons_zero, List.getElem_cons_succ, List.setIfInBounds_toArray, List.set_cons_zero, List.set_cons_succ]
  refine wpAnyH_take (i := 26) (v := ?_) rfl (by kernel_rfl) (by kernel_rfl) (by kernel_rfl) (fun _ _ _ h => h) (Or.inl ⟨by kernel_rfl, ?hy289⟩) (by assumption) ?ty289
  case hy289 => (intro w hSw; (try dsimp only at hSw); obtain ⟨⟨e0, e1, e2, e3, e4, e5⟩, ⟨f0, f1, f2, f3, f4, f5⟩⟩ := hSw; go_simp; all_goals with_reducible rfl)
  simp only [Act.put, List.getElem_toArray, List.getElem_cons_zero, List.getElem_cons_succ, List.setIfInBounds_toArray, List.set_cons_zero, List.set_cons_succ]
  refine wpAnyH_take (i := 27) (v := ?_) rfl (by kernel_rfl) (by kernel_rfl) (by kernel_rfl) (fun _ _ _ h => h) (Or.inl ⟨by kernel_rfl, ?hy290⟩) (by assumption) ?ty290
  case hy290 => (intro w hSw; (try dsimp only at hSw); obtain ⟨⟨e0, e1, e2, e3, e4, e5⟩, ⟨f0, f1, f2, f3, f4, f5⟩⟩ := hSw; go_simp; all_goals with_reducible rfl)
  simp only [Act.put, List.getElem_toArray, List.getElem_cons_zero, List.getElem_cons_succ, List.setIfInBounds_toArray, List.set_cons_zero, List.set_cons_succ]
  refine wpAnyH_take (i := 28) (v := ?_) rfl (by kernel_rfl) (by kernel_rfl) (by kernel_rfl) (fun _ _ _ h => h) (Or.inl ⟨by kernel_rfl, ?hy291⟩) (by assumption) ?ty291
  case hy291 => (intro w hSw; (try dsimp only at hSw); obtain ⟨⟨e0, e1, e2, e3, e4, e5⟩, ⟨f0, f1, f2, f3, f4, f5⟩⟩ := hSw; go_simp; all_goals with_reducible rfl)
  simp only [Act.put, List.getElem_toArray, List.getElem_cons_zero, List.getElem_cons_succ, List.setIfInBounds_toArray, List.set_cons_zero, List.set_cons_succ]
  refine wpAnyH_take (i := 29) (v := .bool false) rfl (by kernel_rfl) (by kernel_rfl) (by kernel_rfl) (fun _ _ _ h => h) (Or.inl ⟨by kernel_rfl, ?hy292⟩) (by assumption) ?ty292
  case hy292 => (intro w hSw; (try dsimp only at hSw); obtain ⟨⟨e0, e1, e2, e3, e4, e5⟩, ⟨f0, f1, f2, f3, f4, f5⟩⟩ := hSw; go_simp; first | (all_goals with_reducible rfl) | (simp; done) | (simp; omega))
  simp only [Act.put, List.getElem_toArray, List.getElem_cons_zero, List.getElem_cons_succ, List.setIfInBounds_toArray, List.set_cons_zero, List.set_cons_succ]
  refine wpAnyH_take (i := 30) (v := .bool false) rfl (by kernel_rfl) (by kernel_rfl) (by kernel_rfl) (fun _ _ _ h => h) (Or.inl ⟨by kernel_rfl, ?hy293⟩) (by assumption) ?ty293
  case hy293 => (intro w hSw; (try dsimp only at hSw); obtain ⟨⟨e0, e1, e2, e3, e4, e5⟩, ⟨f0, f1, f2, f3, f4, f5⟩⟩ := hSw; go_simp; first | (all_goals with_reducible rfl) | (simp; done) | (simp; omega))
  simp only [Act.put, List.getElem_toArray, List.getElem_cons_zero, List.getElem_cons_succ, List.setIfInBounds_toArray, List.set_cons_zero, List.set_cons_succ]
  refine wpAnyH_take (i := 31) (v := ?_) rfl (by kernel_rfl) (by kernel_rfl) (by kernel_rfl) (fun _ _ _ h => h) (Or.inl ⟨by kernel_rfl, ?hy294⟩) (by assumption) ?ty294
  case hy294 => (intro w hSw; (try dsimp only at hSw); obtain ⟨⟨e0, e1, e2, e3, e4, e5⟩, ⟨f0, f1, f2, f3, f4, f5⟩⟩ := hSw; go_simp; all_goals with_reducible rfl)
  simp only [Act.put, List.getElem_toArray, List.getElem_cons_zero, List.getElem_cons_succ, List.setIfInBounds_toArray, List.set_cons_zero, List.set_cons_succ]
  refine wpAnyH_take (i := 32) (v := ?_) rfl (by kernel_rfl) (by kernel_rfl) (by kernel_rfl) (fun _ _ _ h => h) (Or.inl ⟨by kernel_rfl, ?hy295⟩) (by assumption) ?ty295
  case hy295 => (intro w hSw; (try dsimp only at hSw); obtain ⟨⟨e0, e1, e2, e3, e4, e5⟩, ⟨f0, f1, f2, f3, f4, f5⟩⟩ := hSw; go_simp; all_goals with_reducible rfl)
  simp only [Act.put, List.getElem_toArray, List.getElem_cons_zero, List.getElem_cons_succ, List.setIfInBounds_toArray, List.set_cons_zero, List.set_cons_succ]
  refine wpAnyH_take (i := 33) (v := ?_) rfl (by kernel_rfl) (by kernel_rfl) (by kernel_rfl) (fun _ _ _ h => h) (Or.inl ⟨by kernel_rfl, ?hy296⟩) (by assumption) ?ty296
  case hy296 => (intro w hSw; (try dsimp only at hSw); obtain ⟨⟨e0, e1, e2, e3, e4, e5⟩, ⟨f0, f1, f2, f3, f4, f5⟩⟩ := hSw; go_simp; all_goals with_reducible rfl)
  simp only [Act.put, List.getElem_toArray, List.getElem_cons_zero, List.getElem_cons_succ, List.setIfInBounds_toArray, List.set_cons_zero, List.set_cons_succ]
  refine wpAnyH_take (i := 34) (v := ?_) rfl (by kernel_rfl) (by kernel_rfl) (by kernel_rfl) (fun _ _ _ h => h) (Or.inl ⟨by kernel_rfl, ?hy297⟩) (by assumption) ?ty297
  case hy297 => (intro w hSw; (try dsimp only at hSw); obtain ⟨⟨e0, e1, e2, e3, e4, e5⟩, ⟨f0, f1, f2, f3, f4, f5⟩⟩ := hSw; go_simp; all_goals with_reducible rfl)
  simp only [Act.put, List.getElem_toArray, List.getElem_cons_zero, List.getElem_cons_succ, List.setIfInBounds_toArray, List.set_cons_zero, List.set_cons_succ]
  refine wpAnyH_take (i := 35) (v := ?_) rfl (by kernel_rfl) (by kernel_rfl) (by kernel_rfl) (fun _ _ _ h => h) (Or.inl ⟨by kernel_rfl, ?hy298⟩) (by assumption) ?ty298
  case hy298 => (intro w hSw; (try dsimp only at hSw); obtain ⟨⟨e0, e1, e2, e3, e4, e5⟩, ⟨f0, f1, f2, f3, f4, f5⟩⟩ := hSw; go_simp; all_goals with_reducible rfl)
  simp only [Act.put, List.getElem_toArray, List.getElem_cons_zero, List.getElem_cons_succ, List.setIfInBounds_toArray, List.set_cons_zero, List.set_cons_succ]
  refine wpAnyH_take (i := 36) (v := ?_) rfl (by kernel_rfl) (by kernel_rfl) (by kernel_rfl) (fun _ _ _ h => h) (Or.inl ⟨by kernel_rfl, ?hy299⟩) (by assumption) ?ty299
  case hy299 => (intro w hSw; (try dsimp only at hSw); obtain ⟨⟨e0, e1, e2, e3, e4, e5⟩, ⟨f0, f1, f2, f3, f4, f5⟩⟩ := hSw; go_simp; all_goals with_reducible rfl)
  simp only [Act.put, List.getElem_toArray, List.getElem_cons_zero, List.getElem_cons_succ, List.setIfInBounds_toArray, List.set_cons_zero, List.set_cons_succ]
  refine wpAnyH_take (i := 37) (v := ?_) rfl (by kernel_rfl) (by kernel_rfl) (by kernel_rfl) (fun _ _ _ h => h) (Or.inl ⟨by kernel_rfl, ?hy300⟩) (by assumption) ?ty300
  case hy300 => (intro w hSw; (try dsimp only at hSw); obtain ⟨⟨e0, e1, e2, e3, e4, e5⟩, ⟨f0, f1, f2, f3, f4, f5⟩⟩ := hSw; go_simp; all_goals with_reducible rfl)
  simp only [Act.put, List.getElem_toArray, List.getElem_cons_zero, List.getElem_cons_succ, List.setIfInBounds_toArray, List.set_cons_zero, List.set_cons_succ]
  refine wpAnyH_take (i := 38) (v := ?_) rfl (by kernel_rfl) (by kernel_rfl) (by kernel_rfl) (fun _ _ _ h => h) (Or.inl ⟨by kernel_rfl, ?hy301⟩) (by assumption) ?ty301
  case hy301 => (intro w hSw; (try dsimp only at hSw); obtain ⟨⟨e0, e1, e2, e3, e4, e5⟩, ⟨f0, f1, f2, f3, f4, f5⟩⟩ := hSw; go_simp; all_goals with_reducible rfl)
  simp only [Act.put, List.getElem_toArray, List.getElem_cons_zero, List.getElem_cons_succ, List.setIfInBounds_toArray, List.set_cons_zero, List.set_cons_succ]
  refine wpAnyH_take (i := 39) (v := ?_) rfl (by kernel_rfl) (by kernel_rfl) (by kernel_rfl) (fun _ _ _ h => h) (Or.inl ⟨by kernel_rfl, ?hy302⟩) (by assumption) ?ty302
  case hy302 => (intro w hSw; (try dsimp only at hSw); obtain ⟨⟨e0, e1, e2, e3, e4, e5⟩, ⟨f0, f1, f2, f3, f4, f5⟩⟩ := hSw; go_simp; all_goals with_reducible rfl)
  simp only [Act.put, List.getElem_toArray, List.getElem_cons_zero, List.getElem_cons_succ, List.setIfInBounds_toArray, List.set_cons_zero, List.set_cons_succ]
  refine wpAnyH_take (i := 40) (v := .bool false) rfl (by kernel_rfl) (by kernel_rfl) (by kernel_rfl) (fun _ _ _ h => h) (Or.inl ⟨by kernel_rfl, ?hy303⟩) (by assumption) ?ty303
  case hy303 => (intro w hSw; (try dsimp only at hSw); obtain ⟨⟨e0, e1, e2, e3, e4, e5⟩, ⟨f0, f1, f2, f3, f4, f5⟩⟩ := hSw; go_simp; first | (all_goals with_reducible rfl) | (simp; done) | (simp; omega))
  simp only [Act.put, List.getElem_toArray, List.getElem_cons_zero, List.getElem_cons_succ, List.setIfInBounds_toArray, List.set_cons_zero, List.set_cons_succ]
  refine wpAnyH_take (i := 41) (v := .bool false) rfl (by kernel_rfl) (by kernel_rfl) (by kernel_rfl) (fun _ _ _ h => h) (Or.inl ⟨by kernel_rfl, ?hy304⟩) (by assumption) ?ty304
  case hy304 => (intro w hSw; (try dsimp only at hSw); obtain ⟨⟨e0, e1, e2, e3, e4, e5⟩, ⟨f0, f1, f2, f3, f4, f5⟩⟩ := hSw; go_simp; first | (all_goals with_reducible rfl) | (simp; done) | (simp; omega))
  simp only [Act.put, List.getElem_toArray, List.getElem_cons_zero, List.getElem_cons_succ, List.setIfInBounds_toArray, List.set_cons_zero, List.set_cons_succ]
  refine wpAnyH_take (i := 42) (v := ?_) rfl (by kernel_rfl) (by kernel_rfl) (by kernel_rfl) (fun _ _ _ h => h) (Or.inl ⟨by kernel_rfl, ?hy305⟩) (by assumption) ?ty305
  case hy305 => (intro w hSw; (try dsimp only at hSw); obtain ⟨⟨e0, e1, e2, e3, e4, e5⟩, ⟨f0, f1, f2, f3, f4, f5⟩⟩ := hSw; go_simp; all_goals with_reducible rfl)
  simp only [Act.put, List.getElem_toArray, List.getElem_cons_zero, List.getElem_cons_succ, List.setIfInBounds_toArray, List.set_cons_zero, List.set_cons_succ]
  refine wpAnyH_take (i := 43) (v := ?_) rfl (by kernel_rfl) (by kernel_rfl) (by kernel_rfl) (fun _ _ _ h => h) (Or.inl ⟨by kernel_rfl, ?hy306⟩) (by assumption) ?ty306
  case hy306 => (intro w hSw; (try dsimp only at hSw); obtain ⟨⟨e0, e1, e2, e3, e4, e5⟩, ⟨f0, f1, f2, f3, f4, f5⟩⟩ := hSw; go_simp; all_goals with_reducible rfl)
  simp only [Act.put, List.getElem_toArray, List.getElem_cons_zero, List.getElem_cons_succ, List.setIfInBounds_toArray, List.set_cons_zero, List.set_cons_succ]
  refine wpAnyH_take (i := 44) (v := ?_) rfl (by kernel_rfl) (by kernel_rfl) (by kernel_rfl) (fun _ _ _ h => h) (Or.inl ⟨by kernel_rfl, ?hy307⟩) (by assumption) ?ty307
  case hy307 => (intro w hSw; (try dsimp only at hSw); obtain ⟨⟨e0, e1, e2, e3, e4, e5⟩, ⟨f0, f1, f2, f3, f4, f5⟩⟩ := hSw; go_simp; all_goals with_reducible rfl)
  simp only [Act.put, List.getElem_toArray, List.getElem_cons_zero, List.getElem_cons_succ, List.setIfInBounds_toArray, List.set_cons_zero, List.set_cons_succ]
  refine wpAnyH_take (i := 45) (v := ?_) rfl (by kernel_rfl) (by kernel_rfl) (by kernel_rfl) (fun _ _ _ h => h) (Or.inl ⟨by kernel_rfl, ?hy308⟩) (by assumption) ?ty308
  case hy308 => (intro w hSw; (try dsimp only at hSw); obtain ⟨⟨e0, e1, e2, e3, e4, e5⟩, ⟨f0, f1, f2, f3, f4, f5⟩⟩ := hSw; go_simp; all_goals with_reducible rfl)
  simp only [Act.put, List.getElem_toArray, List.getElem_cons_zero, List.getElem_cons_succ, List.setIfInBounds_toArray, List.set_cons_zero, List.set_cons_succ]
  refine wpAnyH_take (i := 46) (v := ?_) rfl (by kernel_rfl) (by kernel_rfl) (by kernel_rfl) (fun _ _ _ h => h) (Or.inl ⟨by kernel_rfl, ?hy309⟩) (by assumption) ?ty309
  case hy309 => (intro w hSw; (try dsimp only at hSw); obtain ⟨⟨e0, e1, e2, e3, e4, e5⟩, ⟨f0, f1, f2, f3, f4, f5⟩⟩ := hSw; go_simp; all_goals with_reducible rfl)
  simp only [Act.put, List.getElem_toArray, List.getElem_cons_zero, List.getElem_cons_succ, List.setIfInBounds_toArray, List.set_cons_zero, List.set_cons_succ]
  refine wpAnyH_take (i := 47) (v := ?_) rfl (by kernel_rfl) (by kernel_rfl) (by kernel_rfl) (fun _ _ _ h => h) (Or.inl ⟨by kernel_rfl, ?hy310⟩) (by assumption) ?ty310
  case hy310 => (intro w hSw; (try dsimp only at hSw); obtain ⟨⟨e0, e1, e2, e3, e4, e5⟩, ⟨f0, f1, f2, f3, f4, f5⟩⟩ := hSw; go_simp; all_goals with_reducible rfl)
  simp only [Act.put, List.getElem_toArray, List.getElem_cons_zero, List.getElem_cons_succ, List.setIfInBounds_toArray, List.set_cons_zero, List.set_cons_succ]
  refine wpAnyH_take (i := 48) (v := ?_) rfl (by kernel_rfl) (by kernel_rfl) (by kernel_rfl) (fun _ _ _ h => h) (Or.inl ⟨by kernel_rfl, ?hy311⟩) (by assumption) ?ty311
  case hy311 => (intro w hSw; (try dsimp only at hSw); obtain ⟨⟨e0, e1, e2, e3, e4, e5⟩, ⟨f0, f1, f2, f3, f4, f5⟩⟩ := hSw; go_simp; all_goals with_reducible rfl)
  simp only [Act.put, List.getElem_toArray, List.getElem_cons_zero, List.getElem_cons_succ, List.setIfInBounds_toArray, List.set_cons_zero, List.set_cons_succ]
  refine wpAnyH_take (i := 49) (v := ?_) rfl (by kernel_rfl) (by kernel_rfl) (by kernel_rfl) (fun _ _ _ h => h) (Or.inl ⟨by kernel_rfl, ?hy312⟩) (by assumption) ?ty312
  case hy312 => (intro w hSw; (try dsimp only at hSw); obtain ⟨⟨e0, e1, e2, e3, e4, e5⟩, ⟨f0, f1, f2, f3, f4, f5⟩⟩ := hSw; go_simp; all_goals with_reducible rfl)
  simp only [Act.put, List.getElem_toArray, List.getElem_cons_zero, List.getElem_cons_succ, List.setIfInBounds_toArray, List.set_cons_zero, List.set_cons_succ]
  refine wpAnyH_take (i := 50) (v := ?_) rfl (by kernel_rfl) (by kernel_rfl) (by kernel_rfl) (fun _ _ _ h => h) (Or.inl ⟨by kernel_rfl, ?hy313⟩) (by assumption) ?ty313
  case hy313 => (intro w hSw; (try dsimp only at hSw); obtain ⟨⟨e0, e1, e2, e3, e4, e5⟩, ⟨f0, f1, f2, f3, f4, f5⟩⟩ := hSw; go_simp; all_goals with_reducible rfl)
  simp only [Act.put, List.getElem_toArray, List.getElem_cons_zero, List.getElem_cons_succ, List.setIfInBounds_toArray, List.set_cons_zero, List.set_cons_succ]
  refine wpAnyH_take (i := 51) (v := ?_) rfl (by kernel_rfl) (by kernel_rfl) (by kernel_rfl) (fun _ _ _ h => h) (Or.inl ⟨by kernel_rfl, ?hy314⟩) (by assumption) ?ty314
  case hy314 => (intro w hSw; (try dsimp only at hSw); obtain ⟨⟨e0, e1, e2, e3, e4, e5⟩, ⟨f0, f1, f2, f3, f4, f5⟩⟩ := hSw; go_simp; all_goals with_reducible rfl)
  simp only [Act.put, List.getElem_toArray, List.getElem_cons_zero, List.getElem_cons_succ, List.setIfInBounds_toArray, List.set_cons_zero, List.set_cons_succ]
  refine wpAnyH_take (i := 52) (v := ?_) rfl (by kernel_rfl) (by kernel_rfl) (by kernel_rfl) (fun _ _ _ h => h) (Or.inl ⟨by kernel_rfl, ?hy315⟩) (by assumption) ?ty315
  case hy315 => (intro w hSw; (try dsimp only at hSw); obtain ⟨⟨e0, e1, e2, e3, e4, e5⟩, ⟨f0, f1, f2, f3, f4, f5⟩⟩ := hSw; go_simp; all_goals with_reducible rfl)
  simp only [Act.put, List.getElem_toArray, List.getElem_cons_zero, List.getElem_cons_succ, List.setIfInBounds_toArray, List.set_cons_zero, List.set_cons_succ]
  refine wpAnyH_take (i := 53) (v := .bool false) rfl (by kernel_rfl) (by kernel_rfl) (by kernel_rfl) (fun _ _ _ h => h) (Or.inl ⟨by kernel_rfl, ?hy316⟩) (by assumption) ?ty316
  case hy316 => (intro w hSw; (try dsimp only at hSw); obtain ⟨⟨e0, e1, e2, e3, e4, e5⟩, ⟨f0, f1, f2, f3, f4, f5⟩⟩ := hSw; go_simp; first | (all_goals with_reducible rfl) | (simp; done) | (simp; omega))
  simp only [Act.put, List.getElem_toArray, List.getElem_cons_zero, List.getElem_cons_succ, List.setIfInBounds_toArray, List.set_cons_zero, List.set_cons_succ]
  refine wpAnyH_take (i := 54) (v := .bool false) rfl (by kernel_rfl) (by kernel_rfl) (by kernel_rfl) (fun _ _ _ h => h) (Or.inl ⟨by kernel_rfl, ?hy317⟩) (by assumption) ?ty317
  case hy317 => (intro w hSw; (try dsimp only at hSw); obtain ⟨⟨e0, e1, e2, e3, e4, e5⟩, ⟨f0, f1, f2, f3, f4, f5⟩⟩ := hSw; go_simp; first | (all_goals with_reducible rfl) | (simp; done) | (simp; omega))
  simp only [Act.put, List.getElem_toArray, List.getElem_cons_zero, List.getElem_cons_succ, List.setIfInBounds_toArray, List.set_cons_zero, List.set_cons_succ]
  refine wpAnyH_take (i := 55) (v := ?_) rfl (by kernel_rfl) (by kernel_rfl) (by kernel_rfl) (fun _ _ _ h => h) (Or.inl ⟨by kernel_rfl, ?hy318⟩) (by assumption) ?ty318
  case hy318 => (intro w hSw; (try dsimp only at hSw); obtain ⟨⟨e0, e1, e2, e3, e4, e5⟩, ⟨f0, f1, f2, f3, f4, f5⟩⟩ := hSw; go_simp; all_goals with_reducible rfl)
  simp only [Act.put, List.getElem_toArray, List.getElem_cons_zero, List.getElem_cons_succ, List.setIfInBounds_toArray, List.set_cons_zero, List.set_cons_succ]
  refine wpAnyH_take (i := 56) (v := ?_) rfl (by kernel_rfl) (by kernel_rfl) (by kernel_rfl) (fun _ _ _ h => h) (Or.inl ⟨by kernel_rfl, ?hy319⟩) (by assumption) ?ty319
  case hy319 => (intro w hSw; (try dsimp only at hSw); obtain ⟨⟨e0, e1, e2, e3, e4, e5⟩, ⟨f0, f1, f2, f3, f4, f5⟩⟩ := hSw; go_simp; all_goals with_reducible rfl)
  simp only [Act.put, List.getElem_toArray, List.getElem_cons_zero, List.getElem_cons_succ, List.setIfInBounds_toArray, List.set_cons_zero, List.set_cons_succ]
  refine wpAnyH_take (i := 57) (v := ?_) rfl (by kernel_rfl) (by kernel_rfl) (by kernel_rfl) (fun _ _ _ h => h) (Or.inl ⟨by kernel_rfl, ?hy320⟩) (by assumption) ?ty320
  case hy320 => (intro w hSw; (try dsimp only at hSw); obtain ⟨⟨e0, e1, e2, e3, e4, e5⟩, ⟨f0, f1, f2, f3, f4, f5⟩⟩ := hSw; go_simp; all_goals with_reducible rfl)
  simp only [Act.put, List.getElem_toArray, List.getElem_cons_zero, List.getElem_cons_succ, List.setIfInBounds_toArray, List.set_cons_zero, List.set_cons_succ]
  refine wpAnyH_take (i := 58) (v := ?_) rfl (by kernel_rfl) (by kernel_rfl) (by kernel_rfl) (fun _ _ _ h => h) (Or.inl ⟨by kernel_rfl, ?hy321⟩) (by assumption) ?ty321
  case hy321 => (intro w hSw; (try dsimp only at hSw); obtain ⟨⟨e0, e1, e2, e3, e4, e5⟩, ⟨f0, f1, f2, f3, f4, f5⟩⟩ := hSw; go_simp; all_goals with_reducible rfl)
  simp only [Act.put, List.getElem_toArray, List.getElem_cons_zero, List.getElem_cons_succ, List.setIfInBounds_toArray, List.set_cons_zero, List.set_cons_succ]
  refine wpAnyH_take (i := 59) (v := ?_) rfl (by kernel_rfl) (by kernel_rfl) (by kernel_rfl) (fun _ _ _ h => h) (Or.inl ⟨by kernel_rfl, ?hy322⟩) (by assumption) ?ty322
  case hy322 => (intro w hSw; (try dsimp only at hSw); obtain ⟨⟨e0, e1, e2, e3, e4, e5⟩, ⟨f0, f1, f2, f3, f4, f5⟩⟩ := hSw; go_simp; all_goals with_reducible rfl)
  simp only [Act.put, List.getElem_toArray, List.getElem_cons_zero, List.getElem_cons_succ, List.setIfInBounds_toArray, List.set_cons_zero, List.set_cons_succ]
  refine wpAnyH_take (i := 60) (v := ?_) rfl (by kernel_rfl) (by kernel_rfl) (by kernel_rfl) (fun _ _ _ h => h) (Or.inl ⟨by kernel_rfl, ?hy323⟩) (by assumption) ?ty323
  case hy323 => (intro w hSw; (try dsimp only at hSw); obtain ⟨⟨e0, e1, e2, e3, e4, e5⟩, ⟨f0, f1, f2, f3, f4, f5⟩⟩ := hSw; go_simp; all_goals with_reducible rfl)
  simp only [Act.put, List.getElem_toArray, List.getElem_cons_zero, List.getElem_cons_succ, List.setIfInBounds_toArray, List.set_cons_zero, List.set_cons_succ]
  refine wpAnyH_take (i := 61) (v := ?_) rfl (by kernel_rfl) (by kernel_rfl) (by kernel_rfl) (fun _ _ _ h => h) (Or.inl ⟨by kernel_rfl, ?hy324⟩) (by assumption) ?ty324
  case hy324 => (intro w hSw; (try dsimp only at hSw); obtain ⟨⟨e0, e1, e2, e3, e4, e5⟩, ⟨f0, f1, f2, f3, f4, f5⟩⟩ := hSw; go_simp; all_goals with_reducible rfl)
  simp only [Act.put, List.getElem_toArray, List.getElem_cons_zero, List.getElem_cons_succ, List.setIfInBounds_toArray, List.set_cons_zero, List.set_cons_succ]
  refine wpAnyH_take (i := 62) (v := ?_) rfl (by kernel_rfl) (by kernel_rfl) (by kernel_rfl) (fun _ _ _ h => h) (Or.inl ⟨by kernel_rfl, ?hy325⟩) (by assumption) ?ty325
  case hy325 => (intro w hSw; (try dsimp only at hSw); obtain ⟨⟨e0, e1, e2, e3, e4, e5⟩, ⟨f0, f1, f2, f3, f4, f5⟩⟩ := hSw; go_simp; all_goals with_reducible rfl)
  simp only [Act.put, List.getElem_toArray, List.getElem_cons_zero, List.getElem_cons_succ, List.setIfInBounds_toArray, List.set_cons_zero, List.set_cons_succ]
  refine wpAnyH_take (i := 63) (v := ?_) rfl (by kernel_rfl) (by kernel_rfl) (by kernel_rfl) (fun _ _ _ h => h) (Or.inl ⟨by kernel_rfl, ?hy326⟩) (by assumption) ?ty326
  case hy326 => (intro w hSw; (try dsimp only at hSw); obtain ⟨⟨e0, e1, e2, e3, e4, e5⟩, ⟨f0, f1, f2, f3, f4, f5⟩⟩ := hSw; go_simp; all_goals with_reducible rfl)
  simp only [Act.put, List.getElem_toArray, List.getElem_cons_zero, List.getElem_cons_succ, List.setIfInBounds_toArray, List.set_cons_zero, List.set_cons_succ]
  refine wpAnyH_take (i := 64) (v := ?_) rfl (by kernel_rfl) (by kernel_rfl) (by kernel_rfl) (fun _ _ _ h => h) (Or.inl ⟨by kernel_rfl, ?hy327⟩) (by assumption) ?ty327
  case hy327 => (intro w hSw; (try dsimp only at hSw); obtain ⟨⟨e0, e1, e2, e3, e4, e5⟩, ⟨f0, f1, f2, f3, f4, f5⟩⟩ := hSw; go_simp; all_goals with_reducible rfl)
  simp only [Act.put, List.getElem_toArray, List.getElem_cons_zero, List.getElem_cons_succ, List.setIfInBounds_toArray, List.set_cons_zero, List.set_cons_succ]
  refine wpAnyH_take (i := 65) (v := ?_) rfl (by kernel_rfl) (by kernel_rfl) (by kernel_rfl) (fun _ _ _ h => h) (Or.inl ⟨by kernel_rfl, ?hy328⟩) (by assumption) ?ty328
  case hy328 => (intro w hSw; (try dsimp only at hSw); obtain ⟨⟨e0, e1, e2, e3, e4, e5⟩, ⟨f0, f1, f2, f3, f4, f5⟩⟩ := hSw; go_simp; all_goals with_reducible rfl)
  simp only [Act.put, List.getElem_toArray, List.getElem_cons_zero, List.getElem_cons_succ, List.setIfInBounds_toArray, List.set_cons_zero, List.set_cons_succ]
  refine wpAnyH_take (i := 66) (v := .bool false) rfl (by kernel_rfl) (by kernel_rfl) (by kernel_rfl) (fun _ _ _ h => h) (Or.inl ⟨by kernel_rfl, ?hy329⟩) (by assumption) ?ty329
  case hy329 => (intro w hSw; (try dsimp only at hSw); obtain ⟨⟨e0, e1, e2, e3, e4, e5⟩, ⟨f0, f1, f2, f3, f4, f5⟩⟩ := hSw; go_simp; first | (all_goals with_reducible rfl) | (simp; done) | (simp; omega))
  simp only [Act.put, List.getElem_toArray, List.getElem_cons_zero, List.getElem_cons_succ, List.setIfInBounds_toArray, List.set_cons_zero, List.set_cons_succ]
  refine wpAnyH_take (i := 67) (v := .bool false) rfl (by kernel_rfl) (by kernel_rfl) (by kernel_rfl) (fun _ _ _ h => h) (Or.inl ⟨by kernel_rfl, ?hy330⟩) (by assumption) ?ty330
  case hy330 => (intro w hSw; (try dsimp only at hSw); obtain ⟨⟨e0, e1, e2, e3, e4, e5⟩, ⟨f0, f1, f2, f3, f4, f5⟩⟩ := hSw; go_simp; first | (all_goals with_reducible rfl) | (simp; done) | (simp; omega))
  simp only [Act.put, List.getElem_toArray, List.getElem_cons_zero, List.getElem_cons_succ, List.setIfInBounds_toArray, List.set_cons_zero, List.set_cons_succ]
  refine wpAnyH_done (by kernel_rfl) ?_ _
  clear hHeld hc hd
  go_wp2
  go_loopw [5] (fun i wr => ∃ j : Nat, j ≤ n ∧ i = .int .i64 j ∧ (∀ q, q < j → nthI ac q = nthI bc q) ∧ Below w.heap.size w wr) (fun i _ => n - (intOf i).toNat)
  case atStart => exact ⟨0, Nat.zero_le _, rfl, fun q hq => absurd hq (Nat.not_lt_zero _), hB0⟩
  case round =>
    obtain ⟨j, hj, rfl, hall, hbel⟩ := hrel
    have c2 := (hbel.cell (p := ⟨g, o + 2, none⟩) (World.block_lt_of_cell? w _ c2)).trans c2
    have d2 := (hbel.cell (p := ⟨h, k + 2, none⟩) (World.block_lt_of_cell? w _ d2)).trans d2
    by_cases hjn : j < n
    · have hji : (j : Int) < (n : Int) := by omega
      obtain ⟨g1, off, rfl, hglt, hcell⟩ := (hr.below hbel).at_ (by have := HL.out; omega)
      obtain ⟨g2, off', rfl, hglt', hcell'⟩ := (hr'.below hbel).at_ (by have := HL.out; omega)
      have x0 := hcell j (by have := HL.out; omega)
      have y0 := hcell' j (by have := HL.out; omega)
      have HY : Hid (nthI ac j = nthI bc j → ∀ q, q < j + 1 → nthI ac q = nthI bc q) := fun h q hq => by
        rcases Nat.lt_or_ge q j with h' | h'
        · exact hall q h'
        · obtain rfl : q = j := by omega
          exact h
      have HN : Hid (nthI ac j ≠ nthI bc j → r = false) := fun h => HB.out j hjn h
      clear hall hcell hcell'
      generalize nthI ac j = y at *
      generalize nthI bc j = z at *
      by_cases hyz : y = z
      · have HM : Hid (_) := HY.out hyz
        clear HY HN
        subst hyz
        go_wp2_with fail
        refine wp_region_held_drew (S := fun w' => (w'.cell? ⟨g, o + 2, none⟩ = some (.slice (some ⟨g1, off, none⟩) n cap) ∧ w'.cell? ⟨h, k + 2, none⟩ = some (.slice (some ⟨g2, off', none⟩) n cap')) ∧ w'.cell? ⟨g1, off + j, none⟩ = some (.int .i64 y) ∧ w'.cell? ⟨g2, off' + j, none⟩ = some (.int .i64 y)) (by kernel_rfl) ?hS331 (fun hHeld => ?_)
        case hS331 => exact ⟨⟨c2, d2⟩, x0, y0⟩
        refine wpAnyH_take (i := 0) (v := ?_) rfl (by kernel_rfl) (by kernel_rfl) (by kernel_rfl) (fun _ _ _ h => h) (Or.inl ⟨by rfl, ?hy332⟩) (by assumption) ?ty332
        case hy332 => (intro w hSw; (try dsimp only at hSw); obtain ⟨⟨s0, s1⟩, s2, s3⟩ := hSw; go_simp; all_goals with_reducible rfl)
        simp only [Act.put, List.getElem_toArray, List.getElem_cons_zero, List.setIfInBounds_toArray, List.set_cons_zero, List.set_cons_succ]
        refine wpAnyH_take (i := 1) (v := ?_) rfl (by kernel_rfl) (by kernel_rfl) (by kernel_rfl) (fun _ _ _ h => h) (Or.inl ⟨by rfl, ?hy333⟩) (by assumption) ?ty333
        case hy333 => (intro w hSw; (try dsimp only at hSw); obtain ⟨⟨s0, s1⟩, s2, s3⟩ := hSw; go_simp; all_goals with_reducible rfl)
        simp only [Act.put, List.getElem_toArray, List.getElem_cons_zero, List.getElem_cons_succ, List.setIfInBounds_toArray, List.set_cons_zero, List.set_cons_succ]
        refine wpAnyH_take (i := 2) (v := ?_) rfl (by kernel_rfl) (by kernel_rfl) (by kernel_rfl) (fun _ _ _ h => h) (Or.inl ⟨by rfl, ?hy334⟩) (by assumption) ?ty334
        case hy334 => (intro w hSw; (try dsimp only at hSw); obtain ⟨⟨s0, s1⟩, s2, s3⟩ := hSw; go_simp; all_goals with_reducible rfl)
        simp only [Act.put, List.getElem_toArray, List.getElem_cons_zero, List.getElem_cons_succ, List.setIfInBounds_toArray, List.set_cons_zero, List.set_cons_succ]
        refine wpAnyH_take (i := 3) (v := ?_) rfl (by kernel_rfl) (by kernel_rfl) (by kernel_rfl) (fun _ _ _ h => h) (Or.inl ⟨by rfl, ?hy335⟩) (by assumption) ?ty335
        case hy335 => (intro w hSw; (try dsimp only at hSw); obtain ⟨⟨s0, s1⟩, s2, s3⟩ := hSw; go_simp; all_goals with_reducible rfl)
        simp only [Act.put, List.getElem_toArray, List.getElem_cons_zero, List.getElem_cons_succ, List.setIfInBounds_toArray, List.set_cons_zero, List.set_cons_succ]
        refine wpAnyH_take (i := 4) (v := ?_) rfl (by kernel_rfl) (by kernel_rfl) (by kernel_rfl) (fun _ _ _ h => h) (Or.inl ⟨by rfl, ?hy336⟩) (by assumption) ?ty336
        case hy336 => (intro w hSw; (try dsimp only at hSw); obtain ⟨⟨s0, s1⟩, s2, s3⟩ := hSw; go_simp; all_goals with_reducible rfl)
        simp only [Act.put, List.getElem_toArray, List.getElem_cons_zero, List.getElem_cons_succ, List.setIfInBounds_toArray, List.set_cons_zero, List.set_cons_succ]
        refine wpAnyH_take (i := 5) (v := ?_) rfl (by kernel_rfl) (by kernel_rfl) (by kernel_rfl) (fun _ _ _ h => h) (Or.inl ⟨by rfl, ?hy337⟩) (by assumption) ?ty337
        case hy337 => (intro w hSw; (try dsimp only at hSw); obtain ⟨⟨s0, s1⟩, s2, s3⟩ := hSw; go_simp; all_goals with_reducible rfl)
        simp only [Act.put, List.getElem_toArray, List.getElem_cons_zero, List.getElem_cons_succ, List.setIfInBounds_toArray, List.set_cons_zero, List.set_cons_succ]
        refine wpAnyH_take (i := 6) (v := ?_) rfl (by kernel_rfl) (by kernel_rfl) (by kernel_rfl) (fun _ _ _ h => h) (Or.inl ⟨by rfl, ?hy338⟩) (by assumption) ?ty338
        case hy338 => (intro w hSw; (try dsimp only at hSw); obtain ⟨⟨s0, s1⟩, s2, s3⟩ := hSw; go_simp; all_goals with_reducible rfl)
        simp only [Act.put, List.getElem_toArray, List.getElem_cons_zero, List.getElem_cons_succ, List.setIfInBounds_toArray, List.set_cons_zero, List.set_cons_succ]
        refine wpAnyH_take (i := 7) (v := ?_) rfl (by kernel_rfl) (by kernel_rfl) (by kernel_rfl) (fun _ _ _ h => h) (Or.inl ⟨by rfl, ?hy339⟩) (by assumption) ?ty339
        case hy339 => (intro w hSw; (try dsimp only at hSw); obtain ⟨⟨s0, s1⟩, s2, s3⟩ := hSw; go_simp; all_goals with_reducible rfl)
        simp only [Act.put, List.getElem_toArray, List.getElem_cons_zero, List.getElem_cons_succ, List.setIfInBounds_toArray, List.set_cons_zero, List.set_cons_succ]
        refine wpAnyH_take (i := 8) (v := ?_) rfl (by kernel_rfl) (by kernel_rfl) (by kernel_rfl) (fun _ _ _ h => h) (Or.inl ⟨by rfl, ?hy340⟩) (by assumption) ?ty340
        case hy340 => (intro w hSw; (try dsimp only at hSw); obtain ⟨⟨s0, s1⟩, s2, s3⟩ := hSw; go_simp; all_goals with_reducible rfl)
        simp only [Act.put, List.getElem_toArray, List.getElem_cons_zero, List.getElem_cons_succ, List.setIfInBounds_toArray, List.set_cons_zero, List.set_cons_succ]
        refine wpAnyH_take (i := 9) (v := ?_) rfl (by kernel_rfl) (by kernel_rfl) (by kernel_rfl) (fun _ _ _ h => h) (Or.inl ⟨by rfl, ?hy341⟩) (by assumption) ?ty341
        case hy341 => (intro w hSw; (try dsimp only at hSw); obtain ⟨⟨s0, s1⟩, s2, s3⟩ := hSw; go_simp; all_goals with_reducible rfl)
        simp only [Act.put, List.getElem_toArray, List.getElem_cons_zero, List.getElem_cons_succ, List.setIfInBounds_toArray, List.set_cons_zero, List.set_cons_succ]
        refine wpAnyH_take (i := 10) (v := ?_) rfl (by kernel_rfl) (by kernel_rfl) (by kernel_rfl) (fun _ _ _ h => h) (Or.inl ⟨by rfl, ?hy342⟩) (by assumption) ?ty342
        case hy342 => (intro w hSw; (try dsimp only at hSw); obtain ⟨⟨s0, s1⟩, s2, s3⟩ := hSw; go_simp; all_goals with_reducible rfl)
        simp only [Act.put, List.getElem_toArray, List.getElem_cons_zero, List.getElem_cons_succ, List.setIfInBounds_toArray, List.set_cons_zero, List.set_cons_succ]
        refine wpAnyH_take (i := 11) (v := ?_) rfl (by kernel_rfl) (by kernel_rfl) (by kernel_rfl) (fun _ _ _ h => h) (Or.inl ⟨by rfl, ?hy343⟩) (by assumption) ?ty343
        case hy343 => (intro w hSw; (try dsimp only at hSw); obtain ⟨⟨s0, s1⟩, s2, s3⟩ := hSw; go_simp; all_goals with_reducible rfl)
        simp only [Act.put, List.getElem_toArray, List.getElem_cons_zero, List.getElem_cons_succ, List.setIfInBounds_toArray, List.set_cons_zero, List.set_cons_succ]
        refine wpAnyH_take (i := 12) (v := ?_) rfl (by kernel_rfl) (by kernel_rfl) (by kernel_rfl) (fun _ _ _ h => h) (Or.inl ⟨by rfl, ?hy344⟩) (by assumption) ?ty344
        case hy344 => (intro w hSw; (try dsimp only at hSw); obtain ⟨⟨s0, s1⟩, s2, s3⟩ := hSw; go_simp; all_goals with_reducible rfl)
        simp only [Act.put, List.getElem_toArray, List.getElem_cons_zero, List.getElem_cons_succ, List.setIfInBounds_toArray, List.set_cons_zero, List.set_cons_succ]
        refine wpAnyH_take (i := 13) (v := ?_) rfl (by kernel_rfl) (by kernel_rfl) (by kernel_rfl) (fun _ _ _ h => h) (Or.inl ⟨by rfl, ?hy345⟩) (by assumption) ?ty345
        case hy345 => (intro w hSw; (try dsimp only at hSw); obtain ⟨⟨s0, s1⟩, s2, s3⟩ := hSw; go_simp; all_goals with_reducible rfl)
        simp only [Act.put, List.getElem_toArray, List.getElem_cons_zero, List.getElem_cons_succ, List.setIfInBounds_toArray, List.set_cons_zero, List.set_cons_succ]
        refine wpAnyH_take (i := 14) (v := .bool false) rfl (by kernel_rfl) (by kernel_rfl) (by kernel_rfl) (fun _ _ _ h => h) (Or.inl ⟨by rfl, ?hy346⟩) (by assumption) ?ty346
        case hy346 => (intro w hSw; (try dsimp only at hSw); obtain ⟨⟨s0, s1⟩, s2, s3⟩ := hSw; go_simp; first | (all_goals with_reducible rfl) | (simp; done) | (simp; omega))
        simp only [Act.put, List.getElem_toArray, List.getElem_cons_zero, List.getElem_cons_succ, List.setIfInBounds_toArray, List.set_cons_zero, List.set_cons_succ]
        refine wpAnyH_done (by kernel_rfl) ?_ _
        clear hHeld
        go_wp2
        go_roundw
        case rel => exact ⟨j + 1, by omega, by go_num, HM.out, hbel.trans (Below.refl _ _).drew⟩
        case measure => simp [intOf]; omega
      · have HM : Hid (r = false) := HN.out hyz
        clear HY HN
        go_wp2_with fail
        refine wp_region_held_drew (S := fun w' => (w'.cell? ⟨g, o + 2, none⟩ = some (.slice (some ⟨g1, off, none⟩) n cap) ∧ w'.cell? ⟨h, k + 2, none⟩ = some (.slice (some ⟨g2, off', none⟩) n cap')) ∧ w'.cell? ⟨g1, off + j, none⟩ = some (.int .i64 y) ∧ w'.cell? ⟨g2, off' + j, none⟩ = some (.int .i64 z)) (by kernel_rfl) ?hS347 (fun hHeld => ?_)
        case hS347 => exact ⟨⟨c2, d2⟩, x0, y0⟩
        refine wpAnyH_take (i := 0) (v := ?_) rfl (by kernel_rfl) (by kernel_rfl) (by kernel_rfl) (fun _ _ _ h => h) (Or.inl ⟨by rfl, ?hy348⟩) (by assumption) ?ty348
        case hy348 => (intro w hSw; (try dsimp only at hSw); obtain ⟨⟨s0, s1⟩, s2, s3⟩ := hSw; go_simp; all_goals with_reducible rfl)
        simp only [Act.put, List.getElem_toArray, List.getElem_cons_zero, List.setIfInBounds_toArray, List.set_cons_zero, List.set_cons_succ]
        refine wpAnyH_take (i := 1) (v := ?_) rfl (by kernel_rfl) (by kernel_rfl) (by kernel_rfl) (fun _ _ _ h => h) (Or.inl ⟨by rfl, ?hy349⟩) (by assumption) ?ty349
        case hy349 => (intro w hSw; (try dsimp only at hSw); obtain ⟨⟨s0, s1⟩, s2, s3⟩ := hSw; go_simp; all_goals with_reducible rfl)
        simp only [Act.put, List.getElem_toArray, List.getElem_cons_zero, List.getElem_cons_succ, List.setIfInBounds_toArray, List.set_cons_zero, List.set_cons_succ]
        refine wpAnyH_take (i := 2) (v := ?_) rfl (by kernel_rfl) (by kernel_rfl) (by kernel_rfl) (fun _ _ _ h => h) (Or.inl ⟨by rfl, ?hy350⟩) (by assumption) ?ty350
        case hy350 => (intro w hSw; (try dsimp only at hSw); obtain ⟨⟨s0, s1⟩, s2, s3⟩ := hSw; go_simp; all_goals with_reducible rfl)
        simp only [Act.put, List.getElem_toArray, List.getElem_cons_zero, List.getElem_cons_succ, List.setIfInBounds_toArray, List.set_cons_zero, List.set_cons_succ]
        refine wpAnyH_take (i := 3) (v := ?_) rfl (by kernel_rfl) (by kernel_rfl) (by kernel_rfl) (fun _ _ _ h => h) (Or.inl ⟨by rfl, ?hy351⟩) (by assumption) ?ty351
        case hy351 => (intro w hSw; (try dsimp only at hSw); obtain ⟨⟨s0, s1⟩, s2, s3⟩ := hSw; go_simp; all_goals with_reducible rfl)
        simp only [Act.put, List.getElem_toArray, List.getElem_cons_zero, List.getElem_cons_succ, List.setIfInBounds_toArray, List.set_cons_zero, List.set_cons_succ]
        refine wpAnyH_take (i := 4) (v := ?_) rfl (by kernel_rfl) (by kernel_rfl) (by kernel_rfl) (fun _ _ _ h => h) (Or.inl ⟨by rfl, ?hy352⟩) (by assumption) ?ty352
        case hy352 => (intro w hSw; (try dsimp only at hSw); obtain ⟨⟨s0, s1⟩, s2, s3⟩ := hSw; go_simp; all_goals with_reducible rfl)
        simp only [Act.put, List.getElem_toArray, List.getElem_cons_zero, List.getElem_cons_succ, List.setIfInBounds_toArray, List.set_cons_zero, List.set_cons_succ]
        refine wpAnyH_take (i := 5) (v := ?_) rfl (by kernel_rfl) (by kernel_rfl) (by kernel_rfl) (fun _ _ _ h => h) (Or.inl ⟨by rfl, ?hy353⟩) (by assumption) ?ty353
        case hy353 => (intro w hSw; (try dsimp only at hSw); obtain ⟨⟨s0, s1⟩, s2, s3⟩ := hSw; go_simp; all_goals with_reducible rfl)
        simp only [Act.put, List.getElem_toArray, List.getElem_cons_zero, List.getElem_cons_succ, List.setIfInBounds_toArray, List.set_cons_zero, List.set_cons_succ]
        refine wpAnyH_take (i := 6) (v := ?_) rfl (by kernel_rfl) (by kernel_rfl) (by kernel_rfl) (fun _ _ _ h => h) (Or.inl ⟨by rfl, ?hy354⟩) (by assumption) ?ty354
        case hy354 => (intro w hSw; (try dsimp only at hSw); obtain ⟨⟨s0, s1⟩, s2, s3⟩ := hSw; go_simp; all_goals with_reducible rfl)
        simp only [Act.put, List.getElem_toArray, List.getElem_cons_zero, List.getElem_cons_succ, List.setIfInBounds_toArray, List.set_cons_zero, List.set_cons_succ]
        refine wpAnyH_take (i := 7) (v := ?_) rfl (by kernel_rfl) (by kernel_rfl) (by kernel_rfl) (fun _ _ _ h => h) (Or.inl ⟨by rfl, ?hy355⟩) (by assumption) ?ty355
        case hy355 => (intro w hSw; (try dsimp only at hSw); obtain ⟨⟨s0, s1⟩, s2, s3⟩ := hSw; go_simp; all_goals with_reducible rfl)
        simp only [Act.put, List.getElem_toArray, List.getElem_cons_zero, List.getElem_cons_succ, List.setIfInBounds_toArray, List.set_cons_zero, List.set_cons_succ]
        refine wpAnyH_take (i := 8) (v := ?_) rfl (by kernel_rfl) (by kernel_rfl) (by kernel_rfl) (fun _ _ _ h => h) (Or.inl ⟨by rfl, ?hy356⟩) (by assumption) ?ty356
        case hy356 => (intro w hSw; (try dsimp only at hSw); obtain ⟨⟨s0, s1⟩, s2, s3⟩ := hSw; go_simp; all_goals with_reducible rfl)
        simp only [Act.put, List.getElem_toArray, List.getElem_cons_zero, List.getElem_cons_succ, List.setIfInBounds_toArray, List.set_cons_zero, List.set_cons_succ]
        refine wpAnyH_take (i := 9) (v := ?_) rfl (by kernel_rfl) (by kernel_rfl) (by kernel_rfl) (fun _ _ _ h => h) (Or.inl ⟨by rfl, ?hy357⟩) (by assumption) ?ty357
        case hy357 => (intro w hSw; (try dsimp only at hSw); obtain ⟨⟨s0, s1⟩, s2, s3⟩ := hSw; go_simp; all_goals with_reducible rfl)
        simp only [Act.put, List.getElem_toArray, List.getElem_cons_zero, List.getElem_cons_succ, List.setIfInBounds_toArray, List.set_cons_zero, List.set_cons_succ]
        refine wpAnyH_take (i := 10) (v := ?_) rfl (by kernel_rfl) (by kernel_rfl) (by kernel_rfl) (fun _ _ _ h => h) (Or.inl ⟨by rfl, ?hy358⟩) (by assumption) ?ty358
        case hy358 => (intro w hSw; (try dsimp only at hSw); obtain ⟨⟨s0, s1⟩, s2, s3⟩ := hSw; go_simp; all_goals with_reducible rfl)
        simp only [Act.put, List.getElem_toArray, List.getElem_cons_zero, List.getElem_cons_succ, List.setIfInBounds_toArray, List.set_cons_zero, List.set_cons_succ]
        refine wpAnyH_take (i := 11) (v := ?_) rfl (by kernel_rfl) (by kernel_rfl) (by kernel_rfl) (fun _ _ _ h => h) (Or.inl ⟨by rfl, ?hy359⟩) (by assumption) ?ty359
        case hy359 => (intro w hSw; (try dsimp only at hSw); obtain ⟨⟨s0, s1⟩, s2, s3⟩ := hSw; go_simp; all_goals with_reducible rfl)
        simp only [Act.put, List.getElem_toArray, List.getElem_cons_zero, List.getElem_cons_succ, List.setIfInBounds_toArray, List.set_cons_zero, List.set_cons_succ]
        refine wpAnyH_take (i := 12) (v := ?_) rfl (by kernel_rfl) (by kernel_rfl) (by kernel_rfl) (fun _ _ _ h => h) (Or.inl ⟨by rfl, ?hy360⟩) (by assumption) ?ty360
        case hy360 => (intro w hSw; (try dsimp only at hSw); obtain ⟨⟨s0, s1⟩, s2, s3⟩ := hSw; go_simp; all_goals with_reducible rfl)
        simp only [Act.put, List.getElem_toArray, List.getElem_cons_zero, List.getElem_cons_succ, List.setIfInBounds_toArray, List.set_cons_zero, List.set_cons_succ]
        refine wpAnyH_take (i := 13) (v := ?_) rfl (by kernel_rfl) (by kernel_rfl) (by kernel_rfl) (fun _ _ _ h => h) (Or.inl ⟨by rfl, ?hy361⟩) (by assumption) ?ty361
        case hy361 => (intro w hSw; (try dsimp only at hSw); obtain ⟨⟨s0, s1⟩, s2, s3⟩ := hSw; go_simp; all_goals with_reducible rfl)
        simp only [Act.put, List.getElem_toArray, List.getElem_cons_zero, List.getElem_cons_succ, List.setIfInBounds_toArray, List.set_cons_zero, List.set_cons_succ]
        refine wpAnyH_take (i := 14) (v := .bool true) rfl (by kernel_rfl) (by kernel_rfl) (by kernel_rfl) (fun _ _ _ h => h) (Or.inl ⟨by rfl, ?hy362⟩) (by assumption) ?ty362
        case hy362 => (intro w hSw; (try dsimp only at hSw); obtain ⟨⟨s0, s1⟩, s2, s3⟩ := hSw; go_simp; first | (all_goals with_reducible rfl) | (simp; done) | (simp; omega))
        simp only [Act.put, List.getElem_toArray, List.getElem_cons_zero, List.getElem_cons_succ, List.setIfInBounds_toArray, List.set_cons_zero, List.set_cons_succ]
        refine wpAnyH_done (by kernel_rfl) ?_ _
        clear hHeld
        go_wp2
        go_ret
        exact ⟨by rw [HM.out]; rfl, hbel.trans (Below.refl _ _).drew⟩
    · have hji : ¬ (j : Int) < (n : Int) := by omega
      have HM1 : Hid (∀ q, q < n → nthI ac q = nthI bc q) := fun q hq => hall q (by omega)
      have HBE : Hid (Below w.heap.size w wr) := hbel
      clear hall
      have hB1 := hbel
      clear hbel hB0
      go_wp2
      go_loopw [6] (fun i wr => ∃ j : Nat, j ≤ q2 ∧ i = .int .i64 j ∧ (∀ q, q < j → nthY ay q = nthY by' q) ∧ Below w.heap.size w wr) (fun i _ => q2 - (intOf i).toNat)
      case atStart => exact ⟨0, Nat.zero_le _, rfl, fun q hq => absurd hq (Nat.not_lt_zero _), hB1⟩
      case round =>
        obtain ⟨j, hj, rfl, hall, hbel⟩ := hrel
        have c3 := (hbel.cell (p := ⟨g, o + 3, none⟩) (World.block_lt_of_cell? w _ c3)).trans c3
        have d3 := (hbel.cell (p := ⟨h, k + 3, none⟩) (World.block_lt_of_cell? w _ d3)).trans d3
        by_cases hjn : j < q2
        · have hji : (j : Int) < (q2 : Int) := by omega
          obtain ⟨g1, off, rfl, hglt, hcell⟩ := (hyr.below hbel).at_ (by have := HL.out; omega)
          obtain ⟨g2, off', rfl, hglt', hcell'⟩ := (hyr'.below hbel).at_ (by have := HL.out; omega)
          have x0 := hcell j (by have := HL.out; omega)
          have y0 := hcell' j (by have := HL.out; omega)
          have HY : Hid (nthY ay j = nthY by' j → ∀ q, q < j + 1 → nthY ay q = nthY by' q) := fun h q hq => by
            rcases Nat.lt_or_ge q j with h' | h'
            · exact hall q h'
            · obtain rfl : q = j := by omega
              exact h
          have HN : Hid (nthY ay j ≠ nthY by' j → r = false) := fun h => HB2.out j hjn h
          clear hall hcell hcell'
          generalize nthY ay j = y at *
          generalize nthY by' j = z at *
          obtain ⟨y1, y2⟩ := y
          obtain ⟨z1, z2⟩ := z
          dsimp only at x0 y0
          by_cases hyz : y1 = z1 ∧ y2 = z2
          · obtain ⟨rfl, rfl⟩ := hyz
            have HM : Hid (_) := HY.out rfl
            clear HY HN
            go_wp2_with fail
            refine wp_region_held_drew (S := fun w' => (w'.cell? ⟨g, o + 3, none⟩ = some (.slice (some ⟨g1, off, none⟩) q2 k2) ∧ w'.cell? ⟨h, k + 3, none⟩ = some (.slice (some ⟨g2, off', none⟩) q2 k2')) ∧ (w'.cell? ⟨g1, off + j * 2, none⟩ = some (.int .i64 y1) ∧ w'.cell? ⟨g1, off + j * 2 + 1, none⟩ = some (.int .i64 y2)) ∧ w'.cell? ⟨g2, off' + j * 2, none⟩ = some (.int .i64 y1) ∧ w'.cell? ⟨g2, off' + j * 2 + 1, none⟩ = some (.int .i64 y2)) (by kernel_rfl) ?hS363 (fun hHeld => ?_)
            case hS363 => exact ⟨⟨c3, d3⟩, x0, y0⟩
            refine wpAnyH_take (i := 0) (v := ?_) rfl (by kernel_rfl) (by kernel_rfl) (by kernel_rfl) (fun _ _ _ h => h) (Or.inl ⟨by rfl, ?hy364⟩) (by assumption) ?ty364
            case hy364 => (intro w hSw; (try dsimp only at hSw); obtain ⟨⟨s0, s1⟩, ⟨s2, s3⟩, s4, s5⟩ := hSw; go_simp; all_goals with_reducible rfl)
            simp only [Act.put, List.getElem_toArray, List.getElem_cons_zero, List.setIfInBounds_toArray, List.set_cons_zero, List.set_cons_succ]
            refine wpAnyH_take (i := 1) (v := ?_) rfl (by kernel_rfl) (by kernel_rfl) (by kernel_rfl) (fun _ _ _ h => h) (Or.inl ⟨by rfl, ?hy365⟩) (by assumption) ?ty365
            case hy365 => (intro w hSw; (try dsimp only at hSw); obtain ⟨⟨s0, s1⟩, ⟨s2, s3⟩, s4, s5⟩ := hSw; go_simp; all_goals with_reducible rfl)
            simp only [Act.put, List.getElem_toArray, List.getElem_cons_zero, List.getElem_cons_succ, List.setIfInBounds_toArray, List.set_cons_zero, List.set_cons_succ]
            refine wpAnyH_take (i := 2) (v := ?_) rfl (by kernel_rfl) (by kernel_rfl) (by kernel_rfl) (fun _ _ _ h => h) (Or.inl ⟨by rfl, ?hy366⟩) (by assumption) ?ty366
            case hy366 => (intro w hSw; (try dsimp only at hSw); obtain ⟨⟨s0, s1⟩, ⟨s2, s3⟩, s4, s5⟩ := hSw; go_simp; all_goals with_reducible rfl)
            simp only [Act.put, List.getElem_toArray, List.getElem_cons_zero, List.getElem_cons_succ, List.setIfInBounds_toArray, List.set_cons_zero, List.set_cons_succ]
            refine wpAnyH_take (i := 3) (v := ?_) rfl (by kernel_rfl) (by kernel_rfl) (by kernel_rfl) (fun _ _ _ h => h) (Or.inl ⟨by rfl, ?hy367⟩) (by assumption) ?ty367
            case hy367 => (intro w hSw; (try dsimp only at hSw); obtain ⟨⟨s0, s1⟩, ⟨s2, s3⟩, s4, s5⟩ := hSw; go_simp; all_goals with_reducible rfl)
            simp only [Act.put, List.getElem_toArray, List.getElem_cons_zero, List.getElem_cons_succ, List.setIfInBounds_toArray, List.set_cons_zero, List.set_cons_succ]
            refine wpAnyH_take (i := 4) (v := ?_) rfl (by kernel_rfl) (by kernel_rfl) (by kernel_rfl) (fun _ _ _ h => h) (Or.inl ⟨by rfl, ?hy368⟩) (by assumption) ?ty368
            case hy368 => (intro w hSw; (try dsimp only at hSw); obtain ⟨⟨s0, s1⟩, ⟨s2, s3⟩, s4, s5⟩ := hSw; go_simp; all_goals with_reducible rfl)
            simp only [Act.put, List.getElem_toArray, List.getElem_cons_zero, List.getElem_cons_succ, List.setIfInBounds_toArray, List.set_cons_zero, List.set_cons_succ]
            refine wpAnyH_take (i := 5) (v := ?_) rfl (by kernel_rfl) (by kernel_rfl) (by kernel_rfl) (fun _ _ _ h => h) (Or.inl ⟨by rfl, ?hy369⟩) (by assumption) ?ty369
            case hy369 => (intro w hSw; (try dsimp only at hSw); obtain ⟨⟨s0, s1⟩, ⟨s2, s3⟩, s4, s5⟩ := hSw; go_simp; all_goals with_reducible rfl)
            simp only [Act.put, List.getElem_toArray, List.getElem_cons_zero, List.getElem_cons_succ, List.setIfInBounds_toArray, List.set_cons_zero, List.set_cons_succ]
            refine wpAnyH_take (i := 6) (v := ?_) rfl (by kernel_rfl) (by kernel_rfl) (by kernel_rfl) (fun _ _ _ h => h) (Or.inl ⟨by rfl, ?hy370⟩) (by assumption) ?ty370
            case hy370 => (intro w hSw; (try dsimp only at hSw); obtain ⟨⟨s0, s1⟩, ⟨s2, s3⟩, s4, s5⟩ := hSw; go_simp; all_goals with_reducible rfl)
            simp only [Act.put, List.getElem_toArray, List.getElem_cons_zero, List.getElem_cons_succ, List.setIfInBounds_toArray, List.set_cons_zero, List.set_cons_succ]
            refine wpAnyH_take (i := 7) (v := ?_) rfl (by kernel_rfl) (by kernel_rfl) (by kernel_rfl) (fun _ _ _ h => h) (Or.inl ⟨by rfl, ?hy371⟩) (by assumption) ?ty371
            case hy371 => (intro w hSw; (try dsimp only at hSw); obtain ⟨⟨s0, s1⟩, ⟨s2, s3⟩, s4, s5⟩ := hSw; go_simp; all_goals with_reducible rfl)
            simp only [Act.put, List.getElem_toArray, List.getElem_cons_zero, List.getElem_cons_succ, List.setIfInBounds_toArray, List.set_cons_zero, List.set_cons_succ]
            refine wpAnyH_take (i := 8) (v := ?_) rfl (by kernel_rfl) (by kernel_rfl) (by kernel_rfl) (fun _ _ _ h => h) (Or.inl ⟨by rfl, ?hy372⟩) (by assumption) ?ty372
            case hy372 => (intro w hSw; (try dsimp only at hSw); obtain ⟨⟨s0, s1⟩, ⟨s2, s3⟩, s4, s5⟩ := hSw; go_simp; all_goals with_reducible rfl)
            simp only [Act.put, List.getElem_toArray, List.getElem_cons_zero, List.getElem_cons_succ, List.setIfInBounds_toArray, List.set_cons_zero, List.set_cons_succ]
            refine wpAnyH_take (i := 9) (v := ?_) rfl (by kernel_rfl) (by kernel_rfl) (by kernel_rfl) (fun _ _ _ h => h) (Or.inl ⟨by rfl, ?hy373⟩) (by assumption) ?ty373
            case hy373 => (intro w hSw; (try dsimp only at hSw); obtain ⟨⟨s0, s1⟩, ⟨s2, s3⟩, s4, s5⟩ := hSw; go_simp; all_goals with_reducible rfl)
            simp only [Act.put, List.getElem_toArray, List.getElem_cons_zero, List.getElem_cons_succ, List.setIfInBounds_toArray, List.set_cons_zero, List.set_cons_succ]
            refine wpAnyH_take (i := 10) (v := ?_) rfl (by kernel_rfl) (by kernel_rfl) (by kernel_rfl) (fun _ _ _ h => h) (Or.inl ⟨by rfl, ?hy374⟩) (by assumption) ?ty374
            case hy374 => (intro w hSw; (try dsimp only at hSw); obtain ⟨⟨s0, s1⟩, ⟨s2, s3⟩, s4, s5⟩ := hSw; go_simp; all_goals with_reducible rfl)
            simp only [Act.put, List.getElem_toArray, List.getElem_cons_zero, List.getElem_cons_succ, List.setIfInBounds_toArray, List.set_cons_zero, List.set_cons_succ]
            refine wpAnyH_take (i := 11) (v := ?_) rfl (by kernel_rfl) (by kernel_rfl) (by kernel_rfl) (fun _ _ _ h => h) (Or.inl ⟨by rfl, ?hy375⟩) (by assumption) ?ty375
            case hy375 => (intro w hSw; (try dsimp only at hSw); obtain ⟨⟨s0, s1⟩, ⟨s2, s3⟩, s4, s5⟩ := hSw; go_simp; all_goals with_reducible rfl)
            simp only [Act.put, List.getElem_toArray, List.getElem_cons_zero, List.getElem_cons_succ, List.setIfInBounds_toArray, List.set_cons_zero, List.set_cons_succ]
            refine wpAnyH_take (i := 12) (v := ?_) rfl (by kernel_rfl) (by kernel_rfl) (by kernel_rfl) (fun _ _ _ h => h) (Or.inl ⟨by rfl, ?hy376⟩) (by assumption) ?ty376
            case hy376 => (intro w hSw; (try dsimp only at hSw); obtain ⟨⟨s0, s1⟩, ⟨s2, s3⟩, s4, s5⟩ := hSw; go_simp; all_goals with_reducible rfl)
            simp only [Act.put, List.getElem_toArray, List.getElem_cons_zero, List.getElem_cons_succ, List.setIfInBounds_toArray, List.set_cons_zero, List.set_cons_succ]
            refine wpAnyH_take (i := 13) (v := ?_) rfl (by kernel_rfl) (by kernel_rfl) (by kernel_rfl) (fun _ _ _ h => h) (Or.inl ⟨by rfl, ?hy377⟩) (by assumption) ?ty377
            case hy377 => (intro w hSw; (try dsimp only at hSw); obtain ⟨⟨s0, s1⟩, ⟨s2, s3⟩, s4, s5⟩ := hSw; go_simp; all_goals with_reducible rfl)
            simp only [Act.put, List.getElem_toArray, List.getElem_cons_zero, List.getElem_cons_succ, List.setIfInBounds_toArray, List.set_cons_zero, List.set_cons_succ]
            refine wpAnyH_take (i := 14) (v := .bool false) rfl (by kernel_rfl) (by kernel_rfl) (by kernel_rfl) (fun _ _ _ h => h) (Or.inl ⟨by rfl, ?hy378⟩) (by assumption) ?ty378
            case hy378 => (intro w hSw; (try dsimp only at hSw); obtain ⟨⟨s0, s1⟩, ⟨s2, s3⟩, s4, s5⟩ := hSw; go_simp; first | (all_goals with_reducible rfl) | (simp; done) | (simp; omega))
            simp only [Act.put, List.getElem_toArray, List.getElem_cons_zero, List.getElem_cons_succ, List.setIfInBounds_toArray, List.set_cons_zero, List.set_cons_succ]
            refine wpAnyH_done (by kernel_rfl) ?_ _
            clear hHeld
            go_wp2
            go_roundw
            case rel => exact ⟨j + 1, by omega, by go_num, HM.out, hbel.trans (Below.refl _ _).drew⟩
            case measure => simp [intOf]; omega
          · have HM : Hid (r = false) := HN.out (fun h => hyz (by cases h; exact ⟨rfl, rfl⟩))
            clear HY HN
            go_wp2_with fail
            refine wp_region_held_drew (S := fun w' => (w'.cell? ⟨g, o + 3, none⟩ = some (.slice (some ⟨g1, off, none⟩) q2 k2) ∧ w'.cell? ⟨h, k + 3, none⟩ = some (.slice (some ⟨g2, off', none⟩) q2 k2')) ∧ (w'.cell? ⟨g1, off + j * 2, none⟩ = some (.int .i64 y1) ∧ w'.cell? ⟨g1, off + j * 2 + 1, none⟩ = some (.int .i64 y2)) ∧ w'.cell? ⟨g2, off' + j * 2, none⟩ = some (.int .i64 z1) ∧ w'.cell? ⟨g2, off' + j * 2 + 1, none⟩ = some (.int .i64 z2)) (by kernel_rfl) ?hS379 (fun hHeld => ?_)
            case hS379 => exact ⟨⟨c3, d3⟩, x0, y0⟩
            refine wpAnyH_take (i := 0) (v := ?_) rfl (by kernel_rfl) (by kernel_rfl) (by kernel_rfl) (fun _ _ _ h => h) (Or.inl ⟨by rfl, ?hy380⟩) (by assumption) ?ty380
            case hy380 => (intro w hSw; (try dsimp only at hSw); obtain ⟨⟨s0, s1⟩, ⟨s2, s3⟩, s4, s5⟩ := hSw; go_simp; all_goals with_reducible rfl)
            simp only [Act.put, List.getElem_toArray, List.getElem_cons_zero, List.setIfInBounds_toArray, List.set_cons_zero, List.set_cons_succ]
            refine wpAnyH_take (i := 1) (v := ?_) rfl (by kernel_rfl) (by kernel_rfl) (by kernel_rfl) (fun _ _ _ h => h) (Or.inl ⟨by rfl, ?hy381⟩) (by assumption) ?ty381
            case hy381 => (intro w hSw; (try dsimp only at hSw); obtain ⟨⟨s0, s1⟩, ⟨s2, s3⟩, s4, s5⟩ := hSw; go_simp; all_goals with_reducible rfl)
            simp only [Act.put, List.getElem_toArray, List.getElem_cons_zero, List.getElem_cons_succ, List.setIfInBounds_toArray, List.set_cons_zero, List.set_cons_succ]
            refine wpAnyH_take (i := 2) (v := ?_) rfl (by kernel_rfl) (by kernel_rfl) (by kernel_rfl) (fun _ _ _ h => h) (Or.inl ⟨by rfl, ?hy382⟩) (by assumption) ?ty382
            case hy382 => (intro w hSw; (try dsimp only at hSw); obtain ⟨⟨s0, s1⟩, ⟨s2, s3⟩, s4, s5⟩ := hSw; go_simp; all_goals with_reducible rfl)
            simp only [Act.put, List.getElem_toArray, List.getElem_cons_zero, List.getElem_cons_succ, List.setIfInBounds_toArray, List.set_cons_zero, List.set_cons_succ]
            refine wpAnyH_take (i := 3) (v := ?_) rfl (by kernel_rfl) (by kernel_rfl) (by kernel_rfl) (fun _ _ _ h => h) (Or.inl ⟨by rfl, ?hy383⟩) (by assumption) ?ty383
            case hy383 => (intro w hSw; (try dsimp only at hSw); obtain ⟨⟨s0, s1⟩, ⟨s2, s3⟩, s4, s5⟩ := hSw; go_simp; all_goals with_reducible rfl)
            simp only [Act.put, List.getElem_toArray, List.getElem_cons_zero, List.getElem_cons_succ, List.setIfInBounds_toArray, List.set_cons_zero, List.set_cons_succ]
            refine wpAnyH_take (i := 4) (v := ?_) rfl (by kernel_rfl) (by kernel_rfl) (by kernel_rfl) (fun _ _ _ h => h) (Or.inl ⟨by rfl, ?hy384⟩) (by assumption) ?ty384
            case hy384 => (intro w hSw; (try dsimp only at hSw); obtain ⟨⟨s0, s1⟩, ⟨s2, s3⟩, s4, s5⟩ := hSw; go_simp; all_goals with_reducible rfl)
            simp only [Act.put, List.getElem_toArray, List.getElem_cons_zero, List.getElem_cons_succ, List.setIfInBounds_toArray, List.set_cons_zero, List.set_cons_succ]
            refine wpAnyH_take (i := 5) (v := ?_) rfl (by kernel_rfl) (by kernel_rfl) (by kernel_rfl) (fun _ _ _ h => h) (Or.inl ⟨by rfl, ?hy385⟩) (by assumption) ?ty385
            case hy385 => (intro w hSw; (try dsimp only at hSw); obtain ⟨⟨s0, s1⟩, ⟨s2, s3⟩, s4, s5⟩ := hSw; go_simp; all_goals with_reducible rfl)
            simp only [Act.put, List.getElem_toArray, List.getElem_cons_zero, List.getElem_cons_succ, List.setIfInBounds_toArray, List.set_cons_zero, List.set_cons_succ]
            refine wpAnyH_take (i := 6) (v := ?_) rfl (by kernel_rfl) (by kernel_rfl) (by kernel_rfl) (fun _ _ _ h => h) (Or.inl ⟨by rfl, ?hy386⟩) (by assumption) ?ty386
            case hy386 => (intro w hSw; (try dsimp only at hSw); obtain ⟨⟨s0, s1⟩, ⟨s2, s3⟩, s4, s5⟩ := hSw; go_simp; all_goals with_reducible rfl)
            simp only [Act.put, List.getElem_toArray, List.getElem_cons_zero, List.getElem_cons_succ, List.setIfInBounds_toArray, List.set_cons_zero, List.set_cons_succ]
            refine wpAnyH_take (i := 7) (v := ?_) rfl (by kernel_rfl) (by kernel_rfl) (by kernel_rfl) (fun _ _ _ h => h) (Or.inl ⟨by rfl, ?hy387⟩) (by assumption) ?ty387
            case hy387 => (intro w hSw; (try dsimp only at hSw); obtain ⟨⟨s0, s1⟩, ⟨s2, s3⟩, s4, s5⟩ := hSw; go_simp; all_goals with_reducible rfl)
            simp only [Act.put, List.getElem_toArray, List.getElem_cons_zero, List.getElem_cons_succ, List.setIfInBounds_toArray, List.set_cons_zero, List.set_cons_succ]
            refine wpAnyH_take (i := 8) (v := ?_) rfl (by kernel_rfl) (by kernel_rfl) (by kernel_rfl) (fun _ _ _ h => h) (Or.inl ⟨by rfl, ?hy388⟩) (by assumption) ?ty388
            case hy388 => (intro w hSw; (try dsimp only at hSw); obtain ⟨⟨s0, s1⟩, ⟨s2, s3⟩, s4, s5⟩ := hSw; go_simp; all_goals with_reducible rfl)
            simp only [Act.put, List.getElem_toArray, List.getElem_cons_zero, List.getElem_cons_succ, List.setIfInBounds_toArray, List.set_cons_zero, List.set_cons_succ]
            refine wpAnyH_take (i := 9) (v := ?_) rfl (by kernel_rfl) (by kernel_rfl) (by kernel_rfl) (fun _ _ _ h => h) (Or.inl ⟨by rfl, ?hy389⟩) (by assumption) ?ty389
            case hy389 => (intro w hSw; (try dsimp only at hSw); obtain ⟨⟨s0, s1⟩, ⟨s2, s3⟩, s4, s5⟩ := hSw; go_simp; all_goals with_reducible rfl)
            simp only [Act.put, List.getElem_toArray, List.getElem_cons_zero, List.getElem_cons_succ, List.setIfInBounds_toArray, List.set_cons_zero, List.set_cons_succ]
            refine wpAnyH_take (i := 10) (v := ?_) rfl (by kernel_rfl) (by kernel_rfl) (by kernel_rfl) (fun _ _ _ h => h) (Or.inl ⟨by rfl, ?hy390⟩) (by assumption) ?ty390
            case hy390 => (intro w hSw; (try dsimp only at hSw); obtain ⟨⟨s0, s1⟩, ⟨s2, s3⟩, s4, s5⟩ := hSw; go_simp; all_goals with_reducible rfl)
            simp only [Act.put, List.getElem_toArray, List.getElem_cons_zero, List.getElem_cons_succ, List.setIfInBounds_toArray, List.set_cons_zero, List.set_cons_succ]
            refine wpAnyH_take (i := 11) (v := ?_) rfl (by kernel_rfl) (by kernel_rfl) (by kernel_rfl) (fun _ _ _ h => h) (Or.inl ⟨by rfl, ?hy391⟩) (by assumption) ?ty391
            case hy391 => (intro w hSw; (try dsimp only at hSw); obtain ⟨⟨s0, s1⟩, ⟨s2, s3⟩, s4, s5⟩ := hSw; go_simp; all_goals with_reducible rfl)
            simp only [Act.put, List.getElem_toArray, List.getElem_cons_zero, List.getElem_cons_succ, List.setIfInBounds_toArray, List.set_cons_zero, List.set_cons_succ]
            refine wpAnyH_take (i := 12) (v := ?_) rfl (by kernel_rfl) (by kernel_rfl) (by kernel_rfl) (fun _ _ _ h => h) (Or.inl ⟨by rfl, ?hy392⟩) (by assumption) ?ty392
            case hy392 => (intro w hSw; (try dsimp only at hSw); obtain ⟨⟨s0, s1⟩, ⟨s2, s3⟩, s4, s5⟩ := hSw; go_simp; all_goals with_reducible rfl)
            simp only [Act.put, List.getElem_toArray, List.getElem_cons_zero, List.getElem_cons_succ, List.setIfInBounds_toArray, List.set_cons_zero, List.set_cons_succ]
            refine wpAnyH_take (i := 13) (v := ?_) rfl (by kernel_rfl) (by kernel_rfl) (by kernel_rfl) (fun _ _ _ h => h) (Or.inl ⟨by rfl, ?hy393⟩) (by assumption) ?ty393
            case hy393 => (intro w hSw; (try dsimp only at hSw); obtain ⟨⟨s0, s1⟩, ⟨s2, s3⟩, s4, s5⟩ := hSw; go_simp; all_goals with_reducible rfl)
            simp only [Act.put, List.getElem_toArray, List.getElem_cons_zero, List.getElem_cons_succ, List.setIfInBounds_toArray, List.set_cons_zero, List.set_cons_succ]
            refine wpAnyH_take (i := 14) (v := .bool true) rfl (by kernel_rfl) (by kernel_rfl) (by kernel_rfl) (fun _ _ _ h => h) (Or.inl ⟨by rfl, ?hy394⟩) (by assumption) ?ty394
            case hy394 => (intro w hSw; (try dsimp only at hSw); obtain ⟨⟨s0, s1⟩, ⟨s2, s3⟩, s4, s5⟩ := hSw; go_simp; first | (exact fun h1 h2 => hyz ⟨h1, h2⟩) | (simp; done) | (simp [hyz]; done) | (simp; omega))
            simp only [Act.put, List.getElem_toArray, List.getElem_cons_zero, List.getElem_cons_succ, List.setIfInBounds_toArray, List.set_cons_zero, List.set_cons_succ]
            refine wpAnyH_done (by kernel_rfl) ?_ _
            clear hHeld
            go_wp2
            go_ret
            exact ⟨by rw [HM.out]; rfl, hbel.trans (Below.refl _ _).drew⟩
        · have hji : ¬ (j : Int) < (q2 : Int) := by omega
          have HM : Hid (r = true) := HA.out HM1.out (fun q hq => hall q (by omega))
          clear hall
          go_wp2
          go_ret
          exact ⟨by rw [HM.out]; rfl, hbel⟩

set_option maxHeartbeats 1600000 in
set_option maxRecDepth 100000 in
theorem specSameTerms_any (l l' : List TmR) (s s' : SlQ) {lo lo' : Nat} (w : World) (hs : IsTs lo w s l) (hs' : IsTs lo' w s' l') :
    Calls Try.prog 19 #[slW s, slW s'] w fun e w' => e = .returned (.bool (smTs l l')) ∧ Below w.heap.size w w' := by
  obtain ⟨a, n, cap⟩ := s
  obtain ⟨a', n', cap'⟩ := s'
  obtain ⟨hl, hnc, hcm, hr⟩ := hs
  obtain ⟨hl', hnc', hcm', hr'⟩ := hs'
  dsimp only [slW] at *
  unfold maxLen at hcm hcm'
  have HL : Hid (l.length = n ∧ l'.length = n') := ⟨hl, hl'⟩
  have HB : Hid (∀ k, k < n → smT (nthTm l k) (nthTm l' k) = false → smTs l l' = false) := fun k hk h => eqH_bad (by rw [hl]; exact hk) h
  have HE : Hid (n ≠ n' → smTs l l' = false) := fun h => eqH_ne (by rw [hl, hl']; exact h)
  have HA : Hid (n = n' → (∀ k, k < n → smT (nthTm l k) (nthTm l' k) = true) → smTs l l' = true) := fun h h' => eqH_all (by rw [hl, hl']; exact h) (fun k hk => h' k (by omega))
  generalize smTs l l' = r at *
  clear hl hl'
  go_enter Try.func19, Try.ntmps19
  by_cases hnn : n = n'
  · subst hnn
    go_wp2
    go_loopw [5] (fun i wr => ∃ k : Nat, k ≤ n ∧ i = .int .i64 k ∧ (∀ j, j < k → smT (nthTm l j) (nthTm l' j) = true) ∧ Below w.heap.size w wr) (fun i _ => n - (intOf i).toNat)
    case atStart => exact ⟨0, Nat.zero_le _, rfl, fun j hj => absurd hj (Nat.not_lt_zero _), Below.refl _ _⟩
    case round =>
      obtain ⟨k, hk, rfl, hall, hbel⟩ := hrel
      by_cases hkn : k < n
      · have hki : (k : Int) < (n : Int) := by omega
        obtain ⟨g, off, rfl, -, hglt, hcell⟩ := (hr.below hbel).at_ (by have := HL.out; omega)
        obtain ⟨g', off', rfl, -, hglt', hcell'⟩ := (hr'.below hbel).at_ (by have := HL.out; omega)
        obtain ⟨q, hc, hIq⟩ := hcell k (by have := HL.out; omega)
        obtain ⟨q', hc', hIq'⟩ := hcell' k (by have := HL.out; omega)
        have HY : Hid (smT (nthTm l k) (nthTm l' k) = true → ∀ j, j < k + 1 → smT (nthTm l j) (nthTm l' j) = true) := fun h j hj => by
          rcases Nat.lt_or_ge j k with h' | h'
          · exact hall j h'
          · obtain rfl : j = k := by omega
            exact h
        have HN : Hid (smT (nthTm l k) (nthTm l' k) = false → r = false) := fun h => HB.out k hkn h
        have HC : Hid (∀ w' : World, Below wr.heap.size wr w' → Calls Try.prog 37 #[.pointer (some ⟨g, off + k * 6, none⟩), .pointer (some ⟨g', off' + k * 6, none⟩)] w' fun e w'' => e = .returned (.bool (smT (nthTm l k) (nthTm l' k))) ∧ Below w'.heap.size w' w'') := fun w' hb => l12Same_any (nthTm l k) (nthTm l' k) q q' g (off + k * 6) g' (off' + k * 6) w' (hIq.below hb) (hIq'.below hb) (by obtain ⟨c0, c1, c2, c3, c4, c5⟩ := hc; exact ⟨(hb.cell (p := ⟨g, off + k * 6, none⟩) hglt).trans c0, (hb.cell (p := ⟨g, off + k * 6 + 1, none⟩) hglt).trans c1, (hb.cell (p := ⟨g, off + k * 6 + 2, none⟩) hglt).trans c2, (hb.cell (p := ⟨g, off + k * 6 + 3, none⟩) hglt).trans c3, (hb.cell (p := ⟨g, off + k * 6 + 4, none⟩) hglt).trans c4, (hb.cell (p := ⟨g, off + k * 6 + 5, none⟩) hglt).trans c5⟩) (by obtain ⟨c0, c1, c2, c3, c4, c5⟩ := hc'; exact ⟨(hb.cell (p := ⟨g', off' + k * 6, none⟩) hglt').trans c0, (hb.cell (p := ⟨g', off' + k * 6 + 1, none⟩) hglt').trans c1, (hb.cell (p := ⟨g', off' + k * 6 + 2, none⟩) hglt').trans c2, (hb.cell (p := ⟨g', off' + k * 6 + 3, none⟩) hglt').trans c3, (hb.cell (p := ⟨g', off' + k * 6 + 4, none⟩) hglt').trans c4, (hb.cell (p := ⟨g', off' + k * 6 + 5, none⟩) hglt').trans c5⟩)
        clear hall hcell hcell' hc hc' hIq hIq'
        generalize smT (nthTm l k) (nthTm l' k) = bv at *
        go_wp2_with fail
        refine wp_region_held_drew (S := fun _ => True) (by kernel_rfl) ?hS395 (fun hHeld => ?_)
        case hS395 => exact trivial
        refine wpAnyH_take (i := 0) (v := ?_) rfl (by kernel_rfl) (by kernel_rfl) (by kernel_rfl) (fun _ _ _ h => h) (Or.inl ⟨by rfl, ?hy396⟩) (by assumption) ?ty396
        case hy396 => (intro w hSw; (try dsimp only at hSw); go_simp; all_goals with_reducible rfl)
        simp only [Act.put, List.getElem_toArray, List.getElem_cons_zero, List.setIfInBounds_toArray, List.set_cons_zero, List.set_cons_succ]
        refine wpAnyH_take (i := 1) (v := ?_) rfl (by kernel_rfl) (by kernel_rfl) (by kernel_rfl) (fun _ _ _ h => h) (Or.inl ⟨by rfl, ?hy397⟩) (by assumption) ?ty397
        case hy397 => (intro w hSw; (try dsimp only at hSw); go_simp; all_goals with_reducible rfl)
        simp only [Act.put, List.getElem_toArray, List.getElem_cons_zero, List.getElem_cons_succ, List.setIfInBounds_toArray, List.set_cons_zero, List.set_cons_succ]
        refine wpAnyH_take (i := 2) (v := ?_) rfl (by kernel_rfl) (by kernel_rfl) (by kernel_rfl) (fun _ _ _ h => h) (Or.inl ⟨by rfl, ?hy398⟩) (by assumption) ?ty398
        case hy398 => (intro w hSw; (try dsimp only at hSw); go_simp; all_goals with_reducible rfl)
        simp only [Act.put, List.getElem_toArray, List.getElem_cons_zero, List.getElem_cons_succ, List.setIfInBounds_toArray, List.set_cons_zero, List.set_cons_succ]
        refine wpAnyH_take (i := 3) (v := ?_) rfl (by kernel_rfl) (by kernel_rfl) (by kernel_rfl) (fun _ _ _ h => h) (Or.inl ⟨by rfl, ?hy399⟩) (by assumption) ?ty399
        case hy399 => (intro w hSw; (try dsimp only at hSw); go_simp; all_goals with_reducible rfl)
        simp only [Act.put, List.getElem_toArray, List.getElem_cons_zero, List.getElem_cons_succ, List.setIfInBounds_toArray, List.set_cons_zero, List.set_cons_succ]
        refine wpAnyH_take (i := 4) (v := ?_) rfl (by kernel_rfl) (by kernel_rfl) (by kernel_rfl) (fun _ _ _ h => h) (Or.inl ⟨by rfl, ?hy400⟩) (by assumption) ?ty400
        case hy400 => (intro w hSw; (try dsimp only at hSw); go_simp; all_goals with_reducible rfl)
        simp only [Act.put, List.getElem_toArray, List.getElem_cons_zero, List.getElem_cons_succ, List.setIfInBounds_toArray, List.set_cons_zero, List.set_cons_succ]
        refine wpAnyH_take (i := 5) (v := ?_) rfl (by kernel_rfl) (by kernel_rfl) (by kernel_rfl) (fun _ _ _ h => h) (Or.inl ⟨by rfl, ?hy401⟩) (by assumption) ?ty401
        case hy401 => (intro w hSw; (try dsimp only at hSw); go_simp; all_goals with_reducible rfl)
        simp only [Act.put, List.getElem_toArray, List.getElem_cons_zero, List.getElem_cons_succ, List.setIfInBounds_toArray, List.set_cons_zero, List.set_cons_succ]
        refine wpAnyH_ready (rs := [6]) (by kernel_rfl) (by simp) ?_
        refine AllReadyH.cons rfl (fun K hK => ?_) AllReadyH.nil
        go_simp
        refine (HC.out _ (Below.refl _ _).drew).mono ?_
        rintro e w1 ⟨rfl, hb0⟩
        have hb1 : Below wr.heap.size wr w1 := (Below.refl _ _).drew.trans hb0
        refine hK.out _ _ trivial (fun hHeld => ?_)
        clear hK K
        refine wpAnyH_take (i := 7) (v := ?_) rfl (by kernel_rfl) (by kernel_rfl) (by kernel_rfl) (fun _ _ _ h => h) (Or.inl ⟨by rfl, ?hy402⟩) (by assumption) ?ty402
        case hy402 => (intro w hSw; (try dsimp only at hSw); go_simp; all_goals with_reducible rfl)
        simp only [Act.put, List.getElem_toArray, List.getElem_cons_zero, List.getElem_cons_succ, List.setIfInBounds_toArray, List.set_cons_zero, List.set_cons_succ]
        refine wpAnyH_done (by kernel_rfl) ?_ _
        have hbel2 := hbel.trans (hb1.mono hbel.size)
        clear hHeld hb1 HC
        cases bv with
        | true =>
          have HM : Hid (_) := HY.out rfl
          clear HY HN
          go_wp2
          go_roundw
          case rel => exact ⟨k + 1, by omega, by go_num, HM.out, hbel2⟩
          case measure => simp [intOf]; omega
        | false =>
          have HM : Hid (r = false) := HN.out rfl
          clear HY HN
          go_wp2
          go_ret
          exact ⟨by rw [HM.out]; rfl, hbel2⟩
      · have hki : ¬ (k : Int) < (n : Int) := by omega
        have HM : Hid (r = true) := HA.out (by trivial) (fun j hj => hall j (by omega))
        clear hall
        go_wp2
        go_ret
        exact ⟨by rw [HM.out]; rfl, hbel⟩
  · have hnn' : ¬ (n : Int) = (n' : Int) := by omega
    have HM : Hid (r = false) := HE.out hnn
    go_wp2
    go_ret
    exact ⟨by rw [HM.out]; rfl, Below.refl _ _⟩
end Go.Proofs.Ytaiificlempeaaa
