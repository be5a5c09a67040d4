/- Whether two messages, two mailboxes, two stores are the same: the model's side; no conditions beyond those that each fact names. -/
import Derived.Test.YtnnanhjpnilndaaSmc
namespace Go.Proofs.Ytnnanhjpnilndaa
open Go.RowKit

set_option maxHeartbeats 3200000 in
set_option maxRecDepth 100000 in
theorem l7Same_any (v v' : Int) (l l' : List Bx) (s s' : SlQ) (g h : Nat) {lo lo' : Nat} (w : World) (hs : IsXs lo w s l) (hs' : IsXs lo' w s' l')
    (c0 : w.cell? ⟨g, 0, none⟩ = some (.int .i64 v)) (c3 : w.cell? ⟨g, 1, none⟩ = some (slW s)) (d0 : w.cell? ⟨h, 0, none⟩ = some (.int .i64 v')) (d3 : w.cell? ⟨h, 1, none⟩ = some (slW s')) :
    Calls Try.prog 53 #[.pointer (some ⟨g, 0, none⟩), .pointer (some ⟨h, 0, none⟩)] w fun e w' => e = .returned (.bool (smS v v' l l')) ∧ Below w.heap.size w w' := by
  obtain ⟨a1, n, cap⟩ := s
  obtain ⟨a2, n', cap'⟩ := s'
  obtain ⟨hl, hnc, hcm, hr⟩ := hs
  obtain ⟨hl', hnc', hcm', hr'⟩ := hs'
  dsimp only [slW] at *
  have HV : Hid (smS v v' l l' = (decide (v = v') && eqG n n' (fun i => smX (nthX l i) (nthX l' i)))) := by show _ = _; unfold smS; rw [hl, hl']
  generalize smS v v' l l' = r at *
  unfold maxLen at hcm hcm'
  go_enter Try.func53, Try.ntmps53
  by_cases h1 : v = v'
  · by_cases h4 : n = n'
    · have HA : Hid ((∀ i, i < n → smX (nthX l i) (nthX l' i) = true) → r = true) := fun hh => by rw [HV.out, eqG_all h4 hh]; simp [h1]
      have HB : Hid (∀ i, i < n → smX (nthX l i) (nthX l' i) = false → r = false) := fun i hi hh => by rw [HV.out, eqG_bad hi hh]; simp
      clear HV
      subst h4
      go_wp2_with fail
      refine wp_region_held_drew (S := fun w' => (w'.cell? ⟨g, 0, none⟩ = some (.int .i64 v) ∧ w'.cell? ⟨g, 1, none⟩ = some (.slice a1 n cap)) ∧ (w'.cell? ⟨h, 0, none⟩ = some (.int .i64 v') ∧ w'.cell? ⟨h, 1, none⟩ = some (.slice a2 n cap'))) (by kernel_rfl) ?hS351 (fun hHeld => ?_)
      case hS351 => exact ⟨⟨c0, c3⟩, ⟨d0, d3⟩⟩
      refine wpAnyH_take (i := 0) (v := ?_) rfl (by kernel_rfl) (by kernel_rfl) (by kernel_rfl) (fun _ _ _ h => h) (Or.inl ⟨by rfl, ?hy352⟩) (by assumption) ?ty352
      case hy352 => (intro w hSw; (try dsimp only at hSw); obtain ⟨⟨e0, e1⟩, ⟨f0, f1⟩⟩ := hSw;  go_simp; all_goals with_reducible rfl)
      simp only [Act.put, List.getElem_toArray, List.getElem_cons_zero, List.setIfInBounds_toArray, List.set_cons_zero, List.set_cons_succ]
      refine wpAnyH_take (i := 1) (v := ?_) rfl (by kernel_rfl) (by kernel_rfl) (by kernel_rfl) (fun _ _ _ h => h) (Or.inl ⟨by rfl, ?hy353⟩) (by assumption) ?ty353
      case hy353 => (intro w hSw; (try dsimp only at hSw); obtain ⟨⟨e0, e1⟩, ⟨f0, f1⟩⟩ := hSw;  go_simp; all_goals with_reducible rfl)
      simp only [Act.put, List.getElem_toArray, List.getElem_cons_zero, List.getElem_cons_succ, List.setIfInBounds_toArray, List.set_cons_zero, List.set_cons_succ]
      refine wpAnyH_take (i := 2) (v := ?_) rfl (by kernel_rfl) (by kernel_rfl) (by kernel_rfl) (fun _ _ _ h => h) (Or.inl ⟨by rfl, ?hy354⟩) (by assumption) ?ty354
      case hy354 => (intro w hSw; (try dsimp only at hSw); obtain ⟨⟨e0, e1⟩, ⟨f0, f1⟩⟩ := hSw;  go_simp; all_goals with_reducible rfl)
      simp only [Act.put, List.getElem_toArray, List.getElem_cons_zero, List.getElem_cons_succ, List.setIfInBounds_toArray, List.set_cons_zero, List.set_cons_succ]
      refine wpAnyH_take (i := 3) (v := ?_) rfl (by kernel_rfl) (by kernel_rfl) (by kernel_rfl) (fun _ _ _ h => h) (Or.inl ⟨by rfl, ?hy355⟩) (by assumption) ?ty355
      case hy355 => (intro w hSw; (try dsimp only at hSw); obtain ⟨⟨e0, e1⟩, ⟨f0, f1⟩⟩ := hSw;  go_simp; all_goals with_reducible rfl)
      simp only [Act.put, List.getElem_toArray, List.getElem_cons_zero, List.getElem_cons_succ, List.setIfInBounds_toArray, List.set_cons_zero, List.set_cons_succ]
      refine wpAnyH_take (i := 4) (v := ?_) rfl (by kernel_rfl) (by kernel_rfl) (by kernel_rfl) (fun _ _ _ h => h) (Or.inl ⟨by rfl, ?hy356⟩) (by assumption) ?ty356
      case hy356 => (intro w hSw; (try dsimp only at hSw); obtain ⟨⟨e0, e1⟩, ⟨f0, f1⟩⟩ := hSw;  go_simp; all_goals with_reducible rfl)
      simp only [Act.put, List.getElem_toArray, List.getElem_cons_zero, List.getElem_cons_succ, List.setIfInBounds_toArray, List.set_cons_zero, List.set_cons_succ]
      refine wpAnyH_take (i := 5) (v := ?_) rfl (by kernel_rfl) (by kernel_rfl) (by kernel_rfl) (fun _ _ _ h => h) (Or.inl ⟨by rfl, ?hy357⟩) (by assumption) ?ty357
      case hy357 => (intro w hSw; (try dsimp only at hSw); obtain ⟨⟨e0, e1⟩, ⟨f0, f1⟩⟩ := hSw;  go_simp; all_goals with_reducible rfl)
      simp only [Act.put, List.getElem_toArray, List.getElem_cons_zero, List.getElem_cons_succ, List.setIfInBounds_toArray, List.set_cons_zero, List.set_cons_succ]
      refine wpAnyH_take (i := 6) (v := ?_) rfl (by kernel_rfl) (by kernel_rfl) (by kernel_rfl) (fun _ _ _ h => h) (Or.inl ⟨by rfl, ?hy358⟩) (by assumption) ?ty358
      case hy358 => (intro w hSw; (try dsimp only at hSw); obtain ⟨⟨e0, e1⟩, ⟨f0, f1⟩⟩ := hSw;  go_simp; all_goals with_reducible rfl)
      simp only [Act.put, List.getElem_toArray, List.getElem_cons_zero, List.getElem_cons_succ, List.setIfInBounds_toArray, List.set_cons_zero, List.set_cons_succ]
      refine wpAnyH_take (i := 7) (v := ?_) rfl (by kernel_rfl) (by kernel_rfl) (by kernel_rfl) (fun _ _ _ h => h) (Or.inl ⟨by rfl, ?hy359⟩) (by assumption) ?ty359
      case hy359 => (intro w hSw; (try dsimp only at hSw); obtain ⟨⟨e0, e1⟩, ⟨f0, f1⟩⟩ := hSw;  go_simp; all_goals with_reducible rfl)
      simp only [Act.put, List.getElem_toArray, List.getElem_cons_zero, List.getElem_cons_succ, List.setIfInBounds_toArray, List.set_cons_zero, List.set_cons_succ]
      refine wpAnyH_take (i := 8) (v := .bool false) rfl (by kernel_rfl) (by kernel_rfl) (by kernel_rfl) (fun _ _ _ h => h) (Or.inl ⟨by rfl, ?hy360⟩) (by assumption) ?ty360
      case hy360 => (intro w hSw; (try dsimp only at hSw); obtain ⟨⟨e0, e1⟩, ⟨f0, f1⟩⟩ := hSw;  go_simp; first | (all_goals with_reducible rfl) | (simp; done) | (simp; omega))
      simp only [Act.put, List.getElem_toArray, List.getElem_cons_zero, List.getElem_cons_succ, List.setIfInBounds_toArray, List.set_cons_zero, List.set_cons_succ]
      refine wpAnyH_take (i := 9) (v := ?_) rfl (by kernel_rfl) (by kernel_rfl) (by kernel_rfl) (fun _ _ _ h => h) (Or.inl ⟨by rfl, ?hy361⟩) (by assumption) ?ty361
      case hy361 => (intro w hSw; (try dsimp only at hSw); obtain ⟨⟨e0, e1⟩, ⟨f0, f1⟩⟩ := hSw;  go_simp; all_goals with_reducible rfl)
      simp only [Act.put, List.getElem_toArray, List.getElem_cons_zero, List.getElem_cons_succ, List.setIfInBounds_toArray, List.set_cons_zero, List.set_cons_succ]
      refine wpAnyH_take (i := 10) (v := ?_) rfl (by kernel_rfl) (by kernel_rfl) (by kernel_rfl) (fun _ _ _ h => h) (Or.inl ⟨by rfl, ?hy362⟩) (by assumption) ?ty362
      case hy362 => (intro w hSw; (try dsimp only at hSw); obtain ⟨⟨e0, e1⟩, ⟨f0, f1⟩⟩ := hSw;  go_simp; all_goals with_reducible rfl)
      simp only [Act.put, List.getElem_toArray, List.getElem_cons_zero, List.getElem_cons_succ, List.setIfInBounds_toArray, List.set_cons_zero, List.set_cons_succ]
      refine wpAnyH_take (i := 11) (v := ?_) rfl (by kernel_rfl) (by kernel_rfl) (by kernel_rfl) (fun _ _ _ h => h) (Or.inl ⟨by rfl, ?hy363⟩) (by assumption) ?ty363
      case hy363 => (intro w hSw; (try dsimp only at hSw); obtain ⟨⟨e0, e1⟩, ⟨f0, f1⟩⟩ := hSw;  go_simp; all_goals with_reducible rfl)
      simp only [Act.put, List.getElem_toArray, List.getElem_cons_zero, List.getElem_cons_succ, List.setIfInBounds_toArray, List.set_cons_zero, List.set_cons_succ]
      refine wpAnyH_take (i := 12) (v := ?_) rfl (by kernel_rfl) (by kernel_rfl) (by kernel_rfl) (fun _ _ _ h => h) (Or.inl ⟨by rfl, ?hy364⟩) (by assumption) ?ty364
      case hy364 => (intro w hSw; (try dsimp only at hSw); obtain ⟨⟨e0, e1⟩, ⟨f0, f1⟩⟩ := hSw;  go_simp; all_goals with_reducible rfl)
      simp only [Act.put, List.getElem_toArray, List.getElem_cons_zero, List.getElem_cons_succ, List.setIfInBounds_toArray, List.set_cons_zero, List.set_cons_succ]
      refine wpAnyH_take (i := 13) (v := ?_) rfl (by kernel_rfl) (by kernel_rfl) (by kernel_rfl) (fun _ _ _ h => h) (Or.inl ⟨by rfl, ?hy365⟩) (by assumption) ?ty365
      case hy365 => (intro w hSw; (try dsimp only at hSw); obtain ⟨⟨e0, e1⟩, ⟨f0, f1⟩⟩ := hSw;  go_simp; all_goals with_reducible rfl)
      simp only [Act.put, List.getElem_toArray, List.getElem_cons_zero, List.getElem_cons_succ, List.setIfInBounds_toArray, List.set_cons_zero, List.set_cons_succ]
      refine wpAnyH_take (i := 14) (v := ?_) rfl (by kernel_rfl) (by kernel_rfl) (by kernel_rfl) (fun _ _ _ h => h) (Or.inl ⟨by rfl, ?hy366⟩) (by assumption) ?ty366
      case hy366 => (intro w hSw; (try dsimp only at hSw); obtain ⟨⟨e0, e1⟩, ⟨f0, f1⟩⟩ := hSw;  go_simp; all_goals with_reducible rfl)
      simp only [Act.put, List.getElem_toArray, List.getElem_cons_zero, List.getElem_cons_succ, List.setIfInBounds_toArray, List.set_cons_zero, List.set_cons_succ]
      refine wpAnyH_take (i := 15) (v := ?_) rfl (by kernel_rfl) (by kernel_rfl) (by kernel_rfl) (fun _ _ _ h => h) (Or.inl ⟨by rfl, ?hy367⟩) (by assumption) ?ty367
      case hy367 => (intro w hSw; (try dsimp only at hSw); obtain ⟨⟨e0, e1⟩, ⟨f0, f1⟩⟩ := hSw;  go_simp; all_goals with_reducible rfl)
      simp only [Act.put, List.getElem_toArray, List.getElem_cons_zero, List.getElem_cons_succ, List.setIfInBounds_toArray, List.set_cons_zero, List.set_cons_succ]
      refine wpAnyH_take (i := 16) (v := ?_) rfl (by kernel_rfl) (by kernel_rfl) (by kernel_rfl) (fun _ _ _ h => h) (Or.inl ⟨by rfl, ?hy368⟩) (by assumption) ?ty368
      case hy368 => (intro w hSw; (try dsimp only at hSw); obtain ⟨⟨e0, e1⟩, ⟨f0, f1⟩⟩ := hSw;  go_simp; all_goals with_reducible rfl)
      simp only [Act.put, List.getElem_toArray, List.getElem_cons_zero, List.getElem_cons_succ, List.setIfInBounds_toArray, List.set_cons_zero, List.set_cons_succ]
      refine wpAnyH_take (i := 17) (v := ?_) rfl (by kernel_rfl) (by kernel_rfl) (by kernel_rfl) (fun _ _ _ h => h) (Or.inl ⟨by rfl, ?hy369⟩) (by assumption) ?ty369
      case hy369 => (intro w hSw; (try dsimp only at hSw); obtain ⟨⟨e0, e1⟩, ⟨f0, f1⟩⟩ := hSw;  go_simp; all_goals with_reducible rfl)
      simp only [Act.put, List.getElem_toArray, List.getElem_cons_zero, List.getElem_cons_succ, List.setIfInBounds_toArray, List.set_cons_zero, List.set_cons_succ]
      refine wpAnyH_take (i := 18) (v := ?_) rfl (by kernel_rfl) (by kernel_rfl) (by kernel_rfl) (fun _ _ _ h => h) (Or.inl ⟨by rfl, ?hy370⟩) (by assumption) ?ty370
      case hy370 => (intro w hSw; (try dsimp only at hSw); obtain ⟨⟨e0, e1⟩, ⟨f0, f1⟩⟩ := hSw;  go_simp; all_goals with_reducible rfl)
      simp only [Act.put, List.getElem_toArray, List.getElem_cons_zero, List.getElem_cons_succ, List.setIfInBounds_toArray, List.set_cons_zero, List.set_cons_succ]
      refine wpAnyH_take (i := 19) (v := ?_) rfl (by kernel_rfl) (by kernel_rfl) (by kernel_rfl) (fun _ _ _ h => h) (Or.inl ⟨by rfl, ?hy371⟩) (by assumption) ?ty371
      case hy371 => (intro w hSw; (try dsimp only at hSw); obtain ⟨⟨e0, e1⟩, ⟨f0, f1⟩⟩ := hSw;  go_simp; all_goals with_reducible rfl)
      simp only [Act.put, List.getElem_toArray, List.getElem_cons_zero, List.getElem_cons_succ, List.setIfInBounds_toArray, List.set_cons_zero, List.set_cons_succ]
      refine wpAnyH_take (i := 20) (v := .bool false) rfl (by kernel_rfl) (by kernel_rfl) (by kernel_rfl) (fun _ _ _ h => h) (Or.inl ⟨by rfl, ?hy372⟩) (by assumption) ?ty372
      case hy372 => (intro w hSw; (try dsimp only at hSw); obtain ⟨⟨e0, e1⟩, ⟨f0, f1⟩⟩ := hSw;  go_simp; first | (all_goals with_reducible rfl) | (simp; done) | (simp; omega))
      simp only [Act.put, List.getElem_toArray, List.getElem_cons_zero, List.getElem_cons_succ, List.setIfInBounds_toArray, List.set_cons_zero, List.set_cons_succ]
      refine wpAnyH_take (i := 21) (v := .bool false) rfl (by kernel_rfl) (by kernel_rfl) (by kernel_rfl) (fun _ _ _ h => h) (Or.inl ⟨by rfl, ?hy373⟩) (by assumption) ?ty373
      case hy373 => (intro w hSw; (try dsimp only at hSw); obtain ⟨⟨e0, e1⟩, ⟨f0, f1⟩⟩ := hSw;  go_simp; first | (all_goals with_reducible rfl) | (simp; done) | (simp; omega))
      simp only [Act.put, List.getElem_toArray, List.getElem_cons_zero, List.getElem_cons_succ, List.setIfInBounds_toArray, List.set_cons_zero, List.set_cons_succ]
      refine wpAnyH_done (by kernel_rfl) ?_ _
      clear hHeld
      go_wp2
      go_loopw [5] (fun q wr => ∃ i : Nat, i ≤ n ∧ q = .int .i64 i ∧ (∀ j, j < i → smX (nthX l j) (nthX l' j) = true) ∧ Below w.heap.size w wr) (fun q _ => n - (intOf q).toNat)
      case atStart => exact ⟨0, Nat.zero_le _, rfl, fun j hj => absurd hj (Nat.not_lt_zero _), (Below.refl _ _).drew⟩
      case round =>
        obtain ⟨i, hi, rfl, hall, hbel⟩ := hrel
        have c3 := (hbel.cell (World.block_lt_of_cell? _ _ c3)).trans c3
        have d3 := (hbel.cell (World.block_lt_of_cell? _ _ d3)).trans d3
        by_cases hin : i < n
        · have hii : (i : Int) < (n : Int) := by omega
          obtain ⟨p1, off1, rfl, -, hg1, hcell⟩ := (hr.below hbel).at_ (by omega)
          obtain ⟨p2, off2, rfl, -, hg2, hcell'⟩ := (hr'.below hbel).at_ (by omega)
          obtain ⟨q, ⟨x0, x1, x2, x3⟩, hIq⟩ := hcell i (by omega)
          obtain ⟨q', ⟨y0, y1, y2, y3⟩, hIq'⟩ := hcell' i (by omega)
          have hbd : Below wr.heap.size wr wr.drew := (Below.refl _ _).drew
          have HC := l7SameBox_any (nthX l i) (nthX l' i) q q' p1 (off1 + i * 4) p2 (off2 + i * 4) wr.drew (hIq.below hbd) (hIq'.below hbd) x0 x1 x2 x3 y0 y1 y2 y3
          have HY : Hid (smX (nthX l i) (nthX l' i) = true → ∀ j, j < i + 1 → smX (nthX l j) (nthX l' j) = true) := fun h j hj => by
            rcases Nat.lt_or_ge j i with h' | h'
            · exact hall j h'
            · obtain rfl : j = i := by omega
              exact h
          have HN : Hid (smX (nthX l i) (nthX l' i) = false → r = false) := fun h => HB.out i hin h
          clear hall hcell hcell' x0 x1 x2 x3 y0 y1 y2 y3 hIq hIq'
          generalize smX (nthX l i) (nthX l' i) = bb at *
          go_wp2_with fail
          refine wp_region_held_drew (S := fun w' => w'.cell? ⟨g, 1, none⟩ = some (.slice (some ⟨p1, off1, none⟩) n cap) ∧ w'.cell? ⟨h, 1, none⟩ = some (.slice (some ⟨p2, off2, none⟩) n cap')) (by kernel_rfl) ?hS374 (fun hHeld => ?_)
          case hS374 => exact ⟨c3, d3⟩
          refine wpAnyH_take (i := 0) (v := ?_) rfl (by kernel_rfl) (by kernel_rfl) (by kernel_rfl) (fun _ _ _ h => h) (Or.inl ⟨by rfl, ?hy375⟩) (by assumption) ?ty375
          case hy375 => (intro w hSw; (try dsimp only at hSw); obtain ⟨e3, f3⟩ := hSw;  go_simp; all_goals with_reducible rfl)
          simp only [Act.put, List.getElem_toArray, List.getElem_cons_zero, List.setIfInBounds_toArray, List.set_cons_zero, List.set_cons_succ]
          refine wpAnyH_take (i := 1) (v := ?_) rfl (by kernel_rfl) (by kernel_rfl) (by kernel_rfl) (fun _ _ _ h => h) (Or.inl ⟨by rfl, ?hy376⟩) (by assumption) ?ty376
          case hy376 => (intro w hSw; (try dsimp only at hSw); obtain ⟨e3, f3⟩ := hSw;  go_simp; all_goals with_reducible rfl)
          simp only [Act.put, List.getElem_toArray, List.getElem_cons_zero, List.getElem_cons_succ, List.setIfInBounds_toArray, List.set_cons_zero, List.set_cons_succ]
          refine wpAnyH_take (i := 2) (v := ?_) rfl (by kernel_rfl) (by kernel_rfl) (by kernel_rfl) (fun _ _ _ h => h) (Or.inl ⟨by rfl, ?hy377⟩) (by assumption) ?ty377
          case hy377 => (intro w hSw; (try dsimp only at hSw); obtain ⟨e3, f3⟩ := hSw;  go_simp; all_goals with_reducible rfl)
          simp only [Act.put, List.getElem_toArray, List.getElem_cons_zero, List.getElem_cons_succ, List.setIfInBounds_toArray, List.set_cons_zero, List.set_cons_succ]
          refine wpAnyH_take (i := 3) (v := ?_) rfl (by kernel_rfl) (by kernel_rfl) (by kernel_rfl) (fun _ _ _ h => h) (Or.inl ⟨by rfl, ?hy378⟩) (by assumption) ?ty378
          case hy378 => (intro w hSw; (try dsimp only at hSw); obtain ⟨e3, f3⟩ := hSw;  go_simp; all_goals with_reducible rfl)
          simp only [Act.put, List.getElem_toArray, List.getElem_cons_zero, List.getElem_cons_succ, List.setIfInBounds_toArray, List.set_cons_zero, List.set_cons_succ]
          refine wpAnyH_take (i := 4) (v := ?_) rfl (by kernel_rfl) (by kernel_rfl) (by kernel_rfl) (fun _ _ _ h => h) (Or.inl ⟨by rfl, ?hy379⟩) (by assumption) ?ty379
          case hy379 => (intro w hSw; (try dsimp only at hSw); obtain ⟨e3, f3⟩ := hSw;  go_simp; all_goals with_reducible rfl)
          simp only [Act.put, List.getElem_toArray, List.getElem_cons_zero, List.getElem_cons_succ, List.setIfInBounds_toArray, List.set_cons_zero, List.set_cons_succ]
          refine wpAnyH_take (i := 5) (v := ?_) rfl (by kernel_rfl) (by kernel_rfl) (by kernel_rfl) (fun _ _ _ h => h) (Or.inl ⟨by rfl, ?hy380⟩) (by assumption) ?ty380
          case hy380 => (intro w hSw; (try dsimp only at hSw); obtain ⟨e3, f3⟩ := hSw;  go_simp; all_goals with_reducible rfl)
          simp only [Act.put, List.getElem_toArray, List.getElem_cons_zero, List.getElem_cons_succ, List.setIfInBounds_toArray, List.set_cons_zero, List.set_cons_succ]
          refine wpAnyH_take (i := 6) (v := ?_) rfl (by kernel_rfl) (by kernel_rfl) (by kernel_rfl) (fun _ _ _ h => h) (Or.inl ⟨by rfl, ?hy381⟩) (by assumption) ?ty381
          case hy381 => (intro w hSw; (try dsimp only at hSw); obtain ⟨e3, f3⟩ := hSw;  go_simp; all_goals with_reducible rfl)
          simp only [Act.put, List.getElem_toArray, List.getElem_cons_zero, List.getElem_cons_succ, List.setIfInBounds_toArray, List.set_cons_zero, List.set_cons_succ]
          refine wpAnyH_take (i := 7) (v := ?_) rfl (by kernel_rfl) (by kernel_rfl) (by kernel_rfl) (fun _ _ _ h => h) (Or.inl ⟨by rfl, ?hy382⟩) (by assumption) ?ty382
          case hy382 => (intro w hSw; (try dsimp only at hSw); obtain ⟨e3, f3⟩ := hSw;  go_simp; all_goals with_reducible rfl)
          simp only [Act.put, List.getElem_toArray, List.getElem_cons_zero, List.getElem_cons_succ, List.setIfInBounds_toArray, List.set_cons_zero, List.set_cons_succ]
          refine wpAnyH_take (i := 8) (v := ?_) rfl (by kernel_rfl) (by kernel_rfl) (by kernel_rfl) (fun _ _ _ h => h) (Or.inl ⟨by rfl, ?hy383⟩) (by assumption) ?ty383
          case hy383 => (intro w hSw; (try dsimp only at hSw); obtain ⟨e3, f3⟩ := hSw;  go_simp; all_goals with_reducible rfl)
          simp only [Act.put, List.getElem_toArray, List.getElem_cons_zero, List.getElem_cons_succ, List.setIfInBounds_toArray, List.set_cons_zero, List.set_cons_succ]
          refine wpAnyH_take (i := 9) (v := ?_) rfl (by kernel_rfl) (by kernel_rfl) (by kernel_rfl) (fun _ _ _ h => h) (Or.inl ⟨by rfl, ?hy384⟩) (by assumption) ?ty384
          case hy384 => (intro w hSw; (try dsimp only at hSw); obtain ⟨e3, f3⟩ := hSw;  go_simp; all_goals with_reducible rfl)
          simp only [Act.put, List.getElem_toArray, List.getElem_cons_zero, List.getElem_cons_succ, List.setIfInBounds_toArray, List.set_cons_zero, List.set_cons_succ]
          refine wpAnyH_take (i := 10) (v := ?_) rfl (by kernel_rfl) (by kernel_rfl) (by kernel_rfl) (fun _ _ _ h => h) (Or.inl ⟨by rfl, ?hy385⟩) (by assumption) ?ty385
          case hy385 => (intro w hSw; (try dsimp only at hSw); obtain ⟨e3, f3⟩ := hSw;  go_simp; all_goals with_reducible rfl)
          simp only [Act.put, List.getElem_toArray, List.getElem_cons_zero, List.getElem_cons_succ, List.setIfInBounds_toArray, List.set_cons_zero, List.set_cons_succ]
          refine wpAnyH_take (i := 11) (v := ?_) rfl (by kernel_rfl) (by kernel_rfl) (by kernel_rfl) (fun _ _ _ h => h) (Or.inl ⟨by rfl, ?hy386⟩) (by assumption) ?ty386
          case hy386 => (intro w hSw; (try dsimp only at hSw); obtain ⟨e3, f3⟩ := hSw;  go_simp; all_goals with_reducible rfl)
          simp only [Act.put, List.getElem_toArray, List.getElem_cons_zero, List.getElem_cons_succ, List.setIfInBounds_toArray, List.set_cons_zero, List.set_cons_succ]
          refine wpAnyH_ready (rs := [12]) (by kernel_rfl) (by simp) ?_
          refine AllReadyH.cons rfl (fun K hK => ?_) AllReadyH.nil
          go_simp
          refine HC.mono ?_
          rintro e w2 ⟨rfl, hb2⟩
          have hbw2 : Below wr.heap.size wr w2 := (Below.refl _ _).drew.trans hb2
          have hbel2 := hbel.trans (hbw2.mono hbel.size)
          refine hK.out _ _ ⟨(hbw2.cell (World.block_lt_of_cell? _ _ c3)).trans c3, (hbw2.cell (World.block_lt_of_cell? _ _ d3)).trans d3⟩ (fun hHeld => ?_)
          clear hK K
          clear HC
          cases bb with
          | true =>
            have HM : Hid (_) := HY.out rfl
            clear HY HN
            refine wpAnyH_take (i := 13) (v := .bool false) rfl (by kernel_rfl) (by kernel_rfl) (by kernel_rfl) (fun _ _ _ h => h) (Or.inl ⟨by rfl, ?hy387⟩) (by assumption) ?ty387
            case hy387 => (intro w hSw; (try dsimp only at hSw); obtain ⟨-, -⟩ := hSw;  go_simp; first | (all_goals with_reducible rfl) | (simp; done) | (simp; omega))
            simp only [Act.put, List.getElem_toArray, List.getElem_cons_zero, List.getElem_cons_succ, List.setIfInBounds_toArray, List.set_cons_zero, List.set_cons_succ]
            refine wpAnyH_done (by kernel_rfl) ?_ _
            clear hHeld
            go_wp2
            go_roundw
            case rel => exact ⟨i + 1, by omega, by go_num, HM.out, hbel2⟩
            case measure => simp [intOf]; omega
          | false =>
            have HM : Hid (r = false) := HN.out rfl
            clear HY HN
            refine wpAnyH_take (i := 13) (v := .bool true) rfl (by kernel_rfl) (by kernel_rfl) (by kernel_rfl) (fun _ _ _ h => h) (Or.inl ⟨by rfl, ?hy388⟩) (by assumption) ?ty388
            case hy388 => (intro w hSw; (try dsimp only at hSw); obtain ⟨-, -⟩ := hSw;  go_simp; first | (all_goals with_reducible rfl) | (simp; done) | (simp; omega))
            simp only [Act.put, List.getElem_toArray, List.getElem_cons_zero, List.getElem_cons_succ, List.setIfInBounds_toArray, List.set_cons_zero, List.set_cons_succ]
            refine wpAnyH_done (by kernel_rfl) ?_ _
            clear hHeld
            go_wp2
            go_ret
            exact ⟨by rw [HM.out]; rfl, hbel2⟩
        · have hii : ¬ (i : Int) < (n : Int) := by omega
          have HM : Hid (r = true) := HA.out (fun j hj => hall j (by omega))
          clear hall
          go_wp2
          go_ret
          exact ⟨by rw [HM.out]; rfl, hbel⟩
    · have h4' : ¬ (n : Int) = (n' : Int) := by omega
      have HM : Hid (r = false) := HV.out.trans (by rw [eqG_ne h4]; simp)
      clear HV
      go_wp2_with fail
      refine wp_region_held_drew (S := fun w' => (w'.cell? ⟨g, 0, none⟩ = some (.int .i64 v) ∧ w'.cell? ⟨g, 1, none⟩ = some (.slice a1 n cap)) ∧ (w'.cell? ⟨h, 0, none⟩ = some (.int .i64 v') ∧ w'.cell? ⟨h, 1, none⟩ = some (.slice a2 n' cap'))) (by kernel_rfl) ?hS389 (fun hHeld => ?_)
      case hS389 => exact ⟨⟨c0, c3⟩, ⟨d0, d3⟩⟩
      refine wpAnyH_take (i := 0) (v := ?_) rfl (by kernel_rfl) (by kernel_rfl) (by kernel_rfl) (fun _ _ _ h => h) (Or.inl ⟨by rfl, ?hy390⟩) (by assumption) ?ty390
      case hy390 => (intro w hSw; (try dsimp only at hSw); obtain ⟨⟨e0, e1⟩, ⟨f0, f1⟩⟩ := hSw;  go_simp; all_goals with_reducible rfl)
      simp only [Act.put, List.getElem_toArray, List.getElem_cons_zero, List.setIfInBounds_toArray, List.set_cons_zero, List.set_cons_succ]
      refine wpAnyH_take (i := 1) (v := ?_) rfl (by kernel_rfl) (by kernel_rfl) (by kernel_rfl) (fun _ _ _ h => h) (Or.inl ⟨by rfl, ?hy391⟩) (by assumption) ?ty391
      case hy391 => (intro w hSw; (try dsimp only at hSw); obtain ⟨⟨e0, e1⟩, ⟨f0, f1⟩⟩ := hSw;  go_simp; all_goals with_reducible rfl)
      simp only [Act.put, List.getElem_toArray, List.getElem_cons_zero, List.getElem_cons_succ, List.setIfInBounds_toArray, List.set_cons_zero, List.set_cons_succ]
      refine wpAnyH_take (i := 2) (v := ?_) rfl (by kernel_rfl) (by kernel_rfl) (by kernel_rfl) (fun _ _ _ h => h) (Or.inl ⟨by rfl, ?hy392⟩) (by assumption) ?ty392
      case hy392 => (intro w hSw; (try dsimp only at hSw); obtain ⟨⟨e0, e1⟩, ⟨f0, f1⟩⟩ := hSw;  go_simp; all_goals with_reducible rfl)
      simp only [Act.put, List.getElem_toArray, List.getElem_cons_zero, List.getElem_cons_succ, List.setIfInBounds_toArray, List.set_cons_zero, List.set_cons_succ]
      refine wpAnyH_take (i := 3) (v := ?_) rfl (by kernel_rfl) (by kernel_rfl) (by kernel_rfl) (fun _ _ _ h => h) (Or.inl ⟨by rfl, ?hy393⟩) (by assumption) ?ty393
      case hy393 => (intro w hSw; (try dsimp only at hSw); obtain ⟨⟨e0, e1⟩, ⟨f0, f1⟩⟩ := hSw;  go_simp; all_goals with_reducible rfl)
      simp only [Act.put, List.getElem_toArray, List.getElem_cons_zero, List.getElem_cons_succ, List.setIfInBounds_toArray, List.set_cons_zero, List.set_cons_succ]
      refine wpAnyH_take (i := 4) (v := ?_) rfl (by kernel_rfl) (by kernel_rfl) (by kernel_rfl) (fun _ _ _ h => h) (Or.inl ⟨by rfl, ?hy394⟩) (by assumption) ?ty394
      case hy394 => (intro w hSw; (try dsimp only at hSw); obtain ⟨⟨e0, e1⟩, ⟨f0, f1⟩⟩ := hSw;  go_simp; all_goals with_reducible rfl)
      simp only [Act.put, List.getElem_toArray, List.getElem_cons_zero, List.getElem_cons_succ, List.setIfInBounds_toArray, List.set_cons_zero, List.set_cons_succ]
      refine wpAnyH_take (i := 5) (v := ?_) rfl (by kernel_rfl) (by kernel_rfl) (by kernel_rfl) (fun _ _ _ h => h) (Or.inl ⟨by rfl, ?hy395⟩) (by assumption) ?ty395
      case hy395 => (intro w hSw; (try dsimp only at hSw); obtain ⟨⟨e0, e1⟩, ⟨f0, f1⟩⟩ := hSw;  go_simp; all_goals with_reducible rfl)
      simp only [Act.put, List.getElem_toArray, List.getElem_cons_zero, List.getElem_cons_succ, List.setIfInBounds_toArray, List.set_cons_zero, List.set_cons_succ]
      refine wpAnyH_take (i := 6) (v := ?_) rfl (by kernel_rfl) (by kernel_rfl) (by kernel_rfl) (fun _ _ _ h => h) (Or.inl ⟨by rfl, ?hy396⟩) (by assumption) ?ty396
      case hy396 => (intro w hSw; (try dsimp only at hSw); obtain ⟨⟨e0, e1⟩, ⟨f0, f1⟩⟩ := hSw;  go_simp; all_goals with_reducible rfl)
      simp only [Act.put, List.getElem_toArray, List.getElem_cons_zero, List.getElem_cons_succ, List.setIfInBounds_toArray, List.set_cons_zero, List.set_cons_succ]
      refine wpAnyH_take (i := 7) (v := ?_) rfl (by kernel_rfl) (by kernel_rfl) (by kernel_rfl) (fun _ _ _ h => h) (Or.inl ⟨by rfl, ?hy397⟩) (by assumption) ?ty397
      case hy397 => (intro w hSw; (try dsimp only at hSw); obtain ⟨⟨e0, e1⟩, ⟨f0, f1⟩⟩ := hSw;  go_simp; all_goals with_reducible rfl)
      simp only [Act.put, List.getElem_toArray, List.getElem_cons_zero, List.getElem_cons_succ, List.setIfInBounds_toArray, List.set_cons_zero, List.set_cons_succ]
      refine wpAnyH_take (i := 8) (v := .bool false) rfl (by kernel_rfl) (by kernel_rfl) (by kernel_rfl) (fun _ _ _ h => h) (Or.inl ⟨by rfl, ?hy398⟩) (by assumption) ?ty398
      case hy398 => (intro w hSw; (try dsimp only at hSw); obtain ⟨⟨e0, e1⟩, ⟨f0, f1⟩⟩ := hSw;  go_simp; first | (all_goals with_reducible rfl) | (simp; done) | (simp; omega))
      simp only [Act.put, List.getElem_toArray, List.getElem_cons_zero, List.getElem_cons_succ, List.setIfInBounds_toArray, List.set_cons_zero, List.set_cons_succ]
      refine wpAnyH_take (i := 9) (v := ?_) rfl (by kernel_rfl) (by kernel_rfl) (by kernel_rfl) (fun _ _ _ h => h) (Or.inl ⟨by rfl, ?hy399⟩) (by assumption) ?ty399
      case hy399 => (intro w hSw; (try dsimp only at hSw); obtain ⟨⟨e0, e1⟩, ⟨f0, f1⟩⟩ := hSw;  go_simp; all_goals with_reducible rfl)
      simp only [Act.put, List.getElem_toArray, List.getElem_cons_zero, List.getElem_cons_succ, List.setIfInBounds_toArray, List.set_cons_zero, List.set_cons_succ]
      refine wpAnyH_take (i := 10) (v := ?_) rfl (by kernel_rfl) (by kernel_rfl) (by kernel_rfl) (fun _ _ _ h => h) (Or.inl ⟨by rfl, ?hy400⟩) (by assumption) ?ty400
      case hy400 => (intro w hSw; (try dsimp only at hSw); obtain ⟨⟨e0, e1⟩, ⟨f0, f1⟩⟩ := hSw;  go_simp; all_goals with_reducible rfl)
      simp only [Act.put, List.getElem_toArray, List.getElem_cons_zero, List.getElem_cons_succ, List.setIfInBounds_toArray, List.set_cons_zero, List.set_cons_succ]
      refine wpAnyH_take (i := 11) (v := ?_) rfl (by kernel_rfl) (by kernel_rfl) (by kernel_rfl) (fun _ _ _ h => h) (Or.inl ⟨by rfl, ?hy401⟩) (by assumption) ?ty401
      case hy401 => (intro w hSw; (try dsimp only at hSw); obtain ⟨⟨e0, e1⟩, ⟨f0, f1⟩⟩ := hSw;  go_simp; all_goals with_reducible rfl)
      simp only [Act.put, List.getElem_toArray, List.getElem_cons_zero, List.getElem_cons_succ, List.setIfInBounds_toArray, List.set_cons_zero, List.set_cons_succ]
      refine wpAnyH_take (i := 12) (v := ?_) rfl (by kernel_rfl) (by kernel_rfl) (by kernel_rfl) (fun _ _ _ h => h) (Or.inl ⟨by rfl, ?hy402⟩) (by assumption) ?ty402
      case hy402 => (intro w hSw; (try dsimp only at hSw); obtain ⟨⟨e0, e1⟩, ⟨f0, f1⟩⟩ := hSw;  go_simp; all_goals with_reducible rfl)
      simp only [Act.put, List.getElem_toArray, List.getElem_cons_zero, List.getElem_cons_succ, List.setIfInBounds_toArray, List.set_cons_zero, List.set_cons_succ]
      refine wpAnyH_take (i := 13) (v := ?_) rfl (by kernel_rfl) (by kernel_rfl) (by kernel_rfl) (fun _ _ _ h => h) (Or.inl ⟨by rfl, ?hy403⟩) (by assumption) ?ty403
      case hy403 => (intro w hSw; (try dsimp only at hSw); obtain ⟨⟨e0, e1⟩, ⟨f0, f1⟩⟩ := hSw;  go_simp; all_goals with_reducible rfl)
      simp only [Act.put, List.getElem_toArray, List.getElem_cons_zero, List.getElem_cons_succ, List.setIfInBounds_toArray, List.set_cons_zero, List.set_cons_succ]
      refine wpAnyH_take (i := 14) (v := ?_) rfl (by kernel_rfl) (by kernel_rfl) (by kernel_rfl) (fun _ _ _ h => h) (Or.inl ⟨by rfl, ?hy404⟩) (by assumption) ?ty404
      case hy404 => (intro w hSw; (try dsimp only at hSw); obtain ⟨⟨e0, e1⟩, ⟨f0, f1⟩⟩ := hSw;  go_simp; all_goals with_reducible rfl)
      simp only [Act.put, List.getElem_toArray, List.getElem_cons_zero, List.getElem_cons_succ, List.setIfInBounds_toArray, List.set_cons_zero, List.set_cons_succ]
      refine wpAnyH_take (i := 15) (v := ?_) rfl (by kernel_rfl) (by kernel_rfl) (by kernel_rfl) (fun _ _ _ h => h) (Or.inl ⟨by rfl, ?hy405⟩) (by assumption) ?ty405
      case hy405 => (intro w hSw; (try dsimp only at hSw); obtain ⟨⟨e0, e1⟩, ⟨f0, f1⟩⟩ := hSw;  go_simp; all_goals with_reducible rfl)
      simp only [Act.put, List.getElem_toArray, List.getElem_cons_zero, List.getElem_cons_succ, List.setIfInBounds_toArray, List.set_cons_zero, List.set_cons_succ]
      refine wpAnyH_take (i := 16) (v := ?_) rfl (by kernel_rfl) (by kernel_rfl) (by kernel_rfl) (fun _ _ _ h => h) (Or.inl ⟨by rfl, ?hy406⟩) (by assumption) ?ty406
      case hy406 => (intro w hSw; (try dsimp only at hSw); obtain ⟨⟨e0, e1⟩, ⟨f0, f1⟩⟩ := hSw;  go_simp; all_goals with_reducible rfl)
      simp only [Act.put, List.getElem_toArray, List.getElem_cons_zero, List.getElem_cons_succ, List.setIfInBounds_toArray, List.set_cons_zero, List.set_cons_succ]
      refine wpAnyH_take (i := 17) (v := ?_) rfl (by kernel_rfl) (by kernel_rfl) (by kernel_rfl) (fun _ _ _ h => h) (Or.inl ⟨by rfl, ?hy407⟩) (by assumption) ?ty407
      case hy407 => (intro w hSw; (try dsimp only at hSw); obtain ⟨⟨e0, e1⟩, ⟨f0, f1⟩⟩ := hSw;  go_simp; all_goals with_reducible rfl)
      simp only [Act.put, List.getElem_toArray, List.getElem_cons_zero, List.getElem_cons_succ, List.setIfInBounds_toArray, List.set_cons_zero, List.set_cons_succ]
      refine wpAnyH_take (i := 18) (v := ?_) rfl (by kernel_rfl) (by kernel_rfl) (by kernel_rfl) (fun _ _ _ h => h) (Or.inl ⟨by rfl, ?hy408⟩) (by assumption) ?ty408
      case hy408 => (intro w hSw; (try dsimp only at hSw); obtain ⟨⟨e0, e1⟩, ⟨f0, f1⟩⟩ := hSw;  go_simp; all_goals with_reducible rfl)
      simp only [Act.put, List.getElem_toArray, List.getElem_cons_zero, List.getElem_cons_succ, List.setIfInBounds_toArray, List.set_cons_zero, List.set_cons_succ]
      refine wpAnyH_take (i := 19) (v := ?_) rfl (by kernel_rfl) (by kernel_rfl) (by kernel_rfl) (fun _ _ _ h => h) (Or.inl ⟨by rfl, ?hy409⟩) (by assumption) ?ty409
      case hy409 => (intro w hSw; (try dsimp only at hSw); obtain ⟨⟨e0, e1⟩, ⟨f0, f1⟩⟩ := hSw;  go_simp; all_goals with_reducible rfl)
      simp only [Act.put, List.getElem_toArray, List.getElem_cons_zero, List.getElem_cons_succ, List.setIfInBounds_toArray, List.set_cons_zero, List.set_cons_succ]
      refine wpAnyH_take (i := 20) (v := .bool true) rfl (by kernel_rfl) (by kernel_rfl) (by kernel_rfl) (fun _ _ _ h => h) (Or.inl ⟨by rfl, ?hy410⟩) (by assumption) ?ty410
      case hy410 => (intro w hSw; (try dsimp only at hSw); obtain ⟨⟨e0, e1⟩, ⟨f0, f1⟩⟩ := hSw;  go_simp; first | (all_goals with_reducible rfl) | (simp; done) | (simp; omega))
      simp only [Act.put, List.getElem_toArray, List.getElem_cons_zero, List.getElem_cons_succ, List.setIfInBounds_toArray, List.set_cons_zero, List.set_cons_succ]
      refine wpAnyH_take (i := 21) (v := .bool true) rfl (by kernel_rfl) (by kernel_rfl) (by kernel_rfl) (fun _ _ _ h => h) (Or.inl ⟨by rfl, ?hy411⟩) (by assumption) ?ty411
      case hy411 => (intro w hSw; (try dsimp only at hSw); obtain ⟨⟨e0, e1⟩, ⟨f0, f1⟩⟩ := hSw;  go_simp; first | (all_goals with_reducible rfl) | (simp; done) | (simp; omega))
      simp only [Act.put, List.getElem_toArray, List.getElem_cons_zero, List.getElem_cons_succ, List.setIfInBounds_toArray, List.set_cons_zero, List.set_cons_succ]
      refine wpAnyH_done (by kernel_rfl) ?_ _
      clear hHeld
      go_wp2
      go_ret
      exact ⟨by rw [HM.out]; rfl, (Below.refl _ _).drew⟩
  · have HM : Hid (r = false) := HV.out.trans (by simp [h1])
    clear HV
    go_wp2_with fail
    refine wp_region_held_drew (S := fun w' => (w'.cell? ⟨g, 0, none⟩ = some (.int .i64 v) ∧ w'.cell? ⟨g, 1, none⟩ = some (.slice a1 n cap)) ∧ (w'.cell? ⟨h, 0, none⟩ = some (.int .i64 v') ∧ w'.cell? ⟨h, 1, none⟩ = some (.slice a2 n' cap'))) (by kernel_rfl) ?hS412 (fun hHeld => ?_)
    case hS412 => exact ⟨⟨c0, c3⟩, ⟨d0, d3⟩⟩
    refine wpAnyH_take (i := 0) (v := ?_) rfl (by kernel_rfl) (by kernel_rfl) (by kernel_rfl) (fun _ _ _ h => h) (Or.inl ⟨by rfl, ?hy413⟩) (by assumption) ?ty413
    case hy413 => (intro w hSw; (try dsimp only at hSw); obtain ⟨⟨e0, e1⟩, ⟨f0, f1⟩⟩ := hSw;  go_simp; all_goals with_reducible rfl)
    simp only [Act.put, List.getElem_toArray, List.getElem_cons_zero, List.setIfInBounds_toArray, List.set_cons_zero, List.set_cons_succ]
    refine wpAnyH_take (i := 1) (v := ?_) rfl (by kernel_rfl) (by kernel_rfl) (by kernel_rfl) (fun _ _ _ h => h) (Or.inl ⟨by rfl, ?hy414⟩) (by assumption) ?ty414
    case hy414 => (intro w hSw; (try dsimp only at hSw); obtain ⟨⟨e0, e1⟩, ⟨f0, f1⟩⟩ := hSw;  go_simp; all_goals with_reducible rfl)
    simp only [Act.put, List.getElem_toArray, List.getElem_cons_zero, List.getElem_cons_succ, List.setIfInBounds_toArray, List.set_cons_zero, List.set_cons_succ]
    refine wpAnyH_take (i := 2) (v := ?_) rfl (by kernel_rfl) (by kernel_rfl) (by kernel_rfl) (fun _ _ _ h => h) (Or.inl ⟨by rfl, ?hy415⟩) (by assumption) ?ty415
    case hy415 => (intro w hSw; (try dsimp only at hSw); obtain ⟨⟨e0, e1⟩, ⟨f0, f1⟩⟩ := hSw;  go_simp; all_goals with_reducible rfl)
    simp only [Act.put, List.getElem_toArray, List.getElem_cons_zero, List.getElem_cons_succ, List.setIfInBounds_toArray, List.set_cons_zero, List.set_cons_succ]
    refine wpAnyH_take (i := 3) (v := ?_) rfl (by kernel_rfl) (by kernel_rfl) (by kernel_rfl) (fun _ _ _ h => h) (Or.inl ⟨by rfl, ?hy416⟩) (by assumption) ?ty416
    case hy416 => (intro w hSw; (try dsimp only at hSw); obtain ⟨⟨e0, e1⟩, ⟨f0, f1⟩⟩ := hSw;  go_simp; all_goals with_reducible rfl)
    simp only [Act.put, List.getElem_toArray, List.getElem_cons_zero, List.getElem_cons_succ, List.setIfInBounds_toArray, List.set_cons_zero, List.set_cons_succ]
    refine wpAnyH_take (i := 4) (v := ?_) rfl (by kernel_rfl) (by kernel_rfl) (by kernel_rfl) (fun _ _ _ h => h) (Or.inl ⟨by rfl, ?hy417⟩) (by assumption) ?ty417
    case hy417 => (intro w hSw; (try dsimp only at hSw); obtain ⟨⟨e0, e1⟩, ⟨f0, f1⟩⟩ := hSw;  go_simp; all_goals with_reducible rfl)
    simp only [Act.put, List.getElem_toArray, List.getElem_cons_zero, List.getElem_cons_succ, List.setIfInBounds_toArray, List.set_cons_zero, List.set_cons_succ]
    refine wpAnyH_take (i := 5) (v := ?_) rfl (by kernel_rfl) (by kernel_rfl) (by kernel_rfl) (fun _ _ _ h => h) (Or.inl ⟨by rfl, ?hy418⟩) (by assumption) ?ty418
    case hy418 => (intro w hSw; (try dsimp only at hSw); obtain ⟨⟨e0, e1⟩, ⟨f0, f1⟩⟩ := hSw;  go_simp; all_goals with_reducible rfl)
    simp only [Act.put, List.getElem_toArray, List.getElem_cons_zero, List.getElem_cons_succ, List.setIfInBounds_toArray, List.set_cons_zero, List.set_cons_succ]
    refine wpAnyH_take (i := 6) (v := ?_) rfl (by kernel_rfl) (by kernel_rfl) (by kernel_rfl) (fun _ _ _ h => h) (Or.inl ⟨by rfl, ?hy419⟩) (by assumption) ?ty419
    case hy419 => (intro w hSw; (try dsimp only at hSw); obtain ⟨⟨e0, e1⟩, ⟨f0, f1⟩⟩ := hSw;  go_simp; all_goals with_reducible rfl)
    simp only [Act.put, List.getElem_toArray, List.getElem_cons_zero, List.getElem_cons_succ, List.setIfInBounds_toArray, List.set_cons_zero, List.set_cons_succ]
    refine wpAnyH_take (i := 7) (v := ?_) rfl (by kernel_rfl) (by kernel_rfl) (by kernel_rfl) (fun _ _ _ h => h) (Or.inl ⟨by rfl, ?hy420⟩) (by assumption) ?ty420
    case hy420 => (intro w hSw; (try dsimp only at hSw); obtain ⟨⟨e0, e1⟩, ⟨f0, f1⟩⟩ := hSw;  go_simp; all_goals with_reducible rfl)
    simp only [Act.put, List.getElem_toArray, List.getElem_cons_zero, List.getElem_cons_succ, List.setIfInBounds_toArray, List.set_cons_zero, List.set_cons_succ]
    refine wpAnyH_take (i := 8) (v := .bool true) rfl (by kernel_rfl) (by kernel_rfl) (by kernel_rfl) (fun _ _ _ h => h) (Or.inl ⟨by rfl, ?hy421⟩) (by assumption) ?ty421
    case hy421 => (intro w hSw; (try dsimp only at hSw); obtain ⟨⟨e0, e1⟩, ⟨f0, f1⟩⟩ := hSw;  go_simp; first | (all_goals with_reducible rfl) | (simp; done) | (simp; omega))
    simp only [Act.put, List.getElem_toArray, List.getElem_cons_zero, List.getElem_cons_succ, List.setIfInBounds_toArray, List.set_cons_zero, List.set_cons_succ]
    refine wpAnyH_take (i := 9) (v := ?_) rfl (by kernel_rfl) (by kernel_rfl) (by kernel_rfl) (fun _ _ _ h => h) (Or.inl ⟨by rfl, ?hy422⟩) (by assumption) ?ty422
    case hy422 => (intro w hSw; (try dsimp only at hSw); obtain ⟨⟨e0, e1⟩, ⟨f0, f1⟩⟩ := hSw;  go_simp; all_goals with_reducible rfl)
    simp only [Act.put, List.getElem_toArray, List.getElem_cons_zero, List.getElem_cons_succ, List.setIfInBounds_toArray, List.set_cons_zero, List.set_cons_succ]
    refine wpAnyH_take (i := 10) (v := undef) rfl (by kernel_rfl) (by kernel_rfl) (by kernel_rfl) (fun _ _ _ h => h) (Or.inr ⟨by rfl, rfl⟩) (by assumption) ?_
    simp only [Act.put, List.getElem_toArray, List.getElem_cons_zero, List.getElem_cons_succ, List.setIfInBounds_toArray, List.set_cons_zero, List.set_cons_succ]
    refine wpAnyH_take (i := 11) (v := undef) rfl (by kernel_rfl) (by kernel_rfl) (by kernel_rfl) (fun _ _ _ h => h) (Or.inr ⟨by rfl, rfl⟩) (by assumption) ?_
    simp only [Act.put, List.getElem_toArray, List.getElem_cons_zero, List.getElem_cons_succ, List.setIfInBounds_toArray, List.set_cons_zero, List.set_cons_succ]
    refine wpAnyH_take (i := 12) (v := undef) rfl (by kernel_rfl) (by kernel_rfl) (by kernel_rfl) (fun _ _ _ h => h) (Or.inr ⟨by rfl, rfl⟩) (by assumption) ?_
    simp only [Act.put, List.getElem_toArray, List.getElem_cons_zero, List.getElem_cons_succ, List.setIfInBounds_toArray, List.set_cons_zero, List.set_cons_succ]
    refine wpAnyH_take (i := 13) (v := undef) rfl (by kernel_rfl) (by kernel_rfl) (by kernel_rfl) (fun _ _ _ h => h) (Or.inr ⟨by rfl, rfl⟩) (by assumption) ?_
    simp only [Act.put, List.getElem_toArray, List.getElem_cons_zero, List.getElem_cons_succ, List.setIfInBounds_toArray, List.set_cons_zero, List.set_cons_succ]
    refine wpAnyH_take (i := 14) (v := undef) rfl (by kernel_rfl) (by kernel_rfl) (by kernel_rfl) (fun _ _ _ h => h) (Or.inr ⟨by rfl, rfl⟩) (by assumption) ?_
    simp only [Act.put, List.getElem_toArray, List.getElem_cons_zero, List.getElem_cons_succ, List.setIfInBounds_toArray, List.set_cons_zero, List.set_cons_succ]
    refine wpAnyH_take (i := 15) (v := undef) rfl (by kernel_rfl) (by kernel_rfl) (by kernel_rfl) (fun _ _ _ h => h) (Or.inr ⟨by rfl, rfl⟩) (by assumption) ?_
    simp only [Act.put, List.getElem_toArray, List.getElem_cons_zero, List.getElem_cons_succ, List.setIfInBounds_toArray, List.set_cons_zero, List.set_cons_succ]
    refine wpAnyH_take (i := 16) (v := undef) rfl (by kernel_rfl) (by kernel_rfl) (by kernel_rfl) (fun _ _ _ h => h) (Or.inr ⟨by rfl, rfl⟩) (by assumption) ?_
    simp only [Act.put, List.getElem_toArray, List.getElem_cons_zero, List.getElem_cons_succ, List.setIfInBounds_toArray, List.set_cons_zero, List.set_cons_succ]
    refine wpAnyH_take (i := 17) (v := undef) rfl (by kernel_rfl) (by kernel_rfl) (by kernel_rfl) (fun _ _ _ h => h) (Or.inr ⟨by rfl, rfl⟩) (by assumption) ?_
    simp only [Act.put, List.getElem_toArray, List.getElem_cons_zero, List.getElem_cons_succ, List.setIfInBounds_toArray, List.set_cons_zero, List.set_cons_succ]
    refine wpAnyH_take (i := 18) (v := undef) rfl (by kernel_rfl) (by kernel_rfl) (by kernel_rfl) (fun _ _ _ h => h) (Or.inr ⟨by rfl, rfl⟩) (by assumption) ?_
    simp only [Act.put, List.getElem_toArray, List.getElem_cons_zero, List.getElem_cons_succ, List.setIfInBounds_toArray, List.set_cons_zero, List.set_cons_succ]
    refine wpAnyH_take (i := 19) (v := undef) rfl (by kernel_rfl) (by kernel_rfl) (by kernel_rfl) (fun _ _ _ h => h) (Or.inr ⟨by rfl, rfl⟩) (by assumption) ?_
    simp only [Act.put, List.getElem_toArray, List.getElem_cons_zero, List.getElem_cons_succ, List.setIfInBounds_toArray, List.set_cons_zero, List.set_cons_succ]
    refine wpAnyH_take (i := 20) (v := undef) rfl (by kernel_rfl) (by kernel_rfl) (by kernel_rfl) (fun _ _ _ h => h) (Or.inr ⟨by rfl, rfl⟩) (by assumption) ?_
    simp only [Act.put, List.getElem_toArray, List.getElem_cons_zero, List.getElem_cons_succ, List.setIfInBounds_toArray, List.set_cons_zero, List.set_cons_succ]
    refine wpAnyH_take (i := 21) (v := .bool true) rfl (by kernel_rfl) (by kernel_rfl) (by kernel_rfl) (fun _ _ _ h => h) (Or.inl ⟨by rfl, ?hy423⟩) (by assumption) ?ty423
    case hy423 => (intro w hSw; (try dsimp only at hSw); obtain ⟨⟨e0, e1⟩, ⟨f0, f1⟩⟩ := hSw;  go_simp; first | (all_goals with_reducible rfl) | (simp; done) | (simp; omega))
    simp only [Act.put, List.getElem_toArray, List.getElem_cons_zero, List.getElem_cons_succ, List.setIfInBounds_toArray, List.set_cons_zero, List.set_cons_succ]
    refine wpAnyH_done (by kernel_rfl) ?_ _
    clear hHeld
    go_wp2
    go_ret
    exact ⟨by rw [HM.out]; rfl, (Below.refl _ _).drew⟩

set_option maxHeartbeats 800000 in
set_option maxRecDepth 100000 in
theorem specSameStores_any (v v' : Int) (l l' : List Bx) (s s' : SlQ) {lo lo' : Nat} (w : World) (hs : IsXs lo w s l) (hs' : IsXs lo' w s' l') :
    Calls Try.prog 29 #[.agg #[.int .i64 v, slW s], .agg #[.int .i64 v', slW s']] w fun e w' => e = .returned (.bool (smS v v' l l')) ∧ Below w.heap.size w w' := by
  have hbW : Below w.heap.size w ((w.alloc (.cells #[.int .i64 v, slW s] 49)).alloc (.cells #[.int .i64 v', slW s'] 49)) := ((Below.refl _ _).alloc (Nat.le_refl _) _).alloc (by simp) _
  have HC := l7Same_any v v' l l' s s' w.heap.size (w.heap.size + 1) _ (hs.below hbW) (hs'.below hbW) (by simp) (by simp) (by simp) (by simp)
  generalize smS v v' l l' = r at *
  go_enter Try.func29, Try.ntmps29
  go_wp2_with fail
  refine HC.mono ?_
  rintro e w1 ⟨rfl, hb1⟩
  have hbw := hbW.trans (hb1.mono hbW.size)
  clear HC hb1 hbW
  go_wp2
  go_ret
  exact ⟨rfl, hbw⟩
end Go.Proofs.Ytnnanhjpnilndaa
