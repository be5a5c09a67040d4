/- Whether two terms, two lists of terms are the same: the program's side; no conditions beyond those that each fact names. -/
import Derived.Test.YthmimalplpjghaaGreatDoorTmt
import Derived.Test.YthmimalplpjghaaGreatDoorSmo
import Derived.Deep.RegionHeld3
namespace Go.Proofs.YthmimalplpjghaaGreatDoor
open Go.RowKit
set_option linter.unusedVariables false

/-- Two rows of ranges are the same. -/
def smY (l l' : List YgP) : Bool := eqH l.length l'.length (fun i => decide (nthY l i = nthY l' i))
/-- TWO TERMS ARE THE SAME. -/
def smT (a b : TmR) : Bool := decide (a.k = b.k) && (decide (a.n = b.n) && (smU a.c b.c && (smY a.y b.y && (decide (a.l = b.l) && decide (a.r = b.r)))))

set_option maxHeartbeats 1600000 in
set_option maxRecDepth 100000 in
theorem equalY_any (s s' : SlQ) (l l' : List YgP) {lo lo' : Nat} (w : World) (hs : IsYl lo w s l) (hs' : IsYl lo' w s' l') :
    Calls Tryz.prog 118 #[slW s, slW s'] w fun e w' => e = .returned (.bool (smY l l')) ∧ Below w.heap.size w w' := by
  obtain ⟨a, n, cap⟩ := s
  obtain ⟨a', n', cap'⟩ := s'
  obtain ⟨hl, hnc, hcm, hr, -⟩ := hs
  obtain ⟨hl', hnc', hcm', hr', -⟩ := hs'
  dsimp only [slW] at *
  unfold maxLen at hcm hcm'
  have HL : Hid (l.length = n ∧ l'.length = n') := ⟨hl, hl'⟩
  have HB : Hid (∀ k, k < n → nthY l k ≠ nthY l' k → smY l l' = false) := fun k hk h => eqH_bad (by rw [hl]; exact hk) (decide_eq_false h)
  have HE : Hid (n ≠ n' → smY l l' = false) := fun h => eqH_ne (by rw [hl, hl']; exact h)
  have HA : Hid (n = n' → (∀ k, k < n → nthY l k = nthY l' k) → smY l l' = true) := fun h h' => eqH_all (by rw [hl, hl']; exact h) (fun k hk => decide_eq_true (h' k (by omega)))
  generalize smY l l' = r at *
  clear hl hl'
  go_enter Tryz.func118, Tryz.ntmps118
  by_cases hnn : n = n'
  · subst hnn
    go_wp2
    go_loopw [13, 5] (fun i _ wr => ∃ k : Nat, k ≤ n ∧ i = .int .i64 k ∧ (∀ j, j < k → nthY l j = nthY l' j) ∧ Below w.heap.size w wr) (fun i _ _ => n - (intOf i).toNat)
    case atStart => exact ⟨0, Nat.zero_le _, rfl, fun j hj => absurd hj (Nat.not_lt_zero _), Below.refl _ _⟩
    case round =>
      obtain ⟨k, hk, rfl, hall, hbel⟩ := hrel
      by_cases hkn : k < n
      · have hki : (k : Int) < (n : Int) := by omega
        obtain ⟨g, off, rfl, hglt, hcell⟩ := (hr.below hbel).at_ (by have := HL.out; omega)
        obtain ⟨g', off', rfl, hglt', hcell'⟩ := (hr'.below hbel).at_ (by have := HL.out; omega)
        have c0 := hcell k (by have := HL.out; omega)
        have d0 := hcell' k (by have := HL.out; omega)
        have HY : Hid (nthY l k = nthY l' k → ∀ j, j < k + 1 → nthY l j = nthY l' j) := fun h j hj => by
          rcases Nat.lt_or_ge j k with h' | h'
          · exact hall j h'
          · obtain rfl : j = k := by omega
            exact h
        have HN : Hid (nthY l k ≠ nthY l' k → r = false) := fun h => HB.out k hkn h
        clear hall hcell hcell'
        generalize nthY l k = y at *
        generalize nthY l' k = z at *
        obtain ⟨y1, y2⟩ := y
        obtain ⟨z1, z2⟩ := z
        dsimp only at c0 d0
        by_cases hyz : y1 = z1 ∧ y2 = z2
        · obtain ⟨rfl, rfl⟩ := hyz
          have HM : Hid (_) := HY.out rfl
          clear HY HN
          go_wp2_with fail
          refine wp_region_held_drew (S := fun w' => (w'.cell? ⟨g, off + k * 2, none⟩ = some (.int .i64 y1) ∧ w'.cell? ⟨g, off + k * 2 + 1, none⟩ = some (.int .i64 y2)) ∧ (w'.cell? ⟨g', off' + k * 2, none⟩ = some (.int .i64 y1) ∧ w'.cell? ⟨g', off' + k * 2 + 1, none⟩ = some (.int .i64 y2))) (by kernel_rfl) ?hS1 (fun hHeld => ?_)
          case hS1 => exact ⟨c0, d0⟩
          refine wpAnyH_take (i := 0) (v := ?_) rfl (by kernel_rfl) (by kernel_rfl) (by kernel_rfl) (fun _ _ _ h => h) (Or.inl ⟨by rfl, ?hy2⟩) (by assumption) ?ty2
          case hy2 => (intro w hSw; (try dsimp only at hSw); obtain ⟨⟨s0, s1⟩, s2, s3⟩ := hSw; go_simp; all_goals with_reducible rfl)
          simp only [Act.put, List.getElem_toArray, List.getElem_cons_zero, List.setIfInBounds_toArray, List.set_cons_zero, List.set_cons_succ]
          refine wpAnyH_take (i := 1) (v := ?_) rfl (by kernel_rfl) (by kernel_rfl) (by kernel_rfl) (fun _ _ _ h => h) (Or.inl ⟨by rfl, ?hy3⟩) (by assumption) ?ty3
          case hy3 => (intro w hSw; (try dsimp only at hSw); obtain ⟨⟨s0, s1⟩, s2, s3⟩ := hSw; go_simp; all_goals with_reducible rfl)
          simp only [Act.put, List.getElem_toArray, List.getElem_cons_zero, List.getElem_cons_succ, List.setIfInBounds_toArray, List.set_cons_zero, List.set_cons_succ]
          refine wpAnyH_take (i := 2) (v := ?_) rfl (by kernel_rfl) (by kernel_rfl) (by kernel_rfl) (fun _ _ _ h => h) (Or.inl ⟨by rfl, ?hy4⟩) (by assumption) ?ty4
          case hy4 => (intro w hSw; (try dsimp only at hSw); obtain ⟨⟨s0, s1⟩, s2, s3⟩ := hSw; go_simp; all_goals with_reducible rfl)
          simp only [Act.put, List.getElem_toArray, List.getElem_cons_zero, List.getElem_cons_succ, List.setIfInBounds_toArray, List.set_cons_zero, List.set_cons_succ]
          refine wpAnyH_take (i := 3) (v := ?_) rfl (by kernel_rfl) (by kernel_rfl) (by kernel_rfl) (fun _ _ _ h => h) (Or.inl ⟨by rfl, ?hy5⟩) (by assumption) ?ty5
          case hy5 => (intro w hSw; (try dsimp only at hSw); obtain ⟨⟨s0, s1⟩, s2, s3⟩ := hSw; go_simp; all_goals with_reducible rfl)
          simp only [Act.put, List.getElem_toArray, List.getElem_cons_zero, List.getElem_cons_succ, List.setIfInBounds_toArray, List.set_cons_zero, List.set_cons_succ]
          refine wpAnyH_take (i := 4) (v := ?_) rfl (by kernel_rfl) (by kernel_rfl) (by kernel_rfl) (fun _ _ _ h => h) (Or.inl ⟨by rfl, ?hy6⟩) (by assumption) ?ty6
          case hy6 => (intro w hSw; (try dsimp only at hSw); obtain ⟨⟨s0, s1⟩, s2, s3⟩ := hSw; go_simp; all_goals with_reducible rfl)
          simp only [Act.put, List.getElem_toArray, List.getElem_cons_zero, List.getElem_cons_succ, List.setIfInBounds_toArray, List.set_cons_zero, List.set_cons_succ]
          refine wpAnyH_take (i := 5) (v := ?_) rfl (by kernel_rfl) (by kernel_rfl) (by kernel_rfl) (fun _ _ _ h => h) (Or.inl ⟨by rfl, ?hy7⟩) (by assumption) ?ty7
          case hy7 => (intro w hSw; (try dsimp only at hSw); obtain ⟨⟨s0, s1⟩, s2, s3⟩ := hSw; go_simp; all_goals with_reducible rfl)
          simp only [Act.put, List.getElem_toArray, List.getElem_cons_zero, List.getElem_cons_succ, List.setIfInBounds_toArray, List.set_cons_zero, List.set_cons_succ]
          refine wpAnyH_take (i := 6) (v := ?_) rfl (by kernel_rfl) (by kernel_rfl) (by kernel_rfl) (fun _ _ _ h => h) (Or.inl ⟨by rfl, ?hy8⟩) (by assumption) ?ty8
          case hy8 => (intro w hSw; (try dsimp only at hSw); obtain ⟨⟨s0, s1⟩, s2, s3⟩ := hSw; go_simp; all_goals with_reducible rfl)
          simp only [Act.put, List.getElem_toArray, List.getElem_cons_zero, List.getElem_cons_succ, List.setIfInBounds_toArray, List.set_cons_zero, List.set_cons_succ]
          refine wpAnyH_take (i := 7) (v := ?_) rfl (by kernel_rfl) (by kernel_rfl) (by kernel_rfl) (fun _ _ _ h => h) (Or.inl ⟨by rfl, ?hy9⟩) (by assumption) ?ty9
          case hy9 => (intro w hSw; (try dsimp only at hSw); obtain ⟨⟨s0, s1⟩, s2, s3⟩ := hSw; go_simp; all_goals with_reducible rfl)
          simp only [Act.put, List.getElem_toArray, List.getElem_cons_zero, List.getElem_cons_succ, List.setIfInBounds_toArray, List.set_cons_zero, List.set_cons_succ]
          refine wpAnyH_take (i := 8) (v := .bool false) rfl (by kernel_rfl) (by kernel_rfl) (by kernel_rfl) (fun _ _ _ h => h) (Or.inl ⟨by rfl, ?hy10⟩) (by assumption) ?ty10
          case hy10 => (intro w hSw; (try dsimp only at hSw); obtain ⟨⟨s0, s1⟩, s2, s3⟩ := hSw; go_simp; first | (all_goals with_reducible rfl) | (simp; done) | (simp; omega))
          simp only [Act.put, List.getElem_toArray, List.getElem_cons_zero, List.getElem_cons_succ, List.setIfInBounds_toArray, List.set_cons_zero, List.set_cons_succ]
          refine wpAnyH_done (by kernel_rfl) ?_ _
          clear hHeld
          go_wp2
          go_roundw
          case rel => exact ⟨k + 1, by omega, by go_num, HM.out, hbel.trans (Below.refl _ _).drew⟩
          case measure => simp [intOf]; omega
        · have HM : Hid (r = false) := HN.out (fun h => hyz (by cases h; exact ⟨rfl, rfl⟩))
          clear HY HN
          go_wp2_with fail
          refine wp_region_held_drew (S := fun w' => (w'.cell? ⟨g, off + k * 2, none⟩ = some (.int .i64 y1) ∧ w'.cell? ⟨g, off + k * 2 + 1, none⟩ = some (.int .i64 y2)) ∧ (w'.cell? ⟨g', off' + k * 2, none⟩ = some (.int .i64 z1) ∧ w'.cell? ⟨g', off' + k * 2 + 1, none⟩ = some (.int .i64 z2))) (by kernel_rfl) ?hS11 (fun hHeld => ?_)
          case hS11 => exact ⟨c0, d0⟩
          refine wpAnyH_take (i := 0) (v := ?_) rfl (by kernel_rfl) (by kernel_rfl) (by kernel_rfl) (fun _ _ _ h => h) (Or.inl ⟨by rfl, ?hy12⟩) (by assumption) ?ty12
          case hy12 => (intro w hSw; (try dsimp only at hSw); obtain ⟨⟨s0, s1⟩, s2, s3⟩ := hSw; go_simp; all_goals with_reducible rfl)
          simp only [Act.put, List.getElem_toArray, List.getElem_cons_zero, List.setIfInBounds_toArray, List.set_cons_zero, List.set_cons_succ]
          refine wpAnyH_take (i := 1) (v := ?_) rfl (by kernel_rfl) (by kernel_rfl) (by kernel_rfl) (fun _ _ _ h => h) (Or.inl ⟨by rfl, ?hy13⟩) (by assumption) ?ty13
          case hy13 => (intro w hSw; (try dsimp only at hSw); obtain ⟨⟨s0, s1⟩, s2, s3⟩ := hSw; go_simp; all_goals with_reducible rfl)
          simp only [Act.put, List.getElem_toArray, List.getElem_cons_zero, List.getElem_cons_succ, List.setIfInBounds_toArray, List.set_cons_zero, List.set_cons_succ]
          refine wpAnyH_take (i := 2) (v := ?_) rfl (by kernel_rfl) (by kernel_rfl) (by kernel_rfl) (fun _ _ _ h => h) (Or.inl ⟨by rfl, ?hy14⟩) (by assumption) ?ty14
          case hy14 => (intro w hSw; (try dsimp only at hSw); obtain ⟨⟨s0, s1⟩, s2, s3⟩ := hSw; go_simp; all_goals with_reducible rfl)
          simp only [Act.put, List.getElem_toArray, List.getElem_cons_zero, List.getElem_cons_succ, List.setIfInBounds_toArray, List.set_cons_zero, List.set_cons_succ]
          refine wpAnyH_take (i := 3) (v := ?_) rfl (by kernel_rfl) (by kernel_rfl) (by kernel_rfl) (fun _ _ _ h => h) (Or.inl ⟨by rfl, ?hy15⟩) (by assumption) ?ty15
          case hy15 => (intro w hSw; (try dsimp only at hSw); obtain ⟨⟨s0, s1⟩, s2, s3⟩ := hSw; go_simp; all_goals with_reducible rfl)
          simp only [Act.put, List.getElem_toArray, List.getElem_cons_zero, List.getElem_cons_succ, List.setIfInBounds_toArray, List.set_cons_zero, List.set_cons_succ]
          refine wpAnyH_take (i := 4) (v := ?_) rfl (by kernel_rfl) (by kernel_rfl) (by kernel_rfl) (fun _ _ _ h => h) (Or.inl ⟨by rfl, ?hy16⟩) (by assumption) ?ty16
          case hy16 => (intro w hSw; (try dsimp only at hSw); obtain ⟨⟨s0, s1⟩, s2, s3⟩ := hSw; go_simp; all_goals with_reducible rfl)
          simp only [Act.put, List.getElem_toArray, List.getElem_cons_zero, List.getElem_cons_succ, List.setIfInBounds_toArray, List.set_cons_zero, List.set_cons_succ]
          refine wpAnyH_take (i := 5) (v := ?_) rfl (by kernel_rfl) (by kernel_rfl) (by kernel_rfl) (fun _ _ _ h => h) (Or.inl ⟨by rfl, ?hy17⟩) (by assumption) ?ty17
          case hy17 => (intro w hSw; (try dsimp only at hSw); obtain ⟨⟨s0, s1⟩, s2, s3⟩ := hSw; go_simp; all_goals with_reducible rfl)
          simp only [Act.put, List.getElem_toArray, List.getElem_cons_zero, List.getElem_cons_succ, List.setIfInBounds_toArray, List.set_cons_zero, List.set_cons_succ]
          refine wpAnyH_take (i := 6) (v := ?_) rfl (by kernel_rfl) (by kernel_rfl) (by kernel_rfl) (fun _ _ _ h => h) (Or.inl ⟨by rfl, ?hy18⟩) (by assumption) ?ty18
          case hy18 => (intro w hSw; (try dsimp only at hSw); obtain ⟨⟨s0, s1⟩, s2, s3⟩ := hSw; go_simp; all_goals with_reducible rfl)
          simp only [Act.put, List.getElem_toArray, List.getElem_cons_zero, List.getElem_cons_succ, List.setIfInBounds_toArray, List.set_cons_zero, List.set_cons_succ]
          refine wpAnyH_take (i := 7) (v := ?_) rfl (by kernel_rfl) (by kernel_rfl) (by kernel_rfl) (fun _ _ _ h => h) (Or.inl ⟨by rfl, ?hy19⟩) (by assumption) ?ty19
          case hy19 => (intro w hSw; (try dsimp only at hSw); obtain ⟨⟨s0, s1⟩, s2, s3⟩ := hSw; go_simp; all_goals with_reducible rfl)
          simp only [Act.put, List.getElem_toArray, List.getElem_cons_zero, List.getElem_cons_succ, List.setIfInBounds_toArray, List.set_cons_zero, List.set_cons_succ]
          refine wpAnyH_take (i := 8) (v := .bool true) rfl (by kernel_rfl) (by kernel_rfl) (by kernel_rfl) (fun _ _ _ h => h) (Or.inl ⟨by rfl, ?hy20⟩) (by assumption) ?ty20
          case hy20 => (intro w hSw; (try dsimp only at hSw); obtain ⟨⟨s0, s1⟩, s2, s3⟩ := hSw; go_simp; first | (exact fun h1 h2 => hyz ⟨h1, h2⟩) | (simp; done) | (simp [hyz]; done) | (simp; omega))
          simp only [Act.put, List.getElem_toArray, List.getElem_cons_zero, List.getElem_cons_succ, List.setIfInBounds_toArray, List.set_cons_zero, List.set_cons_succ]
          refine wpAnyH_done (by kernel_rfl) ?_ _
          clear hHeld
          go_wp2
          go_ret
          exact ⟨by rw [HM.out]; rfl, hbel.trans (Below.refl _ _).drew⟩
      · have hki : ¬ (k : Int) < (n : Int) := by omega
        have HM : Hid (r = true) := HA.out (by trivial) (fun j hj => hall j (by omega))
        clear hall
        go_wp2
        go_ret
        exact ⟨by rw [HM.out]; rfl, hbel⟩
  · have hnn' : ¬ (n : Int) = (n' : Int) := by omega
    have HM : Hid (r = false) := HE.out hnn
    go_wp2
    go_ret
    exact ⟨by rw [HM.out]; rfl, Below.refl _ _⟩

set_option maxHeartbeats 3200000 in
set_option maxRecDepth 100000 in
theorem isSameTerm_any (a b : TmR) (p p' : SlT) {lo lo' : Nat} (w : World) (hs : IsTm lo w p a) (hs' : IsTm lo' w p' b) :
    Calls Tryz.prog 61 #[tmX a p, tmX b p'] w fun e w' => e = .returned (.bool (smT a b)) ∧ Below w.heap.size w w' := by
  obtain ⟨ak, an, ac, ay, al, ar⟩ := a
  obtain ⟨bk, bn, bc, by', bl, br⟩ := b
  have HV : Hid (smT ⟨ak, an, ac, ay, al, ar⟩ ⟨bk, bn, bc, by', bl, br⟩ = (decide (ak = bk) && (decide (an = bn) && (smU ac bc && (smY ay by' && (decide (al = bl) && decide (ar = br))))))) := rfl
  generalize smT ⟨ak, an, ac, ay, al, ar⟩ ⟨bk, bn, bc, by', bl, br⟩ = r at *
  have hbW : Below w.heap.size w ((w.alloc (.cells #[.int .i64 ak, .int .i64 an, slW p.1, slW p.2, .int .i64 al, .int .i64 ar] 47)).alloc (.cells #[.int .i64 bk, .int .i64 bn, slW p'.1, slW p'.2, .int .i64 bl, .int .i64 br] 47)) :=
    ((Below.refl _ _).alloc (Nat.le_refl _) _).alloc (by simp) _
  have hQ := (Qu.new w (.int .i64 ak) (.int .i64 an) (slW p.1) (slW p.2) (.int .i64 al) (.int .i64 ar) 47).below ((Below.refl _ _).alloc (Nat.le_refl _) (.cells #[.int .i64 bk, .int .i64 bn, slW p'.1, slW p'.2, .int .i64 bl, .int .i64 br] 47)) (by simp)
  have hQ' : Qu ((w.alloc (.cells #[.int .i64 ak, .int .i64 an, slW p.1, slW p.2, .int .i64 al, .int .i64 ar] 47)).alloc (.cells #[.int .i64 bk, .int .i64 bn, slW p'.1, slW p'.2, .int .i64 bl, .int .i64 br] 47)) (w.heap.size + 1) ⟨.int .i64 bk, .int .i64 bn, slW p'.1, slW p'.2, .int .i64 bl, .int .i64 br⟩ := by
    have h := Qu.new (w.alloc (.cells #[.int .i64 ak, .int .i64 an, slW p.1, slW p.2, .int .i64 al, .int .i64 ar] 47)) (.int .i64 bk) (.int .i64 bn) (slW p'.1) (slW p'.2) (.int .i64 bl) (.int .i64 br) 47
    simpa using h
  have HU := equalI_any p.1 p'.1 ac bc _ (hs.1.below hbW) (hs'.1.below hbW)
  have HD : Hid (∀ w', Below w.heap.size w w' → Calls Tryz.prog 118 #[slW p.2, slW p'.2] w' fun e w'' => e = .returned (.bool (smY ay by')) ∧ Below w'.heap.size w' w'') := fun w' h => equalY_any p.2 p'.2 ay by' w' (hs.2.below h) (hs'.2.below h)
  generalize smY ay by' = sd at *
  generalize smU ac bc = su at *
  clear hs hs'
  by_cases h1 : ak = bk
  · subst h1
    by_cases h2 : an = bn
    · subst h2
      go_enter Tryz.func61, Tryz.ntmps61
      go_wp2_with fail
      refine HU.mono ?_
      rintro e w1 ⟨rfl, hb1⟩
      have hQ1 := hQ.below hb1 hQ.lt
      have hQ1' := hQ'.below hb1 hQ'.lt
      have hB1 := hbW.trans (hb1.mono hbW.size)
      have HQ : Hid (_) := And.intro hQ1 hQ1'
      obtain ⟨c0, c1, c2, c3, c4, c5⟩ := hQ1
      obtain ⟨d0, d1, d2, d3, d4, d5⟩ := hQ1'
      dsimp only at c0 c1 c2 c3 c4 c5 d0 d1 d2 d3 d4 d5
      clear hQ hQ' hb1 hbW HU
      cases su with
      | false =>
        have HR : Hid (r = false) := HV.out.trans (by simp)
        clear HV HQ
        go_wp2
        go_ret
        exact ⟨by rw [HR.out]; rfl, hB1⟩
      | true =>
        go_wp2_with fail
        refine (HD.out _ hB1).mono ?_
        rintro e w2 ⟨rfl, hb2⟩
        have hB2 := hB1.trans (hb2.mono hB1.size)
        obtain ⟨hQ1, hQ1'⟩ := HQ.out
        have hQ2 := hQ1.below hb2 hQ1.lt
        have hQ2' := hQ1'.below hb2 hQ1'.lt
        clear hb2 HD HQ hQ1 hQ1' hB1 c0 c1 c2 c3 c4 c5 d0 d1 d2 d3 d4 d5
        obtain ⟨c0, c1, c2, c3, c4, c5⟩ := hQ2
        obtain ⟨d0, d1, d2, d3, d4, d5⟩ := hQ2'
        dsimp only at c0 c1 c2 c3 c4 c5 d0 d1 d2 d3 d4 d5
        cases sd with
        | false =>
          have HR : Hid (r = false) := HV.out.trans (by simp)
          clear HV
          go_wp2
          go_ret
          exact ⟨by rw [HR.out]; rfl, hB2⟩
        | true =>
          by_cases h5 : al = bl
          rotate_left
          · have HR : Hid (r = false) := HV.out.trans (by simp [h5])
            have e1 : (al == bl) = false := by simpa using h5
            clear HV
            go_wp2
            go_ret
            exact ⟨by rw [HR.out]; first | rfl | simp | simp [e1] | simp [h5], hB2⟩
          · subst h5
            by_cases h6 : ar = br
            rotate_left
            · have HR : Hid (r = false) := HV.out.trans (by simp [h6])
              have e1 : (ar == br) = false := by simpa using h6
              clear HV
              go_wp2
              go_ret
              exact ⟨by rw [HR.out]; first | rfl | simp | simp [e1] | simp [h6], hB2⟩
            · subst h6
              have HR : Hid (r = true) := HV.out.trans (by simp)
              clear HV
              go_wp2
              go_ret
              exact ⟨by rw [HR.out]; first | rfl | simp, hB2⟩
    · have HR : Hid (r = false) := HV.out.trans (by simp [h2])
      have e1 : (an == bn) = false := by simpa using h2
      clear HV HU HD
      go_enter Tryz.func61, Tryz.ntmps61
      go_wp2
      go_ret
      exact ⟨by rw [HR.out]; first | rfl | simp, hbW⟩
  · have HR : Hid (r = false) := HV.out.trans (by simp [h1])
    have e1 : (ak == bk) = false := by simpa using h1
    clear HV HU HD
    go_enter Tryz.func61, Tryz.ntmps61
    go_wp2
    go_ret
    exact ⟨by rw [HR.out]; first | rfl | simp, hbW⟩

end Go.Proofs.YthmimalplpjghaaGreatDoor
