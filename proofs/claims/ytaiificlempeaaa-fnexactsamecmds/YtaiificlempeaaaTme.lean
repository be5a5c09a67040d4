/- Whether two terms, two lists of terms are the same: the program's side; no conditions beyond those that each fact names. -/
import Derived.Test.YtaiificlempeaaaTmt
import Derived.Test.YtaiificlempeaaaSmo
import Derived.Deep.RegionHeld3
namespace Go.Proofs.Ytaiificlempeaaa
open Go.RowKit
set_option linter.unusedVariables false

/-- Two rows of ranges are the same. -/
def smY (l l' : List YgP) : Bool := eqH l.length l'.length (fun i => decide (nthY l i = nthY l' i))
/-- TWO TERMS ARE THE SAME. -/
def smT (a b : TmR) : Bool := decide (a.k = b.k) && (decide (a.n = b.n) && (smU a.c b.c && (smY a.y b.y && (decide (a.l = b.l) && decide (a.r = b.r)))))

set_option maxHeartbeats 1600000 in
set_option maxRecDepth 100000 in
theorem equalY_any (s s' : SlQ) (l l' : List YgP) {lo lo' : Nat} (w : World) (hs : IsYl lo w s l) (hs' : IsYl lo' w s' l') :
    Calls Try.prog 24 #[slW s, slW s'] w fun e w' => e = .returned (.bool (smY l l')) ∧ Below w.heap.size w w' := by
  obtain ⟨a, n, cap⟩ := s
  obtain ⟨a', n', cap'⟩ := s'
  obtain ⟨hl, hnc, hcm, hr, -⟩ := hs
  obtain ⟨hl', hnc', hcm', hr', -⟩ := hs'
  dsimp only [slW] at *
  unfold maxLen at hcm hcm'
  have HL : Hid (l.length = n ∧ l'.length = n') := ⟨hl, hl'⟩
  have HB : Hid (∀ k, k < n → nthY l k ≠ nthY l' k → smY l l' = false) := fun k hk h => eqH_bad (by rw [hl]; exact hk) (decide_eq_false h)
  have HE : Hid (n ≠ n' → smY l l' = false) := fun h => eqH_ne (by rw [hl, hl']; exact h)
  have HA : Hid (n = n' → (∀ k, k < n → nthY l k = nthY l' k) → smY l l' = true) := fun h h' => eqH_all (by rw [hl, hl']; exact h) (fun k hk => decide_eq_true (h' k (by omega)))
  generalize smY l l' = r at *
  clear hl hl'
  go_enter Try.func24, Try.ntmps24
  by_cases hnn : n = n'
  · subst hnn
    go_wp2
    go_loopw [13, 5] (fun i _ wr => ∃ k : Nat, k ≤ n ∧ i = .int .i64 k ∧ (∀ j, j < k → nthY l j = nthY l' j) ∧ Below w.heap.size w wr) (fun i _ _ => n - (intOf i).toNat)
    case atStart => exact ⟨0, Nat.zero_le _, rfl, fun j hj => absurd hj (Nat.not_lt_zero _), Below.refl _ _⟩
    case round =>
      obtain ⟨k, hk, rfl, hall, hbel⟩ := hrel
      by_cases hkn : k < n
      · have hki : (k : Int) < (n : Int) := by omega
        obtain ⟨g, off, rfl, hglt, hcell⟩ := (hr.below hbel).at_ (by have := HL.out; omega)
        obtain ⟨g', off', rfl, hglt', hcell'⟩ := (hr'.below hbel).at_ (by have := HL.out; omega)
        have c0 := hcell k (by have := HL.out; omega)
        have d0 := hcell' k (by have := HL.out; omega)
        have HY : Hid (nthY l k = nthY l' k → ∀ j, j < k + 1 → nthY l j = nthY l' j) := fun h j hj => by
          rcases Nat.lt_or_ge j k with h' | h'
          · exact hall j h'
          · obtain rfl : j = k := by omega
            exact h
        have HN : Hid (nthY l k ≠ nthY l' k → r = false) := fun h => HB.out k hkn h
        clear hall hcell hcell'
        generalize nthY l k = y at *
        generalize nthY l' k = z at *
        obtain ⟨y1, y2⟩ := y
        obtain ⟨z1, z2⟩ := z
        dsimp only at c0 d0
        by_cases hyz : y1 = z1 ∧ y2 = z2
        · obtain ⟨rfl, rfl⟩ := hyz
          have HM : Hid (_) := HY.out rfl
          clear HY HN
          go_wp2_with fail
          refine wp_region_held_drew (S := fun w' => (w'.cell? ⟨g, off + k * 2, none⟩ = some (.int .i64 y1) ∧ w'.cell? ⟨g, off + k * 2 + 1, none⟩ = some (.int .i64 y2)) ∧ (w'.cell? ⟨g', off' + k * 2, none⟩ = some (.int .i64 y1) ∧ w'.cell? ⟨g', off' + k * 2 + 1, none⟩ = some (.int .i64 y2))) (by kernel_rfl) ?hS1 (fun hHeld => ?_)
          case hS1 => exact ⟨c0, d0⟩
          refine wpAnyH_take (i := 0) (v := ?_) rfl (by kernel_rfl) (by kernel_rfl) (by kernel_rfl) (fun _ _ _ h => h) (Or.inl ⟨by rfl, ?hy2⟩) (by assumption) ?ty2
          case hy2 => (intro w hSw; (try dsimp only at hSw); obtain ⟨⟨s0, s1⟩, s2, s3⟩ := hSw; go_simp; all_goals with_reducible rfl)
          simp only [Act.put, List.getElem_toArray, List.getElem_cons_zero, List.setIfInBounds_toArray, List.set_cons_zero, List.set_cons_succ]
          refine wpAnyH_take (i := 1) (v := ?_) rfl (by kernel_rfl) (by kernel_rfl) (by kernel_rfl) (fun _ _ _ h => h) (Or.inl ⟨by rfl, ?hy3⟩) (by assumption) ?ty3
          case hy3 => (intro w hSw; (try dsimp only at hSw); obtain ⟨⟨s0, s1⟩, s2, s3⟩ := hSw; go_simp; all_goals with_reducible rfl)
          simp only [Act.put, List.getElem_toArray, List.getElem_cons_zero, List.getElem_cons_succ, List.setIfInBounds_toArray, List.set_cons_zero, List.set_cons_succ]
          refine wpAnyH_take (i := 2) (v := ?_) rfl (by kernel_rfl) (by kernel_rfl) (by kernel_rfl) (fun _ _ _ h => h) (Or.inl ⟨by rfl, ?hy4⟩) (by assumption) ?ty4
          case hy4 => (intro w hSw; (try dsimp only at hSw); obtain ⟨⟨s0, s1⟩, s2, s3⟩ := hSw; go_simp; all_goals with_reducible rfl)
          simp only [Act.put, List.getElem_toArray, List.getElem_cons_zero, List.getElem_cons_succ, List.setIfInBounds_toArray, List.set_cons_zero, List.set_cons_succ]
          refine wpAnyH_take (i := 3) (v := ?_) rfl (by kernel_rfl) (by kernel_rfl) (by kernel_rfl) (fun _ _ _ h => h) (Or.inl ⟨by rfl, ?hy5⟩) (by assumption) ?ty5
          case hy5 => (intro w hSw; (try dsimp only at hSw); obtain ⟨⟨s0, s1⟩, s2, s3⟩ := hSw; go_simp; all_goals with_reducible rfl)
          simp only [Act.put, List.getElem_toArray, List.getElem_cons_zero, List.getElem_cons_succ, List.setIfInBounds_toArray, List.set_cons_zero, List.set_cons_succ]
          refine wpAnyH_take (i := 4) (v := ?_) rfl (by kernel_rfl) (by kernel_rfl) (by kernel_rfl) (fun _ _ _ h => h) (Or.inl ⟨by rfl, ?hy6⟩) (by assumption) ?ty6
          case hy6 => (intro w hSw; (try dsimp only at hSw); obtain ⟨⟨s0, s1⟩, s2, s3⟩ := hSw; go_simp; all_goals with_reducible rfl)
          simp only [Act.put, List.getElem_toArray, List.getElem_cons_zero, List.getElem_cons_succ, List.setIfInBounds_toArray, List.set_cons_zero, List.set_cons_succ]
          refine wpAnyH_take (i := 5) (v := ?_) rfl (by kernel_rfl) (by kernel_rfl) (by kernel_rfl) (fun _ _ _ h => h) (Or.inl ⟨by rfl, ?hy7⟩) (by assumption) ?ty7
          case hy7 => (intro w hSw; (try dsimp only at hSw); obtain ⟨⟨s0, s1⟩, s2, s3⟩ := hSw; go_simp; all_goals with_reducible rfl)
          simp only [Act.put, List.getElem_toArray, List.getElem_cons_zero, List.getElem_cons_succ, List.setIfInBounds_toArray, List.set_cons_zero, List.set_cons_succ]
          refine wpAnyH_take (i := 6) (v := ?_) rfl (by kernel_rfl) (by kernel_rfl) (by kernel_rfl) (fun _ _ _ h => h) (Or.inl ⟨by rfl, ?hy8⟩) (by assumption) ?ty8
          case hy8 => (intro w hSw; (try dsimp only at hSw); obtain ⟨⟨s0, s1⟩, s2, s3⟩ := hSw; go_simp; all_goals with_reducible rfl)
          simp only [Act.put, List.getElem_toArray, List.getElem_cons_zero, List.getElem_cons_succ, List.setIfInBounds_toArray, List.set_cons_zero, List.set_cons_succ]
          refine wpAnyH_take (i := 7) (v := ?_) rfl (by kernel_rfl) (by kernel_rfl) (by kernel_rfl) (fun _ _ _ h => h) (Or.inl ⟨by rfl, ?hy9⟩) (by assumption) ?ty9
          case hy9 => (intro w hSw; (try dsimp only at hSw); obtain ⟨⟨s0, s1⟩, s2, s3⟩ := hSw; go_simp; all_goals with_reducible rfl)
          simp only [Act.put, List.getElem_toArray, List.getElem_cons_zero, List.getElem_cons_succ, List.setIfInBounds_toArray, List.set_cons_zero, List.set_cons_succ]
          refine wpAnyH_take (i := 8) (v := .bool false) rfl (by kernel_rfl) (by kernel_rfl) (by kernel_rfl) (fun _ _ _ h => h) (Or.inl ⟨by rfl, ?hy10⟩) (by assumption) ?ty10
          case hy10 => (intro w hSw; (try dsimp only at hSw); obtain ⟨⟨s0, s1⟩, s2, s3⟩ := hSw; go_simp; first | (all_goals with_reducible rfl) | (simp; done) | (simp; omega))
          simp only [Act.put, List.getElem_toArray, List.getElem_cons_zero, List.getElem_cons_succ, List.setIfInBounds_toArray, List.set_cons_zero, List.set_cons_succ]
          refine wpAnyH_done (by kernel_rfl) ?_ _
          clear hHeld
          go_wp2
          go_roundw
          case rel => exact ⟨k + 1, by omega, by go_num, HM.out, hbel.trans (Below.refl _ _).drew⟩
          case measure => simp [intOf]; omega
        · have HM : Hid (r = false) := HN.out (fun h => hyz (by cases h; exact ⟨rfl, rfl⟩))
          clear HY HN
          go_wp2_with fail
          refine wp_region_held_drew (S := fun w' => (w'.cell? ⟨g, off + k * 2, none⟩ = some (.int .i64 y1) ∧ w'.cell? ⟨g, off + k * 2 + 1, none⟩ = some (.int .i64 y2)) ∧ (w'.cell? ⟨g', off' + k * 2, none⟩ = some (.int .i64 z1) ∧ w'.cell? ⟨g', off' + k * 2 + 1, none⟩ = some (.int .i64 z2))) (by kernel_rfl) ?hS11 (fun hHeld => ?_)
          case hS11 => exact ⟨c0, d0⟩
          refine wpAnyH_take (i := 0) (v := ?_) rfl (by kernel_rfl) (by kernel_rfl) (by kernel_rfl) (fun _ _ _ h => h) (Or.inl ⟨by rfl, ?hy12⟩) (by assumption) ?ty12
          case hy12 => (intro w hSw; (try dsimp only at hSw); obtain ⟨⟨s0, s1⟩, s2, s3⟩ := hSw; go_simp; all_goals with_reducible rfl)
          simp only [Act.put, List.getElem_toArray, List.getElem_cons_zero, List.setIfInBounds_toArray, List.set_cons_zero, List.set_cons_succ]
          refine wpAnyH_take (i := 1) (v := ?_) rfl (by kernel_rfl) (by kernel_rfl) (by kernel_rfl) (fun _ _ _ h => h) (Or.inl ⟨by rfl, ?hy13⟩) (by assumption) ?ty13
          case hy13 => (intro w hSw; (try dsimp only at hSw); obtain ⟨⟨s0, s1⟩, s2, s3⟩ := hSw; go_simp; all_goals with_reducible rfl)
          simp only [Act.put, List.getElem_toArray, List.getElem_cons_zero, List.getElem_cons_succ, List.setIfInBounds_toArray, List.set_cons_zero, List.set_cons_succ]
          refine wpAnyH_take (i := 2) (v := ?_) rfl (by kernel_rfl) (by kernel_rfl) (by kernel_rfl) (fun _ _ _ h => h) (Or.inl ⟨by rfl, ?hy14⟩) (by assumption) ?ty14
          case hy14 => (intro w hSw; (try dsimp only at hSw); obtain ⟨⟨s0, s1⟩, s2, s3⟩ := hSw; go_simp; all_goals with_reducible rfl)
          simp only [Act.put, List.getElem_toArray, List.getElem_cons_zero, List.getElem_cons_succ, List.setIfInBounds_toArray, List.set_cons_zero, List.set_cons_succ]
          refine wpAnyH_take (i := 3) (v := ?_) rfl (by kernel_rfl) (by kernel_rfl) (by kernel_rfl) (fun _ _ _ h => h) (Or.inl ⟨by rfl, ?hy15⟩) (by assumption) ?ty15
          case hy15 => (intro w hSw; (try dsimp only at hSw); obtain ⟨⟨s0, s1⟩, s2, s3⟩ := hSw; go_simp; all_goals with_reducible rfl)
          simp only [Act.put, List.getElem_toArray, List.getElem_cons_zero, List.getElem_cons_succ, List.setIfInBounds_toArray, List.set_cons_zero, List.set_cons_succ]
          refine wpAnyH_take (i := 4) (v := ?_) rfl (by kernel_rfl) (by kernel_rfl) (by kernel_rfl) (fun _ _ _ h => h) (Or.inl ⟨by rfl, ?hy16⟩) (by assumption) ?ty16
          case hy16 => (intro w hSw; (try dsimp only at hSw); obtain ⟨⟨s0, s1⟩, s2, s3⟩ := hSw; go_simp; all_goals with_reducible rfl)
          simp only [Act.put, List.getElem_toArray, List.getElem_cons_zero, List.getElem_cons_succ, List.setIfInBounds_toArray, List.set_cons_zero, List.set_cons_succ]
          refine wpAnyH_take (i := 5) (v := ?_) rfl (by kernel_rfl) (by kernel_rfl) (by kernel_rfl) (fun _ _ _ h => h) (Or.inl ⟨by rfl, ?hy17⟩) (by assumption) ?ty17
          case hy17 => (intro w hSw; (try dsimp only at hSw); obtain ⟨⟨s0, s1⟩, s2, s3⟩ := hSw; go_simp; all_goals with_reducible rfl)
          simp only [Act.put, List.getElem_toArray, List.getElem_cons_zero, List.getElem_cons_succ, List.setIfInBounds_toArray, List.set_cons_zero, List.set_cons_succ]
          refine wpAnyH_take (i := 6) (v := ?_) rfl (by kernel_rfl) (by kernel_rfl) (by kernel_rfl) (fun _ _ _ h => h) (Or.inl ⟨by rfl, ?hy18⟩) (by assumption) ?ty18
          case hy18 => (intro w hSw; (try dsimp only at hSw); obtain ⟨⟨s0, s1⟩, s2, s3⟩ := hSw; go_simp; all_goals with_reducible rfl)
          simp only [Act.put, List.getElem_toArray, List.getElem_cons_zero, List.getElem_cons_succ, List.setIfInBounds_toArray, List.set_cons_zero, List.set_cons_succ]
          refine wpAnyH_take (i := 7) (v := ?_) rfl (by kernel_rfl) (by kernel_rfl) (by kernel_rfl) (fun _ _ _ h => h) (Or.inl ⟨by rfl, ?hy19⟩) (by assumption) ?ty19
          case hy19 => (intro w hSw; (try dsimp only at hSw); obtain ⟨⟨s0, s1⟩, s2, s3⟩ := hSw; go_simp; all_goals with_reducible rfl)
          simp only [Act.put, List.getElem_toArray, List.getElem_cons_zero, List.getElem_cons_succ, List.setIfInBounds_toArray, List.set_cons_zero, List.set_cons_succ]
          refine wpAnyH_take (i := 8) (v := .bool true) rfl (by kernel_rfl) (by kernel_rfl) (by kernel_rfl) (fun _ _ _ h => h) (Or.inl ⟨by rfl, ?hy20⟩) (by assumption) ?ty20
          case hy20 => (intro w hSw; (try dsimp only at hSw); obtain ⟨⟨s0, s1⟩, s2, s3⟩ := hSw; go_simp; first | (exact fun h1 h2 => hyz ⟨h1, h2⟩) | (simp; done) | (simp [hyz]; done) | (simp; omega))
          simp only [Act.put, List.getElem_toArray, List.getElem_cons_zero, List.getElem_cons_succ, List.setIfInBounds_toArray, List.set_cons_zero, List.set_cons_succ]
          refine wpAnyH_done (by kernel_rfl) ?_ _
          clear hHeld
          go_wp2
          go_ret
          exact ⟨by rw [HM.out]; rfl, hbel.trans (Below.refl _ _).drew⟩
      · have hki : ¬ (k : Int) < (n : Int) := by omega
        have HM : Hid (r = true) := HA.out (by trivial) (fun j hj => hall j (by omega))
        clear hall
        go_wp2
        go_ret
        exact ⟨by rw [HM.out]; rfl, hbel⟩
  · have hnn' : ¬ (n : Int) = (n' : Int) := by omega
    have HM : Hid (r = false) := HE.out hnn
    go_wp2
    go_ret
    exact ⟨by rw [HM.out]; rfl, Below.refl _ _⟩

set_option maxHeartbeats 3200000 in
set_option maxRecDepth 100000 in
theorem isSameTerm_any (a b : TmR) (p p' : SlT) {lo lo' : Nat} (w : World) (hs : IsTm lo w p a) (hs' : IsTm lo' w p' b) :
    Calls Try.prog 41 #[tmX a p, tmX b p'] w fun e w' => e = .returned (.bool (smT a b)) ∧ Below w.heap.size w w' := by
  obtain ⟨ak, an, ac, ay, al, ar⟩ := a
  obtain ⟨bk, bn, bc, by', bl, br⟩ := b
  have HV : Hid (smT ⟨ak, an, ac, ay, al, ar⟩ ⟨bk, bn, bc, by', bl, br⟩ = (decide (ak = bk) && (decide (an = bn) && (smU ac bc && (smY ay by' && (decide (al = bl) && decide (ar = br))))))) := rfl
  generalize smT ⟨ak, an, ac, ay, al, ar⟩ ⟨bk, bn, bc, by', bl, br⟩ = r at *
  have hbW : Below w.heap.size w ((w.alloc (.cells #[.int .i64 ak, .int .i64 an, slW p.1, slW p.2, .int .i64 al, .int .i64 ar] 65)).alloc (.cells #[.int .i64 bk, .int .i64 bn, slW p'.1, slW p'.2, .int .i64 bl, .int .i64 br] 65)) :=
    ((Below.refl _ _).alloc (Nat.le_refl _) _).alloc (by simp) _
  have hQ := (Qu.new w (.int .i64 ak) (.int .i64 an) (slW p.1) (slW p.2) (.int .i64 al) (.int .i64 ar) 65).below ((Below.refl _ _).alloc (Nat.le_refl _) (.cells #[.int .i64 bk, .int .i64 bn, slW p'.1, slW p'.2, .int .i64 bl, .int .i64 br] 65)) (by simp)
  have hQ' : Qu ((w.alloc (.cells #[.int .i64 ak, .int .i64 an, slW p.1, slW p.2, .int .i64 al, .int .i64 ar] 65)).alloc (.cells #[.int .i64 bk, .int .i64 bn, slW p'.1, slW p'.2, .int .i64 bl, .int .i64 br] 65)) (w.heap.size + 1) ⟨.int .i64 bk, .int .i64 bn, slW p'.1, slW p'.2, .int .i64 bl, .int .i64 br⟩ := by
    have h := Qu.new (w.alloc (.cells #[.int .i64 ak, .int .i64 an, slW p.1, slW p.2, .int .i64 al, .int .i64 ar] 65)) (.int .i64 bk) (.int .i64 bn) (slW p'.1) (slW p'.2) (.int .i64 bl) (.int .i64 br) 65
    simpa using h
  have HU := equalI_any p.1 p'.1 ac bc _ (hs.1.below hbW) (hs'.1.below hbW)
  have HD : Hid (∀ w', Below w.heap.size w w' → Calls Try.prog 24 #[slW p.2, slW p'.2] w' fun e w'' => e = .returned (.bool (smY ay by')) ∧ Below w'.heap.size w' w'') := fun w' h => equalY_any p.2 p'.2 ay by' w' (hs.2.below h) (hs'.2.below h)
  generalize smY ay by' = sd at *
  generalize smU ac bc = su at *
  clear hs hs'
  by_cases h1 : ak = bk
  · subst h1
    by_cases h2 : an = bn
    · subst h2
      go_enter Try.func41, Try.ntmps41
      go_wp2_with fail
      refine HU.mono ?_
      rintro e w1 ⟨rfl, hb1⟩
      have hQ1 := hQ.below hb1 hQ.lt
      have hQ1' := hQ'.below hb1 hQ'.lt
      have hB1 := hbW.trans (hb1.mono hbW.size)
      have HQ : Hid (_) := And.intro hQ1 hQ1'
      obtain ⟨c0, c1, c2, c3, c4, c5⟩ := hQ1
      obtain ⟨d0, d1, d2, d3, d4, d5⟩ := hQ1'
      dsimp only at c0 c1 c2 c3 c4 c5 d0 d1 d2 d3 d4 d5
      clear hQ hQ' hb1 hbW HU
      cases su with
      | false =>
        have HR : Hid (r = false) := HV.out.trans (by simp)
        clear HV HQ
        go_wp2
        go_ret
        exact ⟨by rw [HR.out]; rfl, hB1⟩
      | true =>
        go_wp2_with fail
        refine (HD.out _ hB1).mono ?_
        rintro e w2 ⟨rfl, hb2⟩
        have hB2 := hB1.trans (hb2.mono hB1.size)
        obtain ⟨hQ1, hQ1'⟩ := HQ.out
        have hQ2 := hQ1.below hb2 hQ1.lt
        have hQ2' := hQ1'.below hb2 hQ1'.lt
        clear hb2 HD HQ hQ1 hQ1' hB1 c0 c1 c2 c3 c4 c5 d0 d1 d2 d3 d4 d5
        obtain ⟨c0, c1, c2, c3, c4, c5⟩ := hQ2
        obtain ⟨d0, d1, d2, d3, d4, d5⟩ := hQ2'
        dsimp only at c0 c1 c2 c3 c4 c5 d0 d1 d2 d3 d4 d5
        cases sd with
        | false =>
          have HR : Hid (r = false) := HV.out.trans (by simp)
          clear HV
          go_wp2
          go_ret
          exact ⟨by rw [HR.out]; rfl, hB2⟩
        | true =>
          by_cases h5 : al = bl
          rotate_left
          · have HR : Hid (r = false) := HV.out.trans (by simp [h5])
            have e1 : (al == bl) = false := by simpa using h5
            clear HV
            go_wp2
            go_ret
            exact ⟨by rw [HR.out]; first | rfl | simp | simp [e1] | simp [h5], hB2⟩
          · subst h5
            by_cases h6 : ar = br
            rotate_left
            · have HR : Hid (r = false) := HV.out.trans (by simp [h6])
              have e1 : (ar == br) = false := by simpa using h6
              clear HV
              go_wp2
              go_ret
              exact ⟨by rw [HR.out]; first | rfl | simp | simp [e1] | simp [h6], hB2⟩
            · subst h6
              have HR : Hid (r = true) := HV.out.trans (by simp)
              clear HV
              go_wp2
              go_ret
              exact ⟨by rw [HR.out]; first | rfl | simp, hB2⟩
    · have HR : Hid (r = false) := HV.out.trans (by simp [h2])
      have e1 : (an == bn) = false := by simpa using h2
      clear HV HU HD
      go_enter Try.func41, Try.ntmps41
      go_wp2
      go_ret
      exact ⟨by rw [HR.out]; first | rfl | simp, hbW⟩
  · have HR : Hid (r = false) := HV.out.trans (by simp [h1])
    have e1 : (ak == bk) = false := by simpa using h1
    clear HV HU HD
    go_enter Try.func41, Try.ntmps41
    go_wp2
    go_ret
    exact ⟨by rw [HR.out]; first | rfl | simp, hbW⟩

set_option maxHeartbeats 1600000 in
set_option maxRecDepth 100000 in
theorem equalTm_any (G : Nat) (s s' : SlQ) (l l' : List TmR) (p : TmR → TmR → Bool) {lo lo' : Nat} (w : World) (hs : IsTs lo w s l) (hs' : IsTs lo' w s' l')
    (hG : ∀ (args : Array Value) (w : World), (callFunc G args).run Try.prog w = .ok (.enter G args) w)
    (hI : ∀ (y z : TmR) (q q' : SlT) (w' : World), IsTm lo w' q y → IsTm lo' w' q' z → Calls Try.prog G #[tmX y q, tmX z q'] w' fun e w'' => e = .returned (.bool (p y z)) ∧ Below w'.heap.size w' w'') :
    Calls Try.prog 40 #[slW s, slW s', .func (.func G) #[] #[]] w fun e w' => e = .returned (.bool (eqH l.length l'.length (fun i => p (nthTm l i) (nthTm l' i)))) ∧ Below w.heap.size w w' := by
  obtain ⟨a, n, cap⟩ := s
  obtain ⟨a', n', cap'⟩ := s'
  obtain ⟨hl, hnc, hcm, hr⟩ := hs
  obtain ⟨hl', hnc', hcm', hr'⟩ := hs'
  dsimp only [slW] at *
  unfold maxLen at hcm hcm'
  rw [hl, hl']
  have HI : Hid (∀ (y z : TmR) (q q' : SlT) (w' : World), IsTm lo w' q y → IsTm lo' w' q' z → Calls Try.prog G #[tmX y q, tmX z q'] w' fun e w'' => e = .returned (.bool (p y z)) ∧ Below w'.heap.size w' w'') := hI
  clear hI
  have HB : Hid (∀ k, k < n → p (nthTm l k) (nthTm l' k) = false → eqH n n' (fun i => p (nthTm l i) (nthTm l' i)) = false) := fun k hk h => eqH_bad hk h
  have HE : Hid (n ≠ n' → eqH n n' (fun i => p (nthTm l i) (nthTm l' i)) = false) := fun h => eqH_ne h
  have HA : Hid (n = n' → (∀ k, k < n → p (nthTm l k) (nthTm l' k) = true) → eqH n n' (fun i => p (nthTm l i) (nthTm l' i)) = true) := fun h h' => eqH_all h h'
  generalize eqH n n' (fun i => p (nthTm l i) (nthTm l' i)) = r at *
  go_enter Try.func40, Try.ntmps40
  by_cases hnn : n = n'
  · subst hnn
    go_wp2
    go_loopw [17] (fun i wr => ∃ k : Nat, k ≤ n ∧ i = .int .i64 k ∧ (∀ j, j < k → p (nthTm l j) (nthTm l' j) = true) ∧ Below w.heap.size w wr) (fun i _ => n - (intOf i).toNat)
    case atStart => exact ⟨0, Nat.zero_le _, rfl, fun j hj => absurd hj (Nat.not_lt_zero _), Below.refl _ _⟩
    case round =>
      obtain ⟨k, hk, rfl, hall, hbel⟩ := hrel
      by_cases hkn : k < n
      · have hki : (k : Int) < (n : Int) := by omega
        obtain ⟨g, off, rfl, -, hglt, hcell⟩ := (hr.below hbel).at_ (by omega)
        obtain ⟨g', off', rfl, -, hglt', hcell'⟩ := (hr'.below hbel).at_ (by omega)
        obtain ⟨q, ⟨c0, c1, c2, c3, c4, c5⟩, hIq⟩ := hcell k (by omega)
        obtain ⟨q', ⟨d0, d1, d2, d3, d4, d5⟩, hIq'⟩ := hcell' k (by omega)
        have HY : Hid (p (nthTm l k) (nthTm l' k) = true → ∀ j, j < k + 1 → p (nthTm l j) (nthTm l' j) = true) := fun h j hj => by
          rcases Nat.lt_or_ge j k with h' | h'
          · exact hall j h'
          · obtain rfl : j = k := by omega
            exact h
        have HN : Hid (p (nthTm l k) (nthTm l' k) = false → r = false) := fun h => HB.out k hkn h
        have HC := HI.out (nthTm l k) (nthTm l' k) q q'
        clear hall hcell hcell'
        generalize nthTm l k = y at *
        generalize nthTm l' k = z at *
        generalize p y z = bv at *
        obtain ⟨ak, an, ac, ay, al, ar⟩ := y
        obtain ⟨bk, bn, bc, by', bl, br⟩ := z
        dsimp only at c0 c1 c2 c3 c4 c5 d0 d1 d2 d3 d4 d5 HC hIq hIq'
        have hbA : Below wr.heap.size wr (wr.alloc (.cells #[.int .i64 ak, .int .i64 an, slW q.1, slW q.2, .int .i64 al, .int .i64 ar] 65)) := (Below.refl _ _).alloc (Nat.le_refl _) _
        have e0 := (hbA.cell (p := ⟨g', off' + k * 6, none⟩) hglt').trans d0
        have e1 := (hbA.cell (p := ⟨g', off' + k * 6 + 1, none⟩) hglt').trans d1
        have e2 := (hbA.cell (p := ⟨g', off' + k * 6 + 2, none⟩) hglt').trans d2
        have e3 := (hbA.cell (p := ⟨g', off' + k * 6 + 3, none⟩) hglt').trans d3
        have e4 := (hbA.cell (p := ⟨g', off' + k * 6 + 4, none⟩) hglt').trans d4
        have e5 := (hbA.cell (p := ⟨g', off' + k * 6 + 5, none⟩) hglt').trans d5
        obtain ⟨WA, hWA⟩ : ∃ W, wr.alloc (.cells #[.int .i64 ak, .int .i64 an, slW q.1, slW q.2, .int .i64 al, .int .i64 ar] 65) = W := ⟨_, rfl⟩
        have hQA := Qu.new wr (.int .i64 ak) (.int .i64 an) (slW q.1) (slW q.2) (.int .i64 al) (.int .i64 ar) 65
        rw [hWA] at hbA e0 e1 e2 e3 e4 e5 hQA
        have hsA : WA.heap.size = wr.heap.size + 1 := by rw [← hWA]; simp
        have hbB : Below WA.heap.size WA (WA.alloc (.cells #[.int .i64 bk, .int .i64 bn, slW q'.1, slW q'.2, .int .i64 bl, .int .i64 br] 65)) := (Below.refl _ _).alloc (Nat.le_refl _) _
        have hQB := Qu.new WA (.int .i64 bk) (.int .i64 bn) (slW q'.1) (slW q'.2) (.int .i64 bl) (.int .i64 br) 65
        have hQAB := hQA.below hbB hQA.lt
        have hbAB := hbA.trans (hbB.mono hbA.size)
        have HC := HC _ (hIq.below hbAB) (hIq'.below hbAB)
        have hbel1 := hbel.trans (hbAB.mono hbel.size)
        obtain ⟨x0, x1, x2, x3, x4, x5⟩ := hQAB
        rw [hsA] at hQB
        obtain ⟨z0, z1, z2, z3, z4, z5⟩ := hQB
        dsimp only at x0 x1 x2 x3 x4 x5 z0 z1 z2 z3 z4 z5
        go_wp2_with fail
        refine HC.mono ?_
        rintro e w2 ⟨rfl, hb2⟩
        have hbel2 := hbel1.trans (hb2.mono hbel1.size)
        clear HC HI hG hb2 hbAB hbA hbB hbel1 c0 c1 c2 c3 c4 c5 d0 d1 d2 d3 d4 d5 e0 e1 e2 e3 e4 e5 x0 x1 x2 x3 x4 x5 z0 z1 z2 z3 z4 z5
        cases bv with
        | true =>
          have HM : Hid (_) := HY.out rfl
          clear HY HN
          go_wp2
          go_roundw
          case rel => exact ⟨k + 1, by omega, by go_num, HM.out, hbel2⟩
          case measure => simp [intOf]; omega
        | false =>
          have HM : Hid (r = false) := HN.out rfl
          clear HY HN
          go_wp2
          go_ret
          exact ⟨by rw [HM.out]; rfl, hbel2⟩
      · have hki : ¬ (k : Int) < (n : Int) := by omega
        have HM : Hid (r = true) := HA.out (by trivial) (fun j hj => hall j (by omega))
        clear hall
        go_wp2
        go_ret
        exact ⟨by rw [HM.out]; rfl, hbel⟩
  · have hnn' : ¬ (n : Int) = (n' : Int) := by omega
    have HM : Hid (r = false) := HE.out hnn
    go_wp2
    go_ret
    exact ⟨by rw [HM.out]; rfl, Below.refl _ _⟩

def smTs (l l' : List TmR) : Bool := eqH l.length l'.length (fun i => smT (nthTm l i) (nthTm l' i))
set_option maxHeartbeats 800000 in
set_option maxRecDepth 100000 in
theorem sameTerms_any (l l' : List TmR) (s s' : SlQ) {lo lo' : Nat} (w : World) (hs : IsTs lo w s l) (hs' : IsTs lo' w s' l') :
    Calls Try.prog 27 #[slW s, slW s'] w fun e w' => e = .returned (.bool (smTs l l')) ∧ Below w.heap.size w w' := by
  have HC := equalTm_any 41 s s' l l' smT w hs hs' (fun args w => by kernel_rfl) (fun y z q q' w' h h' => isSameTerm_any y z q q' w' h h')
  have HM : Hid (smTs l l' = eqH l.length l'.length (fun i => smT (nthTm l i) (nthTm l' i))) := rfl
  generalize eqH l.length l'.length (fun i => smT (nthTm l i) (nthTm l' i)) = r at *
  rw [HM.out]
  go_enter Try.func27, Try.ntmps27
  go_wp2_with fail
  refine HC.mono ?_
  rintro e w1 ⟨rfl, hb1⟩
  go_wp2
  go_ret
  exact ⟨rfl, hb1⟩
end Go.Proofs.Ytaiificlempeaaa
