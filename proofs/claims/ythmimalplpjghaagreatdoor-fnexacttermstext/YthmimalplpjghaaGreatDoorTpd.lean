/- Which trees stand at some places: the program's side; no conditions beyond those that each fact names. -/
import Derived.Test.YthmimalplpjghaaGreatDoorTps
namespace Go.Proofs.YthmimalplpjghaaGreatDoor
open Go.RowKit
set_option linter.unusedVariables false

set_option maxHeartbeats 800000 in
set_option maxRecDepth 100000 in
theorem isAt_any (p x : Int) (v : Value) (w : World) :
    Calls Tryz.prog 162 #[.agg #[.int .i64 p, v], .int .i64 x] w fun e w' => e = .returned (.bool (decide (p = x))) ∧ Below w.heap.size w w' := by
  by_cases h : p = x
  · subst h
    go_enter Tryz.func162, Tryz.ntmps162
    go_wp2
    go_ret
    exact ⟨by simp, by go_grown⟩
  · have e1 : (p == x) = false := by simpa using h
    go_enter Tryz.func162, Tryz.ntmps162
    go_wp2
    go_ret
    exact ⟨by simp [h], by go_grown⟩

/-- Its trees are interfaces that hold something. -/
def IfS (l : List SdP) : Prop := ∀ i, i < l.length → ∃ t u, (nthSd l i).2 = .iface t u
/-- These trees stand at these places. -/
def eqSd (l : List SdP) (x : List Int) : Bool := eqH l.length x.length (fun i => decide ((nthSd l i).1 = nthI x i))
theorem eqSd_iff (l : List SdP) (x : List Int) : eqSd l x = decide (l.map Prod.fst = x) := by
  unfold eqSd
  by_cases hl : l.length = x.length
  · by_cases h : l.map Prod.fst = x
    · rw [decide_eq_true h]
      refine eqH_all hl (fun k hk => decide_eq_true ?_)
      rw [nthI_get (by omega), nthSd, List.getD_eq_getElem?_getD, List.getElem?_eq_getElem hk]
      subst h
      simp
    · rw [decide_eq_false h]
      have : ∃ k, k < l.length ∧ (nthSd l k).1 ≠ nthI x k := by
        refine Classical.byContradiction fun hn => h ?_
        refine List.ext_getElem (by simpa using hl) (fun k h1 h2 => ?_)
        have hk : k < l.length := by simpa using h1
        refine Classical.byContradiction fun hne => hn ⟨k, hk, ?_⟩
        rw [nthI_get h2, nthSd, List.getD_eq_getElem?_getD, List.getElem?_eq_getElem hk]
        simpa using hne
      obtain ⟨k, hk, hne⟩ := this
      exact eqH_bad hk (decide_eq_false hne)
  · rw [eqH_ne hl, decide_eq_false (fun h => hl (by rw [← h]; simp))]

set_option maxHeartbeats 1600000 in
set_option maxRecDepth 100000 in
theorem equalSd_any (a : Option Addr) (n cap : Nat) (s' : SlQ) (l : List SdP) (x : List Int) {lo' : Nat} (w : World) (hl : l.length = n) (hnc : n ≤ cap) (hcm : cap ≤ maxLen) (hr : RdSd w a l) (hi : IfS l) (hs' : IsIl lo' w s' x) :
    Calls Tryz.prog 161 #[.slice a n cap, slW s', .func (.func 162) #[] #[]] w fun e w' => e = .returned (.bool (eqSd l x)) ∧ Below w.heap.size w w' := by
  obtain ⟨a', n', cap'⟩ := s'
  obtain ⟨hl', hnc', hcm', hr', -⟩ := hs'
  dsimp only [slW] at *
  unfold maxLen at hcm hcm'
  have HL : Hid (l.length = n ∧ x.length = n') := ⟨hl, hl'⟩
  have HB : Hid (∀ k, k < n → (nthSd l k).1 ≠ nthI x k → eqSd l x = false) := fun k hk h => eqH_bad (by rw [hl]; exact hk) (decide_eq_false h)
  have HE : Hid (n ≠ n' → eqSd l x = false) := fun h => eqH_ne (by rw [hl, hl']; exact h)
  have HA : Hid (n = n' → (∀ k, k < n → (nthSd l k).1 = nthI x k) → eqSd l x = true) := fun h h' => eqH_all (by rw [hl, hl']; exact h) (fun k hk => decide_eq_true (h' k (by omega)))
  generalize eqSd l x = r at *
  clear hl hl'
  go_enter Tryz.func161, Tryz.ntmps161
  by_cases hnn : n = n'
  · subst hnn
    go_wp2
    go_loopw [17] (fun i wr => ∃ k : Nat, k ≤ n ∧ i = .int .i64 k ∧ (∀ j, j < k → (nthSd l j).1 = nthI x j) ∧ Below w.heap.size w wr) (fun i _ => n - (intOf i).toNat)
    case atStart => exact ⟨0, Nat.zero_le _, rfl, fun j hj => absurd hj (Nat.not_lt_zero _), Below.refl _ _⟩
    case round =>
      obtain ⟨k, hk, rfl, hall, hbel⟩ := hrel
      by_cases hkn : k < n
      · have hki : (k : Int) < (n : Int) := by omega
        obtain ⟨g, off, rfl, hglt, hcell⟩ := (hr.below hbel).at_ (by have := HL.out; omega)
        obtain ⟨g', off', rfl, hglt', hcell'⟩ := (hr'.below hbel).at_ (by have := HL.out; omega)
        obtain ⟨c0, c1⟩ := hcell k (by have := HL.out; omega)
        have d0 := hcell' k (by have := HL.out; omega)
        have HY : Hid ((nthSd l k).1 = nthI x k → ∀ j, j < k + 1 → (nthSd l j).1 = nthI x j) := fun h j hj => by
          rcases Nat.lt_or_ge j k with h' | h'
          · exact hall j h'
          · obtain rfl : j = k := by omega
            exact h
        have HN : Hid ((nthSd l k).1 ≠ nthI x k → r = false) := fun h => HB.out k hkn h
        obtain ⟨tt, tu, hty⟩ := hi k (by have := HL.out; omega)
        clear hall hcell hcell'
        generalize nthSd l k = y at *
        generalize nthI x k = z at *
        obtain ⟨y1, y2⟩ := y
        dsimp only at c0 c1 HY HN hty
        subst hty
        have hbA : Below wr.heap.size wr (wr.alloc (.cells #[.int .i64 y1, .iface tt tu] 159)) := (Below.refl _ _).alloc (Nat.le_refl _) _
        have d1 := (hbA.cell (p := ⟨g', off' + k, none⟩) hglt').trans d0
        have x0 : (wr.alloc (.cells #[.int .i64 y1, .iface tt tu] 159)).cell? ⟨wr.heap.size, 0, none⟩ = some (.int .i64 y1) := by simp
        have x1 : (wr.alloc (.cells #[.int .i64 y1, .iface tt tu] 159)).cell? ⟨wr.heap.size, 1, none⟩ = some (.iface tt tu) := by simp
        have hbel1 := hbel.trans (hbA.mono hbel.size)
        have HC := isAt_any y1 z (.iface tt tu) (wr.alloc (.cells #[.int .i64 y1, .iface tt tu] 159))
        go_wp2_with fail
        refine HC.mono ?_
        rintro e w2 ⟨rfl, hb2⟩
        have hbel2 := hbel1.trans (hb2.mono hbel1.size)
        clear HC hb2 hbA hbel1 c0 c1 d0 d1 x0 x1
        by_cases hyz : y1 = z
        · have HM : Hid (_) := HY.out hyz
          clear HY HN
          rw [decide_eq_true hyz]
          go_wp2
          go_roundw
          case rel => exact ⟨k + 1, by omega, by go_num, HM.out, hbel2⟩
          case measure => simp [intOf]; omega
        · have HM : Hid (r = false) := HN.out hyz
          clear HY HN
          rw [decide_eq_false hyz]
          go_wp2
          go_ret
          exact ⟨by rw [HM.out]; rfl, hbel2⟩
      · have hki : ¬ (k : Int) < (n : Int) := by omega
        have HM : Hid (r = true) := HA.out (by trivial) (fun j hj => hall j (by omega))
        clear hall
        go_wp2
        go_ret
        exact ⟨by rw [HM.out]; rfl, hbel⟩
  · have hnn' : ¬ (n : Int) = (n' : Int) := by omega
    have HM : Hid (r = false) := HE.out hnn
    go_wp2
    go_ret
    exact ⟨by rw [HM.out]; rfl, Below.refl _ _⟩

set_option maxHeartbeats 1600000 in
set_option maxRecDepth 100000 in
theorem placesOfTerm_any (o : TmR) (p : SlT) (w : World) :
    Calls Tryz.prog 106 #[tmX o p] w fun e w' => ∃ s, e = .returned (slW s) ∧ IsIl w.heap.size w' s (plT o) ∧ Below w.heap.size w w' := by
  obtain ⟨k, n, c, y, l, r⟩ := o
  by_cases h9 : k = 9
  · have hp : plT ⟨k, n, c, y, l, r⟩ = [l] := if_pos h9
    rw [hp]
    subst h9
    go_enter Tryz.func106, Tryz.ntmps106
    go_wp2
    go_ret
    refine ⟨(some ⟨w.heap.size + 1, 0, none⟩, 1, 1), rfl, ⟨rfl, Nat.le_refl _, by show 1 ≤ maxLen; decide, .inr ⟨w.heap.size + 1, 0, rfl, by simp, fun i hi => ?_⟩, fun x hx => by cases hx; simp⟩, by go_grown⟩
    obtain rfl : i = 0 := by simpa using hi
    simp [nthI]
  · cases ht : twK k with
    | true =>
      have hp : plT ⟨k, n, c, y, l, r⟩ = [l, r] := by unfold plT; rw [if_neg h9, if_pos ht]
      rw [hp]
      have hk : k = 10 ∨ k = 11 := by unfold twK at ht; simpa using ht
      rcases hk with rfl | rfl
      all_goals (
        go_enter Tryz.func106, Tryz.ntmps106
        go_wp2
        go_ret
        refine ⟨(some ⟨w.heap.size + 1, 0, none⟩, 2, 2), rfl, ⟨rfl, Nat.le_refl _, by show 2 ≤ maxLen; decide, .inr ⟨w.heap.size + 1, 0, rfl, by simp, fun i hi => ?_⟩, fun x hx => by cases hx; simp⟩, by go_grown⟩
        have hi2 : i = 0 ∨ i = 1 := by simp at hi; omega
        rcases hi2 with rfl | rfl
        · simp [nthI]
        · simp [nthI])
    | false =>
      have hp : plT ⟨k, n, c, y, l, r⟩ = [] := by unfold plT; rw [if_neg h9, ht]; rfl
      rw [hp]
      have h10 : ¬ k = 10 := fun h => by subst h; revert ht; decide
      have h11 : ¬ k = 11 := fun h => by subst h; revert ht; decide
      go_enter Tryz.func106, Tryz.ntmps106
      go_wp2
      go_ret
      exact ⟨(none, 0, 0), rfl, ⟨rfl, Nat.le_refl _, by decide, .inl rfl, fun x hx => by cases hx⟩, by go_grown⟩
end Go.Proofs.YthmimalplpjghaaGreatDoor
