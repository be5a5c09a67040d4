/- The order of two slices of numbers, the program's and the model's: both by one plain function; slices of at most 1048576 numbers. -/
import Derived.Test.YtjkhlkmibajhiaaMapL
namespace Go.Proofs.Ytjkhlkmibajhiaa
open Go.RowKit

/-- The order of two numbers. -/
def cmp1 (x y : Int) : Int := if x < y then -1 else if y < x then 1 else 0
theorem cmp1_less {x y : Int} (h : x < y) : cmp1 x y = -1 := if_pos h
theorem cmp1_more {x y : Int} (h : y < x) : cmp1 x y = 1 := by unfold cmp1; rw [if_neg (by omega), if_pos h]
theorem cmp1_same (x : Int) : cmp1 x x = 0 := by unfold cmp1; rw [if_neg (by omega), if_neg (by omega)]

theorem cmp1_len (n m : Nat) : cmp1 (n : Int) (m : Int) = if n < m then -1 else if m < n then 1 else 0 := by unfold cmp1; simp only [Int.ofNat_lt]

theorem isNaN64_any (x : Int) (w : World) : Calls Try.prog 88 #[.int .i64 x] w fun e w' => e = .returned (.bool false) ∧ w = w' := by
  go_enter Try.func88, Try.ntmps88
  go_wp2
  go_ret
  refine ret_bool ?_
  simp
theorem isNaN_any (x : Int) (w : World) : Calls Try.prog 89 #[.int .i64 x] w fun e w' => e = .returned (.bool false) ∧ w = w' := by
  go_enter Try.func89, Try.ntmps89
  go_wp2
  go_ret
  refine ret_bool ?_
  simp
theorem compare64_any (x y : Int) (w : World) : Calls Try.prog 84 #[.int .i64 x, .int .i64 y] w fun e w' => e = .returned (.int .i64 (cmp1 x y)) ∧ w = w' := by
  rcases Int.lt_trichotomy x y with h | h | h
  · rw [cmp1_less h]
    go_enter Try.func84, Try.ntmps84
    go_wp2_with (first | (go_at_call 88; refine (isNaN64_any _ _).mono ?_; rintro e w' ⟨rfl, rfl⟩))
    go_ret
    exact ⟨rfl, rfl⟩
  · subst h
    rw [cmp1_same]
    have h1 : ¬ x < x := by omega
    go_enter Try.func84, Try.ntmps84
    go_wp2_with (first | (go_at_call 88; refine (isNaN64_any _ _).mono ?_; rintro e w' ⟨rfl, rfl⟩))
    go_ret
    exact ⟨rfl, rfl⟩
  · rw [cmp1_more h]
    have h1 : ¬ x < y := by omega
    go_enter Try.func84, Try.ntmps84
    go_wp2_with (first | (go_at_call 88; refine (isNaN64_any _ _).mono ?_; rintro e w' ⟨rfl, rfl⟩))
    go_ret
    exact ⟨rfl, rfl⟩
theorem compareInt_any (x y : Int) (w : World) : Calls Try.prog 85 #[.int .i64 x, .int .i64 y] w fun e w' => e = .returned (.int .i64 (cmp1 x y)) ∧ w = w' := by
  rcases Int.lt_trichotomy x y with h | h | h
  · rw [cmp1_less h]
    go_enter Try.func85, Try.ntmps85
    go_wp2_with (first | (go_at_call 89; refine (isNaN_any _ _).mono ?_; rintro e w' ⟨rfl, rfl⟩))
    go_ret
    exact ⟨rfl, rfl⟩
  · subst h
    rw [cmp1_same]
    have h1 : ¬ x < x := by omega
    go_enter Try.func85, Try.ntmps85
    go_wp2_with (first | (go_at_call 89; refine (isNaN_any _ _).mono ?_; rintro e w' ⟨rfl, rfl⟩))
    go_ret
    exact ⟨rfl, rfl⟩
  · rw [cmp1_more h]
    have h1 : ¬ x < y := by omega
    go_enter Try.func85, Try.ntmps85
    go_wp2_with (first | (go_at_call 89; refine (isNaN_any _ _).mono ?_; rintro e w' ⟨rfl, rfl⟩))
    go_ret
    exact ⟨rfl, rfl⟩

set_option maxHeartbeats 3200000 in
set_option maxRecDepth 100000 in
theorem compareLists_any (a c : Option Addr) (n m cap cap' : Nat) (l s : List Int) (w : World) (hl : l.length = n) (hs : s.length = m) (hr : RdI w a l) (hq : RdI w c s) (hn : n ≤ 1048576) (hm : m ≤ 1048576) :
    Calls Try.prog 68 #[.slice a n cap, .slice c m cap'] w fun e w' => e = .returned (.int .i64 (cmpL l s)) ∧ Below w.heap.size w w' := by
  by_cases hmn : m < n
  · have hmn1 : (m : Int) < (n : Int) := by omega
    go_enter Try.func68, Try.ntmps68
    go_wp2
    go_loopw [12] (fun i wr => ∃ j : Nat, j ≤ m ∧ i = .int .i64 j ∧ (∀ i, i < j → nthI l i = nthI s i) ∧ Below w.heap.size w wr) (fun i _ => m - (intOf i).toNat)
    case atStart => exact ⟨0, Nat.zero_le _, rfl, fun i hi => by omega, Below.refl _ _⟩
    case round =>
      obtain ⟨j, hj, rfl, hsame, hbel⟩ := hrel
      by_cases hjn : j < m
      · obtain ⟨b, off, rfl, hblt, hcell⟩ := hr.at_ (by omega)
        obtain ⟨d, off', rfl, hdlt, hdell⟩ := hq.at_ (by omega)
        have hc : wr.cell? ⟨b, off + j, none⟩ = some (.int .i64 (nthI l j)) := (hbel.cell (p := ⟨b, off + j, none⟩) hblt).trans (hcell j (by omega))
        have hd : wr.cell? ⟨d, off' + j, none⟩ = some (.int .i64 (nthI s j)) := (hbel.cell (p := ⟨d, off' + j, none⟩) hdlt).trans (hdell j (by omega))
        have h1 : (j : Int) < (n : Int) := by omega
        have h2 : (j : Int) < (m : Int) := by omega
        have h3 : (j : Int) < (m : Int) := by omega
        have HL : Hid (nthI l j < nthI s j → cmpL l s = -1) := fun h => cmpL_less (by omega) (by omega) hsame h
        have HM : Hid (nthI s j < nthI l j → cmpL l s = 1) := fun h => cmpL_more (by omega) (by omega) hsame h
        have HS : Hid (nthI l j = nthI s j → ∀ i, i < j + 1 → nthI l i = nthI s i) := fun h i hi => by
          by_cases hij : i < j
          · exact hsame i hij
          · have : i = j := by omega
            subst this; exact h
        clear hcell hdell hr hq hsame
        generalize nthI l j = x at *
        generalize nthI s j = y at *
        have HC : Hid (∀ w, Calls Try.prog 84 #[.int .i64 x, .int .i64 y] w fun e w' => e = .returned (.int .i64 (cmp1 x y)) ∧ w' = w) := fun w => (compare64_any x y w).mono fun _ _ ⟨h1, h2⟩ => ⟨h1, h2.symm⟩
        rcases Int.lt_trichotomy x y with h | h | h
        · have H := HL.out h
          have HH : Hid (cmpL l s = -1) := H
          rw [cmp1_less h] at HC
          clear HL HM HS h H
          go_wp2
          go_quiet ((go_at_call 84; exact Calls.quiet_of_same (HC.out _)))
          go_wp2
          go_ret
          exact ⟨by rw [HH.out]; rfl, below_drewN hbel _⟩
        · have HH : Hid (_) := HS.out h
          subst h
          rw [cmp1_same] at HC
          clear HL HM HS
          go_wp2
          go_quiet ((go_at_call 84; exact Calls.quiet_of_same (HC.out _)))
          go_wp2
          go_roundw
          case rel => exact ⟨j + 1, by omega, by go_num, HH.out, below_drewN hbel _⟩
          case measure => simp [intOf]; omega
        · have H := HM.out h
          have HH : Hid (cmpL l s = 1) := H
          rw [cmp1_more h] at HC
          clear HL HM HS h H
          go_wp2
          go_quiet ((go_at_call 84; exact Calls.quiet_of_same (HC.out _)))
          go_wp2
          go_ret
          exact ⟨by rw [HH.out]; rfl, below_drewN hbel _⟩
      · have hjj : j = m := by omega
        have HH : Hid (cmp1 (n : Int) (m : Int) = cmpL l s) := by
          show _ = _
          rw [cmpL_ends (fun i h1 h2 => hsame i (by omega)), hl, hs]
          exact cmp1_len n m
        have h3 : ¬ (j : Int) < (m : Int) := by omega
        clear hsame hjn
        subst hjj
        go_wp2_with (first | (go_at_call 85; refine (compareInt_any _ _ _).mono ?_; rintro e w' ⟨rfl, rfl⟩))
        go_ret
        exact ⟨by rw [HH.out]; rfl, hbel⟩
  · have hmn1 : ¬ (m : Int) < (n : Int) := by omega
    go_enter Try.func68, Try.ntmps68
    go_wp2
    go_loopw [12] (fun i wr => ∃ j : Nat, j ≤ n ∧ i = .int .i64 j ∧ (∀ i, i < j → nthI l i = nthI s i) ∧ Below w.heap.size w wr) (fun i _ => n - (intOf i).toNat)
    case atStart => exact ⟨0, Nat.zero_le _, rfl, fun i hi => by omega, Below.refl _ _⟩
    case round =>
      obtain ⟨j, hj, rfl, hsame, hbel⟩ := hrel
      by_cases hjn : j < n
      · obtain ⟨b, off, rfl, hblt, hcell⟩ := hr.at_ (by omega)
        obtain ⟨d, off', rfl, hdlt, hdell⟩ := hq.at_ (by omega)
        have hc : wr.cell? ⟨b, off + j, none⟩ = some (.int .i64 (nthI l j)) := (hbel.cell (p := ⟨b, off + j, none⟩) hblt).trans (hcell j (by omega))
        have hd : wr.cell? ⟨d, off' + j, none⟩ = some (.int .i64 (nthI s j)) := (hbel.cell (p := ⟨d, off' + j, none⟩) hdlt).trans (hdell j (by omega))
        have h1 : (j : Int) < (n : Int) := by omega
        have h2 : (j : Int) < (m : Int) := by omega
        have h3 : (j : Int) < (n : Int) := by omega
        have HL : Hid (nthI l j < nthI s j → cmpL l s = -1) := fun h => cmpL_less (by omega) (by omega) hsame h
        have HM : Hid (nthI s j < nthI l j → cmpL l s = 1) := fun h => cmpL_more (by omega) (by omega) hsame h
        have HS : Hid (nthI l j = nthI s j → ∀ i, i < j + 1 → nthI l i = nthI s i) := fun h i hi => by
          by_cases hij : i < j
          · exact hsame i hij
          · have : i = j := by omega
            subst this; exact h
        clear hcell hdell hr hq hsame
        generalize nthI l j = x at *
        generalize nthI s j = y at *
        have HC : Hid (∀ w, Calls Try.prog 84 #[.int .i64 x, .int .i64 y] w fun e w' => e = .returned (.int .i64 (cmp1 x y)) ∧ w' = w) := fun w => (compare64_any x y w).mono fun _ _ ⟨h1, h2⟩ => ⟨h1, h2.symm⟩
        rcases Int.lt_trichotomy x y with h | h | h
        · have H := HL.out h
          have HH : Hid (cmpL l s = -1) := H
          rw [cmp1_less h] at HC
          clear HL HM HS h H
          go_wp2
          go_quiet ((go_at_call 84; exact Calls.quiet_of_same (HC.out _)))
          go_wp2
          go_ret
          exact ⟨by rw [HH.out]; rfl, below_drewN hbel _⟩
        · have HH : Hid (_) := HS.out h
          subst h
          rw [cmp1_same] at HC
          clear HL HM HS
          go_wp2
          go_quiet ((go_at_call 84; exact Calls.quiet_of_same (HC.out _)))
          go_wp2
          go_roundw
          case rel => exact ⟨j + 1, by omega, by go_num, HH.out, below_drewN hbel _⟩
          case measure => simp [intOf]; omega
        · have H := HM.out h
          have HH : Hid (cmpL l s = 1) := H
          rw [cmp1_more h] at HC
          clear HL HM HS h H
          go_wp2
          go_quiet ((go_at_call 84; exact Calls.quiet_of_same (HC.out _)))
          go_wp2
          go_ret
          exact ⟨by rw [HH.out]; rfl, below_drewN hbel _⟩
      · have hjj : j = n := by omega
        have HH : Hid (cmp1 (n : Int) (m : Int) = cmpL l s) := by
          show _ = _
          rw [cmpL_ends (fun i h1 h2 => hsame i (by omega)), hl, hs]
          exact cmp1_len n m
        have h3 : ¬ (j : Int) < (n : Int) := by omega
        clear hsame hjn
        subst hjj
        go_wp2_with (first | (go_at_call 85; refine (compareInt_any _ _ _).mono ?_; rintro e w' ⟨rfl, rfl⟩))
        go_ret
        exact ⟨by rw [HH.out]; rfl, hbel⟩
end Go.Proofs.Ytjkhlkmibajhiaa
