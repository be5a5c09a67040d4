/- The order of two slices of numbers, the program's and the model's: both by one plain function; slices of at most 1048576 numbers · CompareCodes, the program's and the model's, at every comparator and slices of at most 1048576 numbers: both by one plain function. -/
import Derived.Test.YtfbjodbihenmjaaGreatDoorColToMapL
namespace Go.Proofs.YtfbjodbihenmjaaGreatDoor
open Go.RowKit

/-- The order of two numbers. -/
def cmp1 (x y : Int) : Int := if x < y then -1 else if y < x then 1 else 0
theorem cmp1_less {x y : Int} (h : x < y) : cmp1 x y = -1 := if_pos h
theorem cmp1_more {x y : Int} (h : y < x) : cmp1 x y = 1 := by unfold cmp1; rw [if_neg (by omega), if_pos h]
theorem cmp1_same (x : Int) : cmp1 x x = 0 := by unfold cmp1; rw [if_neg (by omega), if_neg (by omega)]

theorem cmp1_len (n m : Nat) : cmp1 (n : Int) (m : Int) = if n < m then -1 else if m < n then 1 else 0 := by unfold cmp1; simp only [Int.ofNat_lt]

theorem isNaN64_any (x : Int) (w : World) : Calls Tryz.prog 62 #[.int .i64 x] w fun e w' => e = .returned (.bool false) ∧ w = w' := by
  go_enter Tryz.func62, Tryz.ntmps62
  go_wp2
  go_ret
  refine ret_bool ?_
  simp
theorem isNaN_any (x : Int) (w : World) : Calls Tryz.prog 84 #[.int .i64 x] w fun e w' => e = .returned (.bool false) ∧ w = w' := by
  go_enter Tryz.func84, Tryz.ntmps84
  go_wp2
  go_ret
  refine ret_bool ?_
  simp
theorem compare64_any (x y : Int) (w : World) : Calls Tryz.prog 48 #[.int .i64 x, .int .i64 y] w fun e w' => e = .returned (.int .i64 (cmp1 x y)) ∧ w = w' := by
  rcases Int.lt_trichotomy x y with h | h | h
  · rw [cmp1_less h]
    go_enter Tryz.func48, Tryz.ntmps48
    go_wp2_with (first | (go_at_call 62; refine (isNaN64_any _ _).mono ?_; rintro e w' ⟨rfl, rfl⟩))
    go_ret
    exact ⟨rfl, rfl⟩
  · subst h
    rw [cmp1_same]
    have h1 : ¬ x < x := by omega
    go_enter Tryz.func48, Tryz.ntmps48
    go_wp2_with (first | (go_at_call 62; refine (isNaN64_any _ _).mono ?_; rintro e w' ⟨rfl, rfl⟩))
    go_ret
    exact ⟨rfl, rfl⟩
  · rw [cmp1_more h]
    have h1 : ¬ x < y := by omega
    go_enter Tryz.func48, Tryz.ntmps48
    go_wp2_with (first | (go_at_call 62; refine (isNaN64_any _ _).mono ?_; rintro e w' ⟨rfl, rfl⟩))
    go_ret
    exact ⟨rfl, rfl⟩
theorem compareInt_any (x y : Int) (w : World) : Calls Tryz.prog 65 #[.int .i64 x, .int .i64 y] w fun e w' => e = .returned (.int .i64 (cmp1 x y)) ∧ w = w' := by
  rcases Int.lt_trichotomy x y with h | h | h
  · rw [cmp1_less h]
    go_enter Tryz.func65, Tryz.ntmps65
    go_wp2_with (first | (go_at_call 84; refine (isNaN_any _ _).mono ?_; rintro e w' ⟨rfl, rfl⟩))
    go_ret
    exact ⟨rfl, rfl⟩
  · subst h
    rw [cmp1_same]
    have h1 : ¬ x < x := by omega
    go_enter Tryz.func65, Tryz.ntmps65
    go_wp2_with (first | (go_at_call 84; refine (isNaN_any _ _).mono ?_; rintro e w' ⟨rfl, rfl⟩))
    go_ret
    exact ⟨rfl, rfl⟩
  · rw [cmp1_more h]
    have h1 : ¬ x < y := by omega
    go_enter Tryz.func65, Tryz.ntmps65
    go_wp2_with (first | (go_at_call 84; refine (isNaN_any _ _).mono ?_; rintro e w' ⟨rfl, rfl⟩))
    go_ret
    exact ⟨rfl, rfl⟩

set_option maxHeartbeats 3200000 in
set_option maxRecDepth 100000 in
theorem compareLists_any (a c : Option Addr) (n m cap cap' : Nat) (l s : List Int) (w : World) (hl : l.length = n) (hs : s.length = m) (hr : RdI w a l) (hq : RdI w c s) (hn : n ≤ 1048576) (hm : m ≤ 1048576) :
    Calls Tryz.prog 50 #[.slice a n cap, .slice c m cap'] w fun e w' => e = .returned (.int .i64 (cmpL l s)) ∧ Below w.heap.size w w' := by
  by_cases hmn : m < n
  · have hmn1 : (m : Int) < (n : Int) := by omega
    go_enter Tryz.func50, Tryz.ntmps50
    go_wp2
    go_loopw [12] (fun i wr => ∃ j : Nat, j ≤ m ∧ i = .int .i64 j ∧ (∀ i, i < j → nthI l i = nthI s i) ∧ Below w.heap.size w wr) (fun i _ => m - (intOf i).toNat)
    case atStart => exact ⟨0, Nat.zero_le _, rfl, fun i hi => by omega, Below.refl _ _⟩
    case round =>
      obtain ⟨j, hj, rfl, hsame, hbel⟩ := hrel
      by_cases hjn : j < m
      · obtain ⟨b, off, rfl, hblt, hcell⟩ := hr.at_ (by omega)
        obtain ⟨d, off', rfl, hdlt, hdell⟩ := hq.at_ (by omega)
        have hc : wr.cell? ⟨b, off + j, none⟩ = some (.int .i64 (nthI l j)) := (hbel.cell (p := ⟨b, off + j, none⟩) hblt).trans (hcell j (by omega))
        have hd : wr.cell? ⟨d, off' + j, none⟩ = some (.int .i64 (nthI s j)) := (hbel.cell (p := ⟨d, off' + j, none⟩) hdlt).trans (hdell j (by omega))
        have h1 : (j : Int) < (n : Int) := by omega
        have h2 : (j : Int) < (m : Int) := by omega
        have h3 : (j : Int) < (m : Int) := by omega
        have HL : Hid (nthI l j < nthI s j → cmpL l s = -1) := fun h => cmpL_less (by omega) (by omega) hsame h
        have HM : Hid (nthI s j < nthI l j → cmpL l s = 1) := fun h => cmpL_more (by omega) (by omega) hsame h
        have HS : Hid (nthI l j = nthI s j → ∀ i, i < j + 1 → nthI l i = nthI s i) := fun h i hi => by
          by_cases hij : i < j
          · exact hsame i hij
          · have : i = j := by omega
            subst this; exact h
        clear hcell hdell hr hq hsame
        generalize nthI l j = x at *
        generalize nthI s j = y at *
        have HC : Hid (∀ w, Calls Tryz.prog 48 #[.int .i64 x, .int .i64 y] w fun e w' => e = .returned (.int .i64 (cmp1 x y)) ∧ w' = w) := fun w => (compare64_any x y w).mono fun _ _ ⟨h1, h2⟩ => ⟨h1, h2.symm⟩
        rcases Int.lt_trichotomy x y with h | h | h
        · have H := HL.out h
          have HH : Hid (cmpL l s = -1) := H
          rw [cmp1_less h] at HC
          clear HL HM HS h H
          go_wp2
          go_quiet ((go_at_call 48; exact Calls.quiet_of_same (HC.out _)))
          go_wp2
          go_ret
          exact ⟨by rw [HH.out]; rfl, below_drewN hbel _⟩
        · have HH : Hid (_) := HS.out h
          subst h
          rw [cmp1_same] at HC
          clear HL HM HS
          go_wp2
          go_quiet ((go_at_call 48; exact Calls.quiet_of_same (HC.out _)))
          go_wp2
          go_roundw
          case rel => exact ⟨j + 1, by omega, by go_num, HH.out, below_drewN hbel _⟩
          case measure => simp [intOf]; omega
        · have H := HM.out h
          have HH : Hid (cmpL l s = 1) := H
          rw [cmp1_more h] at HC
          clear HL HM HS h H
          go_wp2
          go_quiet ((go_at_call 48; exact Calls.quiet_of_same (HC.out _)))
          go_wp2
          go_ret
          exact ⟨by rw [HH.out]; rfl, below_drewN hbel _⟩
      · have hjj : j = m := by omega
        have HH : Hid (cmp1 (n : Int) (m : Int) = cmpL l s) := by
          show _ = _
          rw [cmpL_ends (fun i h1 h2 => hsame i (by omega)), hl, hs]
          exact cmp1_len n m
        have h3 : ¬ (j : Int) < (m : Int) := by omega
        clear hsame hjn
        subst hjj
        go_wp2_with (first | (go_at_call 65; refine (compareInt_any _ _ _).mono ?_; rintro e w' ⟨rfl, rfl⟩))
        go_ret
        exact ⟨by rw [HH.out]; rfl, hbel⟩
  · have hmn1 : ¬ (m : Int) < (n : Int) := by omega
    go_enter Tryz.func50, Tryz.ntmps50
    go_wp2
    go_loopw [12] (fun i wr => ∃ j : Nat, j ≤ n ∧ i = .int .i64 j ∧ (∀ i, i < j → nthI l i = nthI s i) ∧ Below w.heap.size w wr) (fun i _ => n - (intOf i).toNat)
    case atStart => exact ⟨0, Nat.zero_le _, rfl, fun i hi => by omega, Below.refl _ _⟩
    case round =>
      obtain ⟨j, hj, rfl, hsame, hbel⟩ := hrel
      by_cases hjn : j < n
      · obtain ⟨b, off, rfl, hblt, hcell⟩ := hr.at_ (by omega)
        obtain ⟨d, off', rfl, hdlt, hdell⟩ := hq.at_ (by omega)
        have hc : wr.cell? ⟨b, off + j, none⟩ = some (.int .i64 (nthI l j)) := (hbel.cell (p := ⟨b, off + j, none⟩) hblt).trans (hcell j (by omega))
        have hd : wr.cell? ⟨d, off' + j, none⟩ = some (.int .i64 (nthI s j)) := (hbel.cell (p := ⟨d, off' + j, none⟩) hdlt).trans (hdell j (by omega))
        have h1 : (j : Int) < (n : Int) := by omega
        have h2 : (j : Int) < (m : Int) := by omega
        have h3 : (j : Int) < (n : Int) := by omega
        have HL : Hid (nthI l j < nthI s j → cmpL l s = -1) := fun h => cmpL_less (by omega) (by omega) hsame h
        have HM : Hid (nthI s j < nthI l j → cmpL l s = 1) := fun h => cmpL_more (by omega) (by omega) hsame h
        have HS : Hid (nthI l j = nthI s j → ∀ i, i < j + 1 → nthI l i = nthI s i) := fun h i hi => by
          by_cases hij : i < j
          · exact hsame i hij
          · have : i = j := by omega
            subst this; exact h
        clear hcell hdell hr hq hsame
        generalize nthI l j = x at *
        generalize nthI s j = y at *
        have HC : Hid (∀ w, Calls Tryz.prog 48 #[.int .i64 x, .int .i64 y] w fun e w' => e = .returned (.int .i64 (cmp1 x y)) ∧ w' = w) := fun w => (compare64_any x y w).mono fun _ _ ⟨h1, h2⟩ => ⟨h1, h2.symm⟩
        rcases Int.lt_trichotomy x y with h | h | h
        · have H := HL.out h
          have HH : Hid (cmpL l s = -1) := H
          rw [cmp1_less h] at HC
          clear HL HM HS h H
          go_wp2
          go_quiet ((go_at_call 48; exact Calls.quiet_of_same (HC.out _)))
          go_wp2
          go_ret
          exact ⟨by rw [HH.out]; rfl, below_drewN hbel _⟩
        · have HH : Hid (_) := HS.out h
          subst h
          rw [cmp1_same] at HC
          clear HL HM HS
          go_wp2
          go_quiet ((go_at_call 48; exact Calls.quiet_of_same (HC.out _)))
          go_wp2
          go_roundw
          case rel => exact ⟨j + 1, by omega, by go_num, HH.out, below_drewN hbel _⟩
          case measure => simp [intOf]; omega
        · have H := HM.out h
          have HH : Hid (cmpL l s = 1) := H
          rw [cmp1_more h] at HC
          clear HL HM HS h H
          go_wp2
          go_quiet ((go_at_call 48; exact Calls.quiet_of_same (HC.out _)))
          go_wp2
          go_ret
          exact ⟨by rw [HH.out]; rfl, below_drewN hbel _⟩
      · have hjj : j = n := by omega
        have HH : Hid (cmp1 (n : Int) (m : Int) = cmpL l s) := by
          show _ = _
          rw [cmpL_ends (fun i h1 h2 => hsame i (by omega)), hl, hs]
          exact cmp1_len n m
        have h3 : ¬ (j : Int) < (n : Int) := by omega
        clear hsame hjn
        subst hjj
        go_wp2_with (first | (go_at_call 65; refine (compareInt_any _ _ _).mono ?_; rintro e w' ⟨rfl, rfl⟩))
        go_ret
        exact ⟨by rw [HH.out]; rfl, hbel⟩
end Go.Proofs.YtfbjodbihenmjaaGreatDoor

namespace Go.Proofs.YtfbjodbihenmjaaGreatDoor
open Go.RowKit

/-- What CompareCodes answers. -/
def cmpT (k : Int) (a b : List Int) : Int × Int := if 1 ≤ k ∧ k ≤ 3 then (if flt a ≠ 0 then (flt a, 0) else if flt b ≠ 0 then (flt b, 0) else (0, cmpL (a.map (mapC k)) (b.map (mapC k)))) else (4, 0)
theorem cmpT_none {k : Int} {a b : List Int} (h : ¬ (1 ≤ k ∧ k ≤ 3)) : cmpT k a b = (4, 0) := if_neg h
theorem cmpT_a {k : Int} {a b : List Int} (h : 1 ≤ k ∧ k ≤ 3) (hf : flt a ≠ 0) : cmpT k a b = (flt a, 0) := by unfold cmpT; rw [if_pos h, if_pos hf]
theorem cmpT_b {k : Int} {a b : List Int} (h : 1 ≤ k ∧ k ≤ 3) (hf : flt a = 0) (hg : flt b ≠ 0) : cmpT k a b = (flt b, 0) := by unfold cmpT; rw [if_pos h, if_neg (by rw [hf]; simp), if_pos hg]
theorem cmpT_ok {k : Int} {a b : List Int} (h : 1 ≤ k ∧ k ≤ 3) (hf : flt a = 0) (hg : flt b = 0) : cmpT k a b = (0, cmpL (a.map (mapC k)) (b.map (mapC k))) := by unfold cmpT; rw [if_pos h, if_neg (by rw [hf]; simp), if_neg (by rw [hg]; simp)]
theorem nthI_map {f : Int → Int} {l : List Int} {i : Nat} (h : i < l.length) : nthI (l.map f) i = f (nthI l i) := by
  rw [nthI_get (by simpa using h), nthI_get h]; simp

set_option maxHeartbeats 3200000 in
set_option maxRecDepth 100000 in
theorem l3Compare_any (k : Int) (a c : Option Addr) (n m cap cap' : Nat) (l s : List Int) (w : World) (hk : 1 ≤ k ∧ k ≤ 3) (hl : l.length = n) (hs : s.length = m) (hr : RdI w a l) (hq : RdI w c s) (hn : n ≤ 1048576) (hm : m ≤ 1048576) :
    Calls Tryz.prog 42 #[.int .i64 k, .slice a n cap, .slice c m cap'] w fun e w' => e = .returned (.int .i64 (cmpL (l.map (mapC k)) (s.map (mapC k)))) ∧ Below w.heap.size w w' := by
  have HE : Hid (cmp1 (n : Int) (m : Int) = if n < m then -1 else if m < n then 1 else 0) := cmp1_len n m
  go_enter Tryz.func42, Tryz.ntmps42
  go_wp2
  go_loopw [7] (fun i wr => ∃ j : Nat, j ≤ n ∧ j ≤ m ∧ i = .int .i64 j ∧ (∀ i, i < j → nthI (l.map (mapC k)) i = nthI (s.map (mapC k)) i) ∧ Below w.heap.size w wr) (fun i _ => n - (intOf i).toNat)
  case atStart => exact ⟨0, Nat.zero_le _, Nat.zero_le _, rfl, fun i hi => by omega, Below.refl _ _⟩
  case round =>
    obtain ⟨j, hjn, hjm, rfl, hsame, hbel⟩ := hrel
    by_cases hj : j < n ∧ j < m
    · obtain ⟨j1, j2⟩ := hj
      obtain ⟨b, off, rfl, hblt, hcell⟩ := hr.at_ (by omega)
      obtain ⟨d, off', rfl, hdlt, hdell⟩ := hq.at_ (by omega)
      have hc : wr.cell? ⟨b, off + j, none⟩ = some (.int .i64 (nthI l j)) := (hbel.cell (p := ⟨b, off + j, none⟩) hblt).trans (hcell j (by omega))
      have hd : wr.cell? ⟨d, off' + j, none⟩ = some (.int .i64 (nthI s j)) := (hbel.cell (p := ⟨d, off' + j, none⟩) hdlt).trans (hdell j (by omega))
      have h1 : (j : Int) < (n : Int) := by omega
      have h2 : (j : Int) < (m : Int) := by omega
      have hx := nthI_map (f := mapC k) (l := l) (i := j) (by omega)
      have hy := nthI_map (f := mapC k) (l := s) (i := j) (by omega)
      have HL : Hid (mapC k (nthI l j) < mapC k (nthI s j) → cmpL (l.map (mapC k)) (s.map (mapC k)) = -1) := fun h => cmpL_less (k := j) (by simp; omega) (by simp; omega) hsame (by rw [hx, hy]; exact h)
      have HM : Hid (mapC k (nthI s j) < mapC k (nthI l j) → cmpL (l.map (mapC k)) (s.map (mapC k)) = 1) := fun h => cmpL_more (k := j) (by simp; omega) (by simp; omega) hsame (by rw [hx, hy]; exact h)
      have HS : Hid (mapC k (nthI l j) = mapC k (nthI s j) → ∀ i, i < j + 1 → nthI (l.map (mapC k)) i = nthI (s.map (mapC k)) i) := fun h i hi => by
        by_cases hij : i < j
        · exact hsame i hij
        · have : i = j := by omega
          subst this; rw [hx, hy]; exact h
      clear hcell hdell hr hq hsame hx hy
      generalize nthI l j = x at *
      generalize nthI s j = y at *
      have HX : Hid (∀ w, Calls Tryz.prog 54 #[.int .i64 k, .int .i64 x] w fun e w' => e = .returned (.int .i64 (mapC k x)) ∧ w = w') := fun w => l3Char_any k x w hk
      have HY : Hid (∀ w, Calls Tryz.prog 54 #[.int .i64 k, .int .i64 y] w fun e w' => e = .returned (.int .i64 (mapC k y)) ∧ w = w') := fun w => l3Char_any k y w hk
      generalize mapC k x = p at *
      generalize mapC k y = q at *
      go_wp2_with fail
      refine (HX.out _).mono ?_
      rintro e w' ⟨rfl, rfl⟩
      go_wp2_with fail
      refine (HY.out _).mono ?_
      rintro e w' ⟨rfl, rfl⟩
      rcases Int.lt_trichotomy p q with h | h | h
      · have H := HL.out h
        have HH : Hid (cmpL (l.map (mapC k)) (s.map (mapC k)) = -1) := H
        clear HL HM HS H
        go_wp2
        go_ret
        exact ⟨by rw [HH.out]; rfl, hbel⟩
      · have HH : Hid (_) := HS.out h
        subst h
        have h3 : ¬ p < p := by omega
        clear HL HM HS
        go_wp2
        go_roundw
        case rel => exact ⟨j + 1, by omega, by omega, by go_num, HH.out, hbel⟩
        case measure => simp [intOf]; omega
      · have H := HM.out h
        have HH : Hid (cmpL (l.map (mapC k)) (s.map (mapC k)) = 1) := H
        have h3 : ¬ p < q := by omega
        clear HL HM HS H
        go_wp2
        go_ret
        exact ⟨by rw [HH.out]; rfl, hbel⟩
    · have HH := cmpL_ends (a := l.map (mapC k)) (b := s.map (mapC k)) (fun i h1 h2 => hsame i (by simp at h1 h2; omega))
      rw [List.length_map, List.length_map, hl, hs] at HH
      clear hsame
      rcases Nat.lt_trichotomy n m with h | h | h
      · rw [if_pos h] at HH
        have HK : Hid (_) := HH
        clear HH
        have h1 : ¬ (j : Int) < (n : Int) := by omega
        have h2 : (n : Int) < (m : Int) := by omega
        go_wp2
        go_ret
        exact ⟨by rw [HK.out]; rfl, hbel⟩
      · rw [if_neg (by omega), if_neg (by omega)] at HH
        have HK : Hid (_) := HH
        clear HH
        have h1 : ¬ (j : Int) < (n : Int) := by omega
        have h2 : ¬ (n : Int) < (m : Int) := by omega
        have h3 : ¬ (m : Int) < (n : Int) := by omega
        go_wp2
        go_ret
        exact ⟨by rw [HK.out]; rfl, hbel⟩
      · rw [if_neg (by omega), if_pos h] at HH
        have HK : Hid (_) := HH
        clear HH
        have h1 : (j : Int) < (n : Int) := by omega
        have h1' : ¬ (j : Int) < (m : Int) := by omega
        have h2 : ¬ (n : Int) < (m : Int) := by omega
        have h3 : (m : Int) < (n : Int) := by omega
        go_wp2
        go_ret
        exact ⟨by rw [HK.out]; rfl, hbel⟩

theorem IntEndC.put {r : Int × Int} {w w1 : World} (hbel : Below w.heap.size w w1) (x y : Value) : IntEndC r w (.returned (.agg #[.int .i64 r.1, .int .i64 r.2])) ((w1.setCell ⟨w.heap.size, 0, none⟩ x).setCell ⟨w.heap.size, 1, none⟩ y) :=
  ⟨rfl, (hbel.setCell (by simp) _).setCell (by simp) _⟩
theorem mapT_cases (k : Int) (l : List Int) : (mapT k l).1 = 0 ∨ (mapT k l).1 ≠ 0 ∧ (mapT k l).2 = [] := by
  unfold mapT
  split
  · split
    · exact .inl rfl
    · exact .inr ⟨by assumption, rfl⟩
  · exact .inr ⟨by decide, rfl⟩
/-- CompareCodes by what MapCodes answers. -/
theorem cmpT_maps (k : Int) (a b : List Int) : cmpT k a b = if (mapT k a).1 ≠ 0 then ((mapT k a).1, 0) else if (mapT k b).1 ≠ 0 then ((mapT k b).1, 0) else (0, cmpL (mapT k a).2 (mapT k b).2) := by
  by_cases hk : 1 ≤ k ∧ k ≤ 3
  · by_cases hf : flt a = 0
    · by_cases hg : flt b = 0
      · rw [cmpT_ok hk hf hg, mapT_ok hk hf, mapT_ok hk hg]; simp
      · rw [cmpT_b hk hf hg, mapT_ok hk hf, mapT_fault hk hg]; simp [hg]
    · rw [cmpT_a hk hf, mapT_fault hk hf]; simp [hf]
  · rw [cmpT_none hk, mapT_none hk]; simp

set_option maxHeartbeats 3200000 in
set_option maxRecDepth 100000 in
theorem compareCodes_any (k : Int) (a c : Option Addr) (n m cap cap' : Nat) (l s : List Int) (w : World) (hl : l.length = n) (hs : s.length = m) (hr : RdI w a l) (hq : RdI w c s) (hn : n ≤ 1048576) (hm : m ≤ 1048576) :
    Calls Tryz.prog 40 #[.int .i64 k, .slice a n cap, .slice c m cap'] w fun e w' => IntEndC (cmpT k l s) w e w' := by
  have hb0 : Below w.heap.size w (w.alloc (.cells #[.int .i64 0, .int .i64 0] 67)) := (Below.refl _ _).alloc (Nat.le_refl _) _
  have hr0 := hr.below hb0
  have hq0 := hq.below hb0
  have HT : Hid (_) := cmpT_maps k l s
  have hfew1 := mapT_few k l
  have hfew2 := mapT_few k s
  have HA : Hid (∀ w, RdI w a l → Calls Tryz.prog 49 #[.int .i64 k, .slice a n cap] w fun e w' => NumEnd (mapT k l) w e w') := fun w hr => mapCodes_any k a n cap l w hl hr hn
  have HB : Hid (∀ w, RdI w c s → Calls Tryz.prog 49 #[.int .i64 k, .slice c m cap'] w fun e w' => NumEnd (mapT k s) w e w') := fun w hr => mapCodes_any k c m cap' s w hs hr hm
  generalize mapT k l = r1 at *
  generalize mapT k s = r2 at *
  obtain ⟨c1, l1⟩ := r1
  obtain ⟨c2, l2⟩ := r2
  simp only at hfew1 hfew2
  have hWs : (w.alloc (.cells #[.int .i64 0, .int .i64 0] 67)).heap.size = w.heap.size + 1 := by simp
  go_enter Tryz.func40, Tryz.ntmps40
  go_wp2_with fail
  generalize hW : w.alloc (.cells #[.int .i64 0, .int .i64 0] 67) = W at *
  refine (HA.out _ hr0).mono ?_
  rintro e w1 ⟨v, rfl, hown1, hb1⟩
  simp only at hown1 ⊢
  obtain ⟨a1, cp1, hv, -, -⟩ := hown1.form
  rw [hv] at hown1 ⊢
  clear hv HA
  obtain ⟨N1, hN1⟩ : ∃ N, l1.length = N := ⟨_, rfl⟩
  have HN1 : Hid (l1.length = N1) := hN1
  rw [hN1] at hown1 ⊢
  clear hN1
  have hbl1 : Below (w.heap.size + 1) W w1 := by rw [← hWs]; exact hb1
  have hz1 := hbl1.size
  rw [hWs] at hz1
  by_cases hc1 : c1 = 0
  · subst hc1
    have hq1 : RdI (w1.alloc (.cells #[.int .i64 0, .slice a1 N1 cp1] 70)) c s := (hq0.below hb1).below ((Below.refl _ _).alloc (Nat.le_refl _) _)
    have hr1 : RdI (w1.alloc (.cells #[.int .i64 0, .slice a1 N1 cp1] 70)) a1 l1 := hown1.rd.2.below ((Below.refl _ _).alloc (Nat.le_refl _) _)
    have hbl1' : Below (w.heap.size + 1) W (w1.alloc (.cells #[.int .i64 0, .slice a1 N1 cp1] 70)) := hbl1.alloc (by omega) _
    have HC1 := fun (wx : World) (hx : Below (w1.heap.size + 1) (w1.alloc (.cells #[.int .i64 0, .slice a1 N1 cp1] 70)) wx) => res_block rfl hx
    have hV1s : (w1.alloc (.cells #[.int .i64 0, .slice a1 N1 cp1] 70)).heap.size = w1.heap.size + 1 := by simp
    go_wp2_with fail
    generalize hV1 : w1.alloc (.cells #[.int .i64 0, .slice a1 N1 cp1] 70) = V1 at *
    refine (HB.out _ hq1).mono ?_
    rintro e w2 ⟨v, rfl, hown2, hb2⟩
    simp only at hown2 ⊢
    obtain ⟨a2, cp2, hv, -, -⟩ := hown2.form
    rw [hv] at hown2 ⊢
    clear hv HB hown1
    obtain ⟨N2, hN2⟩ : ∃ N, l2.length = N := ⟨_, rfl⟩
    have HN2 : Hid (l2.length = N2) := hN2
    rw [hN2] at hown2 ⊢
    clear hN2
    obtain ⟨k0, k1, _, _⟩ := HC1 w2 (by rw [← hV1s]; exact hb2)
    have hbl2 : Below (w.heap.size + 1) W w2 := hbl1'.trans (hb2.mono (by omega))
    have hz2 := hb2.size
    rw [hV1s] at hz2
    have hlt : w1.heap.size < w2.heap.size := by omega
    by_cases hc2 : c2 = 0
    · subst hc2
      have hbA : Below w2.heap.size w2 (w2.alloc (.cells #[.int .i64 0, .slice a2 N2 cp2] 70)) := (Below.refl _ _).alloc (Nat.le_refl _) _
      have hr2 := (hr1.below hb2).below hbA
      have hs2 := hown2.rd.2.below hbA
      have HX : Hid (cmpT k l s = (0, cmpL l1 l2)) := by
        show _ = _
        rw [HT.out]; rfl
      have hbl3 := hbl2.alloc (by omega) (.cells #[.int .i64 0, .slice a2 N2 cp2] 70)
      obtain ⟨x, hx⟩ : ∃ x, cmpL l1 l2 = x := ⟨_, rfl⟩
      have hxb : -1 ≤ x ∧ x ≤ 1 := by rcases cmpL_cases l1 l2 with h | h | h <;> omega
      have HC : Hid (∀ w, RdI w a1 l1 → RdI w a2 l2 → Calls Tryz.prog 50 #[.slice a1 N1 cp1, .slice a2 N2 cp2] w fun e w' => e = .returned (.int .i64 x) ∧ Below w.heap.size w w') := fun w h1 h2 => by
        have := compareLists_any a1 a2 N1 N2 cp1 cp2 l1 l2 w HN1.out HN2.out h1 h2 (by have := HN1.out; omega) (by have := HN2.out; omega)
        rw [hx] at this
        exact this
      rw [hx] at HX
      clear hx HT hr0 hq0 hq1 hr1 hown2 hb2
      obtain ⟨hx1, hx2⟩ := hxb
      go_wp2_with fail
      refine (HC.out _ hr2 hs2).mono ?_
      rintro e w3 ⟨rfl, hb3⟩
      have hbl4 : Below (w.heap.size + 1) W w3 := hbl3.trans (hb3.mono (by simp; omega))
      obtain ⟨hcw, hcw1, hfw, hfw1⟩ := res_block hW hbl4
      have hbE : Below w.heap.size w w3 := hb0.trans (hbl4.mono (by omega))
      obtain ⟨hk0, hk1⟩ := res_cells hcw hcw1 (.int .i64 0) (.int .i64 x)
      go_wp2
      refine bodyPost_ret (v := .agg #[.int .i64 0, .int .i64 x]) (by simp [results, Tryz.results40, go_sem, hk0, hk1]) rfl ?_
      rw [HX.out]
      exact IntEndC.put hbE _ _
    · have e2 : (c2 != 0) = true := by simp; omega
      have HX : Hid (cmpT k l s = (c2, 0)) := by
        show _ = _
        rw [HT.out]; simp [hc2]
      have hbl3 := hbl2.alloc (by omega) (.cells #[.int .i64 c2, .slice a2 N2 cp2] 70)
      obtain ⟨hcw, hcw1, hfw, hfw1⟩ := res_block hW hbl3
      have hbE : Below w.heap.size w (w2.alloc (.cells #[.int .i64 c2, .slice a2 N2 cp2] 70)) := hb0.trans (hbl3.mono (by omega))
      obtain ⟨hk0, hk1⟩ := res_cells hcw hcw1 (.int .i64 c2) (.int .i64 0)
      clear HT hr0 hq0 hq1 hr1 hown2 hb2
      go_wp2
      refine bodyPost_ret (v := .agg #[.int .i64 c2, .int .i64 0]) (by simp [results, Tryz.results40, go_sem, hk0, hk1]) rfl ?_
      rw [HX.out]
      exact IntEndC.put hbE _ _
  · have e2 : (c1 != 0) = true := by simp; omega
    have HX : Hid (cmpT k l s = (c1, 0)) := by
      show _ = _
      rw [HT.out]; simp [hc1]
    have hbl3 := hbl1.alloc (by omega) (.cells #[.int .i64 c1, .slice a1 N1 cp1] 70)
    obtain ⟨hcw, hcw1, hfw, hfw1⟩ := res_block hW hbl3
    have hbE : Below w.heap.size w (w1.alloc (.cells #[.int .i64 c1, .slice a1 N1 cp1] 70)) := hb0.trans (hbl3.mono (by omega))
    obtain ⟨hk0, hk1⟩ := res_cells hcw hcw1 (.int .i64 c1) (.int .i64 0)
    clear HT hr0 hq0 hown1 hb1 HB
    go_wp2
    refine bodyPost_ret (v := .agg #[.int .i64 c1, .int .i64 0]) (by simp [results, Tryz.results40, go_sem, hk0, hk1]) rfl ?_
    rw [HX.out]
    exact IntEndC.put hbE _ _

end Go.Proofs.YtfbjodbihenmjaaGreatDoor
