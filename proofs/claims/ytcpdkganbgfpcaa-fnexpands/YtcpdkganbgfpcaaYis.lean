/- Whether a number is in a set, on both sides: at every set and all numbers; no conditions beyond those that each fact names. -/
import Derived.Test.YtcpdkganbgfpcaaYin
namespace Go.Proofs.Ytcpdkganbgfpcaa
open Go.RowKit

theorem l1Min_y (a b : Int) (w : World) : Calls Try.prog 56 #[.int .i64 a, .int .i64 b] w fun e w' => e = .returned (.int .i64 (mnY a b)) ∧ w = w' := by
  by_cases h : a < b
  · have HV : Hid (mnY a b = a) := if_neg (by omega)
    go_enter Try.func56, Try.ntmps56
    go_wp2
    go_ret
    exact ⟨by rw [HV.out]; rfl, rfl⟩
  · have HV : Hid (mnY a b = b) := by
      show mnY a b = b
      unfold mnY
      split <;> omega
    go_enter Try.func56, Try.ntmps56
    go_wp2
    go_ret
    exact ⟨by rw [HV.out]; rfl, rfl⟩
theorem l1Max_y (a b : Int) (w : World) : Calls Try.prog 57 #[.int .i64 a, .int .i64 b] w fun e w' => e = .returned (.int .i64 (mxY a b)) ∧ w = w' := by
  by_cases h : a > b
  · have HV : Hid (mxY a b = a) := if_neg (by omega)
    go_enter Try.func57, Try.ntmps57
    go_wp2
    go_ret
    exact ⟨by rw [HV.out]; rfl, rfl⟩
  · have HV : Hid (mxY a b = b) := by
      show mxY a b = b
      unfold mxY
      split <;> omega
    go_enter Try.func57, Try.ntmps57
    go_wp2
    go_ret
    exact ⟨by rw [HV.out]; rfl, rfl⟩

set_option maxHeartbeats 1600000 in
set_option maxRecDepth 100000 in
theorem l11In_any (n most : Int) (a : Option Addr) (m cap : Nat) (l : List YgP) (w : World) (hl : l.length = m) (hr : RdY w a l) (hn : m ≤ 1048576) :
    Calls Try.prog 44 #[.slice a m cap, .int .i64 n, .int .i64 most] w fun e w' => e = .returned (.bool (inY l n most)) ∧ w = w' := by
  have HMn := l1Min_y
  have HMx := l1Max_y
  go_enter Try.func44, Try.ntmps44
  go_wp2
  go_loop [7] (fun i => ∃ k : Nat, k ≤ m ∧ i = .int .i64 k ∧ (∀ i, i < k → oneY n most (nthY l i) = false)) (fun i => m - (intOf i).toNat)
  case atStart => exact ⟨0, Nat.zero_le _, rfl, fun i hi => by omega⟩
  case round =>
    obtain ⟨k, hk, rfl, hall⟩ := hrel
    by_cases hkn : k < m
    · obtain ⟨b, off, rfl, hblt, hcell⟩ := hr.at_ (by omega)
      obtain ⟨hc0, hc1⟩ := hcell k (by omega)
      have hki : (k : Int) < (m : Int) := by omega
      have HYES : Hid (oneY n most (nthY l k) = true → inY l n most = true) := fun h => inY_at (by omega) h
      have HGO : Hid (oneY n most (nthY l k) = false → ∀ i, i < k + 1 → oneY n most (nthY l i) = false) := fun h i hi => by
        rcases Nat.lt_or_ge i k with h' | h'
        · exact hall i h'
        · rw [show i = k by omega]; exact h
      clear hcell hall hr
      generalize nthY l k = p at *
      obtain ⟨x, y⟩ := p
      simp only at hc0 hc1
      have H1 : Hid (oneY n most (x, y) = bty n (mnY (edY x most) (edY y most)) (mxY (edY x most) (edY y most))) := rfl
      by_cases hx0 : x = 0 <;> by_cases hy0 : y = 0
      · have ex : edY x most = most := if_pos hx0
        have ey : edY y most = most := if_pos hy0
        rw [ex, ey] at H1
        clear ex ey
        go_wp2_with fail
        refine (HMn _ _ _).mono ?_
        rintro e w1 ⟨rfl, rfl⟩
        by_cases h1 : n ≥ mnY most most
        · go_wp2_with fail
          refine (HMx _ _ _).mono ?_
          rintro e w1 ⟨rfl, rfl⟩
          by_cases h2 : n ≤ mxY most most
          · have HV : Hid (_) := HYES.out (by rw [H1.out]; exact decide_eq_true ⟨h1, h2⟩)
            clear HGO HYES H1
            go_wp2
            go_ret
            exact ⟨by rw [HV.out]; rfl, rfl⟩
          · have HV : Hid (_) := HGO.out (by rw [H1.out]; exact decide_eq_false (fun h => h2 h.2))
            clear HGO HYES H1
            go_wp2
            go_round
            case rel => exact ⟨k + 1, by omega, by go_num, HV.out⟩
            case measure => simp [intOf]; omega
        · have HV : Hid (_) := HGO.out (by rw [H1.out]; exact decide_eq_false (fun h => h1 h.1))
          clear HGO HYES H1
          go_wp2
          go_round
          case rel => exact ⟨k + 1, by omega, by go_num, HV.out⟩
          case measure => simp [intOf]; omega
      · have ex : edY x most = most := if_pos hx0
        have ey : edY y most = y := if_neg hy0
        rw [ex, ey] at H1
        clear ex ey
        go_wp2_with fail
        refine (HMn _ _ _).mono ?_
        rintro e w1 ⟨rfl, rfl⟩
        by_cases h1 : n ≥ mnY most y
        · go_wp2_with fail
          refine (HMx _ _ _).mono ?_
          rintro e w1 ⟨rfl, rfl⟩
          by_cases h2 : n ≤ mxY most y
          · have HV : Hid (_) := HYES.out (by rw [H1.out]; exact decide_eq_true ⟨h1, h2⟩)
            clear HGO HYES H1
            go_wp2
            go_ret
            exact ⟨by rw [HV.out]; rfl, rfl⟩
          · have HV : Hid (_) := HGO.out (by rw [H1.out]; exact decide_eq_false (fun h => h2 h.2))
            clear HGO HYES H1
            go_wp2
            go_round
            case rel => exact ⟨k + 1, by omega, by go_num, HV.out⟩
            case measure => simp [intOf]; omega
        · have HV : Hid (_) := HGO.out (by rw [H1.out]; exact decide_eq_false (fun h => h1 h.1))
          clear HGO HYES H1
          go_wp2
          go_round
          case rel => exact ⟨k + 1, by omega, by go_num, HV.out⟩
          case measure => simp [intOf]; omega
      · have ex : edY x most = x := if_neg hx0
        have ey : edY y most = most := if_pos hy0
        rw [ex, ey] at H1
        clear ex ey
        go_wp2_with fail
        refine (HMn _ _ _).mono ?_
        rintro e w1 ⟨rfl, rfl⟩
        by_cases h1 : n ≥ mnY x most
        · go_wp2_with fail
          refine (HMx _ _ _).mono ?_
          rintro e w1 ⟨rfl, rfl⟩
          by_cases h2 : n ≤ mxY x most
          · have HV : Hid (_) := HYES.out (by rw [H1.out]; exact decide_eq_true ⟨h1, h2⟩)
            clear HGO HYES H1
            go_wp2
            go_ret
            exact ⟨by rw [HV.out]; rfl, rfl⟩
          · have HV : Hid (_) := HGO.out (by rw [H1.out]; exact decide_eq_false (fun h => h2 h.2))
            clear HGO HYES H1
            go_wp2
            go_round
            case rel => exact ⟨k + 1, by omega, by go_num, HV.out⟩
            case measure => simp [intOf]; omega
        · have HV : Hid (_) := HGO.out (by rw [H1.out]; exact decide_eq_false (fun h => h1 h.1))
          clear HGO HYES H1
          go_wp2
          go_round
          case rel => exact ⟨k + 1, by omega, by go_num, HV.out⟩
          case measure => simp [intOf]; omega
      · have ex : edY x most = x := if_neg hx0
        have ey : edY y most = y := if_neg hy0
        rw [ex, ey] at H1
        clear ex ey
        go_wp2_with fail
        refine (HMn _ _ _).mono ?_
        rintro e w1 ⟨rfl, rfl⟩
        by_cases h1 : n ≥ mnY x y
        · go_wp2_with fail
          refine (HMx _ _ _).mono ?_
          rintro e w1 ⟨rfl, rfl⟩
          by_cases h2 : n ≤ mxY x y
          · have HV : Hid (_) := HYES.out (by rw [H1.out]; exact decide_eq_true ⟨h1, h2⟩)
            clear HGO HYES H1
            go_wp2
            go_ret
            exact ⟨by rw [HV.out]; rfl, rfl⟩
          · have HV : Hid (_) := HGO.out (by rw [H1.out]; exact decide_eq_false (fun h => h2 h.2))
            clear HGO HYES H1
            go_wp2
            go_round
            case rel => exact ⟨k + 1, by omega, by go_num, HV.out⟩
            case measure => simp [intOf]; omega
        · have HV : Hid (_) := HGO.out (by rw [H1.out]; exact decide_eq_false (fun h => h1 h.1))
          clear HGO HYES H1
          go_wp2
          go_round
          case rel => exact ⟨k + 1, by omega, by go_num, HV.out⟩
          case measure => simp [intOf]; omega
    · have hki : ¬ (k : Int) < (m : Int) := by omega
      have HV : Hid (inY l n most = false) := inY_none (fun i hi => hall i (by omega))
      clear hall
      go_wp2
      go_ret
      exact ⟨by rw [HV.out]; rfl, rfl⟩
/-- Whether a number is in a set. -/
def isY (l : List YgP) (n most : Int) : Bool := (rfV l == 0) && (bty most 1 999 && (bty n 1 most && inY l n most))
theorem rfV_A {l : List YgP} (h : rfV l = 0) : rfA l = true ∧ 1 ≤ l.length ∧ l.length ≤ 8 := by
  unfold rfV at h
  split at h
  · split at h
    · exact ⟨by assumption, by assumption⟩
    · omega
  · omega
theorem rfV_three (l : List YgP) : rfV l = 0 ∨ rfV l = 2 ∨ rfV l = 3 := by
  unfold rfV
  split
  · split
    · exact .inl rfl
    · exact .inr (.inr rfl)
  · exact .inr (.inl rfl)

set_option maxHeartbeats 1600000 in
set_option maxRecDepth 100000 in
theorem inSet_any (n most : Int) (a : Option Addr) (m cap : Nat) (l : List YgP) (w : World) (hl : l.length = m) (hr : RdY w a l) (hn : m ≤ 1048576) :
    Calls Try.prog 12 #[.slice a m cap, .int .i64 n, .int .i64 most] w fun e w' => e = .returned (.bool (isY l n most)) ∧ Below w.heap.size w w' := by
  have HF := fun w hr => rangesFault_any a m cap l w hl hr hn
  by_cases h0 : rfV l = 0
  · obtain ⟨hA, -, -⟩ := rfV_A h0
    have e0 : (rfV l == 0) = true := by rw [h0]; rfl
    go_enter Try.func12, Try.ntmps12
    go_wp2_with fail
    refine (HF _ hr).mono ?_
    rintro e w1 ⟨rfl, hb1⟩
    rw [h0]
    go_wp2_with fail
    refine (isBetween_y most 1 999 _).mono ?_
    rintro e w1 ⟨rfl, rfl⟩
    cases h1 : bty most 1 999 with
    | false =>
      have HV : Hid (isY l n most = false) := by show isY l n most = false; unfold isY; rw [e0, h1]; rfl
      go_wp2
      go_ret
      exact ⟨by rw [HV.out]; rfl, hb1⟩
    | true =>
      go_wp2_with fail
      refine (isBetween_y n 1 most _).mono ?_
      rintro e w1 ⟨rfl, rfl⟩
      cases h2 : bty n 1 most with
      | false =>
        have HV : Hid (isY l n most = false) := by show isY l n most = false; unfold isY; rw [e0, h1, h2]; rfl
        go_wp2
        go_ret
        exact ⟨by rw [HV.out]; rfl, hb1⟩
      | true =>
        have HV : Hid (isY l n most = inY l n most) := by show isY l n most = _; unfold isY; rw [e0, h1, h2]; rfl
        have hr1 := hr.below hb1
        go_wp2_with fail
        refine (reachesOf_any a m cap l _ hl hr1 hn).mono ?_
        rintro e w2 ⟨v, rfl, hown, hb2⟩
        obtain ⟨av, cv, ev, _, _⟩ := hown.form
        rw [hl] at ev
        subst ev
        have hb12 := hb1.trans (hb2.mono hb1.size)
        go_wp2_with fail
        refine (isInOne_any n most av m cv l _ hl hown.rd.2 hn hA).mono ?_
        rintro e w3 ⟨rfl, hb3⟩
        have hb123 := hb12.trans (hb3.mono hb12.size)
        clear hb1 hb2 hb3 hb12
        go_wp2
        go_ret
        exact ⟨by rw [HV.out]; rfl, hb123⟩
  · have e0 : (rfV l == 0) = false := by simpa using h0
    have HV : Hid (isY l n most = false) := by show isY l n most = false; unfold isY; rw [e0]; rfl
    have h3 := rfV_three l
    generalize rfV l = c at *
    have hc : c = 2 ∨ c = 3 := by omega
    rcases hc with rfl | rfl
    all_goals
      go_enter Try.func12, Try.ntmps12
      go_wp2_with fail
      refine (HF _ hr).mono ?_
      rintro e w1 ⟨rfl, hb1⟩
      go_wp2
      go_ret
      exact ⟨by rw [HV.out]; rfl, hb1⟩

set_option maxHeartbeats 1600000 in
set_option maxRecDepth 100000 in
theorem specInSet_any (n most : Int) (a : Option Addr) (m cap : Nat) (l : List YgP) (w : World) (hl : l.length = m) (hr : RdY w a l) (hn : m ≤ 1048576) :
    Calls Try.prog 15 #[.slice a m cap, .int .i64 n, .int .i64 most] w fun e w' => e = .returned (.bool (isY l n most)) ∧ Below w.heap.size w w' := by
  have HF := fun w hr => l11Fault_any a m cap l w hl hr hn
  by_cases h0 : rfV l = 0
  · have e0 : (rfV l == 0) = true := by rw [h0]; rfl
    go_enter Try.func15, Try.ntmps15
    go_wp2_with fail
    refine (HF _ hr).mono ?_
    rintro e w1 ⟨rfl, hb1⟩
    rw [h0]
    go_wp2_with fail
    refine (l1In_y most 1 999 _).mono ?_
    rintro e w1 ⟨rfl, rfl⟩
    cases h1 : bty most 1 999 with
    | false =>
      have HV : Hid (isY l n most = false) := by show isY l n most = false; unfold isY; rw [e0, h1]; rfl
      go_wp2
      go_ret
      exact ⟨by rw [HV.out]; rfl, hb1⟩
    | true =>
      go_wp2_with fail
      refine (l1In_y n 1 most _).mono ?_
      rintro e w1 ⟨rfl, rfl⟩
      cases h2 : bty n 1 most with
      | false =>
        have HV : Hid (isY l n most = false) := by show isY l n most = false; unfold isY; rw [e0, h1, h2]; rfl
        go_wp2
        go_ret
        exact ⟨by rw [HV.out]; rfl, hb1⟩
      | true =>
        have HV : Hid (isY l n most = inY l n most) := by show isY l n most = _; unfold isY; rw [e0, h1, h2]; rfl
        have hr1 := hr.below hb1
        go_wp2_with fail
        refine (l11In_any n most a m cap l _ hl hr1 hn).mono ?_
        rintro e w2 ⟨rfl, rfl⟩
        go_wp2
        go_ret
        exact ⟨by rw [HV.out]; rfl, hb1⟩
  · have e0 : (rfV l == 0) = false := by simpa using h0
    have HV : Hid (isY l n most = false) := by show isY l n most = false; unfold isY; rw [e0]; rfl
    have h3 := rfV_three l
    generalize rfV l = c at *
    have hc : c = 2 ∨ c = 3 := by omega
    rcases hc with rfl | rfl
    all_goals
      go_enter Try.func15, Try.ntmps15
      go_wp2_with fail
      refine (HF _ hr).mono ?_
      rintro e w1 ⟨rfl, hb1⟩
      go_wp2
      go_ret
      exact ⟨by rw [HV.out]; rfl, hb1⟩
end Go.Proofs.Ytcpdkganbgfpcaa
