/- What a character counts as, the program's and the model's, at every comparator and number: both by one plain function. -/
import Derived.Test.YtjkhlkmibajhiaaCol
namespace Go.Proofs.Ytjkhlkmibajhiaa
open Go.RowKit

theorem isBetween_any (c a b : Int) (w : World) : Calls Try.prog 81 #[.int .i64 c, .int .i64 a, .int .i64 b] w fun e w' => e = .returned (.bool (decide (a ≤ c ∧ c ≤ b))) ∧ w = w' := by
  go_enter Try.func81, Try.ntmps81
  go_wp2
  all_goals (go_ret; refine ret_bool ?_; rw [Bool.eq_iff_iff]; simp; try omega)
theorem isComparator_any (k : Int) (w : World) : Calls Try.prog 63 #[.int .i64 k] w fun e w' => e = .returned (.bool (decide (1 ≤ k ∧ k ≤ 3))) ∧ w = w' := by
  go_enter Try.func63, Try.ntmps63
  go_wp2_with (first | (go_at_call 81; refine (isBetween_any _ _ _ _).mono ?_; rintro e w' ⟨rfl, rfl⟩))
  go_ret
  refine ret_bool ?_
  simp
theorem l3Cmp_any (k : Int) (w : World) : Calls Try.prog 65 #[.int .i64 k] w fun e w' => e = .returned (.bool (decide (1 ≤ k ∧ k ≤ 3))) ∧ w = w' := by
  go_enter Try.func65, Try.ntmps65
  go_wp2_with (first | (go_at_call 75; refine (l1In_any _ _ _ _).mono ?_; rintro e w' ⟨rfl, rfl⟩))
  go_ret
  refine ret_bool ?_
  simp
theorem largeAscii_any (c : Int) (w : World) : Calls Try.prog 82 #[.int .i64 c] w fun e w' => e = .returned (.int .i64 (lgA c)) ∧ w = w' := by
  by_cases h : 97 ≤ c ∧ c ≤ 122
  · have h1 := h.1
    have h2 := h.2
    rw [lgA_yes h]
    go_enter Try.func82, Try.ntmps82
    go_wp2_with (first | (go_at_call 81; refine (isBetween_any _ _ _ _).mono ?_; rintro e w' ⟨rfl, rfl⟩; rw [decide_eq_true h]))
    go_ret
    exact ⟨rfl, rfl⟩
  · rw [lgA_no h]
    have hd := decide_eq_false h
    go_enter Try.func82, Try.ntmps82
    go_wp2_with (first | (go_at_call 81; refine (isBetween_any _ _ _ _).mono ?_; rintro e w' ⟨rfl, rfl⟩; rw [decide_eq_false h]))
    go_ret
    exact ⟨rfl, rfl⟩
/-- Between: a plain word, so that no walk opens it. -/
def btw (c a b : Int) : Bool := decide (a ≤ c ∧ c ≤ b)
theorem btw_yes {c a b : Int} (h : a ≤ c ∧ c ≤ b) : btw c a b = true := decide_eq_true h
theorem btw_no {c a b : Int} (h : ¬ (a ≤ c ∧ c ≤ b)) : btw c a b = false := decide_eq_false h
theorem isBetween_b (c a b : Int) (w : World) : Calls Try.prog 81 #[.int .i64 c, .int .i64 a, .int .i64 b] w fun e w' => e = .returned (.bool (btw c a b)) ∧ w = w' := isBetween_any c a b w
theorem l1In_b (c a b : Int) (w : World) : Calls Try.prog 75 #[.int .i64 c, .int .i64 a, .int .i64 b] w fun e w' => e = .returned (.bool (btw c a b)) ∧ w = w' := l1In_any c a b w

set_option maxHeartbeats 1600000 in
theorem largeUnicode_any (c : Int) (w : World) : Calls Try.prog 83 #[.int .i64 c] w fun e w' => e = .returned (.int .i64 (lgU c)) ∧ w = w' := by
  by_cases h1 : c = 247 ∨ c = 962
  · rw [lgU_same h1]
    rcases h1 with rfl | rfl
    all_goals
      go_enter Try.func83, Try.ntmps83
      go_wp2
      go_ret
      exact ⟨rfl, rfl⟩
  · have e1 : (c == 247) = false := by simp; omega
    have e2 : (c == 962) = false := by simp; omega
    by_cases h2 : 224 ≤ c ∧ c ≤ 254
    · have H : Hid (btw c 224 254 = true) := btw_yes h2
      rw [lgU_near h1 (.inl h2)]
      obtain ⟨p1, p2⟩ := h2
      clear h1
      go_enter Try.func83, Try.ntmps83
      go_wp2_with (first | (go_at_call 81; refine (isBetween_b _ _ _ _).mono ?_; rintro e w' ⟨rfl, rfl⟩; rw [H.out]))
      go_ret
      exact ⟨rfl, rfl⟩
    · have H : Hid (btw c 224 254 = false) := btw_no h2
      by_cases h3 : 945 ≤ c ∧ c ≤ 969
      · have H3 : Hid (btw c 945 969 = true) := btw_yes h3
        rw [lgU_near h1 (.inr (.inl h3))]
        obtain ⟨p1, p2⟩ := h3
        clear h1 h2
        go_enter Try.func83, Try.ntmps83
        go_wp2_with (first | (go_at_call 81; refine (isBetween_b _ _ _ _).mono ?_; rintro e w' ⟨rfl, rfl⟩; first | rw [H.out] | rw [H3.out]))
        go_ret
        exact ⟨rfl, rfl⟩
      · have H3 : Hid (btw c 945 969 = false) := btw_no h3
        by_cases h4 : 1072 ≤ c ∧ c ≤ 1103
        · have H4 : Hid (btw c 1072 1103 = true) := btw_yes h4
          rw [lgU_near h1 (.inr (.inr h4))]
          obtain ⟨p1, p2⟩ := h4
          clear h1 h2 h3
          go_enter Try.func83, Try.ntmps83
          go_wp2_with (first | (go_at_call 81; refine (isBetween_b _ _ _ _).mono ?_; rintro e w' ⟨rfl, rfl⟩; first | rw [H.out] | rw [H3.out] | rw [H4.out]))
          go_ret
          exact ⟨rfl, rfl⟩
        · have H4 : Hid (btw c 1072 1103 = false) := btw_no h4
          by_cases h5 : 1104 ≤ c ∧ c ≤ 1119
          · have H5 : Hid (btw c 1104 1119 = true) := btw_yes h5
            rw [lgU_far h5]
            obtain ⟨p1, p2⟩ := h5
            clear h1 h2 h3 h4
            go_enter Try.func83, Try.ntmps83
            go_wp2_with (first | (go_at_call 81; refine (isBetween_b _ _ _ _).mono ?_; rintro e w' ⟨rfl, rfl⟩; first | rw [H.out] | rw [H3.out] | rw [H4.out] | rw [H5.out]))
            go_ret
            exact ⟨rfl, rfl⟩
          · have H5 : Hid (btw c 1104 1119 = false) := btw_no h5
            rw [lgU_plain (by omega) h5]
            clear h1 h2 h3 h4 h5
            go_enter Try.func83, Try.ntmps83
            go_wp2_with (first | (go_at_call 81; refine (isBetween_b _ _ _ _).mono ?_; rintro e w' ⟨rfl, rfl⟩; first | rw [H.out] | rw [H3.out] | rw [H4.out] | rw [H5.out]) | (go_at_call 82; refine (largeAscii_any _ _).mono ?_; rintro e w' ⟨rfl, rfl⟩))
            go_ret
            exact ⟨rfl, rfl⟩

theorem cmp_cases {k : Int} (h : 1 ≤ k ∧ k ≤ 3) : k = 1 ∨ k = 2 ∨ k = 3 := by omega
set_option maxHeartbeats 1600000 in
theorem countsAs_any (k c : Int) (w : World) (hk : 1 ≤ k ∧ k ≤ 3) : Calls Try.prog 64 #[.int .i64 k, .int .i64 c] w fun e w' => e = .returned (.int .i64 (mapC k c)) ∧ w = w' := by
  rcases cmp_cases hk with rfl | rfl | rfl
  · rw [mapC_1]
    go_enter Try.func64, Try.ntmps64
    go_wp2
    go_ret
    exact ⟨rfl, rfl⟩
  · rw [mapC_2]
    go_enter Try.func64, Try.ntmps64
    go_wp2_with (first | (go_at_call 82; refine (largeAscii_any _ _).mono ?_; rintro e w' ⟨rfl, rfl⟩))
    go_ret
    exact ⟨rfl, rfl⟩
  · rw [mapC_3]
    go_enter Try.func64, Try.ntmps64
    go_wp2_with (first | (go_at_call 83; refine (largeUnicode_any _ _).mono ?_; rintro e w' ⟨rfl, rfl⟩))
    go_ret
    exact ⟨rfl, rfl⟩

set_option maxHeartbeats 3200000 in
theorem l3Char_any (k c : Int) (w : World) (hk : 1 ≤ k ∧ k ≤ 3) : Calls Try.prog 66 #[.int .i64 k, .int .i64 c] w fun e w' => e = .returned (.int .i64 (mapC k c)) ∧ w = w' := by
  rcases cmp_cases hk with rfl | rfl | rfl
  · rw [mapC_1]
    go_enter Try.func66, Try.ntmps66
    go_wp2
    go_ret
    exact ⟨rfl, rfl⟩
  · rw [mapC_2]
    by_cases h : 97 ≤ c ∧ c ≤ 122
    · rw [lgA_yes h]
      have H : Hid (btw c 97 122 = true) := btw_yes h
      obtain ⟨p1, p2⟩ := h
      go_enter Try.func66, Try.ntmps66
      go_wp2_with (first | (go_at_call 75; refine (l1In_b _ _ _ _).mono ?_; rintro e w' ⟨rfl, rfl⟩; rw [H.out]))
      go_ret
      exact ⟨rfl, rfl⟩
    · rw [lgA_no h]
      have H : Hid (btw c 97 122 = false) := btw_no h
      clear h
      go_enter Try.func66, Try.ntmps66
      go_wp2_with (first | (go_at_call 75; refine (l1In_b _ _ _ _).mono ?_; rintro e w' ⟨rfl, rfl⟩; rw [H.out]))
      go_ret
      exact ⟨rfl, rfl⟩
  · rw [mapC_3]
    by_cases h : 97 ≤ c ∧ c ≤ 122
    · rw [lgU_plain (by omega) (by omega), lgA_yes h]
      have H : Hid (btw c 97 122 = true) := btw_yes h
      obtain ⟨p1, p2⟩ := h
      go_enter Try.func66, Try.ntmps66
      go_wp2_with (first | (go_at_call 75; refine (l1In_b _ _ _ _).mono ?_; rintro e w' ⟨rfl, rfl⟩; rw [H.out]))
      go_ret
      exact ⟨rfl, rfl⟩
    · have H : Hid (btw c 97 122 = false) := btw_no h
      by_cases h1 : c = 247 ∨ c = 962
      · rw [lgU_same h1]
        clear h H
        rcases h1 with rfl | rfl
        all_goals
          go_enter Try.func66, Try.ntmps66
          go_wp2_with (first | (go_at_call 75; refine (l1In_any _ _ _ _).mono ?_; rintro e w' ⟨rfl, rfl⟩))
          go_ret
          exact ⟨rfl, rfl⟩
      · have e1 : (c != 247) = true := by simp; omega
        have e2 : (c != 962) = true := by simp; omega
        by_cases h2 : 224 ≤ c ∧ c ≤ 254
        · have H2 : Hid (btw c 224 254 = true) := btw_yes h2
          rw [lgU_near h1 (.inl h2)]
          obtain ⟨p1, p2⟩ := h2
          clear h1 h
          go_enter Try.func66, Try.ntmps66
          go_wp2_with (first | (go_at_call 75; refine (l1In_b _ _ _ _).mono ?_; rintro e w' ⟨rfl, rfl⟩; first | rw [H.out] | rw [H2.out]))
          go_ret
          exact ⟨rfl, rfl⟩
        · have H2 : Hid (btw c 224 254 = false) := btw_no h2
          by_cases h3 : 945 ≤ c ∧ c ≤ 969
          · have H3 : Hid (btw c 945 969 = true) := btw_yes h3
            rw [lgU_near h1 (.inr (.inl h3))]
            obtain ⟨p1, p2⟩ := h3
            clear h1 h h2
            go_enter Try.func66, Try.ntmps66
            go_wp2_with (first | (go_at_call 75; refine (l1In_b _ _ _ _).mono ?_; rintro e w' ⟨rfl, rfl⟩; first | rw [H.out] | rw [H2.out] | rw [H3.out]))
            go_ret
            exact ⟨rfl, rfl⟩
          · have H3 : Hid (btw c 945 969 = false) := btw_no h3
            by_cases h4 : 1072 ≤ c ∧ c ≤ 1103
            · have H4 : Hid (btw c 1072 1103 = true) := btw_yes h4
              rw [lgU_near h1 (.inr (.inr h4))]
              obtain ⟨p1, p2⟩ := h4
              clear h1 h h2 h3
              go_enter Try.func66, Try.ntmps66
              go_wp2_with (first | (go_at_call 75; refine (l1In_b _ _ _ _).mono ?_; rintro e w' ⟨rfl, rfl⟩; first | rw [H.out] | rw [H2.out] | rw [H3.out] | rw [H4.out]))
              go_ret
              exact ⟨rfl, rfl⟩
            · have H4 : Hid (btw c 1072 1103 = false) := btw_no h4
              by_cases h5 : 1104 ≤ c ∧ c ≤ 1119
              · have H5 : Hid (btw c 1104 1119 = true) := btw_yes h5
                rw [lgU_far h5]
                obtain ⟨p1, p2⟩ := h5
                clear h1 h h2 h3 h4
                go_enter Try.func66, Try.ntmps66
                go_wp2_with (first | (go_at_call 75; refine (l1In_b _ _ _ _).mono ?_; rintro e w' ⟨rfl, rfl⟩; first | rw [H.out] | rw [H2.out] | rw [H3.out] | rw [H4.out] | rw [H5.out]))
                go_ret
                exact ⟨rfl, rfl⟩
              · have H5 : Hid (btw c 1104 1119 = false) := btw_no h5
                rw [lgU_plain (by omega) h5, lgA_no h]
                clear h1 h h2 h3 h4 h5
                go_enter Try.func66, Try.ntmps66
                go_wp2_with (first | (go_at_call 75; refine (l1In_b _ _ _ _).mono ?_; rintro e w' ⟨rfl, rfl⟩; first | rw [H.out] | rw [H2.out] | rw [H3.out] | rw [H4.out] | rw [H5.out]))
                go_ret
                exact ⟨rfl, rfl⟩

/-- What MapChar answers. -/
def mapV (k c : Int) : Int × Int := if 1 ≤ k ∧ k ≤ 3 then (if chr c = true then (0, mapC k c) else (3, 0)) else (4, 0)
theorem mapV_ok {k c : Int} (h : 1 ≤ k ∧ k ≤ 3) (hc : chr c = true) : mapV k c = (0, mapC k c) := by unfold mapV; rw [if_pos h, if_pos hc]
theorem mapV_bad {k c : Int} (h : 1 ≤ k ∧ k ≤ 3) (hc : chr c = false) : mapV k c = (3, 0) := by unfold mapV; rw [if_pos h, hc]; rfl
theorem mapV_none {k c : Int} (h : ¬ (1 ≤ k ∧ k ≤ 3)) : mapV k c = (4, 0) := if_neg h
/-- An answer with one number. -/
def IntEnd (r : Int × Int) (w : World) (e : Ending) (w' : World) : Prop := e = .returned (.agg #[.int .i64 r.1, .int .i64 r.2]) ∧ Below w.heap.size w w'

set_option maxHeartbeats 1600000 in
theorem mapChar_any (k c : Int) (w : World) : Calls Try.prog 25 #[.int .i64 k, .int .i64 c] w fun e w' => IntEnd (mapV k c) w e w' := by
  by_cases hk : 1 ≤ k ∧ k ≤ 3
  · cases hc : chr c with
    | true =>
      rw [mapV_ok hk hc]
      go_enter Try.func25, Try.ntmps25
      go_wp2_with (first | (go_at_call 63; refine (isComparator_any _ _).mono ?_; rintro e w' ⟨rfl, rfl⟩; rw [decide_eq_true hk]) | (go_at_call 57; refine (isCharacter_any _ _).mono ?_; rintro e w' ⟨rfl, rfl⟩; rw [hc]) | (go_at_call 64; refine (countsAs_any _ _ _ hk).mono ?_; rintro e w' ⟨rfl, rfl⟩))
      go_returns
      exact ⟨rfl, by go_grown⟩
    | false =>
      rw [mapV_bad hk hc]
      go_enter Try.func25, Try.ntmps25
      go_wp2_with (first | (go_at_call 63; refine (isComparator_any _ _).mono ?_; rintro e w' ⟨rfl, rfl⟩; rw [decide_eq_true hk]) | (go_at_call 57; refine (isCharacter_any _ _).mono ?_; rintro e w' ⟨rfl, rfl⟩; rw [hc]))
      go_returns
      exact ⟨rfl, by go_grown⟩
  · rw [mapV_none hk]
    go_enter Try.func25, Try.ntmps25
    go_wp2_with (first | (go_at_call 63; refine (isComparator_any _ _).mono ?_; rintro e w' ⟨rfl, rfl⟩; rw [decide_eq_false hk]))
    go_returns
    exact ⟨rfl, by go_grown⟩

set_option maxHeartbeats 1600000 in
theorem specMapChar_any (k c : Int) (w : World) : Calls Try.prog 26 #[.int .i64 k, .int .i64 c] w fun e w' => IntEnd (mapV k c) w e w' := by
  by_cases hk : 1 ≤ k ∧ k ≤ 3
  · cases hc : chr c with
    | true =>
      rw [mapV_ok hk hc]
      go_enter Try.func26, Try.ntmps26
      go_wp2_with (first | (go_at_call 65; refine (l3Cmp_any _ _).mono ?_; rintro e w' ⟨rfl, rfl⟩; rw [decide_eq_true hk]) | (go_at_call 60; refine (l2Char_any _ _).mono ?_; rintro e w' ⟨rfl, rfl⟩; rw [hc]) | (go_at_call 66; refine (l3Char_any _ _ _ hk).mono ?_; rintro e w' ⟨rfl, rfl⟩))
      go_returns
      exact ⟨rfl, by go_grown⟩
    | false =>
      rw [mapV_bad hk hc]
      go_enter Try.func26, Try.ntmps26
      go_wp2_with (first | (go_at_call 65; refine (l3Cmp_any _ _).mono ?_; rintro e w' ⟨rfl, rfl⟩; rw [decide_eq_true hk]) | (go_at_call 60; refine (l2Char_any _ _).mono ?_; rintro e w' ⟨rfl, rfl⟩; rw [hc]))
      go_returns
      exact ⟨rfl, by go_grown⟩
  · rw [mapV_none hk]
    go_enter Try.func26, Try.ntmps26
    go_wp2_with (first | (go_at_call 65; refine (l3Cmp_any _ _).mono ?_; rintro e w' ⟨rfl, rfl⟩; rw [decide_eq_false hk]))
    go_returns
    exact ⟨rfl, by go_grown⟩

theorem eqIntResult_same (c v : Int) (w : World) :
    Calls Try.prog 37 #[.agg #[.int .i64 c, .int .i64 v], .agg #[.int .i64 c, .int .i64 v]] w fun e w' => e = .returned (.bool true) ∧ Below w.heap.size w w' := by
  go_enter Try.func37, Try.ntmps37
  go_wp2
  go_ret
  exact ⟨rfl, by go_grown⟩
end Go.Proofs.Ytjkhlkmibajhiaa
