/- HasChar, the program's and the model's, at every charset and number: both by one plain function. -/
import Derived.Test.YtknbndebfickpaaGreatDoorChs
namespace Go.Proofs.YtknbndebfickpaaGreatDoor
open Go.RowKit

theorem csV1 : csV 1 = .iface 97 (.agg #[.int .i64 127]) := rfl
theorem csV2 : csV 2 = .iface 97 (.agg #[.int .i64 255]) := rfl
theorem csV3 : csV 3 = .iface 98 (.agg #[]) := rfl
theorem csV4 : csV 4 = .iface 89 (.agg #[]) := rfl
theorem csV5 : csV 5 = .iface 99 (.agg #[]) := rfl
theorem csVn {cs : Int} (h : ¬ (1 ≤ cs ∧ cs ≤ 5)) : csV cs = .nilIface := by
  unfold csV; rw [if_neg (by omega), if_neg (by omega), if_neg (by omega), if_neg (by omega), if_neg (by omega)]
theorem cs_cases {cs : Int} (h : 1 ≤ cs ∧ cs ≤ 5) : cs = 1 ∨ cs = 2 ∨ cs = 3 ∨ cs = 4 ∨ cs = 5 := by omega
/-- Is this a charset, this a character, and has the one the other? -/
def hasV (cs c : Int) : Bool := decide (1 ≤ cs ∧ cs ≤ 5) && chr c && hasC cs c

set_option maxHeartbeats 1600000 in
theorem l2Cyrillic_any (c : Int) (w : World) : Calls Tryz.prog 80 #[.int .i64 c] w fun e w' => e = .returned (.int .i64 (cyr c)) ∧ w = w' := by
  by_cases h1 : 0 ≤ c ∧ c ≤ 160
  · have h1' : decide (0 ≤ c ∧ c ≤ 160) = true := decide_eq_true h1
    rw [cyr_same (.inl h1)]
    go_enter Tryz.func80, Tryz.ntmps80
    go_wp2_with (first | (go_at_call 61; refine (l1In_any _ _ _ _).mono ?_; rintro e w' ⟨rfl, rfl⟩; rw [h1']))
    go_ret
    exact ret_int rfl
  · have h1' : decide (0 ≤ c ∧ c ≤ 160) = false := decide_eq_false h1
    by_cases h2 : c = 173
    · subst h2
      rw [cyr_same (.inr rfl)]
      go_enter Tryz.func80, Tryz.ntmps80
      go_wp2_with (first | (go_at_call 61; refine (l1In_any _ _ _ _).mono ?_; rintro e w' ⟨rfl, rfl⟩; rw [h1']))
      go_ret
      exact ret_int rfl
    · by_cases h3 : c = 167
      · subst h3
        rw [cyr_167]
        go_enter Tryz.func80, Tryz.ntmps80
        go_wp2_with (first | (go_at_call 61; refine (l1In_any _ _ _ _).mono ?_; rintro e w' ⟨rfl, rfl⟩; rw [h1']))
        go_ret
        exact ret_int rfl
      · by_cases h4 : c = 8470
        · subst h4
          rw [cyr_8470]
          go_enter Tryz.func80, Tryz.ntmps80
          go_wp2_with (first | (go_at_call 61; refine (l1In_any _ _ _ _).mono ?_; rintro e w' ⟨rfl, rfl⟩; rw [h1']))
          go_ret
          exact ret_int rfl
        · by_cases h5 : 1025 ≤ c ∧ c ≤ 1119
          · have h5' : decide (1025 ≤ c ∧ c ≤ 1119) = true := decide_eq_true h5
            by_cases h6 : c ≠ 1037 ∧ c ≠ 1104 ∧ c ≠ 1117
            · obtain ⟨h61, h62, h63⟩ := h6
              have H : Hid (cyr c = c - 864) := cyr_far ⟨h5.1, h5.2, h61, h62, h63⟩
              rw [H.out]
              clear H
              have e1 : (c != 1037) = true := by simpa using h61
              have e2 : (c != 1104) = true := by simpa using h62
              have e3 : (c != 1117) = true := by simpa using h63
              go_enter Tryz.func80, Tryz.ntmps80
              go_wp2_with (first | (go_at_call 61; refine (l1In_any _ _ _ _).mono ?_; rintro e w' ⟨rfl, rfl⟩; first | rw [h1'] | rw [h5']))
              go_ret
              exact ret_int rfl
            · have H : Hid (cyr c = -1) := cyr_none (by omega) h3 h4 (by omega)
              rw [H.out]
              clear H
              have h7 : c = 1037 ∨ c = 1104 ∨ c = 1117 := by omega
              clear h1 h5 h6
              rcases h7 with rfl | rfl | rfl
              all_goals
                go_enter Tryz.func80, Tryz.ntmps80
                go_wp2_with (first | (go_at_call 61; refine (l1In_any _ _ _ _).mono ?_; rintro e w' ⟨rfl, rfl⟩; first | rw [h1'] | rw [h5']))
                go_ret
                exact ret_int rfl
          · have h5' : decide (1025 ≤ c ∧ c ≤ 1119) = false := decide_eq_false h5
            have H : Hid (cyr c = -1) := cyr_none (by omega) h3 h4 (by omega)
            rw [H.out]
            clear H
            go_enter Tryz.func80, Tryz.ntmps80
            go_wp2_with (first | (go_at_call 61; refine (l1In_any _ _ _ _).mono ?_; rintro e w' ⟨rfl, rfl⟩; first | rw [h1'] | rw [h5']))
            go_ret
            exact ret_int rfl

set_option maxHeartbeats 1600000 in
theorem l2Has_any (cs c : Int) (w : World) (h0 : 0 ≤ c) : Calls Tryz.prog 62 #[.int .i64 cs, .int .i64 c] w fun e w' => e = .returned (.bool (hasC cs c)) ∧ w = w' := by
  by_cases h1 : cs = 1
  · subst h1
    go_enter Tryz.func62, Tryz.ntmps62
    go_wp2_with (first | (go_at_call 61; refine (l1In_any _ _ _ _).mono ?_; rintro e w' ⟨rfl, rfl⟩))
    go_ret
    refine ret_bool ?_
    simp [hasC]
  · by_cases h2 : cs = 2
    · subst h2
      go_enter Tryz.func62, Tryz.ntmps62
      go_wp2_with (first | (go_at_call 61; refine (l1In_any _ _ _ _).mono ?_; rintro e w' ⟨rfl, rfl⟩))
      go_ret
      refine ret_bool ?_
      simp [hasC]
    · by_cases h3 : cs = 3
      · subst h3
        go_enter Tryz.func62, Tryz.ntmps62
        go_wp2_with (first | (go_at_call 80; refine (l2Cyrillic_any _ _).mono ?_; rintro e w' ⟨rfl, rfl⟩))
        go_ret
        refine ret_bool ?_
        simp [hasC]
      · have H : Hid (hasC cs c = true) := by unfold Hid hasC; rw [if_neg h1, if_neg h2, if_neg h3]
        rw [H.out]
        clear H
        go_enter Tryz.func62, Tryz.ntmps62
        go_wp2
        go_ret
        exact ret_bool rfl

end Go.Proofs.YtknbndebfickpaaGreatDoor
