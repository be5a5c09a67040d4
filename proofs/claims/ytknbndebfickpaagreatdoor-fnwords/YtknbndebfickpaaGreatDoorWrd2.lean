/- Characters that may stand for themselves, the model's. -/
import Derived.Test.YtknbndebfickpaaGreatDoorChs0
import Derived.Test.YtknbndebfickpaaGreatDoorMemI
namespace Go.Proofs.YtknbndebfickpaaGreatDoor
open Go.RowKit

/-- May the character at a place stand for itself? -/
def sfB (l : List Int) (k : Nat) : Bool := decide (32 ≤ nthI l k ∧ nthI l k ≤ 126) && !decide (0 < k ∧ nthI l (k - 1) = 61 ∧ nthI l k = 63)
/-- May all? -/
def sfV (l : List Int) : Bool := (List.range l.length).all (sfB l)
theorem sfV_no {l : List Int} {k : Nat} (h : k < l.length) (hb : sfB l k = false) : sfV l = false := by
  unfold sfV
  rw [List.all_eq_false]
  exact ⟨k, List.mem_range.2 h, by rw [hb]; simp⟩
theorem sfV_yes {l : List Int} (h : ∀ k, k < l.length → sfB l k = true) : sfV l = true := by
  unfold sfV
  rw [List.all_eq_true]
  exact fun k hk => h k (List.mem_range.1 hk)

set_option maxHeartbeats 1600000 in
set_option maxRecDepth 100000 in
theorem l4Self_any (a : Option Addr) (n cap : Nat) (l : List Int) (w : World) (hl : l.length = n) (hr : RdI w a l) (hn : n ≤ 1048576) :
    Calls Tryz.prog 47 #[.slice a n cap] w fun e w' => e = .returned (.bool (sfV l)) ∧ w = w' := by
  have HL : Hid (l.length = n) := hl
  clear hl
  go_enter Tryz.func47, Tryz.ntmps47
  go_wp2
  go_loop [3] (fun v => ∃ k : Nat, k ≤ n ∧ v = .int .i64 k ∧ Hid (∀ i, i < k → sfB l i = true)) (fun v => n - (intOf v).toNat)
  case atStart => exact ⟨0, Nat.zero_le _, rfl, fun i hi => absurd hi (Nat.not_lt_zero _)⟩
  case round =>
    obtain ⟨k, hk, rfl, HA⟩ := hrel
    by_cases hkn : k < n
    · have hki : (k : Int) < (n : Int) := by omega
      obtain ⟨b, off, rfl, hblt, hcell⟩ := hr.at_ (by have := HL.out; omega)
      have hc := hcell k (by have := HL.out; omega)
      have HN : Hid (sfB l k = false → sfV l = false) := fun h => sfV_no (by have := HL.out; omega) h
      have HY : Hid (sfB l k = true → ∀ i, i < k + 1 → sfB l i = true) := fun h i hi => by
        by_cases he : i = k
        · rw [he]; exact h
        · exact HA.out i (by omega)
      have HD : Hid (sfB l k = (decide (32 ≤ nthI l k ∧ nthI l k ≤ 126) && !decide (0 < k ∧ nthI l (k - 1) = 61 ∧ nthI l k = 63))) := rfl
      clear HA
      by_cases h0 : 0 < k
      · obtain ⟨j, rfl⟩ : ∃ j, k = j + 1 := ⟨k - 1, by omega⟩
        have hd := hcell j (by have := HL.out; omega)
        rw [show j + 1 - 1 = j by omega] at HD
        clear hcell
        generalize sfB l (j + 1) = r at *
        generalize nthI l (j + 1) = x at *
        generalize nthI l j = y at *
        by_cases hx : 32 ≤ x ∧ x ≤ 126
        · have hx' : decide (32 ≤ x ∧ x ≤ 126) = true := decide_eq_true hx
          by_cases hy : y = 61
          · by_cases hz : x = 63
            · have HM : Hid (_) := HN.out (by rw [HD.out, hx', decide_eq_true (by omega)]; rfl)
              clear HN HY HD hx
              subst hy hz
              go_wp2_with fail
              refine (l1In_any _ _ _ _).mono ?_
              rintro e w' ⟨rfl, rfl⟩
              rw [hx']
              go_wp2
              go_ret
              exact ⟨by rw [HM.out]; rfl, rfl⟩
            · have HM : Hid (_) := HY.out (by rw [HD.out, hx', decide_eq_false (by omega)]; rfl)
              have hz' : (x == 63) = false := by simp [hz]
              clear HN HY HD hx
              subst hy
              go_wp2_with fail
              refine (l1In_any _ _ _ _).mono ?_
              rintro e w' ⟨rfl, rfl⟩
              rw [hx']
              go_wp2
              go_round
              case rel => exact ⟨j + 1 + 1, by omega, by go_num, HM⟩
              case measure => simp [intOf]; omega
          · have HM : Hid (_) := HY.out (by rw [HD.out, hx', decide_eq_false (by omega)]; rfl)
            have hy' : (y == 61) = false := by simp [hy]
            clear HN HY HD hx
            go_wp2_with fail
            refine (l1In_any _ _ _ _).mono ?_
            rintro e w' ⟨rfl, rfl⟩
            rw [hx']
            go_wp2
            go_round
            case rel => exact ⟨j + 1 + 1, by omega, by go_num, HM⟩
            case measure => simp [intOf]; omega
        · have hx' : decide (32 ≤ x ∧ x ≤ 126) = false := decide_eq_false hx
          have HM : Hid (_) := HN.out (by rw [HD.out, hx']; rfl)
          clear HN HY HD hx
          go_wp2_with fail
          refine (l1In_any _ _ _ _).mono ?_
          rintro e w' ⟨rfl, rfl⟩
          rw [hx']
          go_wp2
          go_ret
          exact ⟨by rw [HM.out]; rfl, rfl⟩
      · obtain rfl : k = 0 := by omega
        clear hcell
        rw [Nat.add_zero] at hc
        generalize sfB l 0 = r at *
        generalize nthI l 0 = x at *
        by_cases hx : 32 ≤ x ∧ x ≤ 126
        · have hx' : decide (32 ≤ x ∧ x ≤ 126) = true := decide_eq_true hx
          have HM : Hid (_) := HY.out (by rw [HD.out, hx', decide_eq_false (by omega)]; rfl)
          clear HN HY HD hx
          go_wp2_with fail
          refine (l1In_any _ _ _ _).mono ?_
          rintro e w' ⟨rfl, rfl⟩
          rw [hx']
          go_wp2
          go_round
          case rel => exact ⟨0 + 1, by omega, by go_num, HM⟩
          case measure => simp [intOf]; omega
        · have hx' : decide (32 ≤ x ∧ x ≤ 126) = false := decide_eq_false hx
          have HM : Hid (_) := HN.out (by rw [HD.out, hx']; rfl)
          clear HN HY HD hx
          go_wp2_with fail
          refine (l1In_any _ _ _ _).mono ?_
          rintro e w' ⟨rfl, rfl⟩
          rw [hx']
          go_wp2
          go_ret
          exact ⟨by rw [HM.out]; rfl, rfl⟩
    · have hki : ¬ (k : Int) < (n : Int) := by omega
      have HM : Hid (sfV l = true) := sfV_yes (fun i hi => HA.out i (by have := HL.out; omega))
      go_wp2
      go_ret
      exact ⟨by rw [HM.out]; rfl, rfl⟩
end Go.Proofs.YtknbndebfickpaaGreatDoor
