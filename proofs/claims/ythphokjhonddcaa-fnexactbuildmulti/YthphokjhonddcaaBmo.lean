/- A mark's letters, dashes at the begin of a line: the program's and the model's. -/
import Derived.Test.YthphokjhonddcaaBmm
import Derived.Test.YthphokjhonddcaaHdr
namespace Go.Proofs.Ythphokjhonddcaa
open Go.RowKit

/-- A small letter. -/
def smB (c : Nat) : Bool := decide (97 ≤ c ∧ c ≤ 122)
/-- A mark that may be. -/
def mkOk (t : List Nat) : Bool := t.all smB && decide (1 ≤ t.length ∧ t.length ≤ 20)
set_option maxHeartbeats 400000 in
theorem isSmallLetter_any (c : Nat) (w : World) (hc : c < 256) : Calls Try.prog 19 #[.int .u8 (c : Int)] w fun e w' => e = .returned (.bool (smB c)) ∧ w = w' := by
  have HM : Hid (smB c = decide (97 ≤ c ∧ c ≤ 122)) := rfl
  generalize smB c = r at *
  by_cases h1 : 97 ≤ c
  · have h1' : (97 : Int) ≤ (c : Int) := by omega
    by_cases h2 : c ≤ 122
    · have h2' : (c : Int) ≤ 122 := by omega
      have HR : Hid (r = true) := HM.out.trans (decide_eq_true ⟨h1, h2⟩)
      clear HM
      go_enter Try.func19, Try.ntmps19
      go_wp2
      go_ret
      exact ⟨by rw [HR.out]; rfl, rfl⟩
    · have h2' : ¬ (c : Int) ≤ 122 := by omega
      have HR : Hid (r = false) := HM.out.trans (decide_eq_false (by omega))
      clear HM
      go_enter Try.func19, Try.ntmps19
      go_wp2
      go_ret
      exact ⟨by rw [HR.out]; rfl, rfl⟩
  · have h1' : ¬ (97 : Int) ≤ (c : Int) := by omega
    have HR : Hid (r = false) := HM.out.trans (decide_eq_false (by omega))
    clear HM
    go_enter Try.func19, Try.ntmps19
    go_wp2
    go_ret
    exact ⟨by rw [HR.out]; rfl, rfl⟩

set_option maxHeartbeats 1600000 in
set_option maxRecDepth 100000 in
theorem areBytes_small (t : List Nat) (n : Nat) (w : World) (hl : t.length = n) (hB : IsB t) (hn : n ≤ 1048576) :
    Calls Try.prog 18 #[.string (str t), .func (.func 19) #[] #[]] w fun e w' => e = .returned (.bool (t.all smB)) ∧ w = w' := by
  have hsz : (str t).size = n := by rw [str_size, hl]
  have HL : Hid (t.length = n) := hl
  clear hl
  go_enter Try.func18, Try.ntmps18
  go_wp2
  go_loop [8] (fun v => ∃ k : Nat, k ≤ n ∧ v = .int .i64 k ∧ (t.take k).all smB = true) (fun v => n - (intOf v).toNat)
  case atStart => exact ⟨0, Nat.zero_le _, rfl, by simp⟩
  case round =>
    obtain ⟨k, hk, rfl, hall⟩ := hrel
    by_cases hkn : k < n
    · have hki : (k : Int) < (n : Int) := by omega
      have g0 := str_get hB (i := k) (by rw [hsz]; exact hkn)
      have HY : Hid (smB (nth t k) = true → (t.take (k + 1)).all smB = true) := fun h => allN_step (by have := HL.out; omega) hall h
      have HN : Hid (smB (nth t k) = false → t.all smB = false) := fun h => allN_bad (by have := HL.out; omega) h
      have hx := nth_lt hB k
      have HC : Hid (∀ w, Calls Try.prog 19 #[.int .u8 (nth t k : Int)] w fun e w' => e = .returned (.bool (smB (nth t k))) ∧ w = w') := fun w => isSmallLetter_any (nth t k) w hx
      generalize hbv : smB (nth t k) = bv at *
      clear hbv hall
      generalize nth t k = x at *
      cases bv with
      | true =>
        have HM : Hid (_) := HY.out rfl
        clear HY HN
        go_wp2_with fail
        refine (HC.out _).mono ?_
        rintro e w' ⟨rfl, rfl⟩
        go_wp2
        go_round
        case rel => exact ⟨k + 1, by omega, by go_num, HM.out⟩
        case measure => simp [intOf]; omega
      | false =>
        have HM : Hid (_) := HN.out rfl
        clear HY HN
        go_wp2_with fail
        refine (HC.out _).mono ?_
        rintro e w' ⟨rfl, rfl⟩
        go_wp2
        go_ret
        exact ⟨by rw [HM.out]; rfl, rfl⟩
    · have hki : ¬ (k : Int) < (n : Int) := by omega
      have HM : Hid (t.all smB = true) := by
        show _ = _
        rw [show k = t.length by have := HL.out; omega, List.take_length] at hall
        exact hall
      clear hall
      go_wp2
      go_ret
      exact ⟨by rw [HM.out]; rfl, rfl⟩

set_option maxHeartbeats 1600000 in
set_option maxRecDepth 100000 in
theorem l5Mark_any (t : List Nat) (n : Nat) (w : World) (hl : t.length = n) (hB : IsB t) (hn : n ≤ 1048576) :
    Calls Try.prog 14 #[.string (str t)] w fun e w' => e = .returned (.bool (mkOk t)) ∧ Below w.heap.size w w' := by
  have hsz : (str t).size = n := by rw [str_size, hl]
  have HL : Hid (t.length = n) := hl
  clear hl
  go_enter Try.func14, Try.ntmps14
  go_wp2
  go_loopw [3] (fun v wr => ∃ k : Nat, k ≤ n ∧ v = .int .i64 k ∧ (t.take k).all smB = true ∧ Below w.heap.size w wr) (fun v _ => n - (intOf v).toNat)
  case atStart => exact ⟨0, Nat.zero_le _, rfl, by simp, Below.refl _ _⟩
  case round =>
    obtain ⟨k, hk, rfl, hall, hbel⟩ := hrel
    by_cases hkn : k < n
    · have hki : (k : Int) < (n : Int) := by omega
      have g0 := str_get hB (i := k) (by rw [hsz]; exact hkn)
      have HY : Hid (smB (nth t k) = true → (t.take (k + 1)).all smB = true) := fun h => allN_step (by have := HL.out; omega) hall h
      have HN : Hid (smB (nth t k) = false → mkOk t = false) := fun h => by unfold mkOk; rw [allN_bad (by have := HL.out; omega) h]; rfl
      have hx := nth_lt hB k
      clear hall
      generalize nth t k = x at *
      by_cases c1 : x < 97
      · have c1' : (x : Int) < 97 := by omega
        have HM : Hid (_) := HN.out (decide_eq_false (by omega))
        clear HY HN
        go_wp2
        go_ret
        exact ⟨by rw [HM.out]; rfl, hbel⟩
      · have c1' : ¬ (x : Int) < 97 := by omega
        by_cases c2 : 122 < x
        · have c2' : (122 : Int) < (x : Int) := by omega
          have HM : Hid (_) := HN.out (decide_eq_false (by omega))
          clear HY HN
          go_wp2
          go_ret
          exact ⟨by rw [HM.out]; rfl, hbel⟩
        · have c2' : ¬ (122 : Int) < (x : Int) := by omega
          have HM : Hid (_) := HY.out (decide_eq_true (by omega))
          clear HY HN
          go_wp2
          go_roundw
          case rel => exact ⟨k + 1, by omega, by go_num, HM.out, hbel⟩
          case measure => simp [intOf]; omega
    · have hki : ¬ (k : Int) < (n : Int) := by omega
      have HM : Hid (mkOk t = decide (1 ≤ (n : Int) ∧ (n : Int) ≤ 20)) := by
        show _ = _
        unfold mkOk
        rw [show k = t.length by have := HL.out; omega, List.take_length] at hall
        rw [hall, HL.out, Bool.true_and]
        exact decide_eq_decide.2 (by omega)
      clear hall
      go_wp2_with fail
      refine (l1In_any _ _ _ _).mono ?_
      rintro e w' ⟨rfl, rfl⟩
      generalize hd : decide (1 ≤ (n : Int) ∧ (n : Int) ≤ 20) = d at *
      clear hd
      go_wp2
      go_ret
      exact ⟨by rw [HM.out]; rfl, hbel⟩

set_option maxHeartbeats 1600000 in
set_option maxRecDepth 100000 in
theorem l5Dashes_any (a : Option Addr) (n cap : Nat) (d : List Nat) (w : World) (hl : d.length = n) (hr : Rd w a d) (hB : IsB d) (hn : n ≤ 1048576) :
    Calls Try.prog 15 #[.slice a n cap] w fun e w' => e = .returned (.bool ((lns d).any dsL)) ∧ Below w.heap.size w w' := by
  have HY : Hid (∀ i, dd d i → (i = 0 ∨ nth d (i - 1) = 10) → (lns d).any dsL = true) := fun i h1 h2 => (has_dd hB).2 ⟨i, h1, h2⟩
  have HN : Hid ((∀ i, i + 1 < n → ¬ (dd d i ∧ (i = 0 ∨ nth d (i - 1) = 10))) → (lns d).any dsL = false) := fun h => by
    cases hb : (lns d).any dsL with
    | false => rfl
    | true => obtain ⟨i, h1, h2⟩ := (has_dd hB).1 hb; exact absurd ⟨h1, h2⟩ (h i (by have := h1.1; omega))
  have HDD : Hid (∀ i, dd d i ↔ i + 1 < n ∧ nth d i = 45 ∧ nth d (i + 1) = 45) := fun i => by unfold dd; rw [hl]
  have HL : Hid (d.length = n) := hl
  clear hl
  generalize (lns d).any dsL = r at *
  go_enter Try.func15, Try.ntmps15
  go_wp2
  go_loopw [3] (fun v wr => ∃ k : Nat, k ≤ n ∧ v = .int .i64 k ∧ Hid (∀ j, j < k → ¬ (dd d j ∧ (j = 0 ∨ nth d (j - 1) = 10))) ∧ Below w.heap.size w wr) (fun v _ => n - (intOf v).toNat)
  case atStart => exact ⟨0, Nat.zero_le _, rfl, fun j hj => absurd hj (Nat.not_lt_zero _), Below.refl _ _⟩
  case round =>
    obtain ⟨k, hk, rfl, HA, hbel⟩ := hrel
    by_cases hkn : k + 1 < n
    · have hki : (k : Int) + 1 < (n : Int) := by omega
      have hk2 : (k : Int) < (n : Int) := by omega
      obtain ⟨g, off, rfl, hglt, hcell⟩ := (hr.below hbel).at_ (by have := HL.out; omega)
      have c0 := hcell k (by have := HL.out; omega)
      have c1 := hcell (k + 1) (by have := HL.out; omega)
      have HS : Hid (¬ (dd d k ∧ (k = 0 ∨ nth d (k - 1) = 10)) → ∀ j, j < k + 1 → ¬ (dd d j ∧ (j = 0 ∨ nth d (j - 1) = 10))) := fun h j hj => by
        rcases Nat.lt_or_ge j k with h' | h'
        · exact HA.out j h'
        · obtain rfl : j = k := by omega
          exact h
      by_cases h0 : nth d k = 45
      · rw [h0] at c0
        have c0' : wr.cell? ⟨g, off + k, none⟩ = some (.int .u8 45) := c0
        clear c0
        by_cases h1 : nth d (k + 1) = 45
        · rw [h1] at c1
          have c1' : wr.cell? ⟨g, off + (k + 1), none⟩ = some (.int .u8 45) := c1
          clear c1
          by_cases h2 : k = 0
          · subst h2
            rw [Nat.add_zero] at c0'
            rw [Nat.zero_add] at c1'
            have HM : Hid (r = true) := HY.out 0 ((HDD.out 0).2 ⟨hkn, h0, h1⟩) (.inl rfl)
            clear HS HA HY HN HDD hcell
            go_wp2
            go_ret
            exact ⟨by rw [HM.out]; rfl, hbel⟩
          · obtain ⟨j, rfl⟩ : ∃ j, k = j + 1 := ⟨k - 1, by omega⟩
            have cm := hcell j (by have := HL.out; omega)
            have hji : ((j + 1 : Nat) : Int) - 1 = (j : Int) := by omega
            have hjn : (j : Int) < (n : Int) := by omega
            have hj0 : ¬ ((j + 1 : Nat) : Int) = 0 := by omega
            by_cases h3 : nth d j = 10
            · rw [h3] at cm
              have cm' : wr.cell? ⟨g, off + j, none⟩ = some (.int .u8 10) := cm
              clear cm
              have HM : Hid (r = true) := HY.out (j + 1) ((HDD.out (j + 1)).2 ⟨hkn, h0, h1⟩) (.inr (by rw [Nat.add_sub_cancel]; exact h3))
              clear HS HA HY HN HDD hcell
              go_wp2
              go_ret
              exact ⟨by rw [HM.out]; rfl, hbel⟩
            · have h3' : ((nth d j : Int) == 10) = false := by simpa using (show ¬ (nth d j : Int) = 10 by omega)
              have HM : Hid (_) := HS.out (fun h => h.2.elim (fun h' => absurd h' (by omega)) (fun h' => h3 (by rwa [Nat.add_sub_cancel] at h')))
              clear HS HA HY HN HDD hcell
              go_wp2
              go_roundw
              case rel => exact ⟨j + 1 + 1, by omega, by go_num, HM.out, hbel⟩
              case measure => simp [intOf]; omega
        · have h1' : ((nth d (k + 1) : Int) == 45) = false := by simpa using (show ¬ (nth d (k + 1) : Int) = 45 by omega)
          have HM : Hid (_) := HS.out (fun h => absurd ((HDD.out k).1 h.1).2.2 h1)
          clear HS HA HY HN HDD hcell
          go_wp2
          go_roundw
          case rel => exact ⟨k + 1, by omega, by go_num, HM.out, hbel⟩
          case measure => simp [intOf]; omega
      · have h0' : ((nth d k : Int) == 45) = false := by simpa using (show ¬ (nth d k : Int) = 45 by omega)
        have HM : Hid (_) := HS.out (fun h => absurd ((HDD.out k).1 h.1).2.1 h0)
        clear HS HA HY HN HDD hcell
        go_wp2
        go_roundw
        case rel => exact ⟨k + 1, by omega, by go_num, HM.out, hbel⟩
        case measure => simp [intOf]; omega
    · have hki : ¬ (k : Int) + 1 < (n : Int) := by omega
      have HM : Hid (r = false) := HN.out (fun i hi => HA.out i (by omega))
      clear HA HY HN HDD
      go_wp2
      go_ret
      exact ⟨by rw [HM.out]; rfl, hbel⟩
end Go.Proofs.Ythphokjhonddcaa
