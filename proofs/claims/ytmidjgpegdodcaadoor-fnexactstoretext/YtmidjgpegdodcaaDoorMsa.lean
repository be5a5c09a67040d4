/- Messages: their size, a copy, whether two are the same, and their fault, on both sides; no conditions beyond those that each fact names. -/
import Derived.Test.YtmidjgpegdodcaaDoorMqr
import Derived.Test.YtmidjgpegdodcaaDoorByt
import Derived.Deep.RegionHeld3
namespace Go.Proofs.YtmidjgpegdodcaaDoor
open Go.RowKit

/-- Between two numbers. -/
def bt (c a b : Int) : Bool := decide (a ≤ c ∧ c ≤ b)
theorem l1In_bt (c a b : Int) (w : World) : Calls Tryd.prog 19 #[.int .i64 c, .int .i64 a, .int .i64 b] w fun e w' => e = .returned (.bool (bt c a b)) ∧ w = w' := by
  by_cases h1 : a ≤ c
  · by_cases h2 : c ≤ b
    · have H : Hid (bt c a b = true) := by show bt c a b = true; simp [bt, h1, h2]
      go_enter Tryd.func19, Tryd.ntmps19
      go_wp2
      go_ret
      exact ⟨by rw [H.out]; rfl, rfl⟩
    · have H : Hid (bt c a b = false) := by show bt c a b = false; simp [bt, h2]
      go_enter Tryd.func19, Tryd.ntmps19
      go_wp2
      go_ret
      exact ⟨by rw [H.out]; rfl, rfl⟩
  · have H : Hid (bt c a b = false) := by show bt c a b = false; simp [bt, h1]
    go_enter Tryd.func19, Tryd.ntmps19
    go_wp2
    go_ret
    exact ⟨by rw [H.out]; rfl, rfl⟩
theorem isBetween_bt (c a b : Int) (w : World) : Calls Tryd.prog 23 #[.int .i64 c, .int .i64 a, .int .i64 b] w fun e w' => e = .returned (.bool (bt c a b)) ∧ w = w' := by
  by_cases h1 : a ≤ c
  · by_cases h2 : c ≤ b
    · have H : Hid (bt c a b = true) := by show bt c a b = true; simp [bt, h1, h2]
      go_enter Tryd.func23, Tryd.ntmps23
      go_wp2
      go_ret
      exact ⟨by rw [H.out]; rfl, rfl⟩
    · have H : Hid (bt c a b = false) := by show bt c a b = false; simp [bt, h2]
      go_enter Tryd.func23, Tryd.ntmps23
      go_wp2
      go_ret
      exact ⟨by rw [H.out]; rfl, rfl⟩
  · have H : Hid (bt c a b = false) := by show bt c a b = false; simp [bt, h1]
    go_enter Tryd.func23, Tryd.ntmps23
    go_wp2
    go_ret
    exact ⟨by rw [H.out]; rfl, rfl⟩
theorem areFlags_bt (c : Int) (w : World) : Calls Tryd.prog 55 #[.int .i64 c] w fun e w' => e = .returned (.bool (bt c 0 15)) ∧ w = w' := by
  have HC := isBetween_bt c 0 15
  generalize bt c 0 15 = r at *
  go_enter Tryd.func55, Tryd.ntmps55
  go_wp2_with (first | (go_at_call 23; refine (HC _).mono ?_; rintro e w' ⟨rfl, rfl⟩))
  go_ret
  exact ⟨rfl, rfl⟩

/-- THE FAULT OF A MESSAGE. -/
def mfV (m : Msg) : Int := if bt m.u 1 999 = true ∧ bt m.f 0 15 = true ∧ bt m.d 0 9999 = true then (if 400 < m.b.length then 2 else 0) else 3

set_option maxHeartbeats 1600000 in
set_option maxRecDepth 100000 in
theorem l7Message_any (m : Msg) (s : SlQ) (g o : Nat) {lo : Nat} (w : World) (hs : IsSl lo w s m.b)
    (c0 : w.cell? ⟨g, o, none⟩ = some (.int .i64 m.u)) (c1 : w.cell? ⟨g, o + 1, none⟩ = some (.int .i64 m.f)) (c2 : w.cell? ⟨g, o + 2, none⟩ = some (.int .i64 m.d)) (c3 : w.cell? ⟨g, o + 3, none⟩ = some (slW s)) :
    Calls Tryd.prog 31 #[.pointer (some ⟨g, o, none⟩)] w fun e w' => e = .returned (.int .i64 (mfV m)) ∧ Below w.heap.size w w' := by
  have hl := hs.1
  have HV : Hid (mfV m = if bt m.u 1 999 = true ∧ bt m.f 0 15 = true ∧ bt m.d 0 9999 = true then (if 400 < m.b.length then 2 else 0) else 3) := rfl
  obtain ⟨a, n, cap⟩ := s
  obtain ⟨u, f, d, b⟩ := m
  dsimp only at *
  generalize mfV ⟨u, f, d, b⟩ = r at *
  have hn : b.length ≤ maxLen := by have := hs.2.1; have := hs.2.2.1; dsimp only at *; omega
  unfold maxLen at hn
  rw [hl] at HV
  clear hs
  cases h0 : bt u 1 999 with
  | false =>
    have HM : Hid (r = 3) := HV.out.trans (by simp [h0])
    clear HV
    go_enter Tryd.func31, Tryd.ntmps31
    go_wp2_with (first | (go_at_call 19; refine (l1In_bt _ _ _ _).mono ?_; rintro e w' ⟨rfl, rfl⟩))
    go_ret
    exact ⟨by rw [HM.out]; rfl, by go_grown⟩
  | true =>
    cases h1 : bt f 0 15 with
    | false =>
      have HM : Hid (r = 3) := HV.out.trans (by simp [h0, h1])
      clear HV
      go_enter Tryd.func31, Tryd.ntmps31
      go_wp2_with (first | (go_at_call 19; refine (l1In_bt _ _ _ _).mono ?_; rintro e w' ⟨rfl, rfl⟩))
      go_ret
      exact ⟨by rw [HM.out]; rfl, by go_grown⟩
    | true =>
      cases h2 : bt d 0 9999 with
      | false =>
        have HM : Hid (r = 3) := HV.out.trans (by simp [h0, h1, h2])
        clear HV
        go_enter Tryd.func31, Tryd.ntmps31
        go_wp2_with (first | (go_at_call 19; refine (l1In_bt _ _ _ _).mono ?_; rintro e w' ⟨rfl, rfl⟩))
        go_ret
        exact ⟨by rw [HM.out]; rfl, by go_grown⟩
      | true =>
        by_cases hb : 400 < n
        · have hbi : (400 : Int) < (n : Int) := by omega
          have HM : Hid (r = 2) := HV.out.trans (by simp [h0, h1, h2, hb])
          clear HV
          go_enter Tryd.func31, Tryd.ntmps31
          go_wp2_with (first | (go_at_call 19; refine (l1In_bt _ _ _ _).mono ?_; rintro e w' ⟨rfl, rfl⟩))
          go_ret
          exact ⟨by rw [HM.out]; rfl, by go_grown⟩
        · have hbi : ¬ (400 : Int) < (n : Int) := by omega
          have HM : Hid (r = 0) := HV.out.trans (by simp [h0, h1, h2, hb])
          clear HV
          go_enter Tryd.func31, Tryd.ntmps31
          go_wp2_with (first | (go_at_call 19; refine (l1In_bt _ _ _ _).mono ?_; rintro e w' ⟨rfl, rfl⟩))
          go_ret
          exact ⟨by rw [HM.out]; rfl, by go_grown⟩

set_option maxHeartbeats 1600000 in
set_option maxRecDepth 100000 in
theorem messageFault_any (m : Msg) (s : SlQ) {lo : Nat} (w : World) (hs : IsSl lo w s m.b) :
    Calls Tryd.prog 44 #[msX m s] w fun e w' => e = .returned (.int .i64 (mfV m)) ∧ Below w.heap.size w w' := by
  have hl := hs.1
  have HV : Hid (mfV m = if bt m.u 1 999 = true ∧ bt m.f 0 15 = true ∧ bt m.d 0 9999 = true then (if 400 < m.b.length then 2 else 0) else 3) := rfl
  obtain ⟨a, n, cap⟩ := s
  obtain ⟨u, f, d, b⟩ := m
  dsimp only at *
  generalize mfV ⟨u, f, d, b⟩ = r at *
  have hn : b.length ≤ maxLen := by have := hs.2.1; have := hs.2.2.1; dsimp only at *; omega
  unfold maxLen at hn
  rw [hl] at HV
  clear hs
  cases h0 : bt u 1 999 with
  | false =>
    have HM : Hid (r = 3) := HV.out.trans (by simp [h0])
    clear HV
    go_enter Tryd.func44, Tryd.ntmps44
    go_wp2_with (first | (go_at_call 23; refine (isBetween_bt _ _ _ _).mono ?_; rintro e w' ⟨rfl, rfl⟩) | (go_at_call 55; refine (areFlags_bt _ _).mono ?_; rintro e w' ⟨rfl, rfl⟩))
    go_ret
    exact ⟨by rw [HM.out]; rfl, by go_grown⟩
  | true =>
    cases h1 : bt f 0 15 with
    | false =>
      have HM : Hid (r = 3) := HV.out.trans (by simp [h0, h1])
      clear HV
      go_enter Tryd.func44, Tryd.ntmps44
      go_wp2_with (first | (go_at_call 23; refine (isBetween_bt _ _ _ _).mono ?_; rintro e w' ⟨rfl, rfl⟩) | (go_at_call 55; refine (areFlags_bt _ _).mono ?_; rintro e w' ⟨rfl, rfl⟩))
      go_ret
      exact ⟨by rw [HM.out]; rfl, by go_grown⟩
    | true =>
      cases h2 : bt d 0 9999 with
      | false =>
        have HM : Hid (r = 3) := HV.out.trans (by simp [h0, h1, h2])
        clear HV
        go_enter Tryd.func44, Tryd.ntmps44
        go_wp2_with (first | (go_at_call 23; refine (isBetween_bt _ _ _ _).mono ?_; rintro e w' ⟨rfl, rfl⟩) | (go_at_call 55; refine (areFlags_bt _ _).mono ?_; rintro e w' ⟨rfl, rfl⟩))
        go_ret
        exact ⟨by rw [HM.out]; rfl, by go_grown⟩
      | true =>
        by_cases hb : 400 < n
        · have hbi : (400 : Int) < (n : Int) := by omega
          have HM : Hid (r = 2) := HV.out.trans (by simp [h0, h1, h2, hb])
          clear HV
          go_enter Tryd.func44, Tryd.ntmps44
          go_wp2_with (first | (go_at_call 23; refine (isBetween_bt _ _ _ _).mono ?_; rintro e w' ⟨rfl, rfl⟩) | (go_at_call 55; refine (areFlags_bt _ _).mono ?_; rintro e w' ⟨rfl, rfl⟩))
          go_ret
          exact ⟨by rw [HM.out]; rfl, by go_grown⟩
        · have hbi : ¬ (400 : Int) < (n : Int) := by omega
          have HM : Hid (r = 0) := HV.out.trans (by simp [h0, h1, h2, hb])
          clear HV
          go_enter Tryd.func44, Tryd.ntmps44
          go_wp2_with (first | (go_at_call 23; refine (isBetween_bt _ _ _ _).mono ?_; rintro e w' ⟨rfl, rfl⟩) | (go_at_call 55; refine (areFlags_bt _ _).mono ?_; rintro e w' ⟨rfl, rfl⟩))
          go_ret
          exact ⟨by rw [HM.out]; rfl, by go_grown⟩

end Go.Proofs.YtmidjgpegdodcaaDoor
