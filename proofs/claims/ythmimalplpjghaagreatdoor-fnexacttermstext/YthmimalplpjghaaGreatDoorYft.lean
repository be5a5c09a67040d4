/- A set's fault, on both sides: at every slice of ranges; no conditions beyond those that each fact names. -/
import Derived.Test.YthmimalplpjghaaGreatDoorRgS
namespace Go.Proofs.YthmimalplpjghaaGreatDoor
open Go.RowKit

/-- Between two numbers. -/
def bty (c a b : Int) : Bool := decide (a ≤ c ∧ c ≤ b)
theorem l1In_y (c a b : Int) (w : World) : Calls Tryz.prog 69 #[.int .i64 c, .int .i64 a, .int .i64 b] w fun e w' => e = .returned (.bool (bty c a b)) ∧ w = w' := by
  by_cases h1 : a ≤ c
  · by_cases h2 : c ≤ b
    · have H : Hid (bty c a b = true) := by show bty c a b = true; simp [bty, h1, h2]
      go_enter Tryz.func69, Tryz.ntmps69
      go_wp2
      go_ret
      exact ⟨by rw [H.out]; rfl, rfl⟩
    · have H : Hid (bty c a b = false) := by show bty c a b = false; simp [bty, h2]
      go_enter Tryz.func69, Tryz.ntmps69
      go_wp2
      go_ret
      exact ⟨by rw [H.out]; rfl, rfl⟩
  · have H : Hid (bty c a b = false) := by show bty c a b = false; simp [bty, h1]
    go_enter Tryz.func69, Tryz.ntmps69
    go_wp2
    go_ret
    exact ⟨by rw [H.out]; rfl, rfl⟩
theorem isBetween_y (c a b : Int) (w : World) : Calls Tryz.prog 65 #[.int .i64 c, .int .i64 a, .int .i64 b] w fun e w' => e = .returned (.bool (bty c a b)) ∧ w = w' := by
  by_cases h1 : a ≤ c
  · by_cases h2 : c ≤ b
    · have H : Hid (bty c a b = true) := by show bty c a b = true; simp [bty, h1, h2]
      go_enter Tryz.func65, Tryz.ntmps65
      go_wp2
      go_ret
      exact ⟨by rw [H.out]; rfl, rfl⟩
    · have H : Hid (bty c a b = false) := by show bty c a b = false; simp [bty, h2]
      go_enter Tryz.func65, Tryz.ntmps65
      go_wp2
      go_ret
      exact ⟨by rw [H.out]; rfl, rfl⟩
  · have H : Hid (bty c a b = false) := by show bty c a b = false; simp [bty, h1]
    go_enter Tryz.func65, Tryz.ntmps65
    go_wp2
    go_ret
    exact ⟨by rw [H.out]; rfl, rfl⟩

theorem isEnd_any (n : Int) (w : World) : Calls Tryz.prog 212 #[.int .i64 n] w fun e w' => e = .returned (.bool (bty n 0 999)) ∧ w = w' := by
  have HB := isBetween_y n 1 999
  by_cases h0 : n = 0
  · subst h0
    go_enter Tryz.func212, Tryz.ntmps212
    go_wp2
    go_ret
    exact ⟨rfl, rfl⟩
  · have H : Hid (bty n 1 999 = bty n 0 999) := by
      show bty n 1 999 = bty n 0 999
      unfold bty
      by_cases h : 1 ≤ n ∧ n ≤ 999
      · rw [decide_eq_true h, decide_eq_true (by omega)]
      · rw [decide_eq_false h, decide_eq_false (by omega)]
    go_enter Tryz.func212, Tryz.ntmps212
    go_wp2_with fail
    refine (HB _).mono ?_
    rintro e w1 ⟨rfl, rfl⟩
    rw [H.out]
    have e0 : (n == 0) = false := by simpa using h0
    have HE0 : Hid (∀ b : Bool, (n == 0 || b) = b) := fun b => by rw [e0]; rfl
    clear e0
    go_wp2
    go_ret
    exact ⟨congrArg (fun b => Ending.returned (.bool b)) (HE0.out _), rfl⟩

/-- All numbers of a set are in their bounds. -/
def rfA (l : List YgP) : Bool := l.all fun p => bty p.1 0 999 && bty p.2 0 999
/-- A set's fault. -/
def rfV (l : List YgP) : Int := if 1 ≤ l.length ∧ l.length ≤ 8 then (if rfA l then 0 else 3) else 2
theorem rfA_at {l : List YgP} {k : Nat} (h : k < l.length) (hx : (bty (nthY l k).1 0 999 && bty (nthY l k).2 0 999) = false) : rfA l = false := by
  unfold rfA
  rw [List.all_eq_false]
  refine ⟨nthY l k, ?_, by rw [hx]; decide⟩
  rw [nthY_get h]; exact List.getElem_mem h
theorem rfA_all {l : List YgP} (h : ∀ i, i < l.length → (bty (nthY l i).1 0 999 && bty (nthY l i).2 0 999) = true) : rfA l = true := by
  unfold rfA
  rw [List.all_eq_true]
  intro p hp
  obtain ⟨i, hi, rfl⟩ := List.getElem_of_mem hp
  have := h i hi
  rw [nthY_get hi] at this
  exact this
theorem rfV_many {l : List YgP} (h : ¬ (1 ≤ l.length ∧ l.length ≤ 8)) : rfV l = 2 := by rw [rfV, if_neg h]
theorem rfV_bad {l : List YgP} (h : 1 ≤ l.length ∧ l.length ≤ 8) (hx : rfA l = false) : rfV l = 3 := by rw [rfV, if_pos h, hx]; rfl
theorem rfV_ok {l : List YgP} (h : 1 ≤ l.length ∧ l.length ≤ 8) (hx : rfA l = true) : rfV l = 0 := by rw [rfV, if_pos h, hx]; rfl

set_option maxHeartbeats 1600000 in
set_option maxRecDepth 100000 in
theorem rangesFault_any (a : Option Addr) (n cap : Nat) (l : List YgP) (w : World) (hl : l.length = n) (hr : RdY w a l) (hn : n ≤ 1048576) :
    Calls Tryz.prog 160 #[.slice a n cap] w fun e w' => e = .returned (.int .i64 (rfV l)) ∧ Below w.heap.size w w' := by
  have HB := isBetween_y (n : Int) 1 8
  have HE := isEnd_any
  by_cases hm : 1 ≤ n ∧ n ≤ 8
  · have hb : bty (n : Int) 1 8 = true := decide_eq_true (by omega)
    go_enter Tryz.func160, Tryz.ntmps160
    go_wp2_with fail
    refine (HB _).mono ?_
    rintro e w1 ⟨rfl, rfl⟩
    rw [hb]
    go_wp2
    go_loopw [11] (fun i wr => ∃ k : Nat, k ≤ n ∧ i = .int .i64 k ∧ (∀ i, i < k → (bty (nthY l i).1 0 999 && bty (nthY l i).2 0 999) = true) ∧ Below w.heap.size w wr) (fun i _ => n - (intOf i).toNat)
    case atStart => exact ⟨0, Nat.zero_le _, rfl, fun i hi => by omega, Below.refl _ _⟩
    case round =>
      obtain ⟨k, hk, rfl, hall, hbel⟩ := hrel
      by_cases hkn : k < n
      · obtain ⟨b, off, rfl, hblt, hcell⟩ := hr.at_ (by omega)
        have hc0 : wr.cell? ⟨b, off + k * 2, none⟩ = some (.int .i64 (nthY l k).1) := (hbel.cell (p := ⟨b, off + k * 2, none⟩) hblt).trans (hcell k (by omega)).1
        have hc1 : wr.cell? ⟨b, off + k * 2 + 1, none⟩ = some (.int .i64 (nthY l k).2) := (hbel.cell (p := ⟨b, off + k * 2 + 1, none⟩) hblt).trans (hcell k (by omega)).2
        have hki : (k : Int) < (n : Int) := by omega
        have HBAD : Hid ((bty (nthY l k).1 0 999 && bty (nthY l k).2 0 999) = false → rfV l = 3) := fun h => rfV_bad (by omega) (rfA_at (by omega) h)
        have HGO : Hid ((bty (nthY l k).1 0 999 && bty (nthY l k).2 0 999) = true → ∀ i, i < k + 1 → (bty (nthY l i).1 0 999 && bty (nthY l i).2 0 999) = true) := fun h i hi => by
          rcases Nat.lt_or_ge i k with h' | h'
          · exact hall i h'
          · rw [show i = k by omega]; exact h
        clear hcell hall
        generalize nthY l k = p at *
        obtain ⟨x, y⟩ := p
        simp only at hc0 hc1 HBAD HGO
        go_wp2_with fail
        refine (HE x _).mono ?_
        rintro e w2 ⟨rfl, rfl⟩
        cases hx : bty x 0 999 with
        | false =>
          have HV := HBAD.out (by rw [hx]; rfl)
          have HB2 : Hid (Below w.heap.size w (wr.alloc (.cells #[.int .i64 x, .int .i64 y] 188))) := hbel.alloc hbel.size _
          go_wp2
          go_ret
          exact ⟨by rw [HV]; rfl, HB2.out⟩
        | true =>
          go_wp2_with fail
          refine (HE y _).mono ?_
          rintro e w3 ⟨rfl, rfl⟩
          have HB2 : Hid (Below w.heap.size w (wr.alloc (.cells #[.int .i64 x, .int .i64 y] 188))) := hbel.alloc hbel.size _
          cases hy : bty y 0 999 with
          | false =>
            have HV := HBAD.out (by rw [hx, hy]; rfl)
            go_wp2
            go_ret
            exact ⟨by rw [HV]; rfl, HB2.out⟩
          | true =>
            have HV : Hid (_) := HGO.out (by rw [hx, hy]; rfl)
            clear HGO HBAD
            go_wp2
            go_roundw
            case rel => exact ⟨k + 1, by omega, by go_num, HV.out, HB2.out⟩
            case measure => simp [intOf]; omega
      · have hki : ¬ (k : Int) < (n : Int) := by omega
        have HV : Hid (rfV l = 0) := rfV_ok (by omega) (rfA_all (fun i hi => hall i (by omega)))
        clear hall
        go_wp2
        go_ret
        exact ⟨by rw [HV.out]; rfl, hbel⟩
  · have hb : bty (n : Int) 1 8 = false := decide_eq_false (by omega)
    have HV : Hid (rfV l = 2) := rfV_many (by omega)
    go_enter Tryz.func160, Tryz.ntmps160
    go_wp2_with fail
    refine (HB _).mono ?_
    rintro e w1 ⟨rfl, rfl⟩
    rw [hb]
    go_wp2
    go_ret
    exact ⟨by rw [HV.out]; rfl, Below.refl _ _⟩

set_option maxHeartbeats 1600000 in
set_option maxRecDepth 100000 in
theorem l11Fault_any (a : Option Addr) (n cap : Nat) (l : List YgP) (w : World) (hl : l.length = n) (hr : RdY w a l) (hn : n ≤ 1048576) :
    Calls Tryz.prog 170 #[.slice a n cap] w fun e w' => e = .returned (.int .i64 (rfV l)) ∧ Below w.heap.size w w' := by
  have HE := fun x => l1In_y x 0 999
  by_cases hm : 1 ≤ n ∧ n ≤ 8
  · have h1 : ¬ (n : Int) < 1 := by omega
    have h8 : ¬ (n : Int) > 8 := by omega
    go_enter Tryz.func170, Tryz.ntmps170
    go_wp2
    go_loopw [3] (fun i wr => ∃ k : Nat, k ≤ n ∧ i = .int .i64 k ∧ (∀ i, i < k → (bty (nthY l i).1 0 999 && bty (nthY l i).2 0 999) = true) ∧ Below w.heap.size w wr) (fun i _ => n - (intOf i).toNat)
    case atStart => exact ⟨0, Nat.zero_le _, rfl, fun i hi => by omega, Below.refl _ _⟩
    case round =>
      obtain ⟨k, hk, rfl, hall, hbel⟩ := hrel
      by_cases hkn : k < n
      · obtain ⟨b, off, rfl, hblt, hcell⟩ := hr.at_ (by omega)
        have hc0 : wr.cell? ⟨b, off + k * 2, none⟩ = some (.int .i64 (nthY l k).1) := (hbel.cell (p := ⟨b, off + k * 2, none⟩) hblt).trans (hcell k (by omega)).1
        have hc1 : wr.cell? ⟨b, off + k * 2 + 1, none⟩ = some (.int .i64 (nthY l k).2) := (hbel.cell (p := ⟨b, off + k * 2 + 1, none⟩) hblt).trans (hcell k (by omega)).2
        have hki : (k : Int) < (n : Int) := by omega
        have HBAD : Hid ((bty (nthY l k).1 0 999 && bty (nthY l k).2 0 999) = false → rfV l = 3) := fun h => rfV_bad (by omega) (rfA_at (by omega) h)
        have HGO : Hid ((bty (nthY l k).1 0 999 && bty (nthY l k).2 0 999) = true → ∀ i, i < k + 1 → (bty (nthY l i).1 0 999 && bty (nthY l i).2 0 999) = true) := fun h i hi => by
          rcases Nat.lt_or_ge i k with h' | h'
          · exact hall i h'
          · rw [show i = k by omega]; exact h
        clear hcell hall
        generalize nthY l k = p at *
        obtain ⟨x, y⟩ := p
        simp only at hc0 hc1 HBAD HGO
        go_wp2_with fail
        refine (HE x _).mono ?_
        rintro e w2 ⟨rfl, rfl⟩
        cases hx : bty x 0 999 with
        | false =>
          have HV := HBAD.out (by rw [hx]; rfl)
          go_wp2
          go_ret
          exact ⟨by rw [HV]; rfl, hbel⟩
        | true =>
          go_wp2_with fail
          refine (HE y _).mono ?_
          rintro e w3 ⟨rfl, rfl⟩
          cases hy : bty y 0 999 with
          | false =>
            have HV := HBAD.out (by rw [hx, hy]; rfl)
            go_wp2
            go_ret
            exact ⟨by rw [HV]; rfl, hbel⟩
          | true =>
            have HV : Hid (_) := HGO.out (by rw [hx, hy]; rfl)
            clear HGO HBAD
            go_wp2
            go_roundw
            case rel => exact ⟨k + 1, by omega, by go_num, HV.out, hbel⟩
            case measure => simp [intOf]; omega
      · have hki : ¬ (k : Int) < (n : Int) := by omega
        have HV : Hid (rfV l = 0) := rfV_ok (by omega) (rfA_all (fun i hi => hall i (by omega)))
        clear hall
        go_wp2
        go_ret
        exact ⟨by rw [HV.out]; rfl, hbel⟩
  · have HV : Hid (rfV l = 2) := rfV_many (by omega)
    by_cases h1 : (n : Int) < 1
    · go_enter Tryz.func170, Tryz.ntmps170
      go_wp2
      go_ret
      exact ⟨by rw [HV.out]; rfl, Below.refl _ _⟩
    · have h8 : (n : Int) > 8 := by omega
      go_enter Tryz.func170, Tryz.ntmps170
      go_wp2
      go_ret
      exact ⟨by rw [HV.out]; rfl, Below.refl _ _⟩

end Go.Proofs.YthmimalplpjghaaGreatDoor
