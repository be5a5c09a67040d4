/- The first place at which something holds; slices.IndexFunc over messages and mailboxes, by a closure that catches one variable; no conditions beyond those that each fact names. -/
import Derived.Test.YtmidjgpegdodcaaDoorMqr
import Derived.Deep.RegionHeld3
namespace Go.Proofs.YtmidjgpegdodcaaDoor
open Go.RowKit

/-- The first place below n at which p holds; -1: there is none. -/
def ixG (n : Nat) (p : Nat → Bool) : Int := match (List.range n).find? p with
  | some i => (i : Int)
  | none => -1
theorem ixG_at {n k : Nat} {p : Nat → Bool} (hk : k < n) (h : p k = true) (hall : ∀ j, j < k → p j = false) : ixG n p = (k : Int) := by
  have : (List.range n).find? p = some k := List.find?_range_eq_some.2 ⟨h, by simpa using hk, fun j hj => by rw [hall j hj]; rfl⟩
  unfold ixG; rw [this]
theorem ixG_no {n : Nat} {p : Nat → Bool} (h : ∀ i, i < n → p i = false) : ixG n p = -1 := by
  have : (List.range n).find? p = none := List.find?_range_eq_none.2 (fun i hi => by rw [h i hi]; rfl)
  unfold ixG; rw [this]
theorem ixG_cases (n : Nat) (p : Nat → Bool) : ixG n p = -1 ∧ (∀ i, i < n → p i = false) ∨ ∃ k, k < n ∧ ixG n p = (k : Int) ∧ p k = true ∧ ∀ j, j < k → p j = false := by
  cases h : (List.range n).find? p with
  | none =>
    left
    have h' := List.find?_range_eq_none.1 h
    exact ⟨by unfold ixG; rw [h], fun i hi => by have := h' i hi; simpa using this⟩
  | some k =>
    right
    obtain ⟨h1, h2, h3⟩ := List.find?_range_eq_some.1 h
    exact ⟨k, by simpa using h2, by unfold ixG; rw [h], h1, fun j hj => by have := h3 j hj; simpa using this⟩

set_option maxHeartbeats 1600000 in
set_option maxRecDepth 100000 in
theorem indexBox_any (G : Nat) (ct : Value) (s : SlQ) (l : List Bx) (p : Nat → Bool) {lo : Nat} (w : World) (hs : IsXs lo w s l)
    (hG : ∀ (args : Array Value) (w : World), (callFunc G args).run Tryd.prog w = .ok (.enter G args) w)
    (hI : ∀ k, k < l.length → ∀ (q : SlQ) (w' : World), Below w.heap.size w w' → Calls Tryd.prog G #[bxX (nthX l k) q, ct] w' fun e w'' => e = .returned (.bool (p k)) ∧ Below w'.heap.size w' w'') :
    Calls Tryd.prog 56 #[slW s, .func (.func G) #[] #[ct]] w fun e w' => e = .returned (.int .i64 (ixG l.length p)) ∧ Below w.heap.size w w' := by
  obtain ⟨a, n, cap⟩ := s
  obtain ⟨hl, hnc, hcm, hr⟩ := hs
  dsimp only [slW] at *
  unfold maxLen at hcm
  rw [hl] at hI ⊢
  have HI : Hid (∀ k, k < n → ∀ (q : SlQ) (w' : World), Below w.heap.size w w' → Calls Tryd.prog G #[bxX (nthX l k) q, ct] w' fun e w'' => e = .returned (.bool (p k)) ∧ Below w'.heap.size w' w'') := hI
  clear hI
  go_enter Tryd.func56, Tryd.ntmps56
  go_wp2
  go_loopw [8] (fun i wr => ∃ k : Nat, k ≤ n ∧ i = .int .i64 k ∧ (∀ j, j < k → p j = false) ∧ Below w.heap.size w wr) (fun i _ => n - (intOf i).toNat)
  case atStart => exact ⟨0, Nat.zero_le _, rfl, fun j hj => absurd hj (Nat.not_lt_zero _), Below.refl _ _⟩
  case round =>
    obtain ⟨k, hk, rfl, hall, hbel⟩ := hrel
    by_cases hkn : k < n
    · have hki : (k : Int) < (n : Int) := by omega
      obtain ⟨g, off, rfl, -, hglt, hcell⟩ := (hr.below hbel).at_ (by omega)
      obtain ⟨q, ⟨c0, c1, c2, c3⟩, -⟩ := hcell k (by omega)
      have HC := HI.out k hkn q wr hbel
      have HY : Hid (p k = true → ixG n p = (k : Int)) := fun h => ixG_at hkn h hall
      have HN : Hid (p k = false → ∀ j, j < k + 1 → p j = false) := fun h j hj => by
        rcases Nat.lt_or_ge j k with h' | h'
        · exact hall j h'
        · obtain rfl : j = k := by omega
          exact h
      clear hall hcell
      generalize p k = bv at *
      generalize nthX l k = y at *
      obtain ⟨zn, zv, zx, zm⟩ := y
      dsimp only at c0 c1 c2 HC
      go_wp2_with fail
      refine HC.mono ?_
      rintro e w2 ⟨rfl, hb2⟩
      have hbel2 := hbel.trans (hb2.mono hbel.size)
      clear HC HI hG
      cases bv with
      | true =>
        have HM : Hid (ixG n p = (k : Int)) := HY.out rfl
        clear HY HN
        go_wp2
        go_ret
        rw [HM.out]
        exact ⟨rfl, hbel2⟩
      | false =>
        have HM : Hid (_) := HN.out rfl
        clear HY HN
        go_wp2
        go_roundw
        case rel => exact ⟨k + 1, by omega, by go_num, HM.out, hbel2⟩
        case measure => simp [intOf]; omega
    · have hki : ¬ (k : Int) < (n : Int) := by omega
      have HM : Hid (ixG n p = -1) := ixG_no (fun i hi => hall i (by omega))
      clear hall
      go_wp2
      go_ret
      rw [HM.out]
      exact ⟨rfl, hbel⟩

end Go.Proofs.YtmidjgpegdodcaaDoor
