/- The lines of a header, the model's: where a line ends, what a line is. -/
import Derived.Test.YtknbndebfickpaaHdr3
namespace Go.Proofs.Ytknbndebfickpaa
open Go.RowKit

/-- A byte that ends no line. -/
def noLf (c : Nat) : Bool := decide (c ≠ 10)
/-- Where a line ends. -/
def eoL (l : List Nat) (i : Nat) : Nat := i + ((l.drop i).takeWhile noLf).length
theorem eoL_step {l : List Nat} {i : Nat} (h : i < l.length) (hc : nth l i ≠ 10) : eoL l i = eoL l (i + 1) := by
  unfold eoL
  rw [drop_cons l i h, List.takeWhile_cons, if_pos (by simp [noLf, hc]), List.length_cons]; omega
theorem eoL_here {l : List Nat} {i : Nat} (h : i < l.length) (hc : nth l i = 10) : eoL l i = i := by
  unfold eoL
  rw [drop_cons l i h, List.takeWhile_cons, if_neg (by simp [noLf, hc])]; rfl
theorem eoL_end {l : List Nat} {i : Nat} (h : l.length ≤ i) : eoL l i = i := by
  unfold eoL
  rw [List.drop_eq_nil_of_le h]; rfl
theorem eoL_ge (l : List Nat) (i : Nat) : i ≤ eoL l i := by unfold eoL; omega
theorem eoL_le {l : List Nat} {i : Nat} (h : i ≤ l.length) : eoL l i ≤ l.length := by
  unfold eoL
  have := (List.takeWhile_sublist noLf (l := l.drop i)).length_le
  rw [List.length_drop] at this; omega

set_option maxHeartbeats 1600000 in
set_option maxRecDepth 100000 in
theorem l4End_any (a : Option Addr) (n cap : Nat) (l : List Nat) (i : Nat) (w : World) (hl : l.length = n) (hr : Rd w a l) (hB : IsB l) (hn : n ≤ 1048576) (hi : i ≤ n) :
    Calls Try.prog 58 #[.slice a n cap, .int .i64 (i : Int)] w fun e w' => e = .returned (.int .i64 (eoL l i : Int)) ∧ w = w' := by
  have HL : Hid (l.length = n) := hl
  clear hl
  go_enter Try.func58, Try.ntmps58
  go_wp2
  go_loop [1] (fun v => ∃ k : Nat, k ≤ n ∧ v = .int .i64 k ∧ eoL l i = eoL l k) (fun v => n - (intOf v).toNat)
  case atStart => exact ⟨i, hi, rfl, rfl⟩
  case round =>
    obtain ⟨k, hk, rfl, hall⟩ := hrel
    have HA : Hid (_) := hall
    clear hall
    by_cases hkn : k < n
    · have hki : (k : Int) < (n : Int) := by omega
      obtain ⟨b, off, rfl, hblt, hcell⟩ := hr.at_ (by have := HL.out; omega)
      have hc := hcell k (by have := HL.out; omega)
      have hx := nth_lt hB k
      by_cases h10 : nth l k = 10
      · have HM : Hid (eoL l i = k) := HA.out.trans (eoL_here (by have := HL.out; omega) h10)
        rw [h10] at hc
        clear hcell
        go_wp2
        go_ret
        exact ⟨by rw [HM.out]; rfl, rfl⟩
      · have HM : Hid (eoL l i = eoL l (k + 1)) := HA.out.trans (eoL_step (by have := HL.out; omega) h10)
        have h10' : ((nth l k : Int) == 10) = false := by simp; omega
        clear hcell
        generalize nth l k = x at *
        go_wp2
        go_round
        case rel => exact ⟨k + 1, by omega, by go_num, HM.out⟩
        case measure => simp [intOf]; omega
    · have hki : ¬ (k : Int) < (n : Int) := by omega
      have HM : Hid (eoL l i = k) := HA.out.trans (eoL_end (by have := HL.out; omega))
      go_wp2
      go_ret
      exact ⟨by rw [HM.out]; rfl, rfl⟩
end Go.Proofs.Ytknbndebfickpaa
