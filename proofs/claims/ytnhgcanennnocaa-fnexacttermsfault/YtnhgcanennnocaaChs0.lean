/- Which numbers are characters, and which lie between two others: plain functions; at every number. -/
import Derived.Test.YtnhgcanennnocaaProg
import Derived.WalkKit
import Derived.Handy
import Derived.Below
namespace Go.Proofs.Ytnhgcanennnocaa
open Go.RowKit

/-- A character. -/
def chr (c : Int) : Bool := decide (0 ≤ c ∧ c ≤ 65535 ∧ (c < 55296 ∨ 57343 < c))
theorem chr_iff {c : Int} : chr c = true ↔ (0 ≤ c ∧ c ≤ 65535 ∧ (c < 55296 ∨ 57343 < c)) := decide_eq_true_iff
theorem chr_no {c : Int} (h : ¬ (0 ≤ c ∧ c ≤ 65535 ∧ (c < 55296 ∨ 57343 < c))) : chr c = false := decide_eq_false h
theorem ret_bool {b b' : Bool} {w : World} (h : b = b') : Ending.returned (Value.bool b) = .returned (.bool b') ∧ w = w := ⟨by rw [h], rfl⟩
theorem ret_int {b b' : Int} {w : World} (h : b = b') : Ending.returned (Value.int .i64 b) = .returned (.int .i64 b') ∧ w = w := ⟨by rw [h], rfl⟩

theorem ret_boolB {b b' : Bool} {w w' : World} {n : Nat} (h : b = b') (hb : Below n w w') : Ending.returned (Value.bool b) = .returned (.bool b') ∧ Below n w w' := ⟨by rw [h], hb⟩

theorem isCharacter_any (c : Int) (w : World) : Calls Try.prog 54 #[.int .i64 c] w fun e w' => e = .returned (.bool (chr c)) ∧ w = w' := by
  go_enter Try.func54, Try.ntmps54
  go_wp2
  all_goals (go_ret; refine ret_bool ?_; rw [Bool.eq_iff_iff, chr_iff]; simp; try omega)

theorem l1In_any (c a b : Int) (w : World) : Calls Try.prog 37 #[.int .i64 c, .int .i64 a, .int .i64 b] w fun e w' => e = .returned (.bool (decide (a ≤ c ∧ c ≤ b))) ∧ w = w' := by
  go_enter Try.func37, Try.ntmps37
  go_wp2
  all_goals (go_ret; refine ret_bool ?_; rw [Bool.eq_iff_iff]; simp; try omega)

theorem l2Char_any (c : Int) (w : World) : Calls Try.prog 49 #[.int .i64 c] w fun e w' => e = .returned (.bool (chr c)) ∧ w = w' := by
  go_enter Try.func49, Try.ntmps49
  go_wp2_with (first | (go_at_call 37; refine (l1In_any _ _ _ _).mono ?_; rintro e w' ⟨rfl, rfl⟩))
  all_goals (go_ret; refine ret_bool ?_; rw [Bool.eq_iff_iff, chr_iff]; simp; try omega)
end Go.Proofs.Ytnhgcanennnocaa
