/- Which numbers are characters, and which characters a charset has: the program's and the model's functions answer by one plain function each; at every number. -/
import Derived.Test.YtjkhlkmibajhiaaProg
import Derived.WalkKit
import Derived.Handy
import Derived.Below
namespace Go.Proofs.Ytjkhlkmibajhiaa
open Go.RowKit

/-- A character. -/
def chr (c : Int) : Bool := decide (0 ≤ c ∧ c ≤ 65535 ∧ (c < 55296 ∨ 57343 < c))
theorem chr_iff {c : Int} : chr c = true ↔ (0 ≤ c ∧ c ≤ 65535 ∧ (c < 55296 ∨ 57343 < c)) := decide_eq_true_iff
theorem chr_no {c : Int} (h : ¬ (0 ≤ c ∧ c ≤ 65535 ∧ (c < 55296 ∨ 57343 < c))) : chr c = false := decide_eq_false h
theorem ret_bool {b b' : Bool} {w : World} (h : b = b') : Ending.returned (Value.bool b) = .returned (.bool b') ∧ w = w := ⟨by rw [h], rfl⟩
theorem ret_int {b b' : Int} {w : World} (h : b = b') : Ending.returned (Value.int .i64 b) = .returned (.int .i64 b') ∧ w = w := ⟨by rw [h], rfl⟩

theorem ret_boolB {b b' : Bool} {w w' : World} {n : Nat} (h : b = b') (hb : Below n w w') : Ending.returned (Value.bool b) = .returned (.bool b') ∧ Below n w w' := ⟨by rw [h], hb⟩

theorem isCharacter_any (c : Int) (w : World) : Calls Try.prog 57 #[.int .i64 c] w fun e w' => e = .returned (.bool (chr c)) ∧ w = w' := by
  go_enter Try.func57, Try.ntmps57
  go_wp2
  all_goals (go_ret; refine ret_bool ?_; rw [Bool.eq_iff_iff, chr_iff]; simp; try omega)

theorem l1In_any (c a b : Int) (w : World) : Calls Try.prog 75 #[.int .i64 c, .int .i64 a, .int .i64 b] w fun e w' => e = .returned (.bool (decide (a ≤ c ∧ c ≤ b))) ∧ w = w' := by
  go_enter Try.func75, Try.ntmps75
  go_wp2
  all_goals (go_ret; refine ret_bool ?_; rw [Bool.eq_iff_iff]; simp; try omega)

theorem l2Char_any (c : Int) (w : World) : Calls Try.prog 60 #[.int .i64 c] w fun e w' => e = .returned (.bool (chr c)) ∧ w = w' := by
  go_enter Try.func60, Try.ntmps60
  go_wp2_with (first | (go_at_call 75; refine (l1In_any _ _ _ _).mono ?_; rintro e w' ⟨rfl, rfl⟩))
  all_goals (go_ret; refine ret_bool ?_; rw [Bool.eq_iff_iff, chr_iff]; simp; try omega)

/-- The byte of a cyrillic character, or -1. -/
def cyr (c : Int) : Int := if 0 ≤ c ∧ c ≤ 160 ∨ c = 173 then c else if c = 167 then 253 else if c = 8470 then 240 else if 1025 ≤ c ∧ c ≤ 1119 ∧ c ≠ 1037 ∧ c ≠ 1104 ∧ c ≠ 1117 then c - 864 else -1
theorem cyr_same {c : Int} (h : 0 ≤ c ∧ c ≤ 160 ∨ c = 173) : cyr c = c := if_pos h
theorem cyr_167 : cyr 167 = 253 := by decide
theorem cyr_8470 : cyr 8470 = 240 := by decide
theorem cyr_far {c : Int} (h : 1025 ≤ c ∧ c ≤ 1119 ∧ c ≠ 1037 ∧ c ≠ 1104 ∧ c ≠ 1117) : cyr c = c - 864 := by
  unfold cyr; rw [if_neg (by omega), if_neg (by omega), if_neg (by omega), if_pos h]
theorem cyr_none {c : Int} (h1 : ¬ (0 ≤ c ∧ c ≤ 160 ∨ c = 173)) (h2 : c ≠ 167) (h3 : c ≠ 8470) (h4 : ¬ (1025 ≤ c ∧ c ≤ 1119 ∧ c ≠ 1037 ∧ c ≠ 1104 ∧ c ≠ 1117)) : cyr c = -1 := by
  unfold cyr; rw [if_neg h1, if_neg h2, if_neg h3, if_neg h4]
/-- Has a charset (1 to 5) this character? -/
def hasC (cs c : Int) : Bool := if cs = 1 then decide (c ≤ 127) else if cs = 2 then decide (c ≤ 255) else if cs = 3 then decide (0 ≤ cyr c) else true

theorem singleHas_any (m c : Int) (w : World) : Calls Try.prog 107 #[.agg #[.int .i64 m], .int .i64 c] w fun e w' => e = .returned (.bool (decide (c ≤ m))) ∧ Below w.heap.size w w' := by
  go_enter Try.func107, Try.ntmps107
  go_wp2
  go_ret
  exact ret_boolB rfl ((Below.refl _ _).alloc (Nat.le_refl _) _)
theorem cyr_pos {c : Int} : (0 ≤ cyr c) ↔ (0 ≤ c ∧ c ≤ 160 ∨ c = 173 ∨ c = 167 ∨ c = 8470 ∨ 1025 ≤ c ∧ c ≤ 1119 ∧ c ≠ 1037 ∧ c ≠ 1104 ∧ c ≠ 1117) := by
  unfold cyr
  split
  · omega
  · split
    · omega
    · split
      · omega
      · split <;> omega
set_option maxHeartbeats 1600000 in
theorem cyrHas_any (c : Int) (w : World) (hc : 0 ≤ c) : Calls Try.prog 110 #[.agg #[], .int .i64 c] w fun e w' => e = .returned (.bool (decide (0 ≤ cyr c))) ∧ Below w.heap.size w w' := by
  go_enter Try.func110, Try.ntmps110
  go_wp2
  all_goals (go_ret; refine ret_boolB ?_ ((Below.refl _ _).alloc (Nat.le_refl _) _); rw [Bool.eq_iff_iff]; simp only [decide_eq_true_iff, cyr_pos]; simp at *; try omega)
theorem utf8Has_any (c : Int) (w : World) : Calls Try.prog 113 #[.agg #[], .int .i64 c] w fun e w' => e = .returned (.bool true) ∧ Below w.heap.size w w' := by
  go_enter Try.func113, Try.ntmps113
  go_wp2
  go_ret
  exact ret_boolB rfl ((Below.refl _ _).alloc (Nat.le_refl _) _)
theorem utf16Has_any (c : Int) (w : World) : Calls Try.prog 116 #[.agg #[], .int .i64 c] w fun e w' => e = .returned (.bool true) ∧ Below w.heap.size w w' := by
  go_enter Try.func116, Try.ntmps116
  go_wp2
  go_ret
  exact ret_boolB rfl ((Below.refl _ _).alloc (Nat.le_refl _) _)

/-- A charset's value, if there is one. -/
def csV (cs : Int) : Value := if cs = 1 then .iface 88 (.agg #[.int .i64 127]) else if cs = 2 then .iface 88 (.agg #[.int .i64 255]) else if cs = 3 then .iface 90 (.agg #[]) else if cs = 4 then .iface 91 (.agg #[]) else if cs = 5 then .iface 92 (.agg #[]) else .nilIface
theorem charsetAt_any (cs : Int) (w : World) : Calls Try.prog 51 #[.int .i64 cs] w fun e w' => e = .returned (.tuple #[csV cs, .bool (decide (1 ≤ cs ∧ cs ≤ 5))]) ∧ w = w' := by
  go_enter Try.func51, Try.ntmps51
  go_wp2
  all_goals (go_ret2; simp at *; try subst cs)
  all_goals first | exact ⟨rfl, by omega, by omega⟩ | exact ⟨by unfold csV; simp [*], by omega⟩
end Go.Proofs.Ytjkhlkmibajhiaa
