/- Which numbers are characters, and which characters a charset has: the program's and the model's functions answer by one plain function each; at every number. -/
import Derived.Test.YtknbndebfickpaaGreatDoorChs0
namespace Go.Proofs.YtknbndebfickpaaGreatDoor
open Go.RowKit

/-- The byte of a cyrillic character, or -1. -/
def cyr (c : Int) : Int := if 0 ≤ c ∧ c ≤ 160 ∨ c = 173 then c else if c = 167 then 253 else if c = 8470 then 240 else if 1025 ≤ c ∧ c ≤ 1119 ∧ c ≠ 1037 ∧ c ≠ 1104 ∧ c ≠ 1117 then c - 864 else -1
theorem cyr_same {c : Int} (h : 0 ≤ c ∧ c ≤ 160 ∨ c = 173) : cyr c = c := if_pos h
theorem cyr_167 : cyr 167 = 253 := by decide
theorem cyr_8470 : cyr 8470 = 240 := by decide
theorem cyr_far {c : Int} (h : 1025 ≤ c ∧ c ≤ 1119 ∧ c ≠ 1037 ∧ c ≠ 1104 ∧ c ≠ 1117) : cyr c = c - 864 := by
  unfold cyr; rw [if_neg (by omega), if_neg (by omega), if_neg (by omega), if_pos h]
theorem cyr_none {c : Int} (h1 : ¬ (0 ≤ c ∧ c ≤ 160 ∨ c = 173)) (h2 : c ≠ 167) (h3 : c ≠ 8470) (h4 : ¬ (1025 ≤ c ∧ c ≤ 1119 ∧ c ≠ 1037 ∧ c ≠ 1104 ∧ c ≠ 1117)) : cyr c = -1 := by
  unfold cyr; rw [if_neg h1, if_neg h2, if_neg h3, if_neg h4]
/-- Has a charset (1 to 5) this character? -/
def hasC (cs c : Int) : Bool := if cs = 1 then decide (c ≤ 127) else if cs = 2 then decide (c ≤ 255) else if cs = 3 then decide (0 ≤ cyr c) else true

theorem singleHas_any (m c : Int) (w : World) : Calls Tryz.prog 129 #[.agg #[.int .i64 m], .int .i64 c] w fun e w' => e = .returned (.bool (decide (c ≤ m))) ∧ Below w.heap.size w w' := by
  go_enter Tryz.func129, Tryz.ntmps129
  go_wp2
  go_ret
  exact ret_boolB rfl ((Below.refl _ _).alloc (Nat.le_refl _) _)
theorem cyr_pos {c : Int} : (0 ≤ cyr c) ↔ (0 ≤ c ∧ c ≤ 160 ∨ c = 173 ∨ c = 167 ∨ c = 8470 ∨ 1025 ≤ c ∧ c ≤ 1119 ∧ c ≠ 1037 ∧ c ≠ 1104 ∧ c ≠ 1117) := by
  unfold cyr
  split
  · omega
  · split
    · omega
    · split
      · omega
      · split <;> omega
set_option maxHeartbeats 1600000 in
theorem cyrHas_any (c : Int) (w : World) (hc : 0 ≤ c) : Calls Tryz.prog 132 #[.agg #[], .int .i64 c] w fun e w' => e = .returned (.bool (decide (0 ≤ cyr c))) ∧ Below w.heap.size w w' := by
  go_enter Tryz.func132, Tryz.ntmps132
  go_wp2
  all_goals (go_ret; refine ret_boolB ?_ ((Below.refl _ _).alloc (Nat.le_refl _) _); rw [Bool.eq_iff_iff]; simp only [decide_eq_true_iff, cyr_pos]; simp at *; try omega)
theorem utf8Has_any (c : Int) (w : World) : Calls Tryz.prog 126 #[.agg #[], .int .i64 c] w fun e w' => e = .returned (.bool true) ∧ Below w.heap.size w w' := by
  go_enter Tryz.func126, Tryz.ntmps126
  go_wp2
  go_ret
  exact ret_boolB rfl ((Below.refl _ _).alloc (Nat.le_refl _) _)
theorem utf16Has_any (c : Int) (w : World) : Calls Tryz.prog 135 #[.agg #[], .int .i64 c] w fun e w' => e = .returned (.bool true) ∧ Below w.heap.size w w' := by
  go_enter Tryz.func135, Tryz.ntmps135
  go_wp2
  go_ret
  exact ret_boolB rfl ((Below.refl _ _).alloc (Nat.le_refl _) _)

/-- A charset's value, if there is one. -/
def csV (cs : Int) : Value := if cs = 1 then .iface 97 (.agg #[.int .i64 127]) else if cs = 2 then .iface 97 (.agg #[.int .i64 255]) else if cs = 3 then .iface 98 (.agg #[]) else if cs = 4 then .iface 89 (.agg #[]) else if cs = 5 then .iface 99 (.agg #[]) else .nilIface
theorem charsetAt_any (cs : Int) (w : World) : Calls Tryz.prog 40 #[.int .i64 cs] w fun e w' => e = .returned (.tuple #[csV cs, .bool (decide (1 ≤ cs ∧ cs ≤ 5))]) ∧ w = w' := by
  go_enter Tryz.func40, Tryz.ntmps40
  go_wp2
  all_goals (go_ret2; simp at *; try subst cs)
  all_goals first | exact ⟨rfl, by omega, by omega⟩ | exact ⟨by unfold csV; simp [*], by omega⟩
end Go.Proofs.YtknbndebfickpaaGreatDoor
