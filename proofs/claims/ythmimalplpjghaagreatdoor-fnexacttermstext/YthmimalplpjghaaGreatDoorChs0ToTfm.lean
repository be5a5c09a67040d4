/- Which numbers are characters, and which lie between two others: plain functions; at every number · The fault of terms, in plain words: what a term's kind has, its bounds, where its parts stand; no program in it. -/
import Derived.Test.YthmimalplpjghaaGreatDoorProg
import Derived.WalkKit
import Derived.Handy
import Derived.Below
import Derived.Test.YthmimalplpjghaaGreatDoorTmo
import Derived.Test.YthmimalplpjghaaGreatDoorYft
namespace Go.Proofs.YthmimalplpjghaaGreatDoor
open Go.RowKit

/-- A character. -/
def chr (c : Int) : Bool := decide (0 ≤ c ∧ c ≤ 65535 ∧ (c < 55296 ∨ 57343 < c))
theorem chr_iff {c : Int} : chr c = true ↔ (0 ≤ c ∧ c ≤ 65535 ∧ (c < 55296 ∨ 57343 < c)) := decide_eq_true_iff
theorem ret_bool {b b' : Bool} {w : World} (h : b = b') : Ending.returned (Value.bool b) = .returned (.bool b') ∧ w = w := ⟨by rw [h], rfl⟩
theorem ret_int {b b' : Int} {w : World} (h : b = b') : Ending.returned (Value.int .i64 b) = .returned (.int .i64 b') ∧ w = w := ⟨by rw [h], rfl⟩

theorem ret_boolB {b b' : Bool} {w w' : World} {n : Nat} (h : b = b') (hb : Below n w w') : Ending.returned (Value.bool b) = .returned (.bool b') ∧ Below n w w' := ⟨by rw [h], hb⟩

theorem isCharacter_any (c : Int) (w : World) : Calls Tryz.prog 187 #[.int .i64 c] w fun e w' => e = .returned (.bool (chr c)) ∧ w = w' := by
  go_enter Tryz.func187, Tryz.ntmps187
  go_wp2
  all_goals (go_ret; refine ret_bool ?_; rw [Bool.eq_iff_iff, chr_iff]; simp; try omega)

theorem l1In_any (c a b : Int) (w : World) : Calls Tryz.prog 69 #[.int .i64 c, .int .i64 a, .int .i64 b] w fun e w' => e = .returned (.bool (decide (a ≤ c ∧ c ≤ b))) ∧ w = w' := by
  go_enter Tryz.func69, Tryz.ntmps69
  go_wp2
  all_goals (go_ret; refine ret_bool ?_; rw [Bool.eq_iff_iff]; simp; try omega)

theorem l2Char_any (c : Int) (w : World) : Calls Tryz.prog 223 #[.int .i64 c] w fun e w' => e = .returned (.bool (chr c)) ∧ w = w' := by
  go_enter Tryz.func223, Tryz.ntmps223
  go_wp2_with (first | (go_at_call 69; refine (l1In_any _ _ _ _).mono ?_; rintro e w' ⟨rfl, rfl⟩))
  all_goals (go_ret; refine ret_bool ?_; rw [Bool.eq_iff_iff, chr_iff]; simp; try omega)
end Go.Proofs.YthmimalplpjghaaGreatDoor

namespace Go.Proofs.YthmimalplpjghaaGreatDoor
open Go.RowKit

/-- It has characters. -/
def hcK (k : Int) : Bool := decide (k = 6) || decide (k = 7)
/-- It is of two. -/
def twK (k : Int) : Bool := decide (k = 10) || decide (k = 11)
/-- It is of a kind, and has nothing that its kind has not. -/
def fmT (o : TmR) : Bool := bty o.k 1 11 && ((bty o.k 2 5 || decide (o.n = 0)) && ((hcK o.k || decide (o.c = [])) && ((decide (o.k = 8) || decide (o.y = [])) && ((twK o.k || decide (o.r = 0)) && (decide (9 ≤ o.k) || decide (o.l = 0))))))
/-- One flag. -/
def ofB (n : Int) : Bool := decide (n = 1) || (decide (n = 2) || (decide (n = 4) || decide (n = 8)))
/-- A character that is looked for. -/
def lkC (c : Int) : Bool := chr c && (decide (32 < c) && decide (c ≠ 127))
def cdB (c : List Int) : Bool := bty (c.length : Int) 1 20 && c.all lkC
/-- Its number, its characters are as its kind asks. -/
def bdT (o : TmR) : Bool := if o.k = 2 then ofB o.n else if o.k = 3 ∨ o.k = 4 then bty o.n 0 9999 else if o.k = 5 then bty o.n 0 400 else if o.k = 6 ∨ o.k = 7 then cdB o.c else true
def vlT (o : TmR) : Int := if o.k = 8 then rfV o.y else if bdT o then 0 else 3
/-- Its own fault. -/
def owF (o : TmR) : Int := if fmT o then vlT o else 1
/-- The places of what it is of. -/
def plT (o : TmR) : List Int := if o.k = 9 then [o.l] else if twK o.k then [o.l, o.r] else []
end Go.Proofs.YthmimalplpjghaaGreatDoor
