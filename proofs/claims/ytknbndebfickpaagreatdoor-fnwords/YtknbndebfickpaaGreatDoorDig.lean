/- The digit of each number from 0 to 63, as the program's table and the model's text have it: the two are one; the number is 0 to 63. -/
import Derived.Test.YtknbndebfickpaaGreatDoorMath
import Derived.Test.YtknbndebfickpaaGreatDoorByt
import Derived.Handy
namespace Go.Proofs.YtknbndebfickpaaGreatDoor
open Go.RowKit

theorem ret_intD {k : IntKind} {a b : Int} (h : a = b) : Ending.returned (.int k a) = .returned (.int k b) := by rw [h]
theorem base_text (k : Nat) (h : k < 64) : ((⟨#[65, 66, 67, 68, 69, 70, 71, 72, 73, 74, 75, 76, 77, 78, 79, 80, 81, 82, 83, 84, 85, 86, 87, 88, 89, 90, 97, 98, 99, 100, 101, 102, 103, 104, 105, 106, 107, 108, 109, 110, 111, 112, 113, 114, 115, 116, 117, 118, 119, 120, 121, 122, 48, 49, 50, 51, 52, 53, 54, 55, 56, 57, 43, 47]⟩ : ByteArray)[k]'h).toNat = Xf.dig k := by
  have : ∀ k (h : k < 64), ((⟨#[65, 66, 67, 68, 69, 70, 71, 72, 73, 74, 75, 76, 77, 78, 79, 80, 81, 82, 83, 84, 85, 86, 87, 88, 89, 90, 97, 98, 99, 100, 101, 102, 103, 104, 105, 106, 107, 108, 109, 110, 111, 112, 113, 114, 115, 116, 117, 118, 119, 120, 121, 122, 48, 49, 50, 51, 52, 53, 54, 55, 56, 57, 43, 47]⟩ : ByteArray)[k]'h).toNat = Xf.dig k := by decide +kernel
  exact this k h

/-- The table as the row lists it. -/
def tabI : List Int := [65, 66, 67, 68, 69, 70, 71, 72, 73, 74, 75, 76, 77, 78, 79, 80, 81, 82, 83, 84, 85, 86, 87, 88, 89, 90, 97, 98, 99, 100, 101, 102, 103, 104, 105, 106, 107, 108, 109, 110, 111, 112, 113, 114, 115, 116, 117, 118, 119, 120, 121, 122, 48, 49, 50, 51, 52, 53, 54, 55, 56, 57, 43, 47]
theorem tabI_len : tabI.length = 64 := by decide
theorem tabI_get (v : Nat) (h : v < 64) : tabI.getD v 0 = (Xf.dig v : Int) := by
  have : ∀ v, v < 64 → tabI.getD v 0 = (Xf.dig v : Int) := by decide +kernel
  exact this v h
/-- THE TABLE OF DIGITS LIES IN ITS VARIABLE. -/
def TabB (w : World) : Prop := ∀ v, v < 64 → w.cell? ⟨0, v, none⟩ = some (.int .u8 (Xf.dig v : Int))
theorem TabB.below {w w' : World} (h : TabB w) (hb : Below w.heap.size w w') : TabB w' := fun v hv =>
  (hb.cell (p := ⟨0, v, none⟩) (World.block_lt_of_cell? w ⟨0, 0, none⟩ (h 0 (by decide)))).trans (h v hv)

set_option maxHeartbeats 800000 in
set_option maxRecDepth 100000 in
theorem l1Base_any (k : Nat) (h : k < 64) (w : World) : Calls Tryz.prog 64 #[.int .i64 (k : Int)] w fun e w' => e = .returned (.int .u8 (Xf.dig k : Int)) ∧ w' = w := by
  have h' : (k : Int) < 64 := by omega
  go_enter Tryz.func64, Tryz.ntmps64
  go_wp2
  go_ret
  exact ⟨ret_intD (by rw [← base_text k h]), rfl⟩

/-- What BaseDigit answers. -/
def digV (v : Int) : Value := if 0 ≤ v ∧ v ≤ 63 then .agg #[.int .i64 0, .int .i64 (Xf.dig v.toNat : Int)] else .agg #[.int .i64 3, .int .i64 0]
theorem digV_in {v : Int} (h : 0 ≤ v ∧ v ≤ 63) : digV v = .agg #[.int .i64 0, .int .i64 (Xf.dig v.toNat : Int)] := if_pos h
theorem digV_out {v : Int} (h : ¬ (0 ≤ v ∧ v ≤ 63)) : digV v = .agg #[.int .i64 3, .int .i64 0] := if_neg h

/-- A number lies between two others: a plain word, so that no walk opens it. -/
def inD (v a b : Int) : Bool := decide (a ≤ v ∧ v ≤ b)
theorem inD_yes {v a b : Int} (h : a ≤ v ∧ v ≤ b) : inD v a b = true := decide_eq_true h
theorem inD_no {v a b : Int} (h : ¬ (a ≤ v ∧ v ≤ b)) : inD v a b = false := decide_eq_false h
theorem ret_boolD {a b : Bool} (h : a = b) : Ending.returned (.bool a) = .returned (.bool b) := by rw [h]

theorem l1In_dig (v a b : Int) (w : World) : Calls Tryz.prog 61 #[.int .i64 v, .int .i64 a, .int .i64 b] w fun e w' => e = .returned (.bool (inD v a b)) ∧ w' = w := by
  by_cases h1 : a ≤ v
  · by_cases h2 : v ≤ b
    · have H : Hid (inD v a b = true) := inD_yes ⟨h1, h2⟩
      go_enter Tryz.func61, Tryz.ntmps61
      go_wp2
      go_ret
      exact ⟨by rw [H.out]; rfl, rfl⟩
    · have H : Hid (inD v a b = false) := inD_no (fun h => h2 h.2)
      go_enter Tryz.func61, Tryz.ntmps61
      go_wp2
      go_ret
      exact ⟨by rw [H.out]; rfl, rfl⟩
  · have H : Hid (inD v a b = false) := inD_no (fun h => h1 h.1)
    go_enter Tryz.func61, Tryz.ntmps61
    go_wp2
    go_ret
    exact ⟨by rw [H.out]; rfl, rfl⟩

theorem digV_form (v : Int) : ∃ c x : Int, digV v = .agg #[.int .i64 c, .int .i64 x] := by
  by_cases h : 0 ≤ v ∧ v ≤ 63
  · exact ⟨_, _, digV_in h⟩
  · exact ⟨_, _, digV_out h⟩
end Go.Proofs.YtknbndebfickpaaGreatDoor
