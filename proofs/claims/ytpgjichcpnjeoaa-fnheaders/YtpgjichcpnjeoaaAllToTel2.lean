/- areAll, at each function that it is handed: whether each number is so; slices of at most 1048576 numbers · The bytes of a character by each charset: the program's and the model's functions lay the same; characters that the charset has · tellAll, at each charset's function: the bytes of all characters, one behind the other; at most 400 characters that the charset has. -/
import Derived.Test.YtpgjichcpnjeoaaAppI
import Derived.Test.YtpgjichcpnjeoaaDrl2ToChs2
import Derived.Test.YtpgjichcpnjeoaaApp
import Derived.Laws.BitsAllLaws
namespace Go.Proofs.Ytpgjichcpnjeoaa
open Go.RowKit

theorem all_bad {p : Int → Bool} {l : List Int} {k : Nat} (h : k < l.length) (hb : p (nthI l k) = false) : l.all p = false := by
  rw [List.all_eq_false]
  exact ⟨nthI l k, by rw [nthI_get h]; exact List.getElem_mem h, by rw [hb]; simp⟩
theorem all_step {p : Int → Bool} {l : List Int} {k : Nat} (h : k < l.length) (h0 : (l.take k).all p = true) (hb : p (nthI l k) = true) : (l.take (k + 1)).all p = true := by
  rw [take_snocI l k h, List.all_append, h0]
  simp [hb]
theorem all_end {p : Int → Bool} {l : List Int} {n : Nat} (hl : l.length = n) (h0 : (l.take n).all p = true) : l.all p = true := by
  rw [← hl, List.take_length] at h0
  exact h0
theorem nthI_mem {l : List Int} {k : Nat} (h : k < l.length) : nthI l k ∈ l := by rw [nthI_get h]; exact List.getElem_mem h


def leB (m c : Int) : Bool := decide (c ≤ m)
def cyB (c : Int) : Bool := decide (0 ≤ cyr c)
def anyB (_ : Int) : Bool := true
end Go.Proofs.Ytpgjichcpnjeoaa

namespace Go.Proofs.Ytpgjichcpnjeoaa
open Go.RowKit

theorem ofInt_i64 (a : Nat) (ha : a < 4611686018427387904) : (BitVec.ofInt 64 (a : Int)).toNat = a := by
  rw [BitVec.ofInt_natCast, BitVec.toNat_ofNat]; exact Nat.mod_eq_of_lt (by omega)
theorem i64_and_nat (a b : Nat) (ha : a < 4611686018427387904) (hb : b < 4611686018427387904) : bits .and .i64 (a : Int) (b : Int) = ((a &&& b : Nat) : Int) := by
  have hx : a &&& b < 2 ^ 62 := Nat.and_lt_two_pow _ (by omega)
  show IntKind.i64.wrap ((BitVec.ofInt 64 (a : Int) &&& BitVec.ofInt 64 (b : Int)).toNat : Int) = _
  rw [BitVec.toNat_and, ofInt_i64 a ha, ofInt_i64 b hb]
  exact IntWalk.i64_in _ (by omega)
theorem i64_or_nat (a b : Nat) (ha : a < 4611686018427387904) (hb : b < 4611686018427387904) : bits .or .i64 (a : Int) (b : Int) = ((a ||| b : Nat) : Int) := by
  have hx : a ||| b < 2 ^ 62 := Nat.or_lt_two_pow (by omega) (by omega)
  show IntKind.i64.wrap ((BitVec.ofInt 64 (a : Int) ||| BitVec.ofInt 64 (b : Int)).toNat : Int) = _
  rw [BitVec.toNat_or, ofInt_i64 a ha, ofInt_i64 b hb]
  exact IntWalk.i64_in _ (by omega)
theorem i64_and63 (a : Nat) (ha : a < 65536) : bits .and .i64 (a : Int) 63 = ((a % 64 : Nat) : Int) := by
  have := i64_and_nat a 63 (by omega) (by omega)
  rw [Nat.and_two_pow_sub_one_eq_mod a 6] at this
  exact this
theorem or_add (x y m : Nat) (h : y < 2 ^ m) : (x * 2 ^ m) ||| y = x * 2 ^ m + y := by
  have h := Nat.shiftLeft_add_eq_or_of_lt h x
  rw [Nat.shiftLeft_eq] at h
  exact h.symm
theorem i64_or192 (y : Nat) (h : y < 32) : bits .or .i64 192 (y : Int) = ((192 + y : Nat) : Int) := by
  have := i64_or_nat 192 y (by omega) (by omega)
  rw [show (192 : Nat) = 6 * 2 ^ 5 from rfl, or_add 6 y 5 (by omega)] at this
  exact this
theorem i64_or128 (y : Nat) (h : y < 64) : bits .or .i64 128 (y : Int) = ((128 + y : Nat) : Int) := by
  have := i64_or_nat 128 y (by omega) (by omega)
  rw [show (128 : Nat) = 2 * 2 ^ 6 from rfl, or_add 2 y 6 (by omega)] at this
  exact this
theorem i64_or224 (y : Nat) (h : y < 16) : bits .or .i64 224 (y : Int) = ((224 + y : Nat) : Int) := by
  have := i64_or_nat 224 y (by omega) (by omega)
  rw [show (224 : Nat) = 14 * 2 ^ 4 from rfl, or_add 14 y 4 (by omega)] at this
  exact this

/-- The bytes of a character in utf-8. -/
def u8L (k : Nat) : List Nat := if k < 128 then [k] else if k < 2048 then [192 + k / 64, 128 + k % 64] else [224 + k / 4096, 128 + k / 64 % 64, 128 + k % 64]
theorem u8L_one {k : Nat} (h : k < 128) : u8L k = [k] := if_pos h
theorem u8L_two {k : Nat} (h : ¬ k < 128) (h2 : k < 2048) : u8L k = [192 + k / 64, 128 + k % 64] := by unfold u8L; rw [if_neg h, if_pos h2]
theorem u8L_three {k : Nat} (h : ¬ k < 128) (h2 : ¬ k < 2048) : u8L k = [224 + k / 4096, 128 + k / 64 % 64, 128 + k % 64] := by unfold u8L; rw [if_neg h, if_neg h2]
/-- The bytes of a character that a charset has. -/
def tellL (cs c : Int) : List Nat := if cs = 3 then [(cyr c).toNat] else if cs = 4 then u8L c.toNat else if cs = 5 then [c.toNat / 256, c.toNat % 256] else [c.toNat]

/-- What a call that lays bytes behind others leaves. -/
def Laid (B : Nat) (l : List Nat) (w : World) (e : Ending) (w' : World) : Prop := ∃ v', e = .returned v' ∧ Own w' B v' l ∧ Below B w w'

end Go.Proofs.Ytpgjichcpnjeoaa

namespace Go.Proofs.Ytpgjichcpnjeoaa
open Go.RowKit

theorem flat_step {f : Int → List Nat} {l : List Int} {k : Nat} (h : k < l.length) : (l.take (k + 1)).flatMap f = (l.take k).flatMap f ++ f (nthI l k) := by
  rw [take_snocI l k h, List.flatMap_append]; simp
theorem flat_end {f : Int → List Nat} {l : List Int} {n : Nat} (h : l.length = n) : (l.take n).flatMap f = l.flatMap f := by rw [← h, List.take_length]
theorem u8L_len (k : Nat) : 1 ≤ (u8L k).length ∧ (u8L k).length ≤ 3 := by
  unfold u8L; split
  · simp
  · split <;> simp
theorem tellL_len (cs c : Int) : 1 ≤ (tellL cs c).length ∧ (tellL cs c).length ≤ 3 := by
  unfold tellL; split
  · simp
  · split
    · exact u8L_len _
    · split <;> simp
theorem flat_len (cs : Int) : ∀ l : List Int, l.length ≤ (l.flatMap (tellL cs)).length ∧ (l.flatMap (tellL cs)).length ≤ 3 * l.length
  | [] => by simp
  | c :: l => by
    have h1 := tellL_len cs c
    have h2 := flat_len cs l
    rw [List.flatMap_cons, List.length_append, List.length_cons]
    omega
theorem tellL_1 (c : Int) : tellL 1 c = [c.toNat] := by simp [tellL]
theorem tellL_2 (c : Int) : tellL 2 c = [c.toNat] := by simp [tellL]
theorem tellL_3 (c : Int) : tellL 3 c = [(cyr c).toNat] := by simp [tellL]
theorem tellL_4 (c : Int) : tellL 4 c = u8L c.toNat := by simp [tellL]
theorem tellL_5 (c : Int) : tellL 5 c = [c.toNat / 256, c.toNat % 256] := by simp [tellL]


end Go.Proofs.Ytpgjichcpnjeoaa
