/- Which numbers are characters, and which lie between two others: plain functions; at every number · Which numbers are characters, and which characters a charset has: the program's and the model's functions answer by one plain function each; at every number · HasChar, the program's and the model's, at every charset and number: both by one plain function · areAll, at each function that it is handed: whether each number is so; slices of at most 1048576 numbers · The bytes of a character by each charset: the program's and the model's functions lay the same; characters that the charset has · tellAll, at each charset's function: the bytes of all characters, one behind the other; at most 400 characters that the charset has. -/
import Derived.Test.YtdcgihcjiiemdaaDoorProg
import Derived.WalkKit
import Derived.Handy
import Derived.Below
import Derived.Test.YtdcgihcjiiemdaaDoorDrw2ToAppI
import Derived.Test.YtdcgihcjiiemdaaDoorMemToApp
import Derived.Laws.BitsAllLaws
namespace Go.Proofs.YtdcgihcjiiemdaaDoor
open Go.RowKit
def chr (c : Int) : Bool := decide (0 ≤ c ∧ c ≤ 65535 ∧ (c < 55296 ∨ 57343 < c))
theorem chr_iff {c : Int} : chr c = true ↔ (0 ≤ c ∧ c ≤ 65535 ∧ (c < 55296 ∨ 57343 < c)) := decide_eq_true_iff
theorem ret_bool {b b' : Bool} {w : World} (h : b = b') : Ending.returned (Value.bool b) = .returned (.bool b') ∧ w = w := ⟨by rw [h], rfl⟩
theorem ret_int {b b' : Int} {w : World} (h : b = b') : Ending.returned (Value.int .i64 b) = .returned (.int .i64 b') ∧ w = w := ⟨by rw [h], rfl⟩
theorem l1In_any (c a b : Int) (w : World) : Calls Tryd.prog 57 #[.int .i64 c, .int .i64 a, .int .i64 b] w fun e w' => e = .returned (.bool (decide (a ≤ c ∧ c ≤ b))) ∧ w = w' := by
 go_enter Tryd.func57, Tryd.ntmps57
 go_wp2
 all_goals (go_ret; refine ret_bool ?_; rw [Bool.eq_iff_iff]; simp; try omega)
end Go.Proofs.YtdcgihcjiiemdaaDoor
namespace Go.Proofs.YtdcgihcjiiemdaaDoor
open Go.RowKit
def cyr (c : Int) : Int := if 0 ≤ c ∧ c ≤ 160 ∨ c = 173 then c else if c = 167 then 253 else if c = 8470 then 240 else if 1025 ≤ c ∧ c ≤ 1119 ∧ c ≠ 1037 ∧ c ≠ 1104 ∧ c ≠ 1117 then c - 864 else -1
theorem cyr_same {c : Int} (h : 0 ≤ c ∧ c ≤ 160 ∨ c = 173) : cyr c = c := if_pos h
theorem cyr_167 : cyr 167 = 253 := by decide
theorem cyr_8470 : cyr 8470 = 240 := by decide
theorem cyr_far {c : Int} (h : 1025 ≤ c ∧ c ≤ 1119 ∧ c ≠ 1037 ∧ c ≠ 1104 ∧ c ≠ 1117) : cyr c = c - 864 := by
 unfold cyr; rw [if_neg (by omega), if_neg (by omega), if_neg (by omega), if_pos h]
theorem cyr_none {c : Int} (h1 : ¬ (0 ≤ c ∧ c ≤ 160 ∨ c = 173)) (h2 : c ≠ 167) (h3 : c ≠ 8470) (h4 : ¬ (1025 ≤ c ∧ c ≤ 1119 ∧ c ≠ 1037 ∧ c ≠ 1104 ∧ c ≠ 1117)) : cyr c = -1 := by
 unfold cyr; rw [if_neg h1, if_neg h2, if_neg h3, if_neg h4]
def hasC (cs c : Int) : Bool := if cs = 1 then decide (c ≤ 127) else if cs = 2 then decide (c ≤ 255) else if cs = 3 then decide (0 ≤ cyr c) else true
theorem cyr_pos {c : Int} : (0 ≤ cyr c) ↔ (0 ≤ c ∧ c ≤ 160 ∨ c = 173 ∨ c = 167 ∨ c = 8470 ∨ 1025 ≤ c ∧ c ≤ 1119 ∧ c ≠ 1037 ∧ c ≠ 1104 ∧ c ≠ 1117) := by
 unfold cyr
 split
 ·omega
 ·split
  ·omega
  ·split
   ·omega
   ·split <;> omega
end Go.Proofs.YtdcgihcjiiemdaaDoor
namespace Go.Proofs.YtdcgihcjiiemdaaDoor
open Go.RowKit
theorem cs_cases {cs : Int} (h : 1 ≤ cs ∧ cs ≤ 5) : cs = 1 ∨ cs = 2 ∨ cs = 3 ∨ cs = 4 ∨ cs = 5 := by omega
set_option maxHeartbeats 1600000 in
theorem l2Cyrillic_any (c : Int) (w : World) : Calls Tryd.prog 83 #[.int .i64 c] w fun e w' => e = .returned (.int .i64 (cyr c)) ∧ w = w' := by
 by_cases h1 : 0 ≤ c ∧ c ≤ 160
 ·have h1' : decide (0 ≤ c ∧ c ≤ 160) = true := decide_eq_true h1
  rw [cyr_same (.inl h1)]
  go_enter Tryd.func83, Tryd.ntmps83
  go_wp2_with (first | (go_at_call 57; refine (l1In_any _ _ _ _).mono ?_; rintro e w' ⟨rfl, rfl⟩; rw [h1']))
  go_ret
  exact ret_int rfl
 ·have h1' : decide (0 ≤ c ∧ c ≤ 160) = false := decide_eq_false h1
  by_cases h2 : c = 173
  ·subst h2
   rw [cyr_same (.inr rfl)]
   go_enter Tryd.func83, Tryd.ntmps83
   go_wp2_with (first | (go_at_call 57; refine (l1In_any _ _ _ _).mono ?_; rintro e w' ⟨rfl, rfl⟩; rw [h1']))
   go_ret
   exact ret_int rfl
  ·by_cases h3 : c = 167
   ·subst h3
    rw [cyr_167]
    go_enter Tryd.func83, Tryd.ntmps83
    go_wp2_with (first | (go_at_call 57; refine (l1In_any _ _ _ _).mono ?_; rintro e w' ⟨rfl, rfl⟩; rw [h1']))
    go_ret
    exact ret_int rfl
   ·by_cases h4 : c = 8470
    ·subst h4
     rw [cyr_8470]
     go_enter Tryd.func83, Tryd.ntmps83
     go_wp2_with (first | (go_at_call 57; refine (l1In_any _ _ _ _).mono ?_; rintro e w' ⟨rfl, rfl⟩; rw [h1']))
     go_ret
     exact ret_int rfl
    ·by_cases h5 : 1025 ≤ c ∧ c ≤ 1119
     ·have h5' : decide (1025 ≤ c ∧ c ≤ 1119) = true := decide_eq_true h5
      by_cases h6 : c ≠ 1037 ∧ c ≠ 1104 ∧ c ≠ 1117
      ·obtain ⟨h61, h62, h63⟩ := h6
       have H : Hid (cyr c = c - 864) := cyr_far ⟨h5.1, h5.2, h61, h62, h63⟩
       rw [H.out]
       clear H
       have e1 : (c != 1037) = true := by simpa using h61
       have e2 : (c != 1104) = true := by simpa using h62
       have e3 : (c != 1117) = true := by simpa using h63
       go_enter Tryd.func83, Tryd.ntmps83
       go_wp2_with (first | (go_at_call 57; refine (l1In_any _ _ _ _).mono ?_; rintro e w' ⟨rfl, rfl⟩; first | rw [h1'] | rw [h5']))
       go_ret
       exact ret_int rfl
      ·have H : Hid (cyr c = -1) := cyr_none (by omega) h3 h4 (by omega)
       rw [H.out]
       clear H
       have h7 : c = 1037 ∨ c = 1104 ∨ c = 1117 := by omega
       clear h1 h5 h6
       rcases h7 with rfl | rfl | rfl
       all_goals
        go_enter Tryd.func83, Tryd.ntmps83
        go_wp2_with (first | (go_at_call 57; refine (l1In_any _ _ _ _).mono ?_; rintro e w' ⟨rfl, rfl⟩; first | rw [h1'] | rw [h5']))
        go_ret
        exact ret_int rfl
     ·have h5' : decide (1025 ≤ c ∧ c ≤ 1119) = false := decide_eq_false h5
      have H : Hid (cyr c = -1) := cyr_none (by omega) h3 h4 (by omega)
      rw [H.out]
      clear H
      go_enter Tryd.func83, Tryd.ntmps83
      go_wp2_with (first | (go_at_call 57; refine (l1In_any _ _ _ _).mono ?_; rintro e w' ⟨rfl, rfl⟩; first | rw [h1'] | rw [h5']))
      go_ret
      exact ret_int rfl
set_option maxHeartbeats 1600000 in
theorem l2Has_any (cs c : Int) (w : World) (h0 : 0 ≤ c) : Calls Tryd.prog 79 #[.int .i64 cs, .int .i64 c] w fun e w' => e = .returned (.bool (hasC cs c)) ∧ w = w' := by
 by_cases h1 : cs = 1
 ·subst h1
  go_enter Tryd.func79, Tryd.ntmps79
  go_wp2_with (first | (go_at_call 57; refine (l1In_any _ _ _ _).mono ?_; rintro e w' ⟨rfl, rfl⟩))
  go_ret
  refine ret_bool ?_
  simp [hasC]
 ·by_cases h2 : cs = 2
  ·subst h2
   go_enter Tryd.func79, Tryd.ntmps79
   go_wp2_with (first | (go_at_call 57; refine (l1In_any _ _ _ _).mono ?_; rintro e w' ⟨rfl, rfl⟩))
   go_ret
   refine ret_bool ?_
   simp [hasC]
  ·by_cases h3 : cs = 3
   ·subst h3
    go_enter Tryd.func79, Tryd.ntmps79
    go_wp2_with (first | (go_at_call 83; refine (l2Cyrillic_any _ _).mono ?_; rintro e w' ⟨rfl, rfl⟩))
    go_ret
    refine ret_bool ?_
    simp [hasC]
   ·have H : Hid (hasC cs c = true) := by unfold Hid hasC; rw [if_neg h1, if_neg h2, if_neg h3]
    rw [H.out]
    clear H
    go_enter Tryd.func79, Tryd.ntmps79
    go_wp2
    go_ret
    exact ret_bool rfl
end Go.Proofs.YtdcgihcjiiemdaaDoor
namespace Go.Proofs.YtdcgihcjiiemdaaDoor
open Go.RowKit
theorem all_bad {p : Int → Bool} {l : List Int} {k : Nat} (h : k < l.length) (hb : p (nthI l k) = false) : l.all p = false := by
 rw [List.all_eq_false]
 exact ⟨nthI l k, by rw [nthI_get h]; exact List.getElem_mem h, by rw [hb]; simp⟩
theorem all_step {p : Int → Bool} {l : List Int} {k : Nat} (h : k < l.length) (h0 : (l.take k).all p = true) (hb : p (nthI l k) = true) : (l.take (k + 1)).all p = true := by
 rw [take_snocI l k h, List.all_append, h0]
 simp [hb]
theorem all_end {p : Int → Bool} {l : List Int} {n : Nat} (hl : l.length = n) (h0 : (l.take n).all p = true) : l.all p = true := by
 rw [← hl, List.take_length] at h0
 exact h0
theorem nthI_mem {l : List Int} {k : Nat} (h : k < l.length) : nthI l k ∈ l := by rw [nthI_get h]; exact List.getElem_mem h
def cyB (c : Int) : Bool := decide (0 ≤ cyr c)
end Go.Proofs.YtdcgihcjiiemdaaDoor
namespace Go.Proofs.YtdcgihcjiiemdaaDoor
open Go.RowKit
def u8L (k : Nat) : List Nat := if k < 128 then [k] else if k < 2048 then [192 + k / 64, 128 + k % 64] else [224 + k / 4096, 128 + k / 64 % 64, 128 + k % 64]
theorem u8L_one {k : Nat} (h : k < 128) : u8L k = [k] := if_pos h
theorem u8L_two {k : Nat} (h : ¬ k < 128) (h2 : k < 2048) : u8L k = [192 + k / 64, 128 + k % 64] := by unfold u8L; rw [if_neg h, if_pos h2]
theorem u8L_three {k : Nat} (h : ¬ k < 128) (h2 : ¬ k < 2048) : u8L k = [224 + k / 4096, 128 + k / 64 % 64, 128 + k % 64] := by unfold u8L; rw [if_neg h, if_neg h2]
def tellL (cs c : Int) : List Nat := if cs = 3 then [(cyr c).toNat] else if cs = 4 then u8L c.toNat else if cs = 5 then [c.toNat / 256, c.toNat % 256] else [c.toNat]
def Laid (B : Nat) (l : List Nat) (w : World) (e : Ending) (w' : World) : Prop := ∃ v', e = .returned v' ∧ Own w' B v' l ∧ Below B w w'
end Go.Proofs.YtdcgihcjiiemdaaDoor
namespace Go.Proofs.YtdcgihcjiiemdaaDoor
open Go.RowKit
theorem flat_step {f : Int → List Nat} {l : List Int} {k : Nat} (h : k < l.length) : (l.take (k + 1)).flatMap f = (l.take k).flatMap f ++ f (nthI l k) := by
 rw [take_snocI l k h, List.flatMap_append]; simp
theorem flat_end {f : Int → List Nat} {l : List Int} {n : Nat} (h : l.length = n) : (l.take n).flatMap f = l.flatMap f := by rw [← h, List.take_length]
theorem u8L_len (k : Nat) : 1 ≤ (u8L k).length ∧ (u8L k).length ≤ 3 := by
 unfold u8L; split
 ·simp
 ·split <;> simp
theorem tellL_len (cs c : Int) : 1 ≤ (tellL cs c).length ∧ (tellL cs c).length ≤ 3 := by
 unfold tellL; split
 ·simp
 ·split
  ·exact u8L_len _
  ·split <;> simp
theorem flat_len (cs : Int) : ∀ l : List Int, l.length ≤ (l.flatMap (tellL cs)).length ∧ (l.flatMap (tellL cs)).length ≤ 3 * l.length
 | [] => by simp
 | c :: l => by
  have h1 := tellL_len cs c
  have h2 := flat_len cs l
  rw [List.flatMap_cons, List.length_append, List.length_cons]
  omega
theorem tellL_1 (c : Int) : tellL 1 c = [c.toNat] := by simp [tellL]
theorem tellL_2 (c : Int) : tellL 2 c = [c.toNat] := by simp [tellL]
theorem tellL_3 (c : Int) : tellL 3 c = [(cyr c).toNat] := by simp [tellL]
theorem tellL_4 (c : Int) : tellL 4 c = u8L c.toNat := by simp [tellL]
theorem tellL_5 (c : Int) : tellL 5 c = [c.toNat / 256, c.toNat % 256] := by simp [tellL]
end Go.Proofs.YtdcgihcjiiemdaaDoor
