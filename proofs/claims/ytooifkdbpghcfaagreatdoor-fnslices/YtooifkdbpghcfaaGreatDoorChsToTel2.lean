/- Which numbers are characters, and which characters a charset has: the program's and the model's functions answer by one plain function each; at every number · HasChar, the program's and the model's, at every charset and number: both by one plain function · areAll, at each function that it is handed: whether each number is so; slices of at most 1048576 numbers · The bytes of a character by each charset: the program's and the model's functions lay the same; characters that the charset has · tellAll, at each charset's function: the bytes of all characters, one behind the other; at most 400 characters that the charset has. -/
import Derived.Test.YtooifkdbpghcfaaGreatDoorByeToFldS2
import Derived.Test.YtooifkdbpghcfaaGreatDoorJfzToAppI
import Derived.Laws.BitsAllLaws
namespace Go.Proofs.YtooifkdbpghcfaaGreatDoor
open Go.RowKit

/-- The byte of a cyrillic character, or -1. -/
def cyr (c : Int) : Int := if 0 ≤ c ∧ c ≤ 160 ∨ c = 173 then c else if c = 167 then 253 else if c = 8470 then 240 else if 1025 ≤ c ∧ c ≤ 1119 ∧ c ≠ 1037 ∧ c ≠ 1104 ∧ c ≠ 1117 then c - 864 else -1
theorem cyr_same {c : Int} (h : 0 ≤ c ∧ c ≤ 160 ∨ c = 173) : cyr c = c := if_pos h
theorem cyr_167 : cyr 167 = 253 := by decide
theorem cyr_8470 : cyr 8470 = 240 := by decide
theorem cyr_far {c : Int} (h : 1025 ≤ c ∧ c ≤ 1119 ∧ c ≠ 1037 ∧ c ≠ 1104 ∧ c ≠ 1117) : cyr c = c - 864 := by
  unfold cyr; rw [if_neg (by omega), if_neg (by omega), if_neg (by omega), if_pos h]
theorem cyr_none {c : Int} (h1 : ¬ (0 ≤ c ∧ c ≤ 160 ∨ c = 173)) (h2 : c ≠ 167) (h3 : c ≠ 8470) (h4 : ¬ (1025 ≤ c ∧ c ≤ 1119 ∧ c ≠ 1037 ∧ c ≠ 1104 ∧ c ≠ 1117)) : cyr c = -1 := by
  unfold cyr; rw [if_neg h1, if_neg h2, if_neg h3, if_neg h4]
/-- Has a charset (1 to 5) this character? -/
def hasC (cs c : Int) : Bool := if cs = 1 then decide (c ≤ 127) else if cs = 2 then decide (c ≤ 255) else if cs = 3 then decide (0 ≤ cyr c) else true

theorem singleHas_any (m c : Int) (w : World) : Calls Tryz.prog 224 #[.agg #[.int .i64 m], .int .i64 c] w fun e w' => e = .returned (.bool (decide (c ≤ m))) ∧ Below w.heap.size w w' := by
  go_enter Tryz.func224, Tryz.ntmps224
  go_wp2
  go_ret
  exact ret_boolB rfl ((Below.refl _ _).alloc (Nat.le_refl _) _)
theorem cyr_pos {c : Int} : (0 ≤ cyr c) ↔ (0 ≤ c ∧ c ≤ 160 ∨ c = 173 ∨ c = 167 ∨ c = 8470 ∨ 1025 ≤ c ∧ c ≤ 1119 ∧ c ≠ 1037 ∧ c ≠ 1104 ∧ c ≠ 1117) := by
  unfold cyr
  split
  · omega
  · split
    · omega
    · split
      · omega
      · split <;> omega
set_option maxHeartbeats 1600000 in
theorem cyrHas_any (c : Int) (w : World) (hc : 0 ≤ c) : Calls Tryz.prog 227 #[.agg #[], .int .i64 c] w fun e w' => e = .returned (.bool (decide (0 ≤ cyr c))) ∧ Below w.heap.size w w' := by
  go_enter Tryz.func227, Tryz.ntmps227
  go_wp2
  all_goals (go_ret; refine ret_boolB ?_ ((Below.refl _ _).alloc (Nat.le_refl _) _); rw [Bool.eq_iff_iff]; simp only [decide_eq_true_iff, cyr_pos]; simp at *; try omega)
theorem utf8Has_any (c : Int) (w : World) : Calls Tryz.prog 230 #[.agg #[], .int .i64 c] w fun e w' => e = .returned (.bool true) ∧ Below w.heap.size w w' := by
  go_enter Tryz.func230, Tryz.ntmps230
  go_wp2
  go_ret
  exact ret_boolB rfl ((Below.refl _ _).alloc (Nat.le_refl _) _)
theorem utf16Has_any (c : Int) (w : World) : Calls Tryz.prog 233 #[.agg #[], .int .i64 c] w fun e w' => e = .returned (.bool true) ∧ Below w.heap.size w w' := by
  go_enter Tryz.func233, Tryz.ntmps233
  go_wp2
  go_ret
  exact ret_boolB rfl ((Below.refl _ _).alloc (Nat.le_refl _) _)

/-- A charset's value, if there is one. -/
def csV (cs : Int) : Value := if cs = 1 then .iface 106 (.agg #[.int .i64 127]) else if cs = 2 then .iface 106 (.agg #[.int .i64 255]) else if cs = 3 then .iface 108 (.agg #[]) else if cs = 4 then .iface 109 (.agg #[]) else if cs = 5 then .iface 110 (.agg #[]) else .nilIface
theorem charsetAt_any (cs : Int) (w : World) : Calls Tryz.prog 51 #[.int .i64 cs] w fun e w' => e = .returned (.tuple #[csV cs, .bool (decide (1 ≤ cs ∧ cs ≤ 5))]) ∧ w = w' := by
  go_enter Tryz.func51, Tryz.ntmps51
  go_wp2
  all_goals (go_ret2; simp at *; try subst cs)
  all_goals first | exact ⟨rfl, by omega, by omega⟩ | exact ⟨by unfold csV; simp [*], by omega⟩
end Go.Proofs.YtooifkdbpghcfaaGreatDoor

namespace Go.Proofs.YtooifkdbpghcfaaGreatDoor
open Go.RowKit

theorem csV1 : csV 1 = .iface 106 (.agg #[.int .i64 127]) := rfl
theorem csV2 : csV 2 = .iface 106 (.agg #[.int .i64 255]) := rfl
theorem csV3 : csV 3 = .iface 108 (.agg #[]) := rfl
theorem csV4 : csV 4 = .iface 109 (.agg #[]) := rfl
theorem csV5 : csV 5 = .iface 110 (.agg #[]) := rfl
theorem cs_cases {cs : Int} (h : 1 ≤ cs ∧ cs ≤ 5) : cs = 1 ∨ cs = 2 ∨ cs = 3 ∨ cs = 4 ∨ cs = 5 := by omega
set_option maxHeartbeats 1600000 in
theorem l2Cyrillic_any (c : Int) (w : World) : Calls Tryz.prog 123 #[.int .i64 c] w fun e w' => e = .returned (.int .i64 (cyr c)) ∧ w = w' := by
  by_cases h1 : 0 ≤ c ∧ c ≤ 160
  · have h1' : decide (0 ≤ c ∧ c ≤ 160) = true := decide_eq_true h1
    rw [cyr_same (.inl h1)]
    go_enter Tryz.func123, Tryz.ntmps123
    go_wp2_with (first | (go_at_call 30; refine (l1In_any _ _ _ _).mono ?_; rintro e w' ⟨rfl, rfl⟩; rw [h1']))
    go_ret
    exact ret_int rfl
  · have h1' : decide (0 ≤ c ∧ c ≤ 160) = false := decide_eq_false h1
    by_cases h2 : c = 173
    · subst h2
      rw [cyr_same (.inr rfl)]
      go_enter Tryz.func123, Tryz.ntmps123
      go_wp2_with (first | (go_at_call 30; refine (l1In_any _ _ _ _).mono ?_; rintro e w' ⟨rfl, rfl⟩; rw [h1']))
      go_ret
      exact ret_int rfl
    · by_cases h3 : c = 167
      · subst h3
        rw [cyr_167]
        go_enter Tryz.func123, Tryz.ntmps123
        go_wp2_with (first | (go_at_call 30; refine (l1In_any _ _ _ _).mono ?_; rintro e w' ⟨rfl, rfl⟩; rw [h1']))
        go_ret
        exact ret_int rfl
      · by_cases h4 : c = 8470
        · subst h4
          rw [cyr_8470]
          go_enter Tryz.func123, Tryz.ntmps123
          go_wp2_with (first | (go_at_call 30; refine (l1In_any _ _ _ _).mono ?_; rintro e w' ⟨rfl, rfl⟩; rw [h1']))
          go_ret
          exact ret_int rfl
        · by_cases h5 : 1025 ≤ c ∧ c ≤ 1119
          · have h5' : decide (1025 ≤ c ∧ c ≤ 1119) = true := decide_eq_true h5
            by_cases h6 : c ≠ 1037 ∧ c ≠ 1104 ∧ c ≠ 1117
            · obtain ⟨h61, h62, h63⟩ := h6
              have H : Hid (cyr c = c - 864) := cyr_far ⟨h5.1, h5.2, h61, h62, h63⟩
              rw [H.out]
              clear H
              have e1 : (c != 1037) = true := by simpa using h61
              have e2 : (c != 1104) = true := by simpa using h62
              have e3 : (c != 1117) = true := by simpa using h63
              go_enter Tryz.func123, Tryz.ntmps123
              go_wp2_with (first | (go_at_call 30; refine (l1In_any _ _ _ _).mono ?_; rintro e w' ⟨rfl, rfl⟩; first | rw [h1'] | rw [h5']))
              go_ret
              exact ret_int rfl
            · have H : Hid (cyr c = -1) := cyr_none (by omega) h3 h4 (by omega)
              rw [H.out]
              clear H
              have h7 : c = 1037 ∨ c = 1104 ∨ c = 1117 := by omega
              clear h1 h5 h6
              rcases h7 with rfl | rfl | rfl
              all_goals
                go_enter Tryz.func123, Tryz.ntmps123
                go_wp2_with (first | (go_at_call 30; refine (l1In_any _ _ _ _).mono ?_; rintro e w' ⟨rfl, rfl⟩; first | rw [h1'] | rw [h5']))
                go_ret
                exact ret_int rfl
          · have h5' : decide (1025 ≤ c ∧ c ≤ 1119) = false := decide_eq_false h5
            have H : Hid (cyr c = -1) := cyr_none (by omega) h3 h4 (by omega)
            rw [H.out]
            clear H
            go_enter Tryz.func123, Tryz.ntmps123
            go_wp2_with (first | (go_at_call 30; refine (l1In_any _ _ _ _).mono ?_; rintro e w' ⟨rfl, rfl⟩; first | rw [h1'] | rw [h5']))
            go_ret
            exact ret_int rfl

set_option maxHeartbeats 1600000 in
theorem l2Has_any (cs c : Int) (w : World) (h0 : 0 ≤ c) : Calls Tryz.prog 92 #[.int .i64 cs, .int .i64 c] w fun e w' => e = .returned (.bool (hasC cs c)) ∧ w = w' := by
  by_cases h1 : cs = 1
  · subst h1
    go_enter Tryz.func92, Tryz.ntmps92
    go_wp2_with (first | (go_at_call 30; refine (l1In_any _ _ _ _).mono ?_; rintro e w' ⟨rfl, rfl⟩))
    go_ret
    refine ret_bool ?_
    simp [hasC]
  · by_cases h2 : cs = 2
    · subst h2
      go_enter Tryz.func92, Tryz.ntmps92
      go_wp2_with (first | (go_at_call 30; refine (l1In_any _ _ _ _).mono ?_; rintro e w' ⟨rfl, rfl⟩))
      go_ret
      refine ret_bool ?_
      simp [hasC]
    · by_cases h3 : cs = 3
      · subst h3
        go_enter Tryz.func92, Tryz.ntmps92
        go_wp2_with (first | (go_at_call 123; refine (l2Cyrillic_any _ _).mono ?_; rintro e w' ⟨rfl, rfl⟩))
        go_ret
        refine ret_bool ?_
        simp [hasC]
      · have H : Hid (hasC cs c = true) := by unfold Hid hasC; rw [if_neg h1, if_neg h2, if_neg h3]
        rw [H.out]
        clear H
        go_enter Tryz.func92, Tryz.ntmps92
        go_wp2
        go_ret
        exact ret_bool rfl

end Go.Proofs.YtooifkdbpghcfaaGreatDoor

namespace Go.Proofs.YtooifkdbpghcfaaGreatDoor
open Go.RowKit

theorem all_bad {p : Int → Bool} {l : List Int} {k : Nat} (h : k < l.length) (hb : p (nthI l k) = false) : l.all p = false := by
  rw [List.all_eq_false]
  exact ⟨nthI l k, by rw [nthI_get h]; exact List.getElem_mem h, by rw [hb]; simp⟩
theorem all_step {p : Int → Bool} {l : List Int} {k : Nat} (h : k < l.length) (h0 : (l.take k).all p = true) (hb : p (nthI l k) = true) : (l.take (k + 1)).all p = true := by
  rw [take_snocI l k h, List.all_append, h0]
  simp [hb]
theorem all_end {p : Int → Bool} {l : List Int} {n : Nat} (hl : l.length = n) (h0 : (l.take n).all p = true) : l.all p = true := by
  rw [← hl, List.take_length] at h0
  exact h0
theorem nthI_mem {l : List Int} {k : Nat} (h : k < l.length) : nthI l k ∈ l := by rw [nthI_get h]; exact List.getElem_mem h


def leB (m c : Int) : Bool := decide (c ≤ m)
theorem singleHas_le (m c : Int) (w : World) : Calls Tryz.prog 224 #[.agg #[.int .i64 m], .int .i64 c] w fun e w' => e = .returned (.bool (leB m c)) ∧ Below w.heap.size w w' := singleHas_any m c w
def cyB (c : Int) : Bool := decide (0 ≤ cyr c)
theorem cyrHas_cy (c : Int) (w : World) (hc : 0 ≤ c) : Calls Tryz.prog 227 #[.agg #[], .int .i64 c] w fun e w' => e = .returned (.bool (cyB c)) ∧ Below w.heap.size w w' := cyrHas_any c w hc
def anyB (_ : Int) : Bool := true
theorem utf8Has_b (c : Int) (w : World) : Calls Tryz.prog 230 #[.agg #[], .int .i64 c] w fun e w' => e = .returned (.bool (anyB c)) ∧ Below w.heap.size w w' := utf8Has_any c w
theorem utf16Has_b (c : Int) (w : World) : Calls Tryz.prog 233 #[.agg #[], .int .i64 c] w fun e w' => e = .returned (.bool (anyB c)) ∧ Below w.heap.size w w' := utf16Has_any c w

end Go.Proofs.YtooifkdbpghcfaaGreatDoor

namespace Go.Proofs.YtooifkdbpghcfaaGreatDoor
open Go.RowKit

theorem ofInt_i64 (a : Nat) (ha : a < 4611686018427387904) : (BitVec.ofInt 64 (a : Int)).toNat = a := by
  rw [BitVec.ofInt_natCast, BitVec.toNat_ofNat]; exact Nat.mod_eq_of_lt (by omega)
theorem i64_and_nat (a b : Nat) (ha : a < 4611686018427387904) (hb : b < 4611686018427387904) : bits .and .i64 (a : Int) (b : Int) = ((a &&& b : Nat) : Int) := by
  have hx : a &&& b < 2 ^ 62 := Nat.and_lt_two_pow _ (by omega)
  show IntKind.i64.wrap ((BitVec.ofInt 64 (a : Int) &&& BitVec.ofInt 64 (b : Int)).toNat : Int) = _
  rw [BitVec.toNat_and, ofInt_i64 a ha, ofInt_i64 b hb]
  exact IntWalk.i64_in _ (by omega)
theorem i64_or_nat (a b : Nat) (ha : a < 4611686018427387904) (hb : b < 4611686018427387904) : bits .or .i64 (a : Int) (b : Int) = ((a ||| b : Nat) : Int) := by
  have hx : a ||| b < 2 ^ 62 := Nat.or_lt_two_pow (by omega) (by omega)
  show IntKind.i64.wrap ((BitVec.ofInt 64 (a : Int) ||| BitVec.ofInt 64 (b : Int)).toNat : Int) = _
  rw [BitVec.toNat_or, ofInt_i64 a ha, ofInt_i64 b hb]
  exact IntWalk.i64_in _ (by omega)
theorem i64_and63 (a : Nat) (ha : a < 65536) : bits .and .i64 (a : Int) 63 = ((a % 64 : Nat) : Int) := by
  have := i64_and_nat a 63 (by omega) (by omega)
  rw [Nat.and_two_pow_sub_one_eq_mod a 6] at this
  exact this
theorem or_add (x y m : Nat) (h : y < 2 ^ m) : (x * 2 ^ m) ||| y = x * 2 ^ m + y := by
  have h := Nat.shiftLeft_add_eq_or_of_lt h x
  rw [Nat.shiftLeft_eq] at h
  exact h.symm
theorem i64_or192 (y : Nat) (h : y < 32) : bits .or .i64 192 (y : Int) = ((192 + y : Nat) : Int) := by
  have := i64_or_nat 192 y (by omega) (by omega)
  rw [show (192 : Nat) = 6 * 2 ^ 5 from rfl, or_add 6 y 5 (by omega)] at this
  exact this
theorem i64_or128 (y : Nat) (h : y < 64) : bits .or .i64 128 (y : Int) = ((128 + y : Nat) : Int) := by
  have := i64_or_nat 128 y (by omega) (by omega)
  rw [show (128 : Nat) = 2 * 2 ^ 6 from rfl, or_add 2 y 6 (by omega)] at this
  exact this
theorem i64_or224 (y : Nat) (h : y < 16) : bits .or .i64 224 (y : Int) = ((224 + y : Nat) : Int) := by
  have := i64_or_nat 224 y (by omega) (by omega)
  rw [show (224 : Nat) = 14 * 2 ^ 4 from rfl, or_add 14 y 4 (by omega)] at this
  exact this

/-- The bytes of a character in utf-8. -/
def u8L (k : Nat) : List Nat := if k < 128 then [k] else if k < 2048 then [192 + k / 64, 128 + k % 64] else [224 + k / 4096, 128 + k / 64 % 64, 128 + k % 64]
theorem u8L_one {k : Nat} (h : k < 128) : u8L k = [k] := if_pos h
theorem u8L_two {k : Nat} (h : ¬ k < 128) (h2 : k < 2048) : u8L k = [192 + k / 64, 128 + k % 64] := by unfold u8L; rw [if_neg h, if_pos h2]
theorem u8L_three {k : Nat} (h : ¬ k < 128) (h2 : ¬ k < 2048) : u8L k = [224 + k / 4096, 128 + k / 64 % 64, 128 + k % 64] := by unfold u8L; rw [if_neg h, if_neg h2]
/-- The bytes of a character that a charset has. -/
def tellL (cs c : Int) : List Nat := if cs = 3 then [(cyr c).toNat] else if cs = 4 then u8L c.toNat else if cs = 5 then [c.toNat / 256, c.toNat % 256] else [c.toNat]

/-- What a call that lays bytes behind others leaves. -/
def Laid (B : Nat) (l : List Nat) (w : World) (e : Ending) (w' : World) : Prop := ∃ v', e = .returned v' ∧ Own w' B v' l ∧ Below B w w'

set_option maxHeartbeats 1600000 in
set_option maxRecDepth 100000 in
theorem singleTell_any (m : Int) (k : Nat) (B : Nat) (v : Value) (out : List Nat) (w : World) (hown : Own w B v out) (hz : B ≤ w.heap.size) (ho : out.length ≤ 1048576) (hk : k < 256) :
    Calls Tryz.prog 225 #[.agg #[.int .i64 m], v, .int .i64 (k : Int)] w fun e w' => Laid B (out ++ [k]) w e w' := by
  have hb0 : Below B w (w.alloc (.cells #[.int .i64 m] 106)) := (Below.refl _ _).alloc hz _
  have ho0 := hown.alloc (.cells #[.int .i64 m] 106)
  have hz0 : B ≤ (w.alloc (.cells #[.int .i64 m] 106)).heap.size := by simp; omega
  go_enter Tryz.func225, Tryz.ntmps225
  go_wp2_with (at_builtin; refine wpList_app_new rfl _ _ rfl B _ out rfl ho0 1 1 [k] (by rw [World.size_alloc]; rfl) rfl rfl (by omega) hz0 ?_; intro v' w2 hown' hb')
  go_ret
  exact ⟨v', rfl, hown', hb0.trans hb'⟩

set_option maxHeartbeats 1600000 in
set_option maxRecDepth 100000 in
theorem utf16Tell_any (k : Nat) (B : Nat) (v : Value) (out : List Nat) (w : World) (hown : Own w B v out) (hz : B ≤ w.heap.size) (ho : out.length ≤ 1048576) (hk : k < 65536) :
    Calls Tryz.prog 234 #[.agg #[], v, .int .i64 (k : Int)] w fun e w' => Laid B (out ++ [k / 256, k % 256]) w e w' := by
  have hb0 : Below B w (w.alloc (.cells #[] 110)) := (Below.refl _ _).alloc hz _
  have ho0 := hown.alloc (.cells #[] 110)
  have hz0 : B ≤ (w.alloc (.cells #[] 110)).heap.size := by simp; omega
  obtain ⟨p, hp⟩ : ∃ p, p = k / 256 := ⟨_, rfl⟩
  obtain ⟨q, hq⟩ : ∃ q, q = k % 256 := ⟨_, rfl⟩
  rw [← hp, ← hq]
  have e1 : (k : Int) / 256 = (p : Int) := by omega
  have e2 : (k : Int) % 256 = (q : Int) := by omega
  have hp' : p < 256 := by omega
  clear hp hq
  go_enter Tryz.func234, Tryz.ntmps234
  go_wp2_with (at_builtin; refine wpList_app_new rfl _ _ rfl B _ out rfl ho0 2 2 [p, q] (by rw [World.size_alloc]; rfl) rfl rfl (by omega) hz0 ?_; intro v' w2 hown' hb')
  go_ret
  exact ⟨v', rfl, hown', hb0.trans hb'⟩

set_option maxHeartbeats 1600000 in
set_option maxRecDepth 100000 in
theorem utf8Tell_any (k : Nat) (B : Nat) (v : Value) (out : List Nat) (w : World) (hown : Own w B v out) (hz : B ≤ w.heap.size) (ho : out.length ≤ 1048576) (hk : k < 65536) :
    Calls Tryz.prog 231 #[.agg #[], v, .int .i64 (k : Int)] w fun e w' => Laid B (out ++ u8L k) w e w' := by
  have hb0 : Below B w (w.alloc (.cells #[] 109)) := (Below.refl _ _).alloc hz _
  have ho0 := hown.alloc (.cells #[] 109)
  have hz0 : B ≤ (w.alloc (.cells #[] 109)).heap.size := by simp; omega
  by_cases h1 : k < 128
  · have h1' : (k : Int) < 128 := by omega
    rw [u8L_one h1]
    go_enter Tryz.func231, Tryz.ntmps231
    go_wp2_with (at_builtin; refine wpList_app_new rfl _ _ rfl B _ out rfl ho0 1 1 [k] (by rw [World.size_alloc]; rfl) rfl rfl (by omega) hz0 ?_; intro v' w2 hown' hb')
    go_ret
    exact ⟨v', rfl, hown', hb0.trans hb'⟩
  · have h1' : ¬ (k : Int) < 128 := by omega
    by_cases h2 : k < 2048
    · have h2' : (k : Int) < 2048 := by omega
      rw [u8L_two h1 h2]
      obtain ⟨p, hp⟩ : ∃ p, p = k / 64 := ⟨_, rfl⟩
      obtain ⟨q, hq⟩ : ∃ q, q = k % 64 := ⟨_, rfl⟩
      rw [← hp, ← hq]
      have e1 : (k : Int) / 64 = (p : Int) := by omega
      have e2 := i64_and63 k hk
      rw [← hq] at e2
      have e3 := i64_or192 p (by omega)
      have e4 := i64_or128 q (by omega)
      obtain ⟨P, hP⟩ : ∃ P, P = 192 + p := ⟨_, rfl⟩
      obtain ⟨Q, hQ⟩ : ∃ Q, Q = 128 + q := ⟨_, rfl⟩
      rw [← hP] at e3
      rw [← hQ] at e4
      rw [← hP, ← hQ]
      have hP' : P < 256 := by omega
      have hQ' : Q < 256 := by omega
      clear hp hq hP hQ
      go_enter Tryz.func231, Tryz.ntmps231
      go_wp2_with (at_builtin; refine wpList_app_new rfl _ _ rfl B _ out rfl ho0 2 2 [P, Q] (by rw [World.size_alloc]; rfl) rfl rfl (by omega) hz0 ?_; intro v' w2 hown' hb')
      go_ret
      exact ⟨v', rfl, hown', hb0.trans hb'⟩
    · have h2' : ¬ (k : Int) < 2048 := by omega
      rw [u8L_three h1 h2]
      obtain ⟨p, hp⟩ : ∃ p, p = k / 4096 := ⟨_, rfl⟩
      obtain ⟨r, hr⟩ : ∃ r, r = k / 64 := ⟨_, rfl⟩
      obtain ⟨s, hs⟩ : ∃ s, s = r % 64 := ⟨_, rfl⟩
      obtain ⟨q, hq⟩ : ∃ q, q = k % 64 := ⟨_, rfl⟩
      rw [← hp, ← hr, ← hq, ← hs]
      have e0 : (k : Int) / 4096 = (p : Int) := by omega
      have e1 : (k : Int) / 64 = (r : Int) := by omega
      have e2 := i64_and63 k hk
      rw [← hq] at e2
      have e5 := i64_and63 r (by omega)
      rw [← hs] at e5
      have e3 := i64_or224 p (by omega)
      have e4 := i64_or128 q (by omega)
      have e6 := i64_or128 s (by omega)
      obtain ⟨P, hP⟩ : ∃ P, P = 224 + p := ⟨_, rfl⟩
      obtain ⟨Q, hQ⟩ : ∃ Q, Q = 128 + q := ⟨_, rfl⟩
      obtain ⟨S, hS⟩ : ∃ S, S = 128 + s := ⟨_, rfl⟩
      rw [← hP] at e3
      rw [← hQ] at e4
      rw [← hS] at e6
      rw [← hP, ← hQ, ← hS]
      have hP' : P < 256 := by omega
      have hQ' : Q < 256 := by omega
      have hS' : S < 256 := by omega
      clear hp hq hP hQ hr hs hS
      go_enter Tryz.func231, Tryz.ntmps231
      go_wp2_with (at_builtin; refine wpList_app_new rfl _ _ rfl B _ out rfl ho0 3 3 [P, S, Q] (by rw [World.size_alloc]; rfl) rfl rfl (by omega) hz0 ?_; intro v' w2 hown' hb')
      go_ret
      exact ⟨v', rfl, hown', hb0.trans hb'⟩

set_option maxHeartbeats 1600000 in
set_option maxRecDepth 100000 in
theorem cyrTell_any (k : Nat) (B : Nat) (v : Value) (out : List Nat) (w : World) (hown : Own w B v out) (hz : B ≤ w.heap.size) (ho : out.length ≤ 1048576) (hc : 0 ≤ cyr (k : Int)) :
    Calls Tryz.prog 228 #[.agg #[], v, .int .i64 (k : Int)] w fun e w' => Laid B (out ++ [(cyr (k : Int)).toNat]) w e w' := by
  have hb0 : Below B w (w.alloc (.cells #[] 108)) := (Below.refl _ _).alloc hz _
  have ho0 := hown.alloc (.cells #[] 108)
  have hz0 : B ≤ (w.alloc (.cells #[] 108)).heap.size := by simp; omega
  have hc' := cyr_pos.1 hc
  by_cases h1 : k = 167
  · subst h1
    have e : (cyr ((167 : Nat) : Int)).toNat = 253 := by decide
    rw [e]
    go_enter Tryz.func228, Tryz.ntmps228
    go_wp2_with (at_builtin; refine wpList_app_new rfl _ _ rfl B _ out rfl ho0 1 1 [253] (by rw [World.size_alloc]; rfl) rfl rfl (by omega) hz0 ?_; intro v' w2 hown' hb')
    go_ret
    exact ⟨v', rfl, hown', hb0.trans hb'⟩
  · by_cases h2 : k = 8470
    · subst h2
      have e : (cyr ((8470 : Nat) : Int)).toNat = 240 := by decide
      rw [e]
      go_enter Tryz.func228, Tryz.ntmps228
      go_wp2_with (at_builtin; refine wpList_app_new rfl _ _ rfl B _ out rfl ho0 1 1 [240] (by rw [World.size_alloc]; rfl) rfl rfl (by omega) hz0 ?_; intro v' w2 hown' hb')
      go_ret
      exact ⟨v', rfl, hown', hb0.trans hb'⟩
    · have n1 : ((k : Int) == 167) = false := by simp; omega
      have n2 : ((k : Int) == 8470) = false := by simp; omega
      by_cases h3 : k ≤ 160
      · have h3' : (k : Int) ≤ 160 := by omega
        have e : (cyr (k : Int)).toNat = k := by rw [cyr_same (by omega)]; simp
        rw [e]
        clear hc hc' e
        go_enter Tryz.func228, Tryz.ntmps228
        go_wp2_with (at_builtin; refine wpList_app_new rfl _ _ rfl B _ out rfl ho0 1 1 [k] (by rw [World.size_alloc]; rfl) rfl rfl (by omega) hz0 ?_; intro v' w2 hown' hb')
        go_ret
        exact ⟨v', rfl, hown', hb0.trans hb'⟩
      · have h3' : ¬ (k : Int) ≤ 160 := by omega
        by_cases h4 : k = 173
        · subst h4
          have e : (cyr ((173 : Nat) : Int)).toNat = 173 := by decide
          rw [e]
          go_enter Tryz.func228, Tryz.ntmps228
          go_wp2_with (at_builtin; refine wpList_app_new rfl _ _ rfl B _ out rfl ho0 1 1 [173] (by rw [World.size_alloc]; rfl) rfl rfl (by omega) hz0 ?_; intro v' w2 hown' hb')
          go_ret
          exact ⟨v', rfl, hown', hb0.trans hb'⟩
        · have n4 : ((k : Int) == 173) = false := by simp; omega
          have e : (cyr (k : Int)).toNat = k - 864 := by rw [cyr_far (by omega)]; omega
          obtain ⟨p, hp⟩ : ∃ p, p = k - 864 := ⟨_, rfl⟩
          rw [e, ← hp]
          have hp' : p < 256 := by omega
          have hkp : (k : Int) - 864 = (p : Int) := by omega
          clear hc hc' e hp
          go_enter Tryz.func228, Tryz.ntmps228
          go_wp2_with (at_builtin; refine wpList_app_new rfl _ _ rfl B _ out rfl ho0 1 1 [p] (by rw [World.size_alloc]; rfl) rfl rfl (by omega) hz0 ?_; intro v' w2 hown' hb')
          go_ret
          exact ⟨v', rfl, hown', hb0.trans hb'⟩
end Go.Proofs.YtooifkdbpghcfaaGreatDoor

namespace Go.Proofs.YtooifkdbpghcfaaGreatDoor
open Go.RowKit

theorem flat_step {f : Int → List Nat} {l : List Int} {k : Nat} (h : k < l.length) : (l.take (k + 1)).flatMap f = (l.take k).flatMap f ++ f (nthI l k) := by
  rw [take_snocI l k h, List.flatMap_append]; simp
theorem flat_end {f : Int → List Nat} {l : List Int} {n : Nat} (h : l.length = n) : (l.take n).flatMap f = l.flatMap f := by rw [← h, List.take_length]
theorem u8L_len (k : Nat) : 1 ≤ (u8L k).length ∧ (u8L k).length ≤ 3 := by
  unfold u8L; split
  · simp
  · split <;> simp
theorem tellL_len (cs c : Int) : 1 ≤ (tellL cs c).length ∧ (tellL cs c).length ≤ 3 := by
  unfold tellL; split
  · simp
  · split
    · exact u8L_len _
    · split <;> simp
theorem flat_len (cs : Int) : ∀ l : List Int, l.length ≤ (l.flatMap (tellL cs)).length ∧ (l.flatMap (tellL cs)).length ≤ 3 * l.length
  | [] => by simp
  | c :: l => by
    have h1 := tellL_len cs c
    have h2 := flat_len cs l
    rw [List.flatMap_cons, List.length_append, List.length_cons]
    omega
theorem tellL_1 (c : Int) : tellL 1 c = [c.toNat] := by simp [tellL]
theorem tellL_2 (c : Int) : tellL 2 c = [c.toNat] := by simp [tellL]
theorem tellL_3 (c : Int) : tellL 3 c = [(cyr c).toNat] := by simp [tellL]
theorem tellL_4 (c : Int) : tellL 4 c = u8L c.toNat := by simp [tellL]
theorem tellL_5 (c : Int) : tellL 5 c = [c.toNat / 256, c.toNat % 256] := by simp [tellL]


end Go.Proofs.YtooifkdbpghcfaaGreatDoor
