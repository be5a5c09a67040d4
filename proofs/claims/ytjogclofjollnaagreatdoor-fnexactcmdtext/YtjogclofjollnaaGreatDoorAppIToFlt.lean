/- What an append of numbers to a slice of the call's own leaves: laws for this program's types; at most 1073741824 numbers · Which numbers are characters, and which lie between two others: plain functions; at every number · Which numbers are characters, and which characters a charset has: the program's and the model's functions answer by one plain function each; at every number · HasChar, the program's and the model's, at every charset and number: both by one plain function · areAll, at each function that it is handed: whether each number is so; slices of at most 1048576 numbers · CodesFault, the program's and the model's, at every slice of at most 1048576 numbers: both by one plain function. -/
import Derived.Test.YtjogclofjollnaaGreatDoorTmuToRgS
import Derived.Test.YtjogclofjollnaaGreatDoorProg
import Derived.WalkKit
import Derived.Handy
import Derived.Below
namespace Go.Proofs.YtjogclofjollnaaGreatDoor
open Go.RowKit
def OwnI (w : World) (B : Nat) (v : Value) (l : List Int) : Prop := w.ownsRow B 2 1 v l.length (ic l)
theorem OwnI.nil (w : World) (B : Nat) : OwnI w B (.slice none 0 0) [] := World.ownsRow_nil _ _ _ _
theorem OwnI.lit (w : World) (B : Nat) (hB : B ≤ w.heap.size) (cs : Array Value) (l : List Int) (h : cs.toList = ic l) (hl : l.length ≤ maxLen) : OwnI (w.alloc (.cells cs 2)) B (.slice (some ⟨w.heap.size, 0, none⟩) l.length l.length) l := by
 have := World.ownsRow_lit (base := B) (e := 2) (size := 1) w cs l.length hB hl (by rw [← Array.length_toList, h, ic_len]; omega)
 rw [h] at this
 exact this
theorem OwnI.alloc {w : World} {B : Nat} {v : Value} {l : List Int} (h : OwnI w B v l) (o : Obj) : OwnI (w.alloc o) B v l := World.ownsRow.alloc h o
theorem OwnI.drew {w : World} {B : Nat} {v : Value} {l : List Int} (h : OwnI w B v l) : OwnI w.drew B v l := h
theorem OwnI.below {w w' : World} {B C : Nat} {v : Value} {l : List Int} (h : OwnI w B v l) (hb : Below C w w') (hC : w.heap.size ≤ C) : OwnI w' B v l := by
 refine ⟨h.1, ?_⟩
 rcases h.2 with h' | ⟨g, cap, cur, h1, h2, h3, h4⟩
 ·exact .inl h'
 ·refine .inr ⟨g, cap, cur, h1, h2, ?_, h4⟩
  have hg : g < w.heap.size := by
   rcases Nat.lt_or_ge g w.heap.size with hlt | hge
   ·exact hlt
   ·simp [Array.getElem?_eq_none hge] at h3
  rw [hb.block g (by omega)]; exact h3
theorem OwnI.form {w : World} {B : Nat} {v : Value} {l : List Int} (h : OwnI w B v l) : ∃ a cap, v = .slice a l.length cap ∧ l.length ≤ cap ∧ cap ≤ maxLen := by
 rcases h.2 with ⟨h', h0⟩ | ⟨g, cap, cur, h', _, _, h4, h5, _⟩
 ·exact ⟨none, 0, by rw [h', h0], by omega, by decide⟩
 ·exact ⟨_, cap, h', h4, h5⟩
theorem OwnI.rd {w : World} {B n cap : Nat} {a : Option Addr} {l : List Int} (h : OwnI w B (.slice a n cap) l) : l.length = n ∧ RdI w a l := by
 have hf : l.length = n := by
  obtain ⟨a', c', e, _⟩ := h.form
  simp at e; omega
 subst hf
 exact ⟨rfl, RdI.own h⟩
end Go.Proofs.YtjogclofjollnaaGreatDoor
namespace Go.Proofs.YtjogclofjollnaaGreatDoor
open Go.RowKit
def chr (c : Int) : Bool := decide (0 ≤ c ∧ c ≤ 65535 ∧ (c < 55296 ∨ 57343 < c))
theorem chr_iff {c : Int} : chr c = true ↔ (0 ≤ c ∧ c ≤ 65535 ∧ (c < 55296 ∨ 57343 < c)) := decide_eq_true_iff
theorem ret_bool {b b' : Bool} {w : World} (h : b = b') : Ending.returned (Value.bool b) = .returned (.bool b') ∧ w = w := ⟨by rw [h], rfl⟩
theorem ret_int {b b' : Int} {w : World} (h : b = b') : Ending.returned (Value.int .i64 b) = .returned (.int .i64 b') ∧ w = w := ⟨by rw [h], rfl⟩
theorem ret_boolB {b b' : Bool} {w w' : World} {n : Nat} (h : b = b') (hb : Below n w w') : Ending.returned (Value.bool b) = .returned (.bool b') ∧ Below n w w' := ⟨by rw [h], hb⟩
theorem isCharacter_any (c : Int) (w : World) : Calls Tryz.prog 157 #[.int .i64 c] w fun e w' => e = .returned (.bool (chr c)) ∧ w = w' := by
 go_enter Tryz.func157, Tryz.ntmps157
 go_wp2
 all_goals (go_ret; refine ret_bool ?_; rw [Bool.eq_iff_iff, chr_iff]; simp; try omega)
theorem l1In_any (c a b : Int) (w : World) : Calls Tryz.prog 46 #[.int .i64 c, .int .i64 a, .int .i64 b] w fun e w' => e = .returned (.bool (decide (a ≤ c ∧ c ≤ b))) ∧ w = w' := by
 go_enter Tryz.func46, Tryz.ntmps46
 go_wp2
 all_goals (go_ret; refine ret_bool ?_; rw [Bool.eq_iff_iff]; simp; try omega)
theorem l2Char_any (c : Int) (w : World) : Calls Tryz.prog 113 #[.int .i64 c] w fun e w' => e = .returned (.bool (chr c)) ∧ w = w' := by
 go_enter Tryz.func113, Tryz.ntmps113
 go_wp2_with (first | (go_at_call 46; refine (l1In_any _ _ _ _).mono ?_; rintro e w' ⟨rfl, rfl⟩))
 all_goals (go_ret; refine ret_bool ?_; rw [Bool.eq_iff_iff, chr_iff]; simp; try omega)
end Go.Proofs.YtjogclofjollnaaGreatDoor
namespace Go.Proofs.YtjogclofjollnaaGreatDoor
open Go.RowKit
def cyr (c : Int) : Int := if 0 ≤ c ∧ c ≤ 160 ∨ c = 173 then c else if c = 167 then 253 else if c = 8470 then 240 else if 1025 ≤ c ∧ c ≤ 1119 ∧ c ≠ 1037 ∧ c ≠ 1104 ∧ c ≠ 1117 then c - 864 else -1
theorem cyr_same {c : Int} (h : 0 ≤ c ∧ c ≤ 160 ∨ c = 173) : cyr c = c := if_pos h
theorem cyr_167 : cyr 167 = 253 := by decide
theorem cyr_8470 : cyr 8470 = 240 := by decide
theorem cyr_far {c : Int} (h : 1025 ≤ c ∧ c ≤ 1119 ∧ c ≠ 1037 ∧ c ≠ 1104 ∧ c ≠ 1117) : cyr c = c - 864 := by
 unfold cyr; rw [if_neg (by omega), if_neg (by omega), if_neg (by omega), if_pos h]
theorem cyr_none {c : Int} (h1 : ¬ (0 ≤ c ∧ c ≤ 160 ∨ c = 173)) (h2 : c ≠ 167) (h3 : c ≠ 8470) (h4 : ¬ (1025 ≤ c ∧ c ≤ 1119 ∧ c ≠ 1037 ∧ c ≠ 1104 ∧ c ≠ 1117)) : cyr c = -1 := by
 unfold cyr; rw [if_neg h1, if_neg h2, if_neg h3, if_neg h4]
def hasC (cs c : Int) : Bool := if cs = 1 then decide (c ≤ 127) else if cs = 2 then decide (c ≤ 255) else if cs = 3 then decide (0 ≤ cyr c) else true
theorem singleHas_any (m c : Int) (w : World) : Calls Tryz.prog 194 #[.agg #[.int .i64 m], .int .i64 c] w fun e w' => e = .returned (.bool (decide (c ≤ m))) ∧ Below w.heap.size w w' := by
 go_enter Tryz.func194, Tryz.ntmps194
 go_wp2
 go_ret
 exact ret_boolB rfl ((Below.refl _ _).alloc (Nat.le_refl _) _)
theorem cyr_pos {c : Int} : (0 ≤ cyr c) ↔ (0 ≤ c ∧ c ≤ 160 ∨ c = 173 ∨ c = 167 ∨ c = 8470 ∨ 1025 ≤ c ∧ c ≤ 1119 ∧ c ≠ 1037 ∧ c ≠ 1104 ∧ c ≠ 1117) := by
 unfold cyr
 split
 ·omega
 ·split
  ·omega
  ·split
   ·omega
   ·split <;> omega
set_option maxHeartbeats 1600000 in
theorem cyrHas_any (c : Int) (w : World) (hc : 0 ≤ c) : Calls Tryz.prog 197 #[.agg #[], .int .i64 c] w fun e w' => e = .returned (.bool (decide (0 ≤ cyr c))) ∧ Below w.heap.size w w' := by
 go_enter Tryz.func197, Tryz.ntmps197
 go_wp2
 all_goals (go_ret; refine ret_boolB ?_ ((Below.refl _ _).alloc (Nat.le_refl _) _); rw [Bool.eq_iff_iff]; simp only [decide_eq_true_iff, cyr_pos]; simp at *; try omega)
theorem utf8Has_any (c : Int) (w : World) : Calls Tryz.prog 200 #[.agg #[], .int .i64 c] w fun e w' => e = .returned (.bool true) ∧ Below w.heap.size w w' := by
 go_enter Tryz.func200, Tryz.ntmps200
 go_wp2
 go_ret
 exact ret_boolB rfl ((Below.refl _ _).alloc (Nat.le_refl _) _)
theorem utf16Has_any (c : Int) (w : World) : Calls Tryz.prog 203 #[.agg #[], .int .i64 c] w fun e w' => e = .returned (.bool true) ∧ Below w.heap.size w w' := by
 go_enter Tryz.func203, Tryz.ntmps203
 go_wp2
 go_ret
 exact ret_boolB rfl ((Below.refl _ _).alloc (Nat.le_refl _) _)
def csV (cs : Int) : Value := if cs = 1 then .iface 230 (.agg #[.int .i64 127]) else if cs = 2 then .iface 230 (.agg #[.int .i64 255]) else if cs = 3 then .iface 231 (.agg #[]) else if cs = 4 then .iface 232 (.agg #[]) else if cs = 5 then .iface 233 (.agg #[]) else .nilIface
theorem charsetAt_any (cs : Int) (w : World) : Calls Tryz.prog 154 #[.int .i64 cs] w fun e w' => e = .returned (.tuple #[csV cs, .bool (decide (1 ≤ cs ∧ cs ≤ 5))]) ∧ w = w' := by
 go_enter Tryz.func154, Tryz.ntmps154
 go_wp2
 all_goals (go_ret2; simp at *; try subst cs)
 all_goals first | exact ⟨rfl, by omega, by omega⟩ | exact ⟨by unfold csV; simp [*], by omega⟩
end Go.Proofs.YtjogclofjollnaaGreatDoor
namespace Go.Proofs.YtjogclofjollnaaGreatDoor
open Go.RowKit
theorem csV1 : csV 1 = .iface 230 (.agg #[.int .i64 127]) := rfl
theorem csV2 : csV 2 = .iface 230 (.agg #[.int .i64 255]) := rfl
theorem csV3 : csV 3 = .iface 231 (.agg #[]) := rfl
theorem csV4 : csV 4 = .iface 232 (.agg #[]) := rfl
theorem csV5 : csV 5 = .iface 233 (.agg #[]) := rfl
theorem cs_cases {cs : Int} (h : 1 ≤ cs ∧ cs ≤ 5) : cs = 1 ∨ cs = 2 ∨ cs = 3 ∨ cs = 4 ∨ cs = 5 := by omega
set_option maxHeartbeats 1600000 in
theorem l2Cyrillic_any (c : Int) (w : World) : Calls Tryz.prog 144 #[.int .i64 c] w fun e w' => e = .returned (.int .i64 (cyr c)) ∧ w = w' := by
 by_cases h1 : 0 ≤ c ∧ c ≤ 160
 ·have h1' : decide (0 ≤ c ∧ c ≤ 160) = true := decide_eq_true h1
  rw [cyr_same (.inl h1)]
  go_enter Tryz.func144, Tryz.ntmps144
  go_wp2_with (first | (go_at_call 46; refine (l1In_any _ _ _ _).mono ?_; rintro e w' ⟨rfl, rfl⟩; rw [h1']))
  go_ret
  exact ret_int rfl
 ·have h1' : decide (0 ≤ c ∧ c ≤ 160) = false := decide_eq_false h1
  by_cases h2 : c = 173
  ·subst h2
   rw [cyr_same (.inr rfl)]
   go_enter Tryz.func144, Tryz.ntmps144
   go_wp2_with (first | (go_at_call 46; refine (l1In_any _ _ _ _).mono ?_; rintro e w' ⟨rfl, rfl⟩; rw [h1']))
   go_ret
   exact ret_int rfl
  ·by_cases h3 : c = 167
   ·subst h3
    rw [cyr_167]
    go_enter Tryz.func144, Tryz.ntmps144
    go_wp2_with (first | (go_at_call 46; refine (l1In_any _ _ _ _).mono ?_; rintro e w' ⟨rfl, rfl⟩; rw [h1']))
    go_ret
    exact ret_int rfl
   ·by_cases h4 : c = 8470
    ·subst h4
     rw [cyr_8470]
     go_enter Tryz.func144, Tryz.ntmps144
     go_wp2_with (first | (go_at_call 46; refine (l1In_any _ _ _ _).mono ?_; rintro e w' ⟨rfl, rfl⟩; rw [h1']))
     go_ret
     exact ret_int rfl
    ·by_cases h5 : 1025 ≤ c ∧ c ≤ 1119
     ·have h5' : decide (1025 ≤ c ∧ c ≤ 1119) = true := decide_eq_true h5
      by_cases h6 : c ≠ 1037 ∧ c ≠ 1104 ∧ c ≠ 1117
      ·obtain ⟨h61, h62, h63⟩ := h6
       have H : Hid (cyr c = c - 864) := cyr_far ⟨h5.1, h5.2, h61, h62, h63⟩
       rw [H.out]
       clear H
       have e1 : (c != 1037) = true := by simpa using h61
       have e2 : (c != 1104) = true := by simpa using h62
       have e3 : (c != 1117) = true := by simpa using h63
       go_enter Tryz.func144, Tryz.ntmps144
       go_wp2_with (first | (go_at_call 46; refine (l1In_any _ _ _ _).mono ?_; rintro e w' ⟨rfl, rfl⟩; first | rw [h1'] | rw [h5']))
       go_ret
       exact ret_int rfl
      ·have H : Hid (cyr c = -1) := cyr_none (by omega) h3 h4 (by omega)
       rw [H.out]
       clear H
       have h7 : c = 1037 ∨ c = 1104 ∨ c = 1117 := by omega
       clear h1 h5 h6
       rcases h7 with rfl | rfl | rfl
       all_goals
        go_enter Tryz.func144, Tryz.ntmps144
        go_wp2_with (first | (go_at_call 46; refine (l1In_any _ _ _ _).mono ?_; rintro e w' ⟨rfl, rfl⟩; first | rw [h1'] | rw [h5']))
        go_ret
        exact ret_int rfl
     ·have h5' : decide (1025 ≤ c ∧ c ≤ 1119) = false := decide_eq_false h5
      have H : Hid (cyr c = -1) := cyr_none (by omega) h3 h4 (by omega)
      rw [H.out]
      clear H
      go_enter Tryz.func144, Tryz.ntmps144
      go_wp2_with (first | (go_at_call 46; refine (l1In_any _ _ _ _).mono ?_; rintro e w' ⟨rfl, rfl⟩; first | rw [h1'] | rw [h5']))
      go_ret
      exact ret_int rfl
set_option maxHeartbeats 1600000 in
theorem l2Has_any (cs c : Int) (w : World) (h0 : 0 ≤ c) : Calls Tryz.prog 129 #[.int .i64 cs, .int .i64 c] w fun e w' => e = .returned (.bool (hasC cs c)) ∧ w = w' := by
 by_cases h1 : cs = 1
 ·subst h1
  go_enter Tryz.func129, Tryz.ntmps129
  go_wp2_with (first | (go_at_call 46; refine (l1In_any _ _ _ _).mono ?_; rintro e w' ⟨rfl, rfl⟩))
  go_ret
  refine ret_bool ?_
  simp [hasC]
 ·by_cases h2 : cs = 2
  ·subst h2
   go_enter Tryz.func129, Tryz.ntmps129
   go_wp2_with (first | (go_at_call 46; refine (l1In_any _ _ _ _).mono ?_; rintro e w' ⟨rfl, rfl⟩))
   go_ret
   refine ret_bool ?_
   simp [hasC]
  ·by_cases h3 : cs = 3
   ·subst h3
    go_enter Tryz.func129, Tryz.ntmps129
    go_wp2_with (first | (go_at_call 144; refine (l2Cyrillic_any _ _).mono ?_; rintro e w' ⟨rfl, rfl⟩))
    go_ret
    refine ret_bool ?_
    simp [hasC]
   ·have H : Hid (hasC cs c = true) := by unfold Hid hasC; rw [if_neg h1, if_neg h2, if_neg h3]
    rw [H.out]
    clear H
    go_enter Tryz.func129, Tryz.ntmps129
    go_wp2
    go_ret
    exact ret_bool rfl
end Go.Proofs.YtjogclofjollnaaGreatDoor
namespace Go.Proofs.YtjogclofjollnaaGreatDoor
open Go.RowKit
theorem all_bad {p : Int → Bool} {l : List Int} {k : Nat} (h : k < l.length) (hb : p (nthI l k) = false) : l.all p = false := by
 rw [List.all_eq_false]
 exact ⟨nthI l k, by rw [nthI_get h]; exact List.getElem_mem h, by rw [hb]; simp⟩
theorem all_step {p : Int → Bool} {l : List Int} {k : Nat} (h : k < l.length) (h0 : (l.take k).all p = true) (hb : p (nthI l k) = true) : (l.take (k + 1)).all p = true := by
 rw [take_snocI l k h, List.all_append, h0]
 simp [hb]
theorem all_end {p : Int → Bool} {l : List Int} {n : Nat} (hl : l.length = n) (h0 : (l.take n).all p = true) : l.all p = true := by
 rw [← hl, List.take_length] at h0
 exact h0
theorem nthI_mem {l : List Int} {k : Nat} (h : k < l.length) : nthI l k ∈ l := by rw [nthI_get h]; exact List.getElem_mem h
set_option maxHeartbeats 1600000 in
set_option maxRecDepth 100000 in
theorem areAll_char (a : Option Addr) (n cap : Nat) (l : List Int) (w : World) (hl : l.length = n) (hr : RdI w a l) (hn : n ≤ 1048576) :
  Calls Tryz.prog 98 #[.slice a n cap, .func (.func 157) #[] #[]] w fun e w' => e = .returned (.bool (l.all chr)) ∧ Below w.heap.size w w' := by
 go_enter Tryz.func98, Tryz.ntmps98
 go_wp2
 go_loopw [9] (fun v9 wr => ∃ k : Nat, k ≤ n ∧ v9 = .int .i64 k ∧ (l.take k).all chr = true ∧ Below w.heap.size w wr) (fun v9 _ => n - (intOf v9).toNat)
 case atStart => exact ⟨0, Nat.zero_le _, rfl, by simp, Below.refl _ _⟩
 case round =>
  obtain ⟨k, hk, rfl, hall, hbel⟩ := hrel
  by_cases hkn : k < n
  ·obtain ⟨b, off, rfl, hblt, hcell⟩ := hr.at_ (by omega)
   have hc : wr.cell? ⟨b, off + k, none⟩ = some (.int .i64 (nthI l k)) := (hbel.cell (p := ⟨b, off + k, none⟩) hblt).trans (hcell k (by omega))
   have hmem : nthI l k ∈ l := nthI_mem (by omega)
   have HS : Hid (chr (nthI l k) = true → (l.take (k + 1)).all chr = true) := fun hb => all_step (by omega) hall hb
   have HF : Hid (chr (nthI l k) = false → l.all chr = false) := fun hb => all_bad (by omega) hb
   clear hcell hr hall
   generalize nthI l k = x at *
   cases hp : chr x with
   | true =>
    have hall' := HS.out hp
    go_wp2_with (first | (go_at_call 157; refine (isCharacter_any _ _).mono ?_; rintro e w' ⟨rfl, rfl⟩; rw [hp]))
    go_roundw
    case rel => exact ⟨k + 1, by omega, by go_num, hall', hbel⟩
    case measure => simp [intOf]; omega
   | false =>
    clear HS
    go_wp2_with (first | (go_at_call 157; refine (isCharacter_any _ _).mono ?_; rintro e w' ⟨rfl, rfl⟩; rw [hp]))
    go_ret
    exact ⟨by rw [HF.out hp]; rfl, hbel⟩
  ·have hkk : k = n := by omega
   subst hkk
   have HA : Hid (l.all chr = true) := all_end hl hall
   go_wp2
   go_ret
   exact ⟨by rw [HA.out]; rfl, hbel⟩
def leB (m c : Int) : Bool := decide (c ≤ m)
theorem singleHas_le (m c : Int) (w : World) : Calls Tryz.prog 194 #[.agg #[.int .i64 m], .int .i64 c] w fun e w' => e = .returned (.bool (leB m c)) ∧ Below w.heap.size w w' := singleHas_any m c w
def cyB (c : Int) : Bool := decide (0 ≤ cyr c)
theorem cyrHas_cy (c : Int) (w : World) (hc : 0 ≤ c) : Calls Tryz.prog 197 #[.agg #[], .int .i64 c] w fun e w' => e = .returned (.bool (cyB c)) ∧ Below w.heap.size w w' := cyrHas_any c w hc
def anyB (_ : Int) : Bool := true
theorem utf8Has_b (c : Int) (w : World) : Calls Tryz.prog 200 #[.agg #[], .int .i64 c] w fun e w' => e = .returned (.bool (anyB c)) ∧ Below w.heap.size w w' := utf8Has_any c w
theorem utf16Has_b (c : Int) (w : World) : Calls Tryz.prog 203 #[.agg #[], .int .i64 c] w fun e w' => e = .returned (.bool (anyB c)) ∧ Below w.heap.size w w' := utf16Has_any c w
set_option maxHeartbeats 1600000 in
set_option maxRecDepth 100000 in
theorem areAll_single (a : Option Addr) (n cap : Nat) (l : List Int) (w : World) (hl : l.length = n) (hr : RdI w a l) (hn : n ≤ 1048576) (m : Int) :
  Calls Tryz.prog 98 #[.slice a n cap, .func (.method "loop.example/g00447/impl.has") #[.iface 230 (.agg #[.int .i64 m])] #[]] w fun e w' => e = .returned (.bool (l.all (leB m))) ∧ Below w.heap.size w w' := by
 go_enter Tryz.func98, Tryz.ntmps98
 go_wp2
 go_loopw [9] (fun v9 wr => ∃ k : Nat, k ≤ n ∧ v9 = .int .i64 k ∧ (l.take k).all (leB m) = true ∧ Below w.heap.size w wr) (fun v9 _ => n - (intOf v9).toNat)
 case atStart => exact ⟨0, Nat.zero_le _, rfl, by simp, Below.refl _ _⟩
 case round =>
  obtain ⟨k, hk, rfl, hall, hbel⟩ := hrel
  by_cases hkn : k < n
  ·obtain ⟨b, off, rfl, hblt, hcell⟩ := hr.at_ (by omega)
   have hc : wr.cell? ⟨b, off + k, none⟩ = some (.int .i64 (nthI l k)) := (hbel.cell (p := ⟨b, off + k, none⟩) hblt).trans (hcell k (by omega))
   have hmem : nthI l k ∈ l := nthI_mem (by omega)
   have HS : Hid ((leB m) (nthI l k) = true → (l.take (k + 1)).all (leB m) = true) := fun hb => all_step (by omega) hall hb
   have HF : Hid ((leB m) (nthI l k) = false → l.all (leB m) = false) := fun hb => all_bad (by omega) hb
   clear hcell hr hall
   generalize nthI l k = x at *
   cases hp : (leB m) x with
   | true =>
    have hall' := HS.out hp
    go_wp2_with (first | (go_at_call 194; refine (singleHas_le m x _).mono ?_; rintro e w' ⟨rfl, hb⟩; rw [hp]))
    go_roundw
    case rel => exact ⟨k + 1, by omega, by go_num, hall', hbel.trans (hb.mono hbel.size)⟩
    case measure => simp [intOf]; omega
   | false =>
    clear HS
    go_wp2_with (first | (go_at_call 194; refine (singleHas_le m x _).mono ?_; rintro e w' ⟨rfl, hb⟩; rw [hp]))
    go_ret
    exact ⟨by rw [HF.out hp]; rfl, hbel.trans (hb.mono hbel.size)⟩
  ·have hkk : k = n := by omega
   subst hkk
   have HA : Hid (l.all (leB m) = true) := all_end hl hall
   go_wp2
   go_ret
   exact ⟨by rw [HA.out]; rfl, hbel⟩
set_option maxHeartbeats 1600000 in
set_option maxRecDepth 100000 in
theorem areAll_cyr (a : Option Addr) (n cap : Nat) (l : List Int) (w : World) (hl : l.length = n) (hr : RdI w a l) (hn : n ≤ 1048576) (h0 : ∀ x ∈ l, 0 ≤ x) :
  Calls Tryz.prog 98 #[.slice a n cap, .func (.method "loop.example/g00447/impl.has") #[.iface 231 (.agg #[])] #[]] w fun e w' => e = .returned (.bool (l.all cyB)) ∧ Below w.heap.size w w' := by
 go_enter Tryz.func98, Tryz.ntmps98
 go_wp2
 go_loopw [9] (fun v9 wr => ∃ k : Nat, k ≤ n ∧ v9 = .int .i64 k ∧ (l.take k).all cyB = true ∧ Below w.heap.size w wr) (fun v9 _ => n - (intOf v9).toNat)
 case atStart => exact ⟨0, Nat.zero_le _, rfl, by simp, Below.refl _ _⟩
 case round =>
  obtain ⟨k, hk, rfl, hall, hbel⟩ := hrel
  by_cases hkn : k < n
  ·obtain ⟨b, off, rfl, hblt, hcell⟩ := hr.at_ (by omega)
   have hc : wr.cell? ⟨b, off + k, none⟩ = some (.int .i64 (nthI l k)) := (hbel.cell (p := ⟨b, off + k, none⟩) hblt).trans (hcell k (by omega))
   have hmem : nthI l k ∈ l := nthI_mem (by omega)
   have HS : Hid (cyB (nthI l k) = true → (l.take (k + 1)).all cyB = true) := fun hb => all_step (by omega) hall hb
   have HF : Hid (cyB (nthI l k) = false → l.all cyB = false) := fun hb => all_bad (by omega) hb
   clear hcell hr hall
   generalize nthI l k = x at *
   cases hp : cyB x with
   | true =>
    have hall' := HS.out hp
    go_wp2_with (first | (go_at_call 197; refine (cyrHas_cy x _ (h0 _ hmem)).mono ?_; rintro e w' ⟨rfl, hb⟩; rw [hp]))
    go_roundw
    case rel => exact ⟨k + 1, by omega, by go_num, hall', hbel.trans (hb.mono hbel.size)⟩
    case measure => simp [intOf]; omega
   | false =>
    clear HS
    go_wp2_with (first | (go_at_call 197; refine (cyrHas_cy x _ (h0 _ hmem)).mono ?_; rintro e w' ⟨rfl, hb⟩; rw [hp]))
    go_ret
    exact ⟨by rw [HF.out hp]; rfl, hbel.trans (hb.mono hbel.size)⟩
  ·have hkk : k = n := by omega
   subst hkk
   have HA : Hid (l.all cyB = true) := all_end hl hall
   go_wp2
   go_ret
   exact ⟨by rw [HA.out]; rfl, hbel⟩
set_option maxHeartbeats 1600000 in
set_option maxRecDepth 100000 in
theorem areAll_utf8 (a : Option Addr) (n cap : Nat) (l : List Int) (w : World) (hl : l.length = n) (hr : RdI w a l) (hn : n ≤ 1048576) :
  Calls Tryz.prog 98 #[.slice a n cap, .func (.method "loop.example/g00447/impl.has") #[.iface 232 (.agg #[])] #[]] w fun e w' => e = .returned (.bool (l.all anyB)) ∧ Below w.heap.size w w' := by
 go_enter Tryz.func98, Tryz.ntmps98
 go_wp2
 go_loopw [9] (fun v9 wr => ∃ k : Nat, k ≤ n ∧ v9 = .int .i64 k ∧ (l.take k).all anyB = true ∧ Below w.heap.size w wr) (fun v9 _ => n - (intOf v9).toNat)
 case atStart => exact ⟨0, Nat.zero_le _, rfl, by simp, Below.refl _ _⟩
 case round =>
  obtain ⟨k, hk, rfl, hall, hbel⟩ := hrel
  by_cases hkn : k < n
  ·obtain ⟨b, off, rfl, hblt, hcell⟩ := hr.at_ (by omega)
   have hc : wr.cell? ⟨b, off + k, none⟩ = some (.int .i64 (nthI l k)) := (hbel.cell (p := ⟨b, off + k, none⟩) hblt).trans (hcell k (by omega))
   have hmem : nthI l k ∈ l := nthI_mem (by omega)
   have HS : Hid (anyB (nthI l k) = true → (l.take (k + 1)).all anyB = true) := fun hb => all_step (by omega) hall hb
   have HF : Hid (anyB (nthI l k) = false → l.all anyB = false) := fun hb => all_bad (by omega) hb
   clear hcell hr hall
   generalize nthI l k = x at *
   cases hp : anyB x with
   | true =>
    have hall' := HS.out hp
    go_wp2_with (first | (go_at_call 200; refine (utf8Has_b x _).mono ?_; rintro e w' ⟨rfl, hb⟩; rw [hp]))
    go_roundw
    case rel => exact ⟨k + 1, by omega, by go_num, hall', hbel.trans (hb.mono hbel.size)⟩
    case measure => simp [intOf]; omega
   | false =>
    clear HS
    go_wp2_with (first | (go_at_call 200; refine (utf8Has_b x _).mono ?_; rintro e w' ⟨rfl, hb⟩; rw [hp]))
    go_ret
    exact ⟨by rw [HF.out hp]; rfl, hbel.trans (hb.mono hbel.size)⟩
  ·have hkk : k = n := by omega
   subst hkk
   have HA : Hid (l.all anyB = true) := all_end hl hall
   go_wp2
   go_ret
   exact ⟨by rw [HA.out]; rfl, hbel⟩
set_option maxHeartbeats 1600000 in
set_option maxRecDepth 100000 in
theorem areAll_utf16 (a : Option Addr) (n cap : Nat) (l : List Int) (w : World) (hl : l.length = n) (hr : RdI w a l) (hn : n ≤ 1048576) :
  Calls Tryz.prog 98 #[.slice a n cap, .func (.method "loop.example/g00447/impl.has") #[.iface 233 (.agg #[])] #[]] w fun e w' => e = .returned (.bool (l.all anyB)) ∧ Below w.heap.size w w' := by
 go_enter Tryz.func98, Tryz.ntmps98
 go_wp2
 go_loopw [9] (fun v9 wr => ∃ k : Nat, k ≤ n ∧ v9 = .int .i64 k ∧ (l.take k).all anyB = true ∧ Below w.heap.size w wr) (fun v9 _ => n - (intOf v9).toNat)
 case atStart => exact ⟨0, Nat.zero_le _, rfl, by simp, Below.refl _ _⟩
 case round =>
  obtain ⟨k, hk, rfl, hall, hbel⟩ := hrel
  by_cases hkn : k < n
  ·obtain ⟨b, off, rfl, hblt, hcell⟩ := hr.at_ (by omega)
   have hc : wr.cell? ⟨b, off + k, none⟩ = some (.int .i64 (nthI l k)) := (hbel.cell (p := ⟨b, off + k, none⟩) hblt).trans (hcell k (by omega))
   have hmem : nthI l k ∈ l := nthI_mem (by omega)
   have HS : Hid (anyB (nthI l k) = true → (l.take (k + 1)).all anyB = true) := fun hb => all_step (by omega) hall hb
   have HF : Hid (anyB (nthI l k) = false → l.all anyB = false) := fun hb => all_bad (by omega) hb
   clear hcell hr hall
   generalize nthI l k = x at *
   cases hp : anyB x with
   | true =>
    have hall' := HS.out hp
    go_wp2_with (first | (go_at_call 203; refine (utf16Has_b x _).mono ?_; rintro e w' ⟨rfl, hb⟩; rw [hp]))
    go_roundw
    case rel => exact ⟨k + 1, by omega, by go_num, hall', hbel.trans (hb.mono hbel.size)⟩
    case measure => simp [intOf]; omega
   | false =>
    clear HS
    go_wp2_with (first | (go_at_call 203; refine (utf16Has_b x _).mono ?_; rintro e w' ⟨rfl, hb⟩; rw [hp]))
    go_ret
    exact ⟨by rw [HF.out hp]; rfl, hbel.trans (hb.mono hbel.size)⟩
  ·have hkk : k = n := by omega
   subst hkk
   have HA : Hid (l.all anyB = true) := all_end hl hall
   go_wp2
   go_ret
   exact ⟨by rw [HA.out]; rfl, hbel⟩
end Go.Proofs.YtjogclofjollnaaGreatDoor
namespace Go.Proofs.YtjogclofjollnaaGreatDoor
open Go.RowKit
def flt (l : List Int) : Int := if 400 < l.length then 2 else if l.all chr then 0 else 3
theorem flt_many {l : List Int} (h : 400 < l.length) : flt l = 2 := if_pos h
theorem flt_ok {l : List Int} (h : ¬ 400 < l.length) (ha : l.all chr = true) : flt l = 0 := by unfold flt; rw [if_neg h, if_pos ha]
theorem flt_bad {l : List Int} (h : ¬ 400 < l.length) (ha : l.all chr = false) : flt l = 3 := by unfold flt; rw [if_neg h, ha]; rfl
theorem ret_intB {b b' : Int} {w w' : World} {n : Nat} (h : b = b') (hb : Below n w w') : Ending.returned (Value.int .i64 b) = .returned (.int .i64 b') ∧ Below n w w' := ⟨by rw [h], hb⟩
set_option maxHeartbeats 1600000 in
set_option maxRecDepth 100000 in
theorem codesFault_any (a : Option Addr) (n cap : Nat) (l : List Int) (w : World) (hl : l.length = n) (hr : RdI w a l) (hn : n ≤ 1048576) :
  Calls Tryz.prog 155 #[.slice a n cap] w fun e w' => e = .returned (.int .i64 (flt l)) ∧ Below w.heap.size w w' := by
 by_cases h4 : 400 < n
 ·have h4' : (400 : Int) < (n : Int) := by omega
  rw [flt_many (by omega)]
  go_enter Tryz.func155, Tryz.ntmps155
  go_wp2
  go_ret
  exact ret_intB rfl (Below.refl _ _)
 ·have h4' : ¬ (400 : Int) < (n : Int) := by omega
  cases ha : l.all chr with
  | true =>
   rw [flt_ok (by omega) ha]
   go_enter Tryz.func155, Tryz.ntmps155
   go_wp2_with (first | (go_at_call 98; refine (areAll_char a n cap l _ hl hr hn).mono ?_; rintro e w' ⟨rfl, hb⟩; rw [ha]))
   go_ret
   exact ret_intB rfl hb
  | false =>
   rw [flt_bad (by omega) ha]
   go_enter Tryz.func155, Tryz.ntmps155
   go_wp2_with (first | (go_at_call 98; refine (areAll_char a n cap l _ hl hr hn).mono ?_; rintro e w' ⟨rfl, hb⟩; rw [ha]))
   go_ret
   exact ret_intB rfl hb
end Go.Proofs.YtjogclofjollnaaGreatDoor
