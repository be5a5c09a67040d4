/- The digit of each number from 0 to 63, as the program's table and the model's text have it: the two are one; the number is 0 to 63 · EncodeQuoted, the program's and the model's: of at most 400 bytes each answers their quoted text, of more the code 2; slices of at most 1048576 bytes · The parts of DecodeQuoted, the program's: a digit's value, a line that is broken, a byte that is quoted; slices of at least one byte. -/
import Derived.Test.YtknbndebfickpaaGreatDoorMath
import Derived.Test.YtknbndebfickpaaGreatDoorFltToPln
import Derived.Handy
import Derived.Test.YtknbndebfickpaaGreatDoorApp
import Derived.Test.YtknbndebfickpaaGreatDoorWrdToWPl
import Derived.Laws.BitsAllLaws
import Derived.WalkLawsBesides
namespace Go.Proofs.YtknbndebfickpaaGreatDoor
open Go.RowKit

theorem ret_intD {k : IntKind} {a b : Int} (h : a = b) : Ending.returned (.int k a) = .returned (.int k b) := by rw [h]
theorem base_text (k : Nat) (h : k < 64) : ((⟨#[65, 66, 67, 68, 69, 70, 71, 72, 73, 74, 75, 76, 77, 78, 79, 80, 81, 82, 83, 84, 85, 86, 87, 88, 89, 90, 97, 98, 99, 100, 101, 102, 103, 104, 105, 106, 107, 108, 109, 110, 111, 112, 113, 114, 115, 116, 117, 118, 119, 120, 121, 122, 48, 49, 50, 51, 52, 53, 54, 55, 56, 57, 43, 47]⟩ : ByteArray)[k]'h).toNat = Xf.dig k := by
  have : ∀ k (h : k < 64), ((⟨#[65, 66, 67, 68, 69, 70, 71, 72, 73, 74, 75, 76, 77, 78, 79, 80, 81, 82, 83, 84, 85, 86, 87, 88, 89, 90, 97, 98, 99, 100, 101, 102, 103, 104, 105, 106, 107, 108, 109, 110, 111, 112, 113, 114, 115, 116, 117, 118, 119, 120, 121, 122, 48, 49, 50, 51, 52, 53, 54, 55, 56, 57, 43, 47]⟩ : ByteArray)[k]'h).toNat = Xf.dig k := by decide +kernel
  exact this k h

/-- The table as the row lists it. -/
def tabI : List Int := [65, 66, 67, 68, 69, 70, 71, 72, 73, 74, 75, 76, 77, 78, 79, 80, 81, 82, 83, 84, 85, 86, 87, 88, 89, 90, 97, 98, 99, 100, 101, 102, 103, 104, 105, 106, 107, 108, 109, 110, 111, 112, 113, 114, 115, 116, 117, 118, 119, 120, 121, 122, 48, 49, 50, 51, 52, 53, 54, 55, 56, 57, 43, 47]
theorem tabI_len : tabI.length = 64 := by decide
theorem tabI_get (v : Nat) (h : v < 64) : tabI.getD v 0 = (Xf.dig v : Int) := by
  have : ∀ v, v < 64 → tabI.getD v 0 = (Xf.dig v : Int) := by decide +kernel
  exact this v h
/-- THE TABLE OF DIGITS LIES IN ITS VARIABLE. -/
def TabB (w : World) : Prop := ∀ v, v < 64 → w.cell? ⟨0, v, none⟩ = some (.int .u8 (Xf.dig v : Int))
theorem TabB.below {w w' : World} (h : TabB w) (hb : Below w.heap.size w w') : TabB w' := fun v hv =>
  (hb.cell (p := ⟨0, v, none⟩) (World.block_lt_of_cell? w ⟨0, 0, none⟩ (h 0 (by decide)))).trans (h v hv)

set_option maxHeartbeats 800000 in
set_option maxRecDepth 100000 in
theorem l1Base_any (k : Nat) (h : k < 64) (w : World) : Calls Tryz.prog 64 #[.int .i64 (k : Int)] w fun e w' => e = .returned (.int .u8 (Xf.dig k : Int)) ∧ w' = w := by
  have h' : (k : Int) < 64 := by omega
  go_enter Tryz.func64, Tryz.ntmps64
  go_wp2
  go_ret
  exact ⟨ret_intD (by rw [← base_text k h]), rfl⟩

/-- What BaseDigit answers. -/
def digV (v : Int) : Value := if 0 ≤ v ∧ v ≤ 63 then .agg #[.int .i64 0, .int .i64 (Xf.dig v.toNat : Int)] else .agg #[.int .i64 3, .int .i64 0]
theorem digV_in {v : Int} (h : 0 ≤ v ∧ v ≤ 63) : digV v = .agg #[.int .i64 0, .int .i64 (Xf.dig v.toNat : Int)] := if_pos h
theorem digV_out {v : Int} (h : ¬ (0 ≤ v ∧ v ≤ 63)) : digV v = .agg #[.int .i64 3, .int .i64 0] := if_neg h

/-- A number lies between two others: a plain word, so that no walk opens it. -/
def inD (v a b : Int) : Bool := decide (a ≤ v ∧ v ≤ b)
theorem inD_yes {v a b : Int} (h : a ≤ v ∧ v ≤ b) : inD v a b = true := decide_eq_true h
theorem inD_no {v a b : Int} (h : ¬ (a ≤ v ∧ v ≤ b)) : inD v a b = false := decide_eq_false h
theorem ret_boolD {a b : Bool} (h : a = b) : Ending.returned (.bool a) = .returned (.bool b) := by rw [h]

theorem l1In_dig (v a b : Int) (w : World) : Calls Tryz.prog 61 #[.int .i64 v, .int .i64 a, .int .i64 b] w fun e w' => e = .returned (.bool (inD v a b)) ∧ w' = w := by
  by_cases h1 : a ≤ v
  · by_cases h2 : v ≤ b
    · have H : Hid (inD v a b = true) := inD_yes ⟨h1, h2⟩
      go_enter Tryz.func61, Tryz.ntmps61
      go_wp2
      go_ret
      exact ⟨by rw [H.out]; rfl, rfl⟩
    · have H : Hid (inD v a b = false) := inD_no (fun h => h2 h.2)
      go_enter Tryz.func61, Tryz.ntmps61
      go_wp2
      go_ret
      exact ⟨by rw [H.out]; rfl, rfl⟩
  · have H : Hid (inD v a b = false) := inD_no (fun h => h1 h.1)
    go_enter Tryz.func61, Tryz.ntmps61
    go_wp2
    go_ret
    exact ⟨by rw [H.out]; rfl, rfl⟩

theorem digV_form (v : Int) : ∃ c x : Int, digV v = .agg #[.int .i64 c, .int .i64 x] := by
  by_cases h : 0 ≤ v ∧ v ≤ 63
  · exact ⟨_, _, digV_in h⟩
  · exact ⟨_, _, digV_out h⟩
end Go.Proofs.YtknbndebfickpaaGreatDoor

namespace Go.Proofs.YtknbndebfickpaaGreatDoor
open Go.RowKit

/-- Does the first byte of l stand as itself? -/
def selfL (l : List Nat) : Bool := Xq.self (nth l 0) (l.drop 1)
theorem selfL_lf {l : List Nat} (h : nth l 0 = 10) : selfL l = true := by simp [selfL, Xq.self, h]
theorem selfL_bl {l : List Nat} (h : nth l 0 = 32 ∨ nth l 0 = 9) (hn : 1 < l.length) (hc : nth l 1 ≠ 10) : selfL l = true := by
  have h1 : nth l 0 ≠ 10 := by omega
  unfold selfL Xq.self
  rw [if_neg h1, if_pos h]
  exact decide_eq_true ⟨by simp; omega, by rw [nth_drop]; exact hc⟩
theorem selfL_bl_no {l : List Nat} (h : nth l 0 = 32 ∨ nth l 0 = 9) (hc : ¬ (1 < l.length ∧ nth l 1 ≠ 10)) : selfL l = false := by
  have h1 : nth l 0 ≠ 10 := by omega
  unfold selfL Xq.self
  rw [if_neg h1, if_pos h]
  refine decide_eq_false (fun hh => hc ⟨?_, ?_⟩)
  · have := hh.1; simp at this; omega
  · have := hh.2; rw [nth_drop] at this; exact this
theorem selfL_other {l : List Nat} (h1 : nth l 0 ≠ 10) (h2 : ¬ (nth l 0 = 32 ∨ nth l 0 = 9)) : selfL l = decide (33 ≤ nth l 0 ∧ nth l 0 ≤ 126 ∧ nth l 0 ≠ 61) := by
  unfold selfL Xq.self
  rw [if_neg h1, if_neg h2]

set_option maxHeartbeats 1600000 in
set_option maxRecDepth 100000 in
theorem stands_any (a : Option Addr) (n cap : Nat) (l : List Nat) (w : World) (hl : l.length = n) (hr : Rd w a l) (hp : 0 < n) :
    Calls Tryz.prog 97 #[.slice a n cap] w fun e w' => e = .returned (.bool (selfL l)) ∧ w' = w := by
  obtain ⟨b, off, rfl, _, hcell⟩ := hr.at_ (by omega)
  have hc0 := hcell 0 (by omega)
  rw [Nat.add_zero] at hc0
  have hp' : (0 : Int) < (n : Int) := by omega
  by_cases h10 : nth l 0 = 10
  · have H : Hid (selfL l = true) := selfL_lf h10
    rw [h10] at hc0
    clear hcell
    go_enter Tryz.func97, Tryz.ntmps97
    go_wp2
    go_ret
    exact ⟨by rw [H.out]; rfl, rfl⟩
  · have e10 : (((nth l 0 : Nat) : Int) == 10) = false := beq_eq_false_iff_ne.2 (by omega)
    by_cases hbl : nth l 0 = 32 ∨ nth l 0 = 9
    · by_cases hn1 : 1 < n
      · have hc1 := hcell 1 (by omega)
        have hn1' : (1 : Int) < (n : Int) := by omega
        by_cases hc : nth l 1 = 10
        · have H : Hid (selfL l = false) := selfL_bl_no hbl (by omega)
          rw [hc] at hc1
          clear hcell
          rcases hbl with h | h
          all_goals
            rw [h] at hc0
            go_enter Tryz.func97, Tryz.ntmps97
            go_wp2
            go_ret
            exact ⟨by rw [H.out]; rfl, rfl⟩
        · have H : Hid (selfL l = true) := selfL_bl hbl (by omega) hc
          have ec : (((nth l 1 : Nat) : Int) == 10) = false := beq_eq_false_iff_ne.2 (by omega)
          clear hcell
          rcases hbl with h | h
          all_goals
            rw [h] at hc0
            go_enter Tryz.func97, Tryz.ntmps97
            go_wp2
            go_ret
            exact ⟨by rw [H.out]; simp; omega, rfl⟩
      · have H : Hid (selfL l = false) := selfL_bl_no hbl (by omega)
        have hn1' : ¬ (1 : Int) < (n : Int) := by omega
        clear hcell
        rcases hbl with h | h
        all_goals
          rw [h] at hc0
          go_enter Tryz.func97, Tryz.ntmps97
          go_wp2
          go_ret
          exact ⟨by rw [H.out]; rfl, rfl⟩
    · have hs := selfL_other h10 hbl
      have e32 : (((nth l 0 : Nat) : Int) == 32) = false := beq_eq_false_iff_ne.2 (by omega)
      have e9 : (((nth l 0 : Nat) : Int) == 9) = false := beq_eq_false_iff_ne.2 (by omega)
      clear hcell
      by_cases h33 : 33 ≤ nth l 0
      · have h33' : (33 : Int) ≤ ((nth l 0 : Nat) : Int) := by omega
        by_cases h126 : nth l 0 ≤ 126
        · have h126' : ((nth l 0 : Nat) : Int) ≤ 126 := by omega
          by_cases h61 : nth l 0 = 61
          · have H : Hid (selfL l = false) := hs.trans (decide_eq_false (fun h => h.2.2 h61))
            clear hs e10 e32 e9
            rw [h61] at hc0
            go_enter Tryz.func97, Tryz.ntmps97
            go_wp2
            go_ret
            exact ⟨by rw [H.out]; rfl, rfl⟩
          · have H : Hid (selfL l = true) := hs.trans (decide_eq_true ⟨h33, h126, h61⟩)
            have e61 : (((nth l 0 : Nat) : Int) == 61) = false := beq_eq_false_iff_ne.2 (by omega)
            clear hs
            go_enter Tryz.func97, Tryz.ntmps97
            go_wp2
            go_ret
            exact ⟨by rw [H.out]; simp; omega, rfl⟩
        · have H : Hid (selfL l = false) := hs.trans (decide_eq_false (fun h => h126 h.2.1))
          have h126' : ¬ ((nth l 0 : Nat) : Int) ≤ 126 := by omega
          clear hs
          go_enter Tryz.func97, Tryz.ntmps97
          go_wp2
          go_ret
          exact ⟨by rw [H.out]; rfl, rfl⟩
      · have H : Hid (selfL l = false) := hs.trans (decide_eq_false (fun h => h33 h.1))
        have h33' : ¬ (33 : Int) ≤ ((nth l 0 : Nat) : Int) := by omega
        clear hs
        go_enter Tryz.func97, Tryz.ntmps97
        go_wp2
        go_ret
        exact ⟨by rw [H.out]; rfl, rfl⟩

theorem hex_text (k : Nat) (h : k < 16) : ((⟨#[48, 49, 50, 51, 52, 53, 54, 55, 56, 57, 65, 66, 67, 68, 69, 70]⟩ : ByteArray)[k]'h).toNat = Xq.hex k := by
  have : ∀ k (h : k < 16), ((⟨#[48, 49, 50, 51, 52, 53, 54, 55, 56, 57, 65, 66, 67, 68, 69, 70]⟩ : ByteArray)[k]'h).toNat = Xq.hex k := by decide +kernel
  exact this k h
/-- The table as the row lists it. -/
def tabHI : List Int := [48, 49, 50, 51, 52, 53, 54, 55, 56, 57, 65, 66, 67, 68, 69, 70]
theorem tabHI_len : tabHI.length = 16 := by decide
theorem tabHI_get (v : Nat) (h : v < 16) : tabHI.getD v 0 = (Xq.hex v : Int) := by
  have : ∀ v, v < 16 → tabHI.getD v 0 = (Xq.hex v : Int) := by decide +kernel
  exact this v h
/-- THE TABLE OF HEXADECIMAL DIGITS LIES IN ITS VARIABLE. -/
def TabH (w : World) : Prop := ∀ v, v < 16 → w.cell? ⟨5, v, none⟩ = some (.int .u8 (Xq.hex v : Int))
theorem TabH.lt {w : World} (h : TabH w) : 5 < w.heap.size := World.block_lt_of_cell? w ⟨5, 0, none⟩ (h 0 (by decide))
theorem TabH.below {w w' : World} (h : TabH w) (hb : Below w.heap.size w w') : TabH w' := fun v hv =>
  (hb.cell (p := ⟨5, v, none⟩) h.lt).trans (h v hv)

/-- What is still to be told, byte by byte. -/
theorem quo_step_self {l : List Nat} {k : Nat} (hk : k < l.length) (h : selfL (l.drop k) = true) : Xq.quo (l.drop k) = nth l k :: Xq.quo (l.drop (k + 1)) := by
  have e0 : nth (l.drop k) 0 = nth l k := by rw [nth_drop, Nat.add_zero]
  have e1 : (l.drop k).drop 1 = l.drop (k + 1) := by rw [List.drop_drop]
  unfold selfL at h
  rw [e0, e1] at h
  rw [drop_cons l k hk, Xq.quo, if_pos h]
theorem quo_step_hex {l : List Nat} {k : Nat} (hk : k < l.length) (h : selfL (l.drop k) = false) : Xq.quo (l.drop k) = 61 :: Xq.hex (nth l k / 16) :: Xq.hex (nth l k % 16) :: Xq.quo (l.drop (k + 1)) := by
  have e0 : nth (l.drop k) 0 = nth l k := by rw [nth_drop, Nat.add_zero]
  have e1 : (l.drop k).drop 1 = l.drop (k + 1) := by rw [List.drop_drop]
  unfold selfL at h
  rw [e0, e1] at h
  rw [drop_cons l k hk, Xq.quo, if_neg (by rw [h]; simp)]

end Go.Proofs.YtknbndebfickpaaGreatDoor

namespace Go.Proofs.YtknbndebfickpaaGreatDoor
open Go.RowKit

/-- Does r begin with a fill and a line feed? -/
def brk (r : List Nat) : Bool := decide (2 ≤ r.length ∧ nth r 0 = 61 ∧ nth r 1 = 10)
/-- The byte that r begins with, quoted. -/
def rdq (r : List Nat) : Option Nat :=
  if 3 ≤ r.length ∧ nth r 0 = 61 ∧ Xq.unhex (nth r 1) < 16 ∧ Xq.unhex (nth r 2) < 16 then some (Xq.unhex (nth r 1) * 16 + Xq.unhex (nth r 2)) else none

theorem unq_step_self {r : List Nat} (hp : 0 < r.length) (h : selfL r = true) : Xq.unq r = (Xq.unq (r.drop 1)).map (nth r 0 :: ·) := by
  match r, hp with
  | c :: r, _ => exact Xq.unq_self (by simpa [selfL, nth] using h)
theorem unq_step_brk {r : List Nat} (h : brk r = true) : Xq.unq r = Xq.unq (r.drop 2) := by
  have h' := of_decide_eq_true h
  match r, h' with
  | c :: d :: r, h' =>
    obtain ⟨_, h1, h2⟩ := h'
    simp only [nth, List.getD_cons_zero, List.getD_cons_succ] at h1 h2
    subst h1 h2
    simpa using Xq.unq_break r
theorem unq_step_hex {r : List Nat} {x : Nat} (hb : brk r = false) (h : rdq r = some x) : Xq.unq r = (Xq.unq (r.drop 3)).map (x :: ·) := by
  unfold rdq at h
  split at h
  · rename_i hh
    obtain ⟨h3, h0, h1, h2⟩ := hh
    have hb' := of_decide_eq_false hb
    match r, h3 with
    | c :: d :: e :: r, _ =>
      simp only [nth, List.getD_cons_zero, List.getD_cons_succ] at h0 h1 h2 hb' h
      subst h0
      have hd : d ≠ 10 := fun hd => hb' ⟨by simp, rfl, hd⟩
      rw [Xq.unq_byte hd ⟨h1, h2⟩]
      simp only [Option.some.injEq] at h
      rw [h]
      simp
  · cases h
theorem unq_step_bad {r : List Nat} (hp : 0 < r.length) (hs : selfL r = false) (hb : brk r = false) (h : rdq r = none) : Xq.unq r = none := by
  have hb' := of_decide_eq_false hb
  unfold rdq at h
  split at h
  · cases h
  · rename_i hh
    match r, hp with
    | c :: r, _ =>
      have hs' : Xq.self c r = false := by simpa [selfL, nth] using hs
      by_cases hc : c = 61
      · subst hc
        match r with
        | [] => exact Xq.unq_short1
        | [d] =>
          have hd : d ≠ 10 := fun hd => hb' ⟨by simp, by simp [nth], by simpa [nth] using hd⟩
          exact Xq.unq_short2 hd
        | d :: e :: r =>
          have hd : d ≠ 10 := fun hd => hb' ⟨by simp, by simp [nth], by simpa [nth] using hd⟩
          exact Xq.unq_bad hd (fun h2 => hh ⟨by simp, by simp [nth], by simpa [nth] using h2.1, by simpa [nth] using h2.2⟩)
      · exact Xq.unq_none hs' hc

/-- What hexValue answers. -/
def hexV (c : Nat) : Value := if Xq.unhex c < 16 then .tuple #[.int .u8 (Xq.unhex c : Int), .bool true] else .tuple #[.int .u8 0, .bool false]
theorem hexV_in {c : Nat} (h : Xq.unhex c < 16) : hexV c = .tuple #[.int .u8 (Xq.unhex c : Int), .bool true] := if_pos h
theorem hexV_out {c : Nat} (h : ¬ Xq.unhex c < 16) : hexV c = .tuple #[.int .u8 0, .bool false] := if_neg h

set_option maxHeartbeats 1600000 in
set_option maxRecDepth 100000 in
theorem hexValue_any (c : Nat) (w : World) (_hc : c < 256) (ht : TabH w) :
    Calls Tryz.prog 102 #[.int .u8 (c : Int)] w fun e w' =>
      e = .returned (hexV c) ∧ w = w' := by
  have hle := Xq.unhex_le c
  go_enter Tryz.func102, Tryz.ntmps102
  go_wp2
  go_loop [5] (fun i => ∃ k : Nat, k ≤ 16 ∧ k ≤ Xq.unhex c ∧ i = .int .u8 k) (fun i => 16 - (intOf i).toNat)
  case atStart => exact ⟨0, by omega, by omega, rfl⟩
  case round =>
    obtain ⟨k, hk, hku, rfl⟩ := hrel
    by_cases hk16 : k < 16
    · have hT := ht k hk16
      have hiff := Xq.hex_eq_iff hk16 hku
      have hi : (k : Int) < 16 := by omega
      by_cases he : k = Xq.unhex c
      · have e1 : ((Xq.hex k : Nat) : Int) = (c : Int) := by rw [hiff.2 he]
        have H : Hid (hexV c = .tuple #[.int .u8 (k : Int), .bool true]) := by
          show _ = _
          rw [hexV_in (by omega), he]
        rw [e1] at hT
        clear hiff he e1 ht
        go_wp2
        go_ret2
        exact ⟨by rw [H.out]; rfl, rfl⟩
      · have hne : Xq.hex k ≠ c := fun h => he (hiff.1 h)
        have e1 : (((Xq.hex k : Nat) : Int) == (c : Int)) = false := beq_eq_false_iff_ne.2 (by omega)
        have hlt : k + 1 ≤ Xq.unhex c := by omega
        clear hiff he ht
        go_wp2
        go_round
        case rel => exact ⟨k + 1, by omega, hlt, by go_num⟩
        case measure => simp [intOf]; omega
    · have hu : ¬ Xq.unhex c < 16 := by omega
      have hi : ¬ (k : Int) < 16 := by omega
      have H : Hid (hexV c = .tuple #[.int .u8 0, .bool false]) := hexV_out hu
      go_wp2
      go_ret2
      exact ⟨by rw [H.out]; rfl, rfl⟩

set_option maxHeartbeats 1600000 in
set_option maxRecDepth 100000 in
theorem breaksLine_any (a : Option Addr) (n cap : Nat) (l : List Nat) (w : World) (hl : l.length = n) (hr : Rd w a l) :
    Calls Tryz.prog 98 #[.slice a n cap] w fun e w' => e = .returned (.bool (brk l)) ∧ w = w' := by
  by_cases hn : 2 ≤ n
  · obtain ⟨b, off, rfl, _, hcell⟩ := hr.at_ (by omega)
    have c0 := hcell 0 (by omega)
    have c1 := hcell 1 (by omega)
    rw [Nat.add_zero] at c0
    have hn' : (2 : Int) ≤ (n : Int) := by omega
    have i0 : (0 : Int) < (n : Int) := by omega
    have i1 : (1 : Int) < (n : Int) := by omega
    clear hcell hr
    by_cases h0 : nth l 0 = 61
    · rw [h0] at c0
      by_cases h1 : nth l 1 = 10
      · have H : Hid (brk l = true) := decide_eq_true ⟨by omega, h0, h1⟩
        rw [h1] at c1
        go_enter Tryz.func98, Tryz.ntmps98
        go_wp2
        go_ret
        exact ⟨by rw [H.out]; rfl, rfl⟩
      · have H : Hid (brk l = false) := decide_eq_false (fun h => h1 h.2.2)
        have e1 : (((nth l 1 : Nat) : Int) == 10) = false := beq_eq_false_iff_ne.2 (by omega)
        go_enter Tryz.func98, Tryz.ntmps98
        go_wp2
        go_ret
        exact ⟨by rw [H.out]; simp, rfl⟩
    · have H : Hid (brk l = false) := decide_eq_false (fun h => h0 h.2.1)
      have e1 : (((nth l 0 : Nat) : Int) == 61) = false := beq_eq_false_iff_ne.2 (by omega)
      go_enter Tryz.func98, Tryz.ntmps98
      go_wp2
      go_ret
      exact ⟨by rw [H.out]; rfl, rfl⟩
  · have H : Hid (brk l = false) := decide_eq_false (fun h => hn (by omega))
    have hn' : ¬ (2 : Int) ≤ (n : Int) := by omega
    go_enter Tryz.func98, Tryz.ntmps98
    go_wp2
    go_ret
    exact ⟨by rw [H.out]; rfl, rfl⟩

/-- What readQuoted answers. -/
def rdqV (r : List Nat) : Value := match rdq r with
  | some x => .tuple #[.int .u8 (x : Int), .bool true]
  | none => .tuple #[.int .u8 0, .bool false]
theorem rdqV_some {r : List Nat} {x : Nat} (h : rdq r = some x) : rdqV r = .tuple #[.int .u8 (x : Int), .bool true] := by simp [rdqV, h]
theorem rdqV_none {r : List Nat} (h : rdq r = none) : rdqV r = .tuple #[.int .u8 0, .bool false] := by simp [rdqV, h]
theorem or_hex (x y : Nat) (hx : x < 16) (hy : y < 16) : Go.bits BinOp.or IntKind.u8 ((x : Int) * 16) (y : Int) = ((x * 16 + y : Nat) : Int) := by
  have := u8_or_nat (x * 16) y (by omega) (by omega)
  rw [show ((x * 16 : Nat) : Int) = (x : Int) * 16 by omega] at this
  rw [this]
  have h := Nat.shiftLeft_add_eq_or_of_lt (show y < 2 ^ 4 by omega) x
  rw [Nat.shiftLeft_eq] at h
  rw [show x * 16 = x * 2 ^ 4 from rfl, ← h]

set_option maxHeartbeats 1600000 in
set_option maxRecDepth 100000 in
theorem readQuoted_any (a : Option Addr) (n cap : Nat) (l : List Nat) (w : World) (hl : l.length = n) (hr : Rd w a l) (hB : IsB l) (hp : 0 < n) (ht : TabH w) :
    Calls Tryz.prog 99 #[.slice a n cap] w fun e w' => e = .returned (rdqV l) ∧ w = w' := by
  obtain ⟨b, off, rfl, _, hcell⟩ := hr.at_ (by omega)
  have c0 := hcell 0 (by omega)
  rw [Nat.add_zero] at c0
  have i0 : (0 : Int) < (n : Int) := by omega
  by_cases hn : 3 ≤ n
  · have c1 := hcell 1 (by omega)
    have c2 := hcell 2 (by omega)
    have hn' : ¬ (n : Int) < 3 := by omega
    have i1 : (1 : Int) < (n : Int) := by omega
    have i2 : (2 : Int) < (n : Int) := by omega
    have x1 := nth_lt hB 1
    have x2 := nth_lt hB 2
    clear hcell hr
    by_cases h0 : nth l 0 = 61
    · rw [h0] at c0
      by_cases h1 : Xq.unhex (nth l 1) < 16
      · have H1 : Hid (hexV (nth l 1) = .tuple #[.int .u8 (Xq.unhex (nth l 1) : Int), .bool true]) := hexV_in h1
        by_cases h2 : Xq.unhex (nth l 2) < 16
        · have H2 : Hid (hexV (nth l 2) = .tuple #[.int .u8 (Xq.unhex (nth l 2) : Int), .bool true]) := hexV_in h2
          have H : Hid (rdqV l = .tuple #[.int .u8 ((Xq.unhex (nth l 1) * 16 + Xq.unhex (nth l 2) : Nat) : Int), .bool true]) := rdqV_some (by unfold rdq; rw [if_pos ⟨by omega, h0, h1, h2⟩])
          have e1 := or_hex _ _ h1 h2
          obtain ⟨q, hq⟩ : ∃ q, q = Xq.unhex (nth l 1) * 16 + Xq.unhex (nth l 2) := ⟨_, rfl⟩
          rw [← hq] at e1 H
          clear hq
          go_enter Tryz.func99, Tryz.ntmps99
          go_wp2_with fail
          refine (hexValue_any (nth l 1) _ x1 ht).mono ?_
          rintro e w1 ⟨rfl, rfl⟩
          rw [H1.out]
          go_wp2_with fail
          refine (hexValue_any (nth l 2) _ x2 ht).mono ?_
          rintro e w1 ⟨rfl, rfl⟩
          rw [H2.out]
          go_wp2
          go_ret2
          exact ⟨by rw [H.out]; rfl, rfl⟩
        · have H2 : Hid (hexV (nth l 2) = .tuple #[.int .u8 0, .bool false]) := hexV_out h2
          have H : Hid (rdqV l = .tuple #[.int .u8 0, .bool false]) := rdqV_none (by unfold rdq; rw [if_neg (fun h => h2 h.2.2.2)])
          go_enter Tryz.func99, Tryz.ntmps99
          go_wp2_with fail
          refine (hexValue_any (nth l 1) _ x1 ht).mono ?_
          rintro e w1 ⟨rfl, rfl⟩
          rw [H1.out]
          go_wp2_with fail
          refine (hexValue_any (nth l 2) _ x2 ht).mono ?_
          rintro e w1 ⟨rfl, rfl⟩
          rw [H2.out]
          go_wp2
          go_ret2
          exact ⟨by rw [H.out]; rfl, rfl⟩
      · have H1 : Hid (hexV (nth l 1) = .tuple #[.int .u8 0, .bool false]) := hexV_out h1
        have H : Hid (rdqV l = .tuple #[.int .u8 0, .bool false]) := rdqV_none (by unfold rdq; rw [if_neg (fun h => h1 h.2.2.1)])
        obtain ⟨u, hu⟩ : ∃ u b, hexV (nth l 2) = .tuple #[.int .u8 u, .bool b] := by
          by_cases h2 : Xq.unhex (nth l 2) < 16
          · exact ⟨_, _, hexV_in h2⟩
          · exact ⟨_, _, hexV_out h2⟩
        obtain ⟨bb, hu⟩ := hu
        have H2 : Hid (hexV (nth l 2) = .tuple #[.int .u8 u, .bool bb]) := hu
        clear hu
        go_enter Tryz.func99, Tryz.ntmps99
        go_wp2_with fail
        refine (hexValue_any (nth l 1) _ x1 ht).mono ?_
        rintro e w1 ⟨rfl, rfl⟩
        rw [H1.out]
        go_wp2_with fail
        refine (hexValue_any (nth l 2) _ x2 ht).mono ?_
        rintro e w1 ⟨rfl, rfl⟩
        rw [H2.out]
        go_wp2
        go_ret2
        exact ⟨by rw [H.out]; rfl, rfl⟩
    · have H : Hid (rdqV l = .tuple #[.int .u8 0, .bool false]) := rdqV_none (by unfold rdq; rw [if_neg (fun h => h0 h.2.1)])
      have e1 : (((nth l 0 : Nat) : Int) != 61) = true := by rw [bne_iff_ne]; omega
      go_enter Tryz.func99, Tryz.ntmps99
      go_wp2
      go_ret2
      exact ⟨by rw [H.out]; rfl, rfl⟩
  · have H : Hid (rdqV l = .tuple #[.int .u8 0, .bool false]) := rdqV_none (by unfold rdq; rw [if_neg (fun h => hn (by omega))])
    have hn' : (n : Int) < 3 := by omega
    go_enter Tryz.func99, Tryz.ntmps99
    go_wp2
    go_ret2
    exact ⟨by rw [H.out]; rfl, rfl⟩
end Go.Proofs.YtknbndebfickpaaGreatDoor
