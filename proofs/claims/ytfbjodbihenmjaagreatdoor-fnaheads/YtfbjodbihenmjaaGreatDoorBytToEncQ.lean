/- Each helper of the laws over slices of bytes does what its text says: it copies one, and holds two against each other; slices of at most 1048576 bytes · The digit of each number from 0 to 63, as the program's table and the model's text have it: the two are one; the number is 0 to 63 · EncodeQuoted, the program's and the model's: of at most 400 bytes each answers their quoted text, of more the code 2; slices of at most 1048576 bytes. -/
import Derived.Test.YtfbjodbihenmjaaGreatDoorJfqToInf
import Derived.Test.YtfbjodbihenmjaaGreatDoorMath
import Derived.Handy
import Derived.Test.YtfbjodbihenmjaaGreatDoorAppToChs0
import Derived.Test.YtfbjodbihenmjaaGreatDoorFldToWPl
namespace Go.Proofs.YtfbjodbihenmjaaGreatDoor
open Go.RowKit

set_option maxHeartbeats 800000 in
set_option maxRecDepth 100000 in
theorem toByteS_any (a : Option Addr) (n cap : Nat) (l : List Nat) (w : World) (hl : l.length = n) (hr : Rd w a l) (hn : n ≤ 1048576) :
    Calls Tryz.prog 35 #[.slice a n cap] w fun e w' =>
      e = .returned (.slice (some ⟨w.heap.size, 0, none⟩) n n) ∧ w'.ownsRow w.heap.size 5 1 (.slice (some ⟨w.heap.size, 0, none⟩) n n) n (bc l) ∧ Below w.heap.size w w' := by
  obtain ⟨i0, hi, hz0, hz1, hz2⟩ := info_parts infoB
  go_enter Tryz.func35, Tryz.ntmps35
  go_wp2_with (at_make; refine wpList_make_full _ rfl _ _ 22 rfl w.heap.size 5 i0 (.int .u8 0) 1 Tryz.underlying22 hi hz0 hz1 .i64 .i64 _ _ n rfl rfl rfl rfl (by rw [hz2]; omega) (by unfold maxLen; omega) (Nat.le_refl _) ?_; intro w0 hown0 hgrow0)
  rw [made_bytes, ← hl, ← half_zero l, hl] at hown0
  have hbel0 : Below w.heap.size w w0 := (Below.refl _ _).grown hgrow0 (Nat.le_refl _) (by intro k hk; cases hk)
  clear hgrow0
  go_loopw [4] (fun i wr => ∃ k : Nat, k ≤ n ∧ i = .int .i64 k ∧ wr.ownsRow w.heap.size 5 1 (.slice (some ⟨w.heap.size, 0, none⟩) n n) n (bc (half l k)) ∧ Below w.heap.size w wr)
    (fun i _ => n - (intOf i).toNat)
  case atStart => exact ⟨0, Nat.zero_le _, rfl, hown0, hbel0⟩
  case round =>
    obtain ⟨k, hk, rfl, hown, hbel⟩ := hrel
    clear hown0 hbel0
    by_cases hkn : k < n
    · obtain ⟨b, off, rfl, hblt, hcell⟩ := hr.at_ (by omega)
      have hc : wr.cell? ⟨b, off + k, none⟩ = some (.int .u8 (nth l k : Int)) := (hbel.cell (p := ⟨b, off + k, none⟩) hblt).trans (hcell k (by omega))
      have hk' : k < (half l k).length := by rw [half_len l k (by omega)]; omega
      have hg : wr.cell? ⟨w.heap.size, k, none⟩ = some (.int .u8 (nth (half l k) k : Int)) := by rw [hown.cellAt k (by omega)]; exact bc_get hk'
      have hf := hown.frozenAt k
      obtain ⟨hst, hgr⟩ := hown.stored k (.int .u8 (nth l k : Int))
      rw [half_set l k (by omega)] at hst
      have hbel' : Below w.heap.size w (wr.setCell ⟨w.heap.size, k, none⟩ (.int .u8 (nth l k : Int))) := hbel.grown hgr hbel.size (by intro j hj; simp at hj; omega)
      clear hgr hcell hown
      go_wp2
      go_roundw
      case rel => exact ⟨k + 1, by omega, by go_num, hst, hbel'⟩
      case measure => simp [intOf]; omega
    · have hkk : k = n := by omega
      subst hkk
      rw [← hl, half_all, hl] at hown
      go_wp2
      go_ret
      exact ⟨rfl, hown, hbel⟩

theorem toByteS_ex (a : Option Addr) (n cap : Nat) (l : List Nat) (w : World) (hl : l.length = n) (hr : Rd w a l) (hn : n ≤ 1048576) :
    Calls Tryz.prog 35 #[.slice a n cap] w fun e w' => ∃ g, e = .returned (.slice (some ⟨g, 0, none⟩) n n) ∧ Rd w' (some ⟨g, 0, none⟩) l ∧ Below w.heap.size w w' :=
  (toByteS_any a n cap l w hl hr hn).mono fun _ _ ⟨he, ho, hb⟩ => ⟨_, he, Rd.own ho, hb⟩

set_option maxHeartbeats 800000 in
set_option maxRecDepth 100000 in
theorem eqByteS_same (a c : Option Addr) (n cap cap' : Nat) (l : List Nat) (w : World) (hl : l.length = n) (hr : Rd w a l) (hs : Rd w c l) (hn : n ≤ 1048576) :
    Calls Tryz.prog 36 #[.slice a n cap, .slice c n cap'] w fun e w' => e = .returned (.bool true) ∧ Below w.heap.size w w' := by
  go_enter Tryz.func36, Tryz.ntmps36
  go_wp2
  go_loopw [5] (fun i wr => ∃ k : Nat, k ≤ n ∧ i = .int .i64 k ∧ Below w.heap.size w wr) (fun i _ => n - (intOf i).toNat)
  case atStart => exact ⟨0, Nat.zero_le _, rfl, Below.refl _ _⟩
  case round =>
    obtain ⟨k, hk, rfl, hbel⟩ := hrel
    by_cases hkn : k < n
    · obtain ⟨b, off, rfl, hblt, hcell⟩ := hr.at_ (by omega)
      obtain ⟨d, off', rfl, hdlt, hdell⟩ := hs.at_ (by omega)
      have hc : wr.cell? ⟨b, off + k, none⟩ = some (.int .u8 (nth l k : Int)) := (hbel.cell (p := ⟨b, off + k, none⟩) hblt).trans (hcell k (by omega))
      have hd : wr.cell? ⟨d, off' + k, none⟩ = some (.int .u8 (nth l k : Int)) := (hbel.cell (p := ⟨d, off' + k, none⟩) hdlt).trans (hdell k (by omega))
      have hki : (k : Int) < (n : Int) := by omega
      clear hcell hdell hr hs
      go_wp2
      go_quiet (fail)
      go_wp2
      go_roundw
      case rel => exact ⟨k + 1, by omega, by go_num, below_drewN hbel _⟩
      case measure => simp [intOf]; omega
    · go_wp2
      go_ret
      exact ⟨rfl, hbel⟩
end Go.Proofs.YtfbjodbihenmjaaGreatDoor

namespace Go.Proofs.YtfbjodbihenmjaaGreatDoor
open Go.RowKit

theorem ret_intD {k : IntKind} {a b : Int} (h : a = b) : Ending.returned (.int k a) = .returned (.int k b) := by rw [h]
theorem base_text (k : Nat) (h : k < 64) : ((⟨#[65, 66, 67, 68, 69, 70, 71, 72, 73, 74, 75, 76, 77, 78, 79, 80, 81, 82, 83, 84, 85, 86, 87, 88, 89, 90, 97, 98, 99, 100, 101, 102, 103, 104, 105, 106, 107, 108, 109, 110, 111, 112, 113, 114, 115, 116, 117, 118, 119, 120, 121, 122, 48, 49, 50, 51, 52, 53, 54, 55, 56, 57, 43, 47]⟩ : ByteArray)[k]'h).toNat = Xf.dig k := by
  have : ∀ k (h : k < 64), ((⟨#[65, 66, 67, 68, 69, 70, 71, 72, 73, 74, 75, 76, 77, 78, 79, 80, 81, 82, 83, 84, 85, 86, 87, 88, 89, 90, 97, 98, 99, 100, 101, 102, 103, 104, 105, 106, 107, 108, 109, 110, 111, 112, 113, 114, 115, 116, 117, 118, 119, 120, 121, 122, 48, 49, 50, 51, 52, 53, 54, 55, 56, 57, 43, 47]⟩ : ByteArray)[k]'h).toNat = Xf.dig k := by decide +kernel
  exact this k h

/-- The table as the row lists it. -/
def tabI : List Int := [65, 66, 67, 68, 69, 70, 71, 72, 73, 74, 75, 76, 77, 78, 79, 80, 81, 82, 83, 84, 85, 86, 87, 88, 89, 90, 97, 98, 99, 100, 101, 102, 103, 104, 105, 106, 107, 108, 109, 110, 111, 112, 113, 114, 115, 116, 117, 118, 119, 120, 121, 122, 48, 49, 50, 51, 52, 53, 54, 55, 56, 57, 43, 47]
theorem tabI_len : tabI.length = 64 := by decide
theorem tabI_get (v : Nat) (h : v < 64) : tabI.getD v 0 = (Xf.dig v : Int) := by
  have : ∀ v, v < 64 → tabI.getD v 0 = (Xf.dig v : Int) := by decide +kernel
  exact this v h
/-- THE TABLE OF DIGITS LIES IN ITS VARIABLE. -/
def TabB (w : World) : Prop := ∀ v, v < 64 → w.cell? ⟨2, v, none⟩ = some (.int .u8 (Xf.dig v : Int))
theorem TabB.below {w w' : World} (h : TabB w) (hb : Below w.heap.size w w') : TabB w' := fun v hv =>
  (hb.cell (p := ⟨2, v, none⟩) (World.block_lt_of_cell? w ⟨2, 0, none⟩ (h 0 (by decide)))).trans (h v hv)

set_option maxHeartbeats 800000 in
set_option maxRecDepth 100000 in
theorem l1Base_any (k : Nat) (h : k < 64) (w : World) : Calls Tryz.prog 75 #[.int .i64 (k : Int)] w fun e w' => e = .returned (.int .u8 (Xf.dig k : Int)) ∧ w' = w := by
  have h' : (k : Int) < 64 := by omega
  go_enter Tryz.func75, Tryz.ntmps75
  go_wp2
  go_ret
  exact ⟨ret_intD (by rw [← base_text k h]), rfl⟩

/-- What BaseDigit answers. -/
def digV (v : Int) : Value := if 0 ≤ v ∧ v ≤ 63 then .agg #[.int .i64 0, .int .i64 (Xf.dig v.toNat : Int)] else .agg #[.int .i64 3, .int .i64 0]
theorem digV_in {v : Int} (h : 0 ≤ v ∧ v ≤ 63) : digV v = .agg #[.int .i64 0, .int .i64 (Xf.dig v.toNat : Int)] := if_pos h
theorem digV_out {v : Int} (h : ¬ (0 ≤ v ∧ v ≤ 63)) : digV v = .agg #[.int .i64 3, .int .i64 0] := if_neg h

/-- A number lies between two others: a plain word, so that no walk opens it. -/
def inD (v a b : Int) : Bool := decide (a ≤ v ∧ v ≤ b)
theorem inD_yes {v a b : Int} (h : a ≤ v ∧ v ≤ b) : inD v a b = true := decide_eq_true h
theorem inD_no {v a b : Int} (h : ¬ (a ≤ v ∧ v ≤ b)) : inD v a b = false := decide_eq_false h
theorem ret_boolD {a b : Bool} (h : a = b) : Ending.returned (.bool a) = .returned (.bool b) := by rw [h]

theorem l1In_dig (v a b : Int) (w : World) : Calls Tryz.prog 32 #[.int .i64 v, .int .i64 a, .int .i64 b] w fun e w' => e = .returned (.bool (inD v a b)) ∧ w' = w := by
  by_cases h1 : a ≤ v
  · by_cases h2 : v ≤ b
    · have H : Hid (inD v a b = true) := inD_yes ⟨h1, h2⟩
      go_enter Tryz.func32, Tryz.ntmps32
      go_wp2
      go_ret
      exact ⟨by rw [H.out]; rfl, rfl⟩
    · have H : Hid (inD v a b = false) := inD_no (fun h => h2 h.2)
      go_enter Tryz.func32, Tryz.ntmps32
      go_wp2
      go_ret
      exact ⟨by rw [H.out]; rfl, rfl⟩
  · have H : Hid (inD v a b = false) := inD_no (fun h => h1 h.1)
    go_enter Tryz.func32, Tryz.ntmps32
    go_wp2
    go_ret
    exact ⟨by rw [H.out]; rfl, rfl⟩

theorem digV_form (v : Int) : ∃ c x : Int, digV v = .agg #[.int .i64 c, .int .i64 x] := by
  by_cases h : 0 ≤ v ∧ v ≤ 63
  · exact ⟨_, _, digV_in h⟩
  · exact ⟨_, _, digV_out h⟩
end Go.Proofs.YtfbjodbihenmjaaGreatDoor

namespace Go.Proofs.YtfbjodbihenmjaaGreatDoor
open Go.RowKit

/-- Does the first byte of l stand as itself? -/
def selfL (l : List Nat) : Bool := Xq.self (nth l 0) (l.drop 1)
theorem selfL_lf {l : List Nat} (h : nth l 0 = 10) : selfL l = true := by simp [selfL, Xq.self, h]
theorem selfL_bl {l : List Nat} (h : nth l 0 = 32 ∨ nth l 0 = 9) (hn : 1 < l.length) (hc : nth l 1 ≠ 10) : selfL l = true := by
  have h1 : nth l 0 ≠ 10 := by omega
  unfold selfL Xq.self
  rw [if_neg h1, if_pos h]
  exact decide_eq_true ⟨by simp; omega, by rw [nth_drop]; exact hc⟩
theorem selfL_bl_no {l : List Nat} (h : nth l 0 = 32 ∨ nth l 0 = 9) (hc : ¬ (1 < l.length ∧ nth l 1 ≠ 10)) : selfL l = false := by
  have h1 : nth l 0 ≠ 10 := by omega
  unfold selfL Xq.self
  rw [if_neg h1, if_pos h]
  refine decide_eq_false (fun hh => hc ⟨?_, ?_⟩)
  · have := hh.1; simp at this; omega
  · have := hh.2; rw [nth_drop] at this; exact this
theorem selfL_other {l : List Nat} (h1 : nth l 0 ≠ 10) (h2 : ¬ (nth l 0 = 32 ∨ nth l 0 = 9)) : selfL l = decide (33 ≤ nth l 0 ∧ nth l 0 ≤ 126 ∧ nth l 0 ≠ 61) := by
  unfold selfL Xq.self
  rw [if_neg h1, if_neg h2]

set_option maxHeartbeats 1600000 in
set_option maxRecDepth 100000 in
theorem stands_any (a : Option Addr) (n cap : Nat) (l : List Nat) (w : World) (hl : l.length = n) (hr : Rd w a l) (hp : 0 < n) :
    Calls Tryz.prog 161 #[.slice a n cap] w fun e w' => e = .returned (.bool (selfL l)) ∧ w' = w := by
  obtain ⟨b, off, rfl, _, hcell⟩ := hr.at_ (by omega)
  have hc0 := hcell 0 (by omega)
  rw [Nat.add_zero] at hc0
  have hp' : (0 : Int) < (n : Int) := by omega
  by_cases h10 : nth l 0 = 10
  · have H : Hid (selfL l = true) := selfL_lf h10
    rw [h10] at hc0
    clear hcell
    go_enter Tryz.func161, Tryz.ntmps161
    go_wp2
    go_ret
    exact ⟨by rw [H.out]; rfl, rfl⟩
  · have e10 : (((nth l 0 : Nat) : Int) == 10) = false := beq_eq_false_iff_ne.2 (by omega)
    by_cases hbl : nth l 0 = 32 ∨ nth l 0 = 9
    · by_cases hn1 : 1 < n
      · have hc1 := hcell 1 (by omega)
        have hn1' : (1 : Int) < (n : Int) := by omega
        by_cases hc : nth l 1 = 10
        · have H : Hid (selfL l = false) := selfL_bl_no hbl (by omega)
          rw [hc] at hc1
          clear hcell
          rcases hbl with h | h
          all_goals
            rw [h] at hc0
            go_enter Tryz.func161, Tryz.ntmps161
            go_wp2
            go_ret
            exact ⟨by rw [H.out]; rfl, rfl⟩
        · have H : Hid (selfL l = true) := selfL_bl hbl (by omega) hc
          have ec : (((nth l 1 : Nat) : Int) == 10) = false := beq_eq_false_iff_ne.2 (by omega)
          clear hcell
          rcases hbl with h | h
          all_goals
            rw [h] at hc0
            go_enter Tryz.func161, Tryz.ntmps161
            go_wp2
            go_ret
            exact ⟨by rw [H.out]; simp; omega, rfl⟩
      · have H : Hid (selfL l = false) := selfL_bl_no hbl (by omega)
        have hn1' : ¬ (1 : Int) < (n : Int) := by omega
        clear hcell
        rcases hbl with h | h
        all_goals
          rw [h] at hc0
          go_enter Tryz.func161, Tryz.ntmps161
          go_wp2
          go_ret
          exact ⟨by rw [H.out]; rfl, rfl⟩
    · have hs := selfL_other h10 hbl
      have e32 : (((nth l 0 : Nat) : Int) == 32) = false := beq_eq_false_iff_ne.2 (by omega)
      have e9 : (((nth l 0 : Nat) : Int) == 9) = false := beq_eq_false_iff_ne.2 (by omega)
      clear hcell
      by_cases h33 : 33 ≤ nth l 0
      · have h33' : (33 : Int) ≤ ((nth l 0 : Nat) : Int) := by omega
        by_cases h126 : nth l 0 ≤ 126
        · have h126' : ((nth l 0 : Nat) : Int) ≤ 126 := by omega
          by_cases h61 : nth l 0 = 61
          · have H : Hid (selfL l = false) := hs.trans (decide_eq_false (fun h => h.2.2 h61))
            clear hs e10 e32 e9
            rw [h61] at hc0
            go_enter Tryz.func161, Tryz.ntmps161
            go_wp2
            go_ret
            exact ⟨by rw [H.out]; rfl, rfl⟩
          · have H : Hid (selfL l = true) := hs.trans (decide_eq_true ⟨h33, h126, h61⟩)
            have e61 : (((nth l 0 : Nat) : Int) == 61) = false := beq_eq_false_iff_ne.2 (by omega)
            clear hs
            go_enter Tryz.func161, Tryz.ntmps161
            go_wp2
            go_ret
            exact ⟨by rw [H.out]; simp; omega, rfl⟩
        · have H : Hid (selfL l = false) := hs.trans (decide_eq_false (fun h => h126 h.2.1))
          have h126' : ¬ ((nth l 0 : Nat) : Int) ≤ 126 := by omega
          clear hs
          go_enter Tryz.func161, Tryz.ntmps161
          go_wp2
          go_ret
          exact ⟨by rw [H.out]; rfl, rfl⟩
      · have H : Hid (selfL l = false) := hs.trans (decide_eq_false (fun h => h33 h.1))
        have h33' : ¬ (33 : Int) ≤ ((nth l 0 : Nat) : Int) := by omega
        clear hs
        go_enter Tryz.func161, Tryz.ntmps161
        go_wp2
        go_ret
        exact ⟨by rw [H.out]; rfl, rfl⟩

theorem hex_text (k : Nat) (h : k < 16) : ((⟨#[48, 49, 50, 51, 52, 53, 54, 55, 56, 57, 65, 66, 67, 68, 69, 70]⟩ : ByteArray)[k]'h).toNat = Xq.hex k := by
  have : ∀ k (h : k < 16), ((⟨#[48, 49, 50, 51, 52, 53, 54, 55, 56, 57, 65, 66, 67, 68, 69, 70]⟩ : ByteArray)[k]'h).toNat = Xq.hex k := by decide +kernel
  exact this k h
/-- The table as the row lists it. -/
def tabHI : List Int := [48, 49, 50, 51, 52, 53, 54, 55, 56, 57, 65, 66, 67, 68, 69, 70]
theorem tabHI_len : tabHI.length = 16 := by decide
theorem tabHI_get (v : Nat) (h : v < 16) : tabHI.getD v 0 = (Xq.hex v : Int) := by
  have : ∀ v, v < 16 → tabHI.getD v 0 = (Xq.hex v : Int) := by decide +kernel
  exact this v h
/-- THE TABLE OF HEXADECIMAL DIGITS LIES IN ITS VARIABLE. -/
def TabH (w : World) : Prop := ∀ v, v < 16 → w.cell? ⟨5, v, none⟩ = some (.int .u8 (Xq.hex v : Int))
theorem TabH.lt {w : World} (h : TabH w) : 5 < w.heap.size := World.block_lt_of_cell? w ⟨5, 0, none⟩ (h 0 (by decide))
theorem TabH.below {w w' : World} (h : TabH w) (hb : Below w.heap.size w w') : TabH w' := fun v hv =>
  (hb.cell (p := ⟨5, v, none⟩) h.lt).trans (h v hv)

set_option maxHeartbeats 800000 in
set_option maxRecDepth 100000 in
theorem l1Hex_any (k : Nat) (h : k < 16) (w : World) : Calls Tryz.prog 76 #[.int .u8 (k : Int)] w fun e w' => e = .returned (.int .u8 (Xq.hex k : Int)) ∧ w' = w := by
  have h' : (k : Int) < 16 := by omega
  go_enter Tryz.func76, Tryz.ntmps76
  go_wp2
  go_ret
  exact ⟨ret_intD (by rw [← hex_text k h]), rfl⟩

/-- What is still to be told, byte by byte. -/
theorem quo_step_self {l : List Nat} {k : Nat} (hk : k < l.length) (h : selfL (l.drop k) = true) : Xq.quo (l.drop k) = nth l k :: Xq.quo (l.drop (k + 1)) := by
  have e0 : nth (l.drop k) 0 = nth l k := by rw [nth_drop, Nat.add_zero]
  have e1 : (l.drop k).drop 1 = l.drop (k + 1) := by rw [List.drop_drop]
  unfold selfL at h
  rw [e0, e1] at h
  rw [drop_cons l k hk, Xq.quo, if_pos h]
theorem quo_step_hex {l : List Nat} {k : Nat} (hk : k < l.length) (h : selfL (l.drop k) = false) : Xq.quo (l.drop k) = 61 :: Xq.hex (nth l k / 16) :: Xq.hex (nth l k % 16) :: Xq.quo (l.drop (k + 1)) := by
  have e0 : nth (l.drop k) 0 = nth l k := by rw [nth_drop, Nat.add_zero]
  have e1 : (l.drop k).drop 1 = l.drop (k + 1) := by rw [List.drop_drop]
  unfold selfL at h
  rw [e0, e1] at h
  rw [drop_cons l k hk, Xq.quo, if_neg (by rw [h]; simp)]

end Go.Proofs.YtfbjodbihenmjaaGreatDoor
