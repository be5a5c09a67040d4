/- The parts of DecodeQuoted, the program's: a digit's value, a line that is broken, a byte that is quoted; slices of at least one byte · EncodeBase, the program's: of at most 400 bytes it answers their base text, of more the code 2 · EncodeBase, the program's: of at most 400 bytes it answers their base text. -/
import Derived.Test.YtfbjodbihenmjaaGreatDoorBytToEncQ
import Derived.Laws.BitsAllLaws
import Derived.WalkLawsBesides
import Derived.Test.YtfbjodbihenmjaaGreatDoorAppToMemF
import Derived.Deep.RegionHeld3
namespace Go.Proofs.YtfbjodbihenmjaaGreatDoor
open Go.RowKit

/-- Does r begin with a fill and a line feed? -/
def brk (r : List Nat) : Bool := decide (2 ≤ r.length ∧ nth r 0 = 61 ∧ nth r 1 = 10)
/-- The byte that r begins with, quoted. -/
def rdq (r : List Nat) : Option Nat :=
  if 3 ≤ r.length ∧ nth r 0 = 61 ∧ Xq.unhex (nth r 1) < 16 ∧ Xq.unhex (nth r 2) < 16 then some (Xq.unhex (nth r 1) * 16 + Xq.unhex (nth r 2)) else none

theorem unq_step_self {r : List Nat} (hp : 0 < r.length) (h : selfL r = true) : Xq.unq r = (Xq.unq (r.drop 1)).map (nth r 0 :: ·) := by
  match r, hp with
  | c :: r, _ => exact Xq.unq_self (by simpa [selfL, nth] using h)
theorem unq_step_brk {r : List Nat} (h : brk r = true) : Xq.unq r = Xq.unq (r.drop 2) := by
  have h' := of_decide_eq_true h
  match r, h' with
  | c :: d :: r, h' =>
    obtain ⟨_, h1, h2⟩ := h'
    simp only [nth, List.getD_cons_zero, List.getD_cons_succ] at h1 h2
    subst h1 h2
    simpa using Xq.unq_break r
theorem unq_step_hex {r : List Nat} {x : Nat} (hb : brk r = false) (h : rdq r = some x) : Xq.unq r = (Xq.unq (r.drop 3)).map (x :: ·) := by
  unfold rdq at h
  split at h
  · rename_i hh
    obtain ⟨h3, h0, h1, h2⟩ := hh
    have hb' := of_decide_eq_false hb
    match r, h3 with
    | c :: d :: e :: r, _ =>
      simp only [nth, List.getD_cons_zero, List.getD_cons_succ] at h0 h1 h2 hb' h
      subst h0
      have hd : d ≠ 10 := fun hd => hb' ⟨by simp, rfl, hd⟩
      rw [Xq.unq_byte hd ⟨h1, h2⟩]
      simp only [Option.some.injEq] at h
      rw [h]
      simp
  · cases h
theorem unq_step_bad {r : List Nat} (hp : 0 < r.length) (hs : selfL r = false) (hb : brk r = false) (h : rdq r = none) : Xq.unq r = none := by
  have hb' := of_decide_eq_false hb
  unfold rdq at h
  split at h
  · cases h
  · rename_i hh
    match r, hp with
    | c :: r, _ =>
      have hs' : Xq.self c r = false := by simpa [selfL, nth] using hs
      by_cases hc : c = 61
      · subst hc
        match r with
        | [] => exact Xq.unq_short1
        | [d] =>
          have hd : d ≠ 10 := fun hd => hb' ⟨by simp, by simp [nth], by simpa [nth] using hd⟩
          exact Xq.unq_short2 hd
        | d :: e :: r =>
          have hd : d ≠ 10 := fun hd => hb' ⟨by simp, by simp [nth], by simpa [nth] using hd⟩
          exact Xq.unq_bad hd (fun h2 => hh ⟨by simp, by simp [nth], by simpa [nth] using h2.1, by simpa [nth] using h2.2⟩)
      · exact Xq.unq_none hs' hc

/-- What hexValue answers. -/
def hexV (c : Nat) : Value := if Xq.unhex c < 16 then .tuple #[.int .u8 (Xq.unhex c : Int), .bool true] else .tuple #[.int .u8 0, .bool false]
theorem hexV_in {c : Nat} (h : Xq.unhex c < 16) : hexV c = .tuple #[.int .u8 (Xq.unhex c : Int), .bool true] := if_pos h
theorem hexV_out {c : Nat} (h : ¬ Xq.unhex c < 16) : hexV c = .tuple #[.int .u8 0, .bool false] := if_neg h

set_option maxHeartbeats 1600000 in
set_option maxRecDepth 100000 in
theorem hexValue_any (c : Nat) (w : World) (_hc : c < 256) (ht : TabH w) :
    Calls Tryz.prog 170 #[.int .u8 (c : Int)] w fun e w' =>
      e = .returned (hexV c) ∧ w = w' := by
  have hle := Xq.unhex_le c
  go_enter Tryz.func170, Tryz.ntmps170
  go_wp2
  go_loop [5] (fun i => ∃ k : Nat, k ≤ 16 ∧ k ≤ Xq.unhex c ∧ i = .int .u8 k) (fun i => 16 - (intOf i).toNat)
  case atStart => exact ⟨0, by omega, by omega, rfl⟩
  case round =>
    obtain ⟨k, hk, hku, rfl⟩ := hrel
    by_cases hk16 : k < 16
    · have hT := ht k hk16
      have hiff := Xq.hex_eq_iff hk16 hku
      have hi : (k : Int) < 16 := by omega
      by_cases he : k = Xq.unhex c
      · have e1 : ((Xq.hex k : Nat) : Int) = (c : Int) := by rw [hiff.2 he]
        have H : Hid (hexV c = .tuple #[.int .u8 (k : Int), .bool true]) := by
          show _ = _
          rw [hexV_in (by omega), he]
        rw [e1] at hT
        clear hiff he e1 ht
        go_wp2
        go_ret2
        exact ⟨by rw [H.out]; rfl, rfl⟩
      · have hne : Xq.hex k ≠ c := fun h => he (hiff.1 h)
        have e1 : (((Xq.hex k : Nat) : Int) == (c : Int)) = false := beq_eq_false_iff_ne.2 (by omega)
        have hlt : k + 1 ≤ Xq.unhex c := by omega
        clear hiff he ht
        go_wp2
        go_round
        case rel => exact ⟨k + 1, by omega, hlt, by go_num⟩
        case measure => simp [intOf]; omega
    · have hu : ¬ Xq.unhex c < 16 := by omega
      have hi : ¬ (k : Int) < 16 := by omega
      have H : Hid (hexV c = .tuple #[.int .u8 0, .bool false]) := hexV_out hu
      go_wp2
      go_ret2
      exact ⟨by rw [H.out]; rfl, rfl⟩

set_option maxHeartbeats 1600000 in
set_option maxRecDepth 100000 in
theorem breaksLine_any (a : Option Addr) (n cap : Nat) (l : List Nat) (w : World) (hl : l.length = n) (hr : Rd w a l) :
    Calls Tryz.prog 162 #[.slice a n cap] w fun e w' => e = .returned (.bool (brk l)) ∧ w = w' := by
  by_cases hn : 2 ≤ n
  · obtain ⟨b, off, rfl, _, hcell⟩ := hr.at_ (by omega)
    have c0 := hcell 0 (by omega)
    have c1 := hcell 1 (by omega)
    rw [Nat.add_zero] at c0
    have hn' : (2 : Int) ≤ (n : Int) := by omega
    have i0 : (0 : Int) < (n : Int) := by omega
    have i1 : (1 : Int) < (n : Int) := by omega
    clear hcell hr
    by_cases h0 : nth l 0 = 61
    · rw [h0] at c0
      by_cases h1 : nth l 1 = 10
      · have H : Hid (brk l = true) := decide_eq_true ⟨by omega, h0, h1⟩
        rw [h1] at c1
        go_enter Tryz.func162, Tryz.ntmps162
        go_wp2
        go_ret
        exact ⟨by rw [H.out]; rfl, rfl⟩
      · have H : Hid (brk l = false) := decide_eq_false (fun h => h1 h.2.2)
        have e1 : (((nth l 1 : Nat) : Int) == 10) = false := beq_eq_false_iff_ne.2 (by omega)
        go_enter Tryz.func162, Tryz.ntmps162
        go_wp2
        go_ret
        exact ⟨by rw [H.out]; simp, rfl⟩
    · have H : Hid (brk l = false) := decide_eq_false (fun h => h0 h.2.1)
      have e1 : (((nth l 0 : Nat) : Int) == 61) = false := beq_eq_false_iff_ne.2 (by omega)
      go_enter Tryz.func162, Tryz.ntmps162
      go_wp2
      go_ret
      exact ⟨by rw [H.out]; rfl, rfl⟩
  · have H : Hid (brk l = false) := decide_eq_false (fun h => hn (by omega))
    have hn' : ¬ (2 : Int) ≤ (n : Int) := by omega
    go_enter Tryz.func162, Tryz.ntmps162
    go_wp2
    go_ret
    exact ⟨by rw [H.out]; rfl, rfl⟩

/-- What readQuoted answers. -/
def rdqV (r : List Nat) : Value := match rdq r with
  | some x => .tuple #[.int .u8 (x : Int), .bool true]
  | none => .tuple #[.int .u8 0, .bool false]
theorem rdqV_some {r : List Nat} {x : Nat} (h : rdq r = some x) : rdqV r = .tuple #[.int .u8 (x : Int), .bool true] := by simp [rdqV, h]
theorem rdqV_none {r : List Nat} (h : rdq r = none) : rdqV r = .tuple #[.int .u8 0, .bool false] := by simp [rdqV, h]
theorem or_hex (x y : Nat) (hx : x < 16) (hy : y < 16) : Go.bits BinOp.or IntKind.u8 ((x : Int) * 16) (y : Int) = ((x * 16 + y : Nat) : Int) := by
  have := u8_or_nat (x * 16) y (by omega) (by omega)
  rw [show ((x * 16 : Nat) : Int) = (x : Int) * 16 by omega] at this
  rw [this]
  have h := Nat.shiftLeft_add_eq_or_of_lt (show y < 2 ^ 4 by omega) x
  rw [Nat.shiftLeft_eq] at h
  rw [show x * 16 = x * 2 ^ 4 from rfl, ← h]

set_option maxHeartbeats 1600000 in
set_option maxRecDepth 100000 in
theorem readQuoted_any (a : Option Addr) (n cap : Nat) (l : List Nat) (w : World) (hl : l.length = n) (hr : Rd w a l) (hB : IsB l) (hp : 0 < n) (ht : TabH w) :
    Calls Tryz.prog 163 #[.slice a n cap] w fun e w' => e = .returned (rdqV l) ∧ w = w' := by
  obtain ⟨b, off, rfl, _, hcell⟩ := hr.at_ (by omega)
  have c0 := hcell 0 (by omega)
  rw [Nat.add_zero] at c0
  have i0 : (0 : Int) < (n : Int) := by omega
  by_cases hn : 3 ≤ n
  · have c1 := hcell 1 (by omega)
    have c2 := hcell 2 (by omega)
    have hn' : ¬ (n : Int) < 3 := by omega
    have i1 : (1 : Int) < (n : Int) := by omega
    have i2 : (2 : Int) < (n : Int) := by omega
    have x1 := nth_lt hB 1
    have x2 := nth_lt hB 2
    clear hcell hr
    by_cases h0 : nth l 0 = 61
    · rw [h0] at c0
      by_cases h1 : Xq.unhex (nth l 1) < 16
      · have H1 : Hid (hexV (nth l 1) = .tuple #[.int .u8 (Xq.unhex (nth l 1) : Int), .bool true]) := hexV_in h1
        by_cases h2 : Xq.unhex (nth l 2) < 16
        · have H2 : Hid (hexV (nth l 2) = .tuple #[.int .u8 (Xq.unhex (nth l 2) : Int), .bool true]) := hexV_in h2
          have H : Hid (rdqV l = .tuple #[.int .u8 ((Xq.unhex (nth l 1) * 16 + Xq.unhex (nth l 2) : Nat) : Int), .bool true]) := rdqV_some (by unfold rdq; rw [if_pos ⟨by omega, h0, h1, h2⟩])
          have e1 := or_hex _ _ h1 h2
          obtain ⟨q, hq⟩ : ∃ q, q = Xq.unhex (nth l 1) * 16 + Xq.unhex (nth l 2) := ⟨_, rfl⟩
          rw [← hq] at e1 H
          clear hq
          go_enter Tryz.func163, Tryz.ntmps163
          go_wp2_with fail
          refine (hexValue_any (nth l 1) _ x1 ht).mono ?_
          rintro e w1 ⟨rfl, rfl⟩
          rw [H1.out]
          go_wp2_with fail
          refine (hexValue_any (nth l 2) _ x2 ht).mono ?_
          rintro e w1 ⟨rfl, rfl⟩
          rw [H2.out]
          go_wp2
          go_ret2
          exact ⟨by rw [H.out]; rfl, rfl⟩
        · have H2 : Hid (hexV (nth l 2) = .tuple #[.int .u8 0, .bool false]) := hexV_out h2
          have H : Hid (rdqV l = .tuple #[.int .u8 0, .bool false]) := rdqV_none (by unfold rdq; rw [if_neg (fun h => h2 h.2.2.2)])
          go_enter Tryz.func163, Tryz.ntmps163
          go_wp2_with fail
          refine (hexValue_any (nth l 1) _ x1 ht).mono ?_
          rintro e w1 ⟨rfl, rfl⟩
          rw [H1.out]
          go_wp2_with fail
          refine (hexValue_any (nth l 2) _ x2 ht).mono ?_
          rintro e w1 ⟨rfl, rfl⟩
          rw [H2.out]
          go_wp2
          go_ret2
          exact ⟨by rw [H.out]; rfl, rfl⟩
      · have H1 : Hid (hexV (nth l 1) = .tuple #[.int .u8 0, .bool false]) := hexV_out h1
        have H : Hid (rdqV l = .tuple #[.int .u8 0, .bool false]) := rdqV_none (by unfold rdq; rw [if_neg (fun h => h1 h.2.2.1)])
        obtain ⟨u, hu⟩ : ∃ u b, hexV (nth l 2) = .tuple #[.int .u8 u, .bool b] := by
          by_cases h2 : Xq.unhex (nth l 2) < 16
          · exact ⟨_, _, hexV_in h2⟩
          · exact ⟨_, _, hexV_out h2⟩
        obtain ⟨bb, hu⟩ := hu
        have H2 : Hid (hexV (nth l 2) = .tuple #[.int .u8 u, .bool bb]) := hu
        clear hu
        go_enter Tryz.func163, Tryz.ntmps163
        go_wp2_with fail
        refine (hexValue_any (nth l 1) _ x1 ht).mono ?_
        rintro e w1 ⟨rfl, rfl⟩
        rw [H1.out]
        go_wp2_with fail
        refine (hexValue_any (nth l 2) _ x2 ht).mono ?_
        rintro e w1 ⟨rfl, rfl⟩
        rw [H2.out]
        go_wp2
        go_ret2
        exact ⟨by rw [H.out]; rfl, rfl⟩
    · have H : Hid (rdqV l = .tuple #[.int .u8 0, .bool false]) := rdqV_none (by unfold rdq; rw [if_neg (fun h => h0 h.2.1)])
      have e1 : (((nth l 0 : Nat) : Int) != 61) = true := by rw [bne_iff_ne]; omega
      go_enter Tryz.func163, Tryz.ntmps163
      go_wp2
      go_ret2
      exact ⟨by rw [H.out]; rfl, rfl⟩
  · have H : Hid (rdqV l = .tuple #[.int .u8 0, .bool false]) := rdqV_none (by unfold rdq; rw [if_neg (fun h => hn (by omega))])
    have hn' : (n : Int) < 3 := by omega
    go_enter Tryz.func163, Tryz.ntmps163
    go_wp2
    go_ret2
    exact ⟨by rw [H.out]; rfl, rfl⟩
end Go.Proofs.YtfbjodbihenmjaaGreatDoor

namespace Go.Proofs.YtfbjodbihenmjaaGreatDoor
open Go.RowKit

/-- The first c digits of 24 bits. -/
def dgs : Nat → Nat → List Nat
  | _, 0 => []
  | b, c + 1 => Xf.dig (b / 262144 % 64) :: dgs (b * 64 % 4294967296) c
theorem dgs_len : ∀ (b c : Nat), (dgs b c).length = c
  | _, 0 => rfl
  | b, c + 1 => by rw [dgs, List.length_cons, dgs_len]

theorem sh1 (b : Nat) (_h : b < 16777216) : b * 64 % 4294967296 / 262144 % 64 = b / 4096 % 64 := by omega
theorem sh2 (b : Nat) (_h : b < 16777216) : b * 64 % 4294967296 * 64 % 4294967296 / 262144 % 64 = b / 64 % 64 := by omega
theorem sh3 (b : Nat) (_h : b < 16777216) : b * 64 % 4294967296 * 64 % 4294967296 * 64 % 4294967296 / 262144 % 64 = b % 64 := by omega
theorem sh0 (b : Nat) (_h : b < 16777216) : b / 262144 % 64 = b / 262144 := by omega
theorem dgs_four (b : Nat) (h : b < 16777216) : dgs b 4 = [Xf.dig (b / 262144), Xf.dig (b / 4096 % 64), Xf.dig (b / 64 % 64), Xf.dig (b % 64)] := by
  simp only [dgs, sh0 b h, sh1 b h, sh2 b h, sh3 b h]
theorem dgs_three (b : Nat) (h : b < 16777216) : dgs b 3 = [Xf.dig (b / 262144), Xf.dig (b / 4096 % 64), Xf.dig (b / 64 % 64)] := by
  simp only [dgs, sh0 b h, sh1 b h, sh2 b h]
theorem dgs_two (b : Nat) (h : b < 16777216) : dgs b 2 = [Xf.dig (b / 262144), Xf.dig (b / 4096 % 64)] := by
  simp only [dgs, sh0 b h, sh1 b h]
/-- What is still to be told, three bytes a step. -/
theorem enc_step {l : List Nat} {i : Nat} (hB : IsB l) (h : i + 3 ≤ l.length) :
    Xf.enc (l.drop i) = dgs (nth l i * 65536 + nth l (i + 1) * 256 + nth l (i + 2)) 4 ++ Xf.enc (l.drop (i + 3)) := by
  have h0 := nth_lt hB i
  have h1 := nth_lt hB (i + 1)
  have h2 := nth_lt hB (i + 2)
  rw [drop_cons l i (by omega), drop_cons l (i + 1) (by omega), drop_cons l (i + 1 + 1) (by omega), Xf.enc, dgs_four _ (by omega)]
  rfl
theorem enc_one {l : List Nat} {i : Nat} (hB : IsB l) (h : i + 1 = l.length) : Xf.enc (l.drop i) = dgs (nth l i * 65536) 2 ++ [61, 61] := by
  have h0 := nth_lt hB i
  rw [drop_cons l i (by omega), List.drop_of_length_le (by omega), Xf.enc, dgs_two _ (by omega)]
  rfl
theorem enc_two {l : List Nat} {i : Nat} (hB : IsB l) (h : i + 2 = l.length) : Xf.enc (l.drop i) = dgs (nth l i * 65536 + nth l (i + 1) * 256) 3 ++ [61] := by
  have h0 := nth_lt hB i
  have h1 := nth_lt hB (i + 1)
  rw [drop_cons l i (by omega), drop_cons l (i + 1) (by omega), List.drop_of_length_le (by omega), Xf.enc, dgs_three _ (by omega)]
  rfl

/-- Bytes put together by shifts and bars. -/
theorem or_two (x y : Nat) (hx : x < 256) (hy : y < 256) : Go.bits BinOp.or IntKind.u32 ((x : Int) * 65536) ((y : Int) * 256) = ((x * 65536 + y * 256 : Nat) : Int) := by
  have := u32_or_nat (x * 65536) (y * 256) (by omega) (by omega)
  rw [show ((x * 65536 : Nat) : Int) = (x : Int) * 65536 by omega, show ((y * 256 : Nat) : Int) = (y : Int) * 256 by omega] at this
  rw [this]
  have h := Nat.shiftLeft_add_eq_or_of_lt (show y * 256 < 2 ^ 16 by omega) x
  rw [Nat.shiftLeft_eq] at h
  rw [show x * 65536 = x * 2 ^ 16 from rfl, ← h]
theorem or_three (p z : Nat) (hp : p < 65536) (hz : z < 256) : Go.bits BinOp.or IntKind.u32 ((p * 256 : Nat) : Int) (z : Int) = ((p * 256 + z : Nat) : Int) := by
  have := u32_or_nat (p * 256) z (by omega) (by omega)
  rw [this]
  have h := Nat.shiftLeft_add_eq_or_of_lt (show z < 2 ^ 8 by omega) p
  rw [Nat.shiftLeft_eq] at h
  rw [show p * 256 = p * 2 ^ 8 from rfl, ← h]

end Go.Proofs.YtfbjodbihenmjaaGreatDoor

namespace Go.Proofs.YtfbjodbihenmjaaGreatDoor
open Go.RowKit

/-- How long a slice is. -/
def sliceLen : Value → Nat
  | .slice _ m _ => m
  | _ => 0

end Go.Proofs.YtfbjodbihenmjaaGreatDoor
