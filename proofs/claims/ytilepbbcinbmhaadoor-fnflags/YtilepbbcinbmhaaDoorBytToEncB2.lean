/- Each helper of the laws over slices of bytes does what its text says: it copies one, and holds two against each other; slices of at most 1048576 bytes · The digit of each number from 0 to 63, as the program's table and the model's text have it: the two are one; the number is 0 to 63 · EncodeBase, the program's: of at most 400 bytes it answers their base text, of more the code 2 · EncodeBase, the program's: of at most 400 bytes it answers their base text. -/
import Derived.Test.YtilepbbcinbmhaaDoorMemToInf
import Derived.Test.YtilepbbcinbmhaaDoorMath
import Derived.Handy
import Derived.Test.YtilepbbcinbmhaaDoorAppToMrk0
import Derived.Deep.RegionHeld3
import Derived.WalkLawsBesides
import Derived.Laws.BitsAllLaws
namespace Go.Proofs.YtilepbbcinbmhaaDoor
open Go.RowKit

set_option maxHeartbeats 800000 in
set_option maxRecDepth 100000 in
theorem toByteS_any (a : Option Addr) (n cap : Nat) (l : List Nat) (w : World) (hl : l.length = n) (hr : Rd w a l) (hn : n ≤ 1048576) :
    Calls Tryd.prog 50 #[.slice a n cap] w fun e w' =>
      e = .returned (.slice (some ⟨w.heap.size, 0, none⟩) n n) ∧ w'.ownsRow w.heap.size 5 1 (.slice (some ⟨w.heap.size, 0, none⟩) n n) n (bc l) ∧ Below w.heap.size w w' := by
  obtain ⟨i0, hi, hz0, hz1, hz2⟩ := info_parts infoB
  go_enter Tryd.func50, Tryd.ntmps50
  go_wp2_with (at_make; refine wpList_make_full _ rfl _ _ 22 rfl w.heap.size 5 i0 (.int .u8 0) 1 Tryd.underlying22 hi hz0 hz1 .i64 .i64 _ _ n rfl rfl rfl rfl (by rw [hz2]; omega) (by unfold maxLen; omega) (Nat.le_refl _) ?_; intro w0 hown0 hgrow0)
  rw [made_bytes, ← hl, ← half_zero l, hl] at hown0
  have hbel0 : Below w.heap.size w w0 := (Below.refl _ _).grown hgrow0 (Nat.le_refl _) (by intro k hk; cases hk)
  clear hgrow0
  go_loopw [4] (fun i wr => ∃ k : Nat, k ≤ n ∧ i = .int .i64 k ∧ wr.ownsRow w.heap.size 5 1 (.slice (some ⟨w.heap.size, 0, none⟩) n n) n (bc (half l k)) ∧ Below w.heap.size w wr)
    (fun i _ => n - (intOf i).toNat)
  case atStart => exact ⟨0, Nat.zero_le _, rfl, hown0, hbel0⟩
  case round =>
    obtain ⟨k, hk, rfl, hown, hbel⟩ := hrel
    clear hown0 hbel0
    by_cases hkn : k < n
    · obtain ⟨b, off, rfl, hblt, hcell⟩ := hr.at_ (by omega)
      have hc : wr.cell? ⟨b, off + k, none⟩ = some (.int .u8 (nth l k : Int)) := (hbel.cell (p := ⟨b, off + k, none⟩) hblt).trans (hcell k (by omega))
      have hk' : k < (half l k).length := by rw [half_len l k (by omega)]; omega
      have hg : wr.cell? ⟨w.heap.size, k, none⟩ = some (.int .u8 (nth (half l k) k : Int)) := by rw [hown.cellAt k (by omega)]; exact bc_get hk'
      have hf := hown.frozenAt k
      obtain ⟨hst, hgr⟩ := hown.stored k (.int .u8 (nth l k : Int))
      rw [half_set l k (by omega)] at hst
      have hbel' : Below w.heap.size w (wr.setCell ⟨w.heap.size, k, none⟩ (.int .u8 (nth l k : Int))) := hbel.grown hgr hbel.size (by intro j hj; simp at hj; omega)
      clear hgr hcell hown
      go_wp2
      go_roundw
      case rel => exact ⟨k + 1, by omega, by go_num, hst, hbel'⟩
      case measure => simp [intOf]; omega
    · have hkk : k = n := by omega
      subst hkk
      rw [← hl, half_all, hl] at hown
      go_wp2
      go_ret
      exact ⟨rfl, hown, hbel⟩

theorem toByteS_ex (a : Option Addr) (n cap : Nat) (l : List Nat) (w : World) (hl : l.length = n) (hr : Rd w a l) (hn : n ≤ 1048576) :
    Calls Tryd.prog 50 #[.slice a n cap] w fun e w' => ∃ g, e = .returned (.slice (some ⟨g, 0, none⟩) n n) ∧ Rd w' (some ⟨g, 0, none⟩) l ∧ Below w.heap.size w w' :=
  (toByteS_any a n cap l w hl hr hn).mono fun _ _ ⟨he, ho, hb⟩ => ⟨_, he, Rd.own ho, hb⟩

set_option maxHeartbeats 800000 in
set_option maxRecDepth 100000 in
theorem eqByteS_same (a c : Option Addr) (n cap cap' : Nat) (l : List Nat) (w : World) (hl : l.length = n) (hr : Rd w a l) (hs : Rd w c l) (hn : n ≤ 1048576) :
    Calls Tryd.prog 54 #[.slice a n cap, .slice c n cap'] w fun e w' => e = .returned (.bool true) ∧ Below w.heap.size w w' := by
  go_enter Tryd.func54, Tryd.ntmps54
  go_wp2
  go_loopw [5] (fun i wr => ∃ k : Nat, k ≤ n ∧ i = .int .i64 k ∧ Below w.heap.size w wr) (fun i _ => n - (intOf i).toNat)
  case atStart => exact ⟨0, Nat.zero_le _, rfl, Below.refl _ _⟩
  case round =>
    obtain ⟨k, hk, rfl, hbel⟩ := hrel
    by_cases hkn : k < n
    · obtain ⟨b, off, rfl, hblt, hcell⟩ := hr.at_ (by omega)
      obtain ⟨d, off', rfl, hdlt, hdell⟩ := hs.at_ (by omega)
      have hc : wr.cell? ⟨b, off + k, none⟩ = some (.int .u8 (nth l k : Int)) := (hbel.cell (p := ⟨b, off + k, none⟩) hblt).trans (hcell k (by omega))
      have hd : wr.cell? ⟨d, off' + k, none⟩ = some (.int .u8 (nth l k : Int)) := (hbel.cell (p := ⟨d, off' + k, none⟩) hdlt).trans (hdell k (by omega))
      have hki : (k : Int) < (n : Int) := by omega
      clear hcell hdell hr hs
      go_wp2
      go_quiet (fail)
      go_wp2
      go_roundw
      case rel => exact ⟨k + 1, by omega, by go_num, below_drewN hbel _⟩
      case measure => simp [intOf]; omega
    · go_wp2
      go_ret
      exact ⟨rfl, hbel⟩
end Go.Proofs.YtilepbbcinbmhaaDoor

namespace Go.Proofs.YtilepbbcinbmhaaDoor
open Go.RowKit

theorem ret_intD {k : IntKind} {a b : Int} (h : a = b) : Ending.returned (.int k a) = .returned (.int k b) := by rw [h]
theorem base_text (k : Nat) (h : k < 64) : ((⟨#[65, 66, 67, 68, 69, 70, 71, 72, 73, 74, 75, 76, 77, 78, 79, 80, 81, 82, 83, 84, 85, 86, 87, 88, 89, 90, 97, 98, 99, 100, 101, 102, 103, 104, 105, 106, 107, 108, 109, 110, 111, 112, 113, 114, 115, 116, 117, 118, 119, 120, 121, 122, 48, 49, 50, 51, 52, 53, 54, 55, 56, 57, 43, 47]⟩ : ByteArray)[k]'h).toNat = Xf.dig k := by
  have : ∀ k (h : k < 64), ((⟨#[65, 66, 67, 68, 69, 70, 71, 72, 73, 74, 75, 76, 77, 78, 79, 80, 81, 82, 83, 84, 85, 86, 87, 88, 89, 90, 97, 98, 99, 100, 101, 102, 103, 104, 105, 106, 107, 108, 109, 110, 111, 112, 113, 114, 115, 116, 117, 118, 119, 120, 121, 122, 48, 49, 50, 51, 52, 53, 54, 55, 56, 57, 43, 47]⟩ : ByteArray)[k]'h).toNat = Xf.dig k := by decide +kernel
  exact this k h

/-- The table as the row lists it. -/
def tabI : List Int := [65, 66, 67, 68, 69, 70, 71, 72, 73, 74, 75, 76, 77, 78, 79, 80, 81, 82, 83, 84, 85, 86, 87, 88, 89, 90, 97, 98, 99, 100, 101, 102, 103, 104, 105, 106, 107, 108, 109, 110, 111, 112, 113, 114, 115, 116, 117, 118, 119, 120, 121, 122, 48, 49, 50, 51, 52, 53, 54, 55, 56, 57, 43, 47]
theorem tabI_len : tabI.length = 64 := by decide
theorem tabI_get (v : Nat) (h : v < 64) : tabI.getD v 0 = (Xf.dig v : Int) := by
  have : ∀ v, v < 64 → tabI.getD v 0 = (Xf.dig v : Int) := by decide +kernel
  exact this v h
set_option maxHeartbeats 800000 in
set_option maxRecDepth 100000 in
theorem l1Base_any (k : Nat) (h : k < 64) (w : World) : Calls Tryd.prog 92 #[.int .i64 (k : Int)] w fun e w' => e = .returned (.int .u8 (Xf.dig k : Int)) ∧ w' = w := by
  have h' : (k : Int) < 64 := by omega
  go_enter Tryd.func92, Tryd.ntmps92
  go_wp2
  go_ret
  exact ⟨ret_intD (by rw [← base_text k h]), rfl⟩

/-- What BaseDigit answers. -/
def digV (v : Int) : Value := if 0 ≤ v ∧ v ≤ 63 then .agg #[.int .i64 0, .int .i64 (Xf.dig v.toNat : Int)] else .agg #[.int .i64 3, .int .i64 0]
theorem digV_in {v : Int} (h : 0 ≤ v ∧ v ≤ 63) : digV v = .agg #[.int .i64 0, .int .i64 (Xf.dig v.toNat : Int)] := if_pos h
theorem digV_out {v : Int} (h : ¬ (0 ≤ v ∧ v ≤ 63)) : digV v = .agg #[.int .i64 3, .int .i64 0] := if_neg h

/-- A number lies between two others: a plain word, so that no walk opens it. -/
def inD (v a b : Int) : Bool := decide (a ≤ v ∧ v ≤ b)
theorem inD_yes {v a b : Int} (h : a ≤ v ∧ v ≤ b) : inD v a b = true := decide_eq_true h
theorem inD_no {v a b : Int} (h : ¬ (a ≤ v ∧ v ≤ b)) : inD v a b = false := decide_eq_false h
theorem ret_boolD {a b : Bool} (h : a = b) : Ending.returned (.bool a) = .returned (.bool b) := by rw [h]

theorem l1In_dig (v a b : Int) (w : World) : Calls Tryd.prog 42 #[.int .i64 v, .int .i64 a, .int .i64 b] w fun e w' => e = .returned (.bool (inD v a b)) ∧ w' = w := by
  by_cases h1 : a ≤ v
  · by_cases h2 : v ≤ b
    · have H : Hid (inD v a b = true) := inD_yes ⟨h1, h2⟩
      go_enter Tryd.func42, Tryd.ntmps42
      go_wp2
      go_ret
      exact ⟨by rw [H.out]; rfl, rfl⟩
    · have H : Hid (inD v a b = false) := inD_no (fun h => h2 h.2)
      go_enter Tryd.func42, Tryd.ntmps42
      go_wp2
      go_ret
      exact ⟨by rw [H.out]; rfl, rfl⟩
  · have H : Hid (inD v a b = false) := inD_no (fun h => h1 h.1)
    go_enter Tryd.func42, Tryd.ntmps42
    go_wp2
    go_ret
    exact ⟨by rw [H.out]; rfl, rfl⟩

theorem digV_form (v : Int) : ∃ c x : Int, digV v = .agg #[.int .i64 c, .int .i64 x] := by
  by_cases h : 0 ≤ v ∧ v ≤ 63
  · exact ⟨_, _, digV_in h⟩
  · exact ⟨_, _, digV_out h⟩
end Go.Proofs.YtilepbbcinbmhaaDoor

namespace Go.Proofs.YtilepbbcinbmhaaDoor
open Go.RowKit

/-- The first c digits of 24 bits. -/
def dgs : Nat → Nat → List Nat
  | _, 0 => []
  | b, c + 1 => Xf.dig (b / 262144 % 64) :: dgs (b * 64 % 4294967296) c
theorem dgs_len : ∀ (b c : Nat), (dgs b c).length = c
  | _, 0 => rfl
  | b, c + 1 => by rw [dgs, List.length_cons, dgs_len]

theorem sh1 (b : Nat) (_h : b < 16777216) : b * 64 % 4294967296 / 262144 % 64 = b / 4096 % 64 := by omega
theorem sh2 (b : Nat) (_h : b < 16777216) : b * 64 % 4294967296 * 64 % 4294967296 / 262144 % 64 = b / 64 % 64 := by omega
theorem sh3 (b : Nat) (_h : b < 16777216) : b * 64 % 4294967296 * 64 % 4294967296 * 64 % 4294967296 / 262144 % 64 = b % 64 := by omega
theorem sh0 (b : Nat) (_h : b < 16777216) : b / 262144 % 64 = b / 262144 := by omega
theorem dgs_four (b : Nat) (h : b < 16777216) : dgs b 4 = [Xf.dig (b / 262144), Xf.dig (b / 4096 % 64), Xf.dig (b / 64 % 64), Xf.dig (b % 64)] := by
  simp only [dgs, sh0 b h, sh1 b h, sh2 b h, sh3 b h]
theorem dgs_three (b : Nat) (h : b < 16777216) : dgs b 3 = [Xf.dig (b / 262144), Xf.dig (b / 4096 % 64), Xf.dig (b / 64 % 64)] := by
  simp only [dgs, sh0 b h, sh1 b h, sh2 b h]
theorem dgs_two (b : Nat) (h : b < 16777216) : dgs b 2 = [Xf.dig (b / 262144), Xf.dig (b / 4096 % 64)] := by
  simp only [dgs, sh0 b h, sh1 b h]
/-- What is still to be told, three bytes a step. -/
theorem enc_step {l : List Nat} {i : Nat} (hB : IsB l) (h : i + 3 ≤ l.length) :
    Xf.enc (l.drop i) = dgs (nth l i * 65536 + nth l (i + 1) * 256 + nth l (i + 2)) 4 ++ Xf.enc (l.drop (i + 3)) := by
  have h0 := nth_lt hB i
  have h1 := nth_lt hB (i + 1)
  have h2 := nth_lt hB (i + 2)
  rw [drop_cons l i (by omega), drop_cons l (i + 1) (by omega), drop_cons l (i + 1 + 1) (by omega), Xf.enc, dgs_four _ (by omega)]
  rfl
theorem enc_one {l : List Nat} {i : Nat} (hB : IsB l) (h : i + 1 = l.length) : Xf.enc (l.drop i) = dgs (nth l i * 65536) 2 ++ [61, 61] := by
  have h0 := nth_lt hB i
  rw [drop_cons l i (by omega), List.drop_of_length_le (by omega), Xf.enc, dgs_two _ (by omega)]
  rfl
theorem enc_two {l : List Nat} {i : Nat} (hB : IsB l) (h : i + 2 = l.length) : Xf.enc (l.drop i) = dgs (nth l i * 65536 + nth l (i + 1) * 256) 3 ++ [61] := by
  have h0 := nth_lt hB i
  have h1 := nth_lt hB (i + 1)
  rw [drop_cons l i (by omega), drop_cons l (i + 1) (by omega), List.drop_of_length_le (by omega), Xf.enc, dgs_three _ (by omega)]
  rfl

/-- Bytes put together by shifts and bars. -/
theorem or_two (x y : Nat) (hx : x < 256) (hy : y < 256) : Go.bits BinOp.or IntKind.u32 ((x : Int) * 65536) ((y : Int) * 256) = ((x * 65536 + y * 256 : Nat) : Int) := by
  have := u32_or_nat (x * 65536) (y * 256) (by omega) (by omega)
  rw [show ((x * 65536 : Nat) : Int) = (x : Int) * 65536 by omega, show ((y * 256 : Nat) : Int) = (y : Int) * 256 by omega] at this
  rw [this]
  have h := Nat.shiftLeft_add_eq_or_of_lt (show y * 256 < 2 ^ 16 by omega) x
  rw [Nat.shiftLeft_eq] at h
  rw [show x * 65536 = x * 2 ^ 16 from rfl, ← h]
theorem or_three (p z : Nat) (hp : p < 65536) (hz : z < 256) : Go.bits BinOp.or IntKind.u32 ((p * 256 : Nat) : Int) (z : Int) = ((p * 256 + z : Nat) : Int) := by
  have := u32_or_nat (p * 256) z (by omega) (by omega)
  rw [this]
  have h := Nat.shiftLeft_add_eq_or_of_lt (show z < 2 ^ 8 by omega) p
  rw [Nat.shiftLeft_eq] at h
  rw [show p * 256 = p * 2 ^ 8 from rfl, ← h]

end Go.Proofs.YtilepbbcinbmhaaDoor

namespace Go.Proofs.YtilepbbcinbmhaaDoor
open Go.RowKit

/-- How long a slice is. -/
def sliceLen : Value → Nat
  | .slice _ m _ => m
  | _ => 0

end Go.Proofs.YtilepbbcinbmhaaDoor
