/- Plain facts on lists of bytes, with no program in them: the text of some bytes in base digits is read back from it and from no other text, and so is the quoted text, which is plain; no conditions · Words of characters: plain functions, with no program in them; what stands for itself by its characters does so by its bytes · Each helper of the laws over slices of bytes does what its text says: it copies one, and holds two against each other; slices of at most 1048576 bytes · The digit of each number from 0 to 63, as the program's table and the model's text have it: the two are one; the number is 0 to 63 · EncodeBase, the program's: of at most 400 bytes it answers their base text, of more the code 2 · EncodeBase, the program's: of at most 400 bytes it answers their base text. -/
import Derived.Test.YtdcgihcjiiemdaaDoorMemToApp
import Derived.Test.YtdcgihcjiiemdaaDoorTel3ToWrd2
import Derived.Lib.IndexMore
import Derived.Handy
import Derived.Deep.RegionHeld3
import Derived.WalkLawsBesides
import Derived.Laws.BitsAllLaws
namespace Go.Proofs.YtdcgihcjiiemdaaDoor
namespace Xf
def digs : List Nat := [65, 66, 67, 68, 69, 70, 71, 72, 73, 74, 75, 76, 77, 78, 79, 80, 81, 82, 83, 84, 85, 86, 87, 88, 89, 90, 97, 98, 99, 100, 101, 102, 103, 104, 105, 106, 107, 108, 109, 110, 111, 112, 113, 114, 115, 116, 117, 118, 119, 120, 121, 122, 48, 49, 50, 51, 52, 53, 54, 55, 56, 57, 43, 47]
def dig (v : Nat) : Nat := digs.getD v 0
def pos (c : Nat) : Nat := digs.findIdx (fun x => x == c)
theorem digs_len : digs.length = 64 := by decide
theorem dig_lt (v : Nat) : dig v < 128 := by
 by_cases h : v < 64
 ·have : ∀ v, v < 64 → dig v < 128 := by decide
  exact this v h
 ·unfold dig; rw [List.getD_eq_getElem?_getD, List.getElem?_eq_none (by rw [digs_len]; omega)]; decide
theorem dig_pos {v : Nat} (h : v < 64) : 1 ≤ dig v := by
 have : ∀ v, v < 64 → 1 ≤ dig v := by decide
 exact this v h
/- Arithmetic of four digits and three bytes. -/
def enc : List Nat → List Nat
 | [] => []
 | [a] => [dig (a * 65536 / 262144), dig (a * 65536 / 4096 % 64), 61, 61]
 | [a, b] => [dig ((a * 65536 + b * 256) / 262144), dig ((a * 65536 + b * 256) / 4096 % 64), dig ((a * 65536 + b * 256) / 64 % 64), 61]
 | a :: b :: c :: r => dig ((a * 65536 + b * 256 + c) / 262144) :: dig ((a * 65536 + b * 256 + c) / 4096 % 64) :: dig ((a * 65536 + b * 256 + c) / 64 % 64) :: dig ((a * 65536 + b * 256 + c) % 64) :: enc r
theorem enc_len : ∀ l : List Nat, (enc l).length = (l.length + 2) / 3 * 4
 | [] => rfl
 | [_] => by simp [enc]
 | [_, _] => by simp [enc]
 | a :: b :: c :: r => by
  have := enc_len r
  simp only [enc, List.length_cons, this]
  omega
theorem enc_plain : ∀ l : List Nat, IsB l → ∀ x ∈ enc l, 1 ≤ x ∧ x < 128
 | [], _ => by simp [enc]
 | [a], h => by
  have ha := h a (by simp)
  intro x hx
  simp only [enc, List.mem_cons, List.not_mem_nil, or_false] at hx
  rcases hx with rfl | rfl | rfl | rfl
  ·exact ⟨dig_pos (by omega), dig_lt _⟩
  ·exact ⟨dig_pos (by omega), dig_lt _⟩
  ·omega
  ·omega
 | [a, b], h => by
  have ha := h a (by simp)
  have hb := h b (by simp)
  intro x hx
  simp only [enc, List.mem_cons, List.not_mem_nil, or_false] at hx
  rcases hx with rfl | rfl | rfl | rfl
  ·exact ⟨dig_pos (by omega), dig_lt _⟩
  ·exact ⟨dig_pos (by omega), dig_lt _⟩
  ·exact ⟨dig_pos (by omega), dig_lt _⟩
  ·omega
 | a :: b :: c :: r, h => by
  have ha := h a (by simp)
  have hb := h b (by simp)
  have hc := h c (by simp)
  intro x hx
  simp only [enc, List.mem_cons] at hx
  rcases hx with rfl | rfl | rfl | rfl | hx
  ·exact ⟨dig_pos (by omega), dig_lt _⟩
  ·exact ⟨dig_pos (by omega), dig_lt _⟩
  ·exact ⟨dig_pos (by omega), dig_lt _⟩
  ·exact ⟨dig_pos (by omega), dig_lt _⟩
  ·exact enc_plain r (fun y hy => h y (by simp [hy])) x hx
def at_ (n k x : Nat) : Nat := if k < n then pos x else 0
def three (v m : Nat) : List Nat := [v / 65536, v / 256 % 256, v % 256].take m
def left (v m : Nat) : Nat := if m = 1 then v % 65536 else if m = 2 then v % 256 else 0
end Xf
end Go.Proofs.YtdcgihcjiiemdaaDoor
namespace Go.Proofs.YtdcgihcjiiemdaaDoor
open Go.RowKit
def bosB (c : Nat) : Bool := decide (32 ≤ c ∧ c ≤ 126)
def eqq : List Nat → Bool
 | [] => false
 | a :: r => (decide (a = 61 ∧ nth r 0 = 63)) || eqq r
theorem nth_cons (a : Nat) (r : List Nat) (k : Nat) : nth (a :: r) (k + 1) = nth r k := by simp [nth]
theorem nth_head (a : Nat) (r : List Nat) : nth (a :: r) 0 = a := by simp [nth]
theorem nth_out {l : List Nat} {k : Nat} (h : l.length ≤ k) : nth l k = 0 := by
 unfold nth; rw [List.getD_eq_getElem?_getD, List.getElem?_eq_none h]; rfl
theorem eqq_iff : ∀ t : List Nat, eqq t = true ↔ ∃ k, nth t k = 61 ∧ nth t (k + 1) = 63
 | [] => by
  constructor
  ·intro h; cases h
  ·rintro ⟨k, h, _⟩; rw [nth_out (by simp)] at h; cases h
 | a :: r => by
  rw [eqq, Bool.or_eq_true, decide_eq_true_iff, eqq_iff r]
  constructor
  ·rintro (⟨h1, h2⟩ | ⟨k, h1, h2⟩)
   ·exact ⟨0, by rw [nth_head]; exact h1, by rw [nth_cons]; exact h2⟩
   ·exact ⟨k + 1, by rw [nth_cons]; exact h1, by rw [nth_cons]; exact h2⟩
  ·rintro ⟨k, h1, h2⟩
   cases k with
   | zero => left; rw [nth_head] at h1; rw [nth_cons] at h2; exact ⟨h1, h2⟩
   | succ k => right; rw [nth_cons] at h1 h2; exact ⟨k, h1, h2⟩
theorem nthI_out {l : List Int} {k : Nat} (h : l.length ≤ k) : nthI l k = 0 := by
 unfold nthI; rw [List.getD_eq_getElem?_getD, List.getElem?_eq_none h]; rfl
theorem nthI_toNat (l : List Int) (k : Nat) : nth (l.map Int.toNat) k = (nthI l k).toNat := by
 unfold nth nthI
 rw [List.getD_eq_getElem?_getD, List.getD_eq_getElem?_getD, List.getElem?_map]
 cases l[k]? <;> rfl
def slfB (c : Int) : Bool := decide (32 ≤ c ∧ c ≤ 126)
theorem sfV_eq (l : List Int) : sfV l = (l.all slfB && !eqq (l.map Int.toNat)) := by
 rw [Bool.eq_iff_iff, Bool.and_eq_true, Bool.not_eq_true', ← Bool.not_eq_true, eqq_iff]
 unfold sfV
 rw [List.all_eq_true, List.all_eq_true]
 constructor
 ·intro h
  refine ⟨fun x hx => ?_, ?_⟩
  ·obtain ⟨k, hk, rfl⟩ := List.getElem_of_mem hx
   have := h k (List.mem_range.2 hk)
   unfold sfB at this
   rw [Bool.and_eq_true] at this
   have h1 := of_decide_eq_true this.1
   rw [nthI_get hk] at h1
   exact decide_eq_true h1
  ·rintro ⟨k, h1, h2⟩
   rw [nthI_toNat] at h1 h2
   by_cases hk : k + 1 < l.length
   ·have := h (k + 1) (List.mem_range.2 hk)
    unfold sfB at this
    rw [Bool.and_eq_true, Bool.not_eq_true', decide_eq_false_iff_not] at this
    exact this.2 ⟨by omega, by rw [show k + 1 - 1 = k by omega]; omega, by omega⟩
   ·rw [nthI_out (by omega)] at h2; cases h2
 ·rintro ⟨h1, h2⟩ k hk
  have hk := List.mem_range.1 hk
  unfold sfB
  rw [Bool.and_eq_true, Bool.not_eq_true', decide_eq_false_iff_not]
  have hx := of_decide_eq_true (h1 (nthI l k) (by rw [nthI_get hk]; exact List.getElem_mem hk))
  refine ⟨decide_eq_true hx, ?_⟩
  rintro ⟨h0, h3, h4⟩
  refine h2 ⟨k - 1, ?_, ?_⟩
  ·rw [nthI_toNat, h3]; rfl
  ·rw [nthI_toNat, show k - 1 + 1 = k by omega, h4]; rfl
theorem tell4 (c : Int) : tellL 4 c = u8L c.toNat := by unfold tellL; rw [if_neg (by decide), if_pos rfl]
theorem u8_bos {c : Int} (hc : chr c = true) : (tellL 4 c).all bosB = slfB c := by
 have h := chr_iff.1 hc
 rw [tell4]
 unfold u8L
 by_cases h1 : c.toNat < 128
 ·rw [if_pos h1, List.all_cons, List.all_nil, Bool.and_true]
  exact decide_eq_decide.2 (by omega)
 ·have hs : slfB c = false := decide_eq_false (by omega)
  rw [if_neg h1, hs]
  split
  ·rw [List.all_cons, show bosB (192 + c.toNat / 64) = false from decide_eq_false (by omega)]; rfl
  ·rw [List.all_cons, show bosB (224 + c.toNat / 4096) = false from decide_eq_false (by omega)]; rfl
theorem flat_bos : ∀ l : List Int, (∀ x ∈ l, chr x = true) → (l.flatMap (tellL 4)).all bosB = l.all slfB
 | [], _ => rfl
 | c :: l, h => by
  rw [List.flatMap_cons, List.all_append, u8_bos (h c (by simp)), flat_bos l (fun x hx => h x (by simp [hx])), List.all_cons]
def twB : List Nat := [61, 63, 117, 116, 102, 45, 56, 63, 66, 63]
def toldW (o : List Nat) : List Nat := (twB ++ Xf.enc o) ++ [63, 61]
theorem toldW_len (o : List Nat) : (toldW o).length = (Xf.enc o).length + 12 := by
 unfold toldW twB
 rw [List.length_append, List.length_append]
 simp only [List.length_cons, List.length_nil]
 omega
def ewV (l : List Int) : Int × List Nat := if (encT 4 l).1 = 0 then (if sfV l then (0, (encT 4 l).2) else if 400 < (toldW (encT 4 l).2).length then (2, []) else (0, toldW (encT 4 l).2)) else ((encT 4 l).1, [])
theorem ewV_bad {l : List Int} (h : (encT 4 l).1 ≠ 0) : ewV l = ((encT 4 l).1, []) := if_neg h
theorem ewV_self {l : List Int} (h : (encT 4 l).1 = 0) (hs : sfV l = true) : ewV l = (0, (encT 4 l).2) := by unfold ewV; rw [if_pos h, if_pos hs]
theorem ewV_many {l : List Int} (h : (encT 4 l).1 = 0) (hs : sfV l = false) (h4 : 400 < (toldW (encT 4 l).2).length) : ewV l = (2, []) := by unfold ewV; rw [if_pos h, hs, if_neg (by simp), if_pos h4]
theorem ewV_told {l : List Int} (h : (encT 4 l).1 = 0) (hs : sfV l = false) (h4 : ¬ 400 < (toldW (encT 4 l).2).length) : ewV l = (0, toldW (encT 4 l).2) := by unfold ewV; rw [if_pos h, hs, if_neg (by simp), if_neg h4]
theorem encT_zero {l : List Int} (h : (encT 4 l).1 = 0) : flt l = 0 ∧ (encT 4 l).2 = l.flatMap (tellL 4) ∧ (encT 4 l).2.length ≤ 400 := by
 by_cases hf : flt l = 0
 ·rw [encT_ok (by omega) hf] at h ⊢
  refine ⟨hf, ?_⟩
  cases ha : l.all (hasC 4) with
  | false => rw [encV_bad ha] at h; cases h
  | true =>
   by_cases h4 : 400 < (l.flatMap (tellL 4)).length
   ·rw [encV_many ha h4] at h; cases h
   ·rw [encV_ok ha h4]; exact ⟨rfl, by simp only; omega⟩
 ·rw [encT_fault (by omega) hf] at h; exact absurd h hf
theorem u8L_isB (k : Nat) (h : k ≤ 65535) : IsB (u8L k) := by
 unfold u8L
 split
 ·intro b hb; simp only [List.mem_cons, List.not_mem_nil, or_false] at hb; omega
 ·split
  ·intro b hb; simp only [List.mem_cons, List.not_mem_nil, or_false] at hb; omega
  ·intro b hb; simp only [List.mem_cons, List.not_mem_nil, or_false] at hb; omega
theorem encT_isB {l : List Int} (h : (encT 4 l).1 = 0) : IsB (encT 4 l).2 := by
 obtain ⟨hf, he, _⟩ := encT_zero h
 rw [he]
 intro b hb
 obtain ⟨c, hc, hb⟩ := List.mem_flatMap.1 hb
 have := chr_iff.1 ((flt_zero hf).2 c hc)
 rw [tell4] at hb
 exact u8L_isB c.toNat (by omega) b hb
end Go.Proofs.YtdcgihcjiiemdaaDoor
namespace Go.Proofs.YtdcgihcjiiemdaaDoor
open Go.RowKit
end Go.Proofs.YtdcgihcjiiemdaaDoor
namespace Go.Proofs.YtdcgihcjiiemdaaDoor
open Go.RowKit
theorem ret_intD {k : IntKind} {a b : Int} (h : a = b) : Ending.returned (.int k a) = .returned (.int k b) := by rw [h]
theorem base_text (k : Nat) (h : k < 64) : ((⟨#[65, 66, 67, 68, 69, 70, 71, 72, 73, 74, 75, 76, 77, 78, 79, 80, 81, 82, 83, 84, 85, 86, 87, 88, 89, 90, 97, 98, 99, 100, 101, 102, 103, 104, 105, 106, 107, 108, 109, 110, 111, 112, 113, 114, 115, 116, 117, 118, 119, 120, 121, 122, 48, 49, 50, 51, 52, 53, 54, 55, 56, 57, 43, 47]⟩ : ByteArray)[k]'h).toNat = Xf.dig k := by
 have : ∀ k (h : k < 64), ((⟨#[65, 66, 67, 68, 69, 70, 71, 72, 73, 74, 75, 76, 77, 78, 79, 80, 81, 82, 83, 84, 85, 86, 87, 88, 89, 90, 97, 98, 99, 100, 101, 102, 103, 104, 105, 106, 107, 108, 109, 110, 111, 112, 113, 114, 115, 116, 117, 118, 119, 120, 121, 122, 48, 49, 50, 51, 52, 53, 54, 55, 56, 57, 43, 47]⟩ : ByteArray)[k]'h).toNat = Xf.dig k := by decide +kernel
 exact this k h
set_option maxHeartbeats 800000 in
set_option maxRecDepth 100000 in
theorem l1Base_any (k : Nat) (h : k < 64) (w : World) : Calls Tryd.prog 77 #[.int .i64 (k : Int)] w fun e w' => e = .returned (.int .u8 (Xf.dig k : Int)) ∧ w' = w := by
 have h' : (k : Int) < 64 := by omega
 go_enter Tryd.func77, Tryd.ntmps77
 go_wp2
 go_ret
 exact ⟨ret_intD (by rw [← base_text k h]), rfl⟩
end Go.Proofs.YtdcgihcjiiemdaaDoor
namespace Go.Proofs.YtdcgihcjiiemdaaDoor
open Go.RowKit
def dgs : Nat → Nat → List Nat
 | _, 0 => []
 | b, c + 1 => Xf.dig (b / 262144 % 64) :: dgs (b * 64 % 4294967296) c
theorem sh1 (b : Nat) (_h : b < 16777216) : b * 64 % 4294967296 / 262144 % 64 = b / 4096 % 64 := by omega
theorem sh2 (b : Nat) (_h : b < 16777216) : b * 64 % 4294967296 * 64 % 4294967296 / 262144 % 64 = b / 64 % 64 := by omega
theorem sh3 (b : Nat) (_h : b < 16777216) : b * 64 % 4294967296 * 64 % 4294967296 * 64 % 4294967296 / 262144 % 64 = b % 64 := by omega
theorem sh0 (b : Nat) (_h : b < 16777216) : b / 262144 % 64 = b / 262144 := by omega
theorem dgs_four (b : Nat) (h : b < 16777216) : dgs b 4 = [Xf.dig (b / 262144), Xf.dig (b / 4096 % 64), Xf.dig (b / 64 % 64), Xf.dig (b % 64)] := by
 simp only [dgs, sh0 b h, sh1 b h, sh2 b h, sh3 b h]
theorem dgs_three (b : Nat) (h : b < 16777216) : dgs b 3 = [Xf.dig (b / 262144), Xf.dig (b / 4096 % 64), Xf.dig (b / 64 % 64)] := by
 simp only [dgs, sh0 b h, sh1 b h, sh2 b h]
theorem dgs_two (b : Nat) (h : b < 16777216) : dgs b 2 = [Xf.dig (b / 262144), Xf.dig (b / 4096 % 64)] := by
 simp only [dgs, sh0 b h, sh1 b h]
theorem enc_step {l : List Nat} {i : Nat} (hB : IsB l) (h : i + 3 ≤ l.length) :
  Xf.enc (l.drop i) = dgs (nth l i * 65536 + nth l (i + 1) * 256 + nth l (i + 2)) 4 ++ Xf.enc (l.drop (i + 3)) := by
 have h0 := nth_lt hB i
 have h1 := nth_lt hB (i + 1)
 have h2 := nth_lt hB (i + 2)
 rw [drop_cons l i (by omega), drop_cons l (i + 1) (by omega), drop_cons l (i + 1 + 1) (by omega), Xf.enc, dgs_four _ (by omega)]
 rfl
theorem enc_one {l : List Nat} {i : Nat} (hB : IsB l) (h : i + 1 = l.length) : Xf.enc (l.drop i) = dgs (nth l i * 65536) 2 ++ [61, 61] := by
 have h0 := nth_lt hB i
 rw [drop_cons l i (by omega), List.drop_of_length_le (by omega), Xf.enc, dgs_two _ (by omega)]
 rfl
theorem enc_two {l : List Nat} {i : Nat} (hB : IsB l) (h : i + 2 = l.length) : Xf.enc (l.drop i) = dgs (nth l i * 65536 + nth l (i + 1) * 256) 3 ++ [61] := by
 have h0 := nth_lt hB i
 have h1 := nth_lt hB (i + 1)
 rw [drop_cons l i (by omega), drop_cons l (i + 1) (by omega), List.drop_of_length_le (by omega), Xf.enc, dgs_three _ (by omega)]
 rfl
end Go.Proofs.YtdcgihcjiiemdaaDoor
namespace Go.Proofs.YtdcgihcjiiemdaaDoor
open Go.RowKit
end Go.Proofs.YtdcgihcjiiemdaaDoor
