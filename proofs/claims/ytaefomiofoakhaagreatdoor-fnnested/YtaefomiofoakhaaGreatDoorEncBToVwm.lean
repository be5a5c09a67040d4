/- EncodeBase, the program's: of at most 400 bytes it answers their base text, of more the code 2 · EncodeBase, the program's: of at most 400 bytes it answers their base text · The parts of DecodeBase, the program's: a digit's value, letters without their fill, a group of four letters, the bytes of a group · Plain facts on lists of bytes, with no program in them: quoted text is read back as the bytes that it was told of, and it is plain; no conditions · EncodeQuoted, the program's and the model's: of at most 400 bytes each answers their quoted text, of more the code 2; slices of at most 1048576 bytes · The parts of DecodeQuoted, the program's: a digit's value, a line that is broken, a byte that is quoted; slices of at least one byte · DecodeQuoted, the program's, at every text: the bytes of its quoted text, or a code; texts of whatever length · DecodeBase, the program's, at every text: the bytes whose base text it is, or a code; texts of whatever length · The model's EncodeBase: of at most 400 bytes it answers their base text, of more the code 2; and so does the program's of more · The model's l1Digit and l1Decode: letters read by groups of four, and held against their own text · The model's l1Decode and DecodeBase at every text of at most 1048576 letters · The model's copy of bytes · Where a byte stands first in bytes: plain functions, with no program in them · Line feeds taken out of bytes: a plain function; strings.ReplaceAll does it · What is seen of a part, the model's: l1Copy, l6Joined, l6Part, l6Bytes, PartBytes. -/
import Derived.Test.YtaefomiofoakhaaGreatDoorAppToMemF
import Derived.Test.YtaefomiofoakhaaGreatDoorPspToDig
import Derived.Deep.RegionHeld3
import Derived.WalkLawsBesides
import Derived.Laws.BitsAllLaws
import Derived.Test.YtaefomiofoakhaaGreatDoorJfzToInf
import Derived.WalkSpells
import Derived.Lib.Replace
import Derived.Lib.IndexBytes
import Derived.Lib.SplitLaws
namespace Go.Proofs.YtaefomiofoakhaaGreatDoor
open Go.RowKit

/-- The first c digits of 24 bits. -/
def dgs : Nat → Nat → List Nat
  | _, 0 => []
  | b, c + 1 => Xf.dig (b / 262144 % 64) :: dgs (b * 64 % 4294967296) c
theorem sh1 (b : Nat) (_h : b < 16777216) : b * 64 % 4294967296 / 262144 % 64 = b / 4096 % 64 := by omega
theorem sh2 (b : Nat) (_h : b < 16777216) : b * 64 % 4294967296 * 64 % 4294967296 / 262144 % 64 = b / 64 % 64 := by omega
theorem sh3 (b : Nat) (_h : b < 16777216) : b * 64 % 4294967296 * 64 % 4294967296 * 64 % 4294967296 / 262144 % 64 = b % 64 := by omega
theorem sh0 (b : Nat) (_h : b < 16777216) : b / 262144 % 64 = b / 262144 := by omega
theorem dgs_four (b : Nat) (h : b < 16777216) : dgs b 4 = [Xf.dig (b / 262144), Xf.dig (b / 4096 % 64), Xf.dig (b / 64 % 64), Xf.dig (b % 64)] := by
  simp only [dgs, sh0 b h, sh1 b h, sh2 b h, sh3 b h]
theorem dgs_three (b : Nat) (h : b < 16777216) : dgs b 3 = [Xf.dig (b / 262144), Xf.dig (b / 4096 % 64), Xf.dig (b / 64 % 64)] := by
  simp only [dgs, sh0 b h, sh1 b h, sh2 b h]
theorem dgs_two (b : Nat) (h : b < 16777216) : dgs b 2 = [Xf.dig (b / 262144), Xf.dig (b / 4096 % 64)] := by
  simp only [dgs, sh0 b h, sh1 b h]
/-- What is still to be told, three bytes a step. -/
theorem enc_step {l : List Nat} {i : Nat} (hB : IsB l) (h : i + 3 ≤ l.length) :
    Xf.enc (l.drop i) = dgs (nth l i * 65536 + nth l (i + 1) * 256 + nth l (i + 2)) 4 ++ Xf.enc (l.drop (i + 3)) := by
  have h0 := nth_lt hB i
  have h1 := nth_lt hB (i + 1)
  have h2 := nth_lt hB (i + 2)
  rw [drop_cons l i (by omega), drop_cons l (i + 1) (by omega), drop_cons l (i + 1 + 1) (by omega), Xf.enc, dgs_four _ (by omega)]
  rfl
theorem enc_one {l : List Nat} {i : Nat} (hB : IsB l) (h : i + 1 = l.length) : Xf.enc (l.drop i) = dgs (nth l i * 65536) 2 ++ [61, 61] := by
  have h0 := nth_lt hB i
  rw [drop_cons l i (by omega), List.drop_of_length_le (by omega), Xf.enc, dgs_two _ (by omega)]
  rfl
theorem enc_two {l : List Nat} {i : Nat} (hB : IsB l) (h : i + 2 = l.length) : Xf.enc (l.drop i) = dgs (nth l i * 65536 + nth l (i + 1) * 256) 3 ++ [61] := by
  have h0 := nth_lt hB i
  have h1 := nth_lt hB (i + 1)
  rw [drop_cons l i (by omega), drop_cons l (i + 1) (by omega), List.drop_of_length_le (by omega), Xf.enc, dgs_three _ (by omega)]
  rfl

end Go.Proofs.YtaefomiofoakhaaGreatDoor

namespace Go.Proofs.YtaefomiofoakhaaGreatDoor
open Go.RowKit

end Go.Proofs.YtaefomiofoakhaaGreatDoor

namespace Go.Proofs.YtaefomiofoakhaaGreatDoor
open Go.RowKit

end Go.Proofs.YtaefomiofoakhaaGreatDoor

namespace Go.Proofs.YtaefomiofoakhaaGreatDoor
namespace Xq

/-- Does a byte stand as itself, ahead of r? -/
def self (b : Nat) (r : List Nat) : Bool :=
  if b = 10 then true else if b = 32 ∨ b = 9 then decide (0 < r.length ∧ nth r 0 ≠ 10) else decide (33 ≤ b ∧ b ≤ 126 ∧ b ≠ 61)
def hex (v : Nat) : Nat := if v < 10 then 48 + v else 55 + v
theorem hex_lt {v : Nat} (h : v < 16) : hex v < 128 ∧ 1 ≤ hex v ∧ hex v ≠ 10 := by unfold hex; split <;> omega
/-- The quoted text of some bytes. -/
def quo : List Nat → List Nat
  | [] => []
  | b :: r => if self b r = true then b :: quo r else 61 :: hex (b / 16) :: hex (b % 16) :: quo r
theorem self_plain {b : Nat} {r : List Nat} (h : self b r = true) : 1 ≤ b ∧ b < 128 ∧ b ≠ 61 := by
  unfold self at h
  split at h
  · omega
  · split at h
    · omega
    · simp at h; omega
theorem quo_plain : ∀ l : List Nat, IsB l → ∀ x ∈ quo l, 1 ≤ x ∧ x < 128
  | [], _ => by simp [quo]
  | b :: r, h => by
    have hb := h b (by simp)
    have ih := quo_plain r (fun y hy => h y (by simp [hy]))
    rw [quo]
    split
    · rename_i hs
      have := self_plain hs
      intro x hx
      rcases List.mem_cons.1 hx with rfl | hx
      · omega
      · exact ih x hx
    · intro x hx
      have h1 := hex_lt (v := b / 16) (by omega)
      have h2 := hex_lt (v := b % 16) (by omega)
      simp only [List.mem_cons] at hx
      rcases hx with rfl | rfl | rfl | hx
      · omega
      · omega
      · omega
      · exact ih x hx

end Xq
end Go.Proofs.YtaefomiofoakhaaGreatDoor

namespace Go.Proofs.YtaefomiofoakhaaGreatDoor
open Go.RowKit

/-- Does the first byte of l stand as itself? -/
def selfL (l : List Nat) : Bool := Xq.self (nth l 0) (l.drop 1)
theorem selfL_lf {l : List Nat} (h : nth l 0 = 10) : selfL l = true := by simp [selfL, Xq.self, h]
theorem selfL_bl {l : List Nat} (h : nth l 0 = 32 ∨ nth l 0 = 9) (hn : 1 < l.length) (hc : nth l 1 ≠ 10) : selfL l = true := by
  have h1 : nth l 0 ≠ 10 := by omega
  unfold selfL Xq.self
  rw [if_neg h1, if_pos h]
  exact decide_eq_true ⟨by simp; omega, by rw [nth_drop]; exact hc⟩
theorem selfL_bl_no {l : List Nat} (h : nth l 0 = 32 ∨ nth l 0 = 9) (hc : ¬ (1 < l.length ∧ nth l 1 ≠ 10)) : selfL l = false := by
  have h1 : nth l 0 ≠ 10 := by omega
  unfold selfL Xq.self
  rw [if_neg h1, if_pos h]
  refine decide_eq_false (fun hh => hc ⟨?_, ?_⟩)
  · have := hh.1; simp at this; omega
  · have := hh.2; rw [nth_drop] at this; exact this
theorem selfL_other {l : List Nat} (h1 : nth l 0 ≠ 10) (h2 : ¬ (nth l 0 = 32 ∨ nth l 0 = 9)) : selfL l = decide (33 ≤ nth l 0 ∧ nth l 0 ≤ 126 ∧ nth l 0 ≠ 61) := by
  unfold selfL Xq.self
  rw [if_neg h1, if_neg h2]

theorem hex_text (k : Nat) (h : k < 16) : ((⟨#[48, 49, 50, 51, 52, 53, 54, 55, 56, 57, 65, 66, 67, 68, 69, 70]⟩ : ByteArray)[k]'h).toNat = Xq.hex k := by
  have : ∀ k (h : k < 16), ((⟨#[48, 49, 50, 51, 52, 53, 54, 55, 56, 57, 65, 66, 67, 68, 69, 70]⟩ : ByteArray)[k]'h).toNat = Xq.hex k := by decide +kernel
  exact this k h
set_option maxHeartbeats 800000 in
set_option maxRecDepth 100000 in
theorem l1Hex_any (k : Nat) (h : k < 16) (w : World) : Calls Tryz.prog 86 #[.int .u8 (k : Int)] w fun e w' => e = .returned (.int .u8 (Xq.hex k : Int)) ∧ w' = w := by
  have h' : (k : Int) < 16 := by omega
  go_enter Tryz.func86, Tryz.ntmps86
  go_wp2
  go_ret
  exact ⟨ret_intD (by rw [← hex_text k h]), rfl⟩

/-- What is still to be told, byte by byte. -/
theorem quo_step_self {l : List Nat} {k : Nat} (hk : k < l.length) (h : selfL (l.drop k) = true) : Xq.quo (l.drop k) = nth l k :: Xq.quo (l.drop (k + 1)) := by
  have e0 : nth (l.drop k) 0 = nth l k := by rw [nth_drop, Nat.add_zero]
  have e1 : (l.drop k).drop 1 = l.drop (k + 1) := by rw [List.drop_drop]
  unfold selfL at h
  rw [e0, e1] at h
  rw [drop_cons l k hk, Xq.quo, if_pos h]
theorem quo_step_hex {l : List Nat} {k : Nat} (hk : k < l.length) (h : selfL (l.drop k) = false) : Xq.quo (l.drop k) = 61 :: Xq.hex (nth l k / 16) :: Xq.hex (nth l k % 16) :: Xq.quo (l.drop (k + 1)) := by
  have e0 : nth (l.drop k) 0 = nth l k := by rw [nth_drop, Nat.add_zero]
  have e1 : (l.drop k).drop 1 = l.drop (k + 1) := by rw [List.drop_drop]
  unfold selfL at h
  rw [e0, e1] at h
  rw [drop_cons l k hk, Xq.quo, if_neg (by rw [h]; simp)]

end Go.Proofs.YtaefomiofoakhaaGreatDoor

namespace Go.Proofs.YtaefomiofoakhaaGreatDoor
open Go.RowKit

end Go.Proofs.YtaefomiofoakhaaGreatDoor

namespace Go.Proofs.YtaefomiofoakhaaGreatDoor
open Go.RowKit

theorem Own.low {w : World} {B C : Nat} {v : Value} {l : List Nat} (h : Own w B v l) (hC : C ≤ B) : Own w C v l := by
  refine ⟨h.1, ?_⟩
  rcases h.2 with h' | ⟨g, cap, cur, h1, h2, h3⟩
  · exact .inl h'
  · exact .inr ⟨g, cap, cur, h1, Nat.le_trans hC h2, h3⟩
theorem Own.set {w : World} {B : Nat} {v : Value} {l : List Nat} (h : Own w B v l) (p : Addr) (hp : p.block < B) (u : Value) : Own (w.setCell p u) B v l := ownsRow_setCell_below h hp u

end Go.Proofs.YtaefomiofoakhaaGreatDoor

namespace Go.Proofs.YtaefomiofoakhaaGreatDoor
open Go.RowKit

end Go.Proofs.YtaefomiofoakhaaGreatDoor

namespace Go.Proofs.YtaefomiofoakhaaGreatDoor
open Go.RowKit

theorem l1Base_int (i : Int) (k : Nat) (w : World) (hi : i = (k : Int)) (h : k < 64) : Calls Tryz.prog 85 #[.int .i64 i] w fun e w' => e = .returned (.int .u8 (Xf.dig k : Int)) ∧ w = w' := by
  subst hi
  exact (l1Base_any k h w).mono fun _ _ ⟨h1, h2⟩ => ⟨h1, h2.symm⟩

theorem four_step {l : List Nat} {i : Nat} (hB : IsB l) (h : i + 3 ≤ l.length) (v : Nat) (hv : v = nth l i * 65536 + nth l (i + 1) * 256 + nth l (i + 2)) :
    Xf.enc (l.drop i) = [Xf.dig (v / 262144), Xf.dig (v / 4096 % 64), Xf.dig (v / 64 % 64), Xf.dig (v % 64)] ++ Xf.enc (l.drop (i + 3)) := by
  have h0 := nth_lt hB i
  have h1 := nth_lt hB (i + 1)
  have h2 := nth_lt hB (i + 2)
  rw [enc_step hB h, dgs_four _ (by omega), hv]
theorem four_two {l : List Nat} {i : Nat} (hB : IsB l) (h : i + 2 = l.length) (v : Nat) (hv : v = nth l i * 65536 + nth l (i + 1) * 256) :
    Xf.enc (l.drop i) = [Xf.dig (v / 262144), Xf.dig (v / 4096 % 64), Xf.dig (v / 64 % 64), 61] ++ Xf.enc (l.drop (i + 3)) := by
  have h0 := nth_lt hB i
  have h1 := nth_lt hB (i + 1)
  rw [enc_two hB h, dgs_three _ (by omega), hv, List.drop_of_length_le (by omega), Xf.enc]
  rfl
theorem four_one {l : List Nat} {i : Nat} (hB : IsB l) (h : i + 1 = l.length) (v : Nat) (hv : v = nth l i * 65536) :
    Xf.enc (l.drop i) = [Xf.dig (v / 262144), Xf.dig (v / 4096 % 64), 61, 61] ++ Xf.enc (l.drop (i + 3)) := by
  have h0 := nth_lt hB i
  rw [enc_one hB h, dgs_two _ (by omega), hv, List.drop_of_length_le (by omega), Xf.enc]
  rfl

set_option maxHeartbeats 3200000 in
set_option maxRecDepth 100000 in
theorem l1Encode_any (a : Option Addr) (n cap : Nat) (l : List Nat) (w : World) (hl : l.length = n) (hr : Rd w a l) (hB : IsB l) (hn : n ≤ 1048576) :
    Calls Tryz.prog 65 #[.slice a n cap] w fun e w' => e = .returned (.string (str (Xf.enc l))) ∧ Below w.heap.size w w' := by
  go_enter Tryz.func65, Tryz.ntmps65
  go_wp2
  have hown0 : Own (w.alloc (.cells #[] 5)) w.heap.size (.slice (some ⟨w.heap.size, 0, none⟩) 0 0) [] := Own.lit w _ (Nat.le_refl _) #[] [] rfl (by decide)
  have hbel0 : Below w.heap.size w (w.alloc (.cells #[] 5)) := (Below.refl _ _).alloc (Nat.le_refl _) _
  go_loopw [3, 4] (fun v i wr => ∃ (k : Nat) (out : List Nat), 3 * k ≤ n + 2 ∧ i = .int .i64 (3 * k : Nat) ∧ Own wr w.heap.size v out ∧ Below w.heap.size w wr ∧ Hid (Xf.enc l = out ++ Xf.enc (l.drop (3 * k))) ∧ out.length ≤ 4 * k)
    (fun _ i _ => n + 3 - (intOf i).toNat)
  case atStart => exact ⟨0, [], by omega, rfl, hown0, hbel0, rfl, Nat.le_refl _⟩
  case round =>
    obtain ⟨k, out, hk, rfl, hown, hbel, hq, hol⟩ := hrel
    clear hown0 hbel0
    have hz := hbel.size
    have hol2 : out.length ≤ 2000000 := by omega
    obtain ⟨i, hi⟩ : ∃ i, 3 * k = i := ⟨_, rfl⟩
    rw [hi] at hq hk ⊢
    by_cases hkn : i < n
    · obtain ⟨b, off, rfl, hblt, hcell⟩ := hr.at_ (by omega)
      have cc : ∀ j, j < n → wr.cell? ⟨b, off + j, none⟩ = some (.int .u8 (nth l j : Int)) := fun j hj => (hbel.cell (p := ⟨b, off + j, none⟩) hblt).trans (hcell j (by omega))
      have c0 := cc i hkn
      have x0 := nth_lt hB i
      have x1 := nth_lt hB (i + 1)
      have x2 := nth_lt hB (i + 2)
      clear hcell hr
      rcases (show i + 3 ≤ n ∨ i + 2 = n ∨ i + 1 = n by omega) with h3 | h2 | h1
      · have c1 := cc (i + 1) (by omega)
        have c2 := cc (i + 2) (by omega)
        have hq' := four_step (i := i) hB (by omega) _ rfl
        generalize nth l i = x at *
        generalize nth l (i + 1) = y at *
        generalize nth l (i + 2) = z at *
        obtain ⟨v, hv⟩ : ∃ v, v = x * 65536 + y * 256 + z := ⟨_, rfl⟩
        rw [← hv] at hq'
        obtain ⟨d0, hd0⟩ : ∃ d, d = v / 262144 := ⟨_, rfl⟩
        obtain ⟨d1, hd1⟩ : ∃ d, d = v / 4096 % 64 := ⟨_, rfl⟩
        obtain ⟨d2, hd2⟩ : ∃ d, d = v / 64 % 64 := ⟨_, rfl⟩
        obtain ⟨d3, hd3⟩ : ∃ d, d = v % 64 := ⟨_, rfl⟩
        rw [← hd0, ← hd1, ← hd2, ← hd3] at hq'
        have HQ : Hid (Xf.enc l = (out ++ [Xf.dig d0, Xf.dig d1, Xf.dig d2, Xf.dig d3]) ++ Xf.enc (l.drop (3 * (k + 1)))) := by
          show _ = _
          rw [hq.out, hq', show 3 * (k + 1) = i + 3 by omega]; simp
        have n1 : (i : Int) + 1 < (n : Int) := by omega
        have n2 : (i : Int) + 2 < (n : Int) := by omega
        have n3 : ¬ (n : Int) ≤ (i : Int) + 2 := by omega
        have n4 : ¬ (n : Int) ≤ (i : Int) + 1 := by omega
        clear hq hq' cc
        have Hv : Hid (v = x * 65536 + y * 256 + z) := hv
        have H0 : Hid (d0 = v / 262144) := hd0
        have H1 : Hid (d1 = v / 4096 % 64) := hd1
        have H2 : Hid (d2 = v / 64 % 64) := hd2
        have H3 : Hid (d3 = v % 64) := hd3
        have HI : Hid (3 * k = i) := hi
        clear hv hd0 hd1 hd2 hd3 hi
        go_wp2_with fail
        refine (l1Base_int _ d0 _ (by have h1 := Hv.out; have h2 := H0.out; omega) (by have h1 := Hv.out; have h2 := H0.out; omega)).mono ?_
        rintro e w1 ⟨rfl, rfl⟩
        go_wp2_with fail
        refine (l1Base_int _ d1 _ (by have h1 := Hv.out; have h2 := H1.out; omega) (by have h1 := Hv.out; have h2 := H1.out; omega)).mono ?_
        rintro e w2 ⟨rfl, rfl⟩
        go_wp2_with fail
        refine (l1Base_int _ d2 _ (by have h1 := Hv.out; have h2 := H2.out; omega) (by have h1 := Hv.out; have h2 := H2.out; omega)).mono ?_
        rintro e w3 ⟨rfl, rfl⟩
        go_wp2_with fail
        refine (l1Base_int _ d3 _ (by have h1 := Hv.out; have h2 := H3.out; omega) (by have h1 := Hv.out; have h2 := H3.out; omega)).mono ?_
        rintro e w4 ⟨rfl, rfl⟩
        go_wp2_with (at_builtin; refine wpList_app_new rfl _ _ rfl w.heap.size _ out rfl hown 4 4 [Xf.dig d0, Xf.dig d1, Xf.dig d2, Xf.dig d3] rfl rfl rfl (by omega) hz ?_; intro v' w5 hown' hb')
        go_wp2
        go_roundw
        case rel => exact ⟨k + 1, out ++ [Xf.dig d0, Xf.dig d1, Xf.dig d2, Xf.dig d3], by have := HI.out; omega, by have := HI.out; go_num, hown', hbel.trans hb', HQ, by simp; omega⟩
        case measure => have := HI.out; simp [intOf]; omega
      · have c1 := cc (i + 1) (by omega)
        have hq' := four_two (i := i) hB (by omega) _ rfl
        generalize nth l i = x at *
        generalize nth l (i + 1) = y at *
        obtain ⟨v, hv⟩ : ∃ v, v = x * 65536 + y * 256 := ⟨_, rfl⟩
        rw [← hv] at hq'
        obtain ⟨d0, hd0⟩ : ∃ d, d = v / 262144 := ⟨_, rfl⟩
        obtain ⟨d1, hd1⟩ : ∃ d, d = v / 4096 % 64 := ⟨_, rfl⟩
        obtain ⟨d2, hd2⟩ : ∃ d, d = v / 64 % 64 := ⟨_, rfl⟩
        obtain ⟨d3, hd3⟩ : ∃ d, d = v % 64 := ⟨_, rfl⟩
        rw [← hd0, ← hd1, ← hd2] at hq'
        have HQ : Hid (Xf.enc l = (out ++ [Xf.dig d0, Xf.dig d1, Xf.dig d2, 61]) ++ Xf.enc (l.drop (3 * (k + 1)))) := by
          show _ = _
          rw [hq.out, hq', show 3 * (k + 1) = i + 3 by omega]; simp
        have n1 : (i : Int) + 1 < (n : Int) := by omega
        have n2 : ¬ (i : Int) + 2 < (n : Int) := by omega
        have n3 : (n : Int) ≤ (i : Int) + 2 := by omega
        have n4 : ¬ (n : Int) ≤ (i : Int) + 1 := by omega
        have h2' : n ≤ i + 2 := by omega
        have h2'' : i + 2 ≤ n := by omega
        clear hq hq' cc h2
        have Hv : Hid (v = x * 65536 + y * 256) := hv
        have H0 : Hid (d0 = v / 262144) := hd0
        have H1 : Hid (d1 = v / 4096 % 64) := hd1
        have H2 : Hid (d2 = v / 64 % 64) := hd2
        have H3 : Hid (d3 = v % 64) := hd3
        have HI : Hid (3 * k = i) := hi
        clear hv hd0 hd1 hd2 hd3 hi
        go_wp2_with fail
        refine (l1Base_int _ d0 _ (by have h1 := Hv.out; have h2 := H0.out; omega) (by have h1 := Hv.out; have h2 := H0.out; omega)).mono ?_
        rintro e w1 ⟨rfl, rfl⟩
        go_wp2_with fail
        refine (l1Base_int _ d1 _ (by have h1 := Hv.out; have h2 := H1.out; omega) (by have h1 := Hv.out; have h2 := H1.out; omega)).mono ?_
        rintro e w2 ⟨rfl, rfl⟩
        go_wp2_with fail
        refine (l1Base_int _ d2 _ (by have h1 := Hv.out; have h2 := H2.out; omega) (by have h1 := Hv.out; have h2 := H2.out; omega)).mono ?_
        rintro e w3 ⟨rfl, rfl⟩
        go_wp2_with fail
        refine (l1Base_int _ d3 _ (by have h1 := Hv.out; have h2 := H3.out; omega) (by have h1 := Hv.out; have h2 := H3.out; omega)).mono ?_
        rintro e w4 ⟨rfl, rfl⟩
        go_wp2_with (at_builtin; refine wpList_app_new rfl _ _ rfl w.heap.size _ out rfl hown 4 4 [Xf.dig d0, Xf.dig d1, Xf.dig d2, 61] rfl rfl rfl (by omega) hz ?_; intro v' w5 hown' hb')
        go_wp2
        go_roundw
        case rel => exact ⟨k + 1, out ++ [Xf.dig d0, Xf.dig d1, Xf.dig d2, 61], by have := HI.out; omega, by have := HI.out; go_num, hown', hbel.trans hb', HQ, by simp; omega⟩
        case measure => have := HI.out; simp [intOf]; omega
      · have hq' := four_one (i := i) hB (by omega) _ rfl
        generalize nth l i = x at *
        obtain ⟨v, hv⟩ : ∃ v, v = x * 65536 := ⟨_, rfl⟩
        rw [← hv] at hq'
        obtain ⟨d0, hd0⟩ : ∃ d, d = v / 262144 := ⟨_, rfl⟩
        obtain ⟨d1, hd1⟩ : ∃ d, d = v / 4096 % 64 := ⟨_, rfl⟩
        obtain ⟨d2, hd2⟩ : ∃ d, d = v / 64 % 64 := ⟨_, rfl⟩
        obtain ⟨d3, hd3⟩ : ∃ d, d = v % 64 := ⟨_, rfl⟩
        rw [← hd0, ← hd1] at hq'
        have HQ : Hid (Xf.enc l = (out ++ [Xf.dig d0, Xf.dig d1, 61, 61]) ++ Xf.enc (l.drop (3 * (k + 1)))) := by
          show _ = _
          rw [hq.out, hq', show 3 * (k + 1) = i + 3 by omega]; simp
        have n1 : ¬ (i : Int) + 1 < (n : Int) := by omega
        have n2 : ¬ (i : Int) + 2 < (n : Int) := by omega
        have n3 : (n : Int) ≤ (i : Int) + 2 := by omega
        have n4 : (n : Int) ≤ (i : Int) + 1 := by omega
        have h1' : n ≤ i + 1 := by omega
        clear hq hq' cc h1
        have Hv : Hid (v = x * 65536) := hv
        have H0 : Hid (d0 = v / 262144) := hd0
        have H1 : Hid (d1 = v / 4096 % 64) := hd1
        have H2 : Hid (d2 = v / 64 % 64) := hd2
        have H3 : Hid (d3 = v % 64) := hd3
        have HI : Hid (3 * k = i) := hi
        clear hv hd0 hd1 hd2 hd3 hi
        go_wp2_with fail
        refine (l1Base_int _ d0 _ (by have h1 := Hv.out; have h2 := H0.out; omega) (by have h1 := Hv.out; have h2 := H0.out; omega)).mono ?_
        rintro e w1 ⟨rfl, rfl⟩
        go_wp2_with fail
        refine (l1Base_int _ d1 _ (by have h1 := Hv.out; have h2 := H1.out; omega) (by have h1 := Hv.out; have h2 := H1.out; omega)).mono ?_
        rintro e w2 ⟨rfl, rfl⟩
        go_wp2_with fail
        refine (l1Base_int _ d2 _ (by have h1 := Hv.out; have h2 := H2.out; omega) (by have h1 := Hv.out; have h2 := H2.out; omega)).mono ?_
        rintro e w3 ⟨rfl, rfl⟩
        go_wp2_with fail
        refine (l1Base_int _ d3 _ (by have h1 := Hv.out; have h2 := H3.out; omega) (by have h1 := Hv.out; have h2 := H3.out; omega)).mono ?_
        rintro e w4 ⟨rfl, rfl⟩
        go_wp2_with (at_builtin; refine wpList_app_new rfl _ _ rfl w.heap.size _ out rfl hown 4 4 [Xf.dig d0, Xf.dig d1, 61, 61] rfl rfl rfl (by omega) hz ?_; intro v' w5 hown' hb')
        go_wp2
        go_roundw
        case rel => exact ⟨k + 1, out ++ [Xf.dig d0, Xf.dig d1, 61, 61], by have := HI.out; omega, by have := HI.out; go_num, hown', hbel.trans hb', HQ, by simp; omega⟩
        case measure => have := HI.out; simp [intOf]; omega
    · have hq' : Hid (Xf.enc l = out) := by
        show _ = _
        rw [hq.out, List.drop_of_length_le (by omega)]; simp [Xf.enc]
      obtain ⟨ao, ocap, rfl, hoc⟩ := hown.form
      have hconv := fun c => run_str (cap := c) rfl (Own.rd hown).2
      clear hi
      go_wp2
      go_ret
      exact ⟨by rw [hq'.out]; rfl, hbel⟩

end Go.Proofs.YtaefomiofoakhaaGreatDoor

namespace Go.Proofs.YtaefomiofoakhaaGreatDoor
open Go.RowKit

end Go.Proofs.YtaefomiofoakhaaGreatDoor

namespace Go.Proofs.YtaefomiofoakhaaGreatDoor
open Go.RowKit

end Go.Proofs.YtaefomiofoakhaaGreatDoor

namespace Go.Proofs.YtaefomiofoakhaaGreatDoor
open Go.RowKit

end Go.Proofs.YtaefomiofoakhaaGreatDoor

namespace Go.Proofs.YtaefomiofoakhaaGreatDoor
open Go.RowKit

end Go.Proofs.YtaefomiofoakhaaGreatDoor

namespace Go.Proofs.YtaefomiofoakhaaGreatDoor
open Go.RowKit

end Go.Proofs.YtaefomiofoakhaaGreatDoor

namespace Go.Proofs.YtaefomiofoakhaaGreatDoor
open Go.RowKit

end Go.Proofs.YtaefomiofoakhaaGreatDoor
