/- EncodeBase, the program's: of at most 400 bytes it answers their base text, of more the code 2. -/
import Derived.Test.YtknbndebfickpaaGreatDoorApp
import Derived.Test.YtknbndebfickpaaGreatDoorDig
import Derived.Deep.RegionHeld3
import Derived.WalkLawsBesides
import Derived.Laws.BitsAllLaws
namespace Go.Proofs.YtknbndebfickpaaGreatDoor
open Go.RowKit

/-- The first c digits of 24 bits. -/
def dgs : Nat → Nat → List Nat
  | _, 0 => []
  | b, c + 1 => Xf.dig (b / 262144 % 64) :: dgs (b * 64 % 4294967296) c
theorem dgs_len : ∀ (b c : Nat), (dgs b c).length = c
  | _, 0 => rfl
  | b, c + 1 => by rw [dgs, List.length_cons, dgs_len]

theorem sh1 (b : Nat) (_h : b < 16777216) : b * 64 % 4294967296 / 262144 % 64 = b / 4096 % 64 := by omega
theorem sh2 (b : Nat) (_h : b < 16777216) : b * 64 % 4294967296 * 64 % 4294967296 / 262144 % 64 = b / 64 % 64 := by omega
theorem sh3 (b : Nat) (_h : b < 16777216) : b * 64 % 4294967296 * 64 % 4294967296 * 64 % 4294967296 / 262144 % 64 = b % 64 := by omega
theorem sh0 (b : Nat) (_h : b < 16777216) : b / 262144 % 64 = b / 262144 := by omega
theorem dgs_four (b : Nat) (h : b < 16777216) : dgs b 4 = [Xf.dig (b / 262144), Xf.dig (b / 4096 % 64), Xf.dig (b / 64 % 64), Xf.dig (b % 64)] := by
  simp only [dgs, sh0 b h, sh1 b h, sh2 b h, sh3 b h]
theorem dgs_three (b : Nat) (h : b < 16777216) : dgs b 3 = [Xf.dig (b / 262144), Xf.dig (b / 4096 % 64), Xf.dig (b / 64 % 64)] := by
  simp only [dgs, sh0 b h, sh1 b h, sh2 b h]
theorem dgs_two (b : Nat) (h : b < 16777216) : dgs b 2 = [Xf.dig (b / 262144), Xf.dig (b / 4096 % 64)] := by
  simp only [dgs, sh0 b h, sh1 b h]
/-- What is still to be told, three bytes a step. -/
theorem enc_step {l : List Nat} {i : Nat} (hB : IsB l) (h : i + 3 ≤ l.length) :
    Xf.enc (l.drop i) = dgs (nth l i * 65536 + nth l (i + 1) * 256 + nth l (i + 2)) 4 ++ Xf.enc (l.drop (i + 3)) := by
  have h0 := nth_lt hB i
  have h1 := nth_lt hB (i + 1)
  have h2 := nth_lt hB (i + 2)
  rw [drop_cons l i (by omega), drop_cons l (i + 1) (by omega), drop_cons l (i + 1 + 1) (by omega), Xf.enc, dgs_four _ (by omega)]
  rfl
theorem enc_one {l : List Nat} {i : Nat} (hB : IsB l) (h : i + 1 = l.length) : Xf.enc (l.drop i) = dgs (nth l i * 65536) 2 ++ [61, 61] := by
  have h0 := nth_lt hB i
  rw [drop_cons l i (by omega), List.drop_of_length_le (by omega), Xf.enc, dgs_two _ (by omega)]
  rfl
theorem enc_two {l : List Nat} {i : Nat} (hB : IsB l) (h : i + 2 = l.length) : Xf.enc (l.drop i) = dgs (nth l i * 65536 + nth l (i + 1) * 256) 3 ++ [61] := by
  have h0 := nth_lt hB i
  have h1 := nth_lt hB (i + 1)
  rw [drop_cons l i (by omega), drop_cons l (i + 1) (by omega), List.drop_of_length_le (by omega), Xf.enc, dgs_three _ (by omega)]
  rfl

/-- Bytes put together by shifts and bars. -/
theorem or_two (x y : Nat) (hx : x < 256) (hy : y < 256) : Go.bits BinOp.or IntKind.u32 ((x : Int) * 65536) ((y : Int) * 256) = ((x * 65536 + y * 256 : Nat) : Int) := by
  have := u32_or_nat (x * 65536) (y * 256) (by omega) (by omega)
  rw [show ((x * 65536 : Nat) : Int) = (x : Int) * 65536 by omega, show ((y * 256 : Nat) : Int) = (y : Int) * 256 by omega] at this
  rw [this]
  have h := Nat.shiftLeft_add_eq_or_of_lt (show y * 256 < 2 ^ 16 by omega) x
  rw [Nat.shiftLeft_eq] at h
  rw [show x * 65536 = x * 2 ^ 16 from rfl, ← h]
theorem or_three (p z : Nat) (hp : p < 65536) (hz : z < 256) : Go.bits BinOp.or IntKind.u32 ((p * 256 : Nat) : Int) (z : Int) = ((p * 256 + z : Nat) : Int) := by
  have := u32_or_nat (p * 256) z (by omega) (by omega)
  rw [this]
  have h := Nat.shiftLeft_add_eq_or_of_lt (show z < 2 ^ 8 by omega) p
  rw [Nat.shiftLeft_eq] at h
  rw [show p * 256 = p * 2 ^ 8 from rfl, ← h]

set_option maxHeartbeats 1600000 in
set_option maxRecDepth 100000 in
theorem appendDigits_nat (v : Value) (out : List Nat) (bt c B : Nat) (w : World) (hown : Own w B v out) (hbt : bt < 4294967296) (hc : c ≤ 4) (ho : out.length ≤ 1048576) (ht : TabB w) (hG : 0 < B) (hBw : B ≤ w.heap.size) :
    Calls Tryz.prog 44 #[v, .int .u32 (bt : Int), .int .i64 (c : Int)] w fun e w' => ∃ v', e = .returned v' ∧ Own w' B v' (out ++ dgs bt c) ∧ Below B w w' := by
  go_enter Tryz.func44, Tryz.ntmps44
  go_wp2
  go_loopw [0, 1, 8] (fun u t i wr => ∃ (k b : Nat) (o : List Nat), k ≤ c ∧ i = .int .i64 k ∧ t = .int .u32 b ∧ b < 4294967296 ∧ Own wr B u o ∧ Below B w wr ∧ Hid (out ++ dgs bt c = o ++ dgs b (c - k)) ∧ o.length = out.length + k)
    (fun _ _ i _ => c - (intOf i).toNat)
  case atStart => exact ⟨0, bt, out, Nat.zero_le _, rfl, rfl, hbt, hown, Below.refl _ _, rfl, rfl⟩
  case round =>
    obtain ⟨k, b, o, hk, rfl, rfl, hb, hown', hbel, hq, hol⟩ := hrel
    clear hown
    by_cases hkc : k < c
    · have hz : B ≤ wr.heap.size := by have := hbel.size; omega
      obtain ⟨q, hqv⟩ : ∃ q, q = b / 262144 := ⟨_, rfl⟩
      obtain ⟨d, hdv⟩ : ∃ d, d = q % 64 := ⟨_, rfl⟩
      have hT : wr.cell? ⟨0, d, none⟩ = some (.int .u8 (Xf.dig d : Int)) := (hbel.cell (p := ⟨0, d, none⟩) hG).trans (ht d (by omega))
      have hd64 : (d : Int) < 64 := by omega
      have e1 : (b : Int) / 262144 = (q : Int) := by omega
      have hqq : Hid (q = b / 262144) := hqv
      have hdd : Hid (d = q % 64) := hdv
      have e2 : Go.bits BinOp.and IntKind.u32 (q : Int) 63 = (d : Int) := by
        have := u32_and_nat q 63 (by omega) (by omega)
        rw [show ((63 : Nat) : Int) = 63 from rfl] at this
        rw [this, Nat.and_two_pow_sub_one_eq_mod q 6, hdv]
      have hq' : Hid (out ++ dgs bt c = (o ++ [Xf.dig d]) ++ dgs (b * 64 % 4294967296) (c - (k + 1))) := by
        show _ = _
        rw [hq.out, show c - k = (c - (k + 1)) + 1 by omega, dgs, hdv, hqv]; simp
      clear hqv hdv hq
      go_wp2_with (at_builtin; refine wpList_app_new rfl _ _ rfl B _ o rfl hown' 1 1 [Xf.dig d] rfl rfl rfl (by omega) hz ?_; intro v' w2 hown2 hb2)
      go_wp2
      go_roundw
      case rel => exact ⟨k + 1, b * 64 % 4294967296, o ++ [Xf.dig d], by omega, by go_num, by go_num, by omega, hown2, hbel.trans hb2, hq', by simp; omega⟩
      case measure => simp [intOf]; omega
    · have hkk : k = c := by omega
      subst hkk
      have hq' : Hid (out ++ dgs bt k = o) := by
        show _ = _
        rw [hq.out, Nat.sub_self, dgs]; simp
      go_wp2
      go_ret
      exact ⟨_, rfl, by rw [hq'.out]; exact hown', hbel⟩

theorem appendDigits_any (v : Value) (out : List Nat) (bt c B : Nat) (bi ci : Int) (w : World) (hown : Own w B v out) (hbt : bt < 4294967296) (hbi : bi = (bt : Int)) (hci : ci = (c : Int)) (hc : c ≤ 4) (ho : out.length ≤ 1048576) (ht : TabB w) (hG : 0 < B) (hBw : B ≤ w.heap.size) :
    Calls Tryz.prog 44 #[v, .int .u32 bi, .int .i64 ci] w fun e w' => ∃ v', e = .returned v' ∧ Own w' B v' (out ++ dgs bt c) ∧ Below B w w' := by
  subst hci hbi
  exact appendDigits_nat v out bt c B w hown hbt hc ho ht hG hBw
end Go.Proofs.YtknbndebfickpaaGreatDoor
