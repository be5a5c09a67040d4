/- The parts of DecodeBase, the program's: a digit's value, letters without their fill, a group of four letters, the bytes of a group · Plain facts on lists of bytes, with no program in them: quoted text is read back as the bytes that it was told of, and it is plain; no conditions · EncodeQuoted, the program's and the model's: of at most 400 bytes each answers their quoted text, of more the code 2; slices of at most 1048576 bytes. -/
import Derived.Test.YtooifkdbpghcfaaGreatDoorMathToEncB2
import Derived.Test.YtooifkdbpghcfaaGreatDoorMemToApp
namespace Go.Proofs.YtooifkdbpghcfaaGreatDoor
open Go.RowKit

/-- What baseValue answers. -/
def posV (c : Nat) : Value := if Xf.pos c < 64 then .tuple #[.int .u32 (Xf.pos c : Int), .bool true] else .tuple #[.int .u32 0, .bool false]
theorem posV_in {c : Nat} (h : Xf.pos c < 64) : posV c = .tuple #[.int .u32 (Xf.pos c : Int), .bool true] := if_pos h
theorem posV_out {c : Nat} (h : ¬ Xf.pos c < 64) : posV c = .tuple #[.int .u32 0, .bool false] := if_neg h

set_option maxHeartbeats 1600000 in
set_option maxRecDepth 100000 in
theorem baseValue_any (c : Nat) (w : World) (ht : TabB w) :
    Calls Tryz.prog 134 #[.int .u8 (c : Int)] w fun e w' => e = .returned (posV c) ∧ w = w' := by
  have hle := Xf.pos_le c
  go_enter Tryz.func134, Tryz.ntmps134
  go_wp2
  go_loop [5] (fun i => ∃ k : Nat, k ≤ 64 ∧ k ≤ Xf.pos c ∧ i = .int .u32 k) (fun i => 64 - (intOf i).toNat)
  case atStart => exact ⟨0, by omega, by omega, rfl⟩
  case round =>
    obtain ⟨k, hk, hku, rfl⟩ := hrel
    by_cases hk64 : k < 64
    · have hT := ht k hk64
      have hiff := Xf.dig_eq_iff hk64 hku
      have hi : (k : Int) < 64 := by omega
      by_cases he : k = Xf.pos c
      · have e1 : ((Xf.dig k : Nat) : Int) = (c : Int) := by rw [hiff.2 he]
        have H : Hid (posV c = .tuple #[.int .u32 (k : Int), .bool true]) := by
          show _ = _
          rw [posV_in (by omega), he]
        rw [e1] at hT
        clear hiff he e1 ht hku hle
        go_wp2
        go_ret2
        exact ⟨by rw [H.out]; rfl, rfl⟩
      · have hne : Xf.dig k ≠ c := fun h => he (hiff.1 h)
        have e1 : (((Xf.dig k : Nat) : Int) == (c : Int)) = false := beq_eq_false_iff_ne.2 (by omega)
        have hlt : Hid (k + 1 ≤ Xf.pos c) := by show _ ≤ _; omega
        clear hiff he ht hku hle hne
        go_wp2
        go_round
        case rel => exact ⟨k + 1, by omega, hlt.out, by go_num⟩
        case measure => simp [intOf]; omega
    · have hu : ¬ Xf.pos c < 64 := by omega
      have hi : ¬ (k : Int) < 64 := by omega
      have H : Hid (posV c = .tuple #[.int .u32 0, .bool false]) := posV_out hu
      clear hu hku hle
      go_wp2
      go_ret2
      exact ⟨by rw [H.out]; rfl, rfl⟩

/-- How long a text is. -/
def strLen : Value → Nat
  | .string s => s.size
  | _ => 0

theorem str_extract (t : List Nat) (a b : Nat) : (str t).extract a b = str ((t.take b).drop a) := by
  apply ByteArray.ext
  rw [ByteArray.data_extract]
  simp only [str]
  rw [List.extract_toArray, List.extract_eq_take_drop, ← List.map_drop, ← List.map_take]
  congr 2
  rw [List.drop_take]

set_option maxHeartbeats 1600000 in
set_option maxRecDepth 100000 in
theorem withoutFill_any (x0 x1 x2 x3 : Nat) (w : World) (hB : IsB [x0, x1, x2, x3]) :
    Calls Tryz.prog 133 #[.string (str [x0, x1, x2, x3])] w fun e w' => e = .returned (.string (str ([x0, x1, x2, x3].take (Xf.cnt x0 x1 x2 x3)))) ∧ w = w' := by
  obtain ⟨h4, hfill, hlast⟩ := Xf.cnt_spec x0 x1 x2 x3
  generalize Xf.cnt x0 x1 x2 x3 = n at *
  have hgl : [x0, x1, x2, x3].length = 4 := rfl
  generalize [x0, x1, x2, x3] = g at *
  go_enter Tryz.func133, Tryz.ntmps133
  go_wp2
  go_loop [0] (fun s => ∃ j : Nat, j ≤ 4 ∧ n ≤ j ∧ s = .string (str (g.take j))) (fun s => strLen s)
  case atStart => exact ⟨4, by omega, by omega, by rw [List.take_of_length_le (by omega)]⟩
  case round =>
    obtain ⟨j, hj, hnj, rfl⟩ := hrel
    have hsz : (str (g.take j)).size = j := by rw [str_size, List.length_take]; omega
    by_cases hj0 : 0 < j
    · have hj0' : (0 : Int) < (j : Int) := by omega
      have hget : nth (g.take j) (j - 1) = nth g (j - 1) := by
        rw [nth_get (by rw [List.length_take]; omega), nth_get (by omega), List.getElem_take]
      have g0 := str_get (isB_take hB j) (i := j - 1) (by rw [hsz]; omega)
      rw [hget] at g0
      have hjm : (j : Int) - 1 = ((j - 1 : Nat) : Int) := by omega
      have hjl : ((j - 1 : Nat) : Int) < (j : Int) := by omega
      by_cases h61 : nth g (j - 1) = 61
      · rw [h61] at g0
        have hnj' : Hid (n ≤ j - 1) := by
          show _ ≤ _
          rcases Nat.lt_or_ge n j with h | h
          · omega
          · have : n = j := by omega
            subst this
            exact absurd h61 (hlast (by omega))
        have hex : (str (g.take j)).extract 0 (j - 1) = str (g.take (j - 1)) := by
          rw [str_extract, List.drop_zero, List.take_take, Nat.min_eq_left (by omega)]
        go_wp2
        go_round
        case rel => exact ⟨j - 1, by omega, hnj'.out, rfl⟩
        case measure => simp [strLen, str_size]; omega
      · have H : Hid (n = j) := by
          show _ = _
          rcases Nat.lt_or_ge n j with h | h
          · exact absurd (hfill (j - 1) (by omega) (by omega)) h61
          · omega
        have e61 : (((nth g (j - 1) : Nat) : Int) == 61) = false := beq_eq_false_iff_ne.2 (by omega)
        go_wp2
        go_ret
        exact ⟨by rw [H.out]; rfl, rfl⟩
    · have hj0' : ¬ (0 : Int) < (j : Int) := by omega
      have H : Hid (n = j) := by show _ = _; omega
      go_wp2
      go_ret
      exact ⟨by rw [H.out]; rfl, rfl⟩

theorem withoutFill_g (x0 x1 x2 x3 n : Nat) (g : List Nat) (w : World) (hg : g = [x0, x1, x2, x3]) (hn : n = Xf.cnt x0 x1 x2 x3) (hB : IsB g) :
    Calls Tryz.prog 133 #[.string (str g)] w fun e w' => e = .returned (.string (str (g.take n))) ∧ w = w' := by
  subst hg hn
  exact withoutFill_any x0 x1 x2 x3 w hB

theorem or_six (p z : Nat) (hp : p < 262144) (hz : z < 64) : Go.bits BinOp.or IntKind.u32 ((p : Int) * 64) (z : Int) = ((p * 64 + z : Nat) : Int) := by
  have := u32_or_nat (p * 64) z (by omega) (by omega)
  rw [show ((p * 64 : Nat) : Int) = (p : Int) * 64 by omega] at this
  rw [this]
  have h := Nat.shiftLeft_add_eq_or_of_lt (show z < 2 ^ 6 by omega) p
  rw [Nat.shiftLeft_eq] at h
  rw [show p * 64 = p * 2 ^ 6 from rfl, ← h]

theorem cast_shift (A k : Nat) : ((A : Int) * 2 ^ k % 4294967296) = ((A * 2 ^ k % 4294967296 : Nat) : Int) := by
  rw [Int.natCast_emod, Int.natCast_mul, Int.natCast_pow]
  rfl
/-- What readGroup answers. -/
def grpV (x0 x1 x2 x3 : Nat) : Value := match Xf.grp x0 x1 x2 x3 with
  | none => .tuple #[.int .u32 0, .int .i64 0]
  | some _ => .tuple #[.int .u32 (Xf.bitsOf (Xf.cnt x0 x1 x2 x3) x0 x1 x2 x3 : Int), .int .i64 ((Xf.cnt x0 x1 x2 x3 - 1 : Nat) : Int)]
theorem grpV_none {x0 x1 x2 x3 : Nat} (h : Xf.grp x0 x1 x2 x3 = none) : grpV x0 x1 x2 x3 = .tuple #[.int .u32 0, .int .i64 0] := by simp [grpV, h]
theorem grpV_some {x0 x1 x2 x3 : Nat} {g : List Nat} (h : Xf.grp x0 x1 x2 x3 = some g) : grpV x0 x1 x2 x3 = .tuple #[.int .u32 (Xf.bitsOf (Xf.cnt x0 x1 x2 x3) x0 x1 x2 x3 : Int), .int .i64 ((Xf.cnt x0 x1 x2 x3 - 1 : Nat) : Int)] := by simp [grpV, h]

set_option maxHeartbeats 3200000 in
set_option maxRecDepth 100000 in
theorem readGroup_any (x0 x1 x2 x3 : Nat) (w : World) (hB : IsB [x0, x1, x2, x3]) (ht : TabB w) :
    Calls Tryz.prog 100 #[.string (str [x0, x1, x2, x3])] w fun e w' => e = .returned (grpV x0 x1 x2 x3) ∧ w = w' := by
  obtain ⟨h4, _, _⟩ := Xf.cnt_spec x0 x1 x2 x3
  have hdef : Xf.grp x0 x1 x2 x3 = Xf.grpN (Xf.cnt x0 x1 x2 x3) x0 x1 x2 x3 := rfl
  have hgS := fun g (h : Xf.grp x0 x1 x2 x3 = some g) => grpV_some h
  have hac := Xf.acc_four (Xf.cnt x0 x1 x2 x3) x0 x1 x2 x3
  have hgood := Xf.good_iff (Xf.cnt x0 x1 x2 x3) x0 x1 x2 x3
  have hbad := fun i => @Xf.good_bad (Xf.cnt x0 x1 x2 x3) x0 x1 x2 x3 i
  generalize hn : Xf.cnt x0 x1 x2 x3 = n at *
  have hgl : [x0, x1, x2, x3].length = 4 := rfl
  obtain ⟨g, hg⟩ : ∃ g, [x0, x1, x2, x3] = g := ⟨_, rfl⟩
  rw [hg] at hac hgood hbad hB hgl ⊢
  have hsz : (str (g.take n)).size = n := by rw [str_size, List.length_take]; omega
  have HG : Hid (g = [x0, x1, x2, x3]) := hg.symm
  have HN : Hid (n = Xf.cnt x0 x1 x2 x3) := hn.symm
  clear hg hn
  go_enter Tryz.func100, Tryz.ntmps100
  go_wp2_with fail
  refine (withoutFill_g x0 x1 x2 x3 n g _ HG.out HN.out hB).mono ?_
  rintro e w1 ⟨rfl, rfl⟩
  by_cases h2 : n < 2
  · have H : Hid (grpV x0 x1 x2 x3 = .tuple #[.int .u32 0, .int .i64 0]) := grpV_none (by rw [hdef]; unfold Xf.grpN; rw [if_pos h2])
    have h2' : (n : Int) < 2 := by omega
    clear hdef hgS hac hgood hbad
    go_wp2
    go_ret2
    exact ⟨by rw [H.out]; rfl, rfl⟩
  · have h2' : ¬ (n : Int) < 2 := by omega
    go_wp2
    go_loop [2, 13] (fun b i => ∃ k : Nat, k ≤ 4 ∧ i = .int .i64 k ∧ b = .int .u32 (Xf.acc n g k : Int) ∧ Hid (Xf.okTo n g k)) (fun _ i => 4 - (intOf i).toNat)
    case atStart => exact ⟨0, by omega, rfl, rfl, fun i hi => by omega⟩
    case round =>
      obtain ⟨k, hk, rfl, rfl, hok⟩ := hrel
      by_cases hk4 : k < 4
      · have hi : (k : Int) < 4 := by omega
        have hlt := Xf.acc_lt3 hk4 hok.out
        have hacc : Xf.acc n g (k + 1) = Xf.acc n g k * 64 + Xf.at_ n k (nth g k) := rfl
        have hstep : Xf.at_ n k (nth g k) < 64 → Hid (Xf.okTo n g (k + 1)) := fun h i hi => by
          rcases Nat.lt_or_ge i k with h' | h'
          · exact hok.out i h'
          · have : i = k := by omega
            subst this; exact h
        generalize Xf.acc n g k = A at *
        by_cases hkn : k < n
        · have hkn' : ¬ (n : Int) ≤ (k : Int) := by omega
          have hkn'' : (k : Int) < (n : Int) := by omega
          have hat : Xf.at_ n k (nth g k) = Xf.pos (nth g k) := by unfold Xf.at_; rw [if_pos hkn]
          have hget : nth (g.take n) k = nth g k := by
            rw [nth_get (by rw [List.length_take]; omega), nth_get (by omega), List.getElem_take]
          have g0 := str_get (isB_take hB n) (i := k) (by rw [hsz]; omega)
          rw [hget] at g0
          by_cases hp : Xf.pos (nth g k) < 64
          · have HP : Hid (posV (nth g k) = .tuple #[.int .u32 (Xf.pos (nth g k) : Int), .bool true]) := posV_in hp
            have e1 := or_six A (Xf.pos (nth g k)) hlt hp
            have hok' := hstep (by rw [hat]; exact hp)
            rw [hat] at hacc
            rw [← hacc] at e1
            have HA : Hid (Xf.acc n g (k + 1) = A * 64 + Xf.pos (nth g k)) := hacc
            clear hacc hstep hat hget hdef hgS hac hgood hbad
            go_wp2_with fail
            refine (baseValue_any (nth g k) _ ht).mono ?_
            rintro e w1 ⟨rfl, rfl⟩
            rw [HP.out]
            go_wp2
            go_round
            case rel => exact ⟨k + 1, by omega, by go_num, rfl, hok'⟩
            case measure => simp [intOf]; omega
          · have HP : Hid (posV (nth g k) = .tuple #[.int .u32 0, .bool false]) := posV_out hp
            have H : Hid (grpV x0 x1 x2 x3 = .tuple #[.int .u32 0, .int .i64 0]) := grpV_none (by rw [hdef]; unfold Xf.grpN; rw [if_neg h2, if_pos (hbad k hk4 (by rw [hat]; exact hp))])
            clear hacc hstep hat hget hdef hgS hac hgood hbad
            go_wp2_with fail
            refine (baseValue_any (nth g k) _ ht).mono ?_
            rintro e w1 ⟨rfl, rfl⟩
            rw [HP.out]
            go_wp2
            go_ret2
            exact ⟨by rw [H.out]; rfl, rfl⟩
        · have hkn' : (n : Int) ≤ (k : Int) := by omega
          have hat : Xf.at_ n k (nth g k) = 0 := by unfold Xf.at_; rw [if_neg hkn]
          have hok' := hstep (by rw [hat]; omega)
          rw [hat, Nat.add_zero] at hacc
          have HA : Hid (Xf.acc n g (k + 1) = A * 64) := hacc
          clear hacc hstep hat hdef hgS hac hgood hbad
          go_wp2
          go_round
          case rel => exact ⟨k + 1, by omega, by go_num, by rw [HA.out]; go_num, hok'⟩
          case measure => simp [intOf]; omega
      · have hk4' : k = 4 := by omega
        subst hk4'
        have hlt := Xf.acc_lt4 (by omega) hok.out
        have hls := Xf.left_shift (Xf.acc n g 4) n hlt (by omega) h4
        have hg1 : Xf.good n x0 x1 x2 x3 = true := hgood.2 hok.out
        rw [hac] at hlt hls ⊢
        rw [show min (8 + 8 * (n - 1)) 32 = 8 + 8 * (n - 1) by omega] at hls
        have hdef2 : Xf.grp x0 x1 x2 x3 = if Xf.left (Xf.bitsOf n x0 x1 x2 x3) (n - 1) ≠ 0 then none else some (Xf.three (Xf.bitsOf n x0 x1 x2 x3) (n - 1)) := by
          rw [hdef]; unfold Xf.grpN; rw [if_neg h2, if_neg (by rw [hg1]; simp)]
        generalize Xf.bitsOf n x0 x1 x2 x3 = A at *
        have ec : ((A : Int) * 2 ^ (8 + 8 * (n - 1)) % 4294967296) = ((A * 2 ^ (8 + 8 * (n - 1)) % 4294967296 : Nat) : Int) := cast_shift A _
        by_cases hz : Xf.left A (n - 1) = 0
        · have H : Hid (grpV x0 x1 x2 x3 = .tuple #[.int .u32 (A : Int), .int .i64 ((n : Int) - 1)]) := by
            show _ = _
            rw [hgS _ (by rw [hdef2, if_neg (by simpa using hz)]), show ((n - 1 : Nat) : Int) = (n : Int) - 1 by omega]
          have e0 : ((A : Int) * 2 ^ (8 + 8 * (n - 1)) % 4294967296 != 0) = false := by rw [ec, hls.2 hz]; rfl
          clear hdef hgS hac hgood hbad hls hg1 hdef2 ec hz
          go_wp2
          go_ret2
          exact ⟨by rw [H.out]; rfl, rfl⟩
        · have H : Hid (grpV x0 x1 x2 x3 = .tuple #[.int .u32 0, .int .i64 0]) := grpV_none (by rw [hdef2, if_pos hz])
          have e0 : ((A : Int) * 2 ^ (8 + 8 * (n - 1)) % 4294967296 != 0) = true := by
            rw [ec, bne_iff_ne]
            have : ¬ A * 2 ^ (8 + 8 * (n - 1)) % 4294967296 = 0 := fun h => hz (hls.1 h)
            omega
          clear hdef hgS hac hgood hbad hls hg1 hdef2 ec hz
          go_wp2
          go_ret2
          exact ⟨by rw [H.out]; rfl, rfl⟩

set_option maxHeartbeats 1600000 in
set_option maxRecDepth 100000 in
theorem appendBytes_any (v : Value) (out : List Nat) (bt c B : Nat) (ci : Int) (w : World) (hown : Own w B v out) (hbt : bt < 4294967296) (hci : ci = (c : Int)) (hc : c ≤ 4) (ho : out.length ≤ 1048576) (hBw : B ≤ w.heap.size) :
    Calls Tryz.prog 101 #[v, .int .u32 (bt : Int), .int .i64 ci] w fun e w' => ∃ v', e = .returned v' ∧ Own w' B v' (out ++ Xf.bts bt c) ∧ Below B w w' := by
  subst hci
  go_enter Tryz.func101, Tryz.ntmps101
  go_wp2
  go_loopw [0, 1, 8] (fun u t i wr => ∃ (k b : Nat) (o : List Nat), k ≤ c ∧ i = .int .i64 k ∧ t = .int .u32 b ∧ b < 4294967296 ∧ Own wr B u o ∧ Below B w wr ∧ Hid (out ++ Xf.bts bt c = o ++ Xf.bts b (c - k)) ∧ o.length ≤ out.length + k)
    (fun _ _ i _ => c - (intOf i).toNat)
  case atStart => exact ⟨0, bt, out, Nat.zero_le _, rfl, rfl, hbt, hown, Below.refl _ _, rfl, Nat.le_refl _⟩
  case round =>
    obtain ⟨k, b, o, hk, rfl, rfl, hb, hown', hbel, hq, hol⟩ := hrel
    clear hown
    by_cases hkc : k < c
    · have hz : B ≤ wr.heap.size := by have := hbel.size; omega
      obtain ⟨q, hqv⟩ : ∃ q, q = b / 65536 := ⟨_, rfl⟩
      obtain ⟨d, hdv⟩ : ∃ d, d = q % 256 := ⟨_, rfl⟩
      have e1 : (b : Int) / 65536 = (q : Int) := by omega
      have e2 : (q : Int) % 256 = (d : Int) := by omega
      have hq' : Hid (out ++ Xf.bts bt c = (o ++ [d]) ++ Xf.bts (b * 256 % 4294967296) (c - (k + 1))) := by
        show _ = _
        rw [hq.out, show c - k = (c - (k + 1)) + 1 by omega, Xf.bts, hdv, hqv]; simp
      clear hqv hdv hq
      go_wp2_with (at_builtin; refine wpList_app_new rfl _ _ rfl B _ o rfl hown' 1 1 [d] rfl rfl rfl (by omega) hz ?_; intro v' w2 hown2 hb2)
      go_wp2
      go_roundw
      case rel => exact ⟨k + 1, b * 256 % 4294967296, o ++ [d], by omega, by go_num, by go_num, by omega, hown2, hbel.trans hb2, hq', by simp; omega⟩
      case measure => simp [intOf]; omega
    · have hkk : k = c := by omega
      subst hkk
      have hq' : Hid (out ++ Xf.bts bt k = o) := by
        show _ = _
        rw [hq.out, Nat.sub_self, Xf.bts]; simp
      go_wp2
      go_ret
      exact ⟨_, rfl, by rw [hq'.out]; exact hown', hbel⟩
end Go.Proofs.YtooifkdbpghcfaaGreatDoor

namespace Go.Proofs.YtooifkdbpghcfaaGreatDoor
namespace Xq

/-- Does a byte stand as itself, ahead of r? -/
def self (b : Nat) (r : List Nat) : Bool :=
  if b = 10 then true else if b = 32 ∨ b = 9 then decide (0 < r.length ∧ nth r 0 ≠ 10) else decide (33 ≤ b ∧ b ≤ 126 ∧ b ≠ 61)
def hex (v : Nat) : Nat := if v < 10 then 48 + v else 55 + v
theorem hex_lt {v : Nat} (h : v < 16) : hex v < 128 ∧ 1 ≤ hex v ∧ hex v ≠ 10 := by unfold hex; split <;> omega
/-- The quoted text of some bytes. -/
def quo : List Nat → List Nat
  | [] => []
  | b :: r => if self b r = true then b :: quo r else 61 :: hex (b / 16) :: hex (b % 16) :: quo r
/-- The value of a digit; 16: it is none. -/
def unhex (c : Nat) : Nat := if 48 ≤ c ∧ c ≤ 57 then c - 48 else if 65 ≤ c ∧ c ≤ 70 then c - 55 else 16
theorem unhex_le (c : Nat) : unhex c ≤ 16 := by unfold unhex; split <;> (try split) <;> omega
theorem unhex_hex {v : Nat} (h : v < 16) : unhex (hex v) = v := by
  have : ∀ v, v < 16 → unhex (hex v) = v := by decide
  exact this v h
theorem hex_unhex {c : Nat} (h : unhex c < 16) : hex (unhex c) = c := by
  by_cases h1 : 48 ≤ c ∧ c ≤ 57
  · have e : unhex c = c - 48 := by unfold unhex; rw [if_pos h1]
    rw [e]; unfold hex; rw [if_pos (by omega)]; omega
  · by_cases h2 : 65 ≤ c ∧ c ≤ 70
    · have e : unhex c = c - 55 := by unfold unhex; rw [if_neg h1, if_pos h2]
      rw [e]; unfold hex; rw [if_neg (by omega)]; omega
    · have e : unhex c = 16 := by unfold unhex; rw [if_neg h1, if_neg h2]
      omega
/-- Up to the place of a digit a loop finds it nowhere, and there it finds it. -/
theorem hex_eq_iff {c v : Nat} (h : v < 16) (_hle : v ≤ unhex c) : hex v = c ↔ v = unhex c := by
  constructor
  · intro e; rw [← e, unhex_hex h]
  · intro e; rw [e]; exact hex_unhex (by omega)

theorem self_plain {b : Nat} {r : List Nat} (h : self b r = true) : 1 ≤ b ∧ b < 128 ∧ b ≠ 61 := by
  unfold self at h
  split at h
  · omega
  · split at h
    · omega
    · simp at h; omega
theorem quo_plain : ∀ l : List Nat, IsB l → ∀ x ∈ quo l, 1 ≤ x ∧ x < 128
  | [], _ => by simp [quo]
  | b :: r, h => by
    have hb := h b (by simp)
    have ih := quo_plain r (fun y hy => h y (by simp [hy]))
    rw [quo]
    split
    · rename_i hs
      have := self_plain hs
      intro x hx
      rcases List.mem_cons.1 hx with rfl | hx
      · omega
      · exact ih x hx
    · intro x hx
      have h1 := hex_lt (v := b / 16) (by omega)
      have h2 := hex_lt (v := b % 16) (by omega)
      simp only [List.mem_cons] at hx
      rcases hx with rfl | rfl | rfl | hx
      · omega
      · omega
      · omega
      · exact ih x hx

/-- A quoted text, read. -/
def unq : List Nat → Option (List Nat)
  | [] => some []
  | c :: r => if self c r = true then (unq r).map (c :: ·)
    else if c ≠ 61 then none
    else match r with
      | [] => none
      | a :: r1 => if a = 10 then unq r1
        else match r1 with
          | [] => none
          | b :: r2 => if unhex a < 16 ∧ unhex b < 16 then (unq r2).map ((unhex a * 16 + unhex b) :: ·) else none

theorem unq_self {c : Nat} {r : List Nat} (h : self c r = true) : unq (c :: r) = (unq r).map (c :: ·) := by rw [unq.eq_def]; simp only [h, if_true]
theorem unq_none {c : Nat} {r : List Nat} (h : self c r = false) (hc : c ≠ 61) : unq (c :: r) = none := by rw [unq.eq_def]; simp only [h, hc, ne_eq, not_false_eq_true, if_true]; rfl
theorem unq_break (r : List Nat) : unq (61 :: 10 :: r) = unq r := by rw [unq.eq_def]; simp [self]
theorem unq_byte {a b : Nat} {r : List Nat} (ha : a ≠ 10) (h : unhex a < 16 ∧ unhex b < 16) : unq (61 :: a :: b :: r) = (unq r).map ((unhex a * 16 + unhex b) :: ·) := by rw [unq.eq_def]; simp [self, ha, h]
theorem unq_bad {a b : Nat} {r : List Nat} (ha : a ≠ 10) (h : ¬ (unhex a < 16 ∧ unhex b < 16)) : unq (61 :: a :: b :: r) = none := by rw [unq.eq_def]; simp only [self, ha]; simp; intro h1 h2; exact absurd ⟨h1, h2⟩ h
theorem unq_short1 : unq [61] = none := by rw [unq.eq_def]; simp [self]
theorem unq_short2 {a : Nat} (ha : a ≠ 10) : unq [61, a] = none := by rw [unq.eq_def]; simp [self, ha]

end Xq
end Go.Proofs.YtooifkdbpghcfaaGreatDoor

namespace Go.Proofs.YtooifkdbpghcfaaGreatDoor
open Go.RowKit

/-- Does the first byte of l stand as itself? -/
def selfL (l : List Nat) : Bool := Xq.self (nth l 0) (l.drop 1)
theorem selfL_lf {l : List Nat} (h : nth l 0 = 10) : selfL l = true := by simp [selfL, Xq.self, h]
theorem selfL_bl {l : List Nat} (h : nth l 0 = 32 ∨ nth l 0 = 9) (hn : 1 < l.length) (hc : nth l 1 ≠ 10) : selfL l = true := by
  have h1 : nth l 0 ≠ 10 := by omega
  unfold selfL Xq.self
  rw [if_neg h1, if_pos h]
  exact decide_eq_true ⟨by simp; omega, by rw [nth_drop]; exact hc⟩
theorem selfL_bl_no {l : List Nat} (h : nth l 0 = 32 ∨ nth l 0 = 9) (hc : ¬ (1 < l.length ∧ nth l 1 ≠ 10)) : selfL l = false := by
  have h1 : nth l 0 ≠ 10 := by omega
  unfold selfL Xq.self
  rw [if_neg h1, if_pos h]
  refine decide_eq_false (fun hh => hc ⟨?_, ?_⟩)
  · have := hh.1; simp at this; omega
  · have := hh.2; rw [nth_drop] at this; exact this
theorem selfL_other {l : List Nat} (h1 : nth l 0 ≠ 10) (h2 : ¬ (nth l 0 = 32 ∨ nth l 0 = 9)) : selfL l = decide (33 ≤ nth l 0 ∧ nth l 0 ≤ 126 ∧ nth l 0 ≠ 61) := by
  unfold selfL Xq.self
  rw [if_neg h1, if_neg h2]

set_option maxHeartbeats 1600000 in
set_option maxRecDepth 100000 in
theorem stands_any (a : Option Addr) (n cap : Nat) (l : List Nat) (w : World) (hl : l.length = n) (hr : Rd w a l) (hp : 0 < n) :
    Calls Tryz.prog 103 #[.slice a n cap] w fun e w' => e = .returned (.bool (selfL l)) ∧ w' = w := by
  obtain ⟨b, off, rfl, _, hcell⟩ := hr.at_ (by omega)
  have hc0 := hcell 0 (by omega)
  rw [Nat.add_zero] at hc0
  have hp' : (0 : Int) < (n : Int) := by omega
  by_cases h10 : nth l 0 = 10
  · have H : Hid (selfL l = true) := selfL_lf h10
    rw [h10] at hc0
    clear hcell
    go_enter Tryz.func103, Tryz.ntmps103
    go_wp2
    go_ret
    exact ⟨by rw [H.out]; rfl, rfl⟩
  · have e10 : (((nth l 0 : Nat) : Int) == 10) = false := beq_eq_false_iff_ne.2 (by omega)
    by_cases hbl : nth l 0 = 32 ∨ nth l 0 = 9
    · by_cases hn1 : 1 < n
      · have hc1 := hcell 1 (by omega)
        have hn1' : (1 : Int) < (n : Int) := by omega
        by_cases hc : nth l 1 = 10
        · have H : Hid (selfL l = false) := selfL_bl_no hbl (by omega)
          rw [hc] at hc1
          clear hcell
          rcases hbl with h | h
          all_goals
            rw [h] at hc0
            go_enter Tryz.func103, Tryz.ntmps103
            go_wp2
            go_ret
            exact ⟨by rw [H.out]; rfl, rfl⟩
        · have H : Hid (selfL l = true) := selfL_bl hbl (by omega) hc
          have ec : (((nth l 1 : Nat) : Int) == 10) = false := beq_eq_false_iff_ne.2 (by omega)
          clear hcell
          rcases hbl with h | h
          all_goals
            rw [h] at hc0
            go_enter Tryz.func103, Tryz.ntmps103
            go_wp2
            go_ret
            exact ⟨by rw [H.out]; simp; omega, rfl⟩
      · have H : Hid (selfL l = false) := selfL_bl_no hbl (by omega)
        have hn1' : ¬ (1 : Int) < (n : Int) := by omega
        clear hcell
        rcases hbl with h | h
        all_goals
          rw [h] at hc0
          go_enter Tryz.func103, Tryz.ntmps103
          go_wp2
          go_ret
          exact ⟨by rw [H.out]; rfl, rfl⟩
    · have hs := selfL_other h10 hbl
      have e32 : (((nth l 0 : Nat) : Int) == 32) = false := beq_eq_false_iff_ne.2 (by omega)
      have e9 : (((nth l 0 : Nat) : Int) == 9) = false := beq_eq_false_iff_ne.2 (by omega)
      clear hcell
      by_cases h33 : 33 ≤ nth l 0
      · have h33' : (33 : Int) ≤ ((nth l 0 : Nat) : Int) := by omega
        by_cases h126 : nth l 0 ≤ 126
        · have h126' : ((nth l 0 : Nat) : Int) ≤ 126 := by omega
          by_cases h61 : nth l 0 = 61
          · have H : Hid (selfL l = false) := hs.trans (decide_eq_false (fun h => h.2.2 h61))
            clear hs e10 e32 e9
            rw [h61] at hc0
            go_enter Tryz.func103, Tryz.ntmps103
            go_wp2
            go_ret
            exact ⟨by rw [H.out]; rfl, rfl⟩
          · have H : Hid (selfL l = true) := hs.trans (decide_eq_true ⟨h33, h126, h61⟩)
            have e61 : (((nth l 0 : Nat) : Int) == 61) = false := beq_eq_false_iff_ne.2 (by omega)
            clear hs
            go_enter Tryz.func103, Tryz.ntmps103
            go_wp2
            go_ret
            exact ⟨by rw [H.out]; simp; omega, rfl⟩
        · have H : Hid (selfL l = false) := hs.trans (decide_eq_false (fun h => h126 h.2.1))
          have h126' : ¬ ((nth l 0 : Nat) : Int) ≤ 126 := by omega
          clear hs
          go_enter Tryz.func103, Tryz.ntmps103
          go_wp2
          go_ret
          exact ⟨by rw [H.out]; rfl, rfl⟩
      · have H : Hid (selfL l = false) := hs.trans (decide_eq_false (fun h => h33 h.1))
        have h33' : ¬ (33 : Int) ≤ ((nth l 0 : Nat) : Int) := by omega
        clear hs
        go_enter Tryz.func103, Tryz.ntmps103
        go_wp2
        go_ret
        exact ⟨by rw [H.out]; rfl, rfl⟩

theorem hex_text (k : Nat) (h : k < 16) : ((⟨#[48, 49, 50, 51, 52, 53, 54, 55, 56, 57, 65, 66, 67, 68, 69, 70]⟩ : ByteArray)[k]'h).toNat = Xq.hex k := by
  have : ∀ k (h : k < 16), ((⟨#[48, 49, 50, 51, 52, 53, 54, 55, 56, 57, 65, 66, 67, 68, 69, 70]⟩ : ByteArray)[k]'h).toNat = Xq.hex k := by decide +kernel
  exact this k h
/-- The table as the row lists it. -/
def tabHI : List Int := [48, 49, 50, 51, 52, 53, 54, 55, 56, 57, 65, 66, 67, 68, 69, 70]
theorem tabHI_len : tabHI.length = 16 := by decide
theorem tabHI_get (v : Nat) (h : v < 16) : tabHI.getD v 0 = (Xq.hex v : Int) := by
  have : ∀ v, v < 16 → tabHI.getD v 0 = (Xq.hex v : Int) := by decide +kernel
  exact this v h
/-- THE TABLE OF HEXADECIMAL DIGITS LIES IN ITS VARIABLE. -/
def TabH (w : World) : Prop := ∀ v, v < 16 → w.cell? ⟨1, v, none⟩ = some (.int .u8 (Xq.hex v : Int))
theorem TabH.lt {w : World} (h : TabH w) : 1 < w.heap.size := World.block_lt_of_cell? w ⟨1, 0, none⟩ (h 0 (by decide))
theorem TabH.below {w w' : World} (h : TabH w) (hb : Below w.heap.size w w') : TabH w' := fun v hv =>
  (hb.cell (p := ⟨1, v, none⟩) h.lt).trans (h v hv)

set_option maxHeartbeats 800000 in
set_option maxRecDepth 100000 in
theorem l1Hex_any (k : Nat) (h : k < 16) (w : World) : Calls Tryz.prog 138 #[.int .u8 (k : Int)] w fun e w' => e = .returned (.int .u8 (Xq.hex k : Int)) ∧ w' = w := by
  have h' : (k : Int) < 16 := by omega
  go_enter Tryz.func138, Tryz.ntmps138
  go_wp2
  go_ret
  exact ⟨ret_intD (by rw [← hex_text k h]), rfl⟩

/-- What is still to be told, byte by byte. -/
theorem quo_step_self {l : List Nat} {k : Nat} (hk : k < l.length) (h : selfL (l.drop k) = true) : Xq.quo (l.drop k) = nth l k :: Xq.quo (l.drop (k + 1)) := by
  have e0 : nth (l.drop k) 0 = nth l k := by rw [nth_drop, Nat.add_zero]
  have e1 : (l.drop k).drop 1 = l.drop (k + 1) := by rw [List.drop_drop]
  unfold selfL at h
  rw [e0, e1] at h
  rw [drop_cons l k hk, Xq.quo, if_pos h]
theorem quo_step_hex {l : List Nat} {k : Nat} (hk : k < l.length) (h : selfL (l.drop k) = false) : Xq.quo (l.drop k) = 61 :: Xq.hex (nth l k / 16) :: Xq.hex (nth l k % 16) :: Xq.quo (l.drop (k + 1)) := by
  have e0 : nth (l.drop k) 0 = nth l k := by rw [nth_drop, Nat.add_zero]
  have e1 : (l.drop k).drop 1 = l.drop (k + 1) := by rw [List.drop_drop]
  unfold selfL at h
  rw [e0, e1] at h
  rw [drop_cons l k hk, Xq.quo, if_neg (by rw [h]; simp)]

end Go.Proofs.YtooifkdbpghcfaaGreatDoor
