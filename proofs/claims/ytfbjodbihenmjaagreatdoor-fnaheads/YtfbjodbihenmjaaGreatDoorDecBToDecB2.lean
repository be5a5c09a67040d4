/- The parts of DecodeBase, the program's: a digit's value, letters without their fill, a group of four letters, the bytes of a group · DecodeBase, the program's, at every text: the bytes whose base text it is, or a code; texts of whatever length. -/
import Derived.Test.YtfbjodbihenmjaaGreatDoorEncQ3ToDMath
import Derived.Test.YtfbjodbihenmjaaGreatDoorDecQToEncQ2
import Derived.WalkSpells
namespace Go.Proofs.YtfbjodbihenmjaaGreatDoor
open Go.RowKit

/-- What baseValue answers. -/
def posV (c : Nat) : Value := if Xf.pos c < 64 then .tuple #[.int .u32 (Xf.pos c : Int), .bool true] else .tuple #[.int .u32 0, .bool false]
theorem posV_in {c : Nat} (h : Xf.pos c < 64) : posV c = .tuple #[.int .u32 (Xf.pos c : Int), .bool true] := if_pos h
theorem posV_out {c : Nat} (h : ¬ Xf.pos c < 64) : posV c = .tuple #[.int .u32 0, .bool false] := if_neg h

set_option maxHeartbeats 1600000 in
set_option maxRecDepth 100000 in
theorem baseValue_any (c : Nat) (w : World) (ht : TabB w) :
    Calls Tryz.prog 160 #[.int .u8 (c : Int)] w fun e w' => e = .returned (posV c) ∧ w = w' := by
  have hle := Xf.pos_le c
  go_enter Tryz.func160, Tryz.ntmps160
  go_wp2
  go_loop [5] (fun i => ∃ k : Nat, k ≤ 64 ∧ k ≤ Xf.pos c ∧ i = .int .u32 k) (fun i => 64 - (intOf i).toNat)
  case atStart => exact ⟨0, by omega, by omega, rfl⟩
  case round =>
    obtain ⟨k, hk, hku, rfl⟩ := hrel
    by_cases hk64 : k < 64
    · have hT := ht k hk64
      have hiff := Xf.dig_eq_iff hk64 hku
      have hi : (k : Int) < 64 := by omega
      by_cases he : k = Xf.pos c
      · have e1 : ((Xf.dig k : Nat) : Int) = (c : Int) := by rw [hiff.2 he]
        have H : Hid (posV c = .tuple #[.int .u32 (k : Int), .bool true]) := by
          show _ = _
          rw [posV_in (by omega), he]
        rw [e1] at hT
        clear hiff he e1 ht hku hle
        go_wp2
        go_ret2
        exact ⟨by rw [H.out]; rfl, rfl⟩
      · have hne : Xf.dig k ≠ c := fun h => he (hiff.1 h)
        have e1 : (((Xf.dig k : Nat) : Int) == (c : Int)) = false := beq_eq_false_iff_ne.2 (by omega)
        have hlt : Hid (k + 1 ≤ Xf.pos c) := by show _ ≤ _; omega
        clear hiff he ht hku hle hne
        go_wp2
        go_round
        case rel => exact ⟨k + 1, by omega, hlt.out, by go_num⟩
        case measure => simp [intOf]; omega
    · have hu : ¬ Xf.pos c < 64 := by omega
      have hi : ¬ (k : Int) < 64 := by omega
      have H : Hid (posV c = .tuple #[.int .u32 0, .bool false]) := posV_out hu
      clear hu hku hle
      go_wp2
      go_ret2
      exact ⟨by rw [H.out]; rfl, rfl⟩

/-- How long a text is. -/
def strLen : Value → Nat
  | .string s => s.size
  | _ => 0

theorem str_extract (t : List Nat) (a b : Nat) : (str t).extract a b = str ((t.take b).drop a) := by
  apply ByteArray.ext
  rw [ByteArray.data_extract]
  simp only [str]
  rw [List.extract_toArray, List.extract_eq_take_drop, ← List.map_drop, ← List.map_take]
  congr 2
  rw [List.drop_take]

set_option maxHeartbeats 1600000 in
set_option maxRecDepth 100000 in
theorem withoutFill_any (x0 x1 x2 x3 : Nat) (w : World) (hB : IsB [x0, x1, x2, x3]) :
    Calls Tryz.prog 159 #[.string (str [x0, x1, x2, x3])] w fun e w' => e = .returned (.string (str ([x0, x1, x2, x3].take (Xf.cnt x0 x1 x2 x3)))) ∧ w = w' := by
  obtain ⟨h4, hfill, hlast⟩ := Xf.cnt_spec x0 x1 x2 x3
  generalize Xf.cnt x0 x1 x2 x3 = n at *
  have hgl : [x0, x1, x2, x3].length = 4 := rfl
  generalize [x0, x1, x2, x3] = g at *
  go_enter Tryz.func159, Tryz.ntmps159
  go_wp2
  go_loop [0] (fun s => ∃ j : Nat, j ≤ 4 ∧ n ≤ j ∧ s = .string (str (g.take j))) (fun s => strLen s)
  case atStart => exact ⟨4, by omega, by omega, by rw [List.take_of_length_le (by omega)]⟩
  case round =>
    obtain ⟨j, hj, hnj, rfl⟩ := hrel
    have hsz : (str (g.take j)).size = j := by rw [str_size, List.length_take]; omega
    by_cases hj0 : 0 < j
    · have hj0' : (0 : Int) < (j : Int) := by omega
      have hget : nth (g.take j) (j - 1) = nth g (j - 1) := by
        rw [nth_get (by rw [List.length_take]; omega), nth_get (by omega), List.getElem_take]
      have g0 := str_get (isB_take hB j) (i := j - 1) (by rw [hsz]; omega)
      rw [hget] at g0
      have hjm : (j : Int) - 1 = ((j - 1 : Nat) : Int) := by omega
      have hjl : ((j - 1 : Nat) : Int) < (j : Int) := by omega
      by_cases h61 : nth g (j - 1) = 61
      · rw [h61] at g0
        have hnj' : Hid (n ≤ j - 1) := by
          show _ ≤ _
          rcases Nat.lt_or_ge n j with h | h
          · omega
          · have : n = j := by omega
            subst this
            exact absurd h61 (hlast (by omega))
        have hex : (str (g.take j)).extract 0 (j - 1) = str (g.take (j - 1)) := by
          rw [str_extract, List.drop_zero, List.take_take, Nat.min_eq_left (by omega)]
        go_wp2
        go_round
        case rel => exact ⟨j - 1, by omega, hnj'.out, rfl⟩
        case measure => simp [strLen, str_size]; omega
      · have H : Hid (n = j) := by
          show _ = _
          rcases Nat.lt_or_ge n j with h | h
          · exact absurd (hfill (j - 1) (by omega) (by omega)) h61
          · omega
        have e61 : (((nth g (j - 1) : Nat) : Int) == 61) = false := beq_eq_false_iff_ne.2 (by omega)
        go_wp2
        go_ret
        exact ⟨by rw [H.out]; rfl, rfl⟩
    · have hj0' : ¬ (0 : Int) < (j : Int) := by omega
      have H : Hid (n = j) := by show _ = _; omega
      go_wp2
      go_ret
      exact ⟨by rw [H.out]; rfl, rfl⟩

theorem withoutFill_g (x0 x1 x2 x3 n : Nat) (g : List Nat) (w : World) (hg : g = [x0, x1, x2, x3]) (hn : n = Xf.cnt x0 x1 x2 x3) (hB : IsB g) :
    Calls Tryz.prog 159 #[.string (str g)] w fun e w' => e = .returned (.string (str (g.take n))) ∧ w = w' := by
  subst hg hn
  exact withoutFill_any x0 x1 x2 x3 w hB

theorem or_six (p z : Nat) (hp : p < 262144) (hz : z < 64) : Go.bits BinOp.or IntKind.u32 ((p : Int) * 64) (z : Int) = ((p * 64 + z : Nat) : Int) := by
  have := u32_or_nat (p * 64) z (by omega) (by omega)
  rw [show ((p * 64 : Nat) : Int) = (p : Int) * 64 by omega] at this
  rw [this]
  have h := Nat.shiftLeft_add_eq_or_of_lt (show z < 2 ^ 6 by omega) p
  rw [Nat.shiftLeft_eq] at h
  rw [show p * 64 = p * 2 ^ 6 from rfl, ← h]

theorem cast_shift (A k : Nat) : ((A : Int) * 2 ^ k % 4294967296) = ((A * 2 ^ k % 4294967296 : Nat) : Int) := by
  rw [Int.natCast_emod, Int.natCast_mul, Int.natCast_pow]
  rfl
/-- What readGroup answers. -/
def grpV (x0 x1 x2 x3 : Nat) : Value := match Xf.grp x0 x1 x2 x3 with
  | none => .tuple #[.int .u32 0, .int .i64 0]
  | some _ => .tuple #[.int .u32 (Xf.bitsOf (Xf.cnt x0 x1 x2 x3) x0 x1 x2 x3 : Int), .int .i64 ((Xf.cnt x0 x1 x2 x3 - 1 : Nat) : Int)]
theorem grpV_none {x0 x1 x2 x3 : Nat} (h : Xf.grp x0 x1 x2 x3 = none) : grpV x0 x1 x2 x3 = .tuple #[.int .u32 0, .int .i64 0] := by simp [grpV, h]
theorem grpV_some {x0 x1 x2 x3 : Nat} {g : List Nat} (h : Xf.grp x0 x1 x2 x3 = some g) : grpV x0 x1 x2 x3 = .tuple #[.int .u32 (Xf.bitsOf (Xf.cnt x0 x1 x2 x3) x0 x1 x2 x3 : Int), .int .i64 ((Xf.cnt x0 x1 x2 x3 - 1 : Nat) : Int)] := by simp [grpV, h]

set_option maxHeartbeats 3200000 in
set_option maxRecDepth 100000 in
theorem readGroup_any (x0 x1 x2 x3 : Nat) (w : World) (hB : IsB [x0, x1, x2, x3]) (ht : TabB w) :
    Calls Tryz.prog 147 #[.string (str [x0, x1, x2, x3])] w fun e w' => e = .returned (grpV x0 x1 x2 x3) ∧ w = w' := by
  obtain ⟨h4, _, _⟩ := Xf.cnt_spec x0 x1 x2 x3
  have hdef : Xf.grp x0 x1 x2 x3 = Xf.grpN (Xf.cnt x0 x1 x2 x3) x0 x1 x2 x3 := rfl
  have hgS := fun g (h : Xf.grp x0 x1 x2 x3 = some g) => grpV_some h
  have hac := Xf.acc_four (Xf.cnt x0 x1 x2 x3) x0 x1 x2 x3
  have hgood := Xf.good_iff (Xf.cnt x0 x1 x2 x3) x0 x1 x2 x3
  have hbad := fun i => @Xf.good_bad (Xf.cnt x0 x1 x2 x3) x0 x1 x2 x3 i
  generalize hn : Xf.cnt x0 x1 x2 x3 = n at *
  have hgl : [x0, x1, x2, x3].length = 4 := rfl
  obtain ⟨g, hg⟩ : ∃ g, [x0, x1, x2, x3] = g := ⟨_, rfl⟩
  rw [hg] at hac hgood hbad hB hgl ⊢
  have hsz : (str (g.take n)).size = n := by rw [str_size, List.length_take]; omega
  have HG : Hid (g = [x0, x1, x2, x3]) := hg.symm
  have HN : Hid (n = Xf.cnt x0 x1 x2 x3) := hn.symm
  clear hg hn
  go_enter Tryz.func147, Tryz.ntmps147
  go_wp2_with fail
  refine (withoutFill_g x0 x1 x2 x3 n g _ HG.out HN.out hB).mono ?_
  rintro e w1 ⟨rfl, rfl⟩
  by_cases h2 : n < 2
  · have H : Hid (grpV x0 x1 x2 x3 = .tuple #[.int .u32 0, .int .i64 0]) := grpV_none (by rw [hdef]; unfold Xf.grpN; rw [if_pos h2])
    have h2' : (n : Int) < 2 := by omega
    clear hdef hgS hac hgood hbad
    go_wp2
    go_ret2
    exact ⟨by rw [H.out]; rfl, rfl⟩
  · have h2' : ¬ (n : Int) < 2 := by omega
    go_wp2
    go_loop [2, 13] (fun b i => ∃ k : Nat, k ≤ 4 ∧ i = .int .i64 k ∧ b = .int .u32 (Xf.acc n g k : Int) ∧ Hid (Xf.okTo n g k)) (fun _ i => 4 - (intOf i).toNat)
    case atStart => exact ⟨0, by omega, rfl, rfl, fun i hi => by omega⟩
    case round =>
      obtain ⟨k, hk, rfl, rfl, hok⟩ := hrel
      by_cases hk4 : k < 4
      · have hi : (k : Int) < 4 := by omega
        have hlt := Xf.acc_lt3 hk4 hok.out
        have hacc : Xf.acc n g (k + 1) = Xf.acc n g k * 64 + Xf.at_ n k (nth g k) := rfl
        have hstep : Xf.at_ n k (nth g k) < 64 → Hid (Xf.okTo n g (k + 1)) := fun h i hi => by
          rcases Nat.lt_or_ge i k with h' | h'
          · exact hok.out i h'
          · have : i = k := by omega
            subst this; exact h
        generalize Xf.acc n g k = A at *
        by_cases hkn : k < n
        · have hkn' : ¬ (n : Int) ≤ (k : Int) := by omega
          have hkn'' : (k : Int) < (n : Int) := by omega
          have hat : Xf.at_ n k (nth g k) = Xf.pos (nth g k) := by unfold Xf.at_; rw [if_pos hkn]
          have hget : nth (g.take n) k = nth g k := by
            rw [nth_get (by rw [List.length_take]; omega), nth_get (by omega), List.getElem_take]
          have g0 := str_get (isB_take hB n) (i := k) (by rw [hsz]; omega)
          rw [hget] at g0
          by_cases hp : Xf.pos (nth g k) < 64
          · have HP : Hid (posV (nth g k) = .tuple #[.int .u32 (Xf.pos (nth g k) : Int), .bool true]) := posV_in hp
            have e1 := or_six A (Xf.pos (nth g k)) hlt hp
            have hok' := hstep (by rw [hat]; exact hp)
            rw [hat] at hacc
            rw [← hacc] at e1
            have HA : Hid (Xf.acc n g (k + 1) = A * 64 + Xf.pos (nth g k)) := hacc
            clear hacc hstep hat hget hdef hgS hac hgood hbad
            go_wp2_with fail
            refine (baseValue_any (nth g k) _ ht).mono ?_
            rintro e w1 ⟨rfl, rfl⟩
            rw [HP.out]
            go_wp2
            go_round
            case rel => exact ⟨k + 1, by omega, by go_num, rfl, hok'⟩
            case measure => simp [intOf]; omega
          · have HP : Hid (posV (nth g k) = .tuple #[.int .u32 0, .bool false]) := posV_out hp
            have H : Hid (grpV x0 x1 x2 x3 = .tuple #[.int .u32 0, .int .i64 0]) := grpV_none (by rw [hdef]; unfold Xf.grpN; rw [if_neg h2, if_pos (hbad k hk4 (by rw [hat]; exact hp))])
            clear hacc hstep hat hget hdef hgS hac hgood hbad
            go_wp2_with fail
            refine (baseValue_any (nth g k) _ ht).mono ?_
            rintro e w1 ⟨rfl, rfl⟩
            rw [HP.out]
            go_wp2
            go_ret2
            exact ⟨by rw [H.out]; rfl, rfl⟩
        · have hkn' : (n : Int) ≤ (k : Int) := by omega
          have hat : Xf.at_ n k (nth g k) = 0 := by unfold Xf.at_; rw [if_neg hkn]
          have hok' := hstep (by rw [hat]; omega)
          rw [hat, Nat.add_zero] at hacc
          have HA : Hid (Xf.acc n g (k + 1) = A * 64) := hacc
          clear hacc hstep hat hdef hgS hac hgood hbad
          go_wp2
          go_round
          case rel => exact ⟨k + 1, by omega, by go_num, by rw [HA.out]; go_num, hok'⟩
          case measure => simp [intOf]; omega
      · have hk4' : k = 4 := by omega
        subst hk4'
        have hlt := Xf.acc_lt4 (by omega) hok.out
        have hls := Xf.left_shift (Xf.acc n g 4) n hlt (by omega) h4
        have hg1 : Xf.good n x0 x1 x2 x3 = true := hgood.2 hok.out
        rw [hac] at hlt hls ⊢
        rw [show min (8 + 8 * (n - 1)) 32 = 8 + 8 * (n - 1) by omega] at hls
        have hdef2 : Xf.grp x0 x1 x2 x3 = if Xf.left (Xf.bitsOf n x0 x1 x2 x3) (n - 1) ≠ 0 then none else some (Xf.three (Xf.bitsOf n x0 x1 x2 x3) (n - 1)) := by
          rw [hdef]; unfold Xf.grpN; rw [if_neg h2, if_neg (by rw [hg1]; simp)]
        generalize Xf.bitsOf n x0 x1 x2 x3 = A at *
        have ec : ((A : Int) * 2 ^ (8 + 8 * (n - 1)) % 4294967296) = ((A * 2 ^ (8 + 8 * (n - 1)) % 4294967296 : Nat) : Int) := cast_shift A _
        by_cases hz : Xf.left A (n - 1) = 0
        · have H : Hid (grpV x0 x1 x2 x3 = .tuple #[.int .u32 (A : Int), .int .i64 ((n : Int) - 1)]) := by
            show _ = _
            rw [hgS _ (by rw [hdef2, if_neg (by simpa using hz)]), show ((n - 1 : Nat) : Int) = (n : Int) - 1 by omega]
          have e0 : ((A : Int) * 2 ^ (8 + 8 * (n - 1)) % 4294967296 != 0) = false := by rw [ec, hls.2 hz]; rfl
          clear hdef hgS hac hgood hbad hls hg1 hdef2 ec hz
          go_wp2
          go_ret2
          exact ⟨by rw [H.out]; rfl, rfl⟩
        · have H : Hid (grpV x0 x1 x2 x3 = .tuple #[.int .u32 0, .int .i64 0]) := grpV_none (by rw [hdef2, if_pos hz])
          have e0 : ((A : Int) * 2 ^ (8 + 8 * (n - 1)) % 4294967296 != 0) = true := by
            rw [ec, bne_iff_ne]
            have : ¬ A * 2 ^ (8 + 8 * (n - 1)) % 4294967296 = 0 := fun h => hz (hls.1 h)
            omega
          clear hdef hgS hac hgood hbad hls hg1 hdef2 ec hz
          go_wp2
          go_ret2
          exact ⟨by rw [H.out]; rfl, rfl⟩

set_option maxHeartbeats 1600000 in
set_option maxRecDepth 100000 in
theorem appendBytes_any (v : Value) (out : List Nat) (bt c B : Nat) (ci : Int) (w : World) (hown : Own w B v out) (hbt : bt < 4294967296) (hci : ci = (c : Int)) (hc : c ≤ 4) (ho : out.length ≤ 1048576) (hBw : B ≤ w.heap.size) :
    Calls Tryz.prog 148 #[v, .int .u32 (bt : Int), .int .i64 ci] w fun e w' => ∃ v', e = .returned v' ∧ Own w' B v' (out ++ Xf.bts bt c) ∧ Below B w w' := by
  subst hci
  go_enter Tryz.func148, Tryz.ntmps148
  go_wp2
  go_loopw [0, 1, 8] (fun u t i wr => ∃ (k b : Nat) (o : List Nat), k ≤ c ∧ i = .int .i64 k ∧ t = .int .u32 b ∧ b < 4294967296 ∧ Own wr B u o ∧ Below B w wr ∧ Hid (out ++ Xf.bts bt c = o ++ Xf.bts b (c - k)) ∧ o.length ≤ out.length + k)
    (fun _ _ i _ => c - (intOf i).toNat)
  case atStart => exact ⟨0, bt, out, Nat.zero_le _, rfl, rfl, hbt, hown, Below.refl _ _, rfl, Nat.le_refl _⟩
  case round =>
    obtain ⟨k, b, o, hk, rfl, rfl, hb, hown', hbel, hq, hol⟩ := hrel
    clear hown
    by_cases hkc : k < c
    · have hz : B ≤ wr.heap.size := by have := hbel.size; omega
      obtain ⟨q, hqv⟩ : ∃ q, q = b / 65536 := ⟨_, rfl⟩
      obtain ⟨d, hdv⟩ : ∃ d, d = q % 256 := ⟨_, rfl⟩
      have e1 : (b : Int) / 65536 = (q : Int) := by omega
      have e2 : (q : Int) % 256 = (d : Int) := by omega
      have hq' : Hid (out ++ Xf.bts bt c = (o ++ [d]) ++ Xf.bts (b * 256 % 4294967296) (c - (k + 1))) := by
        show _ = _
        rw [hq.out, show c - k = (c - (k + 1)) + 1 by omega, Xf.bts, hdv, hqv]; simp
      clear hqv hdv hq
      go_wp2_with (at_builtin; refine wpList_app_new rfl _ _ rfl B _ o rfl hown' 1 1 [d] rfl rfl rfl (by omega) hz ?_; intro v' w2 hown2 hb2)
      go_wp2
      go_roundw
      case rel => exact ⟨k + 1, b * 256 % 4294967296, o ++ [d], by omega, by go_num, by go_num, by omega, hown2, hbel.trans hb2, hq', by simp; omega⟩
      case measure => simp [intOf]; omega
    · have hkk : k = c := by omega
      subst hkk
      have hq' : Hid (out ++ Xf.bts bt k = o) := by
        show _ = _
        rw [hq.out, Nat.sub_self, Xf.bts]; simp
      go_wp2
      go_ret
      exact ⟨_, rfl, by rw [hq'.out]; exact hown', hbel⟩
end Go.Proofs.YtfbjodbihenmjaaGreatDoor

namespace Go.Proofs.YtfbjodbihenmjaaGreatDoor
open Go.RowKit

/-- What DecodeBase answers: a code and bytes. -/
def decB (t : List Nat) : Int × List Nat :=
  if 1600 < t.length then (2, []) else match Xf.dec t with
    | none => (7, [])
    | some b => if 400 < b.length then (2, []) else (0, b)
theorem decB_long {t : List Nat} (h : 1600 < t.length) : decB t = (2, []) := by unfold decB; rw [if_pos h]
theorem decB_none {t : List Nat} (h : ¬ 1600 < t.length) (hn : Xf.dec t = none) : decB t = (7, []) := by unfold decB; rw [if_neg h, hn]
theorem decB_many {t b : List Nat} (h : ¬ 1600 < t.length) (hn : Xf.dec t = some b) (hb : 400 < b.length) : decB t = (2, []) := by unfold decB; rw [if_neg h, hn]; simp only; rw [if_pos hb]
theorem decB_some {t b : List Nat} (h : ¬ 1600 < t.length) (hn : Xf.dec t = some b) (hb : ¬ 400 < b.length) : decB t = (0, b) := by unfold decB; rw [if_neg h, hn]; simp only; rw [if_neg hb]

/-- A group that is read. -/
theorem grp_facts {x0 x1 x2 x3 : Nat} {g : List Nat} (h : Xf.grp x0 x1 x2 x3 = some g) :
    2 ≤ Xf.cnt x0 x1 x2 x3 ∧ Xf.cnt x0 x1 x2 x3 ≤ 4 ∧ Xf.bitsOf (Xf.cnt x0 x1 x2 x3) x0 x1 x2 x3 < 16777216 ∧ g = Xf.bts (Xf.bitsOf (Xf.cnt x0 x1 x2 x3) x0 x1 x2 x3) (Xf.cnt x0 x1 x2 x3 - 1) := by
  obtain ⟨h4, _, _⟩ := Xf.cnt_spec x0 x1 x2 x3
  have hac := Xf.acc_four (Xf.cnt x0 x1 x2 x3) x0 x1 x2 x3
  have hgood := Xf.good_iff (Xf.cnt x0 x1 x2 x3) x0 x1 x2 x3
  unfold Xf.grp at h
  generalize Xf.cnt x0 x1 x2 x3 = n at *
  unfold Xf.grpN at h
  by_cases h2 : n < 2
  · rw [if_pos h2] at h; cases h
  · rw [if_neg h2] at h
    cases hg : Xf.good n x0 x1 x2 x3 with
    | false => rw [if_pos hg] at h; cases h
    | true =>
      rw [if_neg (by rw [hg]; simp)] at h
      have hb := Xf.acc_lt4 (by omega) (hgood.1 hg)
      rw [hac] at hb
      split at h
      · cases h
      · simp only [Option.some.injEq] at h
        exact ⟨by omega, h4, hb, by rw [Xf.bts_three _ _ hb (by omega), h]⟩

set_option maxHeartbeats 3200000 in
set_option maxRecDepth 100000 in
theorem implDecodeBase_any (t : List Nat) (n : Nat) (w : World) (hl : t.length = n) (hB : IsB t) (ht : TabB w) :
    Calls Tryz.prog 133 #[.string (str t)] w fun e w' => ∃ v, e = .returned (.agg #[.int .i64 (decB t).1, v]) ∧ Own w' w.heap.size v (decB t).2 ∧ Below w.heap.size w w' := by
  have hsz : (str t).size = n := by rw [str_size, hl]
  by_cases hbig : 1600 < n
  · have H : Hid (decB t = (2, [])) := decB_long (by omega)
    have hn' : (1600 : Int) < (n : Int) := by omega
    go_enter Tryz.func133, Tryz.ntmps133
    go_wp2
    go_returns
    exact ⟨.slice none 0 0, by rw [H.out], by rw [H.out]; exact Own.nil _ _, by go_grown⟩
  · have hn' : ¬ (1600 : Int) < (n : Int) := by omega
    by_cases hodd : n % 4 = 0
    · have e4 : (((n : Int) % 4) != 0) = false := by rw [bne_eq_false_iff_eq]; omega
      go_enter Tryz.func133, Tryz.ntmps133
      go_wp2
      have hb0 : Below w.heap.size w (w.alloc (.cells #[.int .i64 0, .slice none 0 0] 145)) := (Below.refl _ _).alloc (Nat.le_refl _) _
      have ht0 := ht.below hb0
      have hWs : (w.alloc (.cells #[.int .i64 0, .slice none 0 0] 145)).heap.size = w.heap.size + 1 := by simp
      generalize hW : w.alloc (.cells #[.int .i64 0, .slice none 0 0] 145) = W at *
      go_loopw [3, 4] (fun v i wr => ∃ (k j : Nat) (out : List Nat), 4 * k = j ∧ j ≤ n ∧ i = .int .i64 j ∧ Own wr (w.heap.size + 1) v out ∧ Below (w.heap.size + 1) W wr ∧ Hid (Xf.dec t = (Xf.dec (t.drop j)).map (out ++ ·)) ∧ out.length ≤ 3 * k)
        (fun _ i _ => n - (intOf i).toNat)
      case atStart => exact ⟨0, 0, [], rfl, by omega, rfl, Own.nil _ _, Below.refl _ _, by show _ = _; rw [List.drop_zero]; cases Xf.dec t <;> simp, Nat.le_refl _⟩
      case round =>
        obtain ⟨k, j, out, hkj, hj, rfl, hown, hbel, hq, hol⟩ := hrel
        have hz : w.heap.size + 1 ≤ wr.heap.size := by have := hbel.size; omega
        have htr : TabB wr := ht0.below (by rw [hWs]; exact hbel)
        have hol2 : out.length ≤ 2000 := by omega
        by_cases hjn : j < n
        · have hj4 : j + 4 ≤ n := by omega
          have HK : Hid (4 * (k + 1) = j + 4) := by show _ = _; omega
          have hext : (str t).extract j (j + 4) = str [nth t j, nth t (j + 1), nth t (j + 2), nth t (j + 3)] := by
            rw [str_extract, ← Xf.take_four t j (by omega), List.drop_take, Nat.add_sub_cancel_left]
          have hd4 := Xf.drop_four t j (by omega)
          have hB4 : IsB [nth t j, nth t (j + 1), nth t (j + 2), nth t (j + 3)] := by
            intro b hb
            simp only [List.mem_cons, List.not_mem_nil, or_false] at hb
            rcases hb with rfl | rfl | rfl | rfl <;> exact nth_lt hB _
          generalize nth t j = x0 at *
          generalize nth t (j + 1) = x1 at *
          generalize nth t (j + 2) = x2 at *
          generalize nth t (j + 3) = x3 at *
          have hdg := Xf.dec_group hd4
          have hrn : t.drop (j + 4) ≠ [] ↔ j + 4 < n := by
            rw [ne_eq, List.drop_eq_nil_iff]; omega
          have j1 : (j : Int) < (n : Int) := by omega
          have j2 : (j : Int) + 4 ≤ (n : Int) := by omega
          clear hd4 hkj
          go_wp2_with fail
          refine (readGroup_any x0 x1 x2 x3 _ hB4 htr).mono ?_
          rintro e w1 ⟨rfl, rfl⟩
          cases hg : Xf.grp x0 x1 x2 x3 with
          | none =>
            rw [grpV_none hg]
            have H : Hid (decB t = (7, [])) := decB_none (by omega) (by rw [hq.out, hdg, hg]; rfl)
            obtain ⟨hcw, hcw1, hfw, hfw1⟩ := res_block hW hbel
            obtain ⟨hk0, hk1⟩ := res_cells hcw hcw1 (.int .i64 7) (.slice none 0 0)
            clear hq hdg hrn hg hext
            go_wp2
            all_goals
              refine bodyPost_ret (v := .agg #[.int .i64 7, .slice none 0 0]) (by simp [results, Tryz.results133, go_sem, hk0, hk1]) rfl ?_
              exact ⟨.slice none 0 0, by rw [H.out], by rw [H.out]; exact Own.nil _ _, ((hb0.trans (hbel.mono (by omega))).setCell (by simp) _).setCell (by simp) _⟩
          | some gb =>
            rw [grpV_some hg]
            obtain ⟨f2, f4, fb, fg⟩ := grp_facts hg
            simp only [hg] at hdg
            generalize Xf.bitsOf (Xf.cnt x0 x1 x2 x3) x0 x1 x2 x3 = A at *
            generalize hc : Xf.cnt x0 x1 x2 x3 - 1 = c at *
            have hc1 : 1 ≤ c := by omega
            have hc3 : c ≤ 3 := by omega
            have hgl : gb.length = c := by rw [fg, Xf.bts_len]
            have c0 : ((c : Int) == 0) = false := beq_eq_false_iff_ne.2 (by omega)
            have hdrop : (gb.length < 3 ∧ t.drop (j + 4) ≠ []) ↔ (c < 3 ∧ j + 4 < n) := by rw [hgl, hrn]
            clear hc f2 f4 hrn hg hB4
            by_cases hbad : c < 3 ∧ j + 4 < n
            · have H : Hid (decB t = (7, [])) := decB_none (by omega) (by rw [hq.out, hdg, if_pos (hdrop.2 hbad)]; rfl)
              have c3 : (c : Int) < 3 := by omega
              have l4 : ((j : Int) + 4 == (n : Int)) = false := beq_eq_false_iff_ne.2 (by omega)
              obtain ⟨hcw, hcw1, hfw, hfw1⟩ := res_block hW hbel
              obtain ⟨hk0, hk1⟩ := res_cells hcw hcw1 (.int .i64 7) (.slice none 0 0)
              clear hq hdg hext hdrop fg hgl
              go_wp2
              refine bodyPost_ret (v := .agg #[.int .i64 7, .slice none 0 0]) (by simp [results, Tryz.results133, go_sem, hk0, hk1]) rfl ?_
              exact ⟨.slice none 0 0, by rw [H.out], by rw [H.out]; exact Own.nil _ _, ((hb0.trans (hbel.mono (by omega))).setCell (by simp) _).setCell (by simp) _⟩
            · have HQ : Hid (Xf.dec t = (Xf.dec (t.drop (j + 4))).map ((out ++ Xf.bts A c) ++ ·)) := by
                show _ = _
                rw [hq.out, hdg, if_neg (fun h => hbad (hdrop.1 h)), fg]
                cases Xf.dec (t.drop (j + 4)) <;> simp
              have hA : A < 4294967296 := by omega
              clear hq hdg hext hdrop fg hgl
              by_cases c3 : c < 3
              · have c3' : (c : Int) < 3 := by omega
                have l4 : ((j : Int) + 4 == (n : Int)) = true := beq_iff_eq.2 (by omega)
                go_wp2_with fail
                refine (appendBytes_any _ out A c (w.heap.size + 1) _ _ hown hA rfl (by omega) (by omega) hz).mono ?_
                rintro e w2 ⟨v', rfl, hown2, hb2⟩
                go_wp2
                go_roundw
                case rel => exact ⟨k + 1, j + 4, out ++ Xf.bts A c, HK.out, by omega, by go_num, hown2, hbel.trans hb2, HQ, by rw [List.length_append, Xf.bts_len]; omega⟩
                case measure => simp [intOf]; omega
              · have c3' : ¬ (c : Int) < 3 := by omega
                go_wp2_with fail
                refine (appendBytes_any _ out A c (w.heap.size + 1) _ _ hown hA rfl (by omega) (by omega) hz).mono ?_
                rintro e w2 ⟨v', rfl, hown2, hb2⟩
                go_wp2
                go_roundw
                case rel => exact ⟨k + 1, j + 4, out ++ Xf.bts A c, HK.out, by omega, by go_num, hown2, hbel.trans hb2, HQ, by rw [List.length_append, Xf.bts_len]; omega⟩
                case measure => simp [intOf]; omega
        · have hu : Xf.dec t = some out := by rw [hq.out, List.drop_of_length_le (by omega)]; simp [Xf.dec]
          obtain ⟨ao, ocap, rfl, hoc⟩ := hown.form
          obtain ⟨hcw, hcw1, hfw, hfw1⟩ := res_block hW hbel
          have hjn' : ¬ (j : Int) < (n : Int) := by omega
          generalize hN : out.length = N at *
          clear hkj
          by_cases h4 : 400 < N
          · have h4' : (400 : Int) < (N : Int) := by omega
            have H : Hid (decB t = (2, [])) := decB_many (by omega) hu (by omega)
            obtain ⟨hk0, hk1⟩ := res_cells hcw hcw1 (.int .i64 2) (.slice none 0 0)
            clear hq hu hN
            go_wp2
            refine bodyPost_ret (v := .agg #[.int .i64 2, .slice none 0 0]) (by simp [results, Tryz.results133, go_sem, hk0, hk1]) rfl ?_
            exact ⟨.slice none 0 0, by rw [H.out], by rw [H.out]; exact Own.nil _ _, ((hb0.trans (hbel.mono (by omega))).setCell (by simp) _).setCell (by simp) _⟩
          · have h4' : ¬ (400 : Int) < (N : Int) := by omega
            have H : Hid (decB t = (0, out)) := decB_some (by omega) hu (by omega)
            obtain ⟨hk0, hk1⟩ := res_cells hcw hcw1 (.int .i64 0) (.slice ao N ocap)
            clear hq hu hN
            go_wp2
            refine bodyPost_ret (v := .agg #[.int .i64 0, .slice ao N ocap]) (by simp [results, Tryz.results133, go_sem, hk0, hk1]) rfl ?_
            exact ⟨.slice ao N ocap, by rw [H.out], by rw [H.out]; exact ((hown.set _ (by simp) _).set _ (by simp) _).low (by omega), ((hb0.trans (hbel.mono (by omega))).setCell (by simp) _).setCell (by simp) _⟩
    · have e4 : (((n : Int) % 4) != 0) = true := by rw [bne_iff_ne]; omega
      have H : Hid (decB t = (7, [])) := decB_none (by omega) (Xf.dec_odd t (by omega))
      go_enter Tryz.func133, Tryz.ntmps133
      go_wp2
      go_returns
      exact ⟨.slice none 0 0, by rw [H.out], by rw [H.out]; exact Own.nil _ _, by go_grown⟩
end Go.Proofs.YtfbjodbihenmjaaGreatDoor
