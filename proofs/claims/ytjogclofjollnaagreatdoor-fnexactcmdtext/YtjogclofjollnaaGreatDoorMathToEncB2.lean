/- Plain facts on lists of bytes, with no program in them: the text of some bytes in base digits is read back from it and from no other text, and so is the quoted text, which is plain; no conditions · The digit of each number from 0 to 63, as the program's table and the model's text have it: the two are one; the number is 0 to 63 · EncodeBase, the program's: of at most 400 bytes it answers their base text, of more the code 2 · EncodeBase, the program's: of at most 400 bytes it answers their base text. -/
import Derived.Test.YtjogclofjollnaaGreatDoorJfzToApp
import Derived.Test.YtjogclofjollnaaGreatDoorTmuToRgS
import Derived.Handy
import Derived.Deep.RegionHeld3
import Derived.WalkLawsBesides
import Derived.Laws.BitsAllLaws
namespace Go.Proofs.YtjogclofjollnaaGreatDoor
namespace Xf
def digs : List Nat := [65, 66, 67, 68, 69, 70, 71, 72, 73, 74, 75, 76, 77, 78, 79, 80, 81, 82, 83, 84, 85, 86, 87, 88, 89, 90, 97, 98, 99, 100, 101, 102, 103, 104, 105, 106, 107, 108, 109, 110, 111, 112, 113, 114, 115, 116, 117, 118, 119, 120, 121, 122, 48, 49, 50, 51, 52, 53, 54, 55, 56, 57, 43, 47]
def dig (v : Nat) : Nat := digs.getD v 0
def pos (c : Nat) : Nat := digs.findIdx (fun x => x == c)
/- Arithmetic of four digits and three bytes. -/
def enc : List Nat → List Nat
  | [] => []
  | [a] => [dig (a * 65536 / 262144), dig (a * 65536 / 4096 % 64), 61, 61]
  | [a, b] => [dig ((a * 65536 + b * 256) / 262144), dig ((a * 65536 + b * 256) / 4096 % 64), dig ((a * 65536 + b * 256) / 64 % 64), 61]
  | a :: b :: c :: r => dig ((a * 65536 + b * 256 + c) / 262144) :: dig ((a * 65536 + b * 256 + c) / 4096 % 64) :: dig ((a * 65536 + b * 256 + c) / 64 % 64) :: dig ((a * 65536 + b * 256 + c) % 64) :: enc r
theorem enc_len : ∀ l : List Nat, (enc l).length = (l.length + 2) / 3 * 4
  | [] => rfl
  | [_] => by simp [enc]
  | [_, _] => by simp [enc]
  | a :: b :: c :: r => by
    have := enc_len r
    simp only [enc, List.length_cons, this]
    omega
def at_ (n k x : Nat) : Nat := if k < n then pos x else 0
def three (v m : Nat) : List Nat := [v / 65536, v / 256 % 256, v % 256].take m
def left (v m : Nat) : Nat := if m = 1 then v % 65536 else if m = 2 then v % 256 else 0
end Xf
end Go.Proofs.YtjogclofjollnaaGreatDoor
namespace Go.Proofs.YtjogclofjollnaaGreatDoor
open Go.RowKit
theorem ret_intD {k : IntKind} {a b : Int} (h : a = b) : Ending.returned (.int k a) = .returned (.int k b) := by rw [h]
theorem base_text (k : Nat) (h : k < 64) : ((⟨#[65, 66, 67, 68, 69, 70, 71, 72, 73, 74, 75, 76, 77, 78, 79, 80, 81, 82, 83, 84, 85, 86, 87, 88, 89, 90, 97, 98, 99, 100, 101, 102, 103, 104, 105, 106, 107, 108, 109, 110, 111, 112, 113, 114, 115, 116, 117, 118, 119, 120, 121, 122, 48, 49, 50, 51, 52, 53, 54, 55, 56, 57, 43, 47]⟩ : ByteArray)[k]'h).toNat = Xf.dig k := by
  have : ∀ k (h : k < 64), ((⟨#[65, 66, 67, 68, 69, 70, 71, 72, 73, 74, 75, 76, 77, 78, 79, 80, 81, 82, 83, 84, 85, 86, 87, 88, 89, 90, 97, 98, 99, 100, 101, 102, 103, 104, 105, 106, 107, 108, 109, 110, 111, 112, 113, 114, 115, 116, 117, 118, 119, 120, 121, 122, 48, 49, 50, 51, 52, 53, 54, 55, 56, 57, 43, 47]⟩ : ByteArray)[k]'h).toNat = Xf.dig k := by decide +kernel
  exact this k h
def tabI : List Int := [65, 66, 67, 68, 69, 70, 71, 72, 73, 74, 75, 76, 77, 78, 79, 80, 81, 82, 83, 84, 85, 86, 87, 88, 89, 90, 97, 98, 99, 100, 101, 102, 103, 104, 105, 106, 107, 108, 109, 110, 111, 112, 113, 114, 115, 116, 117, 118, 119, 120, 121, 122, 48, 49, 50, 51, 52, 53, 54, 55, 56, 57, 43, 47]
theorem tabI_len : tabI.length = 64 := by decide
theorem tabI_get (v : Nat) (h : v < 64) : tabI.getD v 0 = (Xf.dig v : Int) := by
  have : ∀ v, v < 64 → tabI.getD v 0 = (Xf.dig v : Int) := by decide +kernel
  exact this v h
def TabB (w : World) : Prop := ∀ v, v < 64 → w.cell? ⟨7, v, none⟩ = some (.int .u8 (Xf.dig v : Int))
theorem TabB.below {w w' : World} (h : TabB w) (hb : Below w.heap.size w w') : TabB w' := fun v hv =>
  (hb.cell (p := ⟨7, v, none⟩) (World.block_lt_of_cell? w ⟨7, 0, none⟩ (h 0 (by decide)))).trans (h v hv)
set_option maxHeartbeats 800000 in
set_option maxRecDepth 100000 in
theorem l1Base_any (k : Nat) (h : k < 64) (w : World) : Calls Tryz.prog 88 #[.int .i64 (k : Int)] w fun e w' => e = .returned (.int .u8 (Xf.dig k : Int)) ∧ w' = w := by
  have h' : (k : Int) < 64 := by omega
  go_enter Tryz.func88, Tryz.ntmps88
  go_wp2
  go_ret
  exact ⟨ret_intD (by rw [← base_text k h]), rfl⟩
end Go.Proofs.YtjogclofjollnaaGreatDoor
namespace Go.Proofs.YtjogclofjollnaaGreatDoor
open Go.RowKit
def dgs : Nat → Nat → List Nat
  | _, 0 => []
  | b, c + 1 => Xf.dig (b / 262144 % 64) :: dgs (b * 64 % 4294967296) c
theorem dgs_len : ∀ (b c : Nat), (dgs b c).length = c
  | _, 0 => rfl
  | b, c + 1 => by rw [dgs, List.length_cons, dgs_len]
theorem sh1 (b : Nat) (_h : b < 16777216) : b * 64 % 4294967296 / 262144 % 64 = b / 4096 % 64 := by omega
theorem sh2 (b : Nat) (_h : b < 16777216) : b * 64 % 4294967296 * 64 % 4294967296 / 262144 % 64 = b / 64 % 64 := by omega
theorem sh3 (b : Nat) (_h : b < 16777216) : b * 64 % 4294967296 * 64 % 4294967296 * 64 % 4294967296 / 262144 % 64 = b % 64 := by omega
theorem sh0 (b : Nat) (_h : b < 16777216) : b / 262144 % 64 = b / 262144 := by omega
theorem dgs_four (b : Nat) (h : b < 16777216) : dgs b 4 = [Xf.dig (b / 262144), Xf.dig (b / 4096 % 64), Xf.dig (b / 64 % 64), Xf.dig (b % 64)] := by
  simp only [dgs, sh0 b h, sh1 b h, sh2 b h, sh3 b h]
theorem dgs_three (b : Nat) (h : b < 16777216) : dgs b 3 = [Xf.dig (b / 262144), Xf.dig (b / 4096 % 64), Xf.dig (b / 64 % 64)] := by
  simp only [dgs, sh0 b h, sh1 b h, sh2 b h]
theorem dgs_two (b : Nat) (h : b < 16777216) : dgs b 2 = [Xf.dig (b / 262144), Xf.dig (b / 4096 % 64)] := by
  simp only [dgs, sh0 b h, sh1 b h]
theorem enc_step {l : List Nat} {i : Nat} (hB : IsB l) (h : i + 3 ≤ l.length) :
    Xf.enc (l.drop i) = dgs (nth l i * 65536 + nth l (i + 1) * 256 + nth l (i + 2)) 4 ++ Xf.enc (l.drop (i + 3)) := by
  have h0 := nth_lt hB i
  have h1 := nth_lt hB (i + 1)
  have h2 := nth_lt hB (i + 2)
  rw [drop_cons l i (by omega), drop_cons l (i + 1) (by omega), drop_cons l (i + 1 + 1) (by omega), Xf.enc, dgs_four _ (by omega)]
  rfl
theorem enc_one {l : List Nat} {i : Nat} (hB : IsB l) (h : i + 1 = l.length) : Xf.enc (l.drop i) = dgs (nth l i * 65536) 2 ++ [61, 61] := by
  have h0 := nth_lt hB i
  rw [drop_cons l i (by omega), List.drop_of_length_le (by omega), Xf.enc, dgs_two _ (by omega)]
  rfl
theorem enc_two {l : List Nat} {i : Nat} (hB : IsB l) (h : i + 2 = l.length) : Xf.enc (l.drop i) = dgs (nth l i * 65536 + nth l (i + 1) * 256) 3 ++ [61] := by
  have h0 := nth_lt hB i
  have h1 := nth_lt hB (i + 1)
  rw [drop_cons l i (by omega), drop_cons l (i + 1) (by omega), List.drop_of_length_le (by omega), Xf.enc, dgs_three _ (by omega)]
  rfl
theorem or_two (x y : Nat) (hx : x < 256) (hy : y < 256) : Go.bits BinOp.or IntKind.u32 ((x : Int) * 65536) ((y : Int) * 256) = ((x * 65536 + y * 256 : Nat) : Int) := by
  have := u32_or_nat (x * 65536) (y * 256) (by omega) (by omega)
  rw [show ((x * 65536 : Nat) : Int) = (x : Int) * 65536 by omega, show ((y * 256 : Nat) : Int) = (y : Int) * 256 by omega] at this
  rw [this]
  have h := Nat.shiftLeft_add_eq_or_of_lt (show y * 256 < 2 ^ 16 by omega) x
  rw [Nat.shiftLeft_eq] at h
  rw [show x * 65536 = x * 2 ^ 16 from rfl, ← h]
theorem or_three (p z : Nat) (hp : p < 65536) (hz : z < 256) : Go.bits BinOp.or IntKind.u32 ((p * 256 : Nat) : Int) (z : Int) = ((p * 256 + z : Nat) : Int) := by
  have := u32_or_nat (p * 256) z (by omega) (by omega)
  rw [this]
  have h := Nat.shiftLeft_add_eq_or_of_lt (show z < 2 ^ 8 by omega) p
  rw [Nat.shiftLeft_eq] at h
  rw [show p * 256 = p * 2 ^ 8 from rfl, ← h]
set_option maxHeartbeats 1600000 in
set_option maxRecDepth 100000 in
theorem appendDigits_nat (v : Value) (out : List Nat) (bt c B : Nat) (w : World) (hown : Own w B v out) (hbt : bt < 4294967296) (hc : c ≤ 4) (ho : out.length ≤ 1048576) (ht : TabB w) (hG : 7 < B) (hBw : B ≤ w.heap.size) :
    Calls Tryz.prog 104 #[v, .int .u32 (bt : Int), .int .i64 (c : Int)] w fun e w' => ∃ v', e = .returned v' ∧ Own w' B v' (out ++ dgs bt c) ∧ Below B w w' := by
  go_enter Tryz.func104, Tryz.ntmps104
  go_wp2
  go_loopw [0, 1, 8] (fun u t i wr => ∃ (k b : Nat) (o : List Nat), k ≤ c ∧ i = .int .i64 k ∧ t = .int .u32 b ∧ b < 4294967296 ∧ Own wr B u o ∧ Below B w wr ∧ Hid (out ++ dgs bt c = o ++ dgs b (c - k)) ∧ o.length = out.length + k)
    (fun _ _ i _ => c - (intOf i).toNat)
  case atStart => exact ⟨0, bt, out, Nat.zero_le _, rfl, rfl, hbt, hown, Below.refl _ _, rfl, rfl⟩
  case round =>
    obtain ⟨k, b, o, hk, rfl, rfl, hb, hown', hbel, hq, hol⟩ := hrel
    clear hown
    by_cases hkc : k < c
    · have hz : B ≤ wr.heap.size := by have := hbel.size; omega
      obtain ⟨q, hqv⟩ : ∃ q, q = b / 262144 := ⟨_, rfl⟩
      obtain ⟨d, hdv⟩ : ∃ d, d = q % 64 := ⟨_, rfl⟩
      have hT : wr.cell? ⟨7, d, none⟩ = some (.int .u8 (Xf.dig d : Int)) := (hbel.cell (p := ⟨7, d, none⟩) hG).trans (ht d (by omega))
      have hd64 : (d : Int) < 64 := by omega
      have e1 : (b : Int) / 262144 = (q : Int) := by omega
      have hqq : Hid (q = b / 262144) := hqv
      have hdd : Hid (d = q % 64) := hdv
      have e2 : Go.bits BinOp.and IntKind.u32 (q : Int) 63 = (d : Int) := by
        have := u32_and_nat q 63 (by omega) (by omega)
        rw [show ((63 : Nat) : Int) = 63 from rfl] at this
        rw [this, Nat.and_two_pow_sub_one_eq_mod q 6, hdv]
      have hq' : Hid (out ++ dgs bt c = (o ++ [Xf.dig d]) ++ dgs (b * 64 % 4294967296) (c - (k + 1))) := by
        show _ = _
        rw [hq.out, show c - k = (c - (k + 1)) + 1 by omega, dgs, hdv, hqv]; simp
      clear hqv hdv hq
      go_wp2_with (at_builtin; refine wpList_app_new rfl _ _ rfl B _ o rfl hown' 1 1 [Xf.dig d] rfl rfl rfl (by omega) hz ?_; intro v' w2 hown2 hb2)
      go_wp2
      go_roundw
      case rel => exact ⟨k + 1, b * 64 % 4294967296, o ++ [Xf.dig d], by omega, by go_num, by go_num, by omega, hown2, hbel.trans hb2, hq', by simp; omega⟩
      case measure => simp [intOf]; omega
    · have hkk : k = c := by omega
      subst hkk
      have hq' : Hid (out ++ dgs bt k = o) := by
        show _ = _
        rw [hq.out, Nat.sub_self, dgs]; simp
      go_wp2
      go_ret
      exact ⟨_, rfl, by rw [hq'.out]; exact hown', hbel⟩
theorem appendDigits_any (v : Value) (out : List Nat) (bt c B : Nat) (bi ci : Int) (w : World) (hown : Own w B v out) (hbt : bt < 4294967296) (hbi : bi = (bt : Int)) (hci : ci = (c : Int)) (hc : c ≤ 4) (ho : out.length ≤ 1048576) (ht : TabB w) (hG : 7 < B) (hBw : B ≤ w.heap.size) :
    Calls Tryz.prog 104 #[v, .int .u32 bi, .int .i64 ci] w fun e w' => ∃ v', e = .returned v' ∧ Own w' B v' (out ++ dgs bt c) ∧ Below B w w' := by
  subst hci hbi
  exact appendDigits_nat v out bt c B w hown hbt hc ho ht hG hBw
end Go.Proofs.YtjogclofjollnaaGreatDoor
namespace Go.Proofs.YtjogclofjollnaaGreatDoor
open Go.RowKit
def sliceLen : Value → Nat
  | .slice _ m _ => m
  | _ => 0
set_option maxHeartbeats 3200000 in
set_option maxRecDepth 100000 in
theorem implEncodeBase_few (a : Option Addr) (n cap : Nat) (l : List Nat) (w : World) (hl : l.length = n) (hr : Rd w a l) (hB : IsB l) (hcap : n ≤ cap) (hn : n ≤ 400) (ht : TabB w) :
    Calls Tryz.prog 73 #[.slice a n cap] w fun e w' => e = .returned (.agg #[.int .i64 0, .string (str (Xf.enc l))]) ∧ Below w.heap.size w w' := by
  have hn' : ¬ (400 : Int) < (n : Int) := by omega
  have hGw : 7 < w.heap.size := World.block_lt_of_cell? w ⟨7, 0, none⟩ (ht 0 (by decide))
  go_enter Tryz.func73, Tryz.ntmps73
  go_wp2
  have hb0 : Below w.heap.size w (w.alloc (.cells #[.int .i64 0, .string ⟨#[]⟩] 30)) := (Below.refl _ _).alloc (Nat.le_refl _) _
  have hr0 := hr.below hb0
  have ht0 := ht.below hb0
  have hWs : (w.alloc (.cells #[.int .i64 0, .string ⟨#[]⟩] 30)).heap.size = w.heap.size + 1 := by simp
  generalize hW : w.alloc (.cells #[.int .i64 0, .string ⟨#[]⟩] 30) = W at *
  go_loopw [3, 4] (fun v r wr => ∃ (k m c : Nat) (out : List Nat) (a' : Option Addr), 3 * k + m = n ∧ m ≤ c ∧ r = .slice a' m c ∧ Rd W a' (l.drop (3 * k)) ∧ Own wr (w.heap.size + 1) v out ∧ Below (w.heap.size + 1) W wr ∧ Hid (Xf.enc l = out ++ Xf.enc (l.drop (3 * k))) ∧ out.length ≤ 4 * k)
    (fun _ r _ => sliceLen r)
  case atStart => exact ⟨0, n, cap, [], a, by omega, hcap, rfl, hr0, Own.nil _ _, Below.refl _ _, rfl, Nat.le_refl _⟩
  case round =>
    obtain ⟨k, m, c, out, a', hk, hmc, rfl, hrk, hown, hbel, hq, hol⟩ := hrel
    have hz : w.heap.size + 1 ≤ wr.heap.size := by have := hbel.size; omega
    have hlk : (l.drop (3 * k)).length = m := by rw [List.length_drop, hl]; omega
    have htr : TabB wr := ht0.below (by rw [hWs]; exact hbel)
    by_cases hkn : 3 ≤ m
    · obtain ⟨b, off, rfl, hblt, hcell⟩ := hrk.at_ (by omega)
      have cc : ∀ i, i < (l.drop (3 * k)).length → wr.cell? ⟨b, off + i, none⟩ = some (.int .u8 (nth (l.drop (3 * k)) i : Int)) := fun i hi => (hbel.cell (p := ⟨b, off + i, none⟩) (by simp; omega)).trans (hcell i hi)
      have c0 := cc 0 (by omega)
      have c1 := cc 1 (by omega)
      have c2 := cc 2 (by omega)
      rw [nth_drop, Nat.add_zero, Nat.add_zero] at c0
      rw [nth_drop] at c1 c2
      have x0 := nth_lt hB (3 * k)
      have x1 := nth_lt hB (3 * k + 1)
      have x2 := nth_lt hB (3 * k + 2)
      have hq' := enc_step (i := 3 * k) hB (by omega)
      have hrd := hrk.drop 3
      generalize nth l (3 * k) = x at *
      generalize nth l (3 * k + 1) = y at *
      generalize nth l (3 * k + 2) = z at *
      have HQ : Hid (Xf.enc l = (out ++ dgs (x * 65536 + y * 256 + z) 4) ++ Xf.enc (l.drop (3 * (k + 1)))) := by
        show _ = _
        rw [hq.out, hq', show 3 * (k + 1) = 3 * k + 3 by omega]; simp
      have HR : Hid (Rd W (if c = 3 then some ⟨b, off, none⟩ else some ⟨b, off + 3, none⟩) (l.drop (3 * (k + 1)))) := by
        show Rd _ _ _
        rw [List.drop_drop] at hrd
        exact hrd.cut (fun h => List.drop_of_length_le (by omega))
      clear hq hq' hcell hrd hrk hlk cc
      obtain ⟨p, hp⟩ : ∃ p, p = x * 65536 + y * 256 := ⟨_, rfl⟩
      obtain ⟨bt, hbt⟩ : ∃ bt, bt = x * 65536 + y * 256 + z := ⟨_, rfl⟩
      have e1 := or_two x y x0 x1
      rw [← hp] at e1
      have e2 : Go.bits BinOp.or IntKind.u32 (p : Int) (z : Int) = (bt : Int) := by
        have := or_three (x * 256 + y) z (by omega) x2
        rw [show (x * 256 + y) * 256 = p by omega, show p + z = bt by omega] at this
        exact this
      rw [← hbt] at HQ
      have hbl : bt < 4294967296 := by omega
      have i0 : (0 : Int) < (m : Int) := by omega
      have i1 : (1 : Int) < (m : Int) := by omega
      have i2 : (2 : Int) < (m : Int) := by omega
      have i3 : (3 : Int) ≤ (m : Int) := by omega
      clear hp hbt
      go_wp2_with fail
      go_quiet (fail)
      go_wp2_with fail
      refine (appendDigits_any u3 out bt 4 (w.heap.size + 1) _ 4 _ (by exact hown) hbl rfl rfl (by omega) (by omega) (by exact htr) (by omega) (by exact hz)).mono ?_
      rintro e w2 ⟨v', rfl, hown2, hb2⟩
      have hz2 := hb2.size
      go_wp2
      go_roundw
      case rel => exact ⟨k + 1, m - 3, c - 3, out ++ dgs bt 4, _, by omega, by omega, rfl, HR.out, hown2, hbel.trans ((below_drewN (Below.refl _ _) _).trans hb2), HQ, by rw [List.length_append, dgs_len]; omega⟩
      case measure => simp [sliceLen]; omega
    · have hlt3 : ¬ (3 : Int) ≤ (m : Int) := by omega
      rcases (show m = 0 ∨ m = 1 ∨ m = 2 by omega) with rfl | rfl | rfl
      · have hq' : Hid (Xf.enc l = out) := by
          show _ = _
          rw [hq.out, List.drop_of_length_le (by omega)]; simp [Xf.enc]
        obtain ⟨ao, ocap, rfl, hoc⟩ := hown.form
        have hconv := fun c => run_str (cap := c) rfl (Own.rd hown).2
        obtain ⟨hcw, hcw1, hfw, hfw1⟩ := res_block hW hbel
        obtain ⟨hk0, hk1⟩ := res_cells hcw hcw1 (.int .i64 0) (.string (str out))
        go_wp2
        refine bodyPost_ret (v := .agg #[.int .i64 0, .string (str out)]) (by simp [results, Tryz.results73, go_sem, hk0, hk1]) rfl ?_
        exact ⟨by rw [hq'.out], ((hb0.trans (hbel.mono (by omega))).setCell (by simp) _).setCell (by simp) _⟩
      · obtain ⟨b, off, rfl, hblt, hcell⟩ := hrk.at_ (by omega)
        have c0 := (hbel.cell (p := ⟨b, off + 0, none⟩) (by simp; omega)).trans (hcell 0 (by omega))
        rw [nth_drop, Nat.add_zero, Nat.add_zero] at c0
        have x0 := nth_lt hB (3 * k)
        have hq' := enc_one (i := 3 * k) hB (by omega)
        generalize nth l (3 * k) = x at *
        obtain ⟨bt, hbt⟩ : ∃ bt, bt = x * 65536 := ⟨_, rfl⟩
        have HQ : Hid (Xf.enc l = (out ++ dgs bt 2) ++ [61, 61]) := by
          show _ = _
          rw [hq.out, hq', hbt]; simp
        have e1 : (x : Int) * 65536 = (bt : Int) := by omega
        have hbl : bt < 4294967296 := by omega
        clear hq hq' hcell hrk hlk hbt
        go_wp2_with fail
        refine (appendDigits_any u3 out bt 2 (w.heap.size + 1) _ 2 _ (by exact hown) hbl rfl rfl (by omega) (by omega) (by exact htr) (by omega) (by exact hz)).mono ?_
        rintro e w2 ⟨v', rfl, hown2, hb2⟩
        have hz2 := hb2.size
        have HB : Hid (Below (w.heap.size + 1) W w2) := hbel.trans hb2
        go_wp2_with (at_builtin; refine wpList_app_fin rfl _ _ rfl (w.heap.size + 1) _ (out ++ dgs bt 2) rfl hown2 2 2 [61, 61] rfl rfl rfl (by rw [List.length_append, dgs_len]; omega) (by omega) (Xf.enc l) HQ.out.symm ?_; intro ao N ocap w3 hown3 hb3 hconv; obtain ⟨hcw, hcw1, hfw, hfw1⟩ := res_block hW (HB.out.trans hb3))
        obtain ⟨hk0, hk1⟩ := res_cells hcw hcw1 (.int .i64 0) (.string (str (Xf.enc l)))
        refine bodyPost_ret (v := .agg #[.int .i64 0, .string (str (Xf.enc l))]) (by simp [results, Tryz.results73, go_sem, hk0, hk1]) rfl ?_
        exact ⟨rfl, ((hb0.trans ((HB.out.trans hb3).mono (by omega))).setCell (by simp) _).setCell (by simp) _⟩
      · obtain ⟨b, off, rfl, hblt, hcell⟩ := hrk.at_ (by omega)
        have cc : ∀ i, i < (l.drop (3 * k)).length → wr.cell? ⟨b, off + i, none⟩ = some (.int .u8 (nth (l.drop (3 * k)) i : Int)) := fun i hi => (hbel.cell (p := ⟨b, off + i, none⟩) (by simp; omega)).trans (hcell i hi)
        have c0 := cc 0 (by omega)
        have c1 := cc 1 (by omega)
        rw [nth_drop, Nat.add_zero, Nat.add_zero] at c0
        rw [nth_drop] at c1
        have x0 := nth_lt hB (3 * k)
        have x1 := nth_lt hB (3 * k + 1)
        have hq' := enc_two (i := 3 * k) hB (by omega)
        generalize nth l (3 * k) = x at *
        generalize nth l (3 * k + 1) = y at *
        obtain ⟨bt, hbt⟩ : ∃ bt, bt = x * 65536 + y * 256 := ⟨_, rfl⟩
        have HQ : Hid (Xf.enc l = (out ++ dgs bt 3) ++ [61]) := by
          show _ = _
          rw [hq.out, hq', hbt]; simp
        have e1 := or_two x y x0 x1
        rw [← hbt] at e1
        have hbl : bt < 4294967296 := by omega
        have hbb : b < w.heap.size + 1 := by omega
        have e3 : Go.bits BinOp.or IntKind.u32 (IntKind.u32.wrap (IntKind.u32.wrap (x : Int) * 65536)) (IntKind.u32.wrap (IntKind.u32.wrap (y : Int) * 256)) = (bt : Int) := by
          simp (disch := omega) only [IntWalk.u32_in]
          exact e1
        clear hq hq' hcell hrk hlk hbt cc
        go_wp2_with fail
        go_region_held3 (fun w' => w'.cell? ⟨b, off, none⟩ = some (.int .u8 (x : Int)) ∧ w'.cell? ⟨b, off + 1, none⟩ = some (.int .u8 (y : Int)))
          (first
            | go_keep
            | (go_split_ands
               refine ⟨?_, ?_⟩
               · (rw [hb2.cell (by exact hbb)]; assumption)
               · (rw [hb2.cell (by exact hbb)]; assumption)))
          ((go_at_call 104; refine (appendDigits_any u3 out bt 3 (w.heap.size + 1) _ 3 _ (by exact hown) hbl (by with_reducible first | rfl | exact e3) rfl (by omega) (by omega) (by exact htr) (by omega) (by exact hz)).mono ?_; rintro e w2 ⟨v', rfl, hown2, hb2⟩))
        have hz2 : wr.heap.size ≤ w2.heap.size := hb2.size
        have HB : Hid (Below (w.heap.size + 1) W w2) := hbel.trans ((Below.refl _ _).drew.trans hb2)
        go_wp2_with (at_builtin; refine wpList_app_fin rfl _ _ rfl (w.heap.size + 1) _ (out ++ dgs bt 3) rfl hown2 1 1 [61] rfl rfl rfl (by rw [List.length_append, dgs_len]; omega) (by omega) (Xf.enc l) HQ.out.symm ?_; intro ao N ocap w3 hown3 hb3 hconv; obtain ⟨hcw, hcw1, hfw, hfw1⟩ := res_block hW (HB.out.trans hb3))
        obtain ⟨hk0, hk1⟩ := res_cells hcw hcw1 (.int .i64 0) (.string (str (Xf.enc l)))
        refine bodyPost_ret (v := .agg #[.int .i64 0, .string (str (Xf.enc l))]) (by simp [results, Tryz.results73, go_sem, hk0, hk1]) rfl ?_
        exact ⟨rfl, ((hb0.trans ((HB.out.trans hb3).mono (by omega))).setCell (by simp) _).setCell (by simp) _⟩
end Go.Proofs.YtjogclofjollnaaGreatDoor
