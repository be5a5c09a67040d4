/- The model's EncodeBase: of at most 400 bytes it answers their base text, of more the code 2; and so does the program's of more · The model's l1Digit and l1Decode: letters read by groups of four, and held against their own text. -/
import Derived.Test.YtooifkdbpghcfaaGreatDoorMathToEncB2
import Derived.Test.YtooifkdbpghcfaaGreatDoorDecB2ToPbo
namespace Go.Proofs.YtooifkdbpghcfaaGreatDoor
open Go.RowKit

theorem l1Base_int (i : Int) (k : Nat) (w : World) (hi : i = (k : Int)) (h : k < 64) : Calls Tryz.prog 137 #[.int .i64 i] w fun e w' => e = .returned (.int .u8 (Xf.dig k : Int)) ∧ w = w' := by
  subst hi
  exact (l1Base_any k h w).mono fun _ _ ⟨h1, h2⟩ => ⟨h1, h2.symm⟩

theorem four_step {l : List Nat} {i : Nat} (hB : IsB l) (h : i + 3 ≤ l.length) (v : Nat) (hv : v = nth l i * 65536 + nth l (i + 1) * 256 + nth l (i + 2)) :
    Xf.enc (l.drop i) = [Xf.dig (v / 262144), Xf.dig (v / 4096 % 64), Xf.dig (v / 64 % 64), Xf.dig (v % 64)] ++ Xf.enc (l.drop (i + 3)) := by
  have h0 := nth_lt hB i
  have h1 := nth_lt hB (i + 1)
  have h2 := nth_lt hB (i + 2)
  rw [enc_step hB h, dgs_four _ (by omega), hv]
theorem four_two {l : List Nat} {i : Nat} (hB : IsB l) (h : i + 2 = l.length) (v : Nat) (hv : v = nth l i * 65536 + nth l (i + 1) * 256) :
    Xf.enc (l.drop i) = [Xf.dig (v / 262144), Xf.dig (v / 4096 % 64), Xf.dig (v / 64 % 64), 61] ++ Xf.enc (l.drop (i + 3)) := by
  have h0 := nth_lt hB i
  have h1 := nth_lt hB (i + 1)
  rw [enc_two hB h, dgs_three _ (by omega), hv, List.drop_of_length_le (by omega), Xf.enc]
  rfl
theorem four_one {l : List Nat} {i : Nat} (hB : IsB l) (h : i + 1 = l.length) (v : Nat) (hv : v = nth l i * 65536) :
    Xf.enc (l.drop i) = [Xf.dig (v / 262144), Xf.dig (v / 4096 % 64), 61, 61] ++ Xf.enc (l.drop (i + 3)) := by
  have h0 := nth_lt hB i
  rw [enc_one hB h, dgs_two _ (by omega), hv, List.drop_of_length_le (by omega), Xf.enc]
  rfl

set_option maxHeartbeats 3200000 in
set_option maxRecDepth 100000 in
theorem l1Encode_any (a : Option Addr) (n cap : Nat) (l : List Nat) (w : World) (hl : l.length = n) (hr : Rd w a l) (hB : IsB l) (hn : n ≤ 1048576) :
    Calls Tryz.prog 106 #[.slice a n cap] w fun e w' => e = .returned (.string (str (Xf.enc l))) ∧ Below w.heap.size w w' := by
  go_enter Tryz.func106, Tryz.ntmps106
  go_wp2
  have hown0 : Own (w.alloc (.cells #[] 5)) w.heap.size (.slice (some ⟨w.heap.size, 0, none⟩) 0 0) [] := Own.lit w _ (Nat.le_refl _) #[] [] rfl (by decide)
  have hbel0 : Below w.heap.size w (w.alloc (.cells #[] 5)) := (Below.refl _ _).alloc (Nat.le_refl _) _
  go_loopw [3, 4] (fun v i wr => ∃ (k : Nat) (out : List Nat), 3 * k ≤ n + 2 ∧ i = .int .i64 (3 * k : Nat) ∧ Own wr w.heap.size v out ∧ Below w.heap.size w wr ∧ Hid (Xf.enc l = out ++ Xf.enc (l.drop (3 * k))) ∧ out.length ≤ 4 * k)
    (fun _ i _ => n + 3 - (intOf i).toNat)
  case atStart => exact ⟨0, [], by omega, rfl, hown0, hbel0, rfl, Nat.le_refl _⟩
  case round =>
    obtain ⟨k, out, hk, rfl, hown, hbel, hq, hol⟩ := hrel
    clear hown0 hbel0
    have hz := hbel.size
    have hol2 : out.length ≤ 2000000 := by omega
    obtain ⟨i, hi⟩ : ∃ i, 3 * k = i := ⟨_, rfl⟩
    rw [hi] at hq hk ⊢
    by_cases hkn : i < n
    · obtain ⟨b, off, rfl, hblt, hcell⟩ := hr.at_ (by omega)
      have cc : ∀ j, j < n → wr.cell? ⟨b, off + j, none⟩ = some (.int .u8 (nth l j : Int)) := fun j hj => (hbel.cell (p := ⟨b, off + j, none⟩) hblt).trans (hcell j (by omega))
      have c0 := cc i hkn
      have x0 := nth_lt hB i
      have x1 := nth_lt hB (i + 1)
      have x2 := nth_lt hB (i + 2)
      clear hcell hr
      rcases (show i + 3 ≤ n ∨ i + 2 = n ∨ i + 1 = n by omega) with h3 | h2 | h1
      · have c1 := cc (i + 1) (by omega)
        have c2 := cc (i + 2) (by omega)
        have hq' := four_step (i := i) hB (by omega) _ rfl
        generalize nth l i = x at *
        generalize nth l (i + 1) = y at *
        generalize nth l (i + 2) = z at *
        obtain ⟨v, hv⟩ : ∃ v, v = x * 65536 + y * 256 + z := ⟨_, rfl⟩
        rw [← hv] at hq'
        obtain ⟨d0, hd0⟩ : ∃ d, d = v / 262144 := ⟨_, rfl⟩
        obtain ⟨d1, hd1⟩ : ∃ d, d = v / 4096 % 64 := ⟨_, rfl⟩
        obtain ⟨d2, hd2⟩ : ∃ d, d = v / 64 % 64 := ⟨_, rfl⟩
        obtain ⟨d3, hd3⟩ : ∃ d, d = v % 64 := ⟨_, rfl⟩
        rw [← hd0, ← hd1, ← hd2, ← hd3] at hq'
        have HQ : Hid (Xf.enc l = (out ++ [Xf.dig d0, Xf.dig d1, Xf.dig d2, Xf.dig d3]) ++ Xf.enc (l.drop (3 * (k + 1)))) := by
          show _ = _
          rw [hq.out, hq', show 3 * (k + 1) = i + 3 by omega]; simp
        have n1 : (i : Int) + 1 < (n : Int) := by omega
        have n2 : (i : Int) + 2 < (n : Int) := by omega
        have n3 : ¬ (n : Int) ≤ (i : Int) + 2 := by omega
        have n4 : ¬ (n : Int) ≤ (i : Int) + 1 := by omega
        clear hq hq' cc
        have Hv : Hid (v = x * 65536 + y * 256 + z) := hv
        have H0 : Hid (d0 = v / 262144) := hd0
        have H1 : Hid (d1 = v / 4096 % 64) := hd1
        have H2 : Hid (d2 = v / 64 % 64) := hd2
        have H3 : Hid (d3 = v % 64) := hd3
        have HI : Hid (3 * k = i) := hi
        clear hv hd0 hd1 hd2 hd3 hi
        go_wp2_with fail
        refine (l1Base_int _ d0 _ (by have h1 := Hv.out; have h2 := H0.out; omega) (by have h1 := Hv.out; have h2 := H0.out; omega)).mono ?_
        rintro e w1 ⟨rfl, rfl⟩
        go_wp2_with fail
        refine (l1Base_int _ d1 _ (by have h1 := Hv.out; have h2 := H1.out; omega) (by have h1 := Hv.out; have h2 := H1.out; omega)).mono ?_
        rintro e w2 ⟨rfl, rfl⟩
        go_wp2_with fail
        refine (l1Base_int _ d2 _ (by have h1 := Hv.out; have h2 := H2.out; omega) (by have h1 := Hv.out; have h2 := H2.out; omega)).mono ?_
        rintro e w3 ⟨rfl, rfl⟩
        go_wp2_with fail
        refine (l1Base_int _ d3 _ (by have h1 := Hv.out; have h2 := H3.out; omega) (by have h1 := Hv.out; have h2 := H3.out; omega)).mono ?_
        rintro e w4 ⟨rfl, rfl⟩
        go_wp2_with (at_builtin; refine wpList_app_new rfl _ _ rfl w.heap.size _ out rfl hown 4 4 [Xf.dig d0, Xf.dig d1, Xf.dig d2, Xf.dig d3] rfl rfl rfl (by omega) hz ?_; intro v' w5 hown' hb')
        go_wp2
        go_roundw
        case rel => exact ⟨k + 1, out ++ [Xf.dig d0, Xf.dig d1, Xf.dig d2, Xf.dig d3], by have := HI.out; omega, by have := HI.out; go_num, hown', hbel.trans hb', HQ, by simp; omega⟩
        case measure => have := HI.out; simp [intOf]; omega
      · have c1 := cc (i + 1) (by omega)
        have hq' := four_two (i := i) hB (by omega) _ rfl
        generalize nth l i = x at *
        generalize nth l (i + 1) = y at *
        obtain ⟨v, hv⟩ : ∃ v, v = x * 65536 + y * 256 := ⟨_, rfl⟩
        rw [← hv] at hq'
        obtain ⟨d0, hd0⟩ : ∃ d, d = v / 262144 := ⟨_, rfl⟩
        obtain ⟨d1, hd1⟩ : ∃ d, d = v / 4096 % 64 := ⟨_, rfl⟩
        obtain ⟨d2, hd2⟩ : ∃ d, d = v / 64 % 64 := ⟨_, rfl⟩
        obtain ⟨d3, hd3⟩ : ∃ d, d = v % 64 := ⟨_, rfl⟩
        rw [← hd0, ← hd1, ← hd2] at hq'
        have HQ : Hid (Xf.enc l = (out ++ [Xf.dig d0, Xf.dig d1, Xf.dig d2, 61]) ++ Xf.enc (l.drop (3 * (k + 1)))) := by
          show _ = _
          rw [hq.out, hq', show 3 * (k + 1) = i + 3 by omega]; simp
        have n1 : (i : Int) + 1 < (n : Int) := by omega
        have n2 : ¬ (i : Int) + 2 < (n : Int) := by omega
        have n3 : (n : Int) ≤ (i : Int) + 2 := by omega
        have n4 : ¬ (n : Int) ≤ (i : Int) + 1 := by omega
        have h2' : n ≤ i + 2 := by omega
        have h2'' : i + 2 ≤ n := by omega
        clear hq hq' cc h2
        have Hv : Hid (v = x * 65536 + y * 256) := hv
        have H0 : Hid (d0 = v / 262144) := hd0
        have H1 : Hid (d1 = v / 4096 % 64) := hd1
        have H2 : Hid (d2 = v / 64 % 64) := hd2
        have H3 : Hid (d3 = v % 64) := hd3
        have HI : Hid (3 * k = i) := hi
        clear hv hd0 hd1 hd2 hd3 hi
        go_wp2_with fail
        refine (l1Base_int _ d0 _ (by have h1 := Hv.out; have h2 := H0.out; omega) (by have h1 := Hv.out; have h2 := H0.out; omega)).mono ?_
        rintro e w1 ⟨rfl, rfl⟩
        go_wp2_with fail
        refine (l1Base_int _ d1 _ (by have h1 := Hv.out; have h2 := H1.out; omega) (by have h1 := Hv.out; have h2 := H1.out; omega)).mono ?_
        rintro e w2 ⟨rfl, rfl⟩
        go_wp2_with fail
        refine (l1Base_int _ d2 _ (by have h1 := Hv.out; have h2 := H2.out; omega) (by have h1 := Hv.out; have h2 := H2.out; omega)).mono ?_
        rintro e w3 ⟨rfl, rfl⟩
        go_wp2_with fail
        refine (l1Base_int _ d3 _ (by have h1 := Hv.out; have h2 := H3.out; omega) (by have h1 := Hv.out; have h2 := H3.out; omega)).mono ?_
        rintro e w4 ⟨rfl, rfl⟩
        go_wp2_with (at_builtin; refine wpList_app_new rfl _ _ rfl w.heap.size _ out rfl hown 4 4 [Xf.dig d0, Xf.dig d1, Xf.dig d2, 61] rfl rfl rfl (by omega) hz ?_; intro v' w5 hown' hb')
        go_wp2
        go_roundw
        case rel => exact ⟨k + 1, out ++ [Xf.dig d0, Xf.dig d1, Xf.dig d2, 61], by have := HI.out; omega, by have := HI.out; go_num, hown', hbel.trans hb', HQ, by simp; omega⟩
        case measure => have := HI.out; simp [intOf]; omega
      · have hq' := four_one (i := i) hB (by omega) _ rfl
        generalize nth l i = x at *
        obtain ⟨v, hv⟩ : ∃ v, v = x * 65536 := ⟨_, rfl⟩
        rw [← hv] at hq'
        obtain ⟨d0, hd0⟩ : ∃ d, d = v / 262144 := ⟨_, rfl⟩
        obtain ⟨d1, hd1⟩ : ∃ d, d = v / 4096 % 64 := ⟨_, rfl⟩
        obtain ⟨d2, hd2⟩ : ∃ d, d = v / 64 % 64 := ⟨_, rfl⟩
        obtain ⟨d3, hd3⟩ : ∃ d, d = v % 64 := ⟨_, rfl⟩
        rw [← hd0, ← hd1] at hq'
        have HQ : Hid (Xf.enc l = (out ++ [Xf.dig d0, Xf.dig d1, 61, 61]) ++ Xf.enc (l.drop (3 * (k + 1)))) := by
          show _ = _
          rw [hq.out, hq', show 3 * (k + 1) = i + 3 by omega]; simp
        have n1 : ¬ (i : Int) + 1 < (n : Int) := by omega
        have n2 : ¬ (i : Int) + 2 < (n : Int) := by omega
        have n3 : (n : Int) ≤ (i : Int) + 2 := by omega
        have n4 : (n : Int) ≤ (i : Int) + 1 := by omega
        have h1' : n ≤ i + 1 := by omega
        clear hq hq' cc h1
        have Hv : Hid (v = x * 65536) := hv
        have H0 : Hid (d0 = v / 262144) := hd0
        have H1 : Hid (d1 = v / 4096 % 64) := hd1
        have H2 : Hid (d2 = v / 64 % 64) := hd2
        have H3 : Hid (d3 = v % 64) := hd3
        have HI : Hid (3 * k = i) := hi
        clear hv hd0 hd1 hd2 hd3 hi
        go_wp2_with fail
        refine (l1Base_int _ d0 _ (by have h1 := Hv.out; have h2 := H0.out; omega) (by have h1 := Hv.out; have h2 := H0.out; omega)).mono ?_
        rintro e w1 ⟨rfl, rfl⟩
        go_wp2_with fail
        refine (l1Base_int _ d1 _ (by have h1 := Hv.out; have h2 := H1.out; omega) (by have h1 := Hv.out; have h2 := H1.out; omega)).mono ?_
        rintro e w2 ⟨rfl, rfl⟩
        go_wp2_with fail
        refine (l1Base_int _ d2 _ (by have h1 := Hv.out; have h2 := H2.out; omega) (by have h1 := Hv.out; have h2 := H2.out; omega)).mono ?_
        rintro e w3 ⟨rfl, rfl⟩
        go_wp2_with fail
        refine (l1Base_int _ d3 _ (by have h1 := Hv.out; have h2 := H3.out; omega) (by have h1 := Hv.out; have h2 := H3.out; omega)).mono ?_
        rintro e w4 ⟨rfl, rfl⟩
        go_wp2_with (at_builtin; refine wpList_app_new rfl _ _ rfl w.heap.size _ out rfl hown 4 4 [Xf.dig d0, Xf.dig d1, 61, 61] rfl rfl rfl (by omega) hz ?_; intro v' w5 hown' hb')
        go_wp2
        go_roundw
        case rel => exact ⟨k + 1, out ++ [Xf.dig d0, Xf.dig d1, 61, 61], by have := HI.out; omega, by have := HI.out; go_num, hown', hbel.trans hb', HQ, by simp; omega⟩
        case measure => have := HI.out; simp [intOf]; omega
    · have hq' : Hid (Xf.enc l = out) := by
        show _ = _
        rw [hq.out, List.drop_of_length_le (by omega)]; simp [Xf.enc]
      obtain ⟨ao, ocap, rfl, hoc⟩ := hown.form
      have hconv := fun c => run_str (cap := c) rfl (Own.rd hown).2
      clear hi
      go_wp2
      go_ret
      exact ⟨by rw [hq'.out]; rfl, hbel⟩

end Go.Proofs.YtooifkdbpghcfaaGreatDoor

namespace Go.Proofs.YtooifkdbpghcfaaGreatDoor
open Go.RowKit

/-- The value of a digit, or -1. -/
def posI (c : Nat) : Int := if Xf.pos c < 64 then (Xf.pos c : Int) else -1
theorem posI_in {c : Nat} (h : Xf.pos c < 64) : posI c = (Xf.pos c : Int) := if_pos h
theorem posI_out {c : Nat} (h : ¬ Xf.pos c < 64) : posI c = -1 := if_neg h

set_option maxHeartbeats 1600000 in
set_option maxRecDepth 100000 in
theorem l1Digit_any (c : Nat) (w : World) : Calls Tryz.prog 146 #[.int .u8 (c : Int)] w fun e w' => e = .returned (.int .i64 (posI c)) ∧ w = w' := by
  have hle := Xf.pos_le c
  go_enter Tryz.func146, Tryz.ntmps146
  go_wp2
  go_loop [3] (fun i => ∃ k : Nat, k ≤ 64 ∧ k ≤ Xf.pos c ∧ i = .int .i64 k) (fun i => 64 - (intOf i).toNat)
  case atStart => exact ⟨0, by omega, by omega, rfl⟩
  case round =>
    obtain ⟨k, hk, hku, rfl⟩ := hrel
    by_cases hk64 : k < 64
    · have hiff := Xf.dig_eq_iff hk64 hku
      have hi : (k : Int) < 64 := by omega
      by_cases he : k = Xf.pos c
      · have e1 : (((Xf.dig k : Nat) : Int) == (c : Int)) = true := by rw [hiff.2 he]; simp
        have H : Hid (posI c = (k : Int)) := by
          show _ = _
          rw [posI_in (by omega), he]
        clear hiff he hku hle
        go_wp2_with fail
        refine (l1Base_int _ k _ rfl hk64).mono ?_
        rintro e w1 ⟨rfl, rfl⟩
        go_wp2
        go_ret
        exact ⟨by rw [H.out]; rfl, rfl⟩
      · have hne : Xf.dig k ≠ c := fun h => he (hiff.1 h)
        have e1 : (((Xf.dig k : Nat) : Int) == (c : Int)) = false := beq_eq_false_iff_ne.2 (by omega)
        have hlt : Hid (k + 1 ≤ Xf.pos c) := by show _ ≤ _; omega
        clear hiff he hku hle hne
        go_wp2_with fail
        refine (l1Base_int _ k _ rfl hk64).mono ?_
        rintro e w1 ⟨rfl, rfl⟩
        go_wp2
        go_round
        case rel => exact ⟨k + 1, by omega, hlt.out, by go_num⟩
        case measure => simp [intOf]; omega
    · have hu : ¬ Xf.pos c < 64 := by omega
      have hi : ¬ (k : Int) < 64 := by omega
      have H : Hid (posI c = -1) := posI_out hu
      clear hu hku hle
      go_wp2
      go_ret
      exact ⟨by rw [H.out]; rfl, rfl⟩

/-- How many letters the model takes as told, step by step. -/
theorem cntS_spec (last : Bool) (x0 x1 x2 x3 : Nat) : 2 ≤ Xf.cntS last x2 x3 ∧ Xf.cntS last x2 x3 ≤ 4 ∧
    (∀ m, Xf.cntS last x2 x3 < m → m ≤ 4 → last = true ∧ nth [x0, x1, x2, x3] (m - 1) = 61) ∧
    (2 < Xf.cntS last x2 x3 → last = true → nth [x0, x1, x2, x3] (Xf.cntS last x2 x3 - 1) ≠ 61) := by
  unfold Xf.cntS
  cases last
  · simp
  · by_cases h3 : x3 = 61
    · by_cases h2 : x2 = 61
      · simp only [h3, h2, and_self, if_true]
        refine ⟨by omega, by omega, fun m h1 h4 => ⟨trivial, ?_⟩, by omega⟩
        rcases (show m = 3 ∨ m = 4 by omega) with rfl | rfl <;> rfl
      · simp only [h3, h2, and_self, if_true, if_false]
        refine ⟨by omega, by omega, fun m h1 h4 => ⟨trivial, ?_⟩, fun _ _ => by simpa [nth] using h2⟩
        obtain rfl : m = 4 := by omega
        rfl
    · simp only [h3, and_false, if_false]
      exact ⟨by omega, by omega, fun m h1 h4 => by omega, fun _ _ => by simpa [nth] using h3⟩

theorem str_injB {a b : List Nat} (ha : IsB a) (hb : IsB b) (h : str a = str b) : a = b := by
  have h1 : a.length = b.length := by rw [← str_size a, ← str_size b, h]
  apply List.ext_getElem h1
  intro i ha' hb'
  have e1 := str_get ha (i := i) (by rw [str_size]; exact ha')
  have e2 := str_get hb (i := i) (by rw [str_size]; exact hb')
  rw [← nth_get ha', ← nth_get hb', ← e1, ← e2]
  simp only [h]

theorem raw_group {t : List Nat} {x0 x1 x2 x3 : Nat} {r : List Nat} (ht : t = x0 :: x1 :: x2 :: x3 :: r) : Xf.raw t =
    if Xf.good (Xf.cntS r.isEmpty x2 x3) x0 x1 x2 x3 = false then none
    else (Xf.raw r).map (Xf.three (Xf.bitsOf (Xf.cntS r.isEmpty x2 x3) x0 x1 x2 x3) (Xf.cntS r.isEmpty x2 x3 - 1) ++ ·) := by subst ht; rfl
theorem three_isB {v m : Nat} (h : v < 16777216) : IsB (Xf.three v m) := by
  intro b hb
  have := List.mem_of_mem_take hb
  simp only [List.mem_cons, List.not_mem_nil, or_false] at this
  omega

/-- How l1Decode ends: a plain word, so that no walk opens it. -/
def BasEnd (t : List Nat) (w : World) (e : Ending) (w' : World) : Prop := ∃ v ok l, e = .returned (.tuple #[v, .bool ok]) ∧ Own w' w.heap.size v l ∧ Below w.heap.size w w' ∧ ((ok = true ∧ Xf.dec t = some l) ∨ (ok = false ∧ Xf.dec t = none))
theorem decEnd_no {t l : List Nat} {w w' : World} {v : Value} (ho : Own w' w.heap.size v l) (hb : Below w.heap.size w w') (h : Xf.dec t = none) : BasEnd t w (.returned (.tuple #[v, .bool false])) w' := ⟨_, _, l, rfl, ho, hb, .inr ⟨rfl, h⟩⟩
theorem decEnd_yes {t l : List Nat} {w w' : World} {v : Value} (ho : Own w' w.heap.size v l) (hb : Below w.heap.size w w') (h : Xf.dec t = some l) : BasEnd t w (.returned (.tuple #[v, .bool true])) w' := ⟨_, _, l, rfl, ho, hb, .inl ⟨rfl, h⟩⟩
theorem dec_of_raw_none {t : List Nat} (h : Xf.raw t = none) : Xf.dec t = none := by
  have := Xf.raw_dec t (fun b hb => by rw [h] at hb; cases hb)
  rw [h] at this
  exact this.symm
theorem dec_of_raw {t l : List Nat} (h : Xf.raw t = some l) (hB : IsB l) : Xf.dec t = if Xf.enc l = t then some l else none := by
  have := Xf.raw_dec t (fun b hb => by rw [h] at hb; cases hb; exact hB)
  rw [h] at this
  exact this.symm
end Go.Proofs.YtooifkdbpghcfaaGreatDoor
