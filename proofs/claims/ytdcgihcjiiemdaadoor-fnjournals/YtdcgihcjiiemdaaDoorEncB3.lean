/- The model's EncodeBase: of at most 400 bytes it answers their base text, of more the code 2; and so does the program's of more. -/
import Derived.Test.YtdcgihcjiiemdaaDoorMathToEncB2
namespace Go.Proofs.YtdcgihcjiiemdaaDoor
open Go.RowKit
theorem l1Base_int (i : Int) (k : Nat) (w : World) (hi : i = (k : Int)) (h : k < 64) : Calls Tryd.prog 77 #[.int .i64 i] w fun e w' => e = .returned (.int .u8 (Xf.dig k : Int)) ∧ w = w' := by
 subst hi
 exact (l1Base_any k h w).mono fun _ _ ⟨h1, h2⟩ => ⟨h1, h2.symm⟩
theorem four_step {l : List Nat} {i : Nat} (hB : IsB l) (h : i + 3 ≤ l.length) (v : Nat) (hv : v = nth l i * 65536 + nth l (i + 1) * 256 + nth l (i + 2)) :
  Xf.enc (l.drop i) = [Xf.dig (v / 262144), Xf.dig (v / 4096 % 64), Xf.dig (v / 64 % 64), Xf.dig (v % 64)] ++ Xf.enc (l.drop (i + 3)) := by
 have h0 := nth_lt hB i
 have h1 := nth_lt hB (i + 1)
 have h2 := nth_lt hB (i + 2)
 rw [enc_step hB h, dgs_four _ (by omega), hv]
theorem four_two {l : List Nat} {i : Nat} (hB : IsB l) (h : i + 2 = l.length) (v : Nat) (hv : v = nth l i * 65536 + nth l (i + 1) * 256) :
  Xf.enc (l.drop i) = [Xf.dig (v / 262144), Xf.dig (v / 4096 % 64), Xf.dig (v / 64 % 64), 61] ++ Xf.enc (l.drop (i + 3)) := by
 have h0 := nth_lt hB i
 have h1 := nth_lt hB (i + 1)
 rw [enc_two hB h, dgs_three _ (by omega), hv, List.drop_of_length_le (by omega), Xf.enc]
 rfl
theorem four_one {l : List Nat} {i : Nat} (hB : IsB l) (h : i + 1 = l.length) (v : Nat) (hv : v = nth l i * 65536) :
  Xf.enc (l.drop i) = [Xf.dig (v / 262144), Xf.dig (v / 4096 % 64), 61, 61] ++ Xf.enc (l.drop (i + 3)) := by
 have h0 := nth_lt hB i
 rw [enc_one hB h, dgs_two _ (by omega), hv, List.drop_of_length_le (by omega), Xf.enc]
 rfl
set_option maxHeartbeats 3200000 in
set_option maxRecDepth 100000 in
theorem l1Encode_any (a : Option Addr) (n cap : Nat) (l : List Nat) (w : World) (hl : l.length = n) (hr : Rd w a l) (hB : IsB l) (hn : n ≤ 1048576) :
  Calls Tryd.prog 67 #[.slice a n cap] w fun e w' => e = .returned (.string (str (Xf.enc l))) ∧ Below w.heap.size w w' := by
 go_enter Tryd.func67, Tryd.ntmps67
 go_wp2
 have hown0 : Own (w.alloc (.cells #[] 5)) w.heap.size (.slice (some ⟨w.heap.size, 0, none⟩) 0 0) [] := Own.lit w _ (Nat.le_refl _) #[] [] rfl (by decide)
 have hbel0 : Below w.heap.size w (w.alloc (.cells #[] 5)) := (Below.refl _ _).alloc (Nat.le_refl _) _
 go_loopw [3, 4] (fun v i wr => ∃ (k : Nat) (out : List Nat), 3 * k ≤ n + 2 ∧ i = .int .i64 (3 * k : Nat) ∧ Own wr w.heap.size v out ∧ Below w.heap.size w wr ∧ Hid (Xf.enc l = out ++ Xf.enc (l.drop (3 * k))) ∧ out.length ≤ 4 * k)
  (fun _ i _ => n + 3 - (intOf i).toNat)
 case atStart => exact ⟨0, [], by omega, rfl, hown0, hbel0, rfl, Nat.le_refl _⟩
 case round =>
  obtain ⟨k, out, hk, rfl, hown, hbel, hq, hol⟩ := hrel
  clear hown0 hbel0
  have hz := hbel.size
  have hol2 : out.length ≤ 2000000 := by omega
  obtain ⟨i, hi⟩ : ∃ i, 3 * k = i := ⟨_, rfl⟩
  rw [hi] at hq hk ⊢
  by_cases hkn : i < n
  ·obtain ⟨b, off, rfl, hblt, hcell⟩ := hr.at_ (by omega)
   have cc : ∀ j, j < n → wr.cell? ⟨b, off + j, none⟩ = some (.int .u8 (nth l j : Int)) := fun j hj => (hbel.cell (p := ⟨b, off + j, none⟩) hblt).trans (hcell j (by omega))
   have c0 := cc i hkn
   have x0 := nth_lt hB i
   have x1 := nth_lt hB (i + 1)
   have x2 := nth_lt hB (i + 2)
   clear hcell hr
   rcases (show i + 3 ≤ n ∨ i + 2 = n ∨ i + 1 = n by omega) with h3 | h2 | h1
   ·have c1 := cc (i + 1) (by omega)
    have c2 := cc (i + 2) (by omega)
    have hq' := four_step (i := i) hB (by omega) _ rfl
    generalize nth l i = x at *
    generalize nth l (i + 1) = y at *
    generalize nth l (i + 2) = z at *
    obtain ⟨v, hv⟩ : ∃ v, v = x * 65536 + y * 256 + z := ⟨_, rfl⟩
    rw [← hv] at hq'
    obtain ⟨d0, hd0⟩ : ∃ d, d = v / 262144 := ⟨_, rfl⟩
    obtain ⟨d1, hd1⟩ : ∃ d, d = v / 4096 % 64 := ⟨_, rfl⟩
    obtain ⟨d2, hd2⟩ : ∃ d, d = v / 64 % 64 := ⟨_, rfl⟩
    obtain ⟨d3, hd3⟩ : ∃ d, d = v % 64 := ⟨_, rfl⟩
    rw [← hd0, ← hd1, ← hd2, ← hd3] at hq'
    have HQ : Hid (Xf.enc l = (out ++ [Xf.dig d0, Xf.dig d1, Xf.dig d2, Xf.dig d3]) ++ Xf.enc (l.drop (3 * (k + 1)))) := by
     show _ = _
     rw [hq.out, hq', show 3 * (k + 1) = i + 3 by omega]; simp
    have n1 : (i : Int) + 1 < (n : Int) := by omega
    have n2 : (i : Int) + 2 < (n : Int) := by omega
    have n3 : ¬ (n : Int) ≤ (i : Int) + 2 := by omega
    have n4 : ¬ (n : Int) ≤ (i : Int) + 1 := by omega
    clear hq hq' cc
    have Hv : Hid (v = x * 65536 + y * 256 + z) := hv
    have H0 : Hid (d0 = v / 262144) := hd0
    have H1 : Hid (d1 = v / 4096 % 64) := hd1
    have H2 : Hid (d2 = v / 64 % 64) := hd2
    have H3 : Hid (d3 = v % 64) := hd3
    have HI : Hid (3 * k = i) := hi
    clear hv hd0 hd1 hd2 hd3 hi
    go_wp2_with fail
    refine (l1Base_int _ d0 _ (by have h1 := Hv.out; have h2 := H0.out; omega) (by have h1 := Hv.out; have h2 := H0.out; omega)).mono ?_
    rintro e w1 ⟨rfl, rfl⟩
    go_wp2_with fail
    refine (l1Base_int _ d1 _ (by have h1 := Hv.out; have h2 := H1.out; omega) (by have h1 := Hv.out; have h2 := H1.out; omega)).mono ?_
    rintro e w2 ⟨rfl, rfl⟩
    go_wp2_with fail
    refine (l1Base_int _ d2 _ (by have h1 := Hv.out; have h2 := H2.out; omega) (by have h1 := Hv.out; have h2 := H2.out; omega)).mono ?_
    rintro e w3 ⟨rfl, rfl⟩
    go_wp2_with fail
    refine (l1Base_int _ d3 _ (by have h1 := Hv.out; have h2 := H3.out; omega) (by have h1 := Hv.out; have h2 := H3.out; omega)).mono ?_
    rintro e w4 ⟨rfl, rfl⟩
    go_wp2_with (at_builtin; refine wpList_app_new rfl _ _ rfl w.heap.size _ out rfl hown 4 4 [Xf.dig d0, Xf.dig d1, Xf.dig d2, Xf.dig d3] rfl rfl rfl (by omega) hz ?_; intro v' w5 hown' hb')
    go_wp2
    go_roundw
    case rel => exact ⟨k + 1, out ++ [Xf.dig d0, Xf.dig d1, Xf.dig d2, Xf.dig d3], by have := HI.out; omega, by have := HI.out; go_num, hown', hbel.trans hb', HQ, by simp; omega⟩
    case measure => have := HI.out; simp [intOf]; omega
   ·have c1 := cc (i + 1) (by omega)
    have hq' := four_two (i := i) hB (by omega) _ rfl
    generalize nth l i = x at *
    generalize nth l (i + 1) = y at *
    obtain ⟨v, hv⟩ : ∃ v, v = x * 65536 + y * 256 := ⟨_, rfl⟩
    rw [← hv] at hq'
    obtain ⟨d0, hd0⟩ : ∃ d, d = v / 262144 := ⟨_, rfl⟩
    obtain ⟨d1, hd1⟩ : ∃ d, d = v / 4096 % 64 := ⟨_, rfl⟩
    obtain ⟨d2, hd2⟩ : ∃ d, d = v / 64 % 64 := ⟨_, rfl⟩
    obtain ⟨d3, hd3⟩ : ∃ d, d = v % 64 := ⟨_, rfl⟩
    rw [← hd0, ← hd1, ← hd2] at hq'
    have HQ : Hid (Xf.enc l = (out ++ [Xf.dig d0, Xf.dig d1, Xf.dig d2, 61]) ++ Xf.enc (l.drop (3 * (k + 1)))) := by
     show _ = _
     rw [hq.out, hq', show 3 * (k + 1) = i + 3 by omega]; simp
    have n1 : (i : Int) + 1 < (n : Int) := by omega
    have n2 : ¬ (i : Int) + 2 < (n : Int) := by omega
    have n3 : (n : Int) ≤ (i : Int) + 2 := by omega
    have n4 : ¬ (n : Int) ≤ (i : Int) + 1 := by omega
    have h2' : n ≤ i + 2 := by omega
    have h2'' : i + 2 ≤ n := by omega
    clear hq hq' cc h2
    have Hv : Hid (v = x * 65536 + y * 256) := hv
    have H0 : Hid (d0 = v / 262144) := hd0
    have H1 : Hid (d1 = v / 4096 % 64) := hd1
    have H2 : Hid (d2 = v / 64 % 64) := hd2
    have H3 : Hid (d3 = v % 64) := hd3
    have HI : Hid (3 * k = i) := hi
    clear hv hd0 hd1 hd2 hd3 hi
    go_wp2_with fail
    refine (l1Base_int _ d0 _ (by have h1 := Hv.out; have h2 := H0.out; omega) (by have h1 := Hv.out; have h2 := H0.out; omega)).mono ?_
    rintro e w1 ⟨rfl, rfl⟩
    go_wp2_with fail
    refine (l1Base_int _ d1 _ (by have h1 := Hv.out; have h2 := H1.out; omega) (by have h1 := Hv.out; have h2 := H1.out; omega)).mono ?_
    rintro e w2 ⟨rfl, rfl⟩
    go_wp2_with fail
    refine (l1Base_int _ d2 _ (by have h1 := Hv.out; have h2 := H2.out; omega) (by have h1 := Hv.out; have h2 := H2.out; omega)).mono ?_
    rintro e w3 ⟨rfl, rfl⟩
    go_wp2_with fail
    refine (l1Base_int _ d3 _ (by have h1 := Hv.out; have h2 := H3.out; omega) (by have h1 := Hv.out; have h2 := H3.out; omega)).mono ?_
    rintro e w4 ⟨rfl, rfl⟩
    go_wp2_with (at_builtin; refine wpList_app_new rfl _ _ rfl w.heap.size _ out rfl hown 4 4 [Xf.dig d0, Xf.dig d1, Xf.dig d2, 61] rfl rfl rfl (by omega) hz ?_; intro v' w5 hown' hb')
    go_wp2
    go_roundw
    case rel => exact ⟨k + 1, out ++ [Xf.dig d0, Xf.dig d1, Xf.dig d2, 61], by have := HI.out; omega, by have := HI.out; go_num, hown', hbel.trans hb', HQ, by simp; omega⟩
    case measure => have := HI.out; simp [intOf]; omega
   ·have hq' := four_one (i := i) hB (by omega) _ rfl
    generalize nth l i = x at *
    obtain ⟨v, hv⟩ : ∃ v, v = x * 65536 := ⟨_, rfl⟩
    rw [← hv] at hq'
    obtain ⟨d0, hd0⟩ : ∃ d, d = v / 262144 := ⟨_, rfl⟩
    obtain ⟨d1, hd1⟩ : ∃ d, d = v / 4096 % 64 := ⟨_, rfl⟩
    obtain ⟨d2, hd2⟩ : ∃ d, d = v / 64 % 64 := ⟨_, rfl⟩
    obtain ⟨d3, hd3⟩ : ∃ d, d = v % 64 := ⟨_, rfl⟩
    rw [← hd0, ← hd1] at hq'
    have HQ : Hid (Xf.enc l = (out ++ [Xf.dig d0, Xf.dig d1, 61, 61]) ++ Xf.enc (l.drop (3 * (k + 1)))) := by
     show _ = _
     rw [hq.out, hq', show 3 * (k + 1) = i + 3 by omega]; simp
    have n1 : ¬ (i : Int) + 1 < (n : Int) := by omega
    have n2 : ¬ (i : Int) + 2 < (n : Int) := by omega
    have n3 : (n : Int) ≤ (i : Int) + 2 := by omega
    have n4 : (n : Int) ≤ (i : Int) + 1 := by omega
    have h1' : n ≤ i + 1 := by omega
    clear hq hq' cc h1
    have Hv : Hid (v = x * 65536) := hv
    have H0 : Hid (d0 = v / 262144) := hd0
    have H1 : Hid (d1 = v / 4096 % 64) := hd1
    have H2 : Hid (d2 = v / 64 % 64) := hd2
    have H3 : Hid (d3 = v % 64) := hd3
    have HI : Hid (3 * k = i) := hi
    clear hv hd0 hd1 hd2 hd3 hi
    go_wp2_with fail
    refine (l1Base_int _ d0 _ (by have h1 := Hv.out; have h2 := H0.out; omega) (by have h1 := Hv.out; have h2 := H0.out; omega)).mono ?_
    rintro e w1 ⟨rfl, rfl⟩
    go_wp2_with fail
    refine (l1Base_int _ d1 _ (by have h1 := Hv.out; have h2 := H1.out; omega) (by have h1 := Hv.out; have h2 := H1.out; omega)).mono ?_
    rintro e w2 ⟨rfl, rfl⟩
    go_wp2_with fail
    refine (l1Base_int _ d2 _ (by have h1 := Hv.out; have h2 := H2.out; omega) (by have h1 := Hv.out; have h2 := H2.out; omega)).mono ?_
    rintro e w3 ⟨rfl, rfl⟩
    go_wp2_with fail
    refine (l1Base_int _ d3 _ (by have h1 := Hv.out; have h2 := H3.out; omega) (by have h1 := Hv.out; have h2 := H3.out; omega)).mono ?_
    rintro e w4 ⟨rfl, rfl⟩
    go_wp2_with (at_builtin; refine wpList_app_new rfl _ _ rfl w.heap.size _ out rfl hown 4 4 [Xf.dig d0, Xf.dig d1, 61, 61] rfl rfl rfl (by omega) hz ?_; intro v' w5 hown' hb')
    go_wp2
    go_roundw
    case rel => exact ⟨k + 1, out ++ [Xf.dig d0, Xf.dig d1, 61, 61], by have := HI.out; omega, by have := HI.out; go_num, hown', hbel.trans hb', HQ, by simp; omega⟩
    case measure => have := HI.out; simp [intOf]; omega
  ·have hq' : Hid (Xf.enc l = out) := by
    show _ = _
    rw [hq.out, List.drop_of_length_le (by omega)]; simp [Xf.enc]
   obtain ⟨ao, ocap, rfl, hoc⟩ := hown.form
   have hconv := fun c => run_str (cap := c) rfl (Own.rd hown).2
   clear hi
   go_wp2
   go_ret
   exact ⟨by rw [hq'.out]; rfl, hbel⟩
end Go.Proofs.YtdcgihcjiiemdaaDoor
