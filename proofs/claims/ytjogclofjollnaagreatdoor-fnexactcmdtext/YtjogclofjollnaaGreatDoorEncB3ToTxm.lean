/- The model's EncodeBase: of at most 400 bytes it answers their base text, of more the code 2; and so does the program's of more · The text of a command in plain words; no program in it · The text of a term, the model's: kind by kind; no conditions beyond those that each fact names. -/
import Derived.Test.YtjogclofjollnaaGreatDoorMathToEncB2
import Derived.Test.YtjogclofjollnaaGreatDoorYftToCfv
import Derived.Test.YtjogclofjollnaaGreatDoorTphToTxy
import Derived.Test.YtjogclofjollnaaGreatDoorYte
import Derived.Test.YtjogclofjollnaaGreatDoorEncT2ToTxw
import Derived.Test.YtjogclofjollnaaGreatDoorYtv
import Derived.Test.YtjogclofjollnaaGreatDoorTkwToIto
import Derived.Test.YtjogclofjollnaaGreatDoorTfdToSmo
namespace Go.Proofs.YtjogclofjollnaaGreatDoor
open Go.RowKit
theorem l1Base_int (i : Int) (k : Nat) (w : World) (hi : i = (k : Int)) (h : k < 64) : Calls Tryz.prog 88 #[.int .i64 i] w fun e w' => e = .returned (.int .u8 (Xf.dig k : Int)) ∧ w = w' := by
 subst hi
 exact (l1Base_any k h w).mono fun _ _ ⟨h1, h2⟩ => ⟨h1, h2.symm⟩
theorem four_step {l : List Nat} {i : Nat} (hB : IsB l) (h : i + 3 ≤ l.length) (v : Nat) (hv : v = nth l i * 65536 + nth l (i + 1) * 256 + nth l (i + 2)) :
  Xf.enc (l.drop i) = [Xf.dig (v / 262144), Xf.dig (v / 4096 % 64), Xf.dig (v / 64 % 64), Xf.dig (v % 64)] ++ Xf.enc (l.drop (i + 3)) := by
 have h0 := nth_lt hB i
 have h1 := nth_lt hB (i + 1)
 have h2 := nth_lt hB (i + 2)
 rw [enc_step hB h, dgs_four _ (by omega), hv]
theorem four_two {l : List Nat} {i : Nat} (hB : IsB l) (h : i + 2 = l.length) (v : Nat) (hv : v = nth l i * 65536 + nth l (i + 1) * 256) :
  Xf.enc (l.drop i) = [Xf.dig (v / 262144), Xf.dig (v / 4096 % 64), Xf.dig (v / 64 % 64), 61] ++ Xf.enc (l.drop (i + 3)) := by
 have h0 := nth_lt hB i
 have h1 := nth_lt hB (i + 1)
 rw [enc_two hB h, dgs_three _ (by omega), hv, List.drop_of_length_le (by omega), Xf.enc]
 rfl
theorem four_one {l : List Nat} {i : Nat} (hB : IsB l) (h : i + 1 = l.length) (v : Nat) (hv : v = nth l i * 65536) :
  Xf.enc (l.drop i) = [Xf.dig (v / 262144), Xf.dig (v / 4096 % 64), 61, 61] ++ Xf.enc (l.drop (i + 3)) := by
 have h0 := nth_lt hB i
 rw [enc_one hB h, dgs_two _ (by omega), hv, List.drop_of_length_le (by omega), Xf.enc]
 rfl
set_option maxHeartbeats 3200000 in
set_option maxRecDepth 100000 in
theorem l1Encode_any (a : Option Addr) (n cap : Nat) (l : List Nat) (w : World) (hl : l.length = n) (hr : Rd w a l) (hB : IsB l) (hn : n ≤ 1048576) :
  Calls Tryz.prog 56 #[.slice a n cap] w fun e w' => e = .returned (.string (str (Xf.enc l))) ∧ Below w.heap.size w w' := by
 go_enter Tryz.func56, Tryz.ntmps56
 go_wp2
 have hown0 : Own (w.alloc (.cells #[] 5)) w.heap.size (.slice (some ⟨w.heap.size, 0, none⟩) 0 0) [] := Own.lit w _ (Nat.le_refl _) #[] [] rfl (by decide)
 have hbel0 : Below w.heap.size w (w.alloc (.cells #[] 5)) := (Below.refl _ _).alloc (Nat.le_refl _) _
 go_loopw [3, 4] (fun v i wr => ∃ (k : Nat) (out : List Nat), 3 * k ≤ n + 2 ∧ i = .int .i64 (3 * k : Nat) ∧ Own wr w.heap.size v out ∧ Below w.heap.size w wr ∧ Hid (Xf.enc l = out ++ Xf.enc (l.drop (3 * k))) ∧ out.length ≤ 4 * k)
  (fun _ i _ => n + 3 - (intOf i).toNat)
 case atStart => exact ⟨0, [], by omega, rfl, hown0, hbel0, rfl, Nat.le_refl _⟩
 case round =>
  obtain ⟨k, out, hk, rfl, hown, hbel, hq, hol⟩ := hrel
  clear hown0 hbel0
  have hz := hbel.size
  have hol2 : out.length ≤ 2000000 := by omega
  obtain ⟨i, hi⟩ : ∃ i, 3 * k = i := ⟨_, rfl⟩
  rw [hi] at hq hk ⊢
  by_cases hkn : i < n
  ·obtain ⟨b, off, rfl, hblt, hcell⟩ := hr.at_ (by omega)
   have cc : ∀ j, j < n → wr.cell? ⟨b, off + j, none⟩ = some (.int .u8 (nth l j : Int)) := fun j hj => (hbel.cell (p := ⟨b, off + j, none⟩) hblt).trans (hcell j (by omega))
   have c0 := cc i hkn
   have x0 := nth_lt hB i
   have x1 := nth_lt hB (i + 1)
   have x2 := nth_lt hB (i + 2)
   clear hcell hr
   rcases (show i + 3 ≤ n ∨ i + 2 = n ∨ i + 1 = n by omega) with h3 | h2 | h1
   ·have c1 := cc (i + 1) (by omega)
    have c2 := cc (i + 2) (by omega)
    have hq' := four_step (i := i) hB (by omega) _ rfl
    generalize nth l i = x at *
    generalize nth l (i + 1) = y at *
    generalize nth l (i + 2) = z at *
    obtain ⟨v, hv⟩ : ∃ v, v = x * 65536 + y * 256 + z := ⟨_, rfl⟩
    rw [← hv] at hq'
    obtain ⟨d0, hd0⟩ : ∃ d, d = v / 262144 := ⟨_, rfl⟩
    obtain ⟨d1, hd1⟩ : ∃ d, d = v / 4096 % 64 := ⟨_, rfl⟩
    obtain ⟨d2, hd2⟩ : ∃ d, d = v / 64 % 64 := ⟨_, rfl⟩
    obtain ⟨d3, hd3⟩ : ∃ d, d = v % 64 := ⟨_, rfl⟩
    rw [← hd0, ← hd1, ← hd2, ← hd3] at hq'
    have HQ : Hid (Xf.enc l = (out ++ [Xf.dig d0, Xf.dig d1, Xf.dig d2, Xf.dig d3]) ++ Xf.enc (l.drop (3 * (k + 1)))) := by
     show _ = _
     rw [hq.out, hq', show 3 * (k + 1) = i + 3 by omega]; simp
    have n1 : (i : Int) + 1 < (n : Int) := by omega
    have n2 : (i : Int) + 2 < (n : Int) := by omega
    have n3 : ¬ (n : Int) ≤ (i : Int) + 2 := by omega
    have n4 : ¬ (n : Int) ≤ (i : Int) + 1 := by omega
    clear hq hq' cc
    have Hv : Hid (v = x * 65536 + y * 256 + z) := hv
    have H0 : Hid (d0 = v / 262144) := hd0
    have H1 : Hid (d1 = v / 4096 % 64) := hd1
    have H2 : Hid (d2 = v / 64 % 64) := hd2
    have H3 : Hid (d3 = v % 64) := hd3
    have HI : Hid (3 * k = i) := hi
    clear hv hd0 hd1 hd2 hd3 hi
    go_wp2_with fail
    refine (l1Base_int _ d0 _ (by have h1 := Hv.out; have h2 := H0.out; omega) (by have h1 := Hv.out; have h2 := H0.out; omega)).mono ?_
    rintro e w1 ⟨rfl, rfl⟩
    go_wp2_with fail
    refine (l1Base_int _ d1 _ (by have h1 := Hv.out; have h2 := H1.out; omega) (by have h1 := Hv.out; have h2 := H1.out; omega)).mono ?_
    rintro e w2 ⟨rfl, rfl⟩
    go_wp2_with fail
    refine (l1Base_int _ d2 _ (by have h1 := Hv.out; have h2 := H2.out; omega) (by have h1 := Hv.out; have h2 := H2.out; omega)).mono ?_
    rintro e w3 ⟨rfl, rfl⟩
    go_wp2_with fail
    refine (l1Base_int _ d3 _ (by have h1 := Hv.out; have h2 := H3.out; omega) (by have h1 := Hv.out; have h2 := H3.out; omega)).mono ?_
    rintro e w4 ⟨rfl, rfl⟩
    go_wp2_with (at_builtin; refine wpList_app_new rfl _ _ rfl w.heap.size _ out rfl hown 4 4 [Xf.dig d0, Xf.dig d1, Xf.dig d2, Xf.dig d3] rfl rfl rfl (by omega) hz ?_; intro v' w5 hown' hb')
    go_wp2
    go_roundw
    case rel => exact ⟨k + 1, out ++ [Xf.dig d0, Xf.dig d1, Xf.dig d2, Xf.dig d3], by have := HI.out; omega, by have := HI.out; go_num, hown', hbel.trans hb', HQ, by simp; omega⟩
    case measure => have := HI.out; simp [intOf]; omega
   ·have c1 := cc (i + 1) (by omega)
    have hq' := four_two (i := i) hB (by omega) _ rfl
    generalize nth l i = x at *
    generalize nth l (i + 1) = y at *
    obtain ⟨v, hv⟩ : ∃ v, v = x * 65536 + y * 256 := ⟨_, rfl⟩
    rw [← hv] at hq'
    obtain ⟨d0, hd0⟩ : ∃ d, d = v / 262144 := ⟨_, rfl⟩
    obtain ⟨d1, hd1⟩ : ∃ d, d = v / 4096 % 64 := ⟨_, rfl⟩
    obtain ⟨d2, hd2⟩ : ∃ d, d = v / 64 % 64 := ⟨_, rfl⟩
    obtain ⟨d3, hd3⟩ : ∃ d, d = v % 64 := ⟨_, rfl⟩
    rw [← hd0, ← hd1, ← hd2] at hq'
    have HQ : Hid (Xf.enc l = (out ++ [Xf.dig d0, Xf.dig d1, Xf.dig d2, 61]) ++ Xf.enc (l.drop (3 * (k + 1)))) := by
     show _ = _
     rw [hq.out, hq', show 3 * (k + 1) = i + 3 by omega]; simp
    have n1 : (i : Int) + 1 < (n : Int) := by omega
    have n2 : ¬ (i : Int) + 2 < (n : Int) := by omega
    have n3 : (n : Int) ≤ (i : Int) + 2 := by omega
    have n4 : ¬ (n : Int) ≤ (i : Int) + 1 := by omega
    have h2' : n ≤ i + 2 := by omega
    have h2'' : i + 2 ≤ n := by omega
    clear hq hq' cc h2
    have Hv : Hid (v = x * 65536 + y * 256) := hv
    have H0 : Hid (d0 = v / 262144) := hd0
    have H1 : Hid (d1 = v / 4096 % 64) := hd1
    have H2 : Hid (d2 = v / 64 % 64) := hd2
    have H3 : Hid (d3 = v % 64) := hd3
    have HI : Hid (3 * k = i) := hi
    clear hv hd0 hd1 hd2 hd3 hi
    go_wp2_with fail
    refine (l1Base_int _ d0 _ (by have h1 := Hv.out; have h2 := H0.out; omega) (by have h1 := Hv.out; have h2 := H0.out; omega)).mono ?_
    rintro e w1 ⟨rfl, rfl⟩
    go_wp2_with fail
    refine (l1Base_int _ d1 _ (by have h1 := Hv.out; have h2 := H1.out; omega) (by have h1 := Hv.out; have h2 := H1.out; omega)).mono ?_
    rintro e w2 ⟨rfl, rfl⟩
    go_wp2_with fail
    refine (l1Base_int _ d2 _ (by have h1 := Hv.out; have h2 := H2.out; omega) (by have h1 := Hv.out; have h2 := H2.out; omega)).mono ?_
    rintro e w3 ⟨rfl, rfl⟩
    go_wp2_with fail
    refine (l1Base_int _ d3 _ (by have h1 := Hv.out; have h2 := H3.out; omega) (by have h1 := Hv.out; have h2 := H3.out; omega)).mono ?_
    rintro e w4 ⟨rfl, rfl⟩
    go_wp2_with (at_builtin; refine wpList_app_new rfl _ _ rfl w.heap.size _ out rfl hown 4 4 [Xf.dig d0, Xf.dig d1, Xf.dig d2, 61] rfl rfl rfl (by omega) hz ?_; intro v' w5 hown' hb')
    go_wp2
    go_roundw
    case rel => exact ⟨k + 1, out ++ [Xf.dig d0, Xf.dig d1, Xf.dig d2, 61], by have := HI.out; omega, by have := HI.out; go_num, hown', hbel.trans hb', HQ, by simp; omega⟩
    case measure => have := HI.out; simp [intOf]; omega
   ·have hq' := four_one (i := i) hB (by omega) _ rfl
    generalize nth l i = x at *
    obtain ⟨v, hv⟩ : ∃ v, v = x * 65536 := ⟨_, rfl⟩
    rw [← hv] at hq'
    obtain ⟨d0, hd0⟩ : ∃ d, d = v / 262144 := ⟨_, rfl⟩
    obtain ⟨d1, hd1⟩ : ∃ d, d = v / 4096 % 64 := ⟨_, rfl⟩
    obtain ⟨d2, hd2⟩ : ∃ d, d = v / 64 % 64 := ⟨_, rfl⟩
    obtain ⟨d3, hd3⟩ : ∃ d, d = v % 64 := ⟨_, rfl⟩
    rw [← hd0, ← hd1] at hq'
    have HQ : Hid (Xf.enc l = (out ++ [Xf.dig d0, Xf.dig d1, 61, 61]) ++ Xf.enc (l.drop (3 * (k + 1)))) := by
     show _ = _
     rw [hq.out, hq', show 3 * (k + 1) = i + 3 by omega]; simp
    have n1 : ¬ (i : Int) + 1 < (n : Int) := by omega
    have n2 : ¬ (i : Int) + 2 < (n : Int) := by omega
    have n3 : (n : Int) ≤ (i : Int) + 2 := by omega
    have n4 : (n : Int) ≤ (i : Int) + 1 := by omega
    have h1' : n ≤ i + 1 := by omega
    clear hq hq' cc h1
    have Hv : Hid (v = x * 65536) := hv
    have H0 : Hid (d0 = v / 262144) := hd0
    have H1 : Hid (d1 = v / 4096 % 64) := hd1
    have H2 : Hid (d2 = v / 64 % 64) := hd2
    have H3 : Hid (d3 = v % 64) := hd3
    have HI : Hid (3 * k = i) := hi
    clear hv hd0 hd1 hd2 hd3 hi
    go_wp2_with fail
    refine (l1Base_int _ d0 _ (by have h1 := Hv.out; have h2 := H0.out; omega) (by have h1 := Hv.out; have h2 := H0.out; omega)).mono ?_
    rintro e w1 ⟨rfl, rfl⟩
    go_wp2_with fail
    refine (l1Base_int _ d1 _ (by have h1 := Hv.out; have h2 := H1.out; omega) (by have h1 := Hv.out; have h2 := H1.out; omega)).mono ?_
    rintro e w2 ⟨rfl, rfl⟩
    go_wp2_with fail
    refine (l1Base_int _ d2 _ (by have h1 := Hv.out; have h2 := H2.out; omega) (by have h1 := Hv.out; have h2 := H2.out; omega)).mono ?_
    rintro e w3 ⟨rfl, rfl⟩
    go_wp2_with fail
    refine (l1Base_int _ d3 _ (by have h1 := Hv.out; have h2 := H3.out; omega) (by have h1 := Hv.out; have h2 := H3.out; omega)).mono ?_
    rintro e w4 ⟨rfl, rfl⟩
    go_wp2_with (at_builtin; refine wpList_app_new rfl _ _ rfl w.heap.size _ out rfl hown 4 4 [Xf.dig d0, Xf.dig d1, 61, 61] rfl rfl rfl (by omega) hz ?_; intro v' w5 hown' hb')
    go_wp2
    go_roundw
    case rel => exact ⟨k + 1, out ++ [Xf.dig d0, Xf.dig d1, 61, 61], by have := HI.out; omega, by have := HI.out; go_num, hown', hbel.trans hb', HQ, by simp; omega⟩
    case measure => have := HI.out; simp [intOf]; omega
  ·have hq' : Hid (Xf.enc l = out) := by
    show _ = _
    rw [hq.out, List.drop_of_length_le (by omega)]; simp [Xf.enc]
   obtain ⟨ao, ocap, rfl, hoc⟩ := hown.form
   have hconv := fun c => run_str (cap := c) rfl (Own.rd hown).2
   clear hi
   go_wp2
   go_ret
   exact ⟨by rw [hq'.out]; rfl, hbel⟩
end Go.Proofs.YtjogclofjollnaaGreatDoor
namespace Go.Proofs.YtjogclofjollnaaGreatDoor
open Go.RowKit
set_option linter.unusedVariables false
def tlJ (s : Nat) (ws : List (List Nat)) : List Nat := (ws.map ([s] ++ ·)).flatten
def jnJ (s : Nat) : List (List Nat) → List Nat
 | [] => []
 | x :: r => x ++ tlJ s r
theorem jnJ_join (s : Nat) (ws : List (List Nat)) : Lib.join (ws.map fun x => (str x).data.toList) [UInt8.ofNat s] = (jnJ s ws).map UInt8.ofNat := by
 cases ws with
 | nil => rfl
 | cons x r =>
  rw [List.map_cons, Lib.join_cons, str_list]
  show _ = (x ++ tlJ s r).map UInt8.ofNat
  rw [List.map_append]
  congr 1
  unfold Lib.joinTail tlJ
  rw [List.map_map, List.map_flatten, List.map_map]
  congr 1
theorem jnJ_snoc (s : Nat) (xs : List (List Nat)) (y : List Nat) : jnJ s (xs ++ [y]) = if xs = [] then y else jnJ s xs ++ [s] ++ y := by
 cases xs with
 | nil => simp [jnJ, tlJ]
 | cons x r => simp [jnJ, tlJ]
theorem tlJ_cons (s : Nat) (x : List Nat) (r : List (List Nat)) : tlJ s (x :: r) = [s] ++ x ++ tlJ s r := by simp [tlJ]
theorem tlJ_nil (s : Nat) : tlJ s [] = [] := rfl
theorem str_txJ (s : ByteArray) : str (txB s) = s := by
 obtain ⟨t, rfl, hB⟩ := str_surj s
 rw [txB_str hB]
theorem txB_sizeJ (s : ByteArray) : (txB s).length = s.size := by
 rw [← str_size, str_txJ]
def cwZ : List (List Nat) := [[], [110, 111, 111, 112], [109, 97, 107, 101], [101, 114, 97, 115, 101], [115, 101, 108, 101, 99, 116], [99, 108, 111, 115, 101], [97, 100, 100], [102, 108, 97, 103], [99, 111, 112, 121], [109, 111, 118, 101], [112, 117, 114, 103, 101], [102, 101, 116, 99, 104], [115, 101, 97, 114, 99, 104], [115, 111, 114, 116], [99, 111, 109, 112, 97, 114, 101]]
def mwZ : List (List Nat) := [[], [115, 101, 116], [109, 111, 114, 101], [108, 101, 115, 115]]
def hwZ : List (List Nat) := [[], [102, 108, 97, 103, 115], [115, 105, 122, 101], [98, 111, 100, 121], [98, 121, 116, 101, 115], [116, 101, 120, 116], [112, 114, 101, 118, 105, 101, 119], [115, 117, 98, 106, 101, 99, 116]]
def ewZ : List (List Nat) := [[100, 97, 116, 101], [115, 105, 122, 101], [115, 117, 98, 106, 101, 99, 116], [97, 114, 114, 105, 118, 97, 108]]
def nwZ : List (List Nat) := [[105, 59, 111, 99, 116, 101, 116], [105, 59, 97, 115, 99, 105, 105, 45, 99, 97, 115, 101, 109, 97, 112], [105, 59, 117, 110, 105, 99, 111, 100, 101, 45, 99, 97, 115, 101, 109, 97, 112]]
def wdJ (z : List (List Nat)) (k : Nat) : List Nat := z.getD k []
theorem wdJ_len {z : List (List Nat)} (h : ∀ x ∈ z, x.length ≤ 20) (k : Nat) : (wdJ z k).length ≤ 20 := by
 unfold wdJ
 rw [List.getD_eq_getElem?_getD]
 rcases Nat.lt_or_ge k z.length with hk | hk
 ·rw [List.getElem?_eq_getElem hk]; exact h _ (List.getElem_mem hk)
 ·rw [List.getElem?_eq_none hk]; exact Nat.zero_le _
def d4J (n : Int) : List Nat := dgF 3 n.toNat
theorem d4J_len (n : Int) : (d4J n).length ≤ 4 := dgF_len 3 _
def ptJ (l : List Int) : List Nat := if l = [] then [48] else jnJ 46 (l.map d4J)
def tmJ (l : List TmR) : List Nat := txT l l.length (l.length - 1)
def wcJ (o : CmR) : List (List Nat) :=
 if o.k = 2 ∨ o.k = 3 ∨ o.k = 4 then [txB o.n]
 else if o.k = 6 then [txB o.n, d4J o.f, d4J o.d, Xf.enc o.b]
 else if o.k = 7 then [txY o.y, wdJ mwZ o.m.toNat, d4J o.f]
 else if o.k = 8 ∨ o.k = 9 then [txY o.y, txB o.n]
 else if o.k = 11 then (if ptK o.h then [txY o.y, wdJ hwZ o.h.toNat, ptJ o.p] else [txY o.y, wdJ hwZ o.h.toNat])
 else if o.k = 12 then [tmJ o.u]
 else if o.k = 13 then [wdJ ewZ (o.e.toNat - 1), (if o.r then [100, 111, 119, 110] else [117, 112]), tmJ o.u]
 else if o.k = 14 then [wdJ nwZ (o.c.toNat - 1)]
 else []
def ctJ (o : CmR) : List Nat := jnJ 32 (txB o.t :: wdJ cwZ o.k.toNat :: wcJ o)
def ctV (o : CmR) : Int × List Nat := if cfV o = 0 then (0, ctJ o) else (cfV o, [])
structure OkT (o : CmR) : Prop where
 t : o.t.size ≤ 4
 k : 1 ≤ o.k ∧ o.k ≤ 14
 n : nmK o.k = true → o.n.size ≤ 8
 y : rgK o.k = true → rfV o.y = 0
 b : nbC o = true
 u : tmK o.k = true → tmV o.u = 0
theorem okT {o : CmR} (h : cfV o = 0) : OkT o := by
 unfold cfV at h
 by_cases h1 : tgOk (txB o.t) = true
 ·rw [if_pos h1] at h
  by_cases h2 : fmC o = true
  ·rw [if_pos h2] at h
   by_cases h3 : (nmK o.k && !bnOk (txB o.n)) = true
   ·rw [if_pos h3] at h; exact absurd h (by decide)
   ·rw [if_neg h3] at h
    by_cases h4 : (rgK o.k && decide (rfV o.y ≠ 0)) = true
    ·rw [if_pos h4] at h
     rw [Bool.and_eq_true] at h4
     exact absurd h (of_decide_eq_true h4.2)
    ·rw [if_neg h4] at h
     by_cases h5 : nbC o = true
     ·rw [if_pos h5] at h
      refine ⟨?_, ?_, fun hk => ?_, fun hk => ?_, h5, fun hk => by rw [if_pos hk] at h; exact h⟩
      ·unfold tgOk at h1
       rw [Bool.and_eq_true] at h1
       have := (of_decide_eq_true h1.2).2
       rw [txB_sizeJ] at this
       exact this
      ·unfold fmC at h2
       simp only [Bool.and_eq_true] at h2
       exact of_decide_eq_true h2.1.1
      ·rw [hk, Bool.true_and, Bool.not_eq_true, Bool.not_eq_false'] at h3
       unfold bnOk at h3
       rw [Bool.and_eq_true] at h3
       have := (of_decide_eq_true h3.2).2
       rw [txB_sizeJ] at this
       exact this
      ·rw [hk, Bool.true_and, decide_eq_true_eq] at h4
       exact Classical.not_not.1 h4
     ·rw [if_neg h5] at h; exact absurd h (by decide)
  ·rw [if_neg h2] at h; exact absurd h (by decide)
 ·rw [if_neg h1] at h; exact absurd h (by decide)
end Go.Proofs.YtjogclofjollnaaGreatDoor
namespace Go.Proofs.YtjogclofjollnaaGreatDoor
open Go.RowKit
set_option linter.unusedVariables false
theorem sp_str (x : List Nat) : (⟨#[32]⟩ : ByteArray) ++ str x = str ([32] ++ x) := str_plusY [32] x
set_option maxHeartbeats 1600000 in
set_option maxRecDepth 100000 in
theorem l12Word_any (k : Int) (w : World) (h : 1 ≤ k ∧ k ≤ 11) : Calls Tryz.prog 90 #[.int .i64 k] w fun e w' => e = .returned (.string (str (twN k.toNat))) ∧ Below w.heap.size w w' := by
 have h' : k = 1 ∨ k = 2 ∨ k = 3 ∨ k = 4 ∨ k = 5 ∨ k = 6 ∨ k = 7 ∨ k = 8 ∨ k = 9 ∨ k = 10 ∨ k = 11 := by omega
 rcases h' with rfl | rfl | rfl | rfl | rfl | rfl | rfl | rfl | rfl | rfl | rfl
 all_goals
  go_enter Tryz.func90, Tryz.ntmps90
  go_wp2
  go_ret
  exact ⟨rfl, by go_grown⟩
set_option maxHeartbeats 1600000 in
set_option maxRecDepth 100000 in
theorem tail_1 (b off n cap i : Nat) (w : World) (hi : i < n)  (c0 : w.cell? ⟨b, off + i * 6, none⟩ = some (.int .i64 1)) :
  Calls Tryz.prog 91 #[.slice (some ⟨b, off, none⟩) n cap, .int .i64 (i : Int)] w fun e w' => e = .returned (.string (str ([]))) ∧ Below w.heap.size w w' := by
 have hki : (i : Int) < (n : Int) := by omega
 go_enter Tryz.func91, Tryz.ntmps91
 go_wp2
 go_ret
 exact ⟨rfl, Below.refl _ _⟩
set_option maxHeartbeats 1600000 in
set_option maxRecDepth 100000 in
theorem tail_2 (b off n cap i : Nat) (w : World) (hi : i < n) (j : Nat) (hj : j < 16) (c0 : w.cell? ⟨b, off + i * 6, none⟩ = some (.int .i64 2)) (c1 : w.cell? ⟨b, off + i * 6 + 1, none⟩ = some (.int .i64 (j : Int))) :
  Calls Tryz.prog 91 #[.slice (some ⟨b, off, none⟩) n cap, .int .i64 (i : Int)] w fun e w' => e = .returned (.string (str ([32] ++ fxL j))) ∧ Below w.heap.size w w' := by
 have hki : (i : Int) < (n : Int) := by omega
 have HC := l7Flags_any j w hj
 have HP := sp_str (fxL j)
 have hz : (str (fxL j)).size ≤ 10000000 := by rw [str_size]; exact Nat.le_trans (fxL_len hj) (by omega)
 have hz2 : ¬ 9223372036854775807 < 1 + (str (fxL j)).size := by omega
 generalize [32] ++ fxL j = r at *
 generalize str (fxL j) = x at *
 generalize str r = y at *
 go_enter Tryz.func91, Tryz.ntmps91
 go_wp2_with fail
 refine HC.mono ?_
 rintro e w1 ⟨rfl, hb1⟩
 clear HC
 go_wp2
 go_ret
 exact ⟨by rw [← HP]; rfl, hb1⟩
set_option maxHeartbeats 1600000 in
set_option maxRecDepth 100000 in
theorem tail_345 (b off n cap i : Nat) (w : World) (hi : i < n) (k : Int) (hk : k = 3 ∨ k = 4 ∨ k = 5) (j : Nat) (hj : j ≤ 9999) (c0 : w.cell? ⟨b, off + i * 6, none⟩ = some (.int .i64 k)) (c1 : w.cell? ⟨b, off + i * 6 + 1, none⟩ = some (.int .i64 (j : Int))) :
  Calls Tryz.prog 91 #[.slice (some ⟨b, off, none⟩) n cap, .int .i64 (i : Int)] w fun e w' => e = .returned (.string (str ([32] ++ dgF 3 j))) ∧ Below w.heap.size w w' := by
 have hki : (i : Int) < (n : Int) := by omega
 have HC := l1Digits_any 3 j w (by omega) (by omega)
 have HP := sp_str (dgF 3 j)
 have hz : (str (dgF 3 j)).size ≤ 10000000 := by rw [str_size]; exact Nat.le_trans (dgF_len 3 j) (by omega)
 have hz2 : ¬ 9223372036854775807 < 1 + (str (dgF 3 j)).size := by omega
 have q1 : ¬ k = 1 := by omega
 have q2 : ¬ k = 2 := by omega
 have q6 : ¬ k = 6 := by omega
 have q7 : ¬ k = 7 := by omega
 have q8 : ¬ k = 8 := by omega
 have q9 : ¬ k = 9 := by omega
 have q10 : ¬ k = 10 := by omega
 have q11 : ¬ k = 11 := by omega
 clear hk
 generalize [32] ++ dgF 3 j = r at *
 generalize str (dgF 3 j) = x at *
 generalize str r = y at *
 go_enter Tryz.func91, Tryz.ntmps91
 go_wp2_with fail
 refine HC.mono ?_
 rintro e w1 ⟨rfl, hb1⟩
 clear HC
 go_wp2
 go_ret
 exact ⟨by rw [← HP]; rfl, hb1⟩
set_option maxHeartbeats 1600000 in
set_option maxRecDepth 100000 in
theorem tail_67 (b off n cap i : Nat) (w : World) (hi : i < n) (k : Int) (hk : k = 6 ∨ k = 7) (a : Option Addr) (m c : Nat) (l : List Int) (hl : l.length = m) (hm : m ≤ 20) (hch : ∀ x ∈ l, chr x = true) (hr : RdI w a l) (c0 : w.cell? ⟨b, off + i * 6, none⟩ = some (.int .i64 k)) (c2 : w.cell? ⟨b, off + i * 6 + 2, none⟩ = some (.slice a m c)) :
  Calls Tryz.prog 91 #[.slice (some ⟨b, off, none⟩) n cap, .int .i64 (i : Int)] w fun e w' => e = .returned (.string (str ([32] ++ (encT 4 l).2))) ∧ Below w.heap.size w w' := by
 have hki : (i : Int) < (n : Int) := by omega
 have hf : flt l = 0 := flt_ok (by omega) (List.all_eq_true.2 hch)
 have HC := l2Encode_any 4 a m c l w (by omega) hl hr (by omega) hch
 have hV : encV 4 l = encT 4 l := (encT_ok (by omega) hf).symm
 have HP := sp_str ((encT 4 l).2)
 have hz : (str ((encT 4 l).2)).size ≤ 10000000 := by rw [str_size]; exact Nat.le_trans (encT_few 4 l) (by omega)
 have hz2 : ¬ 9223372036854775807 < 1 + (str ((encT 4 l).2)).size := by omega
 unfold EncEnd at HC
 rw [hV] at HC
 have q1 : ¬ k = 1 := by omega
 have q2 : ¬ k = 2 := by omega
 clear hf hV hl hr hm hch
 generalize (encT 4 l).2 = r0 at *
 generalize [32] ++ r0 = r at *
 generalize hr0 : str r0 = x at *
 generalize str r = y at *
 go_enter Tryz.func91, Tryz.ntmps91
 rcases hk with rfl | rfl
 all_goals
  go_wp2_with fail
  refine HC.mono ?_
  rintro e w1 ⟨v, rfl, hO, hb1⟩
  obtain ⟨av, cv, rfl, -, -⟩ := hO.form
  have hst := fun (c : Nat) => (run_str (w := w1) (a := av) (n := r0.length) (cap := c) rfl hO.rd.2).trans (by rw [hr0])
  clear HC hO
  go_wp2
  go_ret
  exact ⟨by rw [← HP]; rfl, hb1⟩
set_option maxHeartbeats 1600000 in
set_option maxRecDepth 100000 in
theorem tail_8 (b off n cap i : Nat) (w : World) (hi : i < n) (a : Option Addr) (m c : Nat) (l : List YgP) (hl : l.length = m) (hok : rfV l = 0) (hr : RdY w a l) (c0 : w.cell? ⟨b, off + i * 6, none⟩ = some (.int .i64 8)) (c3 : w.cell? ⟨b, off + i * 6 + 3, none⟩ = some (.slice a m c)) :
  Calls Tryz.prog 91 #[.slice (some ⟨b, off, none⟩) n cap, .int .i64 (i : Int)] w fun e w' => e = .returned (.string (str ([32] ++ txY l))) ∧ Below w.heap.size w w' := by
 have hki : (i : Int) < (n : Int) := by omega
 obtain ⟨hA, hm1, hm8⟩ := rfV_A hok
 have HC := l11Text_any a m c l w hl hr (by omega) hA
 have HP := sp_str (txY l)
 have hz : (str (txY l)).size ≤ 10000000 := by rw [str_size]; exact Nat.le_trans (txY_len l) (by omega)
 have hz2 : ¬ 9223372036854775807 < 1 + (str (txY l)).size := by omega
 clear hl hr hok hA
 generalize [32] ++ txY l = r at *
 generalize str (txY l) = x at *
 generalize str r = y at *
 go_enter Tryz.func91, Tryz.ntmps91
 go_wp2_with fail
 refine HC.mono ?_
 rintro e w1 ⟨rfl, hb1⟩
 clear HC
 go_wp2
 go_ret
 exact ⟨by rw [← HP]; rfl, hb1⟩
set_option maxHeartbeats 1600000 in
set_option maxRecDepth 100000 in
theorem tail_9 (b off n cap i : Nat) (w : World) (hi : i < n) (j : Nat) (x : List Nat) (hx : x.length ≤ 9999000) (HX : Hid (∀ W, Below w.heap.size w W → Calls Tryz.prog 61 #[.slice (some ⟨b, off, none⟩) n cap, .int .i64 (j : Int)] W fun e w' => e = .returned (.string (str x)) ∧ Below W.heap.size W w')) (c0 : w.cell? ⟨b, off + i * 6, none⟩ = some (.int .i64 9)) (c4 : w.cell? ⟨b, off + i * 6 + 4, none⟩ = some (.int .i64 (j : Int))) :
  Calls Tryz.prog 91 #[.slice (some ⟨b, off, none⟩) n cap, .int .i64 (i : Int)] w fun e w' => e = .returned (.string (str ([32] ++ x))) ∧ Below w.heap.size w w' := by
 have hki : (i : Int) < (n : Int) := by omega
 have HC := HX.out w (Below.refl _ _)
 have HP := sp_str (x)
 have hz : (str (x)).size ≤ 10000000 := by rw [str_size]; omega
 have hz2 : ¬ 9223372036854775807 < 1 + (str (x)).size := by omega
 clear HX
 generalize [32] ++ x = r at *
 generalize str x = x at *
 generalize str r = y at *
 go_enter Tryz.func91, Tryz.ntmps91
 go_wp2_with fail
 refine HC.mono ?_
 rintro e w1 ⟨rfl, hb1⟩
 clear HC
 go_wp2
 go_ret
 exact ⟨by rw [← HP]; rfl, hb1⟩
end Go.Proofs.YtjogclofjollnaaGreatDoor
