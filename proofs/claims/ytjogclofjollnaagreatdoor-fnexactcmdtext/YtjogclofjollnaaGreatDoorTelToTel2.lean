/- The bytes of a character by each charset: the program's and the model's functions lay the same; characters that the charset has · tellAll, at each charset's function: the bytes of all characters, one behind the other; at most 400 characters that the charset has. -/
import Derived.Test.YtjogclofjollnaaGreatDoorAppIToFlt
import Derived.Test.YtjogclofjollnaaGreatDoorJfzToApp
import Derived.Laws.BitsAllLaws
namespace Go.Proofs.YtjogclofjollnaaGreatDoor
open Go.RowKit
theorem ofInt_i64 (a : Nat) (ha : a < 4611686018427387904) : (BitVec.ofInt 64 (a : Int)).toNat = a := by
 rw [BitVec.ofInt_natCast, BitVec.toNat_ofNat]; exact Nat.mod_eq_of_lt (by omega)
theorem i64_and_nat (a b : Nat) (ha : a < 4611686018427387904) (hb : b < 4611686018427387904) : bits .and .i64 (a : Int) (b : Int) = ((a &&& b : Nat) : Int) := by
 have hx : a &&& b < 2 ^ 62 := Nat.and_lt_two_pow _ (by omega)
 show IntKind.i64.wrap ((BitVec.ofInt 64 (a : Int) &&& BitVec.ofInt 64 (b : Int)).toNat : Int) = _
 rw [BitVec.toNat_and, ofInt_i64 a ha, ofInt_i64 b hb]
 exact IntWalk.i64_in _ (by omega)
theorem i64_or_nat (a b : Nat) (ha : a < 4611686018427387904) (hb : b < 4611686018427387904) : bits .or .i64 (a : Int) (b : Int) = ((a ||| b : Nat) : Int) := by
 have hx : a ||| b < 2 ^ 62 := Nat.or_lt_two_pow (by omega) (by omega)
 show IntKind.i64.wrap ((BitVec.ofInt 64 (a : Int) ||| BitVec.ofInt 64 (b : Int)).toNat : Int) = _
 rw [BitVec.toNat_or, ofInt_i64 a ha, ofInt_i64 b hb]
 exact IntWalk.i64_in _ (by omega)
theorem i64_and63 (a : Nat) (ha : a < 65536) : bits .and .i64 (a : Int) 63 = ((a % 64 : Nat) : Int) := by
 have := i64_and_nat a 63 (by omega) (by omega)
 rw [Nat.and_two_pow_sub_one_eq_mod a 6] at this
 exact this
theorem or_add (x y m : Nat) (h : y < 2 ^ m) : (x * 2 ^ m) ||| y = x * 2 ^ m + y := by
 have h := Nat.shiftLeft_add_eq_or_of_lt h x
 rw [Nat.shiftLeft_eq] at h
 exact h.symm
theorem i64_or192 (y : Nat) (h : y < 32) : bits .or .i64 192 (y : Int) = ((192 + y : Nat) : Int) := by
 have := i64_or_nat 192 y (by omega) (by omega)
 rw [show (192 : Nat) = 6 * 2 ^ 5 from rfl, or_add 6 y 5 (by omega)] at this
 exact this
theorem i64_or128 (y : Nat) (h : y < 64) : bits .or .i64 128 (y : Int) = ((128 + y : Nat) : Int) := by
 have := i64_or_nat 128 y (by omega) (by omega)
 rw [show (128 : Nat) = 2 * 2 ^ 6 from rfl, or_add 2 y 6 (by omega)] at this
 exact this
theorem i64_or224 (y : Nat) (h : y < 16) : bits .or .i64 224 (y : Int) = ((224 + y : Nat) : Int) := by
 have := i64_or_nat 224 y (by omega) (by omega)
 rw [show (224 : Nat) = 14 * 2 ^ 4 from rfl, or_add 14 y 4 (by omega)] at this
 exact this
def u8L (k : Nat) : List Nat := if k < 128 then [k] else if k < 2048 then [192 + k / 64, 128 + k % 64] else [224 + k / 4096, 128 + k / 64 % 64, 128 + k % 64]
theorem u8L_one {k : Nat} (h : k < 128) : u8L k = [k] := if_pos h
theorem u8L_two {k : Nat} (h : ¬ k < 128) (h2 : k < 2048) : u8L k = [192 + k / 64, 128 + k % 64] := by unfold u8L; rw [if_neg h, if_pos h2]
theorem u8L_three {k : Nat} (h : ¬ k < 128) (h2 : ¬ k < 2048) : u8L k = [224 + k / 4096, 128 + k / 64 % 64, 128 + k % 64] := by unfold u8L; rw [if_neg h, if_neg h2]
def tellL (cs c : Int) : List Nat := if cs = 3 then [(cyr c).toNat] else if cs = 4 then u8L c.toNat else if cs = 5 then [c.toNat / 256, c.toNat % 256] else [c.toNat]
def Laid (B : Nat) (l : List Nat) (w : World) (e : Ending) (w' : World) : Prop := ∃ v', e = .returned v' ∧ Own w' B v' l ∧ Below B w w'
set_option maxHeartbeats 1600000 in
set_option maxRecDepth 100000 in
theorem singleTell_any (m : Int) (k : Nat) (B : Nat) (v : Value) (out : List Nat) (w : World) (hown : Own w B v out) (hz : B ≤ w.heap.size) (ho : out.length ≤ 1048576) (hk : k < 256) :
  Calls Tryz.prog 195 #[.agg #[.int .i64 m], v, .int .i64 (k : Int)] w fun e w' => Laid B (out ++ [k]) w e w' := by
 have hb0 : Below B w (w.alloc (.cells #[.int .i64 m] 230)) := (Below.refl _ _).alloc hz _
 have ho0 := hown.alloc (.cells #[.int .i64 m] 230)
 have hz0 : B ≤ (w.alloc (.cells #[.int .i64 m] 230)).heap.size := by simp; omega
 go_enter Tryz.func195, Tryz.ntmps195
 go_wp2_with (at_builtin; refine wpList_app_new rfl _ _ rfl B _ out rfl ho0 1 1 [k] (by rw [World.size_alloc]; rfl) rfl rfl (by omega) hz0 ?_; intro v' w2 hown' hb')
 go_ret
 exact ⟨v', rfl, hown', hb0.trans hb'⟩
set_option maxHeartbeats 1600000 in
set_option maxRecDepth 100000 in
theorem utf16Tell_any (k : Nat) (B : Nat) (v : Value) (out : List Nat) (w : World) (hown : Own w B v out) (hz : B ≤ w.heap.size) (ho : out.length ≤ 1048576) (hk : k < 65536) :
  Calls Tryz.prog 204 #[.agg #[], v, .int .i64 (k : Int)] w fun e w' => Laid B (out ++ [k / 256, k % 256]) w e w' := by
 have hb0 : Below B w (w.alloc (.cells #[] 233)) := (Below.refl _ _).alloc hz _
 have ho0 := hown.alloc (.cells #[] 233)
 have hz0 : B ≤ (w.alloc (.cells #[] 233)).heap.size := by simp; omega
 obtain ⟨p, hp⟩ : ∃ p, p = k / 256 := ⟨_, rfl⟩
 obtain ⟨q, hq⟩ : ∃ q, q = k % 256 := ⟨_, rfl⟩
 rw [← hp, ← hq]
 have e1 : (k : Int) / 256 = (p : Int) := by omega
 have e2 : (k : Int) % 256 = (q : Int) := by omega
 have hp' : p < 256 := by omega
 clear hp hq
 go_enter Tryz.func204, Tryz.ntmps204
 go_wp2_with (at_builtin; refine wpList_app_new rfl _ _ rfl B _ out rfl ho0 2 2 [p, q] (by rw [World.size_alloc]; rfl) rfl rfl (by omega) hz0 ?_; intro v' w2 hown' hb')
 go_ret
 exact ⟨v', rfl, hown', hb0.trans hb'⟩
set_option maxHeartbeats 1600000 in
set_option maxRecDepth 100000 in
theorem utf8Tell_any (k : Nat) (B : Nat) (v : Value) (out : List Nat) (w : World) (hown : Own w B v out) (hz : B ≤ w.heap.size) (ho : out.length ≤ 1048576) (hk : k < 65536) :
  Calls Tryz.prog 201 #[.agg #[], v, .int .i64 (k : Int)] w fun e w' => Laid B (out ++ u8L k) w e w' := by
 have hb0 : Below B w (w.alloc (.cells #[] 232)) := (Below.refl _ _).alloc hz _
 have ho0 := hown.alloc (.cells #[] 232)
 have hz0 : B ≤ (w.alloc (.cells #[] 232)).heap.size := by simp; omega
 by_cases h1 : k < 128
 ·have h1' : (k : Int) < 128 := by omega
  rw [u8L_one h1]
  go_enter Tryz.func201, Tryz.ntmps201
  go_wp2_with (at_builtin; refine wpList_app_new rfl _ _ rfl B _ out rfl ho0 1 1 [k] (by rw [World.size_alloc]; rfl) rfl rfl (by omega) hz0 ?_; intro v' w2 hown' hb')
  go_ret
  exact ⟨v', rfl, hown', hb0.trans hb'⟩
 ·have h1' : ¬ (k : Int) < 128 := by omega
  by_cases h2 : k < 2048
  ·have h2' : (k : Int) < 2048 := by omega
   rw [u8L_two h1 h2]
   obtain ⟨p, hp⟩ : ∃ p, p = k / 64 := ⟨_, rfl⟩
   obtain ⟨q, hq⟩ : ∃ q, q = k % 64 := ⟨_, rfl⟩
   rw [← hp, ← hq]
   have e1 : (k : Int) / 64 = (p : Int) := by omega
   have e2 := i64_and63 k hk
   rw [← hq] at e2
   have e3 := i64_or192 p (by omega)
   have e4 := i64_or128 q (by omega)
   obtain ⟨P, hP⟩ : ∃ P, P = 192 + p := ⟨_, rfl⟩
   obtain ⟨Q, hQ⟩ : ∃ Q, Q = 128 + q := ⟨_, rfl⟩
   rw [← hP] at e3
   rw [← hQ] at e4
   rw [← hP, ← hQ]
   have hP' : P < 256 := by omega
   have hQ' : Q < 256 := by omega
   clear hp hq hP hQ
   go_enter Tryz.func201, Tryz.ntmps201
   go_wp2_with (at_builtin; refine wpList_app_new rfl _ _ rfl B _ out rfl ho0 2 2 [P, Q] (by rw [World.size_alloc]; rfl) rfl rfl (by omega) hz0 ?_; intro v' w2 hown' hb')
   go_ret
   exact ⟨v', rfl, hown', hb0.trans hb'⟩
  ·have h2' : ¬ (k : Int) < 2048 := by omega
   rw [u8L_three h1 h2]
   obtain ⟨p, hp⟩ : ∃ p, p = k / 4096 := ⟨_, rfl⟩
   obtain ⟨r, hr⟩ : ∃ r, r = k / 64 := ⟨_, rfl⟩
   obtain ⟨s, hs⟩ : ∃ s, s = r % 64 := ⟨_, rfl⟩
   obtain ⟨q, hq⟩ : ∃ q, q = k % 64 := ⟨_, rfl⟩
   rw [← hp, ← hr, ← hq, ← hs]
   have e0 : (k : Int) / 4096 = (p : Int) := by omega
   have e1 : (k : Int) / 64 = (r : Int) := by omega
   have e2 := i64_and63 k hk
   rw [← hq] at e2
   have e5 := i64_and63 r (by omega)
   rw [← hs] at e5
   have e3 := i64_or224 p (by omega)
   have e4 := i64_or128 q (by omega)
   have e6 := i64_or128 s (by omega)
   obtain ⟨P, hP⟩ : ∃ P, P = 224 + p := ⟨_, rfl⟩
   obtain ⟨Q, hQ⟩ : ∃ Q, Q = 128 + q := ⟨_, rfl⟩
   obtain ⟨S, hS⟩ : ∃ S, S = 128 + s := ⟨_, rfl⟩
   rw [← hP] at e3
   rw [← hQ] at e4
   rw [← hS] at e6
   rw [← hP, ← hQ, ← hS]
   have hP' : P < 256 := by omega
   have hQ' : Q < 256 := by omega
   have hS' : S < 256 := by omega
   clear hp hq hP hQ hr hs hS
   go_enter Tryz.func201, Tryz.ntmps201
   go_wp2_with (at_builtin; refine wpList_app_new rfl _ _ rfl B _ out rfl ho0 3 3 [P, S, Q] (by rw [World.size_alloc]; rfl) rfl rfl (by omega) hz0 ?_; intro v' w2 hown' hb')
   go_ret
   exact ⟨v', rfl, hown', hb0.trans hb'⟩
set_option maxHeartbeats 1600000 in
set_option maxRecDepth 100000 in
theorem cyrTell_any (k : Nat) (B : Nat) (v : Value) (out : List Nat) (w : World) (hown : Own w B v out) (hz : B ≤ w.heap.size) (ho : out.length ≤ 1048576) (hc : 0 ≤ cyr (k : Int)) :
  Calls Tryz.prog 198 #[.agg #[], v, .int .i64 (k : Int)] w fun e w' => Laid B (out ++ [(cyr (k : Int)).toNat]) w e w' := by
 have hb0 : Below B w (w.alloc (.cells #[] 231)) := (Below.refl _ _).alloc hz _
 have ho0 := hown.alloc (.cells #[] 231)
 have hz0 : B ≤ (w.alloc (.cells #[] 231)).heap.size := by simp; omega
 have hc' := cyr_pos.1 hc
 by_cases h1 : k = 167
 ·subst h1
  have e : (cyr ((167 : Nat) : Int)).toNat = 253 := by decide
  rw [e]
  go_enter Tryz.func198, Tryz.ntmps198
  go_wp2_with (at_builtin; refine wpList_app_new rfl _ _ rfl B _ out rfl ho0 1 1 [253] (by rw [World.size_alloc]; rfl) rfl rfl (by omega) hz0 ?_; intro v' w2 hown' hb')
  go_ret
  exact ⟨v', rfl, hown', hb0.trans hb'⟩
 ·by_cases h2 : k = 8470
  ·subst h2
   have e : (cyr ((8470 : Nat) : Int)).toNat = 240 := by decide
   rw [e]
   go_enter Tryz.func198, Tryz.ntmps198
   go_wp2_with (at_builtin; refine wpList_app_new rfl _ _ rfl B _ out rfl ho0 1 1 [240] (by rw [World.size_alloc]; rfl) rfl rfl (by omega) hz0 ?_; intro v' w2 hown' hb')
   go_ret
   exact ⟨v', rfl, hown', hb0.trans hb'⟩
  ·have n1 : ((k : Int) == 167) = false := by simp; omega
   have n2 : ((k : Int) == 8470) = false := by simp; omega
   by_cases h3 : k ≤ 160
   ·have h3' : (k : Int) ≤ 160 := by omega
    have e : (cyr (k : Int)).toNat = k := by rw [cyr_same (by omega)]; simp
    rw [e]
    clear hc hc' e
    go_enter Tryz.func198, Tryz.ntmps198
    go_wp2_with (at_builtin; refine wpList_app_new rfl _ _ rfl B _ out rfl ho0 1 1 [k] (by rw [World.size_alloc]; rfl) rfl rfl (by omega) hz0 ?_; intro v' w2 hown' hb')
    go_ret
    exact ⟨v', rfl, hown', hb0.trans hb'⟩
   ·have h3' : ¬ (k : Int) ≤ 160 := by omega
    by_cases h4 : k = 173
    ·subst h4
     have e : (cyr ((173 : Nat) : Int)).toNat = 173 := by decide
     rw [e]
     go_enter Tryz.func198, Tryz.ntmps198
     go_wp2_with (at_builtin; refine wpList_app_new rfl _ _ rfl B _ out rfl ho0 1 1 [173] (by rw [World.size_alloc]; rfl) rfl rfl (by omega) hz0 ?_; intro v' w2 hown' hb')
     go_ret
     exact ⟨v', rfl, hown', hb0.trans hb'⟩
    ·have n4 : ((k : Int) == 173) = false := by simp; omega
     have e : (cyr (k : Int)).toNat = k - 864 := by rw [cyr_far (by omega)]; omega
     obtain ⟨p, hp⟩ : ∃ p, p = k - 864 := ⟨_, rfl⟩
     rw [e, ← hp]
     have hp' : p < 256 := by omega
     have hkp : (k : Int) - 864 = (p : Int) := by omega
     clear hc hc' e hp
     go_enter Tryz.func198, Tryz.ntmps198
     go_wp2_with (at_builtin; refine wpList_app_new rfl _ _ rfl B _ out rfl ho0 1 1 [p] (by rw [World.size_alloc]; rfl) rfl rfl (by omega) hz0 ?_; intro v' w2 hown' hb')
     go_ret
     exact ⟨v', rfl, hown', hb0.trans hb'⟩
end Go.Proofs.YtjogclofjollnaaGreatDoor
namespace Go.Proofs.YtjogclofjollnaaGreatDoor
open Go.RowKit
theorem flat_step {f : Int → List Nat} {l : List Int} {k : Nat} (h : k < l.length) : (l.take (k + 1)).flatMap f = (l.take k).flatMap f ++ f (nthI l k) := by
 rw [take_snocI l k h, List.flatMap_append]; simp
theorem flat_end {f : Int → List Nat} {l : List Int} {n : Nat} (h : l.length = n) : (l.take n).flatMap f = l.flatMap f := by rw [← h, List.take_length]
theorem u8L_len (k : Nat) : 1 ≤ (u8L k).length ∧ (u8L k).length ≤ 3 := by
 unfold u8L; split
 ·simp
 ·split <;> simp
theorem tellL_len (cs c : Int) : 1 ≤ (tellL cs c).length ∧ (tellL cs c).length ≤ 3 := by
 unfold tellL; split
 ·simp
 ·split
  ·exact u8L_len _
  ·split <;> simp
theorem flat_len (cs : Int) : ∀ l : List Int, l.length ≤ (l.flatMap (tellL cs)).length ∧ (l.flatMap (tellL cs)).length ≤ 3 * l.length
 | [] => by simp
 | c :: l => by
  have h1 := tellL_len cs c
  have h2 := flat_len cs l
  rw [List.flatMap_cons, List.length_append, List.length_cons]
  omega
theorem tellL_1 (c : Int) : tellL 1 c = [c.toNat] := by simp [tellL]
theorem tellL_2 (c : Int) : tellL 2 c = [c.toNat] := by simp [tellL]
theorem tellL_3 (c : Int) : tellL 3 c = [(cyr c).toNat] := by simp [tellL]
theorem tellL_4 (c : Int) : tellL 4 c = u8L c.toNat := by simp [tellL]
theorem tellL_5 (c : Int) : tellL 5 c = [c.toNat / 256, c.toNat % 256] := by simp [tellL]
set_option maxHeartbeats 1600000 in
set_option maxRecDepth 100000 in
theorem tellAll_1 (a : Option Addr) (n cap : Nat) (l : List Int) (w : World) (hl : l.length = n) (hr : RdI w a l) (hn : n ≤ 400) (hg : ∀ x ∈ l, 0 ≤ x ∧ x < 256) :
  Calls Tryz.prog 156 #[.slice a n cap, .func (.method "loop.example/g00447/impl.tell") #[.iface 230 (.agg #[.int .i64 127])] #[]] w fun e w' => Laid w.heap.size (l.flatMap (tellL 1)) w e w' := by
 go_enter Tryz.func156, Tryz.ntmps156
 go_wp2
 go_loopw [5, 10] (fun v i wr => ∃ k : Nat, k ≤ n ∧ i = .int .i64 k ∧ Own wr w.heap.size v ((l.take k).flatMap (tellL 1)) ∧ Below w.heap.size w wr) (fun _ i _ => n - (intOf i).toNat)
 case atStart => exact ⟨0, Nat.zero_le _, rfl, Own.nil _ _, Below.refl _ _⟩
 case round =>
  obtain ⟨k, hk, rfl, hown, hbel⟩ := hrel
  by_cases hkn : k < n
  ·obtain ⟨b, off, rfl, hblt, hcell⟩ := hr.at_ (by omega)
   have hc : wr.cell? ⟨b, off + k, none⟩ = some (.int .i64 (nthI l k)) := (hbel.cell (p := ⟨b, off + k, none⟩) hblt).trans (hcell k (by omega))
   have hx := hg _ (nthI_mem (l := l) (k := k) (by omega))
   have HF : Hid ((l.take (k + 1)).flatMap (tellL 1) = (l.take k).flatMap (tellL 1) ++ tellL 1 (nthI l k)) := flat_step (by omega)
   have hlen : ((l.take k).flatMap (tellL 1)).length ≤ 1048576 := by
    have := (flat_len 1 (l.take k)).2
    rw [List.length_take] at this
    omega
   clear hcell hr
   generalize nthI l k = x at *
   obtain ⟨y, rfl⟩ : ∃ y : Nat, x = (y : Int) := Int.eq_ofNat_of_zero_le (by omega)
   rw [tellL_1, Int.toNat_natCast] at HF
   generalize (l.take k).flatMap (tellL 1) = out at *
   have hsz := hbel.size
   go_wp2_with (first | (go_at_call 195; refine (singleTell_any 127 y w.heap.size _ out _ hown hsz hlen (by omega)).mono ?_; rintro e w' ⟨v', rfl, hown', hb'⟩))
   rw [← HF.out] at hown'
   go_roundw
   case rel => exact ⟨k + 1, by omega, by go_num, hown', hbel.trans hb'⟩
   case measure => simp [intOf]; omega
  ·have hkk : k = n := by omega
   subst hkk
   rw [flat_end hl] at hown
   go_wp2
   go_ret
   exact ⟨_, rfl, hown, hbel⟩
set_option maxHeartbeats 1600000 in
set_option maxRecDepth 100000 in
theorem tellAll_2 (a : Option Addr) (n cap : Nat) (l : List Int) (w : World) (hl : l.length = n) (hr : RdI w a l) (hn : n ≤ 400) (hg : ∀ x ∈ l, 0 ≤ x ∧ x < 256) :
  Calls Tryz.prog 156 #[.slice a n cap, .func (.method "loop.example/g00447/impl.tell") #[.iface 230 (.agg #[.int .i64 255])] #[]] w fun e w' => Laid w.heap.size (l.flatMap (tellL 2)) w e w' := by
 go_enter Tryz.func156, Tryz.ntmps156
 go_wp2
 go_loopw [5, 10] (fun v i wr => ∃ k : Nat, k ≤ n ∧ i = .int .i64 k ∧ Own wr w.heap.size v ((l.take k).flatMap (tellL 2)) ∧ Below w.heap.size w wr) (fun _ i _ => n - (intOf i).toNat)
 case atStart => exact ⟨0, Nat.zero_le _, rfl, Own.nil _ _, Below.refl _ _⟩
 case round =>
  obtain ⟨k, hk, rfl, hown, hbel⟩ := hrel
  by_cases hkn : k < n
  ·obtain ⟨b, off, rfl, hblt, hcell⟩ := hr.at_ (by omega)
   have hc : wr.cell? ⟨b, off + k, none⟩ = some (.int .i64 (nthI l k)) := (hbel.cell (p := ⟨b, off + k, none⟩) hblt).trans (hcell k (by omega))
   have hx := hg _ (nthI_mem (l := l) (k := k) (by omega))
   have HF : Hid ((l.take (k + 1)).flatMap (tellL 2) = (l.take k).flatMap (tellL 2) ++ tellL 2 (nthI l k)) := flat_step (by omega)
   have hlen : ((l.take k).flatMap (tellL 2)).length ≤ 1048576 := by
    have := (flat_len 2 (l.take k)).2
    rw [List.length_take] at this
    omega
   clear hcell hr
   generalize nthI l k = x at *
   obtain ⟨y, rfl⟩ : ∃ y : Nat, x = (y : Int) := Int.eq_ofNat_of_zero_le (by omega)
   rw [tellL_2, Int.toNat_natCast] at HF
   generalize (l.take k).flatMap (tellL 2) = out at *
   have hsz := hbel.size
   go_wp2_with (first | (go_at_call 195; refine (singleTell_any 255 y w.heap.size _ out _ hown hsz hlen (by omega)).mono ?_; rintro e w' ⟨v', rfl, hown', hb'⟩))
   rw [← HF.out] at hown'
   go_roundw
   case rel => exact ⟨k + 1, by omega, by go_num, hown', hbel.trans hb'⟩
   case measure => simp [intOf]; omega
  ·have hkk : k = n := by omega
   subst hkk
   rw [flat_end hl] at hown
   go_wp2
   go_ret
   exact ⟨_, rfl, hown, hbel⟩
set_option maxHeartbeats 1600000 in
set_option maxRecDepth 100000 in
theorem tellAll_3 (a : Option Addr) (n cap : Nat) (l : List Int) (w : World) (hl : l.length = n) (hr : RdI w a l) (hn : n ≤ 400) (hg : ∀ x ∈ l, 0 ≤ x ∧ 0 ≤ cyr x) :
  Calls Tryz.prog 156 #[.slice a n cap, .func (.method "loop.example/g00447/impl.tell") #[.iface 231 (.agg #[])] #[]] w fun e w' => Laid w.heap.size (l.flatMap (tellL 3)) w e w' := by
 go_enter Tryz.func156, Tryz.ntmps156
 go_wp2
 go_loopw [5, 10] (fun v i wr => ∃ k : Nat, k ≤ n ∧ i = .int .i64 k ∧ Own wr w.heap.size v ((l.take k).flatMap (tellL 3)) ∧ Below w.heap.size w wr) (fun _ i _ => n - (intOf i).toNat)
 case atStart => exact ⟨0, Nat.zero_le _, rfl, Own.nil _ _, Below.refl _ _⟩
 case round =>
  obtain ⟨k, hk, rfl, hown, hbel⟩ := hrel
  by_cases hkn : k < n
  ·obtain ⟨b, off, rfl, hblt, hcell⟩ := hr.at_ (by omega)
   have hc : wr.cell? ⟨b, off + k, none⟩ = some (.int .i64 (nthI l k)) := (hbel.cell (p := ⟨b, off + k, none⟩) hblt).trans (hcell k (by omega))
   have hx := hg _ (nthI_mem (l := l) (k := k) (by omega))
   have HF : Hid ((l.take (k + 1)).flatMap (tellL 3) = (l.take k).flatMap (tellL 3) ++ tellL 3 (nthI l k)) := flat_step (by omega)
   have hlen : ((l.take k).flatMap (tellL 3)).length ≤ 1048576 := by
    have := (flat_len 3 (l.take k)).2
    rw [List.length_take] at this
    omega
   clear hcell hr
   generalize nthI l k = x at *
   obtain ⟨y, rfl⟩ : ∃ y : Nat, x = (y : Int) := Int.eq_ofNat_of_zero_le (by omega)
   rw [tellL_3] at HF
   generalize (l.take k).flatMap (tellL 3) = out at *
   have hsz := hbel.size
   go_wp2_with (first | (go_at_call 198; refine (cyrTell_any y w.heap.size _ out _ hown hsz hlen hx.2).mono ?_; rintro e w' ⟨v', rfl, hown', hb'⟩))
   rw [← HF.out] at hown'
   go_roundw
   case rel => exact ⟨k + 1, by omega, by go_num, hown', hbel.trans hb'⟩
   case measure => simp [intOf]; omega
  ·have hkk : k = n := by omega
   subst hkk
   rw [flat_end hl] at hown
   go_wp2
   go_ret
   exact ⟨_, rfl, hown, hbel⟩
set_option maxHeartbeats 1600000 in
set_option maxRecDepth 100000 in
theorem tellAll_4 (a : Option Addr) (n cap : Nat) (l : List Int) (w : World) (hl : l.length = n) (hr : RdI w a l) (hn : n ≤ 400) (hg : ∀ x ∈ l, 0 ≤ x ∧ x < 65536) :
  Calls Tryz.prog 156 #[.slice a n cap, .func (.method "loop.example/g00447/impl.tell") #[.iface 232 (.agg #[])] #[]] w fun e w' => Laid w.heap.size (l.flatMap (tellL 4)) w e w' := by
 go_enter Tryz.func156, Tryz.ntmps156
 go_wp2
 go_loopw [5, 10] (fun v i wr => ∃ k : Nat, k ≤ n ∧ i = .int .i64 k ∧ Own wr w.heap.size v ((l.take k).flatMap (tellL 4)) ∧ Below w.heap.size w wr) (fun _ i _ => n - (intOf i).toNat)
 case atStart => exact ⟨0, Nat.zero_le _, rfl, Own.nil _ _, Below.refl _ _⟩
 case round =>
  obtain ⟨k, hk, rfl, hown, hbel⟩ := hrel
  by_cases hkn : k < n
  ·obtain ⟨b, off, rfl, hblt, hcell⟩ := hr.at_ (by omega)
   have hc : wr.cell? ⟨b, off + k, none⟩ = some (.int .i64 (nthI l k)) := (hbel.cell (p := ⟨b, off + k, none⟩) hblt).trans (hcell k (by omega))
   have hx := hg _ (nthI_mem (l := l) (k := k) (by omega))
   have HF : Hid ((l.take (k + 1)).flatMap (tellL 4) = (l.take k).flatMap (tellL 4) ++ tellL 4 (nthI l k)) := flat_step (by omega)
   have hlen : ((l.take k).flatMap (tellL 4)).length ≤ 1048576 := by
    have := (flat_len 4 (l.take k)).2
    rw [List.length_take] at this
    omega
   clear hcell hr
   generalize nthI l k = x at *
   obtain ⟨y, rfl⟩ : ∃ y : Nat, x = (y : Int) := Int.eq_ofNat_of_zero_le (by omega)
   rw [tellL_4, Int.toNat_natCast] at HF
   generalize (l.take k).flatMap (tellL 4) = out at *
   have hsz := hbel.size
   go_wp2_with (first | (go_at_call 201; refine (utf8Tell_any y w.heap.size _ out _ hown hsz hlen (by omega)).mono ?_; rintro e w' ⟨v', rfl, hown', hb'⟩))
   rw [← HF.out] at hown'
   go_roundw
   case rel => exact ⟨k + 1, by omega, by go_num, hown', hbel.trans hb'⟩
   case measure => simp [intOf]; omega
  ·have hkk : k = n := by omega
   subst hkk
   rw [flat_end hl] at hown
   go_wp2
   go_ret
   exact ⟨_, rfl, hown, hbel⟩
set_option maxHeartbeats 1600000 in
set_option maxRecDepth 100000 in
theorem tellAll_5 (a : Option Addr) (n cap : Nat) (l : List Int) (w : World) (hl : l.length = n) (hr : RdI w a l) (hn : n ≤ 400) (hg : ∀ x ∈ l, 0 ≤ x ∧ x < 65536) :
  Calls Tryz.prog 156 #[.slice a n cap, .func (.method "loop.example/g00447/impl.tell") #[.iface 233 (.agg #[])] #[]] w fun e w' => Laid w.heap.size (l.flatMap (tellL 5)) w e w' := by
 go_enter Tryz.func156, Tryz.ntmps156
 go_wp2
 go_loopw [5, 10] (fun v i wr => ∃ k : Nat, k ≤ n ∧ i = .int .i64 k ∧ Own wr w.heap.size v ((l.take k).flatMap (tellL 5)) ∧ Below w.heap.size w wr) (fun _ i _ => n - (intOf i).toNat)
 case atStart => exact ⟨0, Nat.zero_le _, rfl, Own.nil _ _, Below.refl _ _⟩
 case round =>
  obtain ⟨k, hk, rfl, hown, hbel⟩ := hrel
  by_cases hkn : k < n
  ·obtain ⟨b, off, rfl, hblt, hcell⟩ := hr.at_ (by omega)
   have hc : wr.cell? ⟨b, off + k, none⟩ = some (.int .i64 (nthI l k)) := (hbel.cell (p := ⟨b, off + k, none⟩) hblt).trans (hcell k (by omega))
   have hx := hg _ (nthI_mem (l := l) (k := k) (by omega))
   have HF : Hid ((l.take (k + 1)).flatMap (tellL 5) = (l.take k).flatMap (tellL 5) ++ tellL 5 (nthI l k)) := flat_step (by omega)
   have hlen : ((l.take k).flatMap (tellL 5)).length ≤ 1048576 := by
    have := (flat_len 5 (l.take k)).2
    rw [List.length_take] at this
    omega
   clear hcell hr
   generalize nthI l k = x at *
   obtain ⟨y, rfl⟩ : ∃ y : Nat, x = (y : Int) := Int.eq_ofNat_of_zero_le (by omega)
   rw [tellL_5, Int.toNat_natCast] at HF
   generalize (l.take k).flatMap (tellL 5) = out at *
   have hsz := hbel.size
   go_wp2_with (first | (go_at_call 204; refine (utf16Tell_any y w.heap.size _ out _ hown hsz hlen (by omega)).mono ?_; rintro e w' ⟨v', rfl, hown', hb'⟩))
   rw [← HF.out] at hown'
   go_roundw
   case rel => exact ⟨k + 1, by omega, by go_num, hown', hbel.trans hb'⟩
   case measure => simp [intOf]; omega
  ·have hkk : k = n := by omega
   subst hkk
   rw [flat_end hl] at hown
   go_wp2
   go_ret
   exact ⟨_, rfl, hown, hbel⟩
end Go.Proofs.YtjogclofjollnaaGreatDoor
