/- The words of the small tables, the model's; no conditions beyond those that each fact names · The names of the charsets and of the comparators: the program's and the model's functions answer by one plain function each · ComparatorOf, the program's and the model's, at every text: both by one plain function · WhatOf, the program's and the model's, at every text: both by one plain function · The text of a path and of terms, the model's; no conditions beyond those that each fact names · What a command of a kind has: the model's l14Form, at a class of kinds; no conditions beyond those that each fact names. -/
import Derived.Test.YtjogclofjollnaaGreatDoorEncB3ToTxm
import Derived.Test.YtjogclofjollnaaGreatDoorTpgToTbs
import Derived.Test.YtjogclofjollnaaGreatDoorTxnToCfs
namespace Go.Proofs.YtjogclofjollnaaGreatDoor
open Go.RowKit
set_option maxHeartbeats 3200000 in
set_option maxRecDepth 100000 in
theorem l14KeyW_any (k : Nat) (hk : k < 5) (w : World) : Calls Tryz.prog 62 #[.int .i64 (k : Int)] w fun e w' => e = .returned (.string (str (wdJ ([] :: ewZ) k))) ∧ Below w.heap.size w w' := by
 obtain rfl | hk1 : k = 0 ∨ 1 ≤ k := by omega
 ·go_enter Tryz.func62, Tryz.ntmps62
  go_wp2
  go_ret
  exact ⟨rfl, (Below.refl _ _).alloc (Nat.le_refl _) _⟩
 obtain rfl | hk2 : k = 1 ∨ 2 ≤ k := by omega
 ·go_enter Tryz.func62, Tryz.ntmps62
  go_wp2
  go_ret
  exact ⟨rfl, (Below.refl _ _).alloc (Nat.le_refl _) _⟩
 obtain rfl | hk3 : k = 2 ∨ 3 ≤ k := by omega
 ·go_enter Tryz.func62, Tryz.ntmps62
  go_wp2
  go_ret
  exact ⟨rfl, (Below.refl _ _).alloc (Nat.le_refl _) _⟩
 obtain rfl | hk4 : k = 3 ∨ 4 ≤ k := by omega
 ·go_enter Tryz.func62, Tryz.ntmps62
  go_wp2
  go_ret
  exact ⟨rfl, (Below.refl _ _).alloc (Nat.le_refl _) _⟩
 obtain rfl | hk5 : k = 4 ∨ 5 ≤ k := by omega
 ·go_enter Tryz.func62, Tryz.ntmps62
  go_wp2
  go_ret
  exact ⟨rfl, (Below.refl _ _).alloc (Nat.le_refl _) _⟩
 omega
set_option maxHeartbeats 3200000 in
set_option maxRecDepth 100000 in
theorem l14Mode_any (k : Nat) (hk : k < 4) (w : World) : Calls Tryz.prog 58 #[.int .i64 (k : Int)] w fun e w' => e = .returned (.string (str (wdJ mwZ k))) ∧ Below w.heap.size w w' := by
 obtain rfl | hk1 : k = 0 ∨ 1 ≤ k := by omega
 ·go_enter Tryz.func58, Tryz.ntmps58
  go_wp2
  go_ret
  exact ⟨rfl, (Below.refl _ _).alloc (Nat.le_refl _) _⟩
 obtain rfl | hk2 : k = 1 ∨ 2 ≤ k := by omega
 ·go_enter Tryz.func58, Tryz.ntmps58
  go_wp2
  go_ret
  exact ⟨rfl, (Below.refl _ _).alloc (Nat.le_refl _) _⟩
 obtain rfl | hk3 : k = 2 ∨ 3 ≤ k := by omega
 ·go_enter Tryz.func58, Tryz.ntmps58
  go_wp2
  go_ret
  exact ⟨rfl, (Below.refl _ _).alloc (Nat.le_refl _) _⟩
 obtain rfl | hk4 : k = 3 ∨ 4 ≤ k := by omega
 ·go_enter Tryz.func58, Tryz.ntmps58
  go_wp2
  go_ret
  exact ⟨rfl, (Below.refl _ _).alloc (Nat.le_refl _) _⟩
 omega
set_option maxHeartbeats 3200000 in
set_option maxRecDepth 100000 in
theorem l14Word_any (k : Nat) (hk : k < 15) (w : World) : Calls Tryz.prog 36 #[.int .i64 (k : Int)] w fun e w' => e = .returned (.string (str (wdJ cwZ k))) ∧ Below w.heap.size w w' := by
 obtain rfl | hk1 : k = 0 ∨ 1 ≤ k := by omega
 ·go_enter Tryz.func36, Tryz.ntmps36
  go_wp2
  go_ret
  exact ⟨rfl, (Below.refl _ _).alloc (Nat.le_refl _) _⟩
 obtain rfl | hk2 : k = 1 ∨ 2 ≤ k := by omega
 ·go_enter Tryz.func36, Tryz.ntmps36
  go_wp2
  go_ret
  exact ⟨rfl, (Below.refl _ _).alloc (Nat.le_refl _) _⟩
 obtain rfl | hk3 : k = 2 ∨ 3 ≤ k := by omega
 ·go_enter Tryz.func36, Tryz.ntmps36
  go_wp2
  go_ret
  exact ⟨rfl, (Below.refl _ _).alloc (Nat.le_refl _) _⟩
 obtain rfl | hk4 : k = 3 ∨ 4 ≤ k := by omega
 ·go_enter Tryz.func36, Tryz.ntmps36
  go_wp2
  go_ret
  exact ⟨rfl, (Below.refl _ _).alloc (Nat.le_refl _) _⟩
 obtain rfl | hk5 : k = 4 ∨ 5 ≤ k := by omega
 ·go_enter Tryz.func36, Tryz.ntmps36
  go_wp2
  go_ret
  exact ⟨rfl, (Below.refl _ _).alloc (Nat.le_refl _) _⟩
 obtain rfl | hk6 : k = 5 ∨ 6 ≤ k := by omega
 ·go_enter Tryz.func36, Tryz.ntmps36
  go_wp2
  go_ret
  exact ⟨rfl, (Below.refl _ _).alloc (Nat.le_refl _) _⟩
 obtain rfl | hk7 : k = 6 ∨ 7 ≤ k := by omega
 ·go_enter Tryz.func36, Tryz.ntmps36
  go_wp2
  go_ret
  exact ⟨rfl, (Below.refl _ _).alloc (Nat.le_refl _) _⟩
 obtain rfl | hk8 : k = 7 ∨ 8 ≤ k := by omega
 ·go_enter Tryz.func36, Tryz.ntmps36
  go_wp2
  go_ret
  exact ⟨rfl, (Below.refl _ _).alloc (Nat.le_refl _) _⟩
 obtain rfl | hk9 : k = 8 ∨ 9 ≤ k := by omega
 ·go_enter Tryz.func36, Tryz.ntmps36
  go_wp2
  go_ret
  exact ⟨rfl, (Below.refl _ _).alloc (Nat.le_refl _) _⟩
 obtain rfl | hk10 : k = 9 ∨ 10 ≤ k := by omega
 ·go_enter Tryz.func36, Tryz.ntmps36
  go_wp2
  go_ret
  exact ⟨rfl, (Below.refl _ _).alloc (Nat.le_refl _) _⟩
 obtain rfl | hk11 : k = 10 ∨ 11 ≤ k := by omega
 ·go_enter Tryz.func36, Tryz.ntmps36
  go_wp2
  go_ret
  exact ⟨rfl, (Below.refl _ _).alloc (Nat.le_refl _) _⟩
 obtain rfl | hk12 : k = 11 ∨ 12 ≤ k := by omega
 ·go_enter Tryz.func36, Tryz.ntmps36
  go_wp2
  go_ret
  exact ⟨rfl, (Below.refl _ _).alloc (Nat.le_refl _) _⟩
 obtain rfl | hk13 : k = 12 ∨ 13 ≤ k := by omega
 ·go_enter Tryz.func36, Tryz.ntmps36
  go_wp2
  go_ret
  exact ⟨rfl, (Below.refl _ _).alloc (Nat.le_refl _) _⟩
 obtain rfl | hk14 : k = 13 ∨ 14 ≤ k := by omega
 ·go_enter Tryz.func36, Tryz.ntmps36
  go_wp2
  go_ret
  exact ⟨rfl, (Below.refl _ _).alloc (Nat.le_refl _) _⟩
 obtain rfl | hk15 : k = 14 ∨ 15 ≤ k := by omega
 ·go_enter Tryz.func36, Tryz.ntmps36
  go_wp2
  go_ret
  exact ⟨rfl, (Below.refl _ _).alloc (Nat.le_refl _) _⟩
 omega
end Go.Proofs.YtjogclofjollnaaGreatDoor
namespace Go.Proofs.YtjogclofjollnaaGreatDoor
open Go.RowKit
def cmZ : List (List UInt8) := [[105, 59, 111, 99, 116, 101, 116], [105, 59, 97, 115, 99, 105, 105, 45, 99, 97, 115, 101, 109, 97, 112], [105, 59, 117, 110, 105, 99, 111, 100, 101, 45, 99, 97, 115, 101, 109, 97, 112]]
def cmN (i : Nat) : ByteArray := txt (cmZ.getD i [])
def TabK (w : World) : Prop := ∀ v, v < 3 → w.cell? ⟨5, v, none⟩ = some (.string (cmN v))
theorem TabK.below {w w' : World} (h : TabK w) (hb : Below w.heap.size w w') : TabK w' := fun v hv =>
 (hb.cell (p := ⟨5, v, none⟩) (World.block_lt_of_cell? w ⟨5, 0, none⟩ (h 0 (by decide)))).trans (h v hv)
theorem cmRow_at (w : World) (t : TypeId) (j : Nat) (hj : j < 3) : (w.alloc (.cells #[.string ⟨#[]⟩, .string ⟨#[105, 59, 111, 99, 116, 101, 116]⟩, .string ⟨#[105, 59, 97, 115, 99, 105, 105, 45, 99, 97, 115, 101, 109, 97, 112]⟩, .string ⟨#[105, 59, 117, 110, 105, 99, 111, 100, 101, 45, 99, 97, 115, 101, 109, 97, 112]⟩] t)).cell? ⟨w.heap.size, j + 1, none⟩ = some (.string (cmN j)) := by
 rw [World.cell?_alloc_mark]
 match j, hj with
 | 0, _ => rfl
 | 1, _ => rfl
 | 2, _ => rfl
set_option maxHeartbeats 1600000 in
set_option maxRecDepth 100000 in
theorem l3Name_any (j : Nat) (hj : j < 3) (w : World) : Calls Tryz.prog 63 #[.int .i64 ((j + 1 : Nat) : Int)] w fun e w' => e = .returned (.string (cmN j)) ∧ Below w.heap.size w w' := by
 have hc := cmRow_at w 9 j hj
 have h1 : ((j + 1 : Nat) : Int) < 4 := by omega
 go_enter Tryz.func63, Tryz.ntmps63
 go_wp2
 go_ret
 exact ⟨rfl, by go_grown⟩
end Go.Proofs.YtjogclofjollnaaGreatDoor
namespace Go.Proofs.YtjogclofjollnaaGreatDoor
open Go.RowKit
def IntEnd (r : Int × Int) (w : World) (e : Ending) (w' : World) : Prop := e = .returned (.agg #[.int .i64 r.1, .int .i64 r.2]) ∧ Below w.heap.size w w'
theorem IntEnd.put {r : Int × Int} {w w1 : World} (hbel : Below w.heap.size w w1) (x y : Value) : IntEnd r w (.returned (.agg #[.int .i64 r.1, .int .i64 r.2])) ((w1.setCell ⟨w.heap.size, 0, none⟩ x).setCell ⟨w.heap.size, 1, none⟩ y) :=
 ⟨rfl, (hbel.setCell (by simp) _).setCell (by simp) _⟩
end Go.Proofs.YtjogclofjollnaaGreatDoor
namespace Go.Proofs.YtjogclofjollnaaGreatDoor
open Go.RowKit
def whZ : List (List UInt8) := [[], [102, 108, 97, 103, 115], [115, 105, 122, 101], [98, 111, 100, 121], [98, 121, 116, 101, 115], [116, 101, 120, 116], [112, 114, 101, 118, 105, 101, 119], [115, 117, 98, 106, 101, 99, 116]]
def whN (i : Nat) : ByteArray := txt (whZ.getD (i + 1) [])
def TabH (w : World) : Prop := ∀ v, v < 7 → w.cell? ⟨3, v + 1, none⟩ = some (.string (whN v))
theorem TabH.below {w w' : World} (h : TabH w) (hb : Below w.heap.size w w') : TabH w' := fun v hv =>
 (hb.cell (p := ⟨3, v + 1, none⟩) (World.block_lt_of_cell? w ⟨3, 1, none⟩ (h 0 (by decide)))).trans (h v hv)
theorem whRow_at (w : World) (t : TypeId) (j : Nat) (hj : j < 7) : (w.alloc (.cells #[.string ⟨#[]⟩, .string ⟨#[102, 108, 97, 103, 115]⟩, .string ⟨#[115, 105, 122, 101]⟩, .string ⟨#[98, 111, 100, 121]⟩, .string ⟨#[98, 121, 116, 101, 115]⟩, .string ⟨#[116, 101, 120, 116]⟩, .string ⟨#[112, 114, 101, 118, 105, 101, 119]⟩, .string ⟨#[115, 117, 98, 106, 101, 99, 116]⟩] t)).cell? ⟨w.heap.size, j + 1, none⟩ = some (.string (whN j)) := by
 rw [World.cell?_alloc_mark]
 match j, hj with
 | 0, _ => rfl
 | 1, _ => rfl
 | 2, _ => rfl
 | 3, _ => rfl
 | 4, _ => rfl
 | 5, _ => rfl
 | 6, _ => rfl
set_option maxHeartbeats 1600000 in
set_option maxRecDepth 100000 in
theorem l14What_any (j : Nat) (w : World) (hj : j < 7) : Calls Tryz.prog 59 #[.int .i64 ((j : Int) + 1)] w fun e w' => e = .returned (.string (whN j)) ∧ Below w.heap.size w w' := by
 have hc := whRow_at w 9 j hj
 have hbV : Below w.heap.size w (w.alloc (.cells #[.string ⟨#[]⟩, .string ⟨#[102, 108, 97, 103, 115]⟩, .string ⟨#[115, 105, 122, 101]⟩, .string ⟨#[98, 111, 100, 121]⟩, .string ⟨#[98, 121, 116, 101, 115]⟩, .string ⟨#[116, 101, 120, 116]⟩, .string ⟨#[112, 114, 101, 118, 105, 101, 119]⟩, .string ⟨#[115, 117, 98, 106, 101, 99, 116]⟩] 9)) := (Below.refl _ _).alloc (by omega) _
 have h4 : (j : Int) + 1 < 8 := by omega
 have h5 : (0 : Int) ≤ (j : Int) + 1 := by omega
 have h6 : ((j : Int) + 1).toNat = j + 1 := by omega
 generalize whN j = x at *
 go_enter Tryz.func59, Tryz.ntmps59
 go_wp2
 go_ret
 exact ⟨rfl, hbV⟩
end Go.Proofs.YtjogclofjollnaaGreatDoor
namespace Go.Proofs.YtjogclofjollnaaGreatDoor
open Go.RowKit
set_option linter.unusedVariables false
theorem jn4_len (s : Nat) : ∀ ws : List (List Nat), (∀ x ∈ ws, x.length ≤ 4) → (jnJ s ws).length ≤ 5 * ws.length
 | [], _ => Nat.le_refl _
 | x :: r, h => by
  have hx := h x (List.mem_cons_self ..)
  have : ∀ r : List (List Nat), (∀ x ∈ r, x.length ≤ 4) → (tlJ s r).length ≤ 5 * r.length := by
   intro r
   induction r with
   | nil => intro _; exact Nat.le_refl _
   | cons y r ih =>
    intro h
    have h1 := h y (List.mem_cons_self ..)
    have h2 := ih fun x hx => h x (List.mem_cons_of_mem _ hx)
    rw [tlJ_cons]
    simp only [List.length_append, List.length_cons, List.length_nil]
    omega
  have h2 := this r fun x hx => h x (List.mem_cons_of_mem _ hx)
  show (x ++ tlJ s r).length ≤ _
  rw [List.length_append, List.length_cons]
  omega
def ppJ (l : List Int) (k : Nat) : List Nat := jnJ 46 ((l.take k).map d4J)
theorem ppJ_len (l : List Int) {k : Nat} (hk : k ≤ 3) : (ppJ l k).length ≤ 15 := by
 have := jn4_len 46 ((l.take k).map d4J) (fun x hx => by obtain ⟨z, _, rfl⟩ := List.mem_map.1 hx; exact d4J_len z)
 rw [List.length_map, List.length_take] at this
 unfold ppJ
 omega
theorem ppJ_step {l : List Int} {k : Nat} (h : k < l.length) : ppJ l (k + 1) = if k = 0 then d4J (nthI l k) else ppJ l k ++ [46] ++ d4J (nthI l k) := by
 unfold ppJ
 rw [List.take_succ_eq_append_getElem h, List.map_append, List.map_cons, List.map_nil, jnJ_snoc, nthI_get h]
 by_cases h0 : k = 0
 ·subst h0; simp
 ·rw [if_neg h0, if_neg]
  intro h1
  have := congrArg List.length h1
  rw [List.length_map, List.length_take, List.length_nil] at this
  omega
set_option maxHeartbeats 1600000 in
set_option maxRecDepth 100000 in
theorem l14PathText_any (a : Option Addr) (n cap : Nat) (l : List Int) (w : World) (hl : l.length = n) (hr : RdI w a l) (hn : n ≤ 3) (hv : ∀ z ∈ l, 1 ≤ z ∧ z ≤ 9) :
  Calls Tryz.prog 60 #[.slice a n cap] w fun e w' => e = .returned (.string (str (ptJ l))) ∧ Below w.heap.size w w' := by
 by_cases h0 : l = []
 ·subst h0
  obtain rfl : n = 0 := by simpa using hl.symm
  go_enter Tryz.func60, Tryz.ntmps60
  go_wp2
  go_ret
  exact ⟨rfl, Below.refl _ _⟩
 ·have hnp : 0 < n := by rw [← hl]; exact List.length_pos_iff.2 h0
  have hn0 : ((n : Int) == 0) = false := beq_eq_false_iff_ne.2 (by omega)
  have HE : Hid (ptJ l = ppJ l n) := by
   show _ = _
   unfold ptJ ppJ
   rw [if_neg h0, List.take_of_length_le (by omega)]
  have HL : Hid (l.length = n) := hl
  clear hl h0
  go_enter Tryz.func60, Tryz.ntmps60
  go_wp2
  go_loopw [3, 4] (fun v i wr => ∃ k : Nat, k ≤ n ∧ i = .int .i64 k ∧ v = .string (str (ppJ l k)) ∧ Below w.heap.size w wr) (fun _ i _ => n - (intOf i).toNat)
  case atStart => exact ⟨0, Nat.zero_le _, rfl, rfl, Below.refl _ _⟩
  case round =>
   obtain ⟨k, hk, rfl, rfl, hbel⟩ := hrel
   by_cases hkn : k < n
   ·obtain ⟨b, off, rfl, hblt, hcell⟩ := hr.at_ (by rw [HL.out]; omega)
    have hc0 : wr.cell? ⟨b, off + k, none⟩ = some (.int .i64 (nthI l k)) := (hbel.cell (p := ⟨b, off + k, none⟩) hblt).trans (hcell k (by rw [HL.out]; omega))
    have hki : (k : Int) < (n : Int) := by omega
    have hz := hv (nthI l k) (by rw [nthI_get (by rw [HL.out]; omega)]; exact List.getElem_mem _)
    have hst := ppJ_step (l := l) (k := k) (by rw [HL.out]; omega)
    have hpl := ppJ_len l (k := k) (by omega)
    clear hcell
    generalize nthI l k = z at *
    obtain ⟨m, rfl⟩ := Int.eq_ofNat_of_zero_le (show 0 ≤ z by omega)
    have HD : Hid (∀ W, Calls Tryz.prog 55 #[.int .i64 (m : Int)] W fun e w' => e = .returned (.string (str (d4J (m : Int)))) ∧ Below W.heap.size W w') := fun W => l1Digits_any 3 m W (by omega) (by omega)
    have hdl := d4J_len (m : Int)
    by_cases hk0 : k = 0
    ·subst hk0
     rw [if_pos rfl] at hst
     rw [Nat.add_zero] at hc0
     have HS : Hid (str (ppJ l 0) ++ str (d4J (m : Int)) = str (ppJ l (0 + 1))) := by
      show _ = _
      rw [hst, show ppJ l 0 = [] from rfl, str_plusY, List.nil_append]
     have s0 : (str (ppJ l 0)).size = (ppJ l 0).length := str_size _
     have s1 : (str (d4J (m : Int))).size = (d4J (m : Int)).length := str_size _
     have z1 : ¬ 9223372036854775807 < (str (ppJ l 0)).size + (str (d4J (m : Int))).size := by omega
     clear hst s0 s1 hpl hdl
     generalize str (ppJ l 0) = p0 at *
     generalize str (d4J (m : Int)) = q0 at *
     obtain ⟨y, hy⟩ : ∃ y, p0 ++ q0 = y := ⟨_, rfl⟩
     go_wp2_with fail
     refine (HD.out _).mono ?_
     rintro e w1 ⟨rfl, hb1⟩
     have hbel1 := hbel.trans (hb1.mono hbel.size)
     have HY : Hid (y = str (ppJ l (0 + 1))) := by show _ = _; rw [← hy]; exact HS.out
     clear hb1 hbel HD HS
     go_wp2
     go_roundw
     case rel => exact ⟨0 + 1, by omega, by go_num, by rw [← HY.out], hbel1⟩
     case measure => simp [intOf]; omega
    ·rw [if_neg hk0] at hst
     have hk1 : (0 : Int) < (k : Int) := by omega
     have HS : Hid ((str (ppJ l k) ++ (⟨#[46]⟩ : ByteArray)) ++ str (d4J (m : Int)) = str (ppJ l (k + 1))) := by
      show _ = _
      rw [hst, show (⟨#[46]⟩ : ByteArray) = str [46] from rfl, str_plusY, str_plusY]
     have s0 : (str (ppJ l k)).size = (ppJ l k).length := str_size _
     have s1 : (str (d4J (m : Int))).size = (d4J (m : Int)).length := str_size _
     have z0 : ¬ 9223372036854775807 < (str (ppJ l k)).size + 1 := by omega
     obtain ⟨y1, hy1⟩ : ∃ y, str (ppJ l k) ++ (⟨#[46]⟩ : ByteArray) = y := ⟨_, rfl⟩
     have s2 : y1.size ≤ 16 := by rw [← hy1, ByteArray.size_append, s0]; show _ + 1 ≤ 16; omega
     have z1 : ¬ 9223372036854775807 < y1.size + (str (d4J (m : Int))).size := by omega
     clear hst s0 s1 hpl hdl s2
     generalize str (ppJ l k) = p0 at *
     generalize str (d4J (m : Int)) = q0 at *
     obtain ⟨y, hy⟩ : ∃ y, y1 ++ q0 = y := ⟨_, rfl⟩
     have HY : Hid (y = str (ppJ l (k + 1))) := by show _ = _; rw [← hy, ← hy1]; exact HS.out
     clear HS
     go_wp2_with fail
     refine (HD.out _).mono ?_
     rintro e w1 ⟨rfl, hb1⟩
     have hbel1 := hbel.trans (hb1.mono hbel.size)
     clear hb1 hbel HD
     go_wp2
     go_roundw
     case rel => exact ⟨k + 1, by omega, by go_num, by rw [← HY.out], hbel1⟩
     case measure => simp [intOf]; omega
   ·have hke : k = n := by omega
    subst hke
    have hki : ¬ (k : Int) < (k : Int) := by omega
    clear hr hv
    go_wp2
    go_ret
    exact ⟨by rw [HE.out]; rfl, hbel⟩
theorem l12Top_any (s : SlQ) (l : List TmR) {lo : Nat} (w : World) (hs : IsTs lo w s l) (h0 : tmV l = 0) :
  (1 ≤ s.2.1 ∧ s.2.1 ≤ 12) ∧ (tmJ l).length ≤ 9999000 ∧ ∀ W, Below w.heap.size w W → Calls Tryz.prog 61 #[slW s, .int .i64 ((s.2.1 : Int) - 1)] W fun e w' => e = .returned (.string (str (tmJ l))) ∧ Below W.heap.size W w' := by
 have hsl := hs.1
 obtain ⟨ps, hps⟩ := hs.2.2.2.ps
 have h0' : (trV l ps).2 = 0 := by rw [trV_tm]; exact h0
 obtain ⟨hn, hG, -⟩ := trV_tr h0'
 rcases hps with rfl | ⟨b, off, hsa, hblt, hc⟩
 ·simp at hn
 obtain ⟨sa, sn, sc⟩ := s
 dsimp only at hsa hsl ⊢
 subst hsa
 refine ⟨by omega, txT_lt hG hn.2 (by omega), fun W hb => ?_⟩
 rw [show (sn : Int) - 1 = ((l.length - 1 : Nat) : Int) by omega]
 exact l12Text_any b off sn sc l ps _ hsl hblt hc hG l.length hn.2 (l.length - 1) (by omega) (by omega) W hb
theorem whN_w : ∀ j, j < 7 → whN j = str (wdJ hwZ (j + 1))
 | 0, _ | 1, _ | 2, _ | 3, _ | 4, _ | 5, _ | 6, _ => rfl
 | j + 7, h => absurd h (by omega)
theorem cmN_w : ∀ j, j < 3 → cmN j = str (wdJ nwZ j)
 | 0, _ | 1, _ | 2, _ => rfl
 | j + 3, h => absurd h (by omega)
end Go.Proofs.YtjogclofjollnaaGreatDoor
namespace Go.Proofs.YtjogclofjollnaaGreatDoor
open Go.RowKit
set_option linter.unusedVariables false
set_option maxHeartbeats 12800000 in
set_option maxRecDepth 100000 in
theorem l14Form_0 (o : CmR) (p : SlC) (g : Nat) {lo : Nat} (w : World) (hs : IsCm lo w p o) (hq : Qm w g (cmQ o p)) (hb : bt o.k 1 14 = false) :
  Calls Tryz.prog 28 #[.pointer (some ⟨g, 0, none⟩)] w fun e w' => e = .returned (.bool (fmC o)) ∧ Below w.heap.size w w' := by
 have hl1 := hs.1.1
 have hl2 := hs.2.1.1
 have hl3 := hs.2.2.1.1
 have hl4 := hs.2.2.2.1
 clear hs
 obtain ⟨⟨a1, n1, c1⟩, ⟨a2, n2, c2⟩, ⟨a3, n3, c3⟩, ⟨a4, n4, c4⟩⟩ := p
 obtain ⟨xt, xk, xn, xy, xm, xf, xd, xb, xh, xp, xe, xr, xu, xc⟩ := o
 dsimp only at hl1 hl2 hl3 hl4 hb
 obtain ⟨e0, e1, e2, e3, e4, e5, e6, e7, e8, e9, e10, e11, e12, e13⟩ := hq
 dsimp only at e0 e1 e2 e3 e4 e5 e6 e7 e8 e9 e10 e11 e12 e13
 have HV : Hid (fmC ⟨xt, xk, xn, xy, xm, xf, xd, xb, xh, xp, xe, xr, xu, xc⟩ = (bt xk 1 14 && ((nmK xk || !decide (xn.size ≠ 0)) && (rgK xk || !decide (n1 ≠ 0))) && ((decide (xk = 7) || (!decide (xm ≠ 0) && (decide (xk = 6) || !decide (xf ≠ 0)))) && (((decide (xk = 6) || (!decide (xd ≠ 0) && !decide (n2 ≠ 0))) && (decide (xk = 11) || !decide (xh ≠ 0))) && (((ptK xh || !decide (n3 ≠ 0)) && (decide (xk = 13) || (!decide (xe ≠ 0) && !xr))) && ((tmK xk || !decide (n4 ≠ 0)) && (decide (xk = 14) || !decide (xc ≠ 0)))))))) := by
  show _ = _
  unfold fmC
  simp only [hl1, hl2, hl3, hl4]
 have HB : Hid (∀ w, Calls Tryz.prog 46 #[.int .i64 xk, .int .i64 1, .int .i64 14] w fun e w' => e = .returned (.bool (bt xk 1 14)) ∧ w = w') := fun w => l1In_bt _ _ _ w
 rw [hb] at HV
 rw [hb] at HB
 generalize fmC ⟨xt, xk, xn, xy, xm, xf, xd, xb, xh, xp, xe, xr, xu, xc⟩ = r at *
 clear hl1 hl2 hl3 hl4 hb
 have HR : Hid (r = false) := HV.out.trans (by simp)
 clear HV
 go_enter Tryz.func28, Tryz.ntmps28
 go_wp2_with (first | (go_at_call 46; refine (HB.out _).mono ?_; rintro e w' ⟨rfl, rfl⟩))
 go_ret
 exact ⟨by rw [HR.out]; first | rfl | simp, Below.refl _ _⟩
end Go.Proofs.YtjogclofjollnaaGreatDoor
