/- The laws' own type of terms; no conditions · The laws' own type of commands; no conditions · Each helper of the laws over slices of bytes does what its text says: it copies one, and holds two against each other; slices of at most 1048576 bytes · Messages: their size, a copy, whether two are the same, and their fault, on both sides; no conditions beyond those that each fact names · Messages: the laws' helpers: a message's size, a copy, whether two are the same; no conditions beyond those that each fact names · Each helper of the laws over slices of whole numbers does what its text says: it copies one, and holds two against each other; slices of at most 1048576 numbers · Ops: the laws' helpers: an op's size, a copy, whether two are the same; no conditions beyond those that each fact names · The laws' helpers over slices of ranges: they copy one, reckon its size, and hold two against each other. -/
import Derived.Test.YtjogclofjollnaaGreatDoorRows
import Derived.Test.YtjogclofjollnaaGreatDoorOpmToCmi
import Derived.Test.YtjogclofjollnaaGreatDoorJfzToApp
import Derived.Test.YtjogclofjollnaaGreatDoorMrk0ToMemI
import Derived.Deep.RegionHeld3
import Derived.Test.YtjogclofjollnaaGreatDoorProg
import Derived.BigQuiet
import Derived.Deep.QuietTactic
import Derived.KernelRfl
import Derived.Test.YtjogclofjollnaaGreatDoorOpoToMemY
import Derived.Handy
import Derived.Below
namespace Go.Proofs.YtjogclofjollnaaGreatDoor
open Go.RowKit
theorem tmT : TmT Tryz.prog 62 := ⟨_, _, _, _, _, _, _, _, _, _, _, _, Tryz.underlying62, ⟨rfl, rfl, rfl, rfl, rfl, rfl⟩, ⟨rfl, rfl, rfl, rfl, rfl, rfl⟩, Tryz.underlying2, Tryz.underlying24, Tryz.underlying22, Tryz.underlying72, ⟨rfl, rfl, rfl, rfl⟩, by kernel_rfl, by kernel_rfl, by kernel_rfl, by kernel_rfl, by kernel_rfl⟩
end Go.Proofs.YtjogclofjollnaaGreatDoor
namespace Go.Proofs.YtjogclofjollnaaGreatDoor
open Go.RowKit
theorem cmT : CmT Tryz.prog 27 := ⟨_, _, _, _, _, _, _, _, _, _, _, _, _, _, _, _, _, _, _, _, _, _, _, _, _, _, Tryz.underlying27, ⟨rfl, rfl, rfl, rfl, rfl, rfl, rfl, rfl, rfl, rfl, rfl, rfl, rfl, rfl⟩, ⟨rfl, rfl, rfl, rfl, rfl, rfl, rfl, rfl, rfl, rfl, rfl, rfl, rfl, rfl⟩, Tryz.underlying2, Tryz.underlying9, Tryz.underlying4, Tryz.underlying24, Tryz.underlying23, Tryz.underlying5, Tryz.underlying22, Tryz.underlying72, ⟨rfl, rfl, rfl, rfl⟩, Tryz.underlying25, tmT, ⟨by kernel_rfl, by kernel_rfl, by kernel_rfl, by kernel_rfl, by kernel_rfl, by kernel_rfl, by kernel_rfl, by kernel_rfl, by kernel_rfl, by kernel_rfl⟩⟩
end Go.Proofs.YtjogclofjollnaaGreatDoor
namespace Go.Proofs.YtjogclofjollnaaGreatDoor
open Go.RowKit
set_option maxHeartbeats 800000 in
set_option maxRecDepth 100000 in
theorem toByteS_any (a : Option Addr) (n cap : Nat) (l : List Nat) (w : World) (hl : l.length = n) (hr : Rd w a l) (hn : n ≤ 1048576) :
  Calls Tryz.prog 17 #[.slice a n cap] w fun e w' =>
   e = .returned (.slice (some ⟨w.heap.size, 0, none⟩) n n) ∧ w'.ownsRow w.heap.size 5 1 (.slice (some ⟨w.heap.size, 0, none⟩) n n) n (bc l) ∧ Below w.heap.size w w' := by
 obtain ⟨i0, hi, hz0, hz1, hz2⟩ := info_parts infoB
 go_enter Tryz.func17, Tryz.ntmps17
 go_wp2_with (at_make; refine wpList_make_full _ rfl _ _ 23 rfl w.heap.size 5 i0 (.int .u8 0) 1 Tryz.underlying23 hi hz0 hz1 .i64 .i64 _ _ n rfl rfl rfl rfl (by rw [hz2]; omega) (by unfold maxLen; omega) (Nat.le_refl _) ?_; intro w0 hown0 hgrow0)
 rw [made_bytes, ← hl, ← half_zero l, hl] at hown0
 have hbel0 : Below w.heap.size w w0 := (Below.refl _ _).grown hgrow0 (Nat.le_refl _) (by intro k hk; cases hk)
 clear hgrow0
 go_loopw [4] (fun i wr => ∃ k : Nat, k ≤ n ∧ i = .int .i64 k ∧ wr.ownsRow w.heap.size 5 1 (.slice (some ⟨w.heap.size, 0, none⟩) n n) n (bc (half l k)) ∧ Below w.heap.size w wr)
  (fun i _ => n - (intOf i).toNat)
 case atStart => exact ⟨0, Nat.zero_le _, rfl, hown0, hbel0⟩
 case round =>
  obtain ⟨k, hk, rfl, hown, hbel⟩ := hrel
  clear hown0 hbel0
  by_cases hkn : k < n
  ·obtain ⟨b, off, rfl, hblt, hcell⟩ := hr.at_ (by omega)
   have hc : wr.cell? ⟨b, off + k, none⟩ = some (.int .u8 (nth l k : Int)) := (hbel.cell (p := ⟨b, off + k, none⟩) hblt).trans (hcell k (by omega))
   have hk' : k < (half l k).length := by rw [half_len l k (by omega)]; omega
   have hg : wr.cell? ⟨w.heap.size, k, none⟩ = some (.int .u8 (nth (half l k) k : Int)) := by rw [hown.cellAt k (by omega)]; exact bc_get hk'
   have hf := hown.frozenAt k
   obtain ⟨hst, hgr⟩ := hown.stored k (.int .u8 (nth l k : Int))
   rw [half_set l k (by omega)] at hst
   have hbel' : Below w.heap.size w (wr.setCell ⟨w.heap.size, k, none⟩ (.int .u8 (nth l k : Int))) := hbel.grown hgr hbel.size (by intro j hj; simp at hj; omega)
   clear hgr hcell hown
   go_wp2
   go_roundw
   case rel => exact ⟨k + 1, by omega, by go_num, hst, hbel'⟩
   case measure => simp [intOf]; omega
  ·have hkk : k = n := by omega
   subst hkk
   rw [← hl, half_all, hl] at hown
   go_wp2
   go_ret
   exact ⟨rfl, hown, hbel⟩
set_option maxHeartbeats 800000 in
set_option maxRecDepth 100000 in
theorem eqByteS_same (a c : Option Addr) (n cap cap' : Nat) (l : List Nat) (w : World) (hl : l.length = n) (hr : Rd w a l) (hs : Rd w c l) (hn : n ≤ 1048576) :
  Calls Tryz.prog 23 #[.slice a n cap, .slice c n cap'] w fun e w' => e = .returned (.bool true) ∧ Below w.heap.size w w' := by
 go_enter Tryz.func23, Tryz.ntmps23
 go_wp2
 go_loopw [5] (fun i wr => ∃ k : Nat, k ≤ n ∧ i = .int .i64 k ∧ Below w.heap.size w wr) (fun i _ => n - (intOf i).toNat)
 case atStart => exact ⟨0, Nat.zero_le _, rfl, Below.refl _ _⟩
 case round =>
  obtain ⟨k, hk, rfl, hbel⟩ := hrel
  by_cases hkn : k < n
  ·obtain ⟨b, off, rfl, hblt, hcell⟩ := hr.at_ (by omega)
   obtain ⟨d, off', rfl, hdlt, hdell⟩ := hs.at_ (by omega)
   have hc : wr.cell? ⟨b, off + k, none⟩ = some (.int .u8 (nth l k : Int)) := (hbel.cell (p := ⟨b, off + k, none⟩) hblt).trans (hcell k (by omega))
   have hd : wr.cell? ⟨d, off' + k, none⟩ = some (.int .u8 (nth l k : Int)) := (hbel.cell (p := ⟨d, off' + k, none⟩) hdlt).trans (hdell k (by omega))
   have hki : (k : Int) < (n : Int) := by omega
   clear hcell hdell hr hs
   go_wp2
   go_quiet (fail)
   go_wp2
   go_roundw
   case rel => exact ⟨k + 1, by omega, by go_num, below_drewN hbel _⟩
   case measure => simp [intOf]; omega
  ·go_wp2
   go_ret
   exact ⟨rfl, hbel⟩
end Go.Proofs.YtjogclofjollnaaGreatDoor
namespace Go.Proofs.YtjogclofjollnaaGreatDoor
open Go.RowKit
def bt (c a b : Int) : Bool := decide (a ≤ c ∧ c ≤ b)
theorem l1In_bt (c a b : Int) (w : World) : Calls Tryz.prog 46 #[.int .i64 c, .int .i64 a, .int .i64 b] w fun e w' => e = .returned (.bool (bt c a b)) ∧ w = w' := by
 by_cases h1 : a ≤ c
 ·by_cases h2 : c ≤ b
  ·have H : Hid (bt c a b = true) := by show bt c a b = true; simp [bt, h1, h2]
   go_enter Tryz.func46, Tryz.ntmps46
   go_wp2
   go_ret
   exact ⟨by rw [H.out]; rfl, rfl⟩
  ·have H : Hid (bt c a b = false) := by show bt c a b = false; simp [bt, h2]
   go_enter Tryz.func46, Tryz.ntmps46
   go_wp2
   go_ret
   exact ⟨by rw [H.out]; rfl, rfl⟩
 ·have H : Hid (bt c a b = false) := by show bt c a b = false; simp [bt, h1]
  go_enter Tryz.func46, Tryz.ntmps46
  go_wp2
  go_ret
  exact ⟨by rw [H.out]; rfl, rfl⟩
theorem isBetween_bt (c a b : Int) (w : World) : Calls Tryz.prog 65 #[.int .i64 c, .int .i64 a, .int .i64 b] w fun e w' => e = .returned (.bool (bt c a b)) ∧ w = w' := by
 by_cases h1 : a ≤ c
 ·by_cases h2 : c ≤ b
  ·have H : Hid (bt c a b = true) := by show bt c a b = true; simp [bt, h1, h2]
   go_enter Tryz.func65, Tryz.ntmps65
   go_wp2
   go_ret
   exact ⟨by rw [H.out]; rfl, rfl⟩
  ·have H : Hid (bt c a b = false) := by show bt c a b = false; simp [bt, h2]
   go_enter Tryz.func65, Tryz.ntmps65
   go_wp2
   go_ret
   exact ⟨by rw [H.out]; rfl, rfl⟩
 ·have H : Hid (bt c a b = false) := by show bt c a b = false; simp [bt, h1]
  go_enter Tryz.func65, Tryz.ntmps65
  go_wp2
  go_ret
  exact ⟨by rw [H.out]; rfl, rfl⟩
theorem areFlags_bt (c : Int) (w : World) : Calls Tryz.prog 97 #[.int .i64 c] w fun e w' => e = .returned (.bool (bt c 0 15)) ∧ w = w' := by
 have HC := isBetween_bt c 0 15
 generalize bt c 0 15 = r at *
 go_enter Tryz.func97, Tryz.ntmps97
 go_wp2_with (first | (go_at_call 65; refine (HC _).mono ?_; rintro e w' ⟨rfl, rfl⟩))
 go_ret
 exact ⟨rfl, rfl⟩
end Go.Proofs.YtjogclofjollnaaGreatDoor
namespace Go.Proofs.YtjogclofjollnaaGreatDoor
open Go.RowKit
def SzQ (left : Int) (C : Prop) (w : World) (e : Ending) (w' : World) : Prop := ∃ r : Int, e = .returned (.int .i64 r) ∧ (r = -1 ∨ 0 ≤ r ∧ r ≤ left ∧ C) ∧ Below w.heap.size w w'
theorem szByteS_any (s : SlQ) (left : Int) (w : World) (h0 : 0 ≤ left) (h1 : left ≤ 1048576) (hn : s.2.1 ≤ maxLen) :
  Calls Tryz.prog 11 #[slW s, .int .i64 left] w fun e w' => SzQ left (s.2.1 ≤ 1048576) w e w' := by
 obtain ⟨a, n, cap⟩ := s
 dsimp only at *
 unfold maxLen at hn
 by_cases c1 : left - (n : Int) < 0
 ·go_enter Tryz.func11, Tryz.ntmps11
  go_wp2
  go_ret
  exact ⟨-1, rfl, .inl rfl, by go_grown⟩
 ·go_enter Tryz.func11, Tryz.ntmps11
  go_wp2
  go_ret
  exact ⟨left - (n : Int), rfl, .inr ⟨by omega, by omega, by omega⟩, by go_grown⟩
def Qc (w : World) (g : Nat) (q : Qd) : Prop := w.cell? ⟨g, 0, none⟩ = some q.1 ∧ w.cell? ⟨g, 1, none⟩ = some q.2.1 ∧ w.cell? ⟨g, 2, none⟩ = some q.2.2.1 ∧ w.cell? ⟨g, 3, none⟩ = some q.2.2.2
theorem Qc.below {C : Nat} {w w' : World} {g : Nat} {q : Qd} (h : Qc w g q) (hb : Below C w w') (hg : g < C) : Qc w' g q :=
 ⟨(hb.cell (p := ⟨g, 0, none⟩) hg).trans h.1, (hb.cell (p := ⟨g, 1, none⟩) hg).trans h.2.1, (hb.cell (p := ⟨g, 2, none⟩) hg).trans h.2.2.1, (hb.cell (p := ⟨g, 3, none⟩) hg).trans h.2.2.2⟩
theorem Qc.new (w : World) (c0 c1 c2 c3 : Value) (t : TypeId) : Qc (w.alloc (.cells #[c0, c1, c2, c3] t)) w.heap.size (c0, c1, c2, c3) := ⟨by simp, by simp, by simp, by simp⟩
theorem Qc.lt {w : World} {g : Nat} {q : Qd} (h : Qc w g q) : g < w.heap.size := World.block_lt_of_cell? w ⟨g, 0, none⟩ h.1
end Go.Proofs.YtjogclofjollnaaGreatDoor
namespace Go.Proofs.YtjogclofjollnaaGreatDoor
open Go.RowKit
theorem infoBI : (Tryz.prog.info? 2).map (fun i => (i.zero, i.size, i.bytes)) = some (some (.int .i64 0), 1, 8) := by kernel_rfl
set_option maxHeartbeats 800000 in
set_option maxRecDepth 100000 in
theorem toInt64S_any (a : Option Addr) (n cap : Nat) (l : List Int) (w : World) (hl : l.length = n) (hr : RdI w a l) (hn : n ≤ 1048576) :
  Calls Tryz.prog 18 #[.slice a n cap] w fun e w' =>
   e = .returned (.slice (some ⟨w.heap.size, 0, none⟩) n n) ∧ w'.ownsRow w.heap.size 2 1 (.slice (some ⟨w.heap.size, 0, none⟩) n n) n (ic l) ∧ Below w.heap.size w w' := by
 obtain ⟨i0, hi, hz0, hz1, hz2⟩ := info_parts infoBI
 go_enter Tryz.func18, Tryz.ntmps18
 go_wp2_with (at_make; refine wpList_make_full _ rfl _ _ 24 rfl w.heap.size 2 i0 (.int .i64 0) 1 Tryz.underlying24 hi hz0 hz1 .i64 .i64 _ _ n rfl rfl rfl rfl (by rw [hz2]; omega) (by unfold maxLen; omega) (Nat.le_refl _) ?_; intro w0 hown0 hgrow0)
 rw [made_bytesI, ← hl, ← halfI_zero l, hl] at hown0
 have hbel0 : Below w.heap.size w w0 := (Below.refl _ _).grown hgrow0 (Nat.le_refl _) (by intro k hk; cases hk)
 clear hgrow0
 go_loopw [4] (fun i wr => ∃ k : Nat, k ≤ n ∧ i = .int .i64 k ∧ wr.ownsRow w.heap.size 2 1 (.slice (some ⟨w.heap.size, 0, none⟩) n n) n (ic (halfI l k)) ∧ Below w.heap.size w wr)
  (fun i _ => n - (intOf i).toNat)
 case atStart => exact ⟨0, Nat.zero_le _, rfl, hown0, hbel0⟩
 case round =>
  obtain ⟨k, hk, rfl, hown, hbel⟩ := hrel
  clear hown0 hbel0
  by_cases hkn : k < n
  ·obtain ⟨b, off, rfl, hblt, hcell⟩ := hr.at_ (by omega)
   have hc : wr.cell? ⟨b, off + k, none⟩ = some (.int .i64 (nthI l k)) := (hbel.cell (p := ⟨b, off + k, none⟩) hblt).trans (hcell k (by omega))
   have hk' : k < (halfI l k).length := by rw [halfI_len l k (by omega)]; omega
   have hg : wr.cell? ⟨w.heap.size, k, none⟩ = some (.int .i64 (nthI (halfI l k) k)) := by rw [hown.cellAt k (by omega)]; exact ic_get hk'
   have hf := hown.frozenAt k
   obtain ⟨hst, hgr⟩ := hown.stored k (.int .i64 (nthI l k))
   rw [halfI_set l k (by omega)] at hst
   have hbel' : Below w.heap.size w (wr.setCell ⟨w.heap.size, k, none⟩ (.int .i64 (nthI l k))) := hbel.grown hgr hbel.size (by intro j hj; simp at hj; omega)
   clear hgr hcell hown
   go_wp2
   go_roundw
   case rel => exact ⟨k + 1, by omega, by go_num, hst, hbel'⟩
   case measure => simp [intOf]; omega
  ·have hkk : k = n := by omega
   subst hkk
   rw [← hl, halfI_all, hl] at hown
   go_wp2
   go_ret
   exact ⟨rfl, hown, hbel⟩
set_option maxHeartbeats 800000 in
set_option maxRecDepth 100000 in
theorem eqInt64S_same (a c : Option Addr) (n cap cap' : Nat) (l : List Int) (w : World) (hl : l.length = n) (hr : RdI w a l) (hs : RdI w c l) (hn : n ≤ 1048576) :
  Calls Tryz.prog 24 #[.slice a n cap, .slice c n cap'] w fun e w' => e = .returned (.bool true) ∧ Below w.heap.size w w' := by
 go_enter Tryz.func24, Tryz.ntmps24
 go_wp2
 go_loopw [5] (fun i wr => ∃ k : Nat, k ≤ n ∧ i = .int .i64 k ∧ Below w.heap.size w wr) (fun i _ => n - (intOf i).toNat)
 case atStart => exact ⟨0, Nat.zero_le _, rfl, Below.refl _ _⟩
 case round =>
  obtain ⟨k, hk, rfl, hbel⟩ := hrel
  by_cases hkn : k < n
  ·obtain ⟨b, off, rfl, hblt, hcell⟩ := hr.at_ (by omega)
   obtain ⟨d, off', rfl, hdlt, hdell⟩ := hs.at_ (by omega)
   have hc : wr.cell? ⟨b, off + k, none⟩ = some (.int .i64 (nthI l k)) := (hbel.cell (p := ⟨b, off + k, none⟩) hblt).trans (hcell k (by omega))
   have hd : wr.cell? ⟨d, off' + k, none⟩ = some (.int .i64 (nthI l k)) := (hbel.cell (p := ⟨d, off' + k, none⟩) hdlt).trans (hdell k (by omega))
   have hki : (k : Int) < (n : Int) := by omega
   clear hcell hdell hr hs
   go_wp2
   go_quiet (fail)
   go_wp2
   go_roundw
   case rel => exact ⟨k + 1, by omega, by go_num, below_drewN hbel _⟩
   case measure => simp [intOf]; omega
  ·go_wp2
   go_ret
   exact ⟨rfl, hbel⟩
end Go.Proofs.YtjogclofjollnaaGreatDoor
namespace Go.Proofs.YtjogclofjollnaaGreatDoor
open Go.RowKit
theorem szInt64S_any (s : SlQ) (left : Int) (w : World) (h0 : 0 ≤ left) (h1 : left ≤ 1048576) (hn : s.2.1 ≤ maxLen) :
  Calls Tryz.prog 12 #[slW s, .int .i64 left] w fun e w' => SzQ left (s.2.1 ≤ 1048576) w e w' := by
 obtain ⟨a, n, cap⟩ := s
 dsimp only at *
 unfold maxLen at hn
 by_cases c1 : left - (n : Int) < 0
 ·go_enter Tryz.func12, Tryz.ntmps12
  go_wp2
  go_ret
  exact ⟨-1, rfl, .inl rfl, by go_grown⟩
 ·go_enter Tryz.func12, Tryz.ntmps12
  go_wp2
  go_ret
  exact ⟨left - (n : Int), rfl, .inr ⟨by omega, by omega, by omega⟩, by go_grown⟩
theorem toIl_any (s : SlQ) (l : List Int) {lo : Nat} (w : World) (hs : IsIl lo w s l) (hn : l.length ≤ 1048576) :
  Calls Tryz.prog 18 #[slW s] w fun e w' => ∃ s', e = .returned (slW s') ∧ IsIl w.heap.size w' s' l ∧ Below w.heap.size w w' :=
 (toInt64S_any s.1 s.2.1 s.2.2 l w hs.1 hs.2.2.2.1 (by rw [← hs.1]; exact hn)).mono fun _ _ ⟨he, ho, hb⟩ => ⟨(some ⟨w.heap.size, 0, none⟩, s.2.1, s.2.1), he, ⟨hs.1, Nat.le_refl _, by dsimp only; rw [← hs.1]; unfold maxLen; omega, RdI.own ho, fun x hx => by cases hx; exact Nat.le_refl _⟩, hb⟩
theorem toSl_any (s : SlQ) (l : List Nat) {lo : Nat} (w : World) (hs : IsSl lo w s l) (hn : l.length ≤ 1048576) :
  Calls Tryz.prog 17 #[slW s] w fun e w' => ∃ s', e = .returned (slW s') ∧ IsSl w.heap.size w' s' l ∧ Below w.heap.size w w' :=
 (toByteS_any s.1 s.2.1 s.2.2 l w hs.1 hs.2.2.2.2.1 (by rw [← hs.1]; exact hn)).mono fun _ _ ⟨he, ho, hb⟩ => ⟨(some ⟨w.heap.size, 0, none⟩, s.2.1, s.2.1), he, ⟨hs.1, Nat.le_refl _, by dsimp only; rw [← hs.1]; unfold maxLen; omega, hs.2.2.2.1, Rd.own ho, fun x hx => by cases hx; exact Nat.le_refl _⟩, hb⟩
theorem eqIl_same (s s' : SlQ) (l : List Int) {lo lo' : Nat} (w : World) (hs : IsIl lo w s l) (hs' : IsIl lo' w s' l) (hn : l.length ≤ 1048576) :
  Calls Tryz.prog 24 #[slW s, slW s'] w fun e w' => e = .returned (.bool true) ∧ Below w.heap.size w w' := by
 have he : s'.2.1 = s.2.1 := by rw [← hs.1, ← hs'.1]
 have := eqInt64S_same s.1 s'.1 s.2.1 s.2.2 s'.2.2 l w hs.1 hs.2.2.2.1 hs'.2.2.2.1 (by rw [← hs.1]; exact hn)
 unfold slW
 rw [he]
 exact this
theorem eqSl_same (s s' : SlQ) (l : List Nat) {lo lo' : Nat} (w : World) (hs : IsSl lo w s l) (hs' : IsSl lo' w s' l) (hn : l.length ≤ 1048576) :
  Calls Tryz.prog 23 #[slW s, slW s'] w fun e w' => e = .returned (.bool true) ∧ Below w.heap.size w w' := by
 have he : s'.2.1 = s.2.1 := by rw [← hs.1, ← hs'.1]
 have := eqByteS_same s.1 s'.1 s.2.1 s.2.2 s'.2.2 l w hs.1 hs.2.2.2.2.1 hs'.2.2.2.2.1 (by rw [← hs.1]; exact hn)
 unfold slW
 rw [he]
 exact this
end Go.Proofs.YtjogclofjollnaaGreatDoor
namespace Go.Proofs.YtjogclofjollnaaGreatDoor
open Go.RowKit
theorem made_ranges (n : Nat) : (madeCells #[Value.int .i64 0, Value.int .i64 0] (n * 2)).toList = yc (List.replicate n (0, 0)) := by
 apply List.ext_getElem?
 intro j
 by_cases hj : j < n * 2
 ·have h1 : (madeCells #[Value.int .i64 0, Value.int .i64 0] (n * 2)).toList[j]? = some (.int .i64 0) := by
   have hm : j % 2 = 0 ∨ j % 2 = 1 := by omega
   rcases hm with hm | hm <;> simp [madeCells, hj, hm]
  have hi : j / 2 < (List.replicate n ((0, 0) : YgP)).length := by rw [List.length_replicate]; omega
  have hf := yc_get (List.replicate n (0, 0)) (j / 2) hi
  rw [nthY_get hi, List.getElem_replicate] at hf
  rw [h1]
  have hm : j = j / 2 * 2 ∨ j = j / 2 * 2 + 1 := by omega
  rcases hm with hm | hm
  ·rw [hm]; exact hf.1.symm
  ·rw [hm]; exact hf.2.symm
 ·rw [List.getElem?_eq_none (by simp [madeCells]; omega), List.getElem?_eq_none (by rw [yc_len, List.length_replicate]; omega)]
def halfY (l : List YgP) (k : Nat) : List YgP := l.take k ++ List.replicate (l.length - k) (0, 0)
theorem halfY_zero (l : List YgP) : halfY l 0 = List.replicate l.length (0, 0) := by simp [halfY]
theorem halfY_all (l : List YgP) : halfY l l.length = l := by simp [halfY]
theorem halfY_len (l : List YgP) (k : Nat) (h : k ≤ l.length) : (halfY l k).length = l.length := by simp [halfY]; omega
theorem yc_set : ∀ (l : List YgP) (k : Nat) (p : YgP), k < l.length → ((yc l).set (k * 2) (.int .i64 p.1)).set (k * 2 + 1) (.int .i64 p.2) = yc (l.set k p)
 | [], _, _, h => by simp at h
 | q :: l, 0, p, _ => rfl
 | q :: l, k + 1, p, h => by
  have := yc_set l k p (by simpa using h)
  rw [yc_cons, show (k + 1) * 2 = k * 2 + 1 + 1 by omega, List.set_cons_succ, List.set_cons_succ, List.set_cons_succ, List.set_cons_succ, this, List.set_cons_succ, yc_cons]
theorem halfY_set (l : List YgP) (k : Nat) (h : k < l.length) : (halfY l k).set k (nthY l k) = halfY l (k + 1) := by
 have e : l.length - k = (l.length - (k + 1)) + 1 := by omega
 unfold halfY
 have hk : (l.take k).length = k := by simp; omega
 rw [take_snocY l k h, List.set_append, hk, if_neg (Nat.lt_irrefl k), e, List.replicate_succ, Nat.sub_self]
 simp
set_option maxHeartbeats 800000 in
set_option maxRecDepth 100000 in
theorem toRange_any (x y : Int) (w : World) : Calls Tryz.prog 38 #[.agg #[.int .i64 x, .int .i64 y]] w fun e w' => e = .returned (.agg #[.int .i64 x, .int .i64 y]) ∧ Below w.heap.size w w' := by
 go_enter Tryz.func38, Tryz.ntmps38
 go_wp2
 go_returns
 exact ⟨rfl, by go_grown⟩
set_option maxHeartbeats 1600000 in
set_option maxRecDepth 100000 in
theorem toRangeS_any (a : Option Addr) (n cap : Nat) (l : List YgP) (w : World) (hl : l.length = n) (hr : RdY w a l) (hn : n ≤ 1048576) :
  Calls Tryz.prog 16 #[.slice a n cap] w fun e w' =>
   e = .returned (.slice (some ⟨w.heap.size, 0, none⟩) n n) ∧ OwnY w' w.heap.size (.slice (some ⟨w.heap.size, 0, none⟩) n n) l ∧ Below w.heap.size w w' := by
 obtain ⟨i0, hi, hz0, hz1, hz2⟩ := info_parts infoY
 go_enter Tryz.func16, Tryz.ntmps16
 go_wp2_with (at_make; refine wpList_make_full _ rfl _ _ 32 rfl w.heap.size 70 i0 zeroY 2 Tryz.underlying32 hi hz0 hz1 .i64 .i64 _ _ n rfl rfl rfl rfl (by rw [hz2]; omega) (by unfold maxLen; omega) (Nat.le_refl _) ?_; intro w0 hown0 hgrow0)
 have hown0' : w0.ownsRow w.heap.size 70 2 (.slice (some ⟨w.heap.size, 0, none⟩) n n) n (yc (halfY l 0)) := by
  rw [halfY_zero, hl, ← made_ranges]
  exact hown0
 have hbel0 : Below w.heap.size w w0 := (Below.refl _ _).grown hgrow0 (Nat.le_refl _) (by intro k hk; cases hk)
 clear hgrow0 hown0
 go_loopw [4] (fun i wr => ∃ k : Nat, k ≤ n ∧ i = .int .i64 k ∧ wr.ownsRow w.heap.size 70 2 (.slice (some ⟨w.heap.size, 0, none⟩) n n) n (yc (halfY l k)) ∧ Below w.heap.size w wr)
  (fun i _ => n - (intOf i).toNat)
 case atStart => exact ⟨0, Nat.zero_le _, rfl, hown0', hbel0⟩
 case round =>
  obtain ⟨k, hk, rfl, hown, hbel⟩ := hrel
  clear hown0' hbel0
  by_cases hkn : k < n
  ·obtain ⟨b, off, rfl, hblt, hcell⟩ := hr.at_ (by omega)
   have hc0 : wr.cell? ⟨b, off + k * 2, none⟩ = some (.int .i64 (nthY l k).1) := (hbel.cell (p := ⟨b, off + k * 2, none⟩) hblt).trans (hcell k (by omega)).1
   have hc1 : wr.cell? ⟨b, off + k * 2 + 1, none⟩ = some (.int .i64 (nthY l k).2) := (hbel.cell (p := ⟨b, off + k * 2 + 1, none⟩) hblt).trans (hcell k (by omega)).2
   have hkk : k < (halfY l k).length := by rw [halfY_len l k (by omega)]; omega
   have hki : (k : Int) < (n : Int) := by omega
   have HFS : Hid (yc ((halfY l k).set k (nthY l k)) = yc (halfY l (k + 1))) := by
    show _ = _
    rw [halfY_set l k (by omega)]
   clear hcell
   generalize nthY l k = p at *
   obtain ⟨x, y⟩ := p
   simp only at hc0 hc1
   go_wp2_with fail
   refine (toRange_any x y _).mono ?_
   rintro e w1 ⟨rfl, hb1⟩
   have hown1 : w1.ownsRow w.heap.size 70 2 (.slice (some ⟨w.heap.size, 0, none⟩) n n) n (yc (halfY l k)) := by
    have h := (show OwnY wr w.heap.size (.slice (some ⟨w.heap.size, 0, none⟩) n n) (halfY l k) by unfold OwnY; rw [halfY_len l k (by omega), hl]; exact hown).below hb1 (Nat.le_refl _)
    unfold OwnY at h
    rw [halfY_len l k (by omega), hl] at h
    exact h
   have hbel1 : Below w.heap.size w w1 := hbel.trans (hb1.mono hbel.size)
   have f := yc_get (halfY l k) k hkk
   have g0 : w1.cell? ⟨w.heap.size, k * 2, none⟩ = some (.int .i64 (nthY (halfY l k) k).1) := by rw [hown1.cellAt (k * 2) (by omega)]; exact f.1
   have g1 : w1.cell? ⟨w.heap.size, k * 2 + 1, none⟩ = some (.int .i64 (nthY (halfY l k) k).2) := by rw [hown1.cellAt (k * 2 + 1) (by omega)]; exact f.2
   have z0 := hown1.frozenAt (k * 2)
   have z1 := hown1.frozenAt (k * 2 + 1)
   obtain ⟨hst, hgr⟩ := hown1.stored (k * 2) (.int .i64 x)
   obtain ⟨hst2, hgr2⟩ := hst.stored (k * 2 + 1) (.int .i64 y)
   rw [yc_set (halfY l k) k (x, y) hkk] at hst2
   have HB2 : Hid (Below w.heap.size w ((w1.setCell ⟨w.heap.size, k * 2, none⟩ (.int .i64 x)).setCell ⟨w.heap.size, k * 2 + 1, none⟩ (.int .i64 y))) := (hbel1.setCell (by simp) _).setCell (by simp) _
   have HO2 : Hid (((w1.setCell ⟨w.heap.size, k * 2, none⟩ (.int .i64 x)).setCell ⟨w.heap.size, k * 2 + 1, none⟩ (.int .i64 y)).ownsRow w.heap.size 70 2 (.slice (some ⟨w.heap.size, 0, none⟩) n n) n (yc (halfY l (k + 1)))) := by
    rw [← HFS.out]; exact hst2
   generalize (nthY (halfY l k) k).1 = p0 at *
   generalize (nthY (halfY l k) k).2 = p1 at *
   clear hst hst2 hgr hgr2 hown1 hown hb1 f HFS hbel
   go_wp2
   go_roundw
   case rel => exact ⟨k + 1, by omega, by go_num, HO2.out, HB2.out⟩
   case measure => simp [intOf]; omega
  ·have hkk : k = n := by omega
   subst hkk
   rw [← hl, halfY_all, hl] at hown
   have hki : ¬ (k : Int) < (k : Int) := by omega
   have HO : Hid (OwnY wr w.heap.size (.slice (some ⟨w.heap.size, 0, none⟩) k k) l) := by
    show OwnY _ _ _ _
    unfold OwnY
    rw [hl]
    exact hown
   clear hown
   go_wp2
   go_ret
   exact ⟨rfl, HO.out, hbel⟩
set_option maxHeartbeats 800000 in
set_option maxRecDepth 100000 in
theorem eqRange_same (x y : Int) (w : World) : Calls Tryz.prog 44 #[.agg #[.int .i64 x, .int .i64 y], .agg #[.int .i64 x, .int .i64 y]] w fun e w' => e = .returned (.bool true) ∧ Below w.heap.size w w' := by
 go_enter Tryz.func44, Tryz.ntmps44
 go_wp2
 go_ret
 exact ⟨rfl, by go_grown⟩
set_option maxHeartbeats 1600000 in
set_option maxRecDepth 100000 in
theorem eqRangeS_same (a c : Option Addr) (n cap cap' : Nat) (l : List YgP) (w : World) (hl : l.length = n) (hr : RdY w a l) (hs : RdY w c l) (hn : n ≤ 1048576) :
  Calls Tryz.prog 22 #[.slice a n cap, .slice c n cap'] w fun e w' => e = .returned (.bool true) ∧ Below w.heap.size w w' := by
 go_enter Tryz.func22, Tryz.ntmps22
 go_wp2
 go_loopw [5] (fun i wr => ∃ k : Nat, k ≤ n ∧ i = .int .i64 k ∧ Below w.heap.size w wr) (fun i _ => n - (intOf i).toNat)
 case atStart => exact ⟨0, Nat.zero_le _, rfl, Below.refl _ _⟩
 case round =>
  obtain ⟨k, hk, rfl, hbel⟩ := hrel
  by_cases hkn : k < n
  ·obtain ⟨b, off, rfl, hblt, hcell⟩ := hr.at_ (by omega)
   obtain ⟨d, off', rfl, hdlt, hdell⟩ := hs.at_ (by omega)
   have hc0 : wr.cell? ⟨b, off + k * 2, none⟩ = some (.int .i64 (nthY l k).1) := (hbel.cell (p := ⟨b, off + k * 2, none⟩) hblt).trans (hcell k (by omega)).1
   have hc1 : wr.cell? ⟨b, off + k * 2 + 1, none⟩ = some (.int .i64 (nthY l k).2) := (hbel.cell (p := ⟨b, off + k * 2 + 1, none⟩) hblt).trans (hcell k (by omega)).2
   have hd0 : wr.cell? ⟨d, off' + k * 2, none⟩ = some (.int .i64 (nthY l k).1) := (hbel.cell (p := ⟨d, off' + k * 2, none⟩) hdlt).trans (hdell k (by omega)).1
   have hd1 : wr.cell? ⟨d, off' + k * 2 + 1, none⟩ = some (.int .i64 (nthY l k).2) := (hbel.cell (p := ⟨d, off' + k * 2 + 1, none⟩) hdlt).trans (hdell k (by omega)).2
   have hki : (k : Int) < (n : Int) := by omega
   clear hcell hdell hr hs
   generalize nthY l k = p at *
   obtain ⟨x, y⟩ := p
   simp only at hc0 hc1 hd0 hd1
   go_wp2_with fail
   have lb : b < wr.heap.size := Nat.lt_of_lt_of_le hblt hbel.size
   have ld : d < wr.heap.size := Nat.lt_of_lt_of_le hdlt hbel.size
   refine wp_region_held_drew (S := fun w' => (w'.cell? ⟨b, off + k * 2, none⟩ = some (.int .i64 x) ∧ w'.cell? ⟨b, off + k * 2 + 1, none⟩ = some (.int .i64 y)) ∧ (w'.cell? ⟨d, off' + k * 2, none⟩ = some (.int .i64 x) ∧ w'.cell? ⟨d, off' + k * 2 + 1, none⟩ = some (.int .i64 y))) (by kernel_rfl) ?hS1 (fun hHeld => ?_)
   case hS1 => exact ⟨⟨hc0, hc1⟩, ⟨hd0, hd1⟩⟩
   refine wpAnyH_take (i := 0) (v := ?_) rfl (by kernel_rfl) (by kernel_rfl) (by kernel_rfl) (fun _ _ _ h => h) (Or.inl ⟨by rfl, ?hy2⟩) (by assumption) ?ty2
   case hy2 => (intro w hSw; (try dsimp only at hSw); go_simp; all_goals with_reducible rfl)
   simp only [Act.put, List.getElem_toArray, List.getElem_cons_zero, List.setIfInBounds_toArray, List.set_cons_zero, List.set_cons_succ]
   refine wpAnyH_take (i := 1) (v := ?_) rfl (by kernel_rfl) (by kernel_rfl) (by kernel_rfl) (fun _ _ _ h => h) (Or.inl ⟨by rfl, ?hy3⟩) (by assumption) ?ty3
   case hy3 => (intro w hSw; (try dsimp only at hSw); go_simp; all_goals with_reducible rfl)
   simp only [Act.put, List.getElem_toArray, List.getElem_cons_zero, List.getElem_cons_succ, List.setIfInBounds_toArray, List.set_cons_zero, List.set_cons_succ]
   refine wpAnyH_take (i := 2) (v := ?_) rfl (by kernel_rfl) (by kernel_rfl) (by kernel_rfl) (fun _ _ _ h => h) (Or.inl ⟨by rfl, ?hy4⟩) (by assumption) ?ty4
   case hy4 => (intro w hSw; (try dsimp only at hSw); go_simp; all_goals with_reducible rfl)
   simp only [Act.put, List.getElem_toArray, List.getElem_cons_zero, List.getElem_cons_succ, List.setIfInBounds_toArray, List.set_cons_zero, List.set_cons_succ]
   refine wpAnyH_take (i := 3) (v := ?_) rfl (by kernel_rfl) (by kernel_rfl) (by kernel_rfl) (fun _ _ _ h => h) (Or.inl ⟨by rfl, ?hy5⟩) (by assumption) ?ty5
   case hy5 => (intro w hSw; (try dsimp only at hSw); go_simp; all_goals with_reducible rfl)
   simp only [Act.put, List.getElem_toArray, List.getElem_cons_zero, List.getElem_cons_succ, List.setIfInBounds_toArray, List.set_cons_zero, List.set_cons_succ]
   refine wpAnyH_take (i := 4) (v := ?_) rfl (by kernel_rfl) (by kernel_rfl) (by kernel_rfl) (fun _ _ _ h => h) (Or.inl ⟨by rfl, ?hy6⟩) (by assumption) ?ty6
   case hy6 => (intro w hSw; (try dsimp only at hSw); go_simp; all_goals with_reducible rfl)
   simp only [Act.put, List.getElem_toArray, List.getElem_cons_zero, List.getElem_cons_succ, List.setIfInBounds_toArray, List.set_cons_zero, List.set_cons_succ]
   refine wpAnyH_take (i := 5) (v := ?_) rfl (by kernel_rfl) (by kernel_rfl) (by kernel_rfl) (fun _ _ _ h => h) (Or.inl ⟨by rfl, ?hy7⟩) (by assumption) ?ty7
   case hy7 => (intro w hSw; (try dsimp only at hSw); go_simp; all_goals with_reducible rfl)
   simp only [Act.put, List.getElem_toArray, List.getElem_cons_zero, List.getElem_cons_succ, List.setIfInBounds_toArray, List.set_cons_zero, List.set_cons_succ]
   refine wpAnyH_take (i := 6) (v := ?_) rfl (by kernel_rfl) (by kernel_rfl) (by kernel_rfl) (fun _ _ _ h => h) (Or.inl ⟨by rfl, ?hy8⟩) (by assumption) ?ty8
   case hy8 => (intro w hSw; (try dsimp only at hSw); go_simp; all_goals with_reducible rfl)
   simp only [Act.put, List.getElem_toArray, List.getElem_cons_zero, List.getElem_cons_succ, List.setIfInBounds_toArray, List.set_cons_zero, List.set_cons_succ]
   refine wpAnyH_take (i := 7) (v := ?_) rfl (by kernel_rfl) (by kernel_rfl) (by kernel_rfl) (fun _ _ _ h => h) (Or.inl ⟨by rfl, ?hy9⟩) (by assumption) ?ty9
   case hy9 => (intro w hSw; (try dsimp only at hSw); go_simp; all_goals with_reducible rfl)
   simp only [Act.put, List.getElem_toArray, List.getElem_cons_zero, List.getElem_cons_succ, List.setIfInBounds_toArray, List.set_cons_zero, List.set_cons_succ]
   refine wpAnyH_ready (rs := [8]) (by kernel_rfl) (by simp) ?_
   refine AllReadyH.cons rfl (fun K hK => ?_) AllReadyH.nil
   go_simp
   refine (eqRange_same x y _).mono ?_
   rintro e w1 ⟨rfl, hbx⟩
   have HW : Hid (Below wr.heap.size wr w1) := (Below.refl _ _).drew.trans hbx
   have hsS : (w1.cell? ⟨b, off + k * 2, none⟩ = some (.int .i64 x) ∧ w1.cell? ⟨b, off + k * 2 + 1, none⟩ = some (.int .i64 y)) ∧ (w1.cell? ⟨d, off' + k * 2, none⟩ = some (.int .i64 x) ∧ w1.cell? ⟨d, off' + k * 2 + 1, none⟩ = some (.int .i64 y)) := ⟨⟨(HW.out.cell (p := ⟨b, off + k * 2, none⟩) lb).trans hc0, (HW.out.cell (p := ⟨b, off + k * 2 + 1, none⟩) lb).trans hc1⟩, ⟨(HW.out.cell (p := ⟨d, off' + k * 2, none⟩) ld).trans hd0, (HW.out.cell (p := ⟨d, off' + k * 2 + 1, none⟩) ld).trans hd1⟩⟩
   refine hK.out _ _ hsS (fun hHeld => ?_)
   clear hK K
   refine wpAnyH_take (i := 9) (v := ?_) rfl (by kernel_rfl) (by kernel_rfl) (by kernel_rfl) (fun _ _ _ h => h) (Or.inl ⟨by rfl, ?hy10⟩) (by assumption) ?ty10
   case hy10 => (intro w hSw; (try dsimp only at hSw); go_simp; all_goals with_reducible rfl)
   simp only [Act.put, List.getElem_toArray, List.getElem_cons_zero, List.getElem_cons_succ, List.setIfInBounds_toArray, List.set_cons_zero, List.set_cons_succ]
   refine wpAnyH_done (by kernel_rfl) ?_ _
   have hbel2 := hbel.trans (HW.out.mono hbel.size)
   clear hHeld hsS hbx HW
   go_wp2
   go_roundw
   case rel => exact ⟨k + 1, by omega, by go_num, hbel2⟩
   case measure => simp [intOf]; omega
  ·have hki : ¬ (k : Int) < (n : Int) := by omega
   go_wp2
   go_ret
   exact ⟨rfl, hbel⟩
end Go.Proofs.YtjogclofjollnaaGreatDoor
