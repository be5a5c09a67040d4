/- Commands that came in: what the row tells of them gives their cells; no program in it · The laws' own type of terms; no conditions · The laws' own type of commands; no conditions · Each helper of the laws over slices of bytes does what its text says: it copies one, and holds two against each other; slices of at most 1048576 bytes · Messages: their size, a copy, whether two are the same, and their fault, on both sides; no conditions beyond those that each fact names. -/
import Derived.Test.YtaiificlempeaaaGreatDoorCmo
import Derived.Test.YtaiificlempeaaaGreatDoorOppToTmi
import Derived.Test.YtaiificlempeaaaGreatDoorRows
import Derived.Test.YtaiificlempeaaaGreatDoorMemToInf
import Derived.Test.YtaiificlempeaaaGreatDoorMqr
import Derived.Deep.RegionHeld3
namespace Go.Proofs.YtaiificlempeaaaGreatDoor
open Go.RowKit Go.ChangeShapes
section
variable {H : Type} {enc : TypeId × Value → H} {P : Program} {w : World} {base : Nat} {held : Bool} {fuel : Nat} {t : TypeId} {cs : List Value} {x : DataW H × List MemPlace}

/-- A command's type. -/
structure CmT (P : Program) (t : TypeId) : Prop where
  ex : ∃ (f0 f1 f2 f3 f4 f5 f6 f7 f8 f9 f10 f11 f12 f13 g0 g1 : Field) (i s bo li lb lu ly y u e : TypeId), P.underlying t = some (.struct #[f0, f1, f2, f3, f4, f5, f6, f7, f8, f9, f10, f11, f12, f13]) ∧ (f0.offset = 0 ∧ f1.offset = 1 ∧ f2.offset = 2 ∧ f3.offset = 3 ∧ f4.offset = 4 ∧ f5.offset = 5 ∧ f6.offset = 6 ∧ f7.offset = 7 ∧ f8.offset = 8 ∧ f9.offset = 9 ∧ f10.offset = 10 ∧ f11.offset = 11 ∧ f12.offset = 12 ∧ f13.offset = 13) ∧ (f0.type = s ∧ f1.type = i ∧ f2.type = s ∧ f3.type = ly ∧ f4.type = i ∧ f5.type = i ∧ f6.type = i ∧ f7.type = lb ∧ f8.type = i ∧ f9.type = li ∧ f10.type = i ∧ f11.type = bo ∧ f12.type = lu ∧ f13.type = i) ∧ P.underlying i = some (.int .i64) ∧ P.underlying s = some .string ∧ P.underlying bo = some .bool ∧ P.underlying li = some (.slice i) ∧ P.underlying lb = some (.slice u) ∧ P.underlying u = some (.int .u8) ∧ P.underlying ly = some (.slice y) ∧ P.underlying y = some (.struct #[g0, g1]) ∧ (g0.type = i ∧ g1.type = i ∧ g0.offset = 0 ∧ g1.offset = 1) ∧ P.underlying lu = some (.slice e) ∧ TmT P e ∧ (P.cellsOf i = 1 ∧ P.cellsOf s = 1 ∧ P.cellsOf bo = 1 ∧ P.cellsOf li = 1 ∧ P.cellsOf lb = 1 ∧ P.cellsOf ly = 1 ∧ P.cellsOf lu = 1 ∧ P.cellsOf u = 1 ∧ P.cellsOf y = 2 ∧ P.cellsOf t = 14)

theorem open_cm (T : CmT P t) (h : DataW.trod enc P w base (fun _ => true) held fuel t cs = some x) : ∃ (o : CmR) (p : SlC), cs = [.string o.t, .int .i64 o.k, .string o.n, slW p.1, .int .i64 o.m, .int .i64 o.f, .int .i64 o.d, slW p.2.1, .int .i64 o.h, slW p.2.2.1, .int .i64 o.e, .bool o.r, slW p.2.2.2, .int .i64 o.c] ∧ IsCm 0 w p o ∧ OkC o := by
  obtain ⟨f0, f1, f2, f3, f4, f5, f6, f7, f8, f9, f10, f11, f12, f13, g0', g1', i, s, bo, li, lb, lu, ly, y, u, e, ht, ⟨o0, o1, o2, o3, o4, o5, o6, o7, o8, o9, o10, o11, o12, o13⟩, ⟨t0, t1, t2, t3, t4, t5, t6, t7, t8, t9, t10, t11, t12, t13⟩, hi, hs, hbo, hli, hlb, hu, hly, hy, ⟨y0, y1, y2, y3⟩, hlu, hTm, ⟨ci, cs', cbo, cli, clb, cly, clu, cu, cy, ct⟩⟩ := T.ex
  obtain ⟨xs, n, _, _, hcl, hxl, hfs⟩ := DataW.trod_struct ht h
  rw [ct] at hcl
  have hxl' : xs.length = 14 := hxl
  obtain ⟨v0, v1, v2, v3, v4, v5, v6, v7, v8, v9, v10, v11, v12, v13, rfl⟩ : ∃ v0 v1 v2 v3 v4 v5 v6 v7 v8 v9 v10 v11 v12 v13, cs = [v0, v1, v2, v3, v4, v5, v6, v7, v8, v9, v10, v11, v12, v13] := by
    match cs, hcl with
    | [a0, a1, a2, a3, a4, a5, a6, a7, a8, a9, a10, a11, a12, a13], _ => exact ⟨a0, a1, a2, a3, a4, a5, a6, a7, a8, a9, a10, a11, a12, a13, rfl⟩
  have g0 := hfs 0 f0 rfl
  rw [o0, t0, cs', List.getElem?_eq_getElem (by omega)] at g0
  have g1 := hfs 1 f1 rfl
  rw [o1, t1, ci, List.getElem?_eq_getElem (by omega)] at g1
  have g2 := hfs 2 f2 rfl
  rw [o2, t2, cs', List.getElem?_eq_getElem (by omega)] at g2
  have g3 := hfs 3 f3 rfl
  rw [o3, t3, cly, List.getElem?_eq_getElem (by omega)] at g3
  have g4 := hfs 4 f4 rfl
  rw [o4, t4, ci, List.getElem?_eq_getElem (by omega)] at g4
  have g5 := hfs 5 f5 rfl
  rw [o5, t5, ci, List.getElem?_eq_getElem (by omega)] at g5
  have g6 := hfs 6 f6 rfl
  rw [o6, t6, ci, List.getElem?_eq_getElem (by omega)] at g6
  have g7 := hfs 7 f7 rfl
  rw [o7, t7, clb, List.getElem?_eq_getElem (by omega)] at g7
  have g8 := hfs 8 f8 rfl
  rw [o8, t8, ci, List.getElem?_eq_getElem (by omega)] at g8
  have g9 := hfs 9 f9 rfl
  rw [o9, t9, cli, List.getElem?_eq_getElem (by omega)] at g9
  have g10 := hfs 10 f10 rfl
  rw [o10, t10, ci, List.getElem?_eq_getElem (by omega)] at g10
  have g11 := hfs 11 f11 rfl
  rw [o11, t11, cbo, List.getElem?_eq_getElem (by omega)] at g11
  have g12 := hfs 12 f12 rfl
  rw [o12, t12, clu, List.getElem?_eq_getElem (by omega)] at g12
  have g13 := hfs 13 f13 rfl
  rw [o13, t13, ci, List.getElem?_eq_getElem (by omega)] at g13
  obtain ⟨n0, e0, -, z0⟩ := DataW.trod_string hs g0
  obtain ⟨n1, e1, -, -⟩ := DataW.trod_int hi g1
  obtain ⟨n2, e2, -, z2⟩ := DataW.trod_string hs g2
  obtain ⟨q3, d3, e3, hs3⟩ := open_yl hly hy hi y0 y1 y2 y3 ci cy g3
  obtain ⟨n4, e4, -, -⟩ := DataW.trod_int hi g4
  obtain ⟨n5, e5, -, -⟩ := DataW.trod_int hi g5
  obtain ⟨n6, e6, -, -⟩ := DataW.trod_int hi g6
  obtain ⟨q7, d7, e7, hs7⟩ := open_sl hlb hu cu g7
  obtain ⟨n8, e8, -, -⟩ := DataW.trod_int hi g8
  obtain ⟨q9, d9, e9, hs9⟩ := open_il hli hi ci g9
  obtain ⟨n10, e10, -, -⟩ := DataW.trod_int hi g10
  obtain ⟨n11, e11, -⟩ := DataW.trod_bool hbo g11
  obtain ⟨q12, d12, e12, hs12⟩ := open_ts hlu hTm g12
  obtain ⟨n13, e13, -, -⟩ := DataW.trod_int hi g13
  simp only [List.drop_zero, List.take_succ_cons, List.take_zero, List.drop_succ_cons, List.cons.injEq, and_true] at e0 e1 e2 e3 e4 e5 e6 e7 e8 e9 e10 e11 e12 e13
  subst e0 e1 e2 e3 e4 e5 e6 e7 e8 e9 e10 e11 e12 e13
  exact ⟨⟨n0, n1, n2, d3, n4, n5, n6, d7, n8, d9, n10, n11, d12, n13⟩, (q3, q7, q9, q12), rfl, ⟨hs3, hs7, hs9, hs12⟩, z0, z2⟩
end
end Go.Proofs.YtaiificlempeaaaGreatDoor

namespace Go.Proofs.YtaiificlempeaaaGreatDoor
open Go.RowKit
theorem tmT : TmT Tryz.prog 57 := ⟨_, _, _, _, _, _, _, _, _, _, _, _, Tryz.underlying57, ⟨rfl, rfl, rfl, rfl, rfl, rfl⟩, ⟨rfl, rfl, rfl, rfl, rfl, rfl⟩, Tryz.underlying2, Tryz.underlying24, Tryz.underlying22, Tryz.underlying66, ⟨rfl, rfl, rfl, rfl⟩, by kernel_rfl, by kernel_rfl, by kernel_rfl, by kernel_rfl, by kernel_rfl⟩
end Go.Proofs.YtaiificlempeaaaGreatDoor

namespace Go.Proofs.YtaiificlempeaaaGreatDoor
open Go.RowKit
theorem cmT : CmT Tryz.prog 27 := ⟨_, _, _, _, _, _, _, _, _, _, _, _, _, _, _, _, _, _, _, _, _, _, _, _, _, _, Tryz.underlying27, ⟨rfl, rfl, rfl, rfl, rfl, rfl, rfl, rfl, rfl, rfl, rfl, rfl, rfl, rfl⟩, ⟨rfl, rfl, rfl, rfl, rfl, rfl, rfl, rfl, rfl, rfl, rfl, rfl, rfl, rfl⟩, Tryz.underlying2, Tryz.underlying9, Tryz.underlying4, Tryz.underlying24, Tryz.underlying23, Tryz.underlying5, Tryz.underlying22, Tryz.underlying66, ⟨rfl, rfl, rfl, rfl⟩, Tryz.underlying25, tmT, ⟨by kernel_rfl, by kernel_rfl, by kernel_rfl, by kernel_rfl, by kernel_rfl, by kernel_rfl, by kernel_rfl, by kernel_rfl, by kernel_rfl, by kernel_rfl⟩⟩
end Go.Proofs.YtaiificlempeaaaGreatDoor

namespace Go.Proofs.YtaiificlempeaaaGreatDoor
open Go.RowKit

set_option maxHeartbeats 800000 in
set_option maxRecDepth 100000 in
theorem toByteS_any (a : Option Addr) (n cap : Nat) (l : List Nat) (w : World) (hl : l.length = n) (hr : Rd w a l) (hn : n ≤ 1048576) :
    Calls Tryz.prog 15 #[.slice a n cap] w fun e w' =>
      e = .returned (.slice (some ⟨w.heap.size, 0, none⟩) n n) ∧ w'.ownsRow w.heap.size 5 1 (.slice (some ⟨w.heap.size, 0, none⟩) n n) n (bc l) ∧ Below w.heap.size w w' := by
  obtain ⟨i0, hi, hz0, hz1, hz2⟩ := info_parts infoB
  go_enter Tryz.func15, Tryz.ntmps15
  go_wp2_with (at_make; refine wpList_make_full _ rfl _ _ 23 rfl w.heap.size 5 i0 (.int .u8 0) 1 Tryz.underlying23 hi hz0 hz1 .i64 .i64 _ _ n rfl rfl rfl rfl (by rw [hz2]; omega) (by unfold maxLen; omega) (Nat.le_refl _) ?_; intro w0 hown0 hgrow0)
  rw [made_bytes, ← hl, ← half_zero l, hl] at hown0
  have hbel0 : Below w.heap.size w w0 := (Below.refl _ _).grown hgrow0 (Nat.le_refl _) (by intro k hk; cases hk)
  clear hgrow0
  go_loopw [4] (fun i wr => ∃ k : Nat, k ≤ n ∧ i = .int .i64 k ∧ wr.ownsRow w.heap.size 5 1 (.slice (some ⟨w.heap.size, 0, none⟩) n n) n (bc (half l k)) ∧ Below w.heap.size w wr)
    (fun i _ => n - (intOf i).toNat)
  case atStart => exact ⟨0, Nat.zero_le _, rfl, hown0, hbel0⟩
  case round =>
    obtain ⟨k, hk, rfl, hown, hbel⟩ := hrel
    clear hown0 hbel0
    by_cases hkn : k < n
    · obtain ⟨b, off, rfl, hblt, hcell⟩ := hr.at_ (by omega)
      have hc : wr.cell? ⟨b, off + k, none⟩ = some (.int .u8 (nth l k : Int)) := (hbel.cell (p := ⟨b, off + k, none⟩) hblt).trans (hcell k (by omega))
      have hk' : k < (half l k).length := by rw [half_len l k (by omega)]; omega
      have hg : wr.cell? ⟨w.heap.size, k, none⟩ = some (.int .u8 (nth (half l k) k : Int)) := by rw [hown.cellAt k (by omega)]; exact bc_get hk'
      have hf := hown.frozenAt k
      obtain ⟨hst, hgr⟩ := hown.stored k (.int .u8 (nth l k : Int))
      rw [half_set l k (by omega)] at hst
      have hbel' : Below w.heap.size w (wr.setCell ⟨w.heap.size, k, none⟩ (.int .u8 (nth l k : Int))) := hbel.grown hgr hbel.size (by intro j hj; simp at hj; omega)
      clear hgr hcell hown
      go_wp2
      go_roundw
      case rel => exact ⟨k + 1, by omega, by go_num, hst, hbel'⟩
      case measure => simp [intOf]; omega
    · have hkk : k = n := by omega
      subst hkk
      rw [← hl, half_all, hl] at hown
      go_wp2
      go_ret
      exact ⟨rfl, hown, hbel⟩

theorem toByteS_ex (a : Option Addr) (n cap : Nat) (l : List Nat) (w : World) (hl : l.length = n) (hr : Rd w a l) (hn : n ≤ 1048576) :
    Calls Tryz.prog 15 #[.slice a n cap] w fun e w' => ∃ g, e = .returned (.slice (some ⟨g, 0, none⟩) n n) ∧ Rd w' (some ⟨g, 0, none⟩) l ∧ Below w.heap.size w w' :=
  (toByteS_any a n cap l w hl hr hn).mono fun _ _ ⟨he, ho, hb⟩ => ⟨_, he, Rd.own ho, hb⟩

set_option maxHeartbeats 800000 in
set_option maxRecDepth 100000 in
theorem eqByteS_same (a c : Option Addr) (n cap cap' : Nat) (l : List Nat) (w : World) (hl : l.length = n) (hr : Rd w a l) (hs : Rd w c l) (hn : n ≤ 1048576) :
    Calls Tryz.prog 21 #[.slice a n cap, .slice c n cap'] w fun e w' => e = .returned (.bool true) ∧ Below w.heap.size w w' := by
  go_enter Tryz.func21, Tryz.ntmps21
  go_wp2
  go_loopw [5] (fun i wr => ∃ k : Nat, k ≤ n ∧ i = .int .i64 k ∧ Below w.heap.size w wr) (fun i _ => n - (intOf i).toNat)
  case atStart => exact ⟨0, Nat.zero_le _, rfl, Below.refl _ _⟩
  case round =>
    obtain ⟨k, hk, rfl, hbel⟩ := hrel
    by_cases hkn : k < n
    · obtain ⟨b, off, rfl, hblt, hcell⟩ := hr.at_ (by omega)
      obtain ⟨d, off', rfl, hdlt, hdell⟩ := hs.at_ (by omega)
      have hc : wr.cell? ⟨b, off + k, none⟩ = some (.int .u8 (nth l k : Int)) := (hbel.cell (p := ⟨b, off + k, none⟩) hblt).trans (hcell k (by omega))
      have hd : wr.cell? ⟨d, off' + k, none⟩ = some (.int .u8 (nth l k : Int)) := (hbel.cell (p := ⟨d, off' + k, none⟩) hdlt).trans (hdell k (by omega))
      have hki : (k : Int) < (n : Int) := by omega
      clear hcell hdell hr hs
      go_wp2
      go_quiet (fail)
      go_wp2
      go_roundw
      case rel => exact ⟨k + 1, by omega, by go_num, below_drewN hbel _⟩
      case measure => simp [intOf]; omega
    · go_wp2
      go_ret
      exact ⟨rfl, hbel⟩
end Go.Proofs.YtaiificlempeaaaGreatDoor

namespace Go.Proofs.YtaiificlempeaaaGreatDoor
open Go.RowKit

/-- Between two numbers. -/
def bt (c a b : Int) : Bool := decide (a ≤ c ∧ c ≤ b)
theorem l1In_bt (c a b : Int) (w : World) : Calls Tryz.prog 47 #[.int .i64 c, .int .i64 a, .int .i64 b] w fun e w' => e = .returned (.bool (bt c a b)) ∧ w = w' := by
  by_cases h1 : a ≤ c
  · by_cases h2 : c ≤ b
    · have H : Hid (bt c a b = true) := by show bt c a b = true; simp [bt, h1, h2]
      go_enter Tryz.func47, Tryz.ntmps47
      go_wp2
      go_ret
      exact ⟨by rw [H.out]; rfl, rfl⟩
    · have H : Hid (bt c a b = false) := by show bt c a b = false; simp [bt, h2]
      go_enter Tryz.func47, Tryz.ntmps47
      go_wp2
      go_ret
      exact ⟨by rw [H.out]; rfl, rfl⟩
  · have H : Hid (bt c a b = false) := by show bt c a b = false; simp [bt, h1]
    go_enter Tryz.func47, Tryz.ntmps47
    go_wp2
    go_ret
    exact ⟨by rw [H.out]; rfl, rfl⟩
theorem isBetween_bt (c a b : Int) (w : World) : Calls Tryz.prog 38 #[.int .i64 c, .int .i64 a, .int .i64 b] w fun e w' => e = .returned (.bool (bt c a b)) ∧ w = w' := by
  by_cases h1 : a ≤ c
  · by_cases h2 : c ≤ b
    · have H : Hid (bt c a b = true) := by show bt c a b = true; simp [bt, h1, h2]
      go_enter Tryz.func38, Tryz.ntmps38
      go_wp2
      go_ret
      exact ⟨by rw [H.out]; rfl, rfl⟩
    · have H : Hid (bt c a b = false) := by show bt c a b = false; simp [bt, h2]
      go_enter Tryz.func38, Tryz.ntmps38
      go_wp2
      go_ret
      exact ⟨by rw [H.out]; rfl, rfl⟩
  · have H : Hid (bt c a b = false) := by show bt c a b = false; simp [bt, h1]
    go_enter Tryz.func38, Tryz.ntmps38
    go_wp2
    go_ret
    exact ⟨by rw [H.out]; rfl, rfl⟩
theorem areFlags_bt (c : Int) (w : World) : Calls Tryz.prog 65 #[.int .i64 c] w fun e w' => e = .returned (.bool (bt c 0 15)) ∧ w = w' := by
  have HC := isBetween_bt c 0 15
  generalize bt c 0 15 = r at *
  go_enter Tryz.func65, Tryz.ntmps65
  go_wp2_with (first | (go_at_call 38; refine (HC _).mono ?_; rintro e w' ⟨rfl, rfl⟩))
  go_ret
  exact ⟨rfl, rfl⟩

/-- THE FAULT OF A MESSAGE. -/
def mfV (m : Msg) : Int := if bt m.u 1 999 = true ∧ bt m.f 0 15 = true ∧ bt m.d 0 9999 = true then (if 400 < m.b.length then 2 else 0) else 3

end Go.Proofs.YtaiificlempeaaaGreatDoor
