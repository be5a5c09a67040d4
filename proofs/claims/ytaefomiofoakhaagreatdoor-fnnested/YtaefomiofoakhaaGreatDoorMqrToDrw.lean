/- Words on memory, with no program in them: where a row of elements of four cells is read (messages: three numbers and bytes; mailboxes: a text, two numbers and messages), and what a copy in the making holds · The model's draws: each ends with some number or bytes within small bounds, and turns nothing that was there; sources of at most 1048576 bytes. -/
import Derived.Test.YtaefomiofoakhaaGreatDoorAppToMemF
import Derived.OpenShut
import Derived.Handy
import Derived.WalkSpells
namespace Go.Proofs.YtaefomiofoakhaaGreatDoor
open Go.RowKit

/-- A slice by its address, its length and its room. -/
abbrev SlQ := Option Addr × Nat × Nat
abbrev slW (p : SlQ) : Value := .slice p.1 p.2.1 p.2.2
/-- A MESSAGE: Uid, flags, date, bytes. -/
structure Msg where
  u : Int
  f : Int
  d : Int
  b : List Nat
def nthM (l : List Msg) (i : Nat) : Msg := l.getD i ⟨0, 0, 0, []⟩
/-- From the block lo on all cells stay. -/
def Near (lo : Nat) (w w' : World) : Prop := w.heap.size ≤ w'.heap.size ∧ ∀ p : Addr, lo ≤ p.block → p.block < w.heap.size → w'.cell? p = w.cell? p
theorem Near.refl (lo : Nat) (w : World) : Near lo w w := ⟨Nat.le_refl _, fun _ _ _ => rfl⟩
theorem Near.of_below {lo : Nat} {w w' : World} (hb : Below w.heap.size w w') : Near lo w w' := ⟨hb.size, fun _ _ hlt => hb.cell hlt⟩
theorem Near.trans {lo : Nat} {w w' w'' : World} (h : Near lo w w') (h' : Near lo w' w'') : Near lo w w'' := ⟨Nat.le_trans h.1 h'.1, fun p hp hlt => (h'.2 p hp (Nat.lt_of_lt_of_le hlt h.1)).trans (h.2 p hp hlt)⟩
theorem Near.mono {lo lo' : Nat} {w w' : World} (h : Near lo w w') (hl : lo ≤ lo') : Near lo' w w' := ⟨h.1, fun p hp hlt => h.2 p (Nat.le_trans hl hp) hlt⟩
theorem Near.set {lo : Nat} {w : World} {g j : Nat} (v : Value) (hg : g < lo) : Near lo w (w.setCell ⟨g, j, none⟩ v) :=
  ⟨by simp, fun p hp _ => World.cell?_setCell_other _ _ _ _ (fun h => by subst h; exact absurd hg (Nat.not_lt.2 hp))⟩
theorem Rd.near {lo : Nat} {w w' : World} {a : Option Addr} {l : List Nat} (h : Rd w a l) (hlo : ∀ x, a = some x → lo ≤ x.block) (hb : Near lo w w') : Rd w' a l := by
  rcases h with h | ⟨b, off, e, hlt, hc⟩
  · exact .inl h
  · have := hlo _ e
    exact .inr ⟨b, off, e, Nat.lt_of_lt_of_le hlt hb.1, fun i hi => (hb.2 ⟨b, off + i, none⟩ this hlt).trans (hc i hi)⟩

/-- The slice s, from the block lo on, holds the bytes d. -/
def IsSl (lo : Nat) (w : World) (s : SlQ) (d : List Nat) : Prop := d.length = s.2.1 ∧ s.2.1 ≤ s.2.2 ∧ s.2.2 ≤ maxLen ∧ IsB d ∧ Rd w s.1 d ∧ ∀ x, s.1 = some x → lo ≤ x.block
theorem IsSl.near {lo : Nat} {w w' : World} {s : SlQ} {d : List Nat} (h : IsSl lo w s d) (hb : Near lo w w') : IsSl lo w' s d := ⟨h.1, h.2.1, h.2.2.1, h.2.2.2.1, h.2.2.2.2.1.near h.2.2.2.2.2 hb, h.2.2.2.2.2⟩
theorem IsSl.below {lo : Nat} {w w' : World} {s : SlQ} {d : List Nat} (h : IsSl lo w s d) (hb : Below w.heap.size w w') : IsSl lo w' s d := h.near (.of_below hb)
theorem IsSl.low {lo lo' : Nat} {w : World} {s : SlQ} {d : List Nat} (h : IsSl lo w s d) (hl : lo' ≤ lo) : IsSl lo' w s d := ⟨h.1, h.2.1, h.2.2.1, h.2.2.2.1, h.2.2.2.2.1, fun x hx => Nat.le_trans hl (h.2.2.2.2.2 x hx)⟩

/-- WHERE A SLICE OF MESSAGES IS READ, from the block lo on. -/
def RdM (lo : Nat) (w : World) (a : Option Addr) (l : List Msg) : Prop :=
  l = [] ∨ ∃ b off, a = some ⟨b, off, none⟩ ∧ lo ≤ b ∧ b < w.heap.size ∧ ∀ i, i < l.length → ∃ s, (w.cell? ⟨b, off + i * 4, none⟩ = some (.int .i64 (nthM l i).u) ∧ w.cell? ⟨b, off + i * 4 + 1, none⟩ = some (.int .i64 (nthM l i).f) ∧ w.cell? ⟨b, off + i * 4 + 2, none⟩ = some (.int .i64 (nthM l i).d) ∧ w.cell? ⟨b, off + i * 4 + 3, none⟩ = some (slW s)) ∧ IsSl lo w s (nthM l i).b
theorem RdM.near {lo : Nat} {w w' : World} {a : Option Addr} {l : List Msg} (h : RdM lo w a l) (hb : Near lo w w') : RdM lo w' a l := by
  rcases h with h | ⟨b, off, e, hlo, hlt, hc⟩
  · exact .inl h
  · refine .inr ⟨b, off, e, hlo, Nat.lt_of_lt_of_le hlt hb.1, fun i hi => ?_⟩
    obtain ⟨s, ⟨c0, c1, c2, c3⟩, hs⟩ := hc i hi
    exact ⟨s, ⟨(hb.2 ⟨b, off + i * 4, none⟩ hlo hlt).trans c0, (hb.2 ⟨b, off + i * 4 + 1, none⟩ hlo hlt).trans c1, (hb.2 ⟨b, off + i * 4 + 2, none⟩ hlo hlt).trans c2, (hb.2 ⟨b, off + i * 4 + 3, none⟩ hlo hlt).trans c3⟩, hs.near hb⟩
theorem RdM.below {lo : Nat} {w w' : World} {a : Option Addr} {l : List Msg} (h : RdM lo w a l) (hb : Below w.heap.size w w') : RdM lo w' a l := h.near (.of_below hb)
theorem RdM.low {lo lo' : Nat} {w : World} {a : Option Addr} {l : List Msg} (h : RdM lo w a l) (hl : lo' ≤ lo) : RdM lo' w a l := by
  rcases h with h | ⟨b, off, e, hlo, hlt, hc⟩
  · exact .inl h
  · refine .inr ⟨b, off, e, Nat.le_trans hl hlo, hlt, fun i hi => ?_⟩
    obtain ⟨s, c, hs⟩ := hc i hi
    exact ⟨s, c, hs.low hl⟩
theorem RdM.at_ {lo : Nat} {w : World} {a : Option Addr} {l : List Msg} (h : RdM lo w a l) (hp : 0 < l.length) :
    ∃ b off, a = some ⟨b, off, none⟩ ∧ lo ≤ b ∧ b < w.heap.size ∧ ∀ i, i < l.length → ∃ s, (w.cell? ⟨b, off + i * 4, none⟩ = some (.int .i64 (nthM l i).u) ∧ w.cell? ⟨b, off + i * 4 + 1, none⟩ = some (.int .i64 (nthM l i).f) ∧ w.cell? ⟨b, off + i * 4 + 2, none⟩ = some (.int .i64 (nthM l i).d) ∧ w.cell? ⟨b, off + i * 4 + 3, none⟩ = some (slW s)) ∧ IsSl lo w s (nthM l i).b := by
  rcases h with h | h
  · rw [h] at hp; simp at hp
  · exact h
def IsMs (lo : Nat) (w : World) (s : SlQ) (l : List Msg) : Prop := l.length = s.2.1 ∧ s.2.1 ≤ s.2.2 ∧ s.2.2 ≤ maxLen ∧ RdM lo w s.1 l
theorem IsMs.near {lo : Nat} {w w' : World} {s : SlQ} {l : List Msg} (h : IsMs lo w s l) (hb : Near lo w w') : IsMs lo w' s l := ⟨h.1, h.2.1, h.2.2.1, h.2.2.2.near hb⟩
theorem IsMs.below {lo : Nat} {w w' : World} {s : SlQ} {l : List Msg} (h : IsMs lo w s l) (hb : Below w.heap.size w w') : IsMs lo w' s l := h.near (.of_below hb)
theorem IsMs.low {lo lo' : Nat} {w : World} {s : SlQ} {l : List Msg} (h : IsMs lo w s l) (hl : lo' ≤ lo) : IsMs lo' w s l := ⟨h.1, h.2.1, h.2.2.1, h.2.2.2.low hl⟩

/-- A MAILBOX: a name, a validity, the next Uid, messages. -/
structure Bx where
  n : ByteArray
  v : Int
  x : Int
  m : List Msg
def nthX (l : List Bx) (i : Nat) : Bx := l.getD i ⟨ByteArray.empty, 0, 0, []⟩
/-- WHERE A SLICE OF MAILBOXES IS READ, from the block lo on. -/
def RdX (lo : Nat) (w : World) (a : Option Addr) (l : List Bx) : Prop :=
  l = [] ∨ ∃ b off, a = some ⟨b, off, none⟩ ∧ lo ≤ b ∧ b < w.heap.size ∧ ∀ i, i < l.length → ∃ s, (w.cell? ⟨b, off + i * 4, none⟩ = some (.string (nthX l i).n) ∧ w.cell? ⟨b, off + i * 4 + 1, none⟩ = some (.int .i64 (nthX l i).v) ∧ w.cell? ⟨b, off + i * 4 + 2, none⟩ = some (.int .i64 (nthX l i).x) ∧ w.cell? ⟨b, off + i * 4 + 3, none⟩ = some (slW s)) ∧ IsMs lo w s (nthX l i).m
theorem RdX.near {lo : Nat} {w w' : World} {a : Option Addr} {l : List Bx} (h : RdX lo w a l) (hb : Near lo w w') : RdX lo w' a l := by
  rcases h with h | ⟨b, off, e, hlo, hlt, hc⟩
  · exact .inl h
  · refine .inr ⟨b, off, e, hlo, Nat.lt_of_lt_of_le hlt hb.1, fun i hi => ?_⟩
    obtain ⟨s, ⟨c0, c1, c2, c3⟩, hs⟩ := hc i hi
    exact ⟨s, ⟨(hb.2 ⟨b, off + i * 4, none⟩ hlo hlt).trans c0, (hb.2 ⟨b, off + i * 4 + 1, none⟩ hlo hlt).trans c1, (hb.2 ⟨b, off + i * 4 + 2, none⟩ hlo hlt).trans c2, (hb.2 ⟨b, off + i * 4 + 3, none⟩ hlo hlt).trans c3⟩, hs.near hb⟩
theorem RdX.below {lo : Nat} {w w' : World} {a : Option Addr} {l : List Bx} (h : RdX lo w a l) (hb : Below w.heap.size w w') : RdX lo w' a l := h.near (.of_below hb)
theorem RdX.low {lo lo' : Nat} {w : World} {a : Option Addr} {l : List Bx} (h : RdX lo w a l) (hl : lo' ≤ lo) : RdX lo' w a l := by
  rcases h with h | ⟨b, off, e, hlo, hlt, hc⟩
  · exact .inl h
  · refine .inr ⟨b, off, e, Nat.le_trans hl hlo, hlt, fun i hi => ?_⟩
    obtain ⟨s, c, hs⟩ := hc i hi
    exact ⟨s, c, hs.low hl⟩
theorem RdX.at_ {lo : Nat} {w : World} {a : Option Addr} {l : List Bx} (h : RdX lo w a l) (hp : 0 < l.length) :
    ∃ b off, a = some ⟨b, off, none⟩ ∧ lo ≤ b ∧ b < w.heap.size ∧ ∀ i, i < l.length → ∃ s, (w.cell? ⟨b, off + i * 4, none⟩ = some (.string (nthX l i).n) ∧ w.cell? ⟨b, off + i * 4 + 1, none⟩ = some (.int .i64 (nthX l i).v) ∧ w.cell? ⟨b, off + i * 4 + 2, none⟩ = some (.int .i64 (nthX l i).x) ∧ w.cell? ⟨b, off + i * 4 + 3, none⟩ = some (slW s)) ∧ IsMs lo w s (nthX l i).m := by
  rcases h with h | h
  · rw [h] at hp; simp at hp
  · exact h
def IsXs (lo : Nat) (w : World) (s : SlQ) (l : List Bx) : Prop := l.length = s.2.1 ∧ s.2.1 ≤ s.2.2 ∧ s.2.2 ≤ maxLen ∧ RdX lo w s.1 l
theorem IsXs.near {lo : Nat} {w w' : World} {s : SlQ} {l : List Bx} (h : IsXs lo w s l) (hb : Near lo w w') : IsXs lo w' s l := ⟨h.1, h.2.1, h.2.2.1, h.2.2.2.near hb⟩
theorem IsXs.below {lo : Nat} {w w' : World} {s : SlQ} {l : List Bx} (h : IsXs lo w s l) (hb : Below w.heap.size w w') : IsXs lo w' s l := h.near (.of_below hb)
theorem IsXs.low {lo lo' : Nat} {w : World} {s : SlQ} {l : List Bx} (h : IsXs lo w s l) (hl : lo' ≤ lo) : IsXs lo' w s l := ⟨h.1, h.2.1, h.2.2.1, h.2.2.2.low hl⟩

end Go.Proofs.YtaefomiofoakhaaGreatDoor

namespace Go.Proofs.YtaefomiofoakhaaGreatDoor
open Go.RowKit

/-- A source of draws, laid at block b: its bytes lie below B, and at most M have been drawn. -/
def Src (w : World) (B b M : Nat) : Prop := B ≤ b ∧ b < w.heap.size ∧ ∃ (a : Option Addr) (n cap at' : Nat) (l : List Nat),
  w.cell? ⟨b, 0, none⟩ = some (.slice a n cap) ∧ w.cell? ⟨b, 1, none⟩ = some (.int .i64 (at' : Int)) ∧ w.frozen? ⟨b, 1, none⟩ = false ∧ l.length = n ∧ n ≤ 1048576 ∧ IsB l ∧ at' ≤ M ∧
  (l = [] ∨ ∃ d off, a = some ⟨d, off, none⟩ ∧ d < B ∧ ∀ i, i < n → w.cell? ⟨d, off + i, none⟩ = some (.int .u8 (nth l i : Int)))
theorem Src.below {w w' : World} {B b M : Nat} (h : Src w B b M) (hb : Below (b + 1) w w') : Src w' B b M := by
  obtain ⟨h1, h2, a, n, cap, at', l, c0, c1, f1, hl, hn, hB, ha, hd⟩ := h
  refine ⟨h1, Nat.lt_of_lt_of_le h2 hb.size, a, n, cap, at', l, (hb.cell (p := ⟨b, 0, none⟩) (by simp)).trans c0, (hb.cell (p := ⟨b, 1, none⟩) (by simp)).trans c1, (hb.frozen (p := ⟨b, 1, none⟩) (by simp)).trans f1, hl, hn, hB, ha, ?_⟩
  rcases hd with hd | ⟨d, off, e, hlt, hc⟩
  · exact .inl hd
  · exact .inr ⟨d, off, e, hlt, fun i hi => (hb.cell (p := ⟨d, off + i, none⟩) (by simp; omega)).trans (hc i hi)⟩
theorem Src.more {w : World} {B b M M' : Nat} (h : Src w B b M) (hM : M ≤ M') : Src w B b M' := by
  obtain ⟨h1, h2, a, n, cap, at', l, c0, c1, f1, hl, hn, hB, ha, hd⟩ := h
  exact ⟨h1, h2, a, n, cap, at', l, c0, c1, f1, hl, hn, hB, by omega, hd⟩
theorem Own.keptG {w w' : World} {B b : Nat} {v : Value} {l : List Nat} (h : Own w B v l) (hg : w.grownBy w' (some b)) (hb : b < B) : Own w' B v l := by
  refine World.ownsRow.kept h hg ?_
  cases hv : v.ownBlock with
  | none => exact .inl rfl
  | some k => right; intro e; have := (h.lt k hv).1; simp at e; omega

set_option maxHeartbeats 3200000 in
set_option maxRecDepth 100000 in
theorem l1Next_any (B b M : Nat) (k : Int) (w : World) (hs : Src w B b M) (hM : M ≤ 100000) (h0 : 0 ≤ k) (hk : k ≤ 1000) :
    Calls Tryz.prog 20 #[.pointer (some ⟨b, 0, none⟩), .int .i64 k] w fun e w' =>
      ∃ r : Int, e = .returned (.int .i64 r) ∧ 0 ≤ r ∧ (1 ≤ k → r < k) ∧ r ≤ 1000 ∧ Src w' B b (M + 1) ∧ w.grownBy w' (some b) := by
  obtain ⟨hBb, hbw, a, n, cap, at', l, c0, c1, f1, hl, hn, hB, ha, hd⟩ := hs
  have d1 : (w.setCell ⟨b, 1, none⟩ (.int .i64 ((at' : Int) + 1))).cell? ⟨b, 1, none⟩ = some (.int .i64 ((at' : Int) + 1)) := World.cell?_setCell_same _ _ _ c1
  have d0 : (w.setCell ⟨b, 1, none⟩ (.int .i64 ((at' : Int) + 1))).cell? ⟨b, 0, none⟩ = some (.slice a n cap) := by simp [go_sem, c0]
  have hgr : w.grownBy (w.setCell ⟨b, 1, none⟩ (.int .i64 ((at' : Int) + 1))) (some b) := ⟨rfl, rfl, rfl, by simp, fun j _ hj => Below.heap_setCell w ⟨b, 1, none⟩ _ j (fun e => hj (by simp [e]))⟩
  have hS : Src (w.setCell ⟨b, 1, none⟩ (.int .i64 ((at' : Int) + 1))) B b (M + 1) := by
    refine ⟨hBb, by simpa using hbw, a, n, cap, at' + 1, l, d0, by rw [d1]; rfl, (World.frozen?_setCell _ _ _ _).trans f1, hl, hn, hB, by omega, ?_⟩
    rcases hd with hd | ⟨d, off, e, hlt, hc⟩
    · exact .inl hd
    · exact .inr ⟨d, off, e, hlt, fun i hi => (hgr.cell_far ⟨d, off + i, none⟩ (by simp; omega) (by simp; omega)).trans (hc i hi)⟩
  have HS : Hid (_) := hS
  have HG : Hid (_) := hgr
  have hfin : ∀ j, Src ((w.setCell ⟨b, 1, none⟩ (.int .i64 ((at' : Int) + 1))).drewN j) B b (M + 1) := fun j => hS
  have hfin2 : ∀ j, w.grownBy ((w.setCell ⟨b, 1, none⟩ (.int .i64 ((at' : Int) + 1))).drewN j) (some b) := fun j => ⟨hgr.os, hgr.tape, hgr.output, hgr.size, hgr.block⟩
  by_cases hk1 : k < 1
  · clear hfin hfin2 hS hgr hd
    go_enter Tryz.func20, Tryz.ntmps20
    go_wp2
    go_ret
    exact ⟨0, rfl, by omega, by omega, by omega, HS.out, HG.out⟩
  · by_cases hn0 : n = 0
    · subst hn0
      clear hfin hfin2 hS hgr hd
      go_enter Tryz.func20, Tryz.ntmps20
      go_wp2
      go_ret
      have r1 := Int.emod_nonneg ((at' : Int) * 7) (show k ≠ 0 by omega)
      have r2 := Int.emod_lt_of_pos ((at' : Int) * 7) (show 0 < k by omega)
      exact ⟨_, rfl, r1, r2, by omega, HS.out, HG.out⟩
    · obtain ⟨q1, hq1⟩ : ∃ q, q = at' % n := ⟨_, rfl⟩
      obtain ⟨q2, hq2⟩ : ∃ q, q = (at' + 1) % n := ⟨_, rfl⟩
      obtain ⟨p, hp⟩ : ∃ p, p = at' / n := ⟨_, rfl⟩
      have q1n : q1 < n := by rw [hq1]; exact Nat.mod_lt _ (by omega)
      have q2n : q2 < n := by rw [hq2]; exact Nat.mod_lt _ (by omega)
      have hp' : p ≤ 100000 := by have := Nat.div_le_self at' n; omega
      rcases hd with hd | ⟨d, off, rfl, hdB, hc⟩
      · rw [hd] at hl; simp at hl; omega
      have x1 : (w.setCell ⟨b, 1, none⟩ (.int .i64 ((at' : Int) + 1))).cell? ⟨d, off + q1, none⟩ = some (.int .u8 (nth l q1 : Int)) := (hgr.cell_far ⟨d, off + q1, none⟩ (by simp; omega) (by simp; omega)).trans (hc q1 q1n)
      have x2 : (w.setCell ⟨b, 1, none⟩ (.int .i64 ((at' : Int) + 1))).cell? ⟨d, off + q2, none⟩ = some (.int .u8 (nth l q2 : Int)) := (hgr.cell_far ⟨d, off + q2, none⟩ (by simp; omega) (by simp; omega)).trans (hc q2 q2n)
      have b1 := nth_lt hB q1
      have b2 := nth_lt hB q2
      generalize nth l q1 = y1 at *
      generalize nth l q2 = y2 at *
      have e1 : (at' : Int) % (n : Int) = (q1 : Int) := by rw [hq1]; exact (Int.natCast_emod _ _).symm
      have e2 : ((at' : Int) + 1) % (n : Int) = (q2 : Int) := by rw [hq2, Int.natCast_emod]; rfl
      have e3 : (at' : Int) / (n : Int) = (p : Int) := by rw [hp]; exact (Int.natCast_ediv _ _).symm
      have i1 : (q1 : Int) < (n : Int) := by omega
      have i2 : (q2 : Int) < (n : Int) := by omega
      have n0 : ((n : Int) == 0) = false := beq_eq_false_iff_ne.2 (by omega)
      have HF : Hid (_) := hfin
      have HF2 : Hid (_) := hfin2
      clear hc hq1 hq2 hp hS hgr hfin hfin2
      by_cases hk2 : 200 < k
      · go_enter Tryz.func20, Tryz.ntmps20
        go_wp2
        go_quiet (fail)
        go_wp2
        go_quiet (fail)
        go_wp2
        go_ret
        have r1 := Int.emod_nonneg (((y1 : Int) + (p : Int) * 37) * 251 + (y2 : Int) * 13 + (at' : Int)) (show k ≠ 0 by omega)
        have r2 := Int.emod_lt_of_pos (((y1 : Int) + (p : Int) * 37) * 251 + (y2 : Int) * 13 + (at' : Int)) (show 0 < k by omega)
        exact ⟨_, rfl, r1, fun _ => r2, by omega, HF.out _, HF2.out _⟩
      · go_enter Tryz.func20, Tryz.ntmps20
        go_wp2
        go_quiet (fail)
        go_wp2
        go_ret
        have r1 := Int.emod_nonneg ((y1 : Int) + (p : Int) * 37) (show k ≠ 0 by omega)
        have r2 := Int.emod_lt_of_pos ((y1 : Int) + (p : Int) * 37) (show 0 < k by omega)
        exact ⟨_, rfl, r1, fun _ => r2, by omega, HF.out _, HF2.out _⟩
end Go.Proofs.YtaefomiofoakhaaGreatDoor
