/- Words on memory, with no program in them: where a row of elements of four cells is read (messages: three numbers and bytes; mailboxes: a text, two numbers and messages), and what a copy in the making holds. -/
import Derived.Test.YtdcgihcjiiemdaaDoorMrk0ToDrw
import Derived.OpenShut
namespace Go.Proofs.YtdcgihcjiiemdaaDoor
open Go.RowKit
abbrev SlQ := Option Addr × Nat × Nat
abbrev slW (p : SlQ) : Value := .slice p.1 p.2.1 p.2.2
abbrev Qd := Value × Value × Value × Value
def nthQ (l : List Qd) (i : Nat) : Qd := l.getD i (.bool false, .bool false, .bool false, .bool false)
def qc (l : List Qd) : List Value := l.flatMap fun p => [p.1, p.2.1, p.2.2.1, p.2.2.2]
structure Msg where
 u : Int
 f : Int
 d : Int
 b : List Nat
abbrev msQ (m : Msg) (s : SlQ) : Qd := (.int .i64 m.u, .int .i64 m.f, .int .i64 m.d, slW s)
def nthM (l : List Msg) (i : Nat) : Msg := l.getD i ⟨0, 0, 0, []⟩
def Near (lo : Nat) (w w' : World) : Prop := w.heap.size ≤ w'.heap.size ∧ ∀ p : Addr, lo ≤ p.block → p.block < w.heap.size → w'.cell? p = w.cell? p
theorem Near.refl (lo : Nat) (w : World) : Near lo w w := ⟨Nat.le_refl _, fun _ _ _ => rfl⟩
theorem Near.of_below {lo : Nat} {w w' : World} (hb : Below w.heap.size w w') : Near lo w w' := ⟨hb.size, fun _ _ hlt => hb.cell hlt⟩
theorem Near.trans {lo : Nat} {w w' w'' : World} (h : Near lo w w') (h' : Near lo w' w'') : Near lo w w'' := ⟨Nat.le_trans h.1 h'.1, fun p hp hlt => (h'.2 p hp (Nat.lt_of_lt_of_le hlt h.1)).trans (h.2 p hp hlt)⟩
theorem Near.mono {lo lo' : Nat} {w w' : World} (h : Near lo w w') (hl : lo ≤ lo') : Near lo' w w' := ⟨h.1, fun p hp hlt => h.2 p (Nat.le_trans hl hp) hlt⟩
theorem Near.set {lo : Nat} {w : World} {g j : Nat} (v : Value) (hg : g < lo) : Near lo w (w.setCell ⟨g, j, none⟩ v) :=
 ⟨by simp, fun p hp _ => World.cell?_setCell_other _ _ _ _ (fun h => by subst h; exact absurd hg (Nat.not_lt.2 hp))⟩
theorem Rd.near {lo : Nat} {w w' : World} {a : Option Addr} {l : List Nat} (h : Rd w a l) (hlo : ∀ x, a = some x → lo ≤ x.block) (hb : Near lo w w') : Rd w' a l := by
 rcases h with h | ⟨b, off, e, hlt, hc⟩
 ·exact .inl h
 ·have := hlo _ e
  exact .inr ⟨b, off, e, Nat.lt_of_lt_of_le hlt hb.1, fun i hi => (hb.2 ⟨b, off + i, none⟩ this hlt).trans (hc i hi)⟩
def IsSl (lo : Nat) (w : World) (s : SlQ) (d : List Nat) : Prop := d.length = s.2.1 ∧ s.2.1 ≤ s.2.2 ∧ s.2.2 ≤ maxLen ∧ IsB d ∧ Rd w s.1 d ∧ ∀ x, s.1 = some x → lo ≤ x.block
theorem IsSl.near {lo : Nat} {w w' : World} {s : SlQ} {d : List Nat} (h : IsSl lo w s d) (hb : Near lo w w') : IsSl lo w' s d := ⟨h.1, h.2.1, h.2.2.1, h.2.2.2.1, h.2.2.2.2.1.near h.2.2.2.2.2 hb, h.2.2.2.2.2⟩
theorem IsSl.below {lo : Nat} {w w' : World} {s : SlQ} {d : List Nat} (h : IsSl lo w s d) (hb : Below w.heap.size w w') : IsSl lo w' s d := h.near (.of_below hb)
theorem IsSl.low {lo lo' : Nat} {w : World} {s : SlQ} {d : List Nat} (h : IsSl lo w s d) (hl : lo' ≤ lo) : IsSl lo' w s d := ⟨h.1, h.2.1, h.2.2.1, h.2.2.2.1, h.2.2.2.2.1, fun x hx => Nat.le_trans hl (h.2.2.2.2.2 x hx)⟩
def RdM (lo : Nat) (w : World) (a : Option Addr) (l : List Msg) : Prop :=
 l = [] ∨ ∃ b off, a = some ⟨b, off, none⟩ ∧ lo ≤ b ∧ b < w.heap.size ∧ ∀ i, i < l.length → ∃ s, (w.cell? ⟨b, off + i * 4, none⟩ = some (.int .i64 (nthM l i).u) ∧ w.cell? ⟨b, off + i * 4 + 1, none⟩ = some (.int .i64 (nthM l i).f) ∧ w.cell? ⟨b, off + i * 4 + 2, none⟩ = some (.int .i64 (nthM l i).d) ∧ w.cell? ⟨b, off + i * 4 + 3, none⟩ = some (slW s)) ∧ IsSl lo w s (nthM l i).b
theorem RdM.near {lo : Nat} {w w' : World} {a : Option Addr} {l : List Msg} (h : RdM lo w a l) (hb : Near lo w w') : RdM lo w' a l := by
 rcases h with h | ⟨b, off, e, hlo, hlt, hc⟩
 ·exact .inl h
 ·refine .inr ⟨b, off, e, hlo, Nat.lt_of_lt_of_le hlt hb.1, fun i hi => ?_⟩
  obtain ⟨s, ⟨c0, c1, c2, c3⟩, hs⟩ := hc i hi
  exact ⟨s, ⟨(hb.2 ⟨b, off + i * 4, none⟩ hlo hlt).trans c0, (hb.2 ⟨b, off + i * 4 + 1, none⟩ hlo hlt).trans c1, (hb.2 ⟨b, off + i * 4 + 2, none⟩ hlo hlt).trans c2, (hb.2 ⟨b, off + i * 4 + 3, none⟩ hlo hlt).trans c3⟩, hs.near hb⟩
theorem RdM.below {lo : Nat} {w w' : World} {a : Option Addr} {l : List Msg} (h : RdM lo w a l) (hb : Below w.heap.size w w') : RdM lo w' a l := h.near (.of_below hb)
theorem RdM.low {lo lo' : Nat} {w : World} {a : Option Addr} {l : List Msg} (h : RdM lo w a l) (hl : lo' ≤ lo) : RdM lo' w a l := by
 rcases h with h | ⟨b, off, e, hlo, hlt, hc⟩
 ·exact .inl h
 ·refine .inr ⟨b, off, e, Nat.le_trans hl hlo, hlt, fun i hi => ?_⟩
  obtain ⟨s, c, hs⟩ := hc i hi
  exact ⟨s, c, hs.low hl⟩
theorem RdM.at_ {lo : Nat} {w : World} {a : Option Addr} {l : List Msg} (h : RdM lo w a l) (hp : 0 < l.length) :
  ∃ b off, a = some ⟨b, off, none⟩ ∧ lo ≤ b ∧ b < w.heap.size ∧ ∀ i, i < l.length → ∃ s, (w.cell? ⟨b, off + i * 4, none⟩ = some (.int .i64 (nthM l i).u) ∧ w.cell? ⟨b, off + i * 4 + 1, none⟩ = some (.int .i64 (nthM l i).f) ∧ w.cell? ⟨b, off + i * 4 + 2, none⟩ = some (.int .i64 (nthM l i).d) ∧ w.cell? ⟨b, off + i * 4 + 3, none⟩ = some (slW s)) ∧ IsSl lo w s (nthM l i).b := by
 rcases h with h | h
 ·rw [h] at hp; simp at hp
 ·exact h
def IsMs (lo : Nat) (w : World) (s : SlQ) (l : List Msg) : Prop := l.length = s.2.1 ∧ s.2.1 ≤ s.2.2 ∧ s.2.2 ≤ maxLen ∧ RdM lo w s.1 l
theorem IsMs.near {lo : Nat} {w w' : World} {s : SlQ} {l : List Msg} (h : IsMs lo w s l) (hb : Near lo w w') : IsMs lo w' s l := ⟨h.1, h.2.1, h.2.2.1, h.2.2.2.near hb⟩
theorem IsMs.below {lo : Nat} {w w' : World} {s : SlQ} {l : List Msg} (h : IsMs lo w s l) (hb : Below w.heap.size w w') : IsMs lo w' s l := h.near (.of_below hb)
theorem IsMs.low {lo lo' : Nat} {w : World} {s : SlQ} {l : List Msg} (h : IsMs lo w s l) (hl : lo' ≤ lo) : IsMs lo' w s l := ⟨h.1, h.2.1, h.2.2.1, h.2.2.2.low hl⟩
structure Bx where
 n : ByteArray
 v : Int
 x : Int
 m : List Msg
abbrev bxQ (m : Bx) (s : SlQ) : Qd := (.string m.n, .int .i64 m.v, .int .i64 m.x, slW s)
def nthX (l : List Bx) (i : Nat) : Bx := l.getD i ⟨ByteArray.empty, 0, 0, []⟩
def RdX (lo : Nat) (w : World) (a : Option Addr) (l : List Bx) : Prop :=
 l = [] ∨ ∃ b off, a = some ⟨b, off, none⟩ ∧ lo ≤ b ∧ b < w.heap.size ∧ ∀ i, i < l.length → ∃ s, (w.cell? ⟨b, off + i * 4, none⟩ = some (.string (nthX l i).n) ∧ w.cell? ⟨b, off + i * 4 + 1, none⟩ = some (.int .i64 (nthX l i).v) ∧ w.cell? ⟨b, off + i * 4 + 2, none⟩ = some (.int .i64 (nthX l i).x) ∧ w.cell? ⟨b, off + i * 4 + 3, none⟩ = some (slW s)) ∧ IsMs lo w s (nthX l i).m
theorem RdX.near {lo : Nat} {w w' : World} {a : Option Addr} {l : List Bx} (h : RdX lo w a l) (hb : Near lo w w') : RdX lo w' a l := by
 rcases h with h | ⟨b, off, e, hlo, hlt, hc⟩
 ·exact .inl h
 ·refine .inr ⟨b, off, e, hlo, Nat.lt_of_lt_of_le hlt hb.1, fun i hi => ?_⟩
  obtain ⟨s, ⟨c0, c1, c2, c3⟩, hs⟩ := hc i hi
  exact ⟨s, ⟨(hb.2 ⟨b, off + i * 4, none⟩ hlo hlt).trans c0, (hb.2 ⟨b, off + i * 4 + 1, none⟩ hlo hlt).trans c1, (hb.2 ⟨b, off + i * 4 + 2, none⟩ hlo hlt).trans c2, (hb.2 ⟨b, off + i * 4 + 3, none⟩ hlo hlt).trans c3⟩, hs.near hb⟩
theorem RdX.below {lo : Nat} {w w' : World} {a : Option Addr} {l : List Bx} (h : RdX lo w a l) (hb : Below w.heap.size w w') : RdX lo w' a l := h.near (.of_below hb)
theorem RdX.low {lo lo' : Nat} {w : World} {a : Option Addr} {l : List Bx} (h : RdX lo w a l) (hl : lo' ≤ lo) : RdX lo' w a l := by
 rcases h with h | ⟨b, off, e, hlo, hlt, hc⟩
 ·exact .inl h
 ·refine .inr ⟨b, off, e, Nat.le_trans hl hlo, hlt, fun i hi => ?_⟩
  obtain ⟨s, c, hs⟩ := hc i hi
  exact ⟨s, c, hs.low hl⟩
theorem RdX.at_ {lo : Nat} {w : World} {a : Option Addr} {l : List Bx} (h : RdX lo w a l) (hp : 0 < l.length) :
  ∃ b off, a = some ⟨b, off, none⟩ ∧ lo ≤ b ∧ b < w.heap.size ∧ ∀ i, i < l.length → ∃ s, (w.cell? ⟨b, off + i * 4, none⟩ = some (.string (nthX l i).n) ∧ w.cell? ⟨b, off + i * 4 + 1, none⟩ = some (.int .i64 (nthX l i).v) ∧ w.cell? ⟨b, off + i * 4 + 2, none⟩ = some (.int .i64 (nthX l i).x) ∧ w.cell? ⟨b, off + i * 4 + 3, none⟩ = some (slW s)) ∧ IsMs lo w s (nthX l i).m := by
 rcases h with h | h
 ·rw [h] at hp; simp at hp
 ·exact h
def IsXs (lo : Nat) (w : World) (s : SlQ) (l : List Bx) : Prop := l.length = s.2.1 ∧ s.2.1 ≤ s.2.2 ∧ s.2.2 ≤ maxLen ∧ RdX lo w s.1 l
theorem IsXs.near {lo : Nat} {w w' : World} {s : SlQ} {l : List Bx} (h : IsXs lo w s l) (hb : Near lo w w') : IsXs lo w' s l := ⟨h.1, h.2.1, h.2.2.1, h.2.2.2.near hb⟩
theorem IsXs.below {lo : Nat} {w w' : World} {s : SlQ} {l : List Bx} (h : IsXs lo w s l) (hb : Below w.heap.size w w') : IsXs lo w' s l := h.near (.of_below hb)
theorem IsXs.low {lo lo' : Nat} {w : World} {s : SlQ} {l : List Bx} (h : IsXs lo w s l) (hl : lo' ≤ lo) : IsXs lo' w s l := ⟨h.1, h.2.1, h.2.2.1, h.2.2.2.low hl⟩
end Go.Proofs.YtdcgihcjiiemdaaDoor
