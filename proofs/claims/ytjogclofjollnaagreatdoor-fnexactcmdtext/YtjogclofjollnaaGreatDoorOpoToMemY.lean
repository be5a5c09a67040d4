/- Words on memory, with no program in them: where a slice of numbers is read, from a block on; ops (eight cells: numbers, two texts, numbers, bytes), rows of them; what a copy in the making holds · Words on memory: where a slice of ranges (two numbers each) is read, what a row of the call's own holds, an append; no conditions beyond those that each fact names. -/
import Derived.Test.YtjogclofjollnaaGreatDoorMrk0ToMemI
import Derived.Test.YtjogclofjollnaaGreatDoorJfzToApp
namespace Go.Proofs.YtjogclofjollnaaGreatDoor
open Go.RowKit
theorem RdI.near {lo : Nat} {w w' : World} {a : Option Addr} {l : List Int} (h : RdI w a l) (hlo : ∀ x, a = some x → lo ≤ x.block) (hb : Near lo w w') : RdI w' a l := by
 rcases h with h | ⟨b, off, e, hlt, hc⟩
 ·exact .inl h
 ·have := hlo _ e
  exact .inr ⟨b, off, e, Nat.lt_of_lt_of_le hlt hb.1, fun i hi => (hb.2 ⟨b, off + i, none⟩ this hlt).trans (hc i hi)⟩
def IsIl (lo : Nat) (w : World) (s : SlQ) (d : List Int) : Prop := d.length = s.2.1 ∧ s.2.1 ≤ s.2.2 ∧ s.2.2 ≤ maxLen ∧ RdI w s.1 d ∧ ∀ x, s.1 = some x → lo ≤ x.block
theorem IsIl.near {lo : Nat} {w w' : World} {s : SlQ} {d : List Int} (h : IsIl lo w s d) (hb : Near lo w w') : IsIl lo w' s d := ⟨h.1, h.2.1, h.2.2.1, h.2.2.2.1.near h.2.2.2.2 hb, h.2.2.2.2⟩
theorem IsIl.below {lo : Nat} {w w' : World} {s : SlQ} {d : List Int} (h : IsIl lo w s d) (hb : Below w.heap.size w w') : IsIl lo w' s d := h.near (.of_below hb)
theorem IsIl.low {lo lo' : Nat} {w : World} {s : SlQ} {d : List Int} (h : IsIl lo w s d) (hl : lo' ≤ lo) : IsIl lo' w s d := ⟨h.1, h.2.1, h.2.2.1, h.2.2.2.1, fun x hx => Nat.le_trans hl (h.2.2.2.2 x hx)⟩
structure Oc where
 c0 : Value
 c1 : Value
 c2 : Value
 c3 : Value
 c4 : Value
 c5 : Value
 c6 : Value
 c7 : Value
def oc (l : List Oc) : List Value := l.flatMap fun p => [p.c0, p.c1, p.c2, p.c3, p.c4, p.c5, p.c6, p.c7]
structure OpR where
 k : Int
 x : ByteArray
 t : ByteArray
 u : List Int
 m : Int
 f : Int
 d : Int
 b : List Nat
abbrev SlO := SlQ × SlQ
def nthO (l : List OpR) (i : Nat) : OpR := l.getD i ⟨0, ByteArray.empty, ByteArray.empty, [], 0, 0, 0, []⟩
def IsOp (lo : Nat) (w : World) (p : SlO) (o : OpR) : Prop := IsIl lo w p.1 o.u ∧ IsSl lo w p.2 o.b
theorem IsOp.near {lo : Nat} {w w' : World} {p : SlO} {o : OpR} (h : IsOp lo w p o) (hb : Near lo w w') : IsOp lo w' p o := ⟨h.1.near hb, h.2.near hb⟩
theorem IsOp.below {lo : Nat} {w w' : World} {p : SlO} {o : OpR} (h : IsOp lo w p o) (hb : Below w.heap.size w w') : IsOp lo w' p o := h.near (.of_below hb)
theorem IsOp.low {lo lo' : Nat} {w : World} {p : SlO} {o : OpR} (h : IsOp lo w p o) (hl : lo' ≤ lo) : IsOp lo' w p o := ⟨h.1.low hl, h.2.low hl⟩
def RdO (lo : Nat) (w : World) (a : Option Addr) (l : List OpR) : Prop :=
 l = [] ∨ ∃ b off, a = some ⟨b, off, none⟩ ∧ lo ≤ b ∧ b < w.heap.size ∧ ∀ i, i < l.length → ∃ p : SlO, (w.cell? ⟨b, off + i * 8, none⟩ = some (.int .i64 (nthO l i).k) ∧ w.cell? ⟨b, off + i * 8 + 1, none⟩ = some (.string (nthO l i).x) ∧ w.cell? ⟨b, off + i * 8 + 2, none⟩ = some (.string (nthO l i).t) ∧ w.cell? ⟨b, off + i * 8 + 3, none⟩ = some (slW p.1) ∧ w.cell? ⟨b, off + i * 8 + 4, none⟩ = some (.int .i64 (nthO l i).m) ∧ w.cell? ⟨b, off + i * 8 + 5, none⟩ = some (.int .i64 (nthO l i).f) ∧ w.cell? ⟨b, off + i * 8 + 6, none⟩ = some (.int .i64 (nthO l i).d) ∧ w.cell? ⟨b, off + i * 8 + 7, none⟩ = some (slW p.2)) ∧ IsOp lo w p (nthO l i)
theorem RdO.near {lo : Nat} {w w' : World} {a : Option Addr} {l : List OpR} (h : RdO lo w a l) (hb : Near lo w w') : RdO lo w' a l := by
 rcases h with h | ⟨b, off, e, hlo, hlt, hc⟩
 ·exact .inl h
 ·refine .inr ⟨b, off, e, hlo, Nat.lt_of_lt_of_le hlt hb.1, fun i hi => ?_⟩
  obtain ⟨p, ⟨c0, c1, c2, c3, c4, c5, c6, c7⟩, hs⟩ := hc i hi
  exact ⟨p, ⟨(hb.2 ⟨b, off + i * 8, none⟩ hlo hlt).trans c0, (hb.2 ⟨b, off + i * 8 + 1, none⟩ hlo hlt).trans c1, (hb.2 ⟨b, off + i * 8 + 2, none⟩ hlo hlt).trans c2, (hb.2 ⟨b, off + i * 8 + 3, none⟩ hlo hlt).trans c3, (hb.2 ⟨b, off + i * 8 + 4, none⟩ hlo hlt).trans c4, (hb.2 ⟨b, off + i * 8 + 5, none⟩ hlo hlt).trans c5, (hb.2 ⟨b, off + i * 8 + 6, none⟩ hlo hlt).trans c6, (hb.2 ⟨b, off + i * 8 + 7, none⟩ hlo hlt).trans c7⟩, hs.near hb⟩
theorem RdO.below {lo : Nat} {w w' : World} {a : Option Addr} {l : List OpR} (h : RdO lo w a l) (hb : Below w.heap.size w w') : RdO lo w' a l := h.near (.of_below hb)
theorem RdO.low {lo lo' : Nat} {w : World} {a : Option Addr} {l : List OpR} (h : RdO lo w a l) (hl : lo' ≤ lo) : RdO lo' w a l := by
 rcases h with h | ⟨b, off, e, hlo, hlt, hc⟩
 ·exact .inl h
 ·refine .inr ⟨b, off, e, Nat.le_trans hl hlo, hlt, fun i hi => ?_⟩
  obtain ⟨p, c, hs⟩ := hc i hi
  exact ⟨p, c, hs.low hl⟩
theorem RdO.at_ {lo : Nat} {w : World} {a : Option Addr} {l : List OpR} (h : RdO lo w a l) (hp : 0 < l.length) :
  ∃ b off, a = some ⟨b, off, none⟩ ∧ lo ≤ b ∧ b < w.heap.size ∧ ∀ i, i < l.length → ∃ p : SlO, (w.cell? ⟨b, off + i * 8, none⟩ = some (.int .i64 (nthO l i).k) ∧ w.cell? ⟨b, off + i * 8 + 1, none⟩ = some (.string (nthO l i).x) ∧ w.cell? ⟨b, off + i * 8 + 2, none⟩ = some (.string (nthO l i).t) ∧ w.cell? ⟨b, off + i * 8 + 3, none⟩ = some (slW p.1) ∧ w.cell? ⟨b, off + i * 8 + 4, none⟩ = some (.int .i64 (nthO l i).m) ∧ w.cell? ⟨b, off + i * 8 + 5, none⟩ = some (.int .i64 (nthO l i).f) ∧ w.cell? ⟨b, off + i * 8 + 6, none⟩ = some (.int .i64 (nthO l i).d) ∧ w.cell? ⟨b, off + i * 8 + 7, none⟩ = some (slW p.2)) ∧ IsOp lo w p (nthO l i) := by
 rcases h with h | h
 ·rw [h] at hp; simp at hp
 ·exact h
def IsOs (lo : Nat) (w : World) (s : SlQ) (l : List OpR) : Prop := l.length = s.2.1 ∧ s.2.1 ≤ s.2.2 ∧ s.2.2 ≤ maxLen ∧ RdO lo w s.1 l
theorem IsOs.near {lo : Nat} {w w' : World} {s : SlQ} {l : List OpR} (h : IsOs lo w s l) (hb : Near lo w w') : IsOs lo w' s l := ⟨h.1, h.2.1, h.2.2.1, h.2.2.2.near hb⟩
theorem IsOs.below {lo : Nat} {w w' : World} {s : SlQ} {l : List OpR} (h : IsOs lo w s l) (hb : Below w.heap.size w w') : IsOs lo w' s l := h.near (.of_below hb)
theorem IsOs.low {lo lo' : Nat} {w : World} {s : SlQ} {l : List OpR} (h : IsOs lo w s l) (hl : lo' ≤ lo) : IsOs lo' w s l := ⟨h.1, h.2.1, h.2.2.1, h.2.2.2.low hl⟩
def Qo (w : World) (g : Nat) (q : Oc) : Prop := w.cell? ⟨g, 0, none⟩ = some q.c0 ∧ w.cell? ⟨g, 1, none⟩ = some q.c1 ∧ w.cell? ⟨g, 2, none⟩ = some q.c2 ∧ w.cell? ⟨g, 3, none⟩ = some q.c3 ∧ w.cell? ⟨g, 4, none⟩ = some q.c4 ∧ w.cell? ⟨g, 5, none⟩ = some q.c5 ∧ w.cell? ⟨g, 6, none⟩ = some q.c6 ∧ w.cell? ⟨g, 7, none⟩ = some q.c7
theorem Qo.below {C : Nat} {w w' : World} {g : Nat} {q : Oc} (h : Qo w g q) (hb : Below C w w') (hg : g < C) : Qo w' g q := by
 obtain ⟨h0, h1, h2, h3, h4, h5, h6, h7⟩ := h
 exact ⟨(hb.cell (p := ⟨g, 0, none⟩) hg).trans h0, (hb.cell (p := ⟨g, 1, none⟩) hg).trans h1, (hb.cell (p := ⟨g, 2, none⟩) hg).trans h2, (hb.cell (p := ⟨g, 3, none⟩) hg).trans h3, (hb.cell (p := ⟨g, 4, none⟩) hg).trans h4, (hb.cell (p := ⟨g, 5, none⟩) hg).trans h5, (hb.cell (p := ⟨g, 6, none⟩) hg).trans h6, (hb.cell (p := ⟨g, 7, none⟩) hg).trans h7⟩
theorem Qo.new (w : World) (c0 c1 c2 c3 c4 c5 c6 c7 : Value) (t : TypeId) : Qo (w.alloc (.cells #[c0, c1, c2, c3, c4, c5, c6, c7] t)) w.heap.size ⟨c0, c1, c2, c3, c4, c5, c6, c7⟩ := ⟨by simp, by simp, by simp, by simp, by simp, by simp, by simp, by simp⟩
theorem Qo.lt {w : World} {g : Nat} {q : Oc} (h : Qo w g q) : g < w.heap.size := World.block_lt_of_cell? w ⟨g, 0, none⟩ h.1
def Fo (w : World) (g : Nat) : Prop := w.frozen? ⟨g, 0, none⟩ = false ∧ w.frozen? ⟨g, 1, none⟩ = false ∧ w.frozen? ⟨g, 2, none⟩ = false ∧ w.frozen? ⟨g, 3, none⟩ = false ∧ w.frozen? ⟨g, 4, none⟩ = false ∧ w.frozen? ⟨g, 5, none⟩ = false ∧ w.frozen? ⟨g, 6, none⟩ = false ∧ w.frozen? ⟨g, 7, none⟩ = false
theorem Fo.below {C : Nat} {w w' : World} {g : Nat} (h : Fo w g) (hb : Below C w w') (hg : g < C) : Fo w' g := by
 obtain ⟨h0, h1, h2, h3, h4, h5, h6, h7⟩ := h
 exact ⟨(hb.frozen (p := ⟨g, 0, none⟩) hg).trans h0, (hb.frozen (p := ⟨g, 1, none⟩) hg).trans h1, (hb.frozen (p := ⟨g, 2, none⟩) hg).trans h2, (hb.frozen (p := ⟨g, 3, none⟩) hg).trans h3, (hb.frozen (p := ⟨g, 4, none⟩) hg).trans h4, (hb.frozen (p := ⟨g, 5, none⟩) hg).trans h5, (hb.frozen (p := ⟨g, 6, none⟩) hg).trans h6, (hb.frozen (p := ⟨g, 7, none⟩) hg).trans h7⟩
theorem Fo.new (w : World) (c0 c1 c2 c3 c4 c5 c6 c7 : Value) (t : TypeId) : Fo (w.alloc (.cells #[c0, c1, c2, c3, c4, c5, c6, c7] t)) w.heap.size := ⟨by simp, by simp, by simp, by simp, by simp, by simp, by simp, by simp⟩
theorem Fo.set {w : World} {g : Nat} (h : Fo w g) (p : Addr) (v : Value) : Fo (w.setCell p v) g := by
 obtain ⟨h0, h1, h2, h3, h4, h5, h6, h7⟩ := h
 exact ⟨by simpa using h0, by simpa using h1, by simpa using h2, by simpa using h3, by simpa using h4, by simpa using h5, by simpa using h6, by simpa using h7⟩
theorem Qo.far {w : World} {g : Nat} {q : Oc} (h : Qo w g q) (k j : Nat) (v : Value) (hk : k ≠ g) : Qo (w.setCell ⟨k, j, none⟩ v) g q := by
 obtain ⟨h0, h1, h2, h3, h4, h5, h6, h7⟩ := h
 exact ⟨(World.cell?_setCell_other _ _ _ _ (fun e => by cases e; exact hk rfl)).trans h0, (World.cell?_setCell_other _ _ _ _ (fun e => by cases e; exact hk rfl)).trans h1, (World.cell?_setCell_other _ _ _ _ (fun e => by cases e; exact hk rfl)).trans h2, (World.cell?_setCell_other _ _ _ _ (fun e => by cases e; exact hk rfl)).trans h3, (World.cell?_setCell_other _ _ _ _ (fun e => by cases e; exact hk rfl)).trans h4, (World.cell?_setCell_other _ _ _ _ (fun e => by cases e; exact hk rfl)).trans h5, (World.cell?_setCell_other _ _ _ _ (fun e => by cases e; exact hk rfl)).trans h6, (World.cell?_setCell_other _ _ _ _ (fun e => by cases e; exact hk rfl)).trans h7⟩
theorem Qo.put0 {w : World} {g : Nat} {q : Oc} (h : Qo w g q) (v : Value) : Qo (w.setCell ⟨g, 0, none⟩ v) g { q with c0 := v } := by
 obtain ⟨h0, h1, h2, h3, h4, h5, h6, h7⟩ := h
 exact ⟨World.cell?_setCell_same _ _ _ h0, (World.cell?_setCell_other _ _ _ _ (by simp)).trans h1, (World.cell?_setCell_other _ _ _ _ (by simp)).trans h2, (World.cell?_setCell_other _ _ _ _ (by simp)).trans h3, (World.cell?_setCell_other _ _ _ _ (by simp)).trans h4, (World.cell?_setCell_other _ _ _ _ (by simp)).trans h5, (World.cell?_setCell_other _ _ _ _ (by simp)).trans h6, (World.cell?_setCell_other _ _ _ _ (by simp)).trans h7⟩
theorem Qo.put1 {w : World} {g : Nat} {q : Oc} (h : Qo w g q) (v : Value) : Qo (w.setCell ⟨g, 1, none⟩ v) g { q with c1 := v } := by
 obtain ⟨h0, h1, h2, h3, h4, h5, h6, h7⟩ := h
 exact ⟨(World.cell?_setCell_other _ _ _ _ (by simp)).trans h0, World.cell?_setCell_same _ _ _ h1, (World.cell?_setCell_other _ _ _ _ (by simp)).trans h2, (World.cell?_setCell_other _ _ _ _ (by simp)).trans h3, (World.cell?_setCell_other _ _ _ _ (by simp)).trans h4, (World.cell?_setCell_other _ _ _ _ (by simp)).trans h5, (World.cell?_setCell_other _ _ _ _ (by simp)).trans h6, (World.cell?_setCell_other _ _ _ _ (by simp)).trans h7⟩
theorem Qo.put2 {w : World} {g : Nat} {q : Oc} (h : Qo w g q) (v : Value) : Qo (w.setCell ⟨g, 2, none⟩ v) g { q with c2 := v } := by
 obtain ⟨h0, h1, h2, h3, h4, h5, h6, h7⟩ := h
 exact ⟨(World.cell?_setCell_other _ _ _ _ (by simp)).trans h0, (World.cell?_setCell_other _ _ _ _ (by simp)).trans h1, World.cell?_setCell_same _ _ _ h2, (World.cell?_setCell_other _ _ _ _ (by simp)).trans h3, (World.cell?_setCell_other _ _ _ _ (by simp)).trans h4, (World.cell?_setCell_other _ _ _ _ (by simp)).trans h5, (World.cell?_setCell_other _ _ _ _ (by simp)).trans h6, (World.cell?_setCell_other _ _ _ _ (by simp)).trans h7⟩
theorem Qo.put3 {w : World} {g : Nat} {q : Oc} (h : Qo w g q) (v : Value) : Qo (w.setCell ⟨g, 3, none⟩ v) g { q with c3 := v } := by
 obtain ⟨h0, h1, h2, h3, h4, h5, h6, h7⟩ := h
 exact ⟨(World.cell?_setCell_other _ _ _ _ (by simp)).trans h0, (World.cell?_setCell_other _ _ _ _ (by simp)).trans h1, (World.cell?_setCell_other _ _ _ _ (by simp)).trans h2, World.cell?_setCell_same _ _ _ h3, (World.cell?_setCell_other _ _ _ _ (by simp)).trans h4, (World.cell?_setCell_other _ _ _ _ (by simp)).trans h5, (World.cell?_setCell_other _ _ _ _ (by simp)).trans h6, (World.cell?_setCell_other _ _ _ _ (by simp)).trans h7⟩
theorem Qo.put4 {w : World} {g : Nat} {q : Oc} (h : Qo w g q) (v : Value) : Qo (w.setCell ⟨g, 4, none⟩ v) g { q with c4 := v } := by
 obtain ⟨h0, h1, h2, h3, h4, h5, h6, h7⟩ := h
 exact ⟨(World.cell?_setCell_other _ _ _ _ (by simp)).trans h0, (World.cell?_setCell_other _ _ _ _ (by simp)).trans h1, (World.cell?_setCell_other _ _ _ _ (by simp)).trans h2, (World.cell?_setCell_other _ _ _ _ (by simp)).trans h3, World.cell?_setCell_same _ _ _ h4, (World.cell?_setCell_other _ _ _ _ (by simp)).trans h5, (World.cell?_setCell_other _ _ _ _ (by simp)).trans h6, (World.cell?_setCell_other _ _ _ _ (by simp)).trans h7⟩
theorem Qo.put5 {w : World} {g : Nat} {q : Oc} (h : Qo w g q) (v : Value) : Qo (w.setCell ⟨g, 5, none⟩ v) g { q with c5 := v } := by
 obtain ⟨h0, h1, h2, h3, h4, h5, h6, h7⟩ := h
 exact ⟨(World.cell?_setCell_other _ _ _ _ (by simp)).trans h0, (World.cell?_setCell_other _ _ _ _ (by simp)).trans h1, (World.cell?_setCell_other _ _ _ _ (by simp)).trans h2, (World.cell?_setCell_other _ _ _ _ (by simp)).trans h3, (World.cell?_setCell_other _ _ _ _ (by simp)).trans h4, World.cell?_setCell_same _ _ _ h5, (World.cell?_setCell_other _ _ _ _ (by simp)).trans h6, (World.cell?_setCell_other _ _ _ _ (by simp)).trans h7⟩
theorem Qo.put6 {w : World} {g : Nat} {q : Oc} (h : Qo w g q) (v : Value) : Qo (w.setCell ⟨g, 6, none⟩ v) g { q with c6 := v } := by
 obtain ⟨h0, h1, h2, h3, h4, h5, h6, h7⟩ := h
 exact ⟨(World.cell?_setCell_other _ _ _ _ (by simp)).trans h0, (World.cell?_setCell_other _ _ _ _ (by simp)).trans h1, (World.cell?_setCell_other _ _ _ _ (by simp)).trans h2, (World.cell?_setCell_other _ _ _ _ (by simp)).trans h3, (World.cell?_setCell_other _ _ _ _ (by simp)).trans h4, (World.cell?_setCell_other _ _ _ _ (by simp)).trans h5, World.cell?_setCell_same _ _ _ h6, (World.cell?_setCell_other _ _ _ _ (by simp)).trans h7⟩
theorem Qo.put7 {w : World} {g : Nat} {q : Oc} (h : Qo w g q) (v : Value) : Qo (w.setCell ⟨g, 7, none⟩ v) g { q with c7 := v } := by
 obtain ⟨h0, h1, h2, h3, h4, h5, h6, h7⟩ := h
 exact ⟨(World.cell?_setCell_other _ _ _ _ (by simp)).trans h0, (World.cell?_setCell_other _ _ _ _ (by simp)).trans h1, (World.cell?_setCell_other _ _ _ _ (by simp)).trans h2, (World.cell?_setCell_other _ _ _ _ (by simp)).trans h3, (World.cell?_setCell_other _ _ _ _ (by simp)).trans h4, (World.cell?_setCell_other _ _ _ _ (by simp)).trans h5, (World.cell?_setCell_other _ _ _ _ (by simp)).trans h6, World.cell?_setCell_same _ _ _ h7⟩
end Go.Proofs.YtjogclofjollnaaGreatDoor
namespace Go.Proofs.YtjogclofjollnaaGreatDoor
open Go.RowKit
abbrev YgP := Int × Int
def nthY (l : List YgP) (i : Nat) : YgP := l.getD i (0, 0)
def yc (l : List YgP) : List Value := l.flatMap fun p => [Value.int .i64 p.1, Value.int .i64 p.2]
theorem nthY_get {l : List YgP} {i : Nat} (h : i < l.length) : nthY l i = l[i] := by
 unfold nthY; rw [List.getD_eq_getElem?_getD, List.getElem?_eq_getElem h]; rfl
theorem yc_cons (p : YgP) (l : List YgP) : yc (p :: l) = .int .i64 p.1 :: .int .i64 p.2 :: yc l := rfl
theorem yc_len : ∀ l : List YgP, (yc l).length = l.length * 2
 | [] => rfl
 | p :: l => by rw [yc_cons, List.length_cons, List.length_cons, yc_len l, List.length_cons]; omega
theorem yc_get : ∀ (l : List YgP) (i : Nat), i < l.length → (yc l)[i * 2]? = some (.int .i64 (nthY l i).1) ∧ (yc l)[i * 2 + 1]? = some (.int .i64 (nthY l i).2)
 | [], _, h => by simp at h
 | p :: l, 0, _ => ⟨rfl, rfl⟩
 | p :: l, i + 1, h => by
  have := yc_get l i (by simpa using h)
  rw [yc_cons, show (i + 1) * 2 = i * 2 + 2 by omega]
  exact this
theorem take_snocY (l : List YgP) (k : Nat) (h : k < l.length) : l.take (k + 1) = l.take k ++ [nthY l k] := by
 rw [List.take_succ_eq_append_getElem h, nthY_get h]
def RdY (w : World) (a : Option Addr) (l : List YgP) : Prop :=
 l = [] ∨ ∃ b off, a = some ⟨b, off, none⟩ ∧ b < w.heap.size ∧ ∀ i, i < l.length → w.cell? ⟨b, off + i * 2, none⟩ = some (.int .i64 (nthY l i).1) ∧ w.cell? ⟨b, off + i * 2 + 1, none⟩ = some (.int .i64 (nthY l i).2)
theorem RdY.below {w w' : World} {a : Option Addr} {l : List YgP} (h : RdY w a l) (hb : Below w.heap.size w w') : RdY w' a l := by
 rcases h with h | ⟨b, off, e, hlt, hc⟩
 ·exact .inl h
 ·exact .inr ⟨b, off, e, Nat.lt_of_lt_of_le hlt hb.size, fun i hi => ⟨(hb.cell (p := ⟨b, off + i * 2, none⟩) hlt).trans (hc i hi).1, (hb.cell (p := ⟨b, off + i * 2 + 1, none⟩) hlt).trans (hc i hi).2⟩⟩
theorem RdY.at_ {w : World} {a : Option Addr} {l : List YgP} (h : RdY w a l) (hp : 0 < l.length) :
  ∃ b off, a = some ⟨b, off, none⟩ ∧ b < w.heap.size ∧ ∀ i, i < l.length → w.cell? ⟨b, off + i * 2, none⟩ = some (.int .i64 (nthY l i).1) ∧ w.cell? ⟨b, off + i * 2 + 1, none⟩ = some (.int .i64 (nthY l i).2) := by
 rcases h with h | h
 ·rw [h] at hp; simp at hp
 ·exact h
theorem RdY.own {w : World} {base e n cap : Nat} {a : Option Addr} {l : List YgP} (h : w.ownsRow base e 2 (.slice a n cap) n (yc l)) : RdY w a l := by
 have hl : l.length = n := by have := h.1; rw [yc_len] at this; omega
 rcases h.2 with ⟨_, h0⟩ | ⟨g, cap', cur, h', _, hg, _, _, _, htake⟩
 ·left; exact List.length_eq_zero_iff.1 (by omega)
 ·simp only [Value.slice.injEq] at h'
  obtain ⟨rfl, _, rfl⟩ := h'
  right
  refine ⟨g, 0, rfl, ?_, fun i hi => ?_⟩
  ·rcases Nat.lt_or_ge g w.heap.size with hlt | hge
   ·exact hlt
   ·simp [Array.getElem?_eq_none hge] at hg
  ·have hf := yc_get l i hi
   refine ⟨?_, ?_⟩
   ·rw [cell_of_row w g (0 + i * 2) cur e (0, 0) hg, ← hf.1, ← htake, List.getElem?_take, if_pos (by omega)]
    simp
   ·rw [cell_of_row w g (0 + i * 2 + 1) cur e (0, 0) hg, ← hf.2, ← htake, List.getElem?_take, if_pos (by omega)]
    simp
def zeroY : Value := .agg #[.int .i64 0, .int .i64 0]
theorem infoY : (Tryz.prog.info? 70).map (fun i => (i.zero, i.size, i.bytes)) = some (some zeroY, 2, 16) := by kernel_rfl
def OwnY (w : World) (B : Nat) (v : Value) (l : List YgP) : Prop := w.ownsRow B 70 2 v l.length (yc l)
theorem OwnY.nil (w : World) (B : Nat) : OwnY w B (.slice none 0 0) [] := World.ownsRow_nil _ _ _ _
theorem OwnY.alloc {w : World} {B : Nat} {v : Value} {l : List YgP} (h : OwnY w B v l) (o : Obj) : OwnY (w.alloc o) B v l := World.ownsRow.alloc h o
theorem OwnY.below {w w' : World} {B C : Nat} {v : Value} {l : List YgP} (h : OwnY w B v l) (hb : Below C w w') (hC : w.heap.size ≤ C) : OwnY w' B v l := by
 refine ⟨h.1, ?_⟩
 rcases h.2 with h' | ⟨g, cap, cur, h1, h2, h3, h4⟩
 ·exact .inl h'
 ·refine .inr ⟨g, cap, cur, h1, h2, ?_, h4⟩
  have hg : g < w.heap.size := by
   rcases Nat.lt_or_ge g w.heap.size with hlt | hge
   ·exact hlt
   ·simp [Array.getElem?_eq_none hge] at h3
  rw [hb.block g (by omega)]; exact h3
theorem OwnY.form {w : World} {B : Nat} {v : Value} {l : List YgP} (h : OwnY w B v l) : ∃ a cap, v = .slice a l.length cap ∧ l.length ≤ cap ∧ cap ≤ maxLen := by
 rcases h.2 with ⟨h', h0⟩ | ⟨g, cap, cur, h', _, _, h4, h5, _⟩
 ·exact ⟨none, 0, by rw [h', h0], by omega, by decide⟩
 ·exact ⟨_, cap, h', h4, h5⟩
theorem OwnY.rd {w : World} {B n cap : Nat} {a : Option Addr} {l : List YgP} (h : OwnY w B (.slice a n cap) l) : l.length = n ∧ RdY w a l := by
 have hf : l.length = n := by
  obtain ⟨a', c', e, _⟩ := h.form
  simp at e; omega
 subst hf
 exact ⟨rfl, RdY.own h⟩
theorem OwnY.low {w : World} {B C : Nat} {v : Value} {l : List YgP} (h : OwnY w B v l) (hC : C ≤ B) : OwnY w C v l := by
 refine ⟨h.1, ?_⟩
 rcases h.2 with h' | ⟨g, cap, cur, h1, h2, h3⟩
 ·exact .inl h'
 ·exact .inr ⟨g, cap, cur, h1, Nat.le_trans hC h2, h3⟩
theorem OwnY.kept {w : World} {B : Nat} {v : Value} {l : List YgP} (h : OwnY w B v l) (p : Addr) (hp : p.block < B) (u : Value) : OwnY (w.setCell p u) B v l := ownsRow_setCell_below h hp u
theorem OwnY.far {w w' : World} {B : Nat} {v : Value} {l : List YgP} {row : Option Nat} (h : OwnY w B v l) (hg : w.grownBy w' row) (hne : ∀ b, v.ownBlock = some b → some b ≠ row) : OwnY w' B v l := by
 refine ⟨h.1, ?_⟩
 rcases h.2 with h' | ⟨g, cap, cur, h1, h2, h3, h4⟩
 ·exact .inl h'
 ·refine .inr ⟨g, cap, cur, h1, h2, ?_, h4⟩
  have hlt : g < w.heap.size := by
   rcases Nat.lt_or_ge g w.heap.size with hlt | hge
   ·exact hlt
   ·simp [Array.getElem?_eq_none hge] at h3
  rw [hg.block g hlt (hne g (by rw [h1]; rfl))]; exact h3
end Go.Proofs.YtjogclofjollnaaGreatDoor
