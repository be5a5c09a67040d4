/- Words on memory, with no program in them: where a slice of numbers is read, from a block on; ops (eight cells: numbers, two texts, numbers, bytes), rows of them; what a copy in the making holds. -/
import Derived.Test.YtdcgihcjiiemdaaDoorMqr
import Derived.Test.YtdcgihcjiiemdaaDoorDrw2ToAppI
namespace Go.Proofs.YtdcgihcjiiemdaaDoor
open Go.RowKit
theorem RdI.near {lo : Nat} {w w' : World} {a : Option Addr} {l : List Int} (h : RdI w a l) (hlo : ∀ x, a = some x → lo ≤ x.block) (hb : Near lo w w') : RdI w' a l := by
 rcases h with h | ⟨b, off, e, hlt, hc⟩
 ·exact .inl h
 ·have := hlo _ e
  exact .inr ⟨b, off, e, Nat.lt_of_lt_of_le hlt hb.1, fun i hi => (hb.2 ⟨b, off + i, none⟩ this hlt).trans (hc i hi)⟩
def IsIl (lo : Nat) (w : World) (s : SlQ) (d : List Int) : Prop := d.length = s.2.1 ∧ s.2.1 ≤ s.2.2 ∧ s.2.2 ≤ maxLen ∧ RdI w s.1 d ∧ ∀ x, s.1 = some x → lo ≤ x.block
theorem IsIl.near {lo : Nat} {w w' : World} {s : SlQ} {d : List Int} (h : IsIl lo w s d) (hb : Near lo w w') : IsIl lo w' s d := ⟨h.1, h.2.1, h.2.2.1, h.2.2.2.1.near h.2.2.2.2 hb, h.2.2.2.2⟩
theorem IsIl.below {lo : Nat} {w w' : World} {s : SlQ} {d : List Int} (h : IsIl lo w s d) (hb : Below w.heap.size w w') : IsIl lo w' s d := h.near (.of_below hb)
theorem IsIl.low {lo lo' : Nat} {w : World} {s : SlQ} {d : List Int} (h : IsIl lo w s d) (hl : lo' ≤ lo) : IsIl lo' w s d := ⟨h.1, h.2.1, h.2.2.1, h.2.2.2.1, fun x hx => Nat.le_trans hl (h.2.2.2.2 x hx)⟩
structure Oc where
 c0 : Value
 c1 : Value
 c2 : Value
 c3 : Value
 c4 : Value
 c5 : Value
 c6 : Value
 c7 : Value
def nthOc (l : List Oc) (i : Nat) : Oc := l.getD i ⟨.bool false, .bool false, .bool false, .bool false, .bool false, .bool false, .bool false, .bool false⟩
def oc (l : List Oc) : List Value := l.flatMap fun p => [p.c0, p.c1, p.c2, p.c3, p.c4, p.c5, p.c6, p.c7]
theorem oc_cons (p : Oc) (l : List Oc) : oc (p :: l) = p.c0 :: p.c1 :: p.c2 :: p.c3 :: p.c4 :: p.c5 :: p.c6 :: p.c7 :: oc l := rfl
theorem oc_len : ∀ l : List Oc, (oc l).length = l.length * 8
 | [] => rfl
 | p :: l => by rw [oc_cons]; simp only [List.length_cons]; rw [oc_len l]; omega
theorem oc_get : ∀ (l : List Oc) (i : Nat), i < l.length → (oc l)[i * 8]? = some (nthOc l i).c0 ∧ (oc l)[i * 8 + 1]? = some (nthOc l i).c1 ∧ (oc l)[i * 8 + 2]? = some (nthOc l i).c2 ∧ (oc l)[i * 8 + 3]? = some (nthOc l i).c3 ∧ (oc l)[i * 8 + 4]? = some (nthOc l i).c4 ∧ (oc l)[i * 8 + 5]? = some (nthOc l i).c5 ∧ (oc l)[i * 8 + 6]? = some (nthOc l i).c6 ∧ (oc l)[i * 8 + 7]? = some (nthOc l i).c7
 | [], _, h => by simp at h
 | p :: l, 0, _ => ⟨rfl, rfl, rfl, rfl, rfl, rfl, rfl, rfl⟩
 | p :: l, i + 1, h => by
  have := oc_get l i (by simpa using h)
  rw [oc_cons, show (i + 1) * 8 = i * 8 + 8 by omega]
  exact this
theorem ownO_cells {w : World} {base e n cap g : Nat} {l : List Oc} (h : w.ownsRow base e 8 (.slice (some ⟨g, 0, none⟩) n cap) n (oc l)) (i : Nat) (hi : i < l.length) :
  g < w.heap.size ∧ w.cell? ⟨g, i * 8, none⟩ = some ((nthOc l i).c0) ∧ w.cell? ⟨g, i * 8 + 1, none⟩ = some ((nthOc l i).c1) ∧ w.cell? ⟨g, i * 8 + 2, none⟩ = some ((nthOc l i).c2) ∧ w.cell? ⟨g, i * 8 + 3, none⟩ = some ((nthOc l i).c3) ∧ w.cell? ⟨g, i * 8 + 4, none⟩ = some ((nthOc l i).c4) ∧ w.cell? ⟨g, i * 8 + 5, none⟩ = some ((nthOc l i).c5) ∧ w.cell? ⟨g, i * 8 + 6, none⟩ = some ((nthOc l i).c6) ∧ w.cell? ⟨g, i * 8 + 7, none⟩ = some ((nthOc l i).c7) := by
 have hl : l.length = n := by have := h.1; rw [oc_len] at this; omega
 have hf := oc_get l i hi
 refine ⟨(h.lt g rfl).2, ?_, ?_, ?_, ?_, ?_, ?_, ?_, ?_⟩
 ·rw [h.cellAt (i * 8) (by omega)]; exact hf.1
 ·rw [h.cellAt (i * 8 + 1) (by omega)]; exact hf.2.1
 ·rw [h.cellAt (i * 8 + 2) (by omega)]; exact hf.2.2.1
 ·rw [h.cellAt (i * 8 + 3) (by omega)]; exact hf.2.2.2.1
 ·rw [h.cellAt (i * 8 + 4) (by omega)]; exact hf.2.2.2.2.1
 ·rw [h.cellAt (i * 8 + 5) (by omega)]; exact hf.2.2.2.2.2.1
 ·rw [h.cellAt (i * 8 + 6) (by omega)]; exact hf.2.2.2.2.2.2.1
 ·rw [h.cellAt (i * 8 + 7) (by omega)]; exact hf.2.2.2.2.2.2.2
theorem ownO_below {w w' : World} {B C e n : Nat} {v : Value} {l : List Value} (h : w.ownsRow B e 8 v n l) (hb : Below C w w') (hC : w.heap.size ≤ C) : w'.ownsRow B e 8 v n l := by
 refine ⟨h.1, ?_⟩
 rcases h.2 with h' | ⟨g, cap, cur, h1, h2, h3, h4⟩
 ·exact .inl h'
 ·refine .inr ⟨g, cap, cur, h1, h2, ?_, h4⟩
  have hg : g < w.heap.size := by
   rcases Nat.lt_or_ge g w.heap.size with hlt | hge
   ·exact hlt
   ·simp [Array.getElem?_eq_none hge] at h3
  rw [hb.block g (by omega)]; exact h3
structure OpR where
 k : Int
 x : ByteArray
 t : ByteArray
 u : List Int
 m : Int
 f : Int
 d : Int
 b : List Nat
abbrev SlO := SlQ × SlQ
abbrev opQ (o : OpR) (p : SlO) : Oc := ⟨.int .i64 o.k, .string o.x, .string o.t, slW p.1, .int .i64 o.m, .int .i64 o.f, .int .i64 o.d, slW p.2⟩
abbrev opX (o : OpR) (p : SlO) : Value := .agg #[.int .i64 o.k, .string o.x, .string o.t, slW p.1, .int .i64 o.m, .int .i64 o.f, .int .i64 o.d, slW p.2]
def nthO (l : List OpR) (i : Nat) : OpR := l.getD i ⟨0, ByteArray.empty, ByteArray.empty, [], 0, 0, 0, []⟩
theorem nthO_get {l : List OpR} {i : Nat} (h : i < l.length) : nthO l i = l[i] := by
 unfold nthO; rw [List.getD_eq_getElem?_getD, List.getElem?_eq_getElem h]; rfl
def IsOp (lo : Nat) (w : World) (p : SlO) (o : OpR) : Prop := IsIl lo w p.1 o.u ∧ IsSl lo w p.2 o.b
theorem IsOp.near {lo : Nat} {w w' : World} {p : SlO} {o : OpR} (h : IsOp lo w p o) (hb : Near lo w w') : IsOp lo w' p o := ⟨h.1.near hb, h.2.near hb⟩
theorem IsOp.below {lo : Nat} {w w' : World} {p : SlO} {o : OpR} (h : IsOp lo w p o) (hb : Below w.heap.size w w') : IsOp lo w' p o := h.near (.of_below hb)
theorem IsOp.low {lo lo' : Nat} {w : World} {p : SlO} {o : OpR} (h : IsOp lo w p o) (hl : lo' ≤ lo) : IsOp lo' w p o := ⟨h.1.low hl, h.2.low hl⟩
def RdO (lo : Nat) (w : World) (a : Option Addr) (l : List OpR) : Prop :=
 l = [] ∨ ∃ b off, a = some ⟨b, off, none⟩ ∧ lo ≤ b ∧ b < w.heap.size ∧ ∀ i, i < l.length → ∃ p : SlO, (w.cell? ⟨b, off + i * 8, none⟩ = some (.int .i64 (nthO l i).k) ∧ w.cell? ⟨b, off + i * 8 + 1, none⟩ = some (.string (nthO l i).x) ∧ w.cell? ⟨b, off + i * 8 + 2, none⟩ = some (.string (nthO l i).t) ∧ w.cell? ⟨b, off + i * 8 + 3, none⟩ = some (slW p.1) ∧ w.cell? ⟨b, off + i * 8 + 4, none⟩ = some (.int .i64 (nthO l i).m) ∧ w.cell? ⟨b, off + i * 8 + 5, none⟩ = some (.int .i64 (nthO l i).f) ∧ w.cell? ⟨b, off + i * 8 + 6, none⟩ = some (.int .i64 (nthO l i).d) ∧ w.cell? ⟨b, off + i * 8 + 7, none⟩ = some (slW p.2)) ∧ IsOp lo w p (nthO l i)
theorem RdO.near {lo : Nat} {w w' : World} {a : Option Addr} {l : List OpR} (h : RdO lo w a l) (hb : Near lo w w') : RdO lo w' a l := by
 rcases h with h | ⟨b, off, e, hlo, hlt, hc⟩
 ·exact .inl h
 ·refine .inr ⟨b, off, e, hlo, Nat.lt_of_lt_of_le hlt hb.1, fun i hi => ?_⟩
  obtain ⟨p, ⟨c0, c1, c2, c3, c4, c5, c6, c7⟩, hs⟩ := hc i hi
  exact ⟨p, ⟨(hb.2 ⟨b, off + i * 8, none⟩ hlo hlt).trans c0, (hb.2 ⟨b, off + i * 8 + 1, none⟩ hlo hlt).trans c1, (hb.2 ⟨b, off + i * 8 + 2, none⟩ hlo hlt).trans c2, (hb.2 ⟨b, off + i * 8 + 3, none⟩ hlo hlt).trans c3, (hb.2 ⟨b, off + i * 8 + 4, none⟩ hlo hlt).trans c4, (hb.2 ⟨b, off + i * 8 + 5, none⟩ hlo hlt).trans c5, (hb.2 ⟨b, off + i * 8 + 6, none⟩ hlo hlt).trans c6, (hb.2 ⟨b, off + i * 8 + 7, none⟩ hlo hlt).trans c7⟩, hs.near hb⟩
theorem RdO.below {lo : Nat} {w w' : World} {a : Option Addr} {l : List OpR} (h : RdO lo w a l) (hb : Below w.heap.size w w') : RdO lo w' a l := h.near (.of_below hb)
theorem RdO.low {lo lo' : Nat} {w : World} {a : Option Addr} {l : List OpR} (h : RdO lo w a l) (hl : lo' ≤ lo) : RdO lo' w a l := by
 rcases h with h | ⟨b, off, e, hlo, hlt, hc⟩
 ·exact .inl h
 ·refine .inr ⟨b, off, e, Nat.le_trans hl hlo, hlt, fun i hi => ?_⟩
  obtain ⟨p, c, hs⟩ := hc i hi
  exact ⟨p, c, hs.low hl⟩
theorem RdO.at_ {lo : Nat} {w : World} {a : Option Addr} {l : List OpR} (h : RdO lo w a l) (hp : 0 < l.length) :
  ∃ b off, a = some ⟨b, off, none⟩ ∧ lo ≤ b ∧ b < w.heap.size ∧ ∀ i, i < l.length → ∃ p : SlO, (w.cell? ⟨b, off + i * 8, none⟩ = some (.int .i64 (nthO l i).k) ∧ w.cell? ⟨b, off + i * 8 + 1, none⟩ = some (.string (nthO l i).x) ∧ w.cell? ⟨b, off + i * 8 + 2, none⟩ = some (.string (nthO l i).t) ∧ w.cell? ⟨b, off + i * 8 + 3, none⟩ = some (slW p.1) ∧ w.cell? ⟨b, off + i * 8 + 4, none⟩ = some (.int .i64 (nthO l i).m) ∧ w.cell? ⟨b, off + i * 8 + 5, none⟩ = some (.int .i64 (nthO l i).f) ∧ w.cell? ⟨b, off + i * 8 + 6, none⟩ = some (.int .i64 (nthO l i).d) ∧ w.cell? ⟨b, off + i * 8 + 7, none⟩ = some (slW p.2)) ∧ IsOp lo w p (nthO l i) := by
 rcases h with h | h
 ·rw [h] at hp; simp at hp
 ·exact h
def IsOs (lo : Nat) (w : World) (s : SlQ) (l : List OpR) : Prop := l.length = s.2.1 ∧ s.2.1 ≤ s.2.2 ∧ s.2.2 ≤ maxLen ∧ RdO lo w s.1 l
theorem IsOs.near {lo : Nat} {w w' : World} {s : SlQ} {l : List OpR} (h : IsOs lo w s l) (hb : Near lo w w') : IsOs lo w' s l := ⟨h.1, h.2.1, h.2.2.1, h.2.2.2.near hb⟩
theorem IsOs.below {lo : Nat} {w w' : World} {s : SlQ} {l : List OpR} (h : IsOs lo w s l) (hb : Below w.heap.size w w') : IsOs lo w' s l := h.near (.of_below hb)
theorem IsOs.low {lo lo' : Nat} {w : World} {s : SlQ} {l : List OpR} (h : IsOs lo w s l) (hl : lo' ≤ lo) : IsOs lo' w s l := ⟨h.1, h.2.1, h.2.2.1, h.2.2.2.low hl⟩
def Qo (w : World) (g : Nat) (q : Oc) : Prop := w.cell? ⟨g, 0, none⟩ = some q.c0 ∧ w.cell? ⟨g, 1, none⟩ = some q.c1 ∧ w.cell? ⟨g, 2, none⟩ = some q.c2 ∧ w.cell? ⟨g, 3, none⟩ = some q.c3 ∧ w.cell? ⟨g, 4, none⟩ = some q.c4 ∧ w.cell? ⟨g, 5, none⟩ = some q.c5 ∧ w.cell? ⟨g, 6, none⟩ = some q.c6 ∧ w.cell? ⟨g, 7, none⟩ = some q.c7
theorem Qo.below {C : Nat} {w w' : World} {g : Nat} {q : Oc} (h : Qo w g q) (hb : Below C w w') (hg : g < C) : Qo w' g q := by
 obtain ⟨h0, h1, h2, h3, h4, h5, h6, h7⟩ := h
 exact ⟨(hb.cell (p := ⟨g, 0, none⟩) hg).trans h0, (hb.cell (p := ⟨g, 1, none⟩) hg).trans h1, (hb.cell (p := ⟨g, 2, none⟩) hg).trans h2, (hb.cell (p := ⟨g, 3, none⟩) hg).trans h3, (hb.cell (p := ⟨g, 4, none⟩) hg).trans h4, (hb.cell (p := ⟨g, 5, none⟩) hg).trans h5, (hb.cell (p := ⟨g, 6, none⟩) hg).trans h6, (hb.cell (p := ⟨g, 7, none⟩) hg).trans h7⟩
theorem Qo.new (w : World) (c0 c1 c2 c3 c4 c5 c6 c7 : Value) (t : TypeId) : Qo (w.alloc (.cells #[c0, c1, c2, c3, c4, c5, c6, c7] t)) w.heap.size ⟨c0, c1, c2, c3, c4, c5, c6, c7⟩ := ⟨by simp, by simp, by simp, by simp, by simp, by simp, by simp, by simp⟩
theorem Qo.lt {w : World} {g : Nat} {q : Oc} (h : Qo w g q) : g < w.heap.size := World.block_lt_of_cell? w ⟨g, 0, none⟩ h.1
def Fo (w : World) (g : Nat) : Prop := w.frozen? ⟨g, 0, none⟩ = false ∧ w.frozen? ⟨g, 1, none⟩ = false ∧ w.frozen? ⟨g, 2, none⟩ = false ∧ w.frozen? ⟨g, 3, none⟩ = false ∧ w.frozen? ⟨g, 4, none⟩ = false ∧ w.frozen? ⟨g, 5, none⟩ = false ∧ w.frozen? ⟨g, 6, none⟩ = false ∧ w.frozen? ⟨g, 7, none⟩ = false
theorem Fo.below {C : Nat} {w w' : World} {g : Nat} (h : Fo w g) (hb : Below C w w') (hg : g < C) : Fo w' g := by
 obtain ⟨h0, h1, h2, h3, h4, h5, h6, h7⟩ := h
 exact ⟨(hb.frozen (p := ⟨g, 0, none⟩) hg).trans h0, (hb.frozen (p := ⟨g, 1, none⟩) hg).trans h1, (hb.frozen (p := ⟨g, 2, none⟩) hg).trans h2, (hb.frozen (p := ⟨g, 3, none⟩) hg).trans h3, (hb.frozen (p := ⟨g, 4, none⟩) hg).trans h4, (hb.frozen (p := ⟨g, 5, none⟩) hg).trans h5, (hb.frozen (p := ⟨g, 6, none⟩) hg).trans h6, (hb.frozen (p := ⟨g, 7, none⟩) hg).trans h7⟩
theorem Fo.new (w : World) (c0 c1 c2 c3 c4 c5 c6 c7 : Value) (t : TypeId) : Fo (w.alloc (.cells #[c0, c1, c2, c3, c4, c5, c6, c7] t)) w.heap.size := ⟨by simp, by simp, by simp, by simp, by simp, by simp, by simp, by simp⟩
theorem Fo.set {w : World} {g : Nat} (h : Fo w g) (p : Addr) (v : Value) : Fo (w.setCell p v) g := by
 obtain ⟨h0, h1, h2, h3, h4, h5, h6, h7⟩ := h
 exact ⟨by simpa using h0, by simpa using h1, by simpa using h2, by simpa using h3, by simpa using h4, by simpa using h5, by simpa using h6, by simpa using h7⟩
theorem Qo.far {w : World} {g : Nat} {q : Oc} (h : Qo w g q) (k j : Nat) (v : Value) (hk : k ≠ g) : Qo (w.setCell ⟨k, j, none⟩ v) g q := by
 obtain ⟨h0, h1, h2, h3, h4, h5, h6, h7⟩ := h
 exact ⟨(World.cell?_setCell_other _ _ _ _ (fun e => by cases e; exact hk rfl)).trans h0, (World.cell?_setCell_other _ _ _ _ (fun e => by cases e; exact hk rfl)).trans h1, (World.cell?_setCell_other _ _ _ _ (fun e => by cases e; exact hk rfl)).trans h2, (World.cell?_setCell_other _ _ _ _ (fun e => by cases e; exact hk rfl)).trans h3, (World.cell?_setCell_other _ _ _ _ (fun e => by cases e; exact hk rfl)).trans h4, (World.cell?_setCell_other _ _ _ _ (fun e => by cases e; exact hk rfl)).trans h5, (World.cell?_setCell_other _ _ _ _ (fun e => by cases e; exact hk rfl)).trans h6, (World.cell?_setCell_other _ _ _ _ (fun e => by cases e; exact hk rfl)).trans h7⟩
theorem Qo.put0 {w : World} {g : Nat} {q : Oc} (h : Qo w g q) (v : Value) : Qo (w.setCell ⟨g, 0, none⟩ v) g { q with c0 := v } := by
 obtain ⟨h0, h1, h2, h3, h4, h5, h6, h7⟩ := h
 exact ⟨World.cell?_setCell_same _ _ _ h0, (World.cell?_setCell_other _ _ _ _ (by simp)).trans h1, (World.cell?_setCell_other _ _ _ _ (by simp)).trans h2, (World.cell?_setCell_other _ _ _ _ (by simp)).trans h3, (World.cell?_setCell_other _ _ _ _ (by simp)).trans h4, (World.cell?_setCell_other _ _ _ _ (by simp)).trans h5, (World.cell?_setCell_other _ _ _ _ (by simp)).trans h6, (World.cell?_setCell_other _ _ _ _ (by simp)).trans h7⟩
theorem Qo.put1 {w : World} {g : Nat} {q : Oc} (h : Qo w g q) (v : Value) : Qo (w.setCell ⟨g, 1, none⟩ v) g { q with c1 := v } := by
 obtain ⟨h0, h1, h2, h3, h4, h5, h6, h7⟩ := h
 exact ⟨(World.cell?_setCell_other _ _ _ _ (by simp)).trans h0, World.cell?_setCell_same _ _ _ h1, (World.cell?_setCell_other _ _ _ _ (by simp)).trans h2, (World.cell?_setCell_other _ _ _ _ (by simp)).trans h3, (World.cell?_setCell_other _ _ _ _ (by simp)).trans h4, (World.cell?_setCell_other _ _ _ _ (by simp)).trans h5, (World.cell?_setCell_other _ _ _ _ (by simp)).trans h6, (World.cell?_setCell_other _ _ _ _ (by simp)).trans h7⟩
theorem Qo.put2 {w : World} {g : Nat} {q : Oc} (h : Qo w g q) (v : Value) : Qo (w.setCell ⟨g, 2, none⟩ v) g { q with c2 := v } := by
 obtain ⟨h0, h1, h2, h3, h4, h5, h6, h7⟩ := h
 exact ⟨(World.cell?_setCell_other _ _ _ _ (by simp)).trans h0, (World.cell?_setCell_other _ _ _ _ (by simp)).trans h1, World.cell?_setCell_same _ _ _ h2, (World.cell?_setCell_other _ _ _ _ (by simp)).trans h3, (World.cell?_setCell_other _ _ _ _ (by simp)).trans h4, (World.cell?_setCell_other _ _ _ _ (by simp)).trans h5, (World.cell?_setCell_other _ _ _ _ (by simp)).trans h6, (World.cell?_setCell_other _ _ _ _ (by simp)).trans h7⟩
theorem Qo.put3 {w : World} {g : Nat} {q : Oc} (h : Qo w g q) (v : Value) : Qo (w.setCell ⟨g, 3, none⟩ v) g { q with c3 := v } := by
 obtain ⟨h0, h1, h2, h3, h4, h5, h6, h7⟩ := h
 exact ⟨(World.cell?_setCell_other _ _ _ _ (by simp)).trans h0, (World.cell?_setCell_other _ _ _ _ (by simp)).trans h1, (World.cell?_setCell_other _ _ _ _ (by simp)).trans h2, World.cell?_setCell_same _ _ _ h3, (World.cell?_setCell_other _ _ _ _ (by simp)).trans h4, (World.cell?_setCell_other _ _ _ _ (by simp)).trans h5, (World.cell?_setCell_other _ _ _ _ (by simp)).trans h6, (World.cell?_setCell_other _ _ _ _ (by simp)).trans h7⟩
theorem Qo.put4 {w : World} {g : Nat} {q : Oc} (h : Qo w g q) (v : Value) : Qo (w.setCell ⟨g, 4, none⟩ v) g { q with c4 := v } := by
 obtain ⟨h0, h1, h2, h3, h4, h5, h6, h7⟩ := h
 exact ⟨(World.cell?_setCell_other _ _ _ _ (by simp)).trans h0, (World.cell?_setCell_other _ _ _ _ (by simp)).trans h1, (World.cell?_setCell_other _ _ _ _ (by simp)).trans h2, (World.cell?_setCell_other _ _ _ _ (by simp)).trans h3, World.cell?_setCell_same _ _ _ h4, (World.cell?_setCell_other _ _ _ _ (by simp)).trans h5, (World.cell?_setCell_other _ _ _ _ (by simp)).trans h6, (World.cell?_setCell_other _ _ _ _ (by simp)).trans h7⟩
theorem Qo.put5 {w : World} {g : Nat} {q : Oc} (h : Qo w g q) (v : Value) : Qo (w.setCell ⟨g, 5, none⟩ v) g { q with c5 := v } := by
 obtain ⟨h0, h1, h2, h3, h4, h5, h6, h7⟩ := h
 exact ⟨(World.cell?_setCell_other _ _ _ _ (by simp)).trans h0, (World.cell?_setCell_other _ _ _ _ (by simp)).trans h1, (World.cell?_setCell_other _ _ _ _ (by simp)).trans h2, (World.cell?_setCell_other _ _ _ _ (by simp)).trans h3, (World.cell?_setCell_other _ _ _ _ (by simp)).trans h4, World.cell?_setCell_same _ _ _ h5, (World.cell?_setCell_other _ _ _ _ (by simp)).trans h6, (World.cell?_setCell_other _ _ _ _ (by simp)).trans h7⟩
theorem Qo.put6 {w : World} {g : Nat} {q : Oc} (h : Qo w g q) (v : Value) : Qo (w.setCell ⟨g, 6, none⟩ v) g { q with c6 := v } := by
 obtain ⟨h0, h1, h2, h3, h4, h5, h6, h7⟩ := h
 exact ⟨(World.cell?_setCell_other _ _ _ _ (by simp)).trans h0, (World.cell?_setCell_other _ _ _ _ (by simp)).trans h1, (World.cell?_setCell_other _ _ _ _ (by simp)).trans h2, (World.cell?_setCell_other _ _ _ _ (by simp)).trans h3, (World.cell?_setCell_other _ _ _ _ (by simp)).trans h4, (World.cell?_setCell_other _ _ _ _ (by simp)).trans h5, World.cell?_setCell_same _ _ _ h6, (World.cell?_setCell_other _ _ _ _ (by simp)).trans h7⟩
theorem Qo.put7 {w : World} {g : Nat} {q : Oc} (h : Qo w g q) (v : Value) : Qo (w.setCell ⟨g, 7, none⟩ v) g { q with c7 := v } := by
 obtain ⟨h0, h1, h2, h3, h4, h5, h6, h7⟩ := h
 exact ⟨(World.cell?_setCell_other _ _ _ _ (by simp)).trans h0, (World.cell?_setCell_other _ _ _ _ (by simp)).trans h1, (World.cell?_setCell_other _ _ _ _ (by simp)).trans h2, (World.cell?_setCell_other _ _ _ _ (by simp)).trans h3, (World.cell?_setCell_other _ _ _ _ (by simp)).trans h4, (World.cell?_setCell_other _ _ _ _ (by simp)).trans h5, (World.cell?_setCell_other _ _ _ _ (by simp)).trans h6, World.cell?_setCell_same _ _ _ h7⟩
end Go.Proofs.YtdcgihcjiiemdaaDoor
