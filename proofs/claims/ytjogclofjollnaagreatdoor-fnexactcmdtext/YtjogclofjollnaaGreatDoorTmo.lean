/- Words on memory, with no program in them: where a slice of numbers is read, from a block on; terms (six cells: numbers, two texts, numbers, bytes), rows of them; what a copy in the making holds. -/
import Derived.Test.YtjogclofjollnaaGreatDoorOpoToMemY
namespace Go.Proofs.YtjogclofjollnaaGreatDoor
open Go.RowKit
theorem RdY.near {lo : Nat} {w w' : World} {a : Option Addr} {l : List YgP} (h : RdY w a l) (hlo : ∀ x, a = some x → lo ≤ x.block) (hb : Near lo w w') : RdY w' a l := by
 rcases h with h | ⟨b, off, e, hlt, hc⟩
 ·exact .inl h
 ·have := hlo _ e
  exact .inr ⟨b, off, e, Nat.lt_of_lt_of_le hlt hb.1, fun i hi => ⟨(hb.2 ⟨b, off + i * 2, none⟩ this hlt).trans (hc i hi).1, (hb.2 ⟨b, off + i * 2 + 1, none⟩ this hlt).trans (hc i hi).2⟩⟩
def IsYl (lo : Nat) (w : World) (s : SlQ) (d : List YgP) : Prop := d.length = s.2.1 ∧ s.2.1 ≤ s.2.2 ∧ s.2.2 ≤ maxLen ∧ RdY w s.1 d ∧ ∀ x, s.1 = some x → lo ≤ x.block
theorem IsYl.near {lo : Nat} {w w' : World} {s : SlQ} {d : List YgP} (h : IsYl lo w s d) (hb : Near lo w w') : IsYl lo w' s d := ⟨h.1, h.2.1, h.2.2.1, h.2.2.2.1.near h.2.2.2.2 hb, h.2.2.2.2⟩
theorem IsYl.below {lo : Nat} {w w' : World} {s : SlQ} {d : List YgP} (h : IsYl lo w s d) (hb : Below w.heap.size w w') : IsYl lo w' s d := h.near (.of_below hb)
theorem IsYl.low {lo lo' : Nat} {w : World} {s : SlQ} {d : List YgP} (h : IsYl lo w s d) (hl : lo' ≤ lo) : IsYl lo' w s d := ⟨h.1, h.2.1, h.2.2.1, h.2.2.2.1, fun x hx => Nat.le_trans hl (h.2.2.2.2 x hx)⟩
structure Uc where
 c0 : Value
 c1 : Value
 c2 : Value
 c3 : Value
 c4 : Value
 c5 : Value
def nthUc (l : List Uc) (i : Nat) : Uc := l.getD i ⟨.bool false, .bool false, .bool false, .bool false, .bool false, .bool false⟩
def uc (l : List Uc) : List Value := l.flatMap fun p => [p.c0, p.c1, p.c2, p.c3, p.c4, p.c5]
theorem nthUc_get {l : List Uc} {i : Nat} (h : i < l.length) : nthUc l i = l[i] := by
 unfold nthUc; rw [List.getD_eq_getElem?_getD, List.getElem?_eq_getElem h]; rfl
theorem uc_cons (p : Uc) (l : List Uc) : uc (p :: l) = p.c0 :: p.c1 :: p.c2 :: p.c3 :: p.c4 :: p.c5 :: uc l := rfl
theorem uc_len : ∀ l : List Uc, (uc l).length = l.length * 6
 | [] => rfl
 | p :: l => by rw [uc_cons]; simp only [List.length_cons]; rw [uc_len l]; omega
theorem uc_get : ∀ (l : List Uc) (i : Nat), i < l.length → (uc l)[i * 6]? = some (nthUc l i).c0 ∧ (uc l)[i * 6 + 1]? = some (nthUc l i).c1 ∧ (uc l)[i * 6 + 2]? = some (nthUc l i).c2 ∧ (uc l)[i * 6 + 3]? = some (nthUc l i).c3 ∧ (uc l)[i * 6 + 4]? = some (nthUc l i).c4 ∧ (uc l)[i * 6 + 5]? = some (nthUc l i).c5
 | [], _, h => by simp at h
 | p :: l, 0, _ => ⟨rfl, rfl, rfl, rfl, rfl, rfl⟩
 | p :: l, i + 1, h => by
  have := uc_get l i (by simpa using h)
  rw [uc_cons, show (i + 1) * 6 = i * 6 + 6 by omega]
  exact this
theorem uc_set : ∀ (l : List Uc) (k : Nat) (p : Uc), k < l.length → (((((((uc l).set (k * 6) p.c0).set (k * 6 + 1) p.c1).set (k * 6 + 2) p.c2).set (k * 6 + 3) p.c3).set (k * 6 + 4) p.c4).set (k * 6 + 5) p.c5) = uc (l.set k p)
 | [], _, _, h => by simp at h
 | q :: l, 0, p, _ => rfl
 | q :: l, k + 1, p, h => by
  have := uc_set l k p (by simpa using h)
  rw [uc_cons, show (k + 1) * 6 = k * 6 + 1 + 1 + 1 + 1 + 1 + 1 by omega]
  simp only [List.set_cons_succ, uc_cons]
  rw [← this]
theorem made_hexs (z : Uc) (n : Nat) : (madeCells #[z.c0, z.c1, z.c2, z.c3, z.c4, z.c5] (n * 6)).toList = uc (List.replicate n z) := by
 apply List.ext_getElem?
 intro j
 by_cases hj : j < n * 6
 ·have hi : j / 6 < (List.replicate n z).length := by rw [List.length_replicate]; omega
  have hf := uc_get (List.replicate n z) (j / 6) hi
  rw [nthUc_get hi, List.getElem_replicate] at hf
  have hm : j % 6 = 0 ∨ j % 6 = 1 ∨ j % 6 = 2 ∨ j % 6 = 3 ∨ j % 6 = 4 ∨ j % 6 = 5 := by omega
  rcases hm with hm | hm | hm | hm | hm | hm
  ·have e : j = j / 6 * 6 := by omega
   have h1 : (madeCells #[z.c0, z.c1, z.c2, z.c3, z.c4, z.c5] (n * 6)).toList[j]? = some z.c0 := by simp [madeCells, hj, hm]
   rw [h1, e]; exact hf.1.symm
  ·have e : j = j / 6 * 6 + 1 := by omega
   have h1 : (madeCells #[z.c0, z.c1, z.c2, z.c3, z.c4, z.c5] (n * 6)).toList[j]? = some z.c1 := by simp [madeCells, hj, hm]
   rw [h1, e]; exact hf.2.1.symm
  ·have e : j = j / 6 * 6 + 2 := by omega
   have h1 : (madeCells #[z.c0, z.c1, z.c2, z.c3, z.c4, z.c5] (n * 6)).toList[j]? = some z.c2 := by simp [madeCells, hj, hm]
   rw [h1, e]; exact hf.2.2.1.symm
  ·have e : j = j / 6 * 6 + 3 := by omega
   have h1 : (madeCells #[z.c0, z.c1, z.c2, z.c3, z.c4, z.c5] (n * 6)).toList[j]? = some z.c3 := by simp [madeCells, hj, hm]
   rw [h1, e]; exact hf.2.2.2.1.symm
  ·have e : j = j / 6 * 6 + 4 := by omega
   have h1 : (madeCells #[z.c0, z.c1, z.c2, z.c3, z.c4, z.c5] (n * 6)).toList[j]? = some z.c4 := by simp [madeCells, hj, hm]
   rw [h1, e]; exact hf.2.2.2.2.1.symm
  ·have e : j = j / 6 * 6 + 5 := by omega
   have h1 : (madeCells #[z.c0, z.c1, z.c2, z.c3, z.c4, z.c5] (n * 6)).toList[j]? = some z.c5 := by simp [madeCells, hj, hm]
   rw [h1, e]; exact hf.2.2.2.2.2.symm
 ·rw [List.getElem?_eq_none (by simp [madeCells]; omega), List.getElem?_eq_none (by rw [uc_len, List.length_replicate]; omega)]
theorem ownU_cells {w : World} {base e n cap g : Nat} {l : List Uc} (h : w.ownsRow base e 6 (.slice (some ⟨g, 0, none⟩) n cap) n (uc l)) (i : Nat) (hi : i < l.length) :
  g < w.heap.size ∧ w.cell? ⟨g, i * 6, none⟩ = some ((nthUc l i).c0) ∧ w.cell? ⟨g, i * 6 + 1, none⟩ = some ((nthUc l i).c1) ∧ w.cell? ⟨g, i * 6 + 2, none⟩ = some ((nthUc l i).c2) ∧ w.cell? ⟨g, i * 6 + 3, none⟩ = some ((nthUc l i).c3) ∧ w.cell? ⟨g, i * 6 + 4, none⟩ = some ((nthUc l i).c4) ∧ w.cell? ⟨g, i * 6 + 5, none⟩ = some ((nthUc l i).c5) := by
 have hl : l.length = n := by have := h.1; rw [uc_len] at this; omega
 have hf := uc_get l i hi
 refine ⟨(h.lt g rfl).2, ?_, ?_, ?_, ?_, ?_, ?_⟩
 ·rw [h.cellAt (i * 6) (by omega)]; exact hf.1
 ·rw [h.cellAt (i * 6 + 1) (by omega)]; exact hf.2.1
 ·rw [h.cellAt (i * 6 + 2) (by omega)]; exact hf.2.2.1
 ·rw [h.cellAt (i * 6 + 3) (by omega)]; exact hf.2.2.2.1
 ·rw [h.cellAt (i * 6 + 4) (by omega)]; exact hf.2.2.2.2.1
 ·rw [h.cellAt (i * 6 + 5) (by omega)]; exact hf.2.2.2.2.2
theorem ownU_below {w w' : World} {B C e n : Nat} {v : Value} {l : List Value} (h : w.ownsRow B e 6 v n l) (hb : Below C w w') (hC : w.heap.size ≤ C) : w'.ownsRow B e 6 v n l := by
 refine ⟨h.1, ?_⟩
 rcases h.2 with h' | ⟨g, cap, cur, h1, h2, h3, h4⟩
 ·exact .inl h'
 ·refine .inr ⟨g, cap, cur, h1, h2, ?_, h4⟩
  have hg : g < w.heap.size := by
   rcases Nat.lt_or_ge g w.heap.size with hlt | hge
   ·exact hlt
   ·simp [Array.getElem?_eq_none hge] at h3
  rw [hb.block g (by omega)]; exact h3
def halfU (z : Uc) (l : List Uc) (n : Nat) : List Uc := l ++ List.replicate (n - l.length) z
theorem halfU_zero (z : Uc) (n : Nat) : halfU z [] n = List.replicate n z := by simp [halfU]
theorem halfU_all (z : Uc) (l : List Uc) : halfU z l l.length = l := by simp [halfU]
theorem halfU_len (z : Uc) (l : List Uc) (n : Nat) (h : l.length ≤ n) : (halfU z l n).length = n := by simp [halfU]; omega
theorem halfU_set (z : Uc) (l : List Uc) (n : Nat) (p : Uc) (h : l.length < n) : (halfU z l n).set l.length p = halfU z (l ++ [p]) n := by
 have e : n - l.length = (n - (l.length + 1)) + 1 := by omega
 unfold halfU
 rw [List.set_append, if_neg (Nat.lt_irrefl _), e, List.replicate_succ, Nat.sub_self, List.length_append, List.length_singleton]
 simp
structure TmR where
 k : Int
 n : Int
 c : List Int
 y : List YgP
 l : Int
 r : Int
abbrev SlT := SlQ × SlQ
abbrev tmQ (o : TmR) (p : SlT) : Uc := ⟨.int .i64 o.k, .int .i64 o.n, slW p.1, slW p.2, .int .i64 o.l, .int .i64 o.r⟩
abbrev tmX (o : TmR) (p : SlT) : Value := .agg #[.int .i64 o.k, .int .i64 o.n, slW p.1, slW p.2, .int .i64 o.l, .int .i64 o.r]
def nthTm (l : List TmR) (i : Nat) : TmR := l.getD i ⟨0, 0, [], [], 0, 0⟩
def IsTm (lo : Nat) (w : World) (p : SlT) (o : TmR) : Prop := IsIl lo w p.1 o.c ∧ IsYl lo w p.2 o.y
theorem IsTm.near {lo : Nat} {w w' : World} {p : SlT} {o : TmR} (h : IsTm lo w p o) (hb : Near lo w w') : IsTm lo w' p o := ⟨h.1.near hb, h.2.near hb⟩
theorem IsTm.below {lo : Nat} {w w' : World} {p : SlT} {o : TmR} (h : IsTm lo w p o) (hb : Below w.heap.size w w') : IsTm lo w' p o := h.near (.of_below hb)
theorem IsTm.low {lo lo' : Nat} {w : World} {p : SlT} {o : TmR} (h : IsTm lo w p o) (hl : lo' ≤ lo) : IsTm lo' w p o := ⟨h.1.low hl, h.2.low hl⟩
def RdTm (lo : Nat) (w : World) (a : Option Addr) (l : List TmR) : Prop :=
 l = [] ∨ ∃ b off, a = some ⟨b, off, none⟩ ∧ lo ≤ b ∧ b < w.heap.size ∧ ∀ i, i < l.length → ∃ p : SlT, (w.cell? ⟨b, off + i * 6, none⟩ = some (.int .i64 (nthTm l i).k) ∧ w.cell? ⟨b, off + i * 6 + 1, none⟩ = some (.int .i64 (nthTm l i).n) ∧ w.cell? ⟨b, off + i * 6 + 2, none⟩ = some (slW p.1) ∧ w.cell? ⟨b, off + i * 6 + 3, none⟩ = some (slW p.2) ∧ w.cell? ⟨b, off + i * 6 + 4, none⟩ = some (.int .i64 (nthTm l i).l) ∧ w.cell? ⟨b, off + i * 6 + 5, none⟩ = some (.int .i64 (nthTm l i).r)) ∧ IsTm lo w p (nthTm l i)
theorem RdTm.near {lo : Nat} {w w' : World} {a : Option Addr} {l : List TmR} (h : RdTm lo w a l) (hb : Near lo w w') : RdTm lo w' a l := by
 rcases h with h | ⟨b, off, e, hlo, hlt, hc⟩
 ·exact .inl h
 ·refine .inr ⟨b, off, e, hlo, Nat.lt_of_lt_of_le hlt hb.1, fun i hi => ?_⟩
  obtain ⟨p, ⟨c0, c1, c2, c3, c4, c5⟩, hs⟩ := hc i hi
  exact ⟨p, ⟨(hb.2 ⟨b, off + i * 6, none⟩ hlo hlt).trans c0, (hb.2 ⟨b, off + i * 6 + 1, none⟩ hlo hlt).trans c1, (hb.2 ⟨b, off + i * 6 + 2, none⟩ hlo hlt).trans c2, (hb.2 ⟨b, off + i * 6 + 3, none⟩ hlo hlt).trans c3, (hb.2 ⟨b, off + i * 6 + 4, none⟩ hlo hlt).trans c4, (hb.2 ⟨b, off + i * 6 + 5, none⟩ hlo hlt).trans c5⟩, hs.near hb⟩
theorem RdTm.below {lo : Nat} {w w' : World} {a : Option Addr} {l : List TmR} (h : RdTm lo w a l) (hb : Below w.heap.size w w') : RdTm lo w' a l := h.near (.of_below hb)
theorem RdTm.low {lo lo' : Nat} {w : World} {a : Option Addr} {l : List TmR} (h : RdTm lo w a l) (hl : lo' ≤ lo) : RdTm lo' w a l := by
 rcases h with h | ⟨b, off, e, hlo, hlt, hc⟩
 ·exact .inl h
 ·refine .inr ⟨b, off, e, Nat.le_trans hl hlo, hlt, fun i hi => ?_⟩
  obtain ⟨p, c, hs⟩ := hc i hi
  exact ⟨p, c, hs.low hl⟩
theorem RdTm.at_ {lo : Nat} {w : World} {a : Option Addr} {l : List TmR} (h : RdTm lo w a l) (hp : 0 < l.length) :
  ∃ b off, a = some ⟨b, off, none⟩ ∧ lo ≤ b ∧ b < w.heap.size ∧ ∀ i, i < l.length → ∃ p : SlT, (w.cell? ⟨b, off + i * 6, none⟩ = some (.int .i64 (nthTm l i).k) ∧ w.cell? ⟨b, off + i * 6 + 1, none⟩ = some (.int .i64 (nthTm l i).n) ∧ w.cell? ⟨b, off + i * 6 + 2, none⟩ = some (slW p.1) ∧ w.cell? ⟨b, off + i * 6 + 3, none⟩ = some (slW p.2) ∧ w.cell? ⟨b, off + i * 6 + 4, none⟩ = some (.int .i64 (nthTm l i).l) ∧ w.cell? ⟨b, off + i * 6 + 5, none⟩ = some (.int .i64 (nthTm l i).r)) ∧ IsTm lo w p (nthTm l i) := by
 rcases h with h | h
 ·rw [h] at hp; simp at hp
 ·exact h
def IsTs (lo : Nat) (w : World) (s : SlQ) (l : List TmR) : Prop := l.length = s.2.1 ∧ s.2.1 ≤ s.2.2 ∧ s.2.2 ≤ maxLen ∧ RdTm lo w s.1 l
theorem IsTs.near {lo : Nat} {w w' : World} {s : SlQ} {l : List TmR} (h : IsTs lo w s l) (hb : Near lo w w') : IsTs lo w' s l := ⟨h.1, h.2.1, h.2.2.1, h.2.2.2.near hb⟩
theorem IsTs.below {lo : Nat} {w w' : World} {s : SlQ} {l : List TmR} (h : IsTs lo w s l) (hb : Below w.heap.size w w') : IsTs lo w' s l := h.near (.of_below hb)
theorem IsTs.low {lo lo' : Nat} {w : World} {s : SlQ} {l : List TmR} (h : IsTs lo w s l) (hl : lo' ≤ lo) : IsTs lo' w s l := ⟨h.1, h.2.1, h.2.2.1, h.2.2.2.low hl⟩
def Qu (w : World) (g : Nat) (q : Uc) : Prop := w.cell? ⟨g, 0, none⟩ = some q.c0 ∧ w.cell? ⟨g, 1, none⟩ = some q.c1 ∧ w.cell? ⟨g, 2, none⟩ = some q.c2 ∧ w.cell? ⟨g, 3, none⟩ = some q.c3 ∧ w.cell? ⟨g, 4, none⟩ = some q.c4 ∧ w.cell? ⟨g, 5, none⟩ = some q.c5
theorem Qu.below {C : Nat} {w w' : World} {g : Nat} {q : Uc} (h : Qu w g q) (hb : Below C w w') (hg : g < C) : Qu w' g q := by
 obtain ⟨h0, h1, h2, h3, h4, h5⟩ := h
 exact ⟨(hb.cell (p := ⟨g, 0, none⟩) hg).trans h0, (hb.cell (p := ⟨g, 1, none⟩) hg).trans h1, (hb.cell (p := ⟨g, 2, none⟩) hg).trans h2, (hb.cell (p := ⟨g, 3, none⟩) hg).trans h3, (hb.cell (p := ⟨g, 4, none⟩) hg).trans h4, (hb.cell (p := ⟨g, 5, none⟩) hg).trans h5⟩
theorem Qu.new (w : World) (c0 c1 c2 c3 c4 c5 : Value) (t : TypeId) : Qu (w.alloc (.cells #[c0, c1, c2, c3, c4, c5] t)) w.heap.size ⟨c0, c1, c2, c3, c4, c5⟩ := ⟨by simp, by simp, by simp, by simp, by simp, by simp⟩
theorem Qu.lt {w : World} {g : Nat} {q : Uc} (h : Qu w g q) : g < w.heap.size := World.block_lt_of_cell? w ⟨g, 0, none⟩ h.1
def Fu (w : World) (g : Nat) : Prop := w.frozen? ⟨g, 0, none⟩ = false ∧ w.frozen? ⟨g, 1, none⟩ = false ∧ w.frozen? ⟨g, 2, none⟩ = false ∧ w.frozen? ⟨g, 3, none⟩ = false ∧ w.frozen? ⟨g, 4, none⟩ = false ∧ w.frozen? ⟨g, 5, none⟩ = false
theorem Fu.below {C : Nat} {w w' : World} {g : Nat} (h : Fu w g) (hb : Below C w w') (hg : g < C) : Fu w' g := by
 obtain ⟨h0, h1, h2, h3, h4, h5⟩ := h
 exact ⟨(hb.frozen (p := ⟨g, 0, none⟩) hg).trans h0, (hb.frozen (p := ⟨g, 1, none⟩) hg).trans h1, (hb.frozen (p := ⟨g, 2, none⟩) hg).trans h2, (hb.frozen (p := ⟨g, 3, none⟩) hg).trans h3, (hb.frozen (p := ⟨g, 4, none⟩) hg).trans h4, (hb.frozen (p := ⟨g, 5, none⟩) hg).trans h5⟩
theorem Fu.new (w : World) (c0 c1 c2 c3 c4 c5 : Value) (t : TypeId) : Fu (w.alloc (.cells #[c0, c1, c2, c3, c4, c5] t)) w.heap.size := ⟨by simp, by simp, by simp, by simp, by simp, by simp⟩
theorem Fu.set {w : World} {g : Nat} (h : Fu w g) (p : Addr) (v : Value) : Fu (w.setCell p v) g := by
 obtain ⟨h0, h1, h2, h3, h4, h5⟩ := h
 exact ⟨by simpa using h0, by simpa using h1, by simpa using h2, by simpa using h3, by simpa using h4, by simpa using h5⟩
theorem Qu.far {w : World} {g : Nat} {q : Uc} (h : Qu w g q) (k j : Nat) (v : Value) (hk : k ≠ g) : Qu (w.setCell ⟨k, j, none⟩ v) g q := by
 obtain ⟨h0, h1, h2, h3, h4, h5⟩ := h
 exact ⟨(World.cell?_setCell_other _ _ _ _ (fun e => by cases e; exact hk rfl)).trans h0, (World.cell?_setCell_other _ _ _ _ (fun e => by cases e; exact hk rfl)).trans h1, (World.cell?_setCell_other _ _ _ _ (fun e => by cases e; exact hk rfl)).trans h2, (World.cell?_setCell_other _ _ _ _ (fun e => by cases e; exact hk rfl)).trans h3, (World.cell?_setCell_other _ _ _ _ (fun e => by cases e; exact hk rfl)).trans h4, (World.cell?_setCell_other _ _ _ _ (fun e => by cases e; exact hk rfl)).trans h5⟩
theorem Qu.put0 {w : World} {g : Nat} {q : Uc} (h : Qu w g q) (v : Value) : Qu (w.setCell ⟨g, 0, none⟩ v) g { q with c0 := v } := by
 obtain ⟨h0, h1, h2, h3, h4, h5⟩ := h
 exact ⟨World.cell?_setCell_same _ _ _ h0, (World.cell?_setCell_other _ _ _ _ (by simp)).trans h1, (World.cell?_setCell_other _ _ _ _ (by simp)).trans h2, (World.cell?_setCell_other _ _ _ _ (by simp)).trans h3, (World.cell?_setCell_other _ _ _ _ (by simp)).trans h4, (World.cell?_setCell_other _ _ _ _ (by simp)).trans h5⟩
theorem Qu.put1 {w : World} {g : Nat} {q : Uc} (h : Qu w g q) (v : Value) : Qu (w.setCell ⟨g, 1, none⟩ v) g { q with c1 := v } := by
 obtain ⟨h0, h1, h2, h3, h4, h5⟩ := h
 exact ⟨(World.cell?_setCell_other _ _ _ _ (by simp)).trans h0, World.cell?_setCell_same _ _ _ h1, (World.cell?_setCell_other _ _ _ _ (by simp)).trans h2, (World.cell?_setCell_other _ _ _ _ (by simp)).trans h3, (World.cell?_setCell_other _ _ _ _ (by simp)).trans h4, (World.cell?_setCell_other _ _ _ _ (by simp)).trans h5⟩
theorem Qu.put2 {w : World} {g : Nat} {q : Uc} (h : Qu w g q) (v : Value) : Qu (w.setCell ⟨g, 2, none⟩ v) g { q with c2 := v } := by
 obtain ⟨h0, h1, h2, h3, h4, h5⟩ := h
 exact ⟨(World.cell?_setCell_other _ _ _ _ (by simp)).trans h0, (World.cell?_setCell_other _ _ _ _ (by simp)).trans h1, World.cell?_setCell_same _ _ _ h2, (World.cell?_setCell_other _ _ _ _ (by simp)).trans h3, (World.cell?_setCell_other _ _ _ _ (by simp)).trans h4, (World.cell?_setCell_other _ _ _ _ (by simp)).trans h5⟩
theorem Qu.put3 {w : World} {g : Nat} {q : Uc} (h : Qu w g q) (v : Value) : Qu (w.setCell ⟨g, 3, none⟩ v) g { q with c3 := v } := by
 obtain ⟨h0, h1, h2, h3, h4, h5⟩ := h
 exact ⟨(World.cell?_setCell_other _ _ _ _ (by simp)).trans h0, (World.cell?_setCell_other _ _ _ _ (by simp)).trans h1, (World.cell?_setCell_other _ _ _ _ (by simp)).trans h2, World.cell?_setCell_same _ _ _ h3, (World.cell?_setCell_other _ _ _ _ (by simp)).trans h4, (World.cell?_setCell_other _ _ _ _ (by simp)).trans h5⟩
theorem Qu.put4 {w : World} {g : Nat} {q : Uc} (h : Qu w g q) (v : Value) : Qu (w.setCell ⟨g, 4, none⟩ v) g { q with c4 := v } := by
 obtain ⟨h0, h1, h2, h3, h4, h5⟩ := h
 exact ⟨(World.cell?_setCell_other _ _ _ _ (by simp)).trans h0, (World.cell?_setCell_other _ _ _ _ (by simp)).trans h1, (World.cell?_setCell_other _ _ _ _ (by simp)).trans h2, (World.cell?_setCell_other _ _ _ _ (by simp)).trans h3, World.cell?_setCell_same _ _ _ h4, (World.cell?_setCell_other _ _ _ _ (by simp)).trans h5⟩
theorem Qu.put5 {w : World} {g : Nat} {q : Uc} (h : Qu w g q) (v : Value) : Qu (w.setCell ⟨g, 5, none⟩ v) g { q with c5 := v } := by
 obtain ⟨h0, h1, h2, h3, h4, h5⟩ := h
 exact ⟨(World.cell?_setCell_other _ _ _ _ (by simp)).trans h0, (World.cell?_setCell_other _ _ _ _ (by simp)).trans h1, (World.cell?_setCell_other _ _ _ _ (by simp)).trans h2, (World.cell?_setCell_other _ _ _ _ (by simp)).trans h3, (World.cell?_setCell_other _ _ _ _ (by simp)).trans h4, World.cell?_setCell_same _ _ _ h5⟩
end Go.Proofs.YtjogclofjollnaaGreatDoor
