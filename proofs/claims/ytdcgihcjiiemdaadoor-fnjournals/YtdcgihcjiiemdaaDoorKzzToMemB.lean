/- Words on memory: blocks that begin with a byte, or with a number, stay where rows of another kind grow; what was drawn lies at the beginning of its block; no program in it · Words on memory: where a slice of slices of bytes is read, what a row of the call's own holds, an append; no conditions beyond those that each fact names. -/
import Derived.Test.YtdcgihcjiiemdaaDoorMqr
import Derived.Test.YtdcgihcjiiemdaaDoorGrxToDrk
import Derived.Test.YtdcgihcjiiemdaaDoorDrlToGrw
import Derived.Test.YtdcgihcjiiemdaaDoorMemToApp
namespace Go.Proofs.YtdcgihcjiiemdaaDoor
open Go.RowKit
def isU8 (v : Value) : Prop := ∃ x, v = .int .u8 x
def isI64 (v : Value) : Prop := ∃ x, v = .int .i64 x
def Kz (lo : Nat) (T : Value → Prop) (w w' : World) : Prop := w.heap.size ≤ w'.heap.size ∧ ∀ k, lo ≤ k → (∃ u, w.cell? ⟨k, 0, none⟩ = some u ∧ T u) → ∀ i, w'.cell? ⟨k, i, none⟩ = w.cell? ⟨k, i, none⟩
theorem Kz.refl (lo : Nat) (T : Value → Prop) (w : World) : Kz lo T w w := ⟨Nat.le_refl _, fun _ _ _ _ => rfl⟩
theorem Kz.trans {lo : Nat} {T : Value → Prop} {w w1 w2 : World} (h : Kz lo T w w1) (h' : Kz lo T w1 w2) : Kz lo T w w2 :=
 ⟨Nat.le_trans h.1 h'.1, fun k hk hu i => by
  have e := h.2 k hk hu
  obtain ⟨u, hu1, hu2⟩ := hu
  exact (h'.2 k hk ⟨u, (e 0).trans hu1, hu2⟩ i).trans (e i)⟩
theorem Kz.below {lo : Nat} (T : Value → Prop) {w w' : World} (h : Below w.heap.size w w') : Kz lo T w w' :=
 ⟨h.size, fun k _ ⟨_, hu, _⟩ i => h.cell (p := ⟨k, i, none⟩) (World.block_lt_of_cell? w ⟨k, 0, none⟩ hu)⟩
theorem Kz.alloc {lo : Nat} (T : Value → Prop) (w : World) (o : Obj) : Kz lo T w (w.alloc o) := Kz.below T ((Below.refl _ _).alloc (Nat.le_refl _) _)
theorem Kz.set {lo : Nat} (T : Value → Prop) {w : World} {R j : Nat} (v : Value) (hR : R < lo) : Kz lo T w (w.setCell ⟨R, j, none⟩ v) :=
 ⟨by simp, fun k hk _ i => World.cell?_setCell_other _ _ _ _ (fun e => by cases e; omega)⟩
theorem Kz.grown {lo : Nat} {T : Value → Prop} {w w' : World} {r : Option Nat} (h : w.grownBy w' r) (hr : ∀ g u, r = some g → w.cell? ⟨g, 0, none⟩ = some u → ¬ T u) : Kz lo T w w' :=
 ⟨h.size, fun k _ ⟨u, hu, hT⟩ i => h.cell_far ⟨k, i, none⟩ (World.block_lt_of_cell? w ⟨k, 0, none⟩ hu) (fun e => hr k u e.symm hu hT)⟩
theorem Kz.kb {lo b : Nat} {T : Value → Prop} {w w' : World} (h : Kb b w w') (hb : b < lo) : Kz lo T w w' :=
 ⟨h.size, fun k hk ⟨_, hu, _⟩ i => World.grownBy.cell_far h ⟨k, i, none⟩ (World.block_lt_of_cell? w ⟨k, 0, none⟩ hu) (fun e => by injection e with e; dsimp only at e; omega)⟩
def D0 (lo : Nat) (w : World) (s : SlQ) (d : List Nat) : Prop := d.length = s.2.1 ∧ s.2.1 ≤ s.2.2 ∧ s.2.2 ≤ maxLen ∧ IsB d ∧ ((∃ g, s.1 = some ⟨g, 0, none⟩) ∧ ∀ x, s.1 = some x → lo ≤ x.block) ∧ (d = [] ∨ ∃ g, s.1 = some ⟨g, 0, none⟩ ∧ g < w.heap.size ∧ ∀ i, i < d.length → w.cell? ⟨g, i, none⟩ = some (.int .u8 (nth d i : Int)))
theorem D0.low {lo lo' : Nat} {w : World} {s : SlQ} {d : List Nat} (h : D0 lo w s d) (hl : lo' ≤ lo) : D0 lo' w s d := ⟨h.1, h.2.1, h.2.2.1, h.2.2.2.1, ⟨h.2.2.2.2.1.1, fun x hx => Nat.le_trans hl (h.2.2.2.2.1.2 x hx)⟩, h.2.2.2.2.2⟩
theorem D0.sl {lo : Nat} {w : World} {s : SlQ} {d : List Nat} (h : D0 lo w s d) : IsSl lo w s d := by
 obtain ⟨h1, h2, h3, h4, h5, h6⟩ := h
 refine ⟨h1, h2, h3, h4, ?_, h5.2⟩
 rcases h6 with h6 | ⟨g, e, hg, hc⟩
 ·exact .inl h6
 ·exact .inr ⟨g, 0, e, hg, fun i hi => by rw [Nat.zero_add]; exact hc i hi⟩
theorem Gr.d0 {w : World} {B : Nat} {v : Value} {l : List Nat} (h : Gr w B v l) (hB : IsB l) : ∃ s : SlQ, v = slW s ∧ D0 B w s l := by
 obtain ⟨g, cap, e, hg, hm, hl, hc, hlt, hcell, -⟩ := h
 exact ⟨(some ⟨g, 0, none⟩, l.length, cap), e, rfl, hc, hm, hB, ⟨⟨g, rfl⟩, fun x hx => by cases hx; exact hg⟩, .inr ⟨g, rfl, hlt, hcell⟩⟩
end Go.Proofs.YtdcgihcjiiemdaaDoor
namespace Go.Proofs.YtdcgihcjiiemdaaDoor
open Go.RowKit
abbrev SlP := Option Addr × Nat × Nat
def slV (p : SlP) : Value := .slice p.1 p.2.1 p.2.2
def nthL (l : List SlP) (i : Nat) : SlP := l.getD i (none, 0, 0)
def lc (l : List SlP) : List Value := l.map fun (b : SlP) => slV b
theorem nthL_get {l : List SlP} {i : Nat} (h : i < l.length) : nthL l i = l[i] := by
 unfold nthL; rw [List.getD_eq_getElem?_getD, List.getElem?_eq_getElem h]; rfl
theorem lc_len (l : List SlP) : (lc l).length = l.length := by simp [lc]
theorem lc_get {l : List SlP} {i : Nat} (h : i < l.length) : (lc l)[i]? = some (slV (nthL l i)) := by
 rw [nthL_get h]; simp [lc, h]
theorem nthL_drop (l : List SlP) (k i : Nat) : nthL (l.drop k) i = nthL l (k + i) := by
 simp [nthL, List.getD_eq_getElem?_getD, List.getElem?_drop]
def RdL (w : World) (a : Option Addr) (l : List SlP) : Prop :=
 l = [] ∨ ∃ b off, a = some ⟨b, off, none⟩ ∧ b < w.heap.size ∧ ∀ i, i < l.length → w.cell? ⟨b, off + i, none⟩ = some (slV (nthL l i))
theorem RdL.below {w w' : World} {a : Option Addr} {l : List SlP} (h : RdL w a l) (hb : Below w.heap.size w w') : RdL w' a l := by
 rcases h with h | ⟨b, off, e, hlt, hc⟩
 ·exact .inl h
 ·exact .inr ⟨b, off, e, Nat.lt_of_lt_of_le hlt hb.size, fun i hi => (hb.cell (p := ⟨b, off + i, none⟩) hlt).trans (hc i hi)⟩
theorem RdL.at_ {w : World} {a : Option Addr} {l : List SlP} (h : RdL w a l) (hp : 0 < l.length) :
  ∃ b off, a = some ⟨b, off, none⟩ ∧ b < w.heap.size ∧ ∀ i, i < l.length → w.cell? ⟨b, off + i, none⟩ = some (slV (nthL l i)) := by
 rcases h with h | h
 ·rw [h] at hp; simp at hp
 ·exact h
theorem RdL.drop {w : World} {b off : Nat} {l : List SlP} (h : RdL w (some ⟨b, off, none⟩) l) (k : Nat) : RdL w (some ⟨b, off + k, none⟩) (l.drop k) := by
 rcases h with h | ⟨b', off', e, hlt, hc⟩
 ·left; simp [h]
 ·obtain ⟨rfl, rfl⟩ : b = b' ∧ off = off' := by simpa using e
  right
  refine ⟨b, off + k, rfl, hlt, fun i hi => ?_⟩
  rw [List.length_drop] at hi
  rw [nthL_drop, Nat.add_assoc]
  exact hc (k + i) (by omega)
theorem RdL.own {w : World} {base e n cap : Nat} {a : Option Addr} {l : List SlP} (h : w.ownsRow base e 1 (.slice a n cap) n (lc l)) : RdL w a l := by
 have hl : l.length = n := by simpa [lc_len] using h.1
 rcases h.2 with ⟨_, h0⟩ | ⟨g, cap', cur, h', _, hg, _, _, _, htake⟩
 ·left; exact List.length_eq_zero_iff.1 (by omega)
 ·simp only [Value.slice.injEq] at h'
  obtain ⟨rfl, _, rfl⟩ := h'
  right
  refine ⟨g, 0, rfl, ?_, fun i hi => ?_⟩
  ·rcases Nat.lt_or_ge g w.heap.size with hlt | hge
   ·exact hlt
   ·simp [Array.getElem?_eq_none hge] at hg
  ·rw [cell_of_row w g (0 + i) cur e (0, 0) hg, ← lc_get hi, ← htake, List.getElem?_take, if_pos (by omega)]
   simp
def OwnL (w : World) (B : Nat) (v : Value) (l : List SlP) : Prop := w.ownsRow B 22 1 v l.length (lc l)
theorem OwnL.nil (w : World) (B : Nat) : OwnL w B (.slice none 0 0) [] := World.ownsRow_nil _ _ _ _
theorem OwnL.lit (w : World) (B : Nat) (hB : B ≤ w.heap.size) (cs : Array Value) (l : List SlP) (h : cs.toList = lc l) (hl : l.length ≤ maxLen) : OwnL (w.alloc (.cells cs 22)) B (.slice (some ⟨w.heap.size, 0, none⟩) l.length l.length) l := by
 have := World.ownsRow_lit (base := B) (e := 22) (size := 1) w cs l.length hB hl (by rw [← Array.length_toList, h, lc_len]; omega)
 rw [h] at this
 exact this
theorem OwnL.alloc {w : World} {B : Nat} {v : Value} {l : List SlP} (h : OwnL w B v l) (o : Obj) : OwnL (w.alloc o) B v l := World.ownsRow.alloc h o
theorem OwnL.drew {w : World} {B : Nat} {v : Value} {l : List SlP} (h : OwnL w B v l) : OwnL w.drew B v l := h
theorem OwnL.below {w w' : World} {B C : Nat} {v : Value} {l : List SlP} (h : OwnL w B v l) (hb : Below C w w') (hC : w.heap.size ≤ C) : OwnL w' B v l := by
 refine ⟨h.1, ?_⟩
 rcases h.2 with h' | ⟨g, cap, cur, h1, h2, h3, h4⟩
 ·exact .inl h'
 ·refine .inr ⟨g, cap, cur, h1, h2, ?_, h4⟩
  have hg : g < w.heap.size := by
   rcases Nat.lt_or_ge g w.heap.size with hlt | hge
   ·exact hlt
   ·simp [Array.getElem?_eq_none hge] at h3
  rw [hb.block g (by omega)]; exact h3
theorem OwnL.form {w : World} {B : Nat} {v : Value} {l : List SlP} (h : OwnL w B v l) : ∃ a cap, v = .slice a l.length cap ∧ l.length ≤ cap ∧ cap ≤ maxLen := by
 rcases h.2 with ⟨h', h0⟩ | ⟨g, cap, cur, h', _, _, h4, h5, _⟩
 ·exact ⟨none, 0, by rw [h', h0], by omega, by decide⟩
 ·exact ⟨_, cap, h', h4, h5⟩
theorem OwnL.rd {w : World} {B n cap : Nat} {a : Option Addr} {l : List SlP} (h : OwnL w B (.slice a n cap) l) : l.length = n ∧ RdL w a l := by
 have hf : l.length = n := by
  obtain ⟨a', c', e, _⟩ := h.form
  simp at e; omega
 subst hf
 exact ⟨rfl, RdL.own h⟩
theorem OwnL.low {w : World} {B C : Nat} {v : Value} {l : List SlP} (h : OwnL w B v l) (hC : C ≤ B) : OwnL w C v l := by
 refine ⟨h.1, ?_⟩
 rcases h.2 with h' | ⟨g, cap, cur, h1, h2, h3, h4⟩
 ·exact .inl h'
 ·exact .inr ⟨g, cap, cur, h1, by omega, h3, h4⟩
def RdLs (w : World) (l : List SlP) (ls : List (List Nat)) : Prop := l.length = ls.length ∧ ∀ i, i < l.length → (nthL l i).2.1 = (ls.getD i []).length ∧ (nthL l i).2.1 ≤ (nthL l i).2.2 ∧ Rd w (nthL l i).1 (ls.getD i [])
theorem RdLs.below {w w' : World} {l : List SlP} {ls : List (List Nat)} (h : RdLs w l ls) (hb : Below w.heap.size w w') : RdLs w' l ls := ⟨h.1, fun i hi => ⟨(h.2 i hi).1, (h.2 i hi).2.1, (h.2 i hi).2.2.below hb⟩⟩
theorem RdLs.nil (w : World) : RdLs w [] [] := ⟨rfl, fun _ hi => absurd hi (Nat.not_lt_zero _)⟩
theorem RdLs.snoc {w : World} {l : List SlP} {ls : List (List Nat)} (h : RdLs w l ls) (p : SlP) (x : List Nat) (h1 : p.2.1 = x.length) (h2 : p.2.1 ≤ p.2.2) (h3 : Rd w p.1 x) : RdLs w (l ++ [p]) (ls ++ [x]) := by
 refine ⟨by rw [List.length_append, List.length_append, h.1]; rfl, fun i hi => ?_⟩
 rw [List.length_append, List.length_singleton] at hi
 by_cases hil : i < l.length
 ·have e1 : nthL (l ++ [p]) i = nthL l i := by unfold nthL; rw [List.getD_eq_getElem?_getD, List.getD_eq_getElem?_getD, List.getElem?_append_left hil]
  have e2 : (ls ++ [x]).getD i [] = ls.getD i [] := by rw [List.getD_eq_getElem?_getD, List.getD_eq_getElem?_getD, List.getElem?_append_left (by rw [← h.1]; exact hil)]
  rw [e1, e2]; exact h.2 i hil
 ·obtain rfl : i = l.length := by omega
  have e1 : nthL (l ++ [p]) l.length = p := by unfold nthL; rw [List.getD_eq_getElem?_getD, List.getElem?_append_right (Nat.le_refl _)]; simp
  have e2 : (ls ++ [x]).getD l.length [] = x := by rw [h.1, List.getD_eq_getElem?_getD, List.getElem?_append_right (Nat.le_refl _)]; simp
  rw [e1, e2]; exact ⟨h1, h2, h3⟩
end Go.Proofs.YtdcgihcjiiemdaaDoor
