/- What is built of parts, as plain lists; no program in it · What the model builds of parts; no conditions beyond those that each fact names · The draw of a message of several parts; no conditions beyond those that each fact names · Messages: their size, a copy, whether two are the same, and their fault, on both sides; no conditions beyond those that each fact names · Messages: the laws' helpers: a message's size, a copy, whether two are the same; no conditions beyond those that each fact names · The draws of messages; no conditions beyond those that each fact names · A step of a region that draws its order: what is plain of it is found by itself; no conditions beyond those that each fact names · The laws' helpers over slices of messages: their size, a copy, whether two are the same; no conditions beyond those that each fact names · Mailboxes: the laws' helpers: a mailbox's size, a copy, whether two are the same; no conditions beyond those that each fact names · The laws' helpers over slices of mailboxes: their size, a copy, whether two are the same; no conditions beyond those that each fact names · Rows of messages, of mailboxes, of the call's own: an append that leaves every block but the row's own; four cells that may be written; no conditions beyond those that each fact names · The draw of a mailbox; no conditions beyond those that each fact names · The draw of a store; no conditions beyond those that each fact names · The draw of a mailbox that may be bent; no conditions beyond those that each fact names · The draw of a store that may be bent; no conditions beyond those that each fact names. -/
import Derived.Test.YtdcgihcjiiemdaaDoorGrxToDrk
import Derived.Test.YtdcgihcjiiemdaaDoorKzzToMemB
import Derived.Test.YtdcgihcjiiemdaaDoorMemFToEncQ2
import Derived.Test.YtdcgihcjiiemdaaDoorLef
import Derived.Test.YtdcgihcjiiemdaaDoorMqr
import Derived.Test.YtdcgihcjiiemdaaDoorMathToEncB2
import Derived.Deep.RegionHeld3
import Derived.Test.YtdcgihcjiiemdaaDoorProg
import Derived.OrdersHeld
import Derived.WalkKit
import Derived.OneCell
namespace Go.Proofs.YtdcgihcjiiemdaaDoor
open Go.RowKit
def FitB (ls : List (List Nat)) : Prop := ∀ k, k < ls.length → IsB (ls.getD k []) ∧ (ls.getD k []).length ≤ 1048576
end Go.Proofs.YtdcgihcjiiemdaaDoor
namespace Go.Proofs.YtdcgihcjiiemdaaDoor
open Go.RowKit
end Go.Proofs.YtdcgihcjiiemdaaDoor
namespace Go.Proofs.YtdcgihcjiiemdaaDoor
open Go.RowKit
set_option linter.unusedVariables false
theorem OwnL.kb {w w' : World} {B b : Nat} {v : Value} {l : List SlP} (h : OwnL w B v l) (hk : Kb b w w') (hb : b < B) : OwnL w' B v l := by
 refine World.ownsRow.kept h hk ?_
 cases hv : v.ownBlock with
 | none => exact .inl rfl
 | some k => right; intro e; have := (h.lt k hv).1; simp at e; omega
def DLs (lo : Nat) (w : World) (l : List SlP) (ls : List (List Nat)) : Prop := l.length = ls.length ∧ ∀ i, i < l.length → D0 lo w (nthL l i) (ls.getD i []) ∧ (ls.getD i []).length ≤ 600
theorem DLs.rd {lo : Nat} {w : World} {l : List SlP} {ls : List (List Nat)} (h : DLs lo w l ls) : RdLs w l ls ∧ FitB ls := by
 refine ⟨⟨h.1, fun i hi => ⟨(h.2 i hi).1.1.symm, (h.2 i hi).1.2.1, (h.2 i hi).1.sl.2.2.2.2.1⟩⟩, fun k hk => ?_⟩
 have := h.2 k (by rw [h.1]; exact hk)
 exact ⟨this.1.2.2.2.1, by omega⟩
theorem DLs.snoc {lo : Nat} {w : World} {l : List SlP} {ls : List (List Nat)} (h : DLs lo w l ls) (s : SlQ) (x : List Nat) (hd : D0 lo w s x) (hx : x.length ≤ 600) : DLs lo w (l ++ [s]) (ls ++ [x]) := by
 refine ⟨by rw [List.length_append, List.length_append, h.1]; rfl, fun i hi => ?_⟩
 rw [List.length_append, List.length_singleton] at hi
 by_cases hil : i < l.length
 ·have e1 : nthL (l ++ [s]) i = nthL l i := by unfold nthL; rw [List.getD_eq_getElem?_getD, List.getD_eq_getElem?_getD, List.getElem?_append_left hil]
  have e2 : (ls ++ [x]).getD i [] = ls.getD i [] := by rw [List.getD_eq_getElem?_getD, List.getD_eq_getElem?_getD, List.getElem?_append_left (by rw [← h.1]; exact hil)]
  rw [e1, e2]; exact h.2 i hil
 ·obtain rfl : i = l.length := by omega
  have e1 : nthL (l ++ [s]) l.length = s := by unfold nthL; rw [List.getD_eq_getElem?_getD, List.getElem?_append_right (Nat.le_refl _)]; simp
  have e2 : (ls ++ [x]).getD l.length [] = x := by rw [h.1, List.getD_eq_getElem?_getD, List.getElem?_append_right (Nat.le_refl _)]; simp
  rw [e1, e2]; exact ⟨hd, hx⟩
end Go.Proofs.YtdcgihcjiiemdaaDoor
namespace Go.Proofs.YtdcgihcjiiemdaaDoor
open Go.RowKit
def bt (c a b : Int) : Bool := decide (a ≤ c ∧ c ≤ b)
theorem l1In_bt (c a b : Int) (w : World) : Calls Tryd.prog 57 #[.int .i64 c, .int .i64 a, .int .i64 b] w fun e w' => e = .returned (.bool (bt c a b)) ∧ w = w' := by
 by_cases h1 : a ≤ c
 ·by_cases h2 : c ≤ b
  ·have H : Hid (bt c a b = true) := by show bt c a b = true; simp [bt, h1, h2]
   go_enter Tryd.func57, Tryd.ntmps57
   go_wp2
   go_ret
   exact ⟨by rw [H.out]; rfl, rfl⟩
  ·have H : Hid (bt c a b = false) := by show bt c a b = false; simp [bt, h2]
   go_enter Tryd.func57, Tryd.ntmps57
   go_wp2
   go_ret
   exact ⟨by rw [H.out]; rfl, rfl⟩
 ·have H : Hid (bt c a b = false) := by show bt c a b = false; simp [bt, h1]
  go_enter Tryd.func57, Tryd.ntmps57
  go_wp2
  go_ret
  exact ⟨by rw [H.out]; rfl, rfl⟩
theorem isBetween_bt (c a b : Int) (w : World) : Calls Tryd.prog 58 #[.int .i64 c, .int .i64 a, .int .i64 b] w fun e w' => e = .returned (.bool (bt c a b)) ∧ w = w' := by
 by_cases h1 : a ≤ c
 ·by_cases h2 : c ≤ b
  ·have H : Hid (bt c a b = true) := by show bt c a b = true; simp [bt, h1, h2]
   go_enter Tryd.func58, Tryd.ntmps58
   go_wp2
   go_ret
   exact ⟨by rw [H.out]; rfl, rfl⟩
  ·have H : Hid (bt c a b = false) := by show bt c a b = false; simp [bt, h2]
   go_enter Tryd.func58, Tryd.ntmps58
   go_wp2
   go_ret
   exact ⟨by rw [H.out]; rfl, rfl⟩
 ·have H : Hid (bt c a b = false) := by show bt c a b = false; simp [bt, h1]
  go_enter Tryd.func58, Tryd.ntmps58
  go_wp2
  go_ret
  exact ⟨by rw [H.out]; rfl, rfl⟩
theorem areFlags_bt (c : Int) (w : World) : Calls Tryd.prog 75 #[.int .i64 c] w fun e w' => e = .returned (.bool (bt c 0 15)) ∧ w = w' := by
 have HC := isBetween_bt c 0 15
 generalize bt c 0 15 = r at *
 go_enter Tryd.func75, Tryd.ntmps75
 go_wp2_with (first | (go_at_call 58; refine (HC _).mono ?_; rintro e w' ⟨rfl, rfl⟩))
 go_ret
 exact ⟨rfl, rfl⟩
end Go.Proofs.YtdcgihcjiiemdaaDoor
namespace Go.Proofs.YtdcgihcjiiemdaaDoor
open Go.RowKit
def Qc (w : World) (g : Nat) (q : Qd) : Prop := w.cell? ⟨g, 0, none⟩ = some q.1 ∧ w.cell? ⟨g, 1, none⟩ = some q.2.1 ∧ w.cell? ⟨g, 2, none⟩ = some q.2.2.1 ∧ w.cell? ⟨g, 3, none⟩ = some q.2.2.2
theorem Qc.below {C : Nat} {w w' : World} {g : Nat} {q : Qd} (h : Qc w g q) (hb : Below C w w') (hg : g < C) : Qc w' g q :=
 ⟨(hb.cell (p := ⟨g, 0, none⟩) hg).trans h.1, (hb.cell (p := ⟨g, 1, none⟩) hg).trans h.2.1, (hb.cell (p := ⟨g, 2, none⟩) hg).trans h.2.2.1, (hb.cell (p := ⟨g, 3, none⟩) hg).trans h.2.2.2⟩
theorem Qc.new (w : World) (c0 c1 c2 c3 : Value) (t : TypeId) : Qc (w.alloc (.cells #[c0, c1, c2, c3] t)) w.heap.size (c0, c1, c2, c3) := ⟨by simp, by simp, by simp, by simp⟩
theorem Qc.lt {w : World} {g : Nat} {q : Qd} (h : Qc w g q) : g < w.heap.size := World.block_lt_of_cell? w ⟨g, 0, none⟩ h.1
def FtM (m : Msg) : Prop := m.b.length ≤ 1048576
end Go.Proofs.YtdcgihcjiiemdaaDoor
namespace Go.Proofs.YtdcgihcjiiemdaaDoor
open Go.RowKit
set_option linter.unusedVariables false
end Go.Proofs.YtdcgihcjiiemdaaDoor
namespace Go.Proofs.YtdcgihcjiiemdaaDoor
open Go.RowKit
theorem tk {P : Program} {md : _} {ops : Array Oper} {Q : Exit → Act → World → Prop} {S : World → Prop} {i : Nat} {oi : Oper} {v : Value} {fuel : Nat} {listed : Array Bool} {a : Act} {w : World} (hi : ops[i]? = some oi)
  (hy : YieldsIf P ops S oi v a) (h : wpAnyH P md ops Q S fuel (listed.setIfInBounds i true) (a.put oi.dst v) w)
  (hs : Region.noSelect ops = true := by kernel_rfl) (hf : Region.free md ops listed i = true := by kernel_rfl) (hr : (Region.ready md ops listed).contains i = true := by kernel_rfl)
  (hQ : ∀ c a w, Q (.panic c) (a.put oi.dst v) w → Q (.panic c) a w := by exact fun _ _ _ h => h) (hS : S w := by assumption) : wpAnyH P md ops Q S (fuel + 1) listed a w :=
 wpAnyH_take hi hs hf hr hQ hy hS h
theorem J1 {α : Type} {l : List α} {i : Nat} (h : i < l.toArray.size) : l.toArray[i] = l[i]'h := rfl
theorem J2 {α : Type} {a : α} {l : List α} (h : 0 < (a :: l).length) : (a :: l)[0]'h = a := rfl
theorem J3 {α : Type} {a : α} {l : List α} {i : Nat} (h : i + 1 < (a :: l).length) : (a :: l)[i + 1]'h = l[i]'(Nat.lt_of_succ_lt_succ h) := rfl
theorem J4 {α : Type} {l : List α} {i : Nat} {a : α} : l.toArray.setIfInBounds i a = (l.set i a).toArray := List.setIfInBounds_toArray ..
theorem J5 {α : Type} {a b : α} {l : List α} : (a :: l).set 0 b = b :: l := rfl
theorem J6 {α : Type} {a b : α} {l : List α} {n : Nat} : (a :: l).set (n + 1) b = a :: l.set n b := rfl
end Go.Proofs.YtdcgihcjiiemdaaDoor
namespace Go.Proofs.YtdcgihcjiiemdaaDoor
open Go.RowKit List
def FtMs (l : List Msg) : Prop := l.length ≤ 1048576 ∧ ∀ i, i < l.length → FtM (nthM l i)
end Go.Proofs.YtdcgihcjiiemdaaDoor
namespace Go.Proofs.YtdcgihcjiiemdaaDoor
open Go.RowKit
def FtX (m : Bx) : Prop := m.n.size ≤ 1048576 ∧ FtMs m.m
end Go.Proofs.YtdcgihcjiiemdaaDoor
namespace Go.Proofs.YtdcgihcjiiemdaaDoor
open Go.RowKit List
end Go.Proofs.YtdcgihcjiiemdaaDoor
namespace Go.Proofs.YtdcgihcjiiemdaaDoor
open Go.RowKit
set_option linter.unusedVariables false
def Qf (w : World) (g : Nat) (q : Qd) : Prop := Qc w g q ∧ w.frozen? ⟨g, 0, none⟩ = false ∧ w.frozen? ⟨g, 1, none⟩ = false ∧ w.frozen? ⟨g, 2, none⟩ = false ∧ w.frozen? ⟨g, 3, none⟩ = false
theorem Qf.lt {w : World} {g : Nat} {q : Qd} (h : Qf w g q) : g < w.heap.size := h.1.lt
theorem Qf.new (w : World) (c0 c1 c2 c3 : Value) (t : TypeId) : Qf (w.alloc (.cells #[c0, c1, c2, c3] t)) w.heap.size (c0, c1, c2, c3) := ⟨Qc.new _ _ _ _ _ _, by simp, by simp, by simp, by simp⟩
theorem Qf.block {w w' : World} {g : Nat} {q : Qd} (h : Qf w g q) (hb : w'.heap[g]? = w.heap[g]?) : Qf w' g q := by
 obtain ⟨⟨h0, h1, h2, h3⟩, f0, f1, f2, f3⟩ := h
 exact ⟨⟨(World.cell?_of_block hb).trans h0, (World.cell?_of_block hb).trans h1, (World.cell?_of_block hb).trans h2, (World.cell?_of_block hb).trans h3⟩, (World.frozen?_of_block hb).trans f0, (World.frozen?_of_block hb).trans f1, (World.frozen?_of_block hb).trans f2, (World.frozen?_of_block hb).trans f3⟩
theorem Qf.below {C : Nat} {w w' : World} {g : Nat} {q : Qd} (h : Qf w g q) (hb : Below C w w') (hg : g < C) : Qf w' g q := h.block (hb.block g hg)
theorem Qf.grown {w w' : World} {g : Nat} {q : Qd} {r : Option Nat} (h : Qf w g q) (hb : w.grownBy w' r) (hg : some g ≠ r) : Qf w' g q := h.block (hb.block g h.lt hg)
theorem Qf.far {w : World} {g : Nat} {q : Qd} (h : Qf w g q) (k j : Nat) (v : Value) (hk : k ≠ g) : Qf (w.setCell ⟨k, j, none⟩ v) g q := by
 obtain ⟨⟨h0, h1, h2, h3⟩, f0, f1, f2, f3⟩ := h
 exact ⟨⟨(World.cell?_setCell_other _ _ _ _ (fun e => by cases e; exact hk rfl)).trans h0, (World.cell?_setCell_other _ _ _ _ (fun e => by cases e; exact hk rfl)).trans h1, (World.cell?_setCell_other _ _ _ _ (fun e => by cases e; exact hk rfl)).trans h2, (World.cell?_setCell_other _ _ _ _ (fun e => by cases e; exact hk rfl)).trans h3⟩, by simpa using f0, by simpa using f1, by simpa using f2, by simpa using f3⟩
def isN (v : Value) : Prop := isU8 v ∨ isI64 v
theorem Kz.weak {lo : Nat} {T T' : Value → Prop} {w w' : World} (h : Kz lo T w w') (hT : ∀ v, T' v → T v) : Kz lo T' w w' := ⟨h.1, fun k hk ⟨u, hu, ht⟩ i => h.2 k hk ⟨u, hu, hT u ht⟩ i⟩
theorem Kz.u8 {lo : Nat} {w w' : World} (h : Kz lo isN w w') : Kz lo isU8 w w' := h.weak fun _ => .inl
def DM (lo : Nat) (w : World) (ql : List Qd) (l : List Msg) : Prop := ql.length = l.length ∧ ∀ j, j < l.length → ∃ s, nthQ ql j = msQ (nthM l j) s ∧ D0 lo w s (nthM l j).b ∧ (nthM l j).b.length ≤ 600
theorem DM.nil (lo : Nat) (w : World) : DM lo w [] [] := ⟨rfl, fun j hj => absurd hj (Nat.not_lt_zero _)⟩
theorem DM.snoc {lo : Nat} {w : World} {ql : List Qd} {l : List Msg} (h : DM lo w ql l) (m : Msg) (s : SlQ) (hd : D0 lo w s m.b) (hn : m.b.length ≤ 600) : DM lo w (ql ++ [msQ m s]) (l ++ [m]) := by
 refine ⟨by rw [List.length_append, List.length_append, h.1]; rfl, fun j hj => ?_⟩
 rw [List.length_append, List.length_singleton] at hj
 by_cases hjl : j < l.length
 ·have e1 : nthQ (ql ++ [msQ m s]) j = nthQ ql j := by unfold nthQ; rw [List.getD_eq_getElem?_getD, List.getD_eq_getElem?_getD, List.getElem?_append_left (by rw [h.1]; exact hjl)]
  have e2 : nthM (l ++ [m]) j = nthM l j := by unfold nthM; rw [List.getD_eq_getElem?_getD, List.getD_eq_getElem?_getD, List.getElem?_append_left hjl]
  rw [e1, e2]; exact h.2 j hjl
 ·obtain rfl : j = l.length := by omega
  have e1 : nthQ (ql ++ [msQ m s]) l.length = msQ m s := by unfold nthQ; rw [← h.1, List.getD_eq_getElem?_getD, List.getElem?_append_right (Nat.le_refl _)]; simp
  have e2 : nthM (l ++ [m]) l.length = m := by unfold nthM; rw [List.getD_eq_getElem?_getD, List.getElem?_append_right (Nat.le_refl _)]; simp
  rw [e1, e2]; exact ⟨s, rfl, hd, hn⟩
def DR (lo : Nat) (w : World) (s : SlQ) (l : List Msg) : Prop := l.length = s.2.1 ∧ s.2.1 ≤ s.2.2 ∧ s.2.2 ≤ maxLen ∧ (∀ x, s.1 = some x → lo ≤ x.block) ∧ (l = [] ∨ ∃ g, s.1 = some ⟨g, 0, none⟩ ∧ g < w.heap.size ∧ ∀ i, i < l.length → ∃ q, (w.cell? ⟨g, i * 4, none⟩ = some (.int .i64 (nthM l i).u) ∧ w.cell? ⟨g, i * 4 + 1, none⟩ = some (.int .i64 (nthM l i).f) ∧ w.cell? ⟨g, i * 4 + 2, none⟩ = some (.int .i64 (nthM l i).d) ∧ w.cell? ⟨g, i * 4 + 3, none⟩ = some (slW q)) ∧ D0 lo w q (nthM l i).b ∧ (nthM l i).b.length ≤ 600)
theorem DR.low {lo lo' : Nat} {w : World} {s : SlQ} {l : List Msg} (h : DR lo w s l) (hl : lo' ≤ lo) : DR lo' w s l := by
 obtain ⟨h1, h2, h3, h4, h5⟩ := h
 refine ⟨h1, h2, h3, fun x hx => Nat.le_trans hl (h4 x hx), ?_⟩
 rcases h5 with h5 | ⟨g, e, hg, hc⟩
 ·exact .inl h5
 ·refine .inr ⟨g, e, hg, fun i hi => ?_⟩
  obtain ⟨q, hq, hd, hn⟩ := hc i hi
  exact ⟨q, hq, hd.low hl, hn⟩
end Go.Proofs.YtdcgihcjiiemdaaDoor
namespace Go.Proofs.YtdcgihcjiiemdaaDoor
open Go.RowKit
theorem DM.low {lo lo' : Nat} {w : World} {ql : List Qd} {l : List Msg} (h : DM lo w ql l) (hl : lo' ≤ lo) : DM lo' w ql l := ⟨h.1, fun j hj => by obtain ⟨s, e, hd, hn⟩ := h.2 j hj; exact ⟨s, e, hd.low hl, hn⟩⟩
end Go.Proofs.YtdcgihcjiiemdaaDoor
namespace Go.Proofs.YtdcgihcjiiemdaaDoor
open Go.RowKit
set_option linter.unusedVariables false
def Df (w : World) (g : Nat) (q : Value × Value) : Prop := (w.cell? ⟨g, 0, none⟩ = some q.1 ∧ w.cell? ⟨g, 1, none⟩ = some q.2) ∧ w.frozen? ⟨g, 0, none⟩ = false ∧ w.frozen? ⟨g, 1, none⟩ = false
theorem Df.lt {w : World} {g : Nat} {q : Value × Value} (h : Df w g q) : g < w.heap.size := World.block_lt_of_cell? w ⟨g, 0, none⟩ h.1.1
theorem Df.new (w : World) (c0 c1 : Value) (t : TypeId) : Df (w.alloc (.cells #[c0, c1] t)) w.heap.size (c0, c1) := ⟨⟨by simp, by simp⟩, by simp, by simp⟩
theorem Df.block {w w' : World} {g : Nat} {q : Value × Value} (h : Df w g q) (hb : w'.heap[g]? = w.heap[g]?) : Df w' g q := by
 obtain ⟨⟨h0, h1⟩, f0, f1⟩ := h
 exact ⟨⟨(World.cell?_of_block hb).trans h0, (World.cell?_of_block hb).trans h1⟩, (World.frozen?_of_block hb).trans f0, (World.frozen?_of_block hb).trans f1⟩
theorem Df.below {C : Nat} {w w' : World} {g : Nat} {q : Value × Value} (h : Df w g q) (hb : Below C w w') (hg : g < C) : Df w' g q := h.block (hb.block g hg)
theorem Df.grown {w w' : World} {g : Nat} {q : Value × Value} {r : Option Nat} (h : Df w g q) (hb : w.grownBy w' r) (hg : some g ≠ r) : Df w' g q := h.block (hb.block g h.lt hg)
theorem Df.far {w : World} {g : Nat} {q : Value × Value} (h : Df w g q) (k j : Nat) (v : Value) (hk : k ≠ g) : Df (w.setCell ⟨k, j, none⟩ v) g q := by
 obtain ⟨⟨h0, h1⟩, f0, f1⟩ := h
 exact ⟨⟨(World.cell?_setCell_other _ _ _ _ (fun e => by cases e; exact hk rfl)).trans h0, (World.cell?_setCell_other _ _ _ _ (fun e => by cases e; exact hk rfl)).trans h1⟩, by simpa using f0, by simpa using f1⟩
def DX (lo : Nat) (w : World) (ql : List Qd) (l : List Bx) : Prop := ql.length = l.length ∧ ∀ j, j < l.length → ∃ s, nthQ ql j = bxQ (nthX l j) s ∧ DR lo w s (nthX l j).m ∧ (nthX l j).n.size ≤ 100 ∧ (nthX l j).m.length ≤ 7
theorem DX.nil (lo : Nat) (w : World) : DX lo w [] [] := ⟨rfl, fun j hj => absurd hj (Nat.not_lt_zero _)⟩
theorem DX.snoc {lo : Nat} {w : World} {ql : List Qd} {l : List Bx} (h : DX lo w ql l) (m : Bx) (s : SlQ) (hd : DR lo w s m.m) (hn : m.n.size ≤ 100 ∧ m.m.length ≤ 7) : DX lo w (ql ++ [bxQ m s]) (l ++ [m]) := by
 refine ⟨by rw [List.length_append, List.length_append, h.1]; rfl, fun j hj => ?_⟩
 rw [List.length_append, List.length_singleton] at hj
 by_cases hjl : j < l.length
 ·have e1 : nthQ (ql ++ [bxQ m s]) j = nthQ ql j := by unfold nthQ; rw [List.getD_eq_getElem?_getD, List.getD_eq_getElem?_getD, List.getElem?_append_left (by rw [h.1]; exact hjl)]
  have e2 : nthX (l ++ [m]) j = nthX l j := by unfold nthX; rw [List.getD_eq_getElem?_getD, List.getD_eq_getElem?_getD, List.getElem?_append_left hjl]
  rw [e1, e2]; exact h.2 j hjl
 ·obtain rfl : j = l.length := by omega
  have e1 : nthQ (ql ++ [bxQ m s]) l.length = bxQ m s := by unfold nthQ; rw [← h.1, List.getD_eq_getElem?_getD, List.getElem?_append_right (Nat.le_refl _)]; simp
  have e2 : nthX (l ++ [m]) l.length = m := by unfold nthX; rw [List.getD_eq_getElem?_getD, List.getElem?_append_right (Nat.le_refl _)]; simp
  rw [e1, e2]; exact ⟨s, rfl, hd, hn⟩
def DS (lo : Nat) (w : World) (s : SlQ) (l : List Bx) : Prop := IsXs lo w s l ∧ ∀ j, j < l.length → FtX (nthX l j)
theorem DX.low {lo lo' : Nat} {w : World} {ql : List Qd} {l : List Bx} (h : DX lo w ql l) (hl : lo' ≤ lo) : DX lo' w ql l := ⟨h.1, fun j hj => by obtain ⟨s, e, hd, hn⟩ := h.2 j hj; exact ⟨s, e, hd.low hl, hn⟩⟩
end Go.Proofs.YtdcgihcjiiemdaaDoor
namespace Go.Proofs.YtdcgihcjiiemdaaDoor
open Go.RowKit
set_option linter.unusedVariables false
end Go.Proofs.YtdcgihcjiiemdaaDoor
namespace Go.Proofs.YtdcgihcjiiemdaaDoor
open Go.RowKit
set_option linter.unusedVariables false
theorem DS.near {lo : Nat} {w w' : World} {s : SlQ} {l : List Bx} (h : DS lo w s l) (hn : Near lo w w') : DS lo w' s l := ⟨h.1.near hn, h.2⟩
theorem DS.low {lo lo' : Nat} {w : World} {s : SlQ} {l : List Bx} (h : DS lo w s l) (hl : lo' ≤ lo) : DS lo' w s l := ⟨h.1.low hl, h.2⟩
theorem Kb.near {b lo : Nat} {w w' : World} (h : Kb b w w') (hb : b < lo) : Near lo w w' := ⟨h.size, fun p hp hlt => World.cell?_of_block (h.block p.block hlt (fun e => by injection e with e; omega))⟩
end Go.Proofs.YtdcgihcjiiemdaaDoor
