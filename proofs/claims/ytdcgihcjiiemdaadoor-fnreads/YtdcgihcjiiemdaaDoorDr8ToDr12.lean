/- Rows of messages, of mailboxes, of the call's own: an append that leaves every block but the row's own; four cells that may be written; no conditions beyond those that each fact names · The draw of a mailbox; no conditions beyond those that each fact names · The draw of a store; no conditions beyond those that each fact names · The draw of a mailbox that may be bent; no conditions beyond those that each fact names · The draw of a store that may be bent; no conditions beyond those that each fact names. -/
import Derived.Test.YtdcgihcjiiemdaaDoorBmbToBxs
import Derived.OneCell
namespace Go.Proofs.YtdcgihcjiiemdaaDoor
open Go.RowKit
set_option linter.unusedVariables false

/-- Four cells of a block that may be written. -/
def Qf (w : World) (g : Nat) (q : Qd) : Prop := Qc w g q ∧ w.frozen? ⟨g, 0, none⟩ = false ∧ w.frozen? ⟨g, 1, none⟩ = false ∧ w.frozen? ⟨g, 2, none⟩ = false ∧ w.frozen? ⟨g, 3, none⟩ = false
theorem Qf.lt {w : World} {g : Nat} {q : Qd} (h : Qf w g q) : g < w.heap.size := h.1.lt
theorem Qf.new (w : World) (c0 c1 c2 c3 : Value) (t : TypeId) : Qf (w.alloc (.cells #[c0, c1, c2, c3] t)) w.heap.size (c0, c1, c2, c3) := ⟨Qc.new _ _ _ _ _ _, by simp, by simp, by simp, by simp⟩
theorem Qf.block {w w' : World} {g : Nat} {q : Qd} (h : Qf w g q) (hb : w'.heap[g]? = w.heap[g]?) : Qf w' g q := by
  obtain ⟨⟨h0, h1, h2, h3⟩, f0, f1, f2, f3⟩ := h
  exact ⟨⟨(World.cell?_of_block hb).trans h0, (World.cell?_of_block hb).trans h1, (World.cell?_of_block hb).trans h2, (World.cell?_of_block hb).trans h3⟩, (World.frozen?_of_block hb).trans f0, (World.frozen?_of_block hb).trans f1, (World.frozen?_of_block hb).trans f2, (World.frozen?_of_block hb).trans f3⟩
theorem Qf.below {C : Nat} {w w' : World} {g : Nat} {q : Qd} (h : Qf w g q) (hb : Below C w w') (hg : g < C) : Qf w' g q := h.block (hb.block g hg)
theorem Qf.grown {w w' : World} {g : Nat} {q : Qd} {r : Option Nat} (h : Qf w g q) (hb : w.grownBy w' r) (hg : some g ≠ r) : Qf w' g q := h.block (hb.block g h.lt hg)
theorem Qf.far {w : World} {g : Nat} {q : Qd} (h : Qf w g q) (k j : Nat) (v : Value) (hk : k ≠ g) : Qf (w.setCell ⟨k, j, none⟩ v) g q := by
  obtain ⟨⟨h0, h1, h2, h3⟩, f0, f1, f2, f3⟩ := h
  exact ⟨⟨(World.cell?_setCell_other _ _ _ _ (fun e => by cases e; exact hk rfl)).trans h0, (World.cell?_setCell_other _ _ _ _ (fun e => by cases e; exact hk rfl)).trans h1, (World.cell?_setCell_other _ _ _ _ (fun e => by cases e; exact hk rfl)).trans h2, (World.cell?_setCell_other _ _ _ _ (fun e => by cases e; exact hk rfl)).trans h3⟩, by simpa using f0, by simpa using f1, by simpa using f2, by simpa using f3⟩

def isN (v : Value) : Prop := isU8 v ∨ isI64 v
theorem Kz.weak {lo : Nat} {T T' : Value → Prop} {w w' : World} (h : Kz lo T w w') (hT : ∀ v, T' v → T v) : Kz lo T' w w' := ⟨h.1, fun k hk ⟨u, hu, ht⟩ i => h.2 k hk ⟨u, hu, hT u ht⟩ i⟩
theorem Kz.u8 {lo : Nat} {w w' : World} (h : Kz lo isN w w') : Kz lo isU8 w w' := h.weak fun _ => .inl

/-- Messages that were drawn, in a row of cells. -/
def DM (lo : Nat) (w : World) (ql : List Qd) (l : List Msg) : Prop := ql.length = l.length ∧ ∀ j, j < l.length → ∃ s, nthQ ql j = msQ (nthM l j) s ∧ D0 lo w s (nthM l j).b ∧ (nthM l j).b.length ≤ 600
theorem DM.nil (lo : Nat) (w : World) : DM lo w [] [] := ⟨rfl, fun j hj => absurd hj (Nat.not_lt_zero _)⟩
theorem DM.snoc {lo : Nat} {w : World} {ql : List Qd} {l : List Msg} (h : DM lo w ql l) (m : Msg) (s : SlQ) (hd : D0 lo w s m.b) (hn : m.b.length ≤ 600) : DM lo w (ql ++ [msQ m s]) (l ++ [m]) := by
  refine ⟨by rw [List.length_append, List.length_append, h.1]; rfl, fun j hj => ?_⟩
  rw [List.length_append, List.length_singleton] at hj
  by_cases hjl : j < l.length
  · have e1 : nthQ (ql ++ [msQ m s]) j = nthQ ql j := by unfold nthQ; rw [List.getD_eq_getElem?_getD, List.getD_eq_getElem?_getD, List.getElem?_append_left (by rw [h.1]; exact hjl)]
    have e2 : nthM (l ++ [m]) j = nthM l j := by unfold nthM; rw [List.getD_eq_getElem?_getD, List.getD_eq_getElem?_getD, List.getElem?_append_left hjl]
    rw [e1, e2]; exact h.2 j hjl
  · obtain rfl : j = l.length := by omega
    have e1 : nthQ (ql ++ [msQ m s]) l.length = msQ m s := by unfold nthQ; rw [← h.1, List.getD_eq_getElem?_getD, List.getElem?_append_right (Nat.le_refl _)]; simp
    have e2 : nthM (l ++ [m]) l.length = m := by unfold nthM; rw [List.getD_eq_getElem?_getD, List.getElem?_append_right (Nat.le_refl _)]; simp
    rw [e1, e2]; exact ⟨s, rfl, hd, hn⟩
/-- A SLICE OF MESSAGES THAT WERE DRAWN: it lies at the beginning of a block from lo on. -/
def DR (lo : Nat) (w : World) (s : SlQ) (l : List Msg) : Prop := l.length = s.2.1 ∧ s.2.1 ≤ s.2.2 ∧ s.2.2 ≤ maxLen ∧ (∀ x, s.1 = some x → lo ≤ x.block) ∧ (l = [] ∨ ∃ g, s.1 = some ⟨g, 0, none⟩ ∧ g < w.heap.size ∧ ∀ i, i < l.length → ∃ q, (w.cell? ⟨g, i * 4, none⟩ = some (.int .i64 (nthM l i).u) ∧ w.cell? ⟨g, i * 4 + 1, none⟩ = some (.int .i64 (nthM l i).f) ∧ w.cell? ⟨g, i * 4 + 2, none⟩ = some (.int .i64 (nthM l i).d) ∧ w.cell? ⟨g, i * 4 + 3, none⟩ = some (slW q)) ∧ D0 lo w q (nthM l i).b ∧ (nthM l i).b.length ≤ 600)
theorem DR.low {lo lo' : Nat} {w : World} {s : SlQ} {l : List Msg} (h : DR lo w s l) (hl : lo' ≤ lo) : DR lo' w s l := by
  obtain ⟨h1, h2, h3, h4, h5⟩ := h
  refine ⟨h1, h2, h3, fun x hx => Nat.le_trans hl (h4 x hx), ?_⟩
  rcases h5 with h5 | ⟨g, e, hg, hc⟩
  · exact .inl h5
  · refine .inr ⟨g, e, hg, fun i hi => ?_⟩
    obtain ⟨q, hq, hd, hn⟩ := hc i hi
    exact ⟨q, hq, hd.low hl, hn⟩
end Go.Proofs.YtdcgihcjiiemdaaDoor

namespace Go.Proofs.YtdcgihcjiiemdaaDoor
open Go.RowKit
theorem DM.low {lo lo' : Nat} {w : World} {ql : List Qd} {l : List Msg} (h : DM lo w ql l) (hl : lo' ≤ lo) : DM lo' w ql l := ⟨h.1, fun j hj => by obtain ⟨s, e, hd, hn⟩ := h.2 j hj; exact ⟨s, e, hd.low hl, hn⟩⟩
end Go.Proofs.YtdcgihcjiiemdaaDoor

namespace Go.Proofs.YtdcgihcjiiemdaaDoor
open Go.RowKit
set_option linter.unusedVariables false

/-- Two cells of a block that may be written. -/
def Df (w : World) (g : Nat) (q : Value × Value) : Prop := (w.cell? ⟨g, 0, none⟩ = some q.1 ∧ w.cell? ⟨g, 1, none⟩ = some q.2) ∧ w.frozen? ⟨g, 0, none⟩ = false ∧ w.frozen? ⟨g, 1, none⟩ = false
theorem Df.lt {w : World} {g : Nat} {q : Value × Value} (h : Df w g q) : g < w.heap.size := World.block_lt_of_cell? w ⟨g, 0, none⟩ h.1.1
theorem Df.new (w : World) (c0 c1 : Value) (t : TypeId) : Df (w.alloc (.cells #[c0, c1] t)) w.heap.size (c0, c1) := ⟨⟨by simp, by simp⟩, by simp, by simp⟩
theorem Df.block {w w' : World} {g : Nat} {q : Value × Value} (h : Df w g q) (hb : w'.heap[g]? = w.heap[g]?) : Df w' g q := by
  obtain ⟨⟨h0, h1⟩, f0, f1⟩ := h
  exact ⟨⟨(World.cell?_of_block hb).trans h0, (World.cell?_of_block hb).trans h1⟩, (World.frozen?_of_block hb).trans f0, (World.frozen?_of_block hb).trans f1⟩
theorem Df.below {C : Nat} {w w' : World} {g : Nat} {q : Value × Value} (h : Df w g q) (hb : Below C w w') (hg : g < C) : Df w' g q := h.block (hb.block g hg)
theorem Df.grown {w w' : World} {g : Nat} {q : Value × Value} {r : Option Nat} (h : Df w g q) (hb : w.grownBy w' r) (hg : some g ≠ r) : Df w' g q := h.block (hb.block g h.lt hg)
theorem Df.far {w : World} {g : Nat} {q : Value × Value} (h : Df w g q) (k j : Nat) (v : Value) (hk : k ≠ g) : Df (w.setCell ⟨k, j, none⟩ v) g q := by
  obtain ⟨⟨h0, h1⟩, f0, f1⟩ := h
  exact ⟨⟨(World.cell?_setCell_other _ _ _ _ (fun e => by cases e; exact hk rfl)).trans h0, (World.cell?_setCell_other _ _ _ _ (fun e => by cases e; exact hk rfl)).trans h1⟩, by simpa using f0, by simpa using f1⟩

/-- Mailboxes that were drawn, in a row of cells. -/
def DX (lo : Nat) (w : World) (ql : List Qd) (l : List Bx) : Prop := ql.length = l.length ∧ ∀ j, j < l.length → ∃ s, nthQ ql j = bxQ (nthX l j) s ∧ DR lo w s (nthX l j).m ∧ (nthX l j).n.size ≤ 100 ∧ (nthX l j).m.length ≤ 7
theorem DX.nil (lo : Nat) (w : World) : DX lo w [] [] := ⟨rfl, fun j hj => absurd hj (Nat.not_lt_zero _)⟩
theorem DX.snoc {lo : Nat} {w : World} {ql : List Qd} {l : List Bx} (h : DX lo w ql l) (m : Bx) (s : SlQ) (hd : DR lo w s m.m) (hn : m.n.size ≤ 100 ∧ m.m.length ≤ 7) : DX lo w (ql ++ [bxQ m s]) (l ++ [m]) := by
  refine ⟨by rw [List.length_append, List.length_append, h.1]; rfl, fun j hj => ?_⟩
  rw [List.length_append, List.length_singleton] at hj
  by_cases hjl : j < l.length
  · have e1 : nthQ (ql ++ [bxQ m s]) j = nthQ ql j := by unfold nthQ; rw [List.getD_eq_getElem?_getD, List.getD_eq_getElem?_getD, List.getElem?_append_left (by rw [h.1]; exact hjl)]
    have e2 : nthX (l ++ [m]) j = nthX l j := by unfold nthX; rw [List.getD_eq_getElem?_getD, List.getD_eq_getElem?_getD, List.getElem?_append_left hjl]
    rw [e1, e2]; exact h.2 j hjl
  · obtain rfl : j = l.length := by omega
    have e1 : nthQ (ql ++ [bxQ m s]) l.length = bxQ m s := by unfold nthQ; rw [← h.1, List.getD_eq_getElem?_getD, List.getElem?_append_right (Nat.le_refl _)]; simp
    have e2 : nthX (l ++ [m]) l.length = m := by unfold nthX; rw [List.getD_eq_getElem?_getD, List.getElem?_append_right (Nat.le_refl _)]; simp
    rw [e1, e2]; exact ⟨s, rfl, hd, hn⟩
/-- A SLICE OF MAILBOXES THAT WERE DRAWN. -/
def DS (lo : Nat) (w : World) (s : SlQ) (l : List Bx) : Prop := IsXs lo w s l ∧ ∀ j, j < l.length → FtX (nthX l j)
theorem DX.low {lo lo' : Nat} {w : World} {ql : List Qd} {l : List Bx} (h : DX lo w ql l) (hl : lo' ≤ lo) : DX lo' w ql l := ⟨h.1, fun j hj => by obtain ⟨s, e, hd, hn⟩ := h.2 j hj; exact ⟨s, e, hd.low hl, hn⟩⟩
end Go.Proofs.YtdcgihcjiiemdaaDoor

namespace Go.Proofs.YtdcgihcjiiemdaaDoor
open Go.RowKit
set_option linter.unusedVariables false

end Go.Proofs.YtdcgihcjiiemdaaDoor

namespace Go.Proofs.YtdcgihcjiiemdaaDoor
open Go.RowKit
set_option linter.unusedVariables false

theorem DS.near {lo : Nat} {w w' : World} {s : SlQ} {l : List Bx} (h : DS lo w s l) (hn : Near lo w w') : DS lo w' s l := ⟨h.1.near hn, h.2⟩
theorem DS.low {lo lo' : Nat} {w : World} {s : SlQ} {l : List Bx} (h : DS lo w s l) (hl : lo' ≤ lo) : DS lo' w s l := ⟨h.1.low hl, h.2⟩
theorem Kb.near {b lo : Nat} {w w' : World} (h : Kb b w w') (hb : b < lo) : Near lo w w' := ⟨h.size, fun p hp hlt => World.cell?_of_block (h.block p.block hlt (fun e => by injection e with e; omega))⟩

end Go.Proofs.YtdcgihcjiiemdaaDoor
