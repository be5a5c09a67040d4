/- What is built of parts, as plain lists; no program in it · What the model builds of parts; no conditions beyond those that each fact names · The draw of a message of several parts; no conditions beyond those that each fact names · Messages: their size, a copy, whether two are the same, and their fault, on both sides; no conditions beyond those that each fact names · Messages: the laws' helpers: a message's size, a copy, whether two are the same; no conditions beyond those that each fact names · The draws of messages; no conditions beyond those that each fact names · A step of a region that draws its order: what is plain of it is found by itself; no conditions beyond those that each fact names · The laws' helpers over slices of messages: their size, a copy, whether two are the same; no conditions beyond those that each fact names · Mailboxes: the laws' helpers: a mailbox's size, a copy, whether two are the same; no conditions beyond those that each fact names · The laws' helpers over slices of mailboxes: their size, a copy, whether two are the same; no conditions beyond those that each fact names. -/
import Derived.Test.YtdcgihcjiiemdaaDoorGrxToDrk
import Derived.Test.YtdcgihcjiiemdaaDoorKzzToMemB
import Derived.Test.YtdcgihcjiiemdaaDoorMemFToEwp
import Derived.Test.YtdcgihcjiiemdaaDoorLef
import Derived.Test.YtdcgihcjiiemdaaDoorMqr
import Derived.Test.YtdcgihcjiiemdaaDoorMathToEncB2
import Derived.Deep.RegionHeld3
import Derived.Test.YtdcgihcjiiemdaaDoorProg
import Derived.OrdersHeld
import Derived.WalkKit
namespace Go.Proofs.YtdcgihcjiiemdaaDoor
open Go.RowKit

/-- All of some bodies are bytes, none of more than so many. -/
def FitB (ls : List (List Nat)) : Prop := ∀ k, k < ls.length → IsB (ls.getD k []) ∧ (ls.getD k []).length ≤ 1048576
end Go.Proofs.YtdcgihcjiiemdaaDoor

namespace Go.Proofs.YtdcgihcjiiemdaaDoor
open Go.RowKit

end Go.Proofs.YtdcgihcjiiemdaaDoor

namespace Go.Proofs.YtdcgihcjiiemdaaDoor
open Go.RowKit
set_option linter.unusedVariables false

theorem OwnL.kb {w w' : World} {B b : Nat} {v : Value} {l : List SlP} (h : OwnL w B v l) (hk : Kb b w w') (hb : b < B) : OwnL w' B v l := by
  refine World.ownsRow.kept h hk ?_
  cases hv : v.ownBlock with
  | none => exact .inl rfl
  | some k => right; intro e; have := (h.lt k hv).1; simp at e; omega

/-- Slices of bytes that were drawn. -/
def DLs (lo : Nat) (w : World) (l : List SlP) (ls : List (List Nat)) : Prop := l.length = ls.length ∧ ∀ i, i < l.length → D0 lo w (nthL l i) (ls.getD i []) ∧ (ls.getD i []).length ≤ 600
theorem DLs.rd {lo : Nat} {w : World} {l : List SlP} {ls : List (List Nat)} (h : DLs lo w l ls) : RdLs w l ls ∧ FitB ls := by
  refine ⟨⟨h.1, fun i hi => ⟨(h.2 i hi).1.1.symm, (h.2 i hi).1.2.1, (h.2 i hi).1.sl.2.2.2.2.1⟩⟩, fun k hk => ?_⟩
  have := h.2 k (by rw [h.1]; exact hk)
  exact ⟨this.1.2.2.2.1, by omega⟩
theorem DLs.snoc {lo : Nat} {w : World} {l : List SlP} {ls : List (List Nat)} (h : DLs lo w l ls) (s : SlQ) (x : List Nat) (hd : D0 lo w s x) (hx : x.length ≤ 600) : DLs lo w (l ++ [s]) (ls ++ [x]) := by
  refine ⟨by rw [List.length_append, List.length_append, h.1]; rfl, fun i hi => ?_⟩
  rw [List.length_append, List.length_singleton] at hi
  by_cases hil : i < l.length
  · have e1 : nthL (l ++ [s]) i = nthL l i := by unfold nthL; rw [List.getD_eq_getElem?_getD, List.getD_eq_getElem?_getD, List.getElem?_append_left hil]
    have e2 : (ls ++ [x]).getD i [] = ls.getD i [] := by rw [List.getD_eq_getElem?_getD, List.getD_eq_getElem?_getD, List.getElem?_append_left (by rw [← h.1]; exact hil)]
    rw [e1, e2]; exact h.2 i hil
  · obtain rfl : i = l.length := by omega
    have e1 : nthL (l ++ [s]) l.length = s := by unfold nthL; rw [List.getD_eq_getElem?_getD, List.getElem?_append_right (Nat.le_refl _)]; simp
    have e2 : (ls ++ [x]).getD l.length [] = x := by rw [h.1, List.getD_eq_getElem?_getD, List.getElem?_append_right (Nat.le_refl _)]; simp
    rw [e1, e2]; exact ⟨hd, hx⟩

end Go.Proofs.YtdcgihcjiiemdaaDoor

namespace Go.Proofs.YtdcgihcjiiemdaaDoor
open Go.RowKit

/-- Between two numbers. -/
def bt (c a b : Int) : Bool := decide (a ≤ c ∧ c ≤ b)
theorem l1In_bt (c a b : Int) (w : World) : Calls Tryd.prog 57 #[.int .i64 c, .int .i64 a, .int .i64 b] w fun e w' => e = .returned (.bool (bt c a b)) ∧ w = w' := by
  by_cases h1 : a ≤ c
  · by_cases h2 : c ≤ b
    · have H : Hid (bt c a b = true) := by show bt c a b = true; simp [bt, h1, h2]
      go_enter Tryd.func57, Tryd.ntmps57
      go_wp2
      go_ret
      exact ⟨by rw [H.out]; rfl, rfl⟩
    · have H : Hid (bt c a b = false) := by show bt c a b = false; simp [bt, h2]
      go_enter Tryd.func57, Tryd.ntmps57
      go_wp2
      go_ret
      exact ⟨by rw [H.out]; rfl, rfl⟩
  · have H : Hid (bt c a b = false) := by show bt c a b = false; simp [bt, h1]
    go_enter Tryd.func57, Tryd.ntmps57
    go_wp2
    go_ret
    exact ⟨by rw [H.out]; rfl, rfl⟩
theorem isBetween_bt (c a b : Int) (w : World) : Calls Tryd.prog 58 #[.int .i64 c, .int .i64 a, .int .i64 b] w fun e w' => e = .returned (.bool (bt c a b)) ∧ w = w' := by
  by_cases h1 : a ≤ c
  · by_cases h2 : c ≤ b
    · have H : Hid (bt c a b = true) := by show bt c a b = true; simp [bt, h1, h2]
      go_enter Tryd.func58, Tryd.ntmps58
      go_wp2
      go_ret
      exact ⟨by rw [H.out]; rfl, rfl⟩
    · have H : Hid (bt c a b = false) := by show bt c a b = false; simp [bt, h2]
      go_enter Tryd.func58, Tryd.ntmps58
      go_wp2
      go_ret
      exact ⟨by rw [H.out]; rfl, rfl⟩
  · have H : Hid (bt c a b = false) := by show bt c a b = false; simp [bt, h1]
    go_enter Tryd.func58, Tryd.ntmps58
    go_wp2
    go_ret
    exact ⟨by rw [H.out]; rfl, rfl⟩
theorem areFlags_bt (c : Int) (w : World) : Calls Tryd.prog 75 #[.int .i64 c] w fun e w' => e = .returned (.bool (bt c 0 15)) ∧ w = w' := by
  have HC := isBetween_bt c 0 15
  generalize bt c 0 15 = r at *
  go_enter Tryd.func75, Tryd.ntmps75
  go_wp2_with (first | (go_at_call 58; refine (HC _).mono ?_; rintro e w' ⟨rfl, rfl⟩))
  go_ret
  exact ⟨rfl, rfl⟩

end Go.Proofs.YtdcgihcjiiemdaaDoor

namespace Go.Proofs.YtdcgihcjiiemdaaDoor
open Go.RowKit

/-- Four cells of a block. -/
def Qc (w : World) (g : Nat) (q : Qd) : Prop := w.cell? ⟨g, 0, none⟩ = some q.1 ∧ w.cell? ⟨g, 1, none⟩ = some q.2.1 ∧ w.cell? ⟨g, 2, none⟩ = some q.2.2.1 ∧ w.cell? ⟨g, 3, none⟩ = some q.2.2.2
theorem Qc.below {C : Nat} {w w' : World} {g : Nat} {q : Qd} (h : Qc w g q) (hb : Below C w w') (hg : g < C) : Qc w' g q :=
  ⟨(hb.cell (p := ⟨g, 0, none⟩) hg).trans h.1, (hb.cell (p := ⟨g, 1, none⟩) hg).trans h.2.1, (hb.cell (p := ⟨g, 2, none⟩) hg).trans h.2.2.1, (hb.cell (p := ⟨g, 3, none⟩) hg).trans h.2.2.2⟩
theorem Qc.new (w : World) (c0 c1 c2 c3 : Value) (t : TypeId) : Qc (w.alloc (.cells #[c0, c1, c2, c3] t)) w.heap.size (c0, c1, c2, c3) := ⟨by simp, by simp, by simp, by simp⟩
theorem Qc.lt {w : World} {g : Nat} {q : Qd} (h : Qc w g q) : g < w.heap.size := World.block_lt_of_cell? w ⟨g, 0, none⟩ h.1

/-- What the laws let through. -/
def FtM (m : Msg) : Prop := m.b.length ≤ 1048576
end Go.Proofs.YtdcgihcjiiemdaaDoor

namespace Go.Proofs.YtdcgihcjiiemdaaDoor
open Go.RowKit
set_option linter.unusedVariables false

end Go.Proofs.YtdcgihcjiiemdaaDoor

namespace Go.Proofs.YtdcgihcjiiemdaaDoor
open Go.RowKit

/-- An operation that reads is taken. -/
theorem tk {P : Program} {md : _} {ops : Array Oper} {Q : Exit → Act → World → Prop} {S : World → Prop} {i : Nat} {oi : Oper} {v : Value} {fuel : Nat} {listed : Array Bool} {a : Act} {w : World} (hi : ops[i]? = some oi)
    (hy : YieldsIf P ops S oi v a) (h : wpAnyH P md ops Q S fuel (listed.setIfInBounds i true) (a.put oi.dst v) w)
    (hs : Region.noSelect ops = true := by kernel_rfl) (hf : Region.free md ops listed i = true := by kernel_rfl) (hr : (Region.ready md ops listed).contains i = true := by kernel_rfl)
    (hQ : ∀ c a w, Q (.panic c) (a.put oi.dst v) w → Q (.panic c) a w := by exact fun _ _ _ h => h) (hS : S w := by assumption) : wpAnyH P md ops Q S (fuel + 1) listed a w :=
  wpAnyH_take hi hs hf hr hQ hy hS h
theorem J1 {α : Type} {l : List α} {i : Nat} (h : i < l.toArray.size) : l.toArray[i] = l[i]'h := rfl
theorem J2 {α : Type} {a : α} {l : List α} (h : 0 < (a :: l).length) : (a :: l)[0]'h = a := rfl
theorem J3 {α : Type} {a : α} {l : List α} {i : Nat} (h : i + 1 < (a :: l).length) : (a :: l)[i + 1]'h = l[i]'(Nat.lt_of_succ_lt_succ h) := rfl
theorem J4 {α : Type} {l : List α} {i : Nat} {a : α} : l.toArray.setIfInBounds i a = (l.set i a).toArray := List.setIfInBounds_toArray ..
theorem J5 {α : Type} {a b : α} {l : List α} : (a :: l).set 0 b = b :: l := rfl
theorem J6 {α : Type} {a b : α} {l : List α} {n : Nat} : (a :: l).set (n + 1) b = a :: l.set n b := rfl
end Go.Proofs.YtdcgihcjiiemdaaDoor

namespace Go.Proofs.YtdcgihcjiiemdaaDoor
open Go.RowKit List

/-- What the laws let through. -/
def FtMs (l : List Msg) : Prop := l.length ≤ 1048576 ∧ ∀ i, i < l.length → FtM (nthM l i)

end Go.Proofs.YtdcgihcjiiemdaaDoor

namespace Go.Proofs.YtdcgihcjiiemdaaDoor
open Go.RowKit

/-- What the laws let through. -/
def FtX (m : Bx) : Prop := m.n.size ≤ 1048576 ∧ FtMs m.m
end Go.Proofs.YtdcgihcjiiemdaaDoor

namespace Go.Proofs.YtdcgihcjiiemdaaDoor
open Go.RowKit List

end Go.Proofs.YtdcgihcjiiemdaaDoor
