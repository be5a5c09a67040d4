/- ReadOp: the program's function; the condition: the table of what each kind has lies in its variable. -/
import Derived.Test.YtdcgihcjiiemdaaDoorRjb
import Derived.Test.YtdcgihcjiiemdaaDoorPkn
import Derived.Test.YtdcgihcjiiemdaaDoorMemFToEncQ2
namespace Go.Proofs.YtdcgihcjiiemdaaDoor
open Go.RowKit
set_option linter.unusedVariables false
theorem res_block10 {w W wr : World} {c0 c1 c2 c3 c4 c5 c6 c7 c8 c9 : Value} {t : TypeId} (hW : w.alloc (.cells #[c0, c1, c2, c3, c4, c5, c6, c7, c8, c9] t) = W) (hb : Below (w.heap.size + 1) W wr) :
  (wr.cell? ⟨w.heap.size, 0, none⟩ = some c0 ∧ wr.cell? ⟨w.heap.size, 1, none⟩ = some c1 ∧ wr.cell? ⟨w.heap.size, 2, none⟩ = some c2 ∧ wr.cell? ⟨w.heap.size, 3, none⟩ = some c3 ∧ wr.cell? ⟨w.heap.size, 4, none⟩ = some c4 ∧ wr.cell? ⟨w.heap.size, 5, none⟩ = some c5 ∧ wr.cell? ⟨w.heap.size, 6, none⟩ = some c6 ∧ wr.cell? ⟨w.heap.size, 7, none⟩ = some c7 ∧ wr.cell? ⟨w.heap.size, 8, none⟩ = some c8 ∧ wr.cell? ⟨w.heap.size, 9, none⟩ = some c9) ∧ wr.frozen? ⟨w.heap.size, 0, none⟩ = false ∧ wr.frozen? ⟨w.heap.size, 1, none⟩ = false ∧ wr.frozen? ⟨w.heap.size, 2, none⟩ = false ∧ wr.frozen? ⟨w.heap.size, 3, none⟩ = false ∧ wr.frozen? ⟨w.heap.size, 4, none⟩ = false ∧ wr.frozen? ⟨w.heap.size, 5, none⟩ = false ∧ wr.frozen? ⟨w.heap.size, 6, none⟩ = false ∧ wr.frozen? ⟨w.heap.size, 7, none⟩ = false ∧ wr.frozen? ⟨w.heap.size, 8, none⟩ = false ∧ wr.frozen? ⟨w.heap.size, 9, none⟩ = false := by
 subst hW
 refine ⟨⟨?_, ?_, ?_, ?_, ?_, ?_, ?_, ?_, ?_, ?_⟩, ?_, ?_, ?_, ?_, ?_, ?_, ?_, ?_, ?_, ?_⟩
 ·rw [hb.cell (p := ⟨w.heap.size, 0, none⟩) (by simp)]; simp
 ·rw [hb.cell (p := ⟨w.heap.size, 1, none⟩) (by simp)]; simp
 ·rw [hb.cell (p := ⟨w.heap.size, 2, none⟩) (by simp)]; simp
 ·rw [hb.cell (p := ⟨w.heap.size, 3, none⟩) (by simp)]; simp
 ·rw [hb.cell (p := ⟨w.heap.size, 4, none⟩) (by simp)]; simp
 ·rw [hb.cell (p := ⟨w.heap.size, 5, none⟩) (by simp)]; simp
 ·rw [hb.cell (p := ⟨w.heap.size, 6, none⟩) (by simp)]; simp
 ·rw [hb.cell (p := ⟨w.heap.size, 7, none⟩) (by simp)]; simp
 ·rw [hb.cell (p := ⟨w.heap.size, 8, none⟩) (by simp)]; simp
 ·rw [hb.cell (p := ⟨w.heap.size, 9, none⟩) (by simp)]; simp
 ·rw [hb.frozen (p := ⟨w.heap.size, 0, none⟩) (by simp)]; simp
 ·rw [hb.frozen (p := ⟨w.heap.size, 1, none⟩) (by simp)]; simp
 ·rw [hb.frozen (p := ⟨w.heap.size, 2, none⟩) (by simp)]; simp
 ·rw [hb.frozen (p := ⟨w.heap.size, 3, none⟩) (by simp)]; simp
 ·rw [hb.frozen (p := ⟨w.heap.size, 4, none⟩) (by simp)]; simp
 ·rw [hb.frozen (p := ⟨w.heap.size, 5, none⟩) (by simp)]; simp
 ·rw [hb.frozen (p := ⟨w.heap.size, 6, none⟩) (by simp)]; simp
 ·rw [hb.frozen (p := ⟨w.heap.size, 7, none⟩) (by simp)]; simp
 ·rw [hb.frozen (p := ⟨w.heap.size, 8, none⟩) (by simp)]; simp
 ·rw [hb.frozen (p := ⟨w.heap.size, 9, none⟩) (by simp)]; simp
theorem res_cells10 {wr : World} {sz : Nat} {x0 x1 x2 x3 x4 x5 x6 x7 x8 x9 : Value} (h : wr.cell? ⟨sz, 0, none⟩ = some x0 ∧ wr.cell? ⟨sz, 1, none⟩ = some x1 ∧ wr.cell? ⟨sz, 2, none⟩ = some x2 ∧ wr.cell? ⟨sz, 3, none⟩ = some x3 ∧ wr.cell? ⟨sz, 4, none⟩ = some x4 ∧ wr.cell? ⟨sz, 5, none⟩ = some x5 ∧ wr.cell? ⟨sz, 6, none⟩ = some x6 ∧ wr.cell? ⟨sz, 7, none⟩ = some x7 ∧ wr.cell? ⟨sz, 8, none⟩ = some x8 ∧ wr.cell? ⟨sz, 9, none⟩ = some x9) (v0 v1 v2 v3 v4 v5 v6 v7 v8 v9 : Value) :
  (wr.setCell ⟨sz, 0, none⟩ v0).cell? ⟨sz, 0, none⟩ = some v0 ∧ ((wr.setCell ⟨sz, 0, none⟩ v0).setCell ⟨sz, 1, none⟩ v1).cell? ⟨sz, 1, none⟩ = some v1 ∧ (((wr.setCell ⟨sz, 0, none⟩ v0).setCell ⟨sz, 1, none⟩ v1).setCell ⟨sz, 2, none⟩ v2).cell? ⟨sz, 2, none⟩ = some v2 ∧ ((((wr.setCell ⟨sz, 0, none⟩ v0).setCell ⟨sz, 1, none⟩ v1).setCell ⟨sz, 2, none⟩ v2).setCell ⟨sz, 3, none⟩ v3).cell? ⟨sz, 3, none⟩ = some v3 ∧ (((((wr.setCell ⟨sz, 0, none⟩ v0).setCell ⟨sz, 1, none⟩ v1).setCell ⟨sz, 2, none⟩ v2).setCell ⟨sz, 3, none⟩ v3).setCell ⟨sz, 4, none⟩ v4).cell? ⟨sz, 4, none⟩ = some v4 ∧ ((((((wr.setCell ⟨sz, 0, none⟩ v0).setCell ⟨sz, 1, none⟩ v1).setCell ⟨sz, 2, none⟩ v2).setCell ⟨sz, 3, none⟩ v3).setCell ⟨sz, 4, none⟩ v4).setCell ⟨sz, 5, none⟩ v5).cell? ⟨sz, 5, none⟩ = some v5 ∧ (((((((wr.setCell ⟨sz, 0, none⟩ v0).setCell ⟨sz, 1, none⟩ v1).setCell ⟨sz, 2, none⟩ v2).setCell ⟨sz, 3, none⟩ v3).setCell ⟨sz, 4, none⟩ v4).setCell ⟨sz, 5, none⟩ v5).setCell ⟨sz, 6, none⟩ v6).cell? ⟨sz, 6, none⟩ = some v6 ∧ ((((((((wr.setCell ⟨sz, 0, none⟩ v0).setCell ⟨sz, 1, none⟩ v1).setCell ⟨sz, 2, none⟩ v2).setCell ⟨sz, 3, none⟩ v3).setCell ⟨sz, 4, none⟩ v4).setCell ⟨sz, 5, none⟩ v5).setCell ⟨sz, 6, none⟩ v6).setCell ⟨sz, 7, none⟩ v7).cell? ⟨sz, 7, none⟩ = some v7 ∧ (((((((((wr.setCell ⟨sz, 0, none⟩ v0).setCell ⟨sz, 1, none⟩ v1).setCell ⟨sz, 2, none⟩ v2).setCell ⟨sz, 3, none⟩ v3).setCell ⟨sz, 4, none⟩ v4).setCell ⟨sz, 5, none⟩ v5).setCell ⟨sz, 6, none⟩ v6).setCell ⟨sz, 7, none⟩ v7).setCell ⟨sz, 8, none⟩ v8).cell? ⟨sz, 8, none⟩ = some v8 ∧ ((((((((((wr.setCell ⟨sz, 0, none⟩ v0).setCell ⟨sz, 1, none⟩ v1).setCell ⟨sz, 2, none⟩ v2).setCell ⟨sz, 3, none⟩ v3).setCell ⟨sz, 4, none⟩ v4).setCell ⟨sz, 5, none⟩ v5).setCell ⟨sz, 6, none⟩ v6).setCell ⟨sz, 7, none⟩ v7).setCell ⟨sz, 8, none⟩ v8).setCell ⟨sz, 9, none⟩ v9).cell? ⟨sz, 9, none⟩ = some v9 := by
 obtain ⟨h0, h1, h2, h3, h4, h5, h6, h7, h8, h9⟩ := h
 have g1 : (wr.setCell ⟨sz, 0, none⟩ v0).cell? ⟨sz, 1, none⟩ = some x1 := by simp [go_sem, h1]
 have g2 : ((wr.setCell ⟨sz, 0, none⟩ v0).setCell ⟨sz, 1, none⟩ v1).cell? ⟨sz, 2, none⟩ = some x2 := by simp [go_sem, h2]
 have g3 : (((wr.setCell ⟨sz, 0, none⟩ v0).setCell ⟨sz, 1, none⟩ v1).setCell ⟨sz, 2, none⟩ v2).cell? ⟨sz, 3, none⟩ = some x3 := by simp [go_sem, h3]
 have g4 : ((((wr.setCell ⟨sz, 0, none⟩ v0).setCell ⟨sz, 1, none⟩ v1).setCell ⟨sz, 2, none⟩ v2).setCell ⟨sz, 3, none⟩ v3).cell? ⟨sz, 4, none⟩ = some x4 := by simp [go_sem, h4]
 have g5 : (((((wr.setCell ⟨sz, 0, none⟩ v0).setCell ⟨sz, 1, none⟩ v1).setCell ⟨sz, 2, none⟩ v2).setCell ⟨sz, 3, none⟩ v3).setCell ⟨sz, 4, none⟩ v4).cell? ⟨sz, 5, none⟩ = some x5 := by simp [go_sem, h5]
 have g6 : ((((((wr.setCell ⟨sz, 0, none⟩ v0).setCell ⟨sz, 1, none⟩ v1).setCell ⟨sz, 2, none⟩ v2).setCell ⟨sz, 3, none⟩ v3).setCell ⟨sz, 4, none⟩ v4).setCell ⟨sz, 5, none⟩ v5).cell? ⟨sz, 6, none⟩ = some x6 := by simp [go_sem, h6]
 have g7 : (((((((wr.setCell ⟨sz, 0, none⟩ v0).setCell ⟨sz, 1, none⟩ v1).setCell ⟨sz, 2, none⟩ v2).setCell ⟨sz, 3, none⟩ v3).setCell ⟨sz, 4, none⟩ v4).setCell ⟨sz, 5, none⟩ v5).setCell ⟨sz, 6, none⟩ v6).cell? ⟨sz, 7, none⟩ = some x7 := by simp [go_sem, h7]
 have g8 : ((((((((wr.setCell ⟨sz, 0, none⟩ v0).setCell ⟨sz, 1, none⟩ v1).setCell ⟨sz, 2, none⟩ v2).setCell ⟨sz, 3, none⟩ v3).setCell ⟨sz, 4, none⟩ v4).setCell ⟨sz, 5, none⟩ v5).setCell ⟨sz, 6, none⟩ v6).setCell ⟨sz, 7, none⟩ v7).cell? ⟨sz, 8, none⟩ = some x8 := by simp [go_sem, h8]
 have g9 : (((((((((wr.setCell ⟨sz, 0, none⟩ v0).setCell ⟨sz, 1, none⟩ v1).setCell ⟨sz, 2, none⟩ v2).setCell ⟨sz, 3, none⟩ v3).setCell ⟨sz, 4, none⟩ v4).setCell ⟨sz, 5, none⟩ v5).setCell ⟨sz, 6, none⟩ v6).setCell ⟨sz, 7, none⟩ v7).setCell ⟨sz, 8, none⟩ v8).cell? ⟨sz, 9, none⟩ = some x9 := by simp [go_sem, h9]
 exact ⟨World.cell?_setCell_same _ _ _ h0, World.cell?_setCell_same _ _ _ g1, World.cell?_setCell_same _ _ _ g2, World.cell?_setCell_same _ _ _ g3, World.cell?_setCell_same _ _ _ g4, World.cell?_setCell_same _ _ _ g5, World.cell?_setCell_same _ _ _ g6, World.cell?_setCell_same _ _ _ g7, World.cell?_setCell_same _ _ _ g8, World.cell?_setCell_same _ _ _ g9⟩
theorem or_fin {w x : World} {A lo : Nat} {p : SlO} {o : OpR} (hA : A < lo) (hw : w.heap.size ≤ A) (hb : Below w.heap.size w x) (h : IsOp lo x p o ∧ WrQ lo x p.1 ∧ WrQ lo x p.2) (v0 v1 v2 v3 v4 v5 v6 v7 v8 v9 : Value) :
  IsOp lo ((((((((((x.setCell ⟨A, 0, none⟩ v0).setCell ⟨A, 1, none⟩ v1).setCell ⟨A, 2, none⟩ v2).setCell ⟨A, 3, none⟩ v3).setCell ⟨A, 4, none⟩ v4).setCell ⟨A, 5, none⟩ v5).setCell ⟨A, 6, none⟩ v6).setCell ⟨A, 7, none⟩ v7).setCell ⟨A, 8, none⟩ v8).setCell ⟨A, 9, none⟩ v9) p o ∧ (WrQ lo ((((((((((x.setCell ⟨A, 0, none⟩ v0).setCell ⟨A, 1, none⟩ v1).setCell ⟨A, 2, none⟩ v2).setCell ⟨A, 3, none⟩ v3).setCell ⟨A, 4, none⟩ v4).setCell ⟨A, 5, none⟩ v5).setCell ⟨A, 6, none⟩ v6).setCell ⟨A, 7, none⟩ v7).setCell ⟨A, 8, none⟩ v8).setCell ⟨A, 9, none⟩ v9) p.1 ∧ WrQ lo ((((((((((x.setCell ⟨A, 0, none⟩ v0).setCell ⟨A, 1, none⟩ v1).setCell ⟨A, 2, none⟩ v2).setCell ⟨A, 3, none⟩ v3).setCell ⟨A, 4, none⟩ v4).setCell ⟨A, 5, none⟩ v5).setCell ⟨A, 6, none⟩ v6).setCell ⟨A, 7, none⟩ v7).setCell ⟨A, 8, none⟩ v8).setCell ⟨A, 9, none⟩ v9) p.2) ∧ Below w.heap.size w ((((((((((x.setCell ⟨A, 0, none⟩ v0).setCell ⟨A, 1, none⟩ v1).setCell ⟨A, 2, none⟩ v2).setCell ⟨A, 3, none⟩ v3).setCell ⟨A, 4, none⟩ v4).setCell ⟨A, 5, none⟩ v5).setCell ⟨A, 6, none⟩ v6).setCell ⟨A, 7, none⟩ v7).setCell ⟨A, 8, none⟩ v8).setCell ⟨A, 9, none⟩ v9) :=
 ⟨h.1.near ((((((((((Near.set v0 hA).trans (Near.set v1 hA)).trans (Near.set v2 hA)).trans (Near.set v3 hA)).trans (Near.set v4 hA)).trans (Near.set v5 hA)).trans (Near.set v6 hA)).trans (Near.set v7 hA)).trans (Near.set v8 hA)).trans (Near.set v9 hA)), ⟨((((((((((h.2.1).set _ _).set _ _).set _ _).set _ _).set _ _).set _ _).set _ _).set _ _).set _ _).set _ _, ((((((((((h.2.2).set _ _).set _ _).set _ _).set _ _).set _ _).set _ _).set _ _).set _ _).set _ _).set _ _⟩, ((((((((((hb).setCell hw _).setCell hw _).setCell hw _).setCell hw _).setCell hw _).setCell hw _).setCell hw _).setCell hw _).setCell hw _).setCell hw _⟩
abbrev orV (c : Int) (n : Nat) (o : OpR) (p : SlO) : Value := .agg #[.int .i64 c, .int .i64 (n : Int), .int .i64 o.k, .string o.x, .string o.t, slW p.1, .int .i64 o.m, .int .i64 o.f, .int .i64 o.d, slW p.2]
def OrEnd (r : Int × Nat × OpR) (w : World) (e : Ending) (w' : World) : Prop := ∃ p : SlO, e = .returned (orV r.1 r.2.1 r.2.2 p) ∧ IsOp w.heap.size w' p r.2.2 ∧ (WrQ w.heap.size w' p.1 ∧ WrQ w.heap.size w' p.2) ∧ (∀ x y, p.1.1 = some x → p.2.1 = some y → x.block ≠ y.block) ∧ Below w.heap.size w w'
theorem or_bad {w x : World} {A : Nat} (hw : w.heap.size ≤ A) (hb : Below w.heap.size w x) (v0 v1 v2 v3 v4 v5 v6 v7 v8 v9 : Value) : OrEnd (5, 0, opZ) w (.returned (orV 5 0 opZ ((none, 0, 0), (none, 0, 0)))) ((((((((((x.setCell ⟨A, 0, none⟩ v0).setCell ⟨A, 1, none⟩ v1).setCell ⟨A, 2, none⟩ v2).setCell ⟨A, 3, none⟩ v3).setCell ⟨A, 4, none⟩ v4).setCell ⟨A, 5, none⟩ v5).setCell ⟨A, 6, none⟩ v6).setCell ⟨A, 7, none⟩ v7).setCell ⟨A, 8, none⟩ v8).setCell ⟨A, 9, none⟩ v9) :=
 ⟨((none, 0, 0), (none, 0, 0)), rfl, ⟨⟨rfl, Nat.le_refl _, (by decide), .inl rfl, (fun x hx => (by cases hx))⟩, ⟨rfl, Nat.le_refl _, (by decide), (fun b hb => (by cases hb)), .inl rfl, (fun x hx => (by cases hx))⟩⟩, ⟨.inl rfl, .inl rfl⟩, (fun x y hx => (by cases hx)), ((((((((((hb).setCell hw _).setCell hw _).setCell hw _).setCell hw _).setCell hw _).setCell hw _).setCell hw _).setCell hw _).setCell hw _).setCell hw _⟩
theorem ofNat_beq {a b : Nat} (ha : a < 256) (hb : b < 256) : (UInt8.ofNat a == UInt8.ofNat b) = (a == b) := by
 by_cases h : a = b
 ·subst h; rw [beq_self_eq_true, beq_self_eq_true]
 ·have h1 : UInt8.ofNat a ≠ UInt8.ofNat b := fun e => h (by
   have := congrArg UInt8.toNat e
   simp at this
   omega)
  rw [beq_false_of_ne h1, beq_false_of_ne h]
theorem pre_map : ∀ (t l : List Nat), IsB t → IsB l → (t.map UInt8.ofNat).isPrefixOf (l.map UInt8.ofNat) = t.isPrefixOf l
 | [], l, _, _ => by simp [List.isPrefixOf]
 | _ :: _, [], _, _ => by simp [List.isPrefixOf]
 | a :: t, b :: l, ht, hl => by
  rw [List.map_cons, List.map_cons, List.isPrefixOf, List.isPrefixOf, ofNat_beq (ht a (by simp)) (hl b (by simp)), pre_map t l (fun x hx => ht x (by simp [hx])) (fun x hx => hl x (by simp [hx]))]
theorem bytesIn_rd {w : World} {a : Option Addr} {n : Nat} {l : List Nat} (hl : l.length = n) (hr : Rd w a l) : Lib.BytesIn w a n (l.map fun (b : Nat) => (b : Int)) := fun hn => by
 obtain ⟨b, off, e, -, hc⟩ := hr.at_ (by omega)
 refine ⟨b, off, e, fun i hi => ?_⟩
 rw [hc i (by omega)]
 have hil : i < l.length := by omega
 simp [nth, List.getD_eq_getElem?_getD, hil]
theorem hasPrefix_rd (p1 p2 : Option Addr) (n c m d : Nat) (l t : List Nat) (w : World) (hl : l.length = n) (ht : t.length = m) (hnc : n ≤ c) (h1 : Rd w p1 l) (h2 : Rd w p2 t) (b1 : IsB l) (b2 : IsB t) :
  Calls Tryd.prog 27 #[.slice p1 n c, .slice p2 m d] w fun e w' => e = .returned (.bool (t.isPrefixOf l)) ∧ w' = w := by
 have h := Tryd.bytes_HasPrefix_all p1 p2 n c m d (l.map fun (b : Nat) => (b : Int)) (t.map fun (b : Nat) => (b : Int)) w (by simpa using hl) (by simpa using ht) hnc (bytesIn_rd hl h1) (bytesIn_rd ht h2)
 have e : Lib.hasPrefix (Lib.bytesOf (l.map fun (b : Nat) => (b : Int))) (Lib.bytesOf (t.map fun (b : Nat) => (b : Int))) = t.isPrefixOf l := by
  rw [← pre_map t l b2 b1]
  simp [Lib.hasPrefix, Lib.bytesOf, List.map_map, Function.comp_def]
 rw [e] at h
 exact h
theorem rpV_eq (l : List Nat) : rpV l = if ofV (rdP l) = 0 then (if (pkO (rdP l)).isPrefixOf l = true then (0, (pkO (rdP l)).length, rdP l) else (5, 0, opZ)) else (5, 0, opZ) := by
 unfold rpV
 by_cases h : ofV (rdP l) = 0
 ·by_cases h2 : (pkO (rdP l)).isPrefixOf l = true
  ·rw [if_pos ⟨h, List.isPrefixOf_iff_prefix.1 h2⟩, if_pos h, if_pos h2]
  ·rw [if_neg (fun hh => h2 (List.isPrefixOf_iff_prefix.2 hh.2)), if_pos h, if_neg h2]
 ·rw [if_neg (fun hh => h hh.1), if_neg h]
theorem pkO_isB {o : OpR} (h : OkJ o) (hb : IsB o.b) : IsB (pkO o) := fun y hy => by
 unfold pkO at hy
 rcases List.mem_append.1 hy with hy | hy
 ·exact inB_isB h hb y hy
 ·simp only [twoB, List.mem_cons, List.mem_nil_iff, or_false] at hy
  omega
theorem nmJ_one_lt (l : List Nat) (hB : IsB l) : nmJ (l.take 1) < 65536 := nmJ_lt 2 _ (isB_take hB 1) (by rw [List.length_take]; omega) (by omega)
theorem rdP_sz (l : List Nat) (hB : IsB l) : (rdP l).x.size ≤ 1048576 ∧ (rdP l).t.size ≤ 1048576 := by
 have e1 : (rdP l).x = str (((l.drop 3).drop 1).take (nmJ ((l.drop 3).take 1))) := rfl
 have hb : IsB (((l.drop 3).drop 1).drop (nmJ ((l.drop 3).take 1))) := isB_drop (isB_drop (isB_drop hB _) _) _
 have e2 : (rdP l).t = str (((((l.drop 3).drop 1).drop (nmJ ((l.drop 3).take 1))).drop 1).take (nmJ ((((l.drop 3).drop 1).drop (nmJ ((l.drop 3).take 1))).take 1))) := rfl
 have h1 := nmJ_one_lt (l.drop 3) (isB_drop hB _)
 have h2 := nmJ_one_lt _ hb
 rw [e1, e2, str_size, str_size, List.length_take, List.length_take]
 omega
set_option maxHeartbeats 400000 in
set_option maxRecDepth 100000 in
theorem readOp_any (a : Option Addr) (n cap : Nat) (l : List Nat) (w : World) (hl : l.length = n) (hnc : n ≤ cap) (hcm : cap ≤ maxLen) (hr : Rd w a l) (hB : IsB l) (hT : TabH8 w) :
  Calls Tryd.prog 7 #[.slice a n cap] w fun e w' => OrEnd (rpV l) w e w' := by
 have HRF : Hid (∀ w', Below w.heap.size w w' → Calls Tryd.prog 26 #[.slice a n cap] w' fun e w'' => RfEnd (rdP l) w' e w'') := fun w' hb => readFrom_any a n cap l w' hl hnc hcm (hr.below hb) hB
 have HV : Hid (rpV l = if ofV (rdP l) = 0 then (if (pkO (rdP l)).isPrefixOf l = true then (0, (pkO (rdP l)).length, rdP l) else (5, 0, opZ)) else (5, 0, opZ)) := rpV_eq l
 have hsz := rdP_sz l hB
 have HPO : Hid (∀ (p : SlO) (lo : Nat) (w : World), IsOp lo w p (rdP l) → TabH8 w → Calls Tryd.prog 10 #[opX (rdP l) p] w fun e w' => PkEnd (pkV (rdP l)) w e w') := fun p lo w h1 h2 => packOp_any (rdP l) p w h1 h2 hsz.1 hsz.2
 have HPV : Hid (pkV (rdP l) = if ofV (rdP l) = 0 then (0, pkO (rdP l)) else (ofV (rdP l), [])) := rfl
 have HHP : Hid (∀ (p2 : Option Addr) (d : Nat) (w' : World), Below w.heap.size w w' → IsB (rdP l).b → ofV (rdP l) = 0 → Rd w' p2 (pkO (rdP l)) → Calls Tryd.prog 27 #[.slice a n cap, .slice p2 (pkO (rdP l)).length d] w' fun e w'' => e = .returned (.bool ((pkO (rdP l)).isPrefixOf l)) ∧ w'' = w') := fun p2 d w' hb hbb h0 h2 => hasPrefix_rd a p2 n cap _ d l _ w' hl rfl hnc (hr.below hb) h2 hB (pkO_isB (okJ h0) hbb)
 have HLE : Hid (ofV (rdP l) = 0 → (pkO (rdP l)).length ≤ 1048576) := fun h => by
  have := okJ h
  rw [pkO_len]
  have h1 := this.x; have h2 := this.t; have h3 := this.u; have h4 := this.b
  omega
 generalize rpV l = r at *
 generalize (pkO (rdP l)).isPrefixOf l = ip at *
 generalize ofV (rdP l) = c at *
 generalize pkV (rdP l) = pv at *
 generalize pkO (rdP l) = pk at *
 generalize rdP l = o at *
 obtain ⟨W, hW⟩ : ∃ W, w.alloc (.cells #[.int .i64 0, .int .i64 0, .int .i64 0, .string ⟨#[]⟩, .string ⟨#[]⟩, .slice none 0 0, .int .i64 0, .int .i64 0, .int .i64 0, .slice none 0 0] 29) = W := ⟨_, rfl⟩
 have hsW : W.heap.size = w.heap.size + 1 := by rw [← hW]; simp
 have hb0 : Below w.heap.size w W := by rw [← hW]; exact (Below.refl _ _).alloc (Nat.le_refl _) _
 have HRB : Hid (∀ wr, Below (w.heap.size + 1) W wr → _) := fun wr hb => res_block10 hW hb
 have HBW : Hid (∀ wr, Below (w.heap.size + 1) W wr → Below w.heap.size w wr) := fun wr hb => hb0.trans (hb.mono (by omega))
 have HT : Hid (∀ wr, Below (w.heap.size + 1) W wr → TabH8 wr) := fun wr hb => hT.below (hb0.trans (hb.mono (by omega)))
 have HRF' := HRF.out W hb0
 clear hl hr hB hT HRF hb0 hnc hcm
 go_enter Tryd.func7, Tryd.ntmps7
 go_wp2_with fail
 refine HRF'.mono ?_
 rintro e w1 ⟨p1, rfl, ho1, ⟨hv1, hv2⟩, hsp1, hb1⟩
 rw [hsW] at ho1 hv1 hv2 hb1
 obtain ⟨W2, hW2⟩ : ∃ W2, w1.alloc (.cells #[.int .i64 o.k, .string o.x, .string o.t, slW p1.1, .int .i64 o.m, .int .i64 o.f, .int .i64 o.d, slW p1.2] 27) = W2 := ⟨_, rfl⟩
 have b2 : Below w1.heap.size w1 W2 := by rw [← hW2]; exact (Below.refl _ _).alloc (Nat.le_refl _) _
 have hz1 : w.heap.size + 1 ≤ w1.heap.size := by have := hb1.size; omega
 have hB2 := hb1.trans (b2.mono hz1)
 have hs2 : W2.heap.size = w1.heap.size + 1 := by rw [← hW2]; simp
 have hQ2 : Qo W2 w1.heap.size (opQ o p1) := by rw [← hW2]; exact Qo.new _ _ _ _ _ _ _ _ _ _
 have HQ : Hid (∀ wr, Below W2.heap.size W2 wr → Qo wr w1.heap.size (opQ o p1) ∧ IsOp (w.heap.size + 1) wr p1 o ∧ WrQ (w.heap.size + 1) wr p1.1 ∧ WrQ (w.heap.size + 1) wr p1.2) := fun wr hb => ⟨hQ2.below hb (by omega), (ho1.below b2).below hb, (hv1.below b2).below hb, (hv2.below b2).below hb⟩
 have HBB : Hid (IsB o.b) := ho1.2.2.2.2.1
 have HPO' := HPO.out p1 _ W2 (ho1.below b2) (HT.out _ hB2)
 obtain ⟨⟨c0, c1, c2, c3, c4, c5, c6, c7⟩, -⟩ := HQ.out W2 (Below.refl _ _)
 dsimp only at c0 c1 c2 c3 c4 c5 c6 c7
 clear HRF' HPO ho1 hv1 hv2 b2 hQ2 hb1 HT
 go_wp2_with fail
 refine HPO'.mono ?_
 rintro e w3 ⟨v3, rfl, hg3, hb3⟩
 have hB3 := hB2.trans (hb3.mono (by have := hB2.size; omega))
 obtain ⟨a3, cp3, rfl, hrd3, -⟩ := hg3.wr 0
 obtain ⟨W4, hW4⟩ : ∃ W4, w3.alloc (.cells #[.int .i64 pv.1, .slice a3 pv.2.length cp3] 33) = W4 := ⟨_, rfl⟩
 have b4 : Below w3.heap.size w3 W4 := by rw [← hW4]; exact (Below.refl _ _).alloc (Nat.le_refl _) _
 have hB24 := hb3.trans (b4.mono hb3.size)
 have hB4 := hB3.trans (b4.mono (by have := hB3.size; omega))
 have k0 : W4.cell? ⟨w3.heap.size, 0, none⟩ = some (.int .i64 pv.1) := by rw [← hW4]; simp
 have k1 : W4.cell? ⟨w3.heap.size, 1, none⟩ = some (.slice a3 pv.2.length cp3) := by rw [← hW4]; simp
 have hrd4 := hrd3.below b4
 obtain ⟨⟨d0, d1, d2, d3, d4, d5, d6, d7⟩, hop, hv1, hv2⟩ := HQ.out W4 hB24
 dsimp only at d0 d1 d2 d3 d4 d5 d6 d7
 obtain ⟨hR, z0, z1, z2, z3, z4, z5, z6, z7, z8, z9⟩ := HRB.out W4 hB4
 have HBE : Hid (Below w.heap.size w W4) := HBW.out W4 hB4
 have HZE : Hid (w.heap.size < W4.heap.size) := by show _ < _; have := hB4.size; omega
 clear c0 c1 c2 c3 c4 c5 c6 c7 HPO' hg3 hrd3 b4 hB2 hB3 hb3
 by_cases hc : c = 0
 ·subst hc
  obtain rfl : pv = (0, pk) := HPV.out.trans (if_pos rfl)
  dsimp only at k0 k1 hrd4
  have HHP' := HHP.out a3 cp3 W4 HBE.out HBB.out rfl hrd4
  have hlp : pk.length ≤ 1048576 := HLE.out rfl
  cases ip with
  | true =>
   have HR : Hid (r = (0, pk.length, o)) := HV.out.trans (by simp)
   have hq := res_cells10 hR (.int .i64 0) (.int .i64 (pk.length : Int)) (.int .i64 o.k) (.string o.x) (.string o.t) (slW p1.1) (.int .i64 o.m) (.int .i64 o.f) (.int .i64 o.d) (slW p1.2)
   obtain ⟨q0, q1, q2, q3, q4, q5, q6, q7, q8, q9⟩ := hq
   obtain ⟨r0, r1, r2, r3, r4, r5, r6, r7, r8, r9⟩ := hR
   have HOP : Hid (IsOp (w.heap.size + 1) W4 p1 o ∧ WrQ (w.heap.size + 1) W4 p1.1 ∧ WrQ (w.heap.size + 1) W4 p1.2) := ⟨hop, hv1, hv2⟩
   clear HV HPV HHP HLE hop hv1 hv2
   go_wp2_with fail
   refine HHP'.mono ?_
   rintro e w5 ⟨rfl, rfl⟩
   go_wp2
   refine bodyPost_ret (v := orV 0 pk.length o p1) (by simp [results, Tryd.results7, go_sem, q0, q1, q2, q3, q4, q5, q6, q7, q8, q9]) rfl ?_
   rw [HR.out]
   have h := or_fin (A := w.heap.size) (Nat.lt_succ_self _) (Nat.le_refl _) HBE.out HOP.out (.int .i64 0) (.int .i64 (pk.length : Int)) (.int .i64 o.k) (.string o.x) (.string o.t) (slW p1.1) (.int .i64 o.m) (.int .i64 o.f) (.int .i64 o.d) (slW p1.2)
   exact ⟨p1, rfl, h.1.low (by omega), ⟨h.2.1.1.low (by omega), h.2.1.2.low (by omega)⟩, hsp1, h.2.2⟩
  | false =>
   have HR : Hid (r = (5, 0, opZ)) := HV.out.trans (by simp)
   have hq := res_cells10 hR (.int .i64 5) (.int .i64 0) (.int .i64 0) (.string ⟨#[]⟩) (.string ⟨#[]⟩) (.slice none 0 0) (.int .i64 0) (.int .i64 0) (.int .i64 0) (.slice none 0 0)
   obtain ⟨q0, q1, q2, q3, q4, q5, q6, q7, q8, q9⟩ := hq
   obtain ⟨r0, r1, r2, r3, r4, r5, r6, r7, r8, r9⟩ := hR
   clear HV HPV HHP HLE hop hv1 hv2
   go_wp2_with fail
   refine HHP'.mono ?_
   rintro e w5 ⟨rfl, rfl⟩
   go_wp2
   refine bodyPost_ret (v := .agg #[.int .i64 5, .int .i64 0, .int .i64 0, .string ⟨#[]⟩, .string ⟨#[]⟩, .slice none 0 0, .int .i64 0, .int .i64 0, .int .i64 0, .slice none 0 0]) (by simp [results, Tryd.results7, go_sem, q0, q1, q2, q3, q4, q5, q6, q7, q8, q9]) rfl ?_
   rw [HR.out]
   exact or_bad (Nat.le_refl _) HBE.out _ _ _ _ _ _ _ _ _ _
 ·have HR : Hid (r = (5, 0, opZ)) := HV.out.trans (if_neg hc)
  obtain rfl : pv = (c, []) := HPV.out.trans (if_neg hc)
  dsimp only [List.length_nil] at k0 k1 hW4
  clear hrd4
  have hq := res_cells10 hR (.int .i64 5) (.int .i64 0) (.int .i64 0) (.string ⟨#[]⟩) (.string ⟨#[]⟩) (.slice none 0 0) (.int .i64 0) (.int .i64 0) (.int .i64 0) (.slice none 0 0)
  obtain ⟨q0, q1, q2, q3, q4, q5, q6, q7, q8, q9⟩ := hq
  obtain ⟨r0, r1, r2, r3, r4, r5, r6, r7, r8, r9⟩ := hR
  clear HV HPV HHP HLE hop hv1 hv2
  go_wp2_with fail
  refine bodyPost_ret (v := .agg #[.int .i64 5, .int .i64 0, .int .i64 0, .string ⟨#[]⟩, .string ⟨#[]⟩, .slice none 0 0, .int .i64 0, .int .i64 0, .int .i64 0, .slice none 0 0]) (by simp [results, Tryd.results7, go_sem, q0, q1, q2, q3, q4, q5, q6, q7, q8, q9]) rfl ?_
  rw [HR.out]
  exact or_bad (Nat.le_refl _) HBE.out _ _ _ _ _ _ _ _ _ _
end Go.Proofs.YtdcgihcjiiemdaaDoor
