/- The state of the draw of an op; no conditions beyond those that each fact names · Ops: the laws' helpers: an op's size, a copy, whether two are the same; no conditions beyond those that each fact names. -/
import Derived.Test.YtdcgihcjiiemdaaDoorDrlToGrw
import Derived.Test.YtdcgihcjiiemdaaDoorLef
import Derived.Test.YtdcgihcjiiemdaaDoorOpo
import Derived.Test.YtdcgihcjiiemdaaDoorBmbToDr12
import Derived.Test.YtdcgihcjiiemdaaDoorDecQToDrl4
import Derived.Test.YtdcgihcjiiemdaaDoorJpl
import Derived.Test.YtdcgihcjiiemdaaDoorDrw2ToAppI
namespace Go.Proofs.YtdcgihcjiiemdaaDoor
open Go.RowKit
theorem Qo.kbX {w w' : World} {b g : Nat} {q : Oc} (h : Qo w g q) (hk : Kb b w w') (hg : g ≠ b) : Qo w' g q := by
 have hlt := h.lt
 have e1 : ∀ i, w'.cell? ⟨g, i, none⟩ = w.cell? ⟨g, i, none⟩ := fun i => World.grownBy.cell_far hk ⟨g, i, none⟩ hlt (fun e => by injection e with e; exact hg e)
 obtain ⟨h0, h1, h2, h3, h4, h5, h6, h7⟩ := h
 exact ⟨(e1 0).trans h0, (e1 1).trans h1, (e1 2).trans h2, (e1 3).trans h3, (e1 4).trans h4, (e1 5).trans h5, (e1 6).trans h6, (e1 7).trans h7⟩
theorem Fo.kbX {w w' : World} {b g : Nat} (h : Fo w g) (hk : Kb b w w') (hlt : g < w.heap.size) (hg : g ≠ b) : Fo w' g := by
 have e2 : ∀ i, w'.frozen? ⟨g, i, none⟩ = w.frozen? ⟨g, i, none⟩ := fun i => World.grownBy.frozen_far hk ⟨g, i, none⟩ hlt (fun e => by injection e with e; exact hg e)
 obtain ⟨h0, h1, h2, h3, h4, h5, h6, h7⟩ := h
 exact ⟨(e2 0).trans h0, (e2 1).trans h1, (e2 2).trans h2, (e2 3).trans h3, (e2 4).trans h4, (e2 5).trans h5, (e2 6).trans h6, (e2 7).trans h7⟩
def opZc : Oc := ⟨.int .i64 0, .string ⟨#[]⟩, .string ⟨#[]⟩, .slice none 0 0, .int .i64 0, .int .i64 0, .int .i64 0, .slice none 0 0⟩
structure OpT (B b M R : Nat) (w W : World) (q : Oc) (p : SlO) (u : List Int) (d : List Nat) : Prop where
 s : Qo W w.heap.size opZc
 sf : Fo W w.heap.size
 src : Src W B b M
 kb : Kb b w W
 o : Qo W R q
 of : Fo W R
 lo : w.heap.size < R
 hi : R < W.heap.size
 nu : IsIl (R + 1) W p.1 u
 by_ : IsSl (R + 1) W p.2 d
theorem OpT.step {B b M M' R : Nat} {w W W' : World} {q : Oc} {p : SlO} {u : List Int} {d : List Nat} (h : OpT B b M R w W q p u d) (hb : b < w.heap.size) (hk : Kb b W W') (hs : Src W' B b M') : OpT B b M' R w W' q p u d where
 s := h.s.kbX hk (by omega)
 sf := h.sf.kbX hk h.s.lt (by omega)
 src := hs
 kb := h.kb.trans hk
 o := h.o.kbX hk (by have := h.lo; omega)
 of := h.of.kbX hk h.hi (by have := h.lo; omega)
 lo := h.lo
 hi := Nat.lt_of_lt_of_le h.hi hk.size
 nu := h.nu.near (hk.near (by have := h.lo; omega))
 by_ := h.by_.near (hk.near (by have := h.lo; omega))
theorem OpT.alloc {B b M R : Nat} {w W : World} {q : Oc} {p : SlO} {u : List Int} {d : List Nat} (h : OpT B b M R w W q p u d) (hb : b < w.heap.size) (o : Obj) : OpT B b M R w (W.alloc o) q p u d :=
 have hB : Below W.heap.size W (W.alloc o) := (Below.refl _ _).alloc (Nat.le_refl _) o
 h.step hb ((Kb.refl b W).below hB) (h.src.below (hB.mono h.src.2.1))
theorem OpT.put {B b M R j : Nat} {v : Value} {w W : World} {q q' : Oc} {p : SlO} {u : List Int} {d : List Nat} (h : OpT B b M R w W q p u d) (hb : b < w.heap.size) (hq : Qo (W.setCell ⟨R, j, none⟩ v) R q') : OpT B b M R w (W.setCell ⟨R, j, none⟩ v) q' p u d :=
 have hlo := h.lo
 have hB : Below R W (W.setCell ⟨R, j, none⟩ v) := (Below.refl _ _).setCell (by simp) _
 have hN : Near (R + 1) W (W.setCell ⟨R, j, none⟩ v) := ⟨by simp, fun p hp _ => World.cell?_setCell_other _ _ _ _ (fun e => by subst e; simp at hp; omega)⟩
 { s := h.s.below hB hlo, sf := h.sf.set _ _, src := h.src.below (hB.mono (by omega)), kb := h.kb.below' (hB.mono (by omega)), o := hq, of := h.of.set _ _, lo := hlo, hi := by simpa using h.hi, nu := h.nu.near hN, by_ := h.by_.near hN }
theorem OpT.uids {B b M R : Nat} {w W : World} {q : Oc} {p : SlO} {u u' : List Int} {d : List Nat} {a : SlQ} (h : OpT B b M R w W q p u d) (hu : IsIl (R + 1) W a u') : OpT B b M R w W q (a, p.2) u' d := { h with nu := hu }
theorem OpT.data {B b M R : Nat} {w W : World} {q : Oc} {p : SlO} {u : List Int} {d d' : List Nat} {a : SlQ} (h : OpT B b M R w W q p u d) (hd : IsSl (R + 1) W a d') : OpT B b M R w W q (p.1, a) u d' := { h with by_ := hd }
theorem OpT.more {B b M M' R : Nat} {w W : World} {q : Oc} {p : SlO} {u : List Int} {d : List Nat} (h : OpT B b M R w W q p u d) (hM : M ≤ M') : OpT B b M' R w W q p u d := { h with src := h.src.more hM }
def slot8 (W : World) (S : Nat) (q : Oc) : World := (((((((W.setCell ⟨S, 0, none⟩ q.c0).setCell ⟨S, 1, none⟩ q.c1).setCell ⟨S, 2, none⟩ q.c2).setCell ⟨S, 3, none⟩ q.c3).setCell ⟨S, 4, none⟩ q.c4).setCell ⟨S, 5, none⟩ q.c5).setCell ⟨S, 6, none⟩ q.c6).setCell ⟨S, 7, none⟩ q.c7
theorem OwnI.ilD {w : World} {B n c : Nat} {a : Option Addr} {l : List Int} (h : OwnI w B (.slice a n c) l) : IsIl B w (a, n, c) l := by
 obtain ⟨a', c', e, h1, h2⟩ := h.form
 injection e with e1 e2 e3
 subst e1 e2 e3
 exact ⟨rfl, h1, h2, h.rd.2, fun x hx => by
  have hx : a = some x := hx
  subst hx
  exact (h.lt x.block rfl).1⟩
def OpEnd (B b M : Nat) (w : World) (e : Ending) (w' : World) : Prop := ∃ (o : OpR) (p : SlO), e = .returned (opX o p) ∧ IsOp (w.heap.size + 1) w' p o ∧ o.x.size ≤ 100 ∧ o.t.size ≤ 100 ∧ o.u.length ≤ 7 ∧ o.b.length ≤ 600 ∧ Src w' B b M ∧ Kb b w w'
def OpEnk (B b M : Nat) (w : World) (e : Ending) (w' : World) : Prop := ∃ (o : OpR) (p : SlO), e = .returned (opX o p) ∧ IsOp (w.heap.size + 1) w' p o ∧ OkJ o ∧ Src w' B b M ∧ Kb b w w'
theorem OkJ.lim {o : OpR} (h : OkJ o) : o.x.size ≤ 100 ∧ o.t.size ≤ 100 ∧ o.u.length ≤ 7 ∧ o.b.length ≤ 600 := by
 have := h.x; have := h.t; have := h.u; have := h.b
 omega
theorem OpT.fink {B b M R : Nat} {w W : World} {o : OpR} {p : SlO} (h : OpT B b M R w W (opQ o p) p o.u o.b) (hb : b < w.heap.size) (hk : OkJ o) :
  Qo (slot8 W w.heap.size (opQ o p)) w.heap.size (opQ o p) ∧ OpEnk B b M w (.returned (opX o p)) (slot8 W w.heap.size (opQ o p)) := by
 have hB : Below w.heap.size W (slot8 W w.heap.size (opQ o p)) := ((((((((Below.refl _ _).setCell (by simp) _).setCell (by simp) _).setCell (by simp) _).setCell (by simp) _).setCell (by simp) _).setCell (by simp) _).setCell (by simp) _).setCell (by simp) _
 have hN : Near (w.heap.size + 1) W (slot8 W w.heap.size (opQ o p)) := by
  unfold slot8
  refine ⟨by simp, fun a ha _ => ?_⟩
  have hne : ∀ j, (⟨w.heap.size, j, none⟩ : Addr) ≠ a := fun j e => by subst e; simp at ha; omega
  simp only [World.cell?_setCell_other _ _ _ _ (hne _)]
 have hlo := h.lo
 refine ⟨(((((((h.s.put0 _).put1 _).put2 _).put3 _).put4 _).put5 _).put6 _).put7 _, o, p, rfl, ⟨(h.nu.low (by omega)).near hN, (h.by_.low (by omega)).near hN⟩, hk, h.src.below (hB.mono hb), h.kb.below' hB⟩
theorem zO3 : (0 : Int) ≤ 0 ∧ (0 : Int) ≤ 3 := by decide
theorem zO15 : (0 : Int) ≤ 0 ∧ (0 : Int) ≤ 15 := by decide
theorem zO9 : (0 : Int) ≤ 0 ∧ (0 : Int) ≤ 9999 := by decide
theorem kO4 : (1 : Int) ≤ 4 ∧ (4 : Int) ≤ 7 := by decide
theorem kO3 : (1 : Int) ≤ 3 ∧ (3 : Int) ≤ 7 := by decide
theorem kindR {r : Int} (h : r ∈ [1, 2, 3, 3, 3, 4, 4, 5, 6, (7 : Int)]) : 1 ≤ r ∧ r ≤ 7 := by
 simp only [List.mem_cons, List.not_mem_nil, or_false] at h
 omega
theorem row_wordK {K : Nat} {w : World} {cs : Array Value} {t : TypeId} {ss : List ByteArray} (h : cs.toList = ss.map Value.string) (hs : ∀ s ∈ ss, s.size ≤ K) (j : Nat) (hj : j < ss.length) :
  ∃ l : List Nat, (w.alloc (.cells cs t)).cell? ⟨w.heap.size, j, none⟩ = some (.string (str l)) ∧ IsB l ∧ l.length ≤ K := by
 obtain ⟨l, h1, h2⟩ := str_surj ss[j]
 refine ⟨l, ?_, h2, ?_⟩
 ·rw [World.cell?_alloc_mark, ← Array.getElem?_toList, h]
  simp [hj, h1]
 ·have := hs ss[j] (List.getElem_mem hj)
  rw [h1, str_size] at this; exact this
end Go.Proofs.YtdcgihcjiiemdaaDoor
namespace Go.Proofs.YtdcgihcjiiemdaaDoor
open Go.RowKit
def FtO (o : OpR) : Prop := o.x.size ≤ 1048576 ∧ o.t.size ≤ 1048576 ∧ o.u.length ≤ 1048576 ∧ o.b.length ≤ 1048576
end Go.Proofs.YtdcgihcjiiemdaaDoor
