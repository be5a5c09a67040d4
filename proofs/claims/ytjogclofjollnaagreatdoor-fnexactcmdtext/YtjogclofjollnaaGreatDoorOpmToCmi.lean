/- Messages, mailboxes and stores that came in: what the row tells of them gives their cells; no program in it · Ops that came in: what the row tells of them gives their cells; no program in it · A slice of ranges that came in: what the row tells of it gives its cells; no program in it · Terms that came in: what the row tells of them gives their cells; no program in it · Commands that came in: what the row tells of them gives their cells; no program in it. -/
import Derived.Test.YtjogclofjollnaaGreatDoorMrk0ToMemI
import Derived.ChangeArms
import Derived.DataReads
import Derived.Test.YtjogclofjollnaaGreatDoorOpoToMemY
import Derived.Test.YtjogclofjollnaaGreatDoorTmo
import Derived.Test.YtjogclofjollnaaGreatDoorCmo
namespace Go.Proofs.YtjogclofjollnaaGreatDoor
open Go.RowKit Go.ChangeShapes
theorem choose_list {α : Type} (d : α) (R : Nat → α → Prop) : ∀ n : Nat, (∀ i, i < n → ∃ m, R i m) → ∃ l : List α, l.length = n ∧ ∀ i, i < n → R i (l.getD i d)
 | 0, _ => ⟨[], rfl, fun i hi => absurd hi (Nat.not_lt_zero _)⟩
 | n + 1, h => by
  obtain ⟨l, hl, hr⟩ := choose_list d R n (fun i hi => h i (by omega))
  obtain ⟨m, hm⟩ := h n (by omega)
  refine ⟨l ++ [m], by simp [hl], fun i hi => ?_⟩
  by_cases hin : i < n
  ·rw [List.getD_eq_getElem?_getD, List.getElem?_append_left (by omega), ← List.getD_eq_getElem?_getD]; exact hr i hin
  ·obtain rfl : i = n := by omega
   rw [List.getD_eq_getElem?_getD, List.getElem?_append_right (by omega), hl]; simpa using hm
theorem addM_zero (a : Addr) : a.add 0 = a := by cases a; simp [Addr.add]
theorem addM_add (a : Addr) (i j : Nat) : (a.add i).add j = a.add (i + j) := by
 unfold Addr.add
 by_cases hi : i = 0 <;> by_cases hj : j = 0 <;> simp [hi, hj, Nat.add_assoc]
section
variable {H : Type} {enc : TypeId × Value → H} {P : Program} {w : World} {base : Nat} {held : Bool} {fuel : Nat} {t e : TypeId} {cs : List Value} {x : DataW H × List MemPlace}
theorem open_sl (ht : P.underlying t = some (.slice e)) (he : P.underlying e = some (.int .u8)) (ce : P.cellsOf e = 1)
  (h : DataW.trod enc P w base (fun _ => true) held fuel t cs = some x) : ∃ (s : SlQ) (d : List Nat), cs = [slW s] ∧ IsSl 0 w s d := by
 rcases open_ints ht he ce h with ⟨hcs, _⟩ | ⟨a, len, cap, zs, hcs, _, hl, hm, hz, _, hcell, hwz⟩
 ·exact ⟨(none, 0, 0), [], hcs, rfl, Nat.le_refl _, by decide, fun b hb => by simp at hb, .inl rfl, fun x hx => by cases hx⟩
 ·have hrow : IsRow .u8 w (some a) len cap zs := .inr ⟨_, rfl, hl, hm, by simpa using hz, hcell, hwz⟩
  obtain ⟨l, h1, h2, h3, h4⟩ := hrow.rd
  exact ⟨(some a, len, cap), l, hcs, h1, hl, hm, h2, h3, fun _ _ => Nat.zero_le _⟩
end
end Go.Proofs.YtjogclofjollnaaGreatDoor
namespace Go.Proofs.YtjogclofjollnaaGreatDoor
open Go.RowKit Go.ChangeShapes
section
variable {H : Type} {enc : TypeId × Value → H} {P : Program} {w : World} {base : Nat} {held : Bool} {fuel : Nat} {t e : TypeId} {cs : List Value} {x : DataW H × List MemPlace}
theorem open_il (ht : P.underlying t = some (.slice e)) (he : P.underlying e = some (.int .i64)) (ce : P.cellsOf e = 1)
  (h : DataW.trod enc P w base (fun _ => true) held fuel t cs = some x) : ∃ (s : SlQ) (d : List Int), cs = [slW s] ∧ IsIl 0 w s d := by
 rcases open_ints ht he ce h with ⟨hcs, _⟩ | ⟨a, len, cap, zs, hcs, _, hl, hm, hz, _, hcell, hwz⟩
 ·exact ⟨(none, 0, 0), [], hcs, rfl, Nat.le_refl _, by decide, .inl rfl, fun x hx => by cases hx⟩
 ·have hrow : IsRow .i64 w (some a) len cap zs := .inr ⟨_, rfl, hl, hm, by simpa using hz, hcell, hwz⟩
  obtain ⟨l, h1, h2, h3⟩ := hrow.rdI
  exact ⟨(some a, len, cap), l, hcs, h1, hl, hm, h2, fun _ _ => Nat.zero_le _⟩
end
end Go.Proofs.YtjogclofjollnaaGreatDoor
namespace Go.Proofs.YtjogclofjollnaaGreatDoor
open Go.RowKit
def IsYs (w : World) (a : Option Addr) (len cap : Nat) (l : List YgP) : Prop := l.length = len ∧ len ≤ cap ∧ cap ≤ maxLen ∧ RdY w a l
theorem add_zeroY (a : Addr) : a.add 0 = a := by cases a; simp [Addr.add]
theorem add_addY (a : Addr) (i j : Nat) : (a.add i).add j = a.add (i + j) := by
 unfold Addr.add
 by_cases hi : i = 0 <;> by_cases hj : j = 0 <;> simp [hi, hj, Nat.add_assoc]
theorem open_ys {H : Type} {enc : TypeId × Value → H} {P : Program} {w : World} {base : Nat} {sp : Nat → Bool} {held : Bool} {fuel : Nat} {t e s : TypeId} {f0 f1 : Field} {a0 : Option Addr} {len0 cap0 : Nat} {x : DataW H × List MemPlace}
  (ht : P.underlying t = some (.slice e)) (he : P.underlying e = some (.struct #[f0, f1])) (hs : P.underlying s = some (.int .i64)) (h0 : f0.type = s) (h1 : f1.type = s) (o0 : f0.offset = 0) (o1 : f1.offset = 1) (cs1 : P.cellsOf s = 1) (ce : P.cellsOf e = 2)
  (h : DataW.trod enc P w base sp held fuel t [.slice a0 len0 cap0] = some x) : ∃ l, IsYs w a0 len0 cap0 l := by
 rcases DataW.trod_slice ht h with ⟨hcs, _⟩ | ⟨a, len, cap, elems, rest, n, _, hcs, _, _, hl, hm, hlen, hel, _, _⟩
 ·simp at hcs
  obtain ⟨rfl, rfl, rfl⟩ := hcs
  exact ⟨[], rfl, by omega, by decide, .inl rfl⟩
 ·simp at hcs
  obtain ⟨rfl, rfl, rfl⟩ := hcs
  have each : ∀ i, i < len0 → ∃ p : YgP, w.cell? (a.add (i * 2)) = some (.int .i64 p.1) ∧ w.cell? (a.add (i * 2 + 1)) = some (.int .i64 p.2) := by
   intro i hi
   have hb := hel i hi
   rw [List.getElem?_eq_getElem (by omega), Option.bind_eq_some_iff] at hb
   obtain ⟨cs', hc, hy⟩ := hb
   rw [ce] at hc
   obtain ⟨xs, n', _, _, hcl, _, hfs⟩ := DataW.trod_struct he hy
   obtain ⟨-, hcl2, hcell⟩ := World.cells?_some hc
   have hxl : xs.length = 2 := by assumption
   have g0 := hfs 0 f0 rfl
   have g1 := hfs 1 f1 rfl
   rw [h0, o0, cs1, List.getElem?_eq_getElem (by omega)] at g0
   rw [h1, o1, cs1, List.getElem?_eq_getElem (by omega)] at g1
   obtain ⟨s0, e0, -, -⟩ := DataW.trod_int hs g0
   obtain ⟨s1, e1, -, -⟩ := DataW.trod_int hs g1
   have c0 : cs'[0]? = some (.int .i64 s0) := by
    have := congrArg (·[0]?) e0
    simpa using this
   have c1 : cs'[1]? = some (.int .i64 s1) := by
    have := congrArg (·[0]?) e1
    simpa [List.getElem?_drop] using this
   refine ⟨(s0, s1), ?_, ?_⟩
   ·have := hcell 0 (by omega)
    rw [c0, add_zeroY] at this
    exact this
   ·have := hcell 1 (by omega)
    rw [c1, add_addY] at this
    exact this
  have hsz : ∀ i (h : i < len0), _ := fun i h => Classical.choose_spec (each i h)
  refine ⟨(List.range len0).map fun i => if h : i < len0 then Classical.choose (each i h) else (0, 0), by simp, hl, hm, ?_⟩
  ·by_cases hz : len0 = 0
   ·left; subst hz; rfl
   ·right
    obtain ⟨b, off, spot⟩ := a
    have hspot : spot = none := by
     have := World.cell?_spot (hsz 0 (by omega)).1
     simpa [Addr.add] using this
    subst hspot
    refine ⟨b, off, rfl, World.block_lt_of_cell? w _ (hsz 0 (by omega)).1, fun i hi => ?_⟩
    have hi' : i < len0 := by simpa using hi
    have hn : nthY ((List.range len0).map fun i => if h : i < len0 then Classical.choose (each i h) else (0, 0)) i = Classical.choose (each i hi') := by
     rw [nthY_get hi]; simp [hi']
    rw [hn]
    have := hsz i hi'
    generalize Classical.choose (each i hi') = q at this ⊢
    rw [Go.WideShapes.add_plain, Go.WideShapes.add_plain] at this
    exact this
end Go.Proofs.YtjogclofjollnaaGreatDoor
namespace Go.Proofs.YtjogclofjollnaaGreatDoor
open Go.RowKit Go.ChangeShapes
section
variable {H : Type} {enc : TypeId × Value → H} {P : Program} {w : World} {base : Nat} {held : Bool} {fuel : Nat} {t e : TypeId} {cs : List Value} {x : DataW H × List MemPlace}
theorem open_yl (ht : P.underlying t = some (.slice e)) {q : TypeId} {f0 f1 : Field} (he : P.underlying e = some (.struct #[f0, f1])) (hs : P.underlying q = some (.int .i64)) (h0 : f0.type = q) (h1 : f1.type = q) (o0 : f0.offset = 0) (o1 : f1.offset = 1) (cs1 : P.cellsOf q = 1) (ce : P.cellsOf e = 2)
  (h : DataW.trod enc P w base (fun _ => true) held fuel t cs = some x) : ∃ (s : SlQ) (d : List YgP), cs = [slW s] ∧ IsYl 0 w s d := by
 have hk : ∃ a0 len0 cap0, cs = [.slice a0 len0 cap0] := by
  rcases DataW.trod_slice ht h with ⟨hcs, _⟩ | ⟨a, len, cap, elems, rest, n, _, hcs, _⟩
  ·exact ⟨_, _, _, hcs⟩
  ·exact ⟨_, _, _, hcs⟩
 obtain ⟨a0, len0, cap0, rfl⟩ := hk
 obtain ⟨l, h1', h2, h3, h4⟩ := open_ys ht he hs h0 h1 o0 o1 cs1 ce h
 exact ⟨(a0, len0, cap0), l, rfl, h1', h2, h3, h4, fun _ _ => Nat.zero_le _⟩
structure TmT (P : Program) (t : TypeId) : Prop where
 ex : ∃ (f0 f1 f2 f3 f4 f5 : Field) (g0 g1 : Field) (i li ly y : TypeId), P.underlying t = some (.struct #[f0, f1, f2, f3, f4, f5]) ∧ (f0.offset = 0 ∧ f1.offset = 1 ∧ f2.offset = 2 ∧ f3.offset = 3 ∧ f4.offset = 4 ∧ f5.offset = 5) ∧ (f0.type = i ∧ f1.type = i ∧ f2.type = li ∧ f3.type = ly ∧ f4.type = i ∧ f5.type = i) ∧ P.underlying i = some (.int .i64) ∧ P.underlying li = some (.slice i) ∧ P.underlying ly = some (.slice y) ∧ P.underlying y = some (.struct #[g0, g1]) ∧ (g0.type = i ∧ g1.type = i ∧ g0.offset = 0 ∧ g1.offset = 1) ∧ P.cellsOf i = 1 ∧ P.cellsOf li = 1 ∧ P.cellsOf ly = 1 ∧ P.cellsOf y = 2 ∧ P.cellsOf t = 6
theorem open_tm (T : TmT P t) (h : DataW.trod enc P w base (fun _ => true) held fuel t cs = some x) : ∃ (o : TmR) (p : SlT), cs = [.int .i64 o.k, .int .i64 o.n, slW p.1, slW p.2, .int .i64 o.l, .int .i64 o.r] ∧ IsTm 0 w p o := by
 obtain ⟨f0, f1, f2, f3, f4, f5, g0', g1', i, li, ly, y, ht, ⟨o0, o1, o2, o3, o4, o5⟩, ⟨t0, t1, t2, t3, t4, t5⟩, hi, hli, hly, hy, ⟨y0, y1, y2, y3⟩, ci, cli, cly, cy, ct⟩ := T.ex
 obtain ⟨xs, n, _, _, hcl, hxl, hfs⟩ := DataW.trod_struct ht h
 rw [ct] at hcl
 have hxl' : xs.length = 6 := hxl
 obtain ⟨v0, v1, v2, v3, v4, v5, rfl⟩ : ∃ v0 v1 v2 v3 v4 v5, cs = [v0, v1, v2, v3, v4, v5] := by
  match cs, hcl with
  | [a0, a1, a2, a3, a4, a5], _ => exact ⟨a0, a1, a2, a3, a4, a5, rfl⟩
 have g0 := hfs 0 f0 rfl
 rw [o0, t0, ci, List.getElem?_eq_getElem (by omega)] at g0
 have g1 := hfs 1 f1 rfl
 rw [o1, t1, ci, List.getElem?_eq_getElem (by omega)] at g1
 have g2 := hfs 2 f2 rfl
 rw [o2, t2, cli, List.getElem?_eq_getElem (by omega)] at g2
 have g3 := hfs 3 f3 rfl
 rw [o3, t3, cly, List.getElem?_eq_getElem (by omega)] at g3
 have g4 := hfs 4 f4 rfl
 rw [o4, t4, ci, List.getElem?_eq_getElem (by omega)] at g4
 have g5 := hfs 5 f5 rfl
 rw [o5, t5, ci, List.getElem?_eq_getElem (by omega)] at g5
 obtain ⟨n0, e0, -, -⟩ := DataW.trod_int hi g0
 obtain ⟨n1, e1, -, -⟩ := DataW.trod_int hi g1
 obtain ⟨q2, d2, e2, hs2⟩ := open_il hli hi ci g2
 obtain ⟨q3, d3, e3, hs3⟩ := open_yl hly hy hi y0 y1 y2 y3 ci cy g3
 obtain ⟨n4, e4, -, -⟩ := DataW.trod_int hi g4
 obtain ⟨n5, e5, -, -⟩ := DataW.trod_int hi g5
 simp only [List.drop_zero, List.take_succ_cons, List.take_zero, List.drop_succ_cons, List.cons.injEq, and_true] at e0 e1 e2 e3 e4 e5
 subst e0 e1 e2 e3 e4 e5
 exact ⟨⟨n0, n1, d2, d3, n4, n5⟩, (q2, q3), rfl, hs2, hs3⟩
theorem open_ts (ht : P.underlying t = some (.slice e)) (T : TmT P e) (h : DataW.trod enc P w base (fun _ => true) held fuel t cs = some x) : ∃ (s : SlQ) (l : List TmR), cs = [slW s] ∧ IsTs 0 w s l := by
 have ce : P.cellsOf e = 6 := by obtain ⟨_, _, _, _, _, _, _, _, _, _, _, _, h⟩ := T.ex; exact h.2.2.2.2.2.2.2.2.2.2.2.2
 rcases DataW.trod_slice ht h with ⟨hcs, _⟩ | ⟨a, len, cap, elems, rest, n, _, hcs, _, _, hl, hm, hlen, hel, _, _⟩
 ·exact ⟨(none, 0, 0), [], hcs, rfl, Nat.le_refl _, by decide, .inl rfl⟩
 ·have hx : ∀ i, i < len → ∃ m : TmR, ∃ p : SlT, (w.cell? (a.add (i * 6)) = some (.int .i64 m.k) ∧ w.cell? (a.add (i * 6 + 1)) = some (.int .i64 m.n) ∧ w.cell? (a.add (i * 6 + 2)) = some (slW p.1) ∧ w.cell? (a.add (i * 6 + 3)) = some (slW p.2) ∧ w.cell? (a.add (i * 6 + 4)) = some (.int .i64 m.l) ∧ w.cell? (a.add (i * 6 + 5)) = some (.int .i64 m.r)) ∧ IsTm 0 w p m := by
   intro i hi
   have hb := hel i hi
   rw [List.getElem?_eq_getElem (by omega), Option.bind_eq_some_iff] at hb
   obtain ⟨cs', hc, hy⟩ := hb
   rw [ce] at hc
   obtain ⟨m, p, rfl, hI⟩ := open_tm T hy
   obtain ⟨-, hcl2, hcell⟩ := World.cells?_some hc
   have k0 := hcell 0 (by omega)
   have k1 := hcell 1 (by omega)
   have k2 := hcell 2 (by omega)
   have k3 := hcell 3 (by omega)
   have k4 := hcell 4 (by omega)
   have k5 := hcell 5 (by omega)
   rw [addM_zero] at k0
   rw [addM_add] at k1 k2 k3 k4 k5
   exact ⟨m, p, ⟨k0, k1, k2, k3, k4, k5⟩, hI⟩
  obtain ⟨l, hll, hR⟩ := choose_list (⟨0, 0, [], [], 0, 0⟩ : TmR) _ len hx
  refine ⟨(some a, len, cap), l, hcs, hll, hl, hm, ?_⟩
  ·by_cases hz : len = 0
   ·left; subst hz; exact List.length_eq_zero_iff.1 hll
   ·right
    obtain ⟨b, off, spot⟩ := a
    have hspot : spot = none := by
     obtain ⟨q, ⟨k0, -⟩, -⟩ := hR 0 (by omega)
     have := World.cell?_spot k0
     simpa [Addr.add] using this
    subst hspot
    obtain ⟨q0, ⟨k0, -⟩, -⟩ := hR 0 (by omega)
    refine ⟨b, off, rfl, Nat.zero_le _, World.block_lt_of_cell? w _ k0, fun i hi => ?_⟩
    obtain ⟨q, hk, hI⟩ := hR i (by omega)
    refine ⟨q, ?_, hI⟩
    simp only [Go.WideShapes.add_plain] at hk
    exact hk
end
end Go.Proofs.YtjogclofjollnaaGreatDoor
namespace Go.Proofs.YtjogclofjollnaaGreatDoor
open Go.RowKit Go.ChangeShapes
section
variable {H : Type} {enc : TypeId × Value → H} {P : Program} {w : World} {base : Nat} {held : Bool} {fuel : Nat} {t : TypeId} {cs : List Value} {x : DataW H × List MemPlace}
structure CmT (P : Program) (t : TypeId) : Prop where
 ex : ∃ (f0 f1 f2 f3 f4 f5 f6 f7 f8 f9 f10 f11 f12 f13 g0 g1 : Field) (i s bo li lb lu ly y u e : TypeId), P.underlying t = some (.struct #[f0, f1, f2, f3, f4, f5, f6, f7, f8, f9, f10, f11, f12, f13]) ∧ (f0.offset = 0 ∧ f1.offset = 1 ∧ f2.offset = 2 ∧ f3.offset = 3 ∧ f4.offset = 4 ∧ f5.offset = 5 ∧ f6.offset = 6 ∧ f7.offset = 7 ∧ f8.offset = 8 ∧ f9.offset = 9 ∧ f10.offset = 10 ∧ f11.offset = 11 ∧ f12.offset = 12 ∧ f13.offset = 13) ∧ (f0.type = s ∧ f1.type = i ∧ f2.type = s ∧ f3.type = ly ∧ f4.type = i ∧ f5.type = i ∧ f6.type = i ∧ f7.type = lb ∧ f8.type = i ∧ f9.type = li ∧ f10.type = i ∧ f11.type = bo ∧ f12.type = lu ∧ f13.type = i) ∧ P.underlying i = some (.int .i64) ∧ P.underlying s = some .string ∧ P.underlying bo = some .bool ∧ P.underlying li = some (.slice i) ∧ P.underlying lb = some (.slice u) ∧ P.underlying u = some (.int .u8) ∧ P.underlying ly = some (.slice y) ∧ P.underlying y = some (.struct #[g0, g1]) ∧ (g0.type = i ∧ g1.type = i ∧ g0.offset = 0 ∧ g1.offset = 1) ∧ P.underlying lu = some (.slice e) ∧ TmT P e ∧ (P.cellsOf i = 1 ∧ P.cellsOf s = 1 ∧ P.cellsOf bo = 1 ∧ P.cellsOf li = 1 ∧ P.cellsOf lb = 1 ∧ P.cellsOf ly = 1 ∧ P.cellsOf lu = 1 ∧ P.cellsOf u = 1 ∧ P.cellsOf y = 2 ∧ P.cellsOf t = 14)
theorem open_cm (T : CmT P t) (h : DataW.trod enc P w base (fun _ => true) held fuel t cs = some x) : ∃ (o : CmR) (p : SlC), cs = [.string o.t, .int .i64 o.k, .string o.n, slW p.1, .int .i64 o.m, .int .i64 o.f, .int .i64 o.d, slW p.2.1, .int .i64 o.h, slW p.2.2.1, .int .i64 o.e, .bool o.r, slW p.2.2.2, .int .i64 o.c] ∧ IsCm 0 w p o ∧ OkC o := by
 obtain ⟨f0, f1, f2, f3, f4, f5, f6, f7, f8, f9, f10, f11, f12, f13, g0', g1', i, s, bo, li, lb, lu, ly, y, u, e, ht, ⟨o0, o1, o2, o3, o4, o5, o6, o7, o8, o9, o10, o11, o12, o13⟩, ⟨t0, t1, t2, t3, t4, t5, t6, t7, t8, t9, t10, t11, t12, t13⟩, hi, hs, hbo, hli, hlb, hu, hly, hy, ⟨y0, y1, y2, y3⟩, hlu, hTm, ⟨ci, cs', cbo, cli, clb, cly, clu, cu, cy, ct⟩⟩ := T.ex
 obtain ⟨xs, n, _, _, hcl, hxl, hfs⟩ := DataW.trod_struct ht h
 rw [ct] at hcl
 have hxl' : xs.length = 14 := hxl
 obtain ⟨v0, v1, v2, v3, v4, v5, v6, v7, v8, v9, v10, v11, v12, v13, rfl⟩ : ∃ v0 v1 v2 v3 v4 v5 v6 v7 v8 v9 v10 v11 v12 v13, cs = [v0, v1, v2, v3, v4, v5, v6, v7, v8, v9, v10, v11, v12, v13] := by
  match cs, hcl with
  | [a0, a1, a2, a3, a4, a5, a6, a7, a8, a9, a10, a11, a12, a13], _ => exact ⟨a0, a1, a2, a3, a4, a5, a6, a7, a8, a9, a10, a11, a12, a13, rfl⟩
 have g0 := hfs 0 f0 rfl
 rw [o0, t0, cs', List.getElem?_eq_getElem (by omega)] at g0
 have g1 := hfs 1 f1 rfl
 rw [o1, t1, ci, List.getElem?_eq_getElem (by omega)] at g1
 have g2 := hfs 2 f2 rfl
 rw [o2, t2, cs', List.getElem?_eq_getElem (by omega)] at g2
 have g3 := hfs 3 f3 rfl
 rw [o3, t3, cly, List.getElem?_eq_getElem (by omega)] at g3
 have g4 := hfs 4 f4 rfl
 rw [o4, t4, ci, List.getElem?_eq_getElem (by omega)] at g4
 have g5 := hfs 5 f5 rfl
 rw [o5, t5, ci, List.getElem?_eq_getElem (by omega)] at g5
 have g6 := hfs 6 f6 rfl
 rw [o6, t6, ci, List.getElem?_eq_getElem (by omega)] at g6
 have g7 := hfs 7 f7 rfl
 rw [o7, t7, clb, List.getElem?_eq_getElem (by omega)] at g7
 have g8 := hfs 8 f8 rfl
 rw [o8, t8, ci, List.getElem?_eq_getElem (by omega)] at g8
 have g9 := hfs 9 f9 rfl
 rw [o9, t9, cli, List.getElem?_eq_getElem (by omega)] at g9
 have g10 := hfs 10 f10 rfl
 rw [o10, t10, ci, List.getElem?_eq_getElem (by omega)] at g10
 have g11 := hfs 11 f11 rfl
 rw [o11, t11, cbo, List.getElem?_eq_getElem (by omega)] at g11
 have g12 := hfs 12 f12 rfl
 rw [o12, t12, clu, List.getElem?_eq_getElem (by omega)] at g12
 have g13 := hfs 13 f13 rfl
 rw [o13, t13, ci, List.getElem?_eq_getElem (by omega)] at g13
 obtain ⟨n0, e0, -, z0⟩ := DataW.trod_string hs g0
 obtain ⟨n1, e1, -, -⟩ := DataW.trod_int hi g1
 obtain ⟨n2, e2, -, z2⟩ := DataW.trod_string hs g2
 obtain ⟨q3, d3, e3, hs3⟩ := open_yl hly hy hi y0 y1 y2 y3 ci cy g3
 obtain ⟨n4, e4, -, -⟩ := DataW.trod_int hi g4
 obtain ⟨n5, e5, -, -⟩ := DataW.trod_int hi g5
 obtain ⟨n6, e6, -, -⟩ := DataW.trod_int hi g6
 obtain ⟨q7, d7, e7, hs7⟩ := open_sl hlb hu cu g7
 obtain ⟨n8, e8, -, -⟩ := DataW.trod_int hi g8
 obtain ⟨q9, d9, e9, hs9⟩ := open_il hli hi ci g9
 obtain ⟨n10, e10, -, -⟩ := DataW.trod_int hi g10
 obtain ⟨n11, e11, -⟩ := DataW.trod_bool hbo g11
 obtain ⟨q12, d12, e12, hs12⟩ := open_ts hlu hTm g12
 obtain ⟨n13, e13, -, -⟩ := DataW.trod_int hi g13
 simp only [List.drop_zero, List.take_succ_cons, List.take_zero, List.drop_succ_cons, List.cons.injEq, and_true] at e0 e1 e2 e3 e4 e5 e6 e7 e8 e9 e10 e11 e12 e13
 subst e0 e1 e2 e3 e4 e5 e6 e7 e8 e9 e10 e11 e12 e13
 exact ⟨⟨n0, n1, n2, d3, n4, n5, n6, d7, n8, d9, n10, n11, d12, n13⟩, (q3, q7, q9, q12), rfl, ⟨hs3, hs7, hs9, hs12⟩, z0, z2⟩
end
end Go.Proofs.YtjogclofjollnaaGreatDoor
