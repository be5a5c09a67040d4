/- Messages, mailboxes and stores that came in: what the row tells of them gives their cells; no program in it · Ops that came in: what the row tells of them gives their cells; no program in it · Terms that came in: what the row tells of them gives their cells; no program in it · The laws' own type of terms; no conditions. -/
import Derived.Test.YthmimalplpjghaaGreatDoorMqr
import Derived.ChangeArms
import Derived.DataReads
import Derived.Test.YthmimalplpjghaaGreatDoorOpo
import Derived.Test.YthmimalplpjghaaGreatDoorTmo
import Derived.Test.YthmimalplpjghaaGreatDoorBytToOpnY
import Derived.Test.YthmimalplpjghaaGreatDoorRows
namespace Go.Proofs.YthmimalplpjghaaGreatDoor
open Go.RowKit Go.ChangeShapes

theorem choose_list {α : Type} (d : α) (R : Nat → α → Prop) : ∀ n : Nat, (∀ i, i < n → ∃ m, R i m) → ∃ l : List α, l.length = n ∧ ∀ i, i < n → R i (l.getD i d)
  | 0, _ => ⟨[], rfl, fun i hi => absurd hi (Nat.not_lt_zero _)⟩
  | n + 1, h => by
    obtain ⟨l, hl, hr⟩ := choose_list d R n (fun i hi => h i (by omega))
    obtain ⟨m, hm⟩ := h n (by omega)
    refine ⟨l ++ [m], by simp [hl], fun i hi => ?_⟩
    by_cases hin : i < n
    · rw [List.getD_eq_getElem?_getD, List.getElem?_append_left (by omega), ← List.getD_eq_getElem?_getD]; exact hr i hin
    · obtain rfl : i = n := by omega
      rw [List.getD_eq_getElem?_getD, List.getElem?_append_right (by omega), hl]; simpa using hm

theorem addM_zero (a : Addr) : a.add 0 = a := by cases a; simp [Addr.add]
theorem addM_add (a : Addr) (i j : Nat) : (a.add i).add j = a.add (i + j) := by
  unfold Addr.add
  by_cases hi : i = 0 <;> by_cases hj : j = 0 <;> simp [hi, hj, Nat.add_assoc]
section
variable {H : Type} {enc : TypeId × Value → H} {P : Program} {w : World} {base : Nat} {held : Bool} {fuel : Nat} {t e : TypeId} {cs : List Value} {x : DataW H × List MemPlace}

end
end Go.Proofs.YthmimalplpjghaaGreatDoor

namespace Go.Proofs.YthmimalplpjghaaGreatDoor
open Go.RowKit Go.ChangeShapes
section
variable {H : Type} {enc : TypeId × Value → H} {P : Program} {w : World} {base : Nat} {held : Bool} {fuel : Nat} {t e : TypeId} {cs : List Value} {x : DataW H × List MemPlace}

theorem open_il (ht : P.underlying t = some (.slice e)) (he : P.underlying e = some (.int .i64)) (ce : P.cellsOf e = 1)
    (h : DataW.trod enc P w base (fun _ => true) held fuel t cs = some x) : ∃ (s : SlQ) (d : List Int), cs = [slW s] ∧ IsIl 0 w s d := by
  rcases open_ints ht he ce h with ⟨hcs, _⟩ | ⟨a, len, cap, zs, hcs, _, hl, hm, hz, _, hcell, hwz⟩
  · exact ⟨(none, 0, 0), [], hcs, rfl, Nat.le_refl _, by decide, .inl rfl, fun x hx => by cases hx⟩
  · have hrow : IsRow .i64 w (some a) len cap zs := .inr ⟨_, rfl, hl, hm, by simpa using hz, hcell, hwz⟩
    obtain ⟨l, h1, h2, h3⟩ := hrow.rdI
    exact ⟨(some a, len, cap), l, hcs, h1, hl, hm, h2, fun _ _ => Nat.zero_le _⟩

end
end Go.Proofs.YthmimalplpjghaaGreatDoor

namespace Go.Proofs.YthmimalplpjghaaGreatDoor
open Go.RowKit Go.ChangeShapes
section
variable {H : Type} {enc : TypeId × Value → H} {P : Program} {w : World} {base : Nat} {held : Bool} {fuel : Nat} {t e : TypeId} {cs : List Value} {x : DataW H × List MemPlace}

theorem open_yl (ht : P.underlying t = some (.slice e)) {q : TypeId} {f0 f1 : Field} (he : P.underlying e = some (.struct #[f0, f1])) (hs : P.underlying q = some (.int .i64)) (h0 : f0.type = q) (h1 : f1.type = q) (o0 : f0.offset = 0) (o1 : f1.offset = 1) (cs1 : P.cellsOf q = 1) (ce : P.cellsOf e = 2)
    (h : DataW.trod enc P w base (fun _ => true) held fuel t cs = some x) : ∃ (s : SlQ) (d : List YgP), cs = [slW s] ∧ IsYl 0 w s d := by
  have hk : ∃ a0 len0 cap0, cs = [.slice a0 len0 cap0] := by
    rcases DataW.trod_slice ht h with ⟨hcs, _⟩ | ⟨a, len, cap, elems, rest, n, _, hcs, _⟩
    · exact ⟨_, _, _, hcs⟩
    · exact ⟨_, _, _, hcs⟩
  obtain ⟨a0, len0, cap0, rfl⟩ := hk
  obtain ⟨l, h1', h2, h3, h4⟩ := open_ys ht he hs h0 h1 o0 o1 cs1 ce h
  exact ⟨(a0, len0, cap0), l, rfl, h1', h2, h3, h4, fun _ _ => Nat.zero_le _⟩

/-- A term's type. -/
structure TmT (P : Program) (t : TypeId) : Prop where
  ex : ∃ (f0 f1 f2 f3 f4 f5 : Field) (g0 g1 : Field) (i li ly y : TypeId), P.underlying t = some (.struct #[f0, f1, f2, f3, f4, f5]) ∧ (f0.offset = 0 ∧ f1.offset = 1 ∧ f2.offset = 2 ∧ f3.offset = 3 ∧ f4.offset = 4 ∧ f5.offset = 5) ∧ (f0.type = i ∧ f1.type = i ∧ f2.type = li ∧ f3.type = ly ∧ f4.type = i ∧ f5.type = i) ∧ P.underlying i = some (.int .i64) ∧ P.underlying li = some (.slice i) ∧ P.underlying ly = some (.slice y) ∧ P.underlying y = some (.struct #[g0, g1]) ∧ (g0.type = i ∧ g1.type = i ∧ g0.offset = 0 ∧ g1.offset = 1) ∧ P.cellsOf i = 1 ∧ P.cellsOf li = 1 ∧ P.cellsOf ly = 1 ∧ P.cellsOf y = 2 ∧ P.cellsOf t = 6

theorem open_tm (T : TmT P t) (h : DataW.trod enc P w base (fun _ => true) held fuel t cs = some x) : ∃ (o : TmR) (p : SlT), cs = [.int .i64 o.k, .int .i64 o.n, slW p.1, slW p.2, .int .i64 o.l, .int .i64 o.r] ∧ IsTm 0 w p o := by
  obtain ⟨f0, f1, f2, f3, f4, f5, g0', g1', i, li, ly, y, ht, ⟨o0, o1, o2, o3, o4, o5⟩, ⟨t0, t1, t2, t3, t4, t5⟩, hi, hli, hly, hy, ⟨y0, y1, y2, y3⟩, ci, cli, cly, cy, ct⟩ := T.ex
  obtain ⟨xs, n, _, _, hcl, hxl, hfs⟩ := DataW.trod_struct ht h
  rw [ct] at hcl
  have hxl' : xs.length = 6 := hxl
  obtain ⟨v0, v1, v2, v3, v4, v5, rfl⟩ : ∃ v0 v1 v2 v3 v4 v5, cs = [v0, v1, v2, v3, v4, v5] := by
    match cs, hcl with
    | [a0, a1, a2, a3, a4, a5], _ => exact ⟨a0, a1, a2, a3, a4, a5, rfl⟩
  have g0 := hfs 0 f0 rfl
  rw [o0, t0, ci, List.getElem?_eq_getElem (by omega)] at g0
  have g1 := hfs 1 f1 rfl
  rw [o1, t1, ci, List.getElem?_eq_getElem (by omega)] at g1
  have g2 := hfs 2 f2 rfl
  rw [o2, t2, cli, List.getElem?_eq_getElem (by omega)] at g2
  have g3 := hfs 3 f3 rfl
  rw [o3, t3, cly, List.getElem?_eq_getElem (by omega)] at g3
  have g4 := hfs 4 f4 rfl
  rw [o4, t4, ci, List.getElem?_eq_getElem (by omega)] at g4
  have g5 := hfs 5 f5 rfl
  rw [o5, t5, ci, List.getElem?_eq_getElem (by omega)] at g5
  obtain ⟨n0, e0, -, -⟩ := DataW.trod_int hi g0
  obtain ⟨n1, e1, -, -⟩ := DataW.trod_int hi g1
  obtain ⟨q2, d2, e2, hs2⟩ := open_il hli hi ci g2
  obtain ⟨q3, d3, e3, hs3⟩ := open_yl hly hy hi y0 y1 y2 y3 ci cy g3
  obtain ⟨n4, e4, -, -⟩ := DataW.trod_int hi g4
  obtain ⟨n5, e5, -, -⟩ := DataW.trod_int hi g5
  simp only [List.drop_zero, List.take_succ_cons, List.take_zero, List.drop_succ_cons, List.cons.injEq, and_true] at e0 e1 e2 e3 e4 e5
  subst e0 e1 e2 e3 e4 e5
  exact ⟨⟨n0, n1, d2, d3, n4, n5⟩, (q2, q3), rfl, hs2, hs3⟩

theorem open_ts (ht : P.underlying t = some (.slice e)) (T : TmT P e) (h : DataW.trod enc P w base (fun _ => true) held fuel t cs = some x) : ∃ (s : SlQ) (l : List TmR), cs = [slW s] ∧ IsTs 0 w s l := by
  have ce : P.cellsOf e = 6 := by obtain ⟨_, _, _, _, _, _, _, _, _, _, _, _, h⟩ := T.ex; exact h.2.2.2.2.2.2.2.2.2.2.2.2
  rcases DataW.trod_slice ht h with ⟨hcs, _⟩ | ⟨a, len, cap, elems, rest, n, _, hcs, _, _, hl, hm, hlen, hel, _, _⟩
  · exact ⟨(none, 0, 0), [], hcs, rfl, Nat.le_refl _, by decide, .inl rfl⟩
  · have hx : ∀ i, i < len → ∃ m : TmR, ∃ p : SlT, (w.cell? (a.add (i * 6)) = some (.int .i64 m.k) ∧ w.cell? (a.add (i * 6 + 1)) = some (.int .i64 m.n) ∧ w.cell? (a.add (i * 6 + 2)) = some (slW p.1) ∧ w.cell? (a.add (i * 6 + 3)) = some (slW p.2) ∧ w.cell? (a.add (i * 6 + 4)) = some (.int .i64 m.l) ∧ w.cell? (a.add (i * 6 + 5)) = some (.int .i64 m.r)) ∧ IsTm 0 w p m := by
      intro i hi
      have hb := hel i hi
      rw [List.getElem?_eq_getElem (by omega), Option.bind_eq_some_iff] at hb
      obtain ⟨cs', hc, hy⟩ := hb
      rw [ce] at hc
      obtain ⟨m, p, rfl, hI⟩ := open_tm T hy
      obtain ⟨-, hcl2, hcell⟩ := World.cells?_some hc
      have k0 := hcell 0 (by omega)
      have k1 := hcell 1 (by omega)
      have k2 := hcell 2 (by omega)
      have k3 := hcell 3 (by omega)
      have k4 := hcell 4 (by omega)
      have k5 := hcell 5 (by omega)
      rw [addM_zero] at k0
      rw [addM_add] at k1 k2 k3 k4 k5
      exact ⟨m, p, ⟨k0, k1, k2, k3, k4, k5⟩, hI⟩
    obtain ⟨l, hll, hR⟩ := choose_list (⟨0, 0, [], [], 0, 0⟩ : TmR) _ len hx
    refine ⟨(some a, len, cap), l, hcs, hll, hl, hm, ?_⟩
    · by_cases hz : len = 0
      · left; subst hz; exact List.length_eq_zero_iff.1 hll
      · right
        obtain ⟨b, off, spot⟩ := a
        have hspot : spot = none := by
          obtain ⟨q, ⟨k0, -⟩, -⟩ := hR 0 (by omega)
          have := World.cell?_spot k0
          simpa [Addr.add] using this
        subst hspot
        obtain ⟨q0, ⟨k0, -⟩, -⟩ := hR 0 (by omega)
        refine ⟨b, off, rfl, Nat.zero_le _, World.block_lt_of_cell? w _ k0, fun i hi => ?_⟩
        obtain ⟨q, hk, hI⟩ := hR i (by omega)
        refine ⟨q, ?_, hI⟩
        simp only [Go.WideShapes.add_plain] at hk
        exact hk
end
end Go.Proofs.YthmimalplpjghaaGreatDoor

namespace Go.Proofs.YthmimalplpjghaaGreatDoor
open Go.RowKit
theorem tmT : TmT Tryz.prog 123 := ⟨_, _, _, _, _, _, _, _, _, _, _, _, Tryz.underlying123, ⟨rfl, rfl, rfl, rfl, rfl, rfl⟩, ⟨rfl, rfl, rfl, rfl, rfl, rfl⟩, Tryz.underlying2, Tryz.underlying44, Tryz.underlying121, Tryz.underlying265, ⟨rfl, rfl, rfl, rfl⟩, by kernel_rfl, by kernel_rfl, by kernel_rfl, by kernel_rfl, by kernel_rfl⟩
end Go.Proofs.YthmimalplpjghaaGreatDoor
