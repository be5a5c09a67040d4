/- Messages, mailboxes and stores that came in: what the row tells of them gives their cells; no program in it. -/
import Derived.Test.YtmidjgpegdodcaaDoorMqr
import Derived.ChangeArms
import Derived.DataReads
namespace Go.Proofs.YtmidjgpegdodcaaDoor
open Go.RowKit Go.ChangeShapes

theorem choose_list {α : Type} (d : α) (R : Nat → α → Prop) : ∀ n : Nat, (∀ i, i < n → ∃ m, R i m) → ∃ l : List α, l.length = n ∧ ∀ i, i < n → R i (l.getD i d)
  | 0, _ => ⟨[], rfl, fun i hi => absurd hi (Nat.not_lt_zero _)⟩
  | n + 1, h => by
    obtain ⟨l, hl, hr⟩ := choose_list d R n (fun i hi => h i (by omega))
    obtain ⟨m, hm⟩ := h n (by omega)
    refine ⟨l ++ [m], by simp [hl], fun i hi => ?_⟩
    by_cases hin : i < n
    · rw [List.getD_eq_getElem?_getD, List.getElem?_append_left (by omega), ← List.getD_eq_getElem?_getD]; exact hr i hin
    · obtain rfl : i = n := by omega
      rw [List.getD_eq_getElem?_getD, List.getElem?_append_right (by omega), hl]; simpa using hm

theorem addM_zero (a : Addr) : a.add 0 = a := by cases a; simp [Addr.add]
theorem addM_add (a : Addr) (i j : Nat) : (a.add i).add j = a.add (i + j) := by
  unfold Addr.add
  by_cases hi : i = 0 <;> by_cases hj : j = 0 <;> simp [hi, hj, Nat.add_assoc]
section
variable {H : Type} {enc : TypeId × Value → H} {P : Program} {w : World} {base : Nat} {held : Bool} {fuel : Nat} {t e : TypeId} {cs : List Value} {x : DataW H × List MemPlace}

theorem open_sl (ht : P.underlying t = some (.slice e)) (he : P.underlying e = some (.int .u8)) (ce : P.cellsOf e = 1)
    (h : DataW.trod enc P w base (fun _ => true) held fuel t cs = some x) : ∃ (s : SlQ) (d : List Nat), cs = [slW s] ∧ IsSl 0 w s d := by
  rcases open_ints ht he ce h with ⟨hcs, _⟩ | ⟨a, len, cap, zs, hcs, _, hl, hm, hz, _, hcell, hwz⟩
  · exact ⟨(none, 0, 0), [], hcs, rfl, Nat.le_refl _, by decide, fun b hb => by simp at hb, .inl rfl, fun x hx => by cases hx⟩
  · have hrow : IsRow .u8 w (some a) len cap zs := .inr ⟨_, rfl, hl, hm, by simpa using hz, hcell, hwz⟩
    obtain ⟨l, h1, h2, h3, h4⟩ := hrow.rd
    exact ⟨(some a, len, cap), l, hcs, h1, hl, hm, h2, h3, fun _ _ => Nat.zero_le _⟩

/-- A struct of four fields of one cell each. -/
theorem open_quad {f0 f1 f2 f3 : Field} (ht : P.underlying t = some (.struct #[f0, f1, f2, f3])) (o0 : f0.offset = 0) (o1 : f1.offset = 1) (o2 : f2.offset = 2) (o3 : f3.offset = 3)
    (c0 : P.cellsOf f0.type = 1) (c1 : P.cellsOf f1.type = 1) (c2 : P.cellsOf f2.type = 1) (c3 : P.cellsOf f3.type = 1) (ce : P.cellsOf t = 4)
    (h : DataW.trod enc P w base (fun _ => true) held fuel t cs = some x) :
    ∃ v0 v1 v2 v3 n x0 x1 x2 x3, cs = [v0, v1, v2, v3] ∧ DataW.trod enc P w base (fun _ => true) held n f0.type [v0] = some x0 ∧ DataW.trod enc P w base (fun _ => true) held n f1.type [v1] = some x1 ∧ DataW.trod enc P w base (fun _ => true) held n f2.type [v2] = some x2 ∧ DataW.trod enc P w base (fun _ => true) held n f3.type [v3] = some x3 := by
  obtain ⟨xs, n, _, _, hcl, hxl, hfs⟩ := DataW.trod_struct ht h
  rw [ce] at hcl
  have hxl' : xs.length = 4 := hxl
  obtain ⟨v0, v1, v2, v3, rfl⟩ : ∃ v0 v1 v2 v3, cs = [v0, v1, v2, v3] := by
    match cs, hcl with
    | [a, b, c, d], _ => exact ⟨a, b, c, d, rfl⟩
  have g0 := hfs 0 f0 rfl
  have g1 := hfs 1 f1 rfl
  have g2 := hfs 2 f2 rfl
  have g3 := hfs 3 f3 rfl
  rw [o0, c0, List.getElem?_eq_getElem (by omega)] at g0
  rw [o1, c1, List.getElem?_eq_getElem (by omega)] at g1
  rw [o2, c2, List.getElem?_eq_getElem (by omega)] at g2
  rw [o3, c3, List.getElem?_eq_getElem (by omega)] at g3
  exact ⟨v0, v1, v2, v3, n, _, _, _, _, rfl, g0, g1, g2, g3⟩

/-- What a type of the program must be: a message's. -/
structure MsgT (P : Program) (t : TypeId) : Prop where
  ex : ∃ (f0 f1 f2 f3 : Field) (i b u : TypeId), P.underlying t = some (.struct #[f0, f1, f2, f3]) ∧ (f0.offset = 0 ∧ f1.offset = 1 ∧ f2.offset = 2 ∧ f3.offset = 3) ∧ (f0.type = i ∧ f1.type = i ∧ f2.type = i ∧ f3.type = b) ∧ P.underlying i = some (.int .i64) ∧ P.underlying b = some (.slice u) ∧ P.underlying u = some (.int .u8) ∧ P.cellsOf i = 1 ∧ P.cellsOf b = 1 ∧ P.cellsOf u = 1 ∧ P.cellsOf t = 4

theorem open_msg (T : MsgT P t) (h : DataW.trod enc P w base (fun _ => true) held fuel t cs = some x) : ∃ (m : Msg) (s : SlQ), cs = [.int .i64 m.u, .int .i64 m.f, .int .i64 m.d, slW s] ∧ IsSl 0 w s m.b := by
  obtain ⟨f0, f1, f2, f3, i, b, u, ht, ⟨o0, o1, o2, o3⟩, ⟨t0, t1, t2, t3⟩, hi, hb, hu, ci, cb, cu, ct⟩ := T.ex
  obtain ⟨v0, v1, v2, v3, n, x0, x1, x2, x3, rfl, g0, g1, g2, g3⟩ := open_quad ht o0 o1 o2 o3 (by rw [t0, ci]) (by rw [t1, ci]) (by rw [t2, ci]) (by rw [t3, cb]) ct h
  rw [t0] at g0
  rw [t1] at g1
  rw [t2] at g2
  rw [t3] at g3
  obtain ⟨n0, e0, -, -⟩ := DataW.trod_int hi g0
  obtain ⟨n1, e1, -, -⟩ := DataW.trod_int hi g1
  obtain ⟨n2, e2, -, -⟩ := DataW.trod_int hi g2
  obtain ⟨s, d, e3, hs⟩ := open_sl hb hu cu g3
  simp only [List.cons.injEq, and_true] at e0 e1 e2 e3
  subst e0 e1 e2 e3
  exact ⟨⟨n0, n1, n2, d⟩, s, rfl, hs⟩

/-- A slice of elements of four cells: what each is. -/
theorem open_quads {α : Type} (d0 : α) (Q : α → SlQ → Qd) (I : SlQ → α → Prop) (ht : P.underlying t = some (.slice e)) (ce : P.cellsOf e = 4)
    (each : ∀ (n : Nat) (cs : List Value) (y : DataW H × List MemPlace), DataW.trod enc P w base (fun _ => true) held n e cs = some y → ∃ (m : α) (s : SlQ), cs = [(Q m s).1, (Q m s).2.1, (Q m s).2.2.1, (Q m s).2.2.2] ∧ I s m)
    (h : DataW.trod enc P w base (fun _ => true) held fuel t cs = some x) :
    ∃ (s : SlQ) (l : List α), cs = [slW s] ∧ l.length = s.2.1 ∧ s.2.1 ≤ s.2.2 ∧ s.2.2 ≤ maxLen ∧ (l = [] ∨ ∃ b off, s.1 = some ⟨b, off, none⟩ ∧ b < w.heap.size ∧ ∀ i, i < l.length → ∃ q, (w.cell? ⟨b, off + i * 4, none⟩ = some (Q (l.getD i d0) q).1 ∧ w.cell? ⟨b, off + i * 4 + 1, none⟩ = some (Q (l.getD i d0) q).2.1 ∧ w.cell? ⟨b, off + i * 4 + 2, none⟩ = some (Q (l.getD i d0) q).2.2.1 ∧ w.cell? ⟨b, off + i * 4 + 3, none⟩ = some (Q (l.getD i d0) q).2.2.2) ∧ I q (l.getD i d0)) := by
  rcases DataW.trod_slice ht h with ⟨hcs, _⟩ | ⟨a, len, cap, elems, rest, n, _, hcs, _, _, hl, hm, hlen, hel, _, _⟩
  · exact ⟨(none, 0, 0), [], hcs, rfl, Nat.le_refl _, by decide, .inl rfl⟩
  · have hx : ∀ i, i < len → ∃ m : α, ∃ q : SlQ, (w.cell? (a.add (i * 4)) = some (Q m q).1 ∧ w.cell? (a.add (i * 4 + 1)) = some (Q m q).2.1 ∧ w.cell? (a.add (i * 4 + 2)) = some (Q m q).2.2.1 ∧ w.cell? (a.add (i * 4 + 3)) = some (Q m q).2.2.2) ∧ I q m := by
      intro i hi
      have hb := hel i hi
      rw [List.getElem?_eq_getElem (by omega), Option.bind_eq_some_iff] at hb
      obtain ⟨cs', hc, hy⟩ := hb
      rw [ce] at hc
      obtain ⟨m, q, rfl, hI⟩ := each _ _ _ hy
      obtain ⟨-, hcl2, hcell⟩ := World.cells?_some hc
      have k0 := hcell 0 (by omega)
      have k1 := hcell 1 (by omega)
      have k2 := hcell 2 (by omega)
      have k3 := hcell 3 (by omega)
      rw [addM_zero] at k0
      rw [addM_add] at k1 k2 k3
      exact ⟨m, q, ⟨k0, k1, k2, k3⟩, hI⟩
    obtain ⟨l, hll, hR⟩ := choose_list d0 _ len hx
    refine ⟨(some a, len, cap), l, hcs, hll, hl, hm, ?_⟩
    by_cases hz : len = 0
    · left; subst hz; exact List.length_eq_zero_iff.1 hll
    · right
      obtain ⟨b, off, spot⟩ := a
      have hspot : spot = none := by
        obtain ⟨q, ⟨k0, -⟩, -⟩ := hR 0 (by omega)
        have := World.cell?_spot k0
        simpa [Addr.add] using this
      subst hspot
      obtain ⟨q0, ⟨k0, -⟩, -⟩ := hR 0 (by omega)
      refine ⟨b, off, rfl, World.block_lt_of_cell? w _ k0, fun i hi => ?_⟩
      obtain ⟨q, hk, hI⟩ := hR i (by omega)
      refine ⟨q, ?_, hI⟩
      simp only [Go.WideShapes.add_plain] at hk
      exact hk

theorem open_ms (ht : P.underlying t = some (.slice e)) (T : MsgT P e) (h : DataW.trod enc P w base (fun _ => true) held fuel t cs = some x) : ∃ (s : SlQ) (l : List Msg), cs = [slW s] ∧ IsMs 0 w s l := by
  have ce : P.cellsOf e = 4 := by obtain ⟨_, _, _, _, _, _, _, h⟩ := T.ex; exact h.2.2.2.2.2.2.2.2.2
  obtain ⟨s, l, h1, h2, h3, h4, h5⟩ := open_quads (⟨0, 0, 0, []⟩ : Msg) msQ (fun s m => IsSl 0 w s m.b) ht ce (fun n cs y hy => open_msg T hy) h
  refine ⟨s, l, h1, h2, h3, h4, ?_⟩
  rcases h5 with h5 | ⟨b, off, e, hlt, hc⟩
  · exact .inl h5
  · exact .inr ⟨b, off, e, Nat.zero_le _, hlt, hc⟩

/-- A mailbox's type. -/
structure BoxT (P : Program) (t : TypeId) : Prop where
  ex : ∃ (f0 f1 f2 f3 : Field) (st i b u : TypeId), P.underlying t = some (.struct #[f0, f1, f2, f3]) ∧ (f0.offset = 0 ∧ f1.offset = 1 ∧ f2.offset = 2 ∧ f3.offset = 3) ∧ (f0.type = st ∧ f1.type = i ∧ f2.type = i ∧ f3.type = b) ∧ P.underlying st = some .string ∧ P.underlying i = some (.int .i64) ∧ P.underlying b = some (.slice u) ∧ MsgT P u ∧ P.cellsOf st = 1 ∧ P.cellsOf i = 1 ∧ P.cellsOf b = 1 ∧ P.cellsOf t = 4

theorem open_box (T : BoxT P t) (h : DataW.trod enc P w base (fun _ => true) held fuel t cs = some x) : ∃ (m : Bx) (s : SlQ), cs = [.string m.n, .int .i64 m.v, .int .i64 m.x, slW s] ∧ IsMs 0 w s m.m ∧ m.n.size ≤ maxLen := by
  obtain ⟨f0, f1, f2, f3, st, i, b, u, ht, ⟨o0, o1, o2, o3⟩, ⟨t0, t1, t2, t3⟩, hst, hi, hb, hu, cst, ci, cb, ct⟩ := T.ex
  obtain ⟨v0, v1, v2, v3, n, x0, x1, x2, x3, rfl, g0, g1, g2, g3⟩ := open_quad ht o0 o1 o2 o3 (by rw [t0, cst]) (by rw [t1, ci]) (by rw [t2, ci]) (by rw [t3, cb]) ct h
  rw [t0] at g0
  rw [t1] at g1
  rw [t2] at g2
  rw [t3] at g3
  obtain ⟨n0, e0, -, z0⟩ := DataW.trod_string hst g0
  obtain ⟨n1, e1, -, -⟩ := DataW.trod_int hi g1
  obtain ⟨n2, e2, -, -⟩ := DataW.trod_int hi g2
  obtain ⟨s, d, e3, hs⟩ := open_ms hb hu g3
  simp only [List.cons.injEq, and_true] at e0 e1 e2 e3
  subst e0 e1 e2 e3
  exact ⟨⟨n0, n1, n2, d⟩, s, rfl, hs, z0⟩

theorem open_xs (ht : P.underlying t = some (.slice e)) (T : BoxT P e) (h : DataW.trod enc P w base (fun _ => true) held fuel t cs = some x) : ∃ (s : SlQ) (l : List Bx), cs = [slW s] ∧ IsXs 0 w s l ∧ ∀ i, i < l.length → (nthX l i).n.size ≤ maxLen := by
  have ce : P.cellsOf e = 4 := by obtain ⟨_, _, _, _, _, _, _, _, h⟩ := T.ex; exact h.2.2.2.2.2.2.2.2.2.2
  obtain ⟨s, l, h1, h2, h3, h4, h5⟩ := open_quads (⟨ByteArray.empty, 0, 0, []⟩ : Bx) bxQ (fun s m => IsMs 0 w s m.m ∧ m.n.size ≤ maxLen) ht ce (fun n cs y hy => by obtain ⟨m, s, h1, h2⟩ := open_box T hy; exact ⟨m, s, h1, h2⟩) h
  refine ⟨s, l, h1, ⟨h2, h3, h4, ?_⟩, ?_⟩
  · rcases h5 with h5 | ⟨b, off, e, hlt, hc⟩
    · exact .inl h5
    · refine .inr ⟨b, off, e, Nat.zero_le _, hlt, fun i hi => ?_⟩
      obtain ⟨q, hq, hI⟩ := hc i hi
      exact ⟨q, hq, hI.1⟩
  · intro i hi
    rcases h5 with h5 | ⟨b, off, e, hlt, hc⟩
    · rw [h5] at hi; simp at hi
    · obtain ⟨q, hq, hI⟩ := hc i hi
      exact hI.2

/-- A store's type. -/
structure StoT (P : Program) (t : TypeId) : Prop where
  ex : ∃ (f0 f1 : Field) (i b u : TypeId), P.underlying t = some (.struct #[f0, f1]) ∧ (f0.offset = 0 ∧ f1.offset = 1) ∧ (f0.type = i ∧ f1.type = b) ∧ P.underlying i = some (.int .i64) ∧ P.underlying b = some (.slice u) ∧ BoxT P u ∧ P.cellsOf i = 1 ∧ P.cellsOf b = 1 ∧ P.cellsOf t = 2

theorem open_store (T : StoT P t) (h : DataW.trod enc P w base (fun _ => true) held fuel t cs = some x) : ∃ (v : Int) (s : SlQ) (l : List Bx), cs = [.int .i64 v, slW s] ∧ IsXs 0 w s l ∧ ∀ i, i < l.length → (nthX l i).n.size ≤ maxLen := by
  obtain ⟨f0, f1, i, b, u, ht, ⟨o0, o1⟩, ⟨t0, t1⟩, hi, hb, hu, ci, cb, ct⟩ := T.ex
  obtain ⟨xs, n, _, _, hcl, hxl, hfs⟩ := DataW.trod_struct ht h
  rw [ct] at hcl
  have hxl' : xs.length = 2 := hxl
  obtain ⟨v0, v1, rfl⟩ : ∃ v0 v1, cs = [v0, v1] := by
    match cs, hcl with
    | [a, b], _ => exact ⟨a, b, rfl⟩
  have g0 := hfs 0 f0 rfl
  have g1 := hfs 1 f1 rfl
  rw [o0, t0, ci, List.getElem?_eq_getElem (by omega)] at g0
  rw [o1, t1, cb, List.getElem?_eq_getElem (by omega)] at g1
  obtain ⟨n0, e0, -, -⟩ := DataW.trod_int hi g0
  obtain ⟨s, l, e1, hs, hn⟩ := open_xs hb hu g1
  simp only [List.drop_zero, List.take_succ_cons, List.take_zero, List.drop_succ_cons, List.cons.injEq, and_true] at e0 e1
  subst e0 e1
  exact ⟨n0, s, l, rfl, hs, hn⟩
end
end Go.Proofs.YtmidjgpegdodcaaDoor
