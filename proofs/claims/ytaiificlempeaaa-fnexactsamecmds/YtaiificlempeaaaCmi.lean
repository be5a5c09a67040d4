/- Commands that came in: what the row tells of them gives their cells; no program in it. -/
import Derived.Test.YtaiificlempeaaaCmo
import Derived.Test.YtaiificlempeaaaTmi
namespace Go.Proofs.Ytaiificlempeaaa
open Go.RowKit Go.ChangeShapes
section
variable {H : Type} {enc : TypeId × Value → H} {P : Program} {w : World} {base : Nat} {held : Bool} {fuel : Nat} {t : TypeId} {cs : List Value} {x : DataW H × List MemPlace}

/-- A command's type. -/
structure CmT (P : Program) (t : TypeId) : Prop where
  ex : ∃ (f0 f1 f2 f3 f4 f5 f6 f7 f8 f9 f10 f11 f12 f13 g0 g1 : Field) (i s bo li lb lu ly y u e : TypeId), P.underlying t = some (.struct #[f0, f1, f2, f3, f4, f5, f6, f7, f8, f9, f10, f11, f12, f13]) ∧ (f0.offset = 0 ∧ f1.offset = 1 ∧ f2.offset = 2 ∧ f3.offset = 3 ∧ f4.offset = 4 ∧ f5.offset = 5 ∧ f6.offset = 6 ∧ f7.offset = 7 ∧ f8.offset = 8 ∧ f9.offset = 9 ∧ f10.offset = 10 ∧ f11.offset = 11 ∧ f12.offset = 12 ∧ f13.offset = 13) ∧ (f0.type = s ∧ f1.type = i ∧ f2.type = s ∧ f3.type = ly ∧ f4.type = i ∧ f5.type = i ∧ f6.type = i ∧ f7.type = lb ∧ f8.type = i ∧ f9.type = li ∧ f10.type = i ∧ f11.type = bo ∧ f12.type = lu ∧ f13.type = i) ∧ P.underlying i = some (.int .i64) ∧ P.underlying s = some .string ∧ P.underlying bo = some .bool ∧ P.underlying li = some (.slice i) ∧ P.underlying lb = some (.slice u) ∧ P.underlying u = some (.int .u8) ∧ P.underlying ly = some (.slice y) ∧ P.underlying y = some (.struct #[g0, g1]) ∧ (g0.type = i ∧ g1.type = i ∧ g0.offset = 0 ∧ g1.offset = 1) ∧ P.underlying lu = some (.slice e) ∧ TmT P e ∧ (P.cellsOf i = 1 ∧ P.cellsOf s = 1 ∧ P.cellsOf bo = 1 ∧ P.cellsOf li = 1 ∧ P.cellsOf lb = 1 ∧ P.cellsOf ly = 1 ∧ P.cellsOf lu = 1 ∧ P.cellsOf u = 1 ∧ P.cellsOf y = 2 ∧ P.cellsOf t = 14)

theorem open_cm (T : CmT P t) (h : DataW.trod enc P w base (fun _ => true) held fuel t cs = some x) : ∃ (o : CmR) (p : SlC), cs = [.string o.t, .int .i64 o.k, .string o.n, slW p.1, .int .i64 o.m, .int .i64 o.f, .int .i64 o.d, slW p.2.1, .int .i64 o.h, slW p.2.2.1, .int .i64 o.e, .bool o.r, slW p.2.2.2, .int .i64 o.c] ∧ IsCm 0 w p o ∧ OkC o := by
  obtain ⟨f0, f1, f2, f3, f4, f5, f6, f7, f8, f9, f10, f11, f12, f13, g0', g1', i, s, bo, li, lb, lu, ly, y, u, e, ht, ⟨o0, o1, o2, o3, o4, o5, o6, o7, o8, o9, o10, o11, o12, o13⟩, ⟨t0, t1, t2, t3, t4, t5, t6, t7, t8, t9, t10, t11, t12, t13⟩, hi, hs, hbo, hli, hlb, hu, hly, hy, ⟨y0, y1, y2, y3⟩, hlu, hTm, ⟨ci, cs', cbo, cli, clb, cly, clu, cu, cy, ct⟩⟩ := T.ex
  obtain ⟨xs, n, _, _, hcl, hxl, hfs⟩ := DataW.trod_struct ht h
  rw [ct] at hcl
  have hxl' : xs.length = 14 := hxl
  obtain ⟨v0, v1, v2, v3, v4, v5, v6, v7, v8, v9, v10, v11, v12, v13, rfl⟩ : ∃ v0 v1 v2 v3 v4 v5 v6 v7 v8 v9 v10 v11 v12 v13, cs = [v0, v1, v2, v3, v4, v5, v6, v7, v8, v9, v10, v11, v12, v13] := by
    match cs, hcl with
    | [a0, a1, a2, a3, a4, a5, a6, a7, a8, a9, a10, a11, a12, a13], _ => exact ⟨a0, a1, a2, a3, a4, a5, a6, a7, a8, a9, a10, a11, a12, a13, rfl⟩
  have g0 := hfs 0 f0 rfl
  rw [o0, t0, cs', List.getElem?_eq_getElem (by omega)] at g0
  have g1 := hfs 1 f1 rfl
  rw [o1, t1, ci, List.getElem?_eq_getElem (by omega)] at g1
  have g2 := hfs 2 f2 rfl
  rw [o2, t2, cs', List.getElem?_eq_getElem (by omega)] at g2
  have g3 := hfs 3 f3 rfl
  rw [o3, t3, cly, List.getElem?_eq_getElem (by omega)] at g3
  have g4 := hfs 4 f4 rfl
  rw [o4, t4, ci, List.getElem?_eq_getElem (by omega)] at g4
  have g5 := hfs 5 f5 rfl
  rw [o5, t5, ci, List.getElem?_eq_getElem (by omega)] at g5
  have g6 := hfs 6 f6 rfl
  rw [o6, t6, ci, List.getElem?_eq_getElem (by omega)] at g6
  have g7 := hfs 7 f7 rfl
  rw [o7, t7, clb, List.getElem?_eq_getElem (by omega)] at g7
  have g8 := hfs 8 f8 rfl
  rw [o8, t8, ci, List.getElem?_eq_getElem (by omega)] at g8
  have g9 := hfs 9 f9 rfl
  rw [o9, t9, cli, List.getElem?_eq_getElem (by omega)] at g9
  have g10 := hfs 10 f10 rfl
  rw [o10, t10, ci, List.getElem?_eq_getElem (by omega)] at g10
  have g11 := hfs 11 f11 rfl
  rw [o11, t11, cbo, List.getElem?_eq_getElem (by omega)] at g11
  have g12 := hfs 12 f12 rfl
  rw [o12, t12, clu, List.getElem?_eq_getElem (by omega)] at g12
  have g13 := hfs 13 f13 rfl
  rw [o13, t13, ci, List.getElem?_eq_getElem (by omega)] at g13
  obtain ⟨n0, e0, -, z0⟩ := DataW.trod_string hs g0
  obtain ⟨n1, e1, -, -⟩ := DataW.trod_int hi g1
  obtain ⟨n2, e2, -, z2⟩ := DataW.trod_string hs g2
  obtain ⟨q3, d3, e3, hs3⟩ := open_yl hly hy hi y0 y1 y2 y3 ci cy g3
  obtain ⟨n4, e4, -, -⟩ := DataW.trod_int hi g4
  obtain ⟨n5, e5, -, -⟩ := DataW.trod_int hi g5
  obtain ⟨n6, e6, -, -⟩ := DataW.trod_int hi g6
  obtain ⟨q7, d7, e7, hs7⟩ := open_sl hlb hu cu g7
  obtain ⟨n8, e8, -, -⟩ := DataW.trod_int hi g8
  obtain ⟨q9, d9, e9, hs9⟩ := open_il hli hi ci g9
  obtain ⟨n10, e10, -, -⟩ := DataW.trod_int hi g10
  obtain ⟨n11, e11, -⟩ := DataW.trod_bool hbo g11
  obtain ⟨q12, d12, e12, hs12⟩ := open_ts hlu hTm g12
  obtain ⟨n13, e13, -, -⟩ := DataW.trod_int hi g13
  simp only [List.drop_zero, List.take_succ_cons, List.take_zero, List.drop_succ_cons, List.cons.injEq, and_true] at e0 e1 e2 e3 e4 e5 e6 e7 e8 e9 e10 e11 e12 e13
  subst e0 e1 e2 e3 e4 e5 e6 e7 e8 e9 e10 e11 e12 e13
  exact ⟨⟨n0, n1, n2, d3, n4, n5, n6, d7, n8, d9, n10, n11, d12, n13⟩, (q3, q7, q9, q12), rfl, ⟨hs3, hs7, hs9, hs12⟩, z0, z2⟩
end
end Go.Proofs.Ytaiificlempeaaa
