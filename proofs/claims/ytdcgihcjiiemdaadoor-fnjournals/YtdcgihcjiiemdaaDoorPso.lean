/- PackOps: the program's function, and what it answers in plain words; the condition: the table of what each kind has lies in its variable. -/
import Derived.Test.YtdcgihcjiiemdaaDoorPkn
import Derived.Test.YtdcgihcjiiemdaaDoorDjrToOpa
namespace Go.Proofs.YtdcgihcjiiemdaaDoor
open Go.RowKit
set_option linter.unusedVariables false
def paS (acc : List Nat) (o : OpR) : List Nat := if acc.length ≤ 8000 then acc ++ pkO o else acc
def paL (l : List OpR) : List Nat := l.foldl paS []
def fcL : List OpR → Int
 | [] => 0
 | o :: l => if ofV o = 0 then fcL l else ofV o
def poV (l : List OpR) : Int × List Nat := if fcL l = 0 then (if 8000 < (paL l).length then (2, []) else (0, paL l)) else (fcL l, [])
theorem paL_snoc (l : List OpR) (k : Nat) (h : k < l.length) : paL (l.take (k + 1)) = paS (paL (l.take k)) (nthO l k) := by
 rw [List.take_succ_eq_append_getElem h, nthO_get h]
 unfold paL
 rw [List.foldl_append]
 rfl
theorem fcL_bad : ∀ (l : List OpR) (k : Nat), k < l.length → (∀ i, i < k → ofV (nthO l i) = 0) → ofV (nthO l k) ≠ 0 → fcL l = ofV (nthO l k)
 | [], k, h, _, _ => by simp at h
 | o :: l, 0, _, _, hb => by
  have e : nthO (o :: l) 0 = o := rfl
  rw [e] at hb ⊢
  show (if ofV o = 0 then fcL l else ofV o) = _
  rw [if_neg hb]
 | o :: l, k + 1, h, ha, hb => by
  have e : ∀ i, nthO (o :: l) (i + 1) = nthO l i := fun i => rfl
  have h0 := ha 0 (by omega)
  show (if ofV o = 0 then fcL l else ofV o) = _
  rw [if_pos (show ofV o = 0 from h0)]
  exact fcL_bad l k (by simpa using h) (fun i hi => ha (i + 1) (by omega)) hb
theorem fcL_ok : ∀ (l : List OpR), (∀ i, i < l.length → ofV (nthO l i) = 0) → fcL l = 0
 | [], _ => rfl
 | o :: l, h => by
  have h0 := h 0 (by simp)
  show (if ofV o = 0 then fcL l else ofV o) = 0
  rw [if_pos (show ofV o = 0 from h0)]
  exact fcL_ok l (fun i hi => h (i + 1) (by simpa using hi))
theorem pkO_le {o : OpR} (h : ofV o = 0) : 14 ≤ (pkO o).length ∧ (pkO o).length ≤ 642 := by
 have hk := okJ h
 have h1 := hk.x; have h2 := hk.t; have h3 := hk.u; have h4 := hk.b
 rw [pkO_len]; omega
def AcJ (w : World) (B : Nat) (v : Value) (acc : List Nat) : Prop := (v = .slice none 0 0 ∧ acc = []) ∨ (0 < acc.length ∧ Own w B v acc)
theorem AcJ.own {w : World} {B : Nat} {v : Value} {acc : List Nat} (h : AcJ w B v acc) : Own w B v acc := by
 rcases h with ⟨rfl, rfl⟩ | ⟨-, h⟩
 ·exact Own.nil _ _
 ·exact h
theorem AcJ.below {w w' : World} {B C : Nat} {v : Value} {acc : List Nat} (h : AcJ w B v acc) (hb : Below C w w') (hC : w.heap.size ≤ C) : AcJ w' B v acc := h.imp id (fun h => ⟨h.1, h.2.below hb hC⟩)
theorem AcJ.gr {w : World} {B : Nat} {v : Value} {acc : List Nat} (h : AcJ w B v acc) : GrJ w B v acc := h.imp id (fun h => Gr.own h.2 h.1)
set_option maxHeartbeats 3200000 in
set_option maxRecDepth 100000 in
theorem packOps_any (s : SlQ) (l : List OpR) {lo : Nat} (w : World) (hs : IsOs lo w s l) (hn : s.2.1 ≤ 1048576) (hT : TabH8 w) (hf : ∀ i, i < l.length → (nthO l i).x.size ≤ 1048576 ∧ (nthO l i).t.size ≤ 1048576) :
  Calls Tryd.prog 18 #[slW s] w fun e w' => PkEnd (poV l) w e w' := by
 obtain ⟨a, n, cap⟩ := s
 obtain ⟨hl, hnc, hcm, hr⟩ := hs
 dsimp only [slW] at *
 have HL : Hid (l.length = n) := hl
 have HV : Hid (poV l = if fcL l = 0 then (if 8000 < (paL l).length then (2, []) else (0, paL l)) else (fcL l, [])) := rfl
 obtain ⟨W, hW⟩ : ∃ W, w.alloc (.cells #[.int .i64 0, .slice none 0 0] 33) = W := ⟨_, rfl⟩
 have hsW : W.heap.size = w.heap.size + 1 := by rw [← hW]; simp
 have hb0 : Below w.heap.size w W := by rw [← hW]; exact (Below.refl _ _).alloc (Nat.le_refl _) _
 have HRB : Hid (∀ wr, Below (w.heap.size + 1) W wr → _) := fun wr hb => res_block hW hb
 have HBW : Hid (∀ wr, Below (w.heap.size + 1) W wr → Below w.heap.size w wr) := fun wr hb => hb0.trans (hb.mono (by omega))
 have HRO : Hid (∀ wr, Below (w.heap.size + 1) W wr → RdO lo wr a l ∧ TabH8 wr) := fun wr hb => ⟨hr.below (HBW.out wr hb), hT.below (HBW.out wr hb)⟩
 have HF : Hid (∀ i, i < l.length → (nthO l i).x.size ≤ 1048576 ∧ (nthO l i).t.size ≤ 1048576) := hf
 have HE : Hid (∀ (r : Int × List Nat) (wr : World) (v : Value), Below (w.heap.size + 1) W wr → GrJ wr (w.heap.size + 1) v r.2 → poV l = r → PkEnd (poV l) w (.returned (.agg #[.int .i64 r.1, v])) ((wr.setCell ⟨w.heap.size, 0, none⟩ (.int .i64 r.1)).setCell ⟨w.heap.size, 1, none⟩ v)) := fun r wr v hb hg he => by
  rw [he]
  exact ⟨v, rfl, pk_end (Nat.le_refl _) (Nat.lt_succ_self _) (HBW.out wr hb) hg⟩
 generalize poV l = r at *
 clear hr hT hf hl hb0
 go_enter Tryd.func18, Tryd.ntmps18
 go_wp2
 go_loopw [3, 9] (fun v i wr => ∃ (j : Nat) (acc : List Nat), j ≤ n ∧ i = .int .i64 j ∧ acc = paL (l.take j) ∧ acc.length ≤ 8642 ∧ (∀ i, i < j → ofV (nthO l i) = 0) ∧ AcJ wr (w.heap.size + 1) v acc ∧ Below (w.heap.size + 1) W wr) (fun _ i _ => n - (intOf i).toNat)
 case atStart => exact ⟨0, [], Nat.zero_le _, rfl, rfl, by simp, fun i hi => absurd hi (Nat.not_lt_zero _), .inl ⟨rfl, rfl⟩, Below.refl _ _⟩
 case round =>
  obtain ⟨j, acc, hj, rfl, hacc, hal, hall, hac, hbr⟩ := hrel
  have HACC : Hid (acc = paL (l.take j)) := hacc
  have HALL : Hid (∀ i, i < j → ofV (nthO l i) = 0) := hall
  clear hacc hall
  have hzr : w.heap.size + 1 ≤ wr.heap.size := by have := hbr.size; omega
  by_cases hjn : j < n
  ·have hji : (j : Int) < (n : Int) := by omega
   have hjl : j < l.length := by rw [HL.out]; exact hjn
   obtain ⟨hro, hT⟩ := HRO.out wr hbr
   obtain ⟨b, off, ea, -, hblt, hcell⟩ := hro.at_ (by omega)
   subst ea
   obtain ⟨p, ⟨c0, c1, c2, c3, c4, c5, c6, c7⟩, hop⟩ := hcell j hjl
   have hfj := HF.out j hjl
   have HSN : Hid (paL (l.take (j + 1)) = paS acc (nthO l j)) := by show _ = _; rw [paL_snoc l j hjl, ← HACC.out]
   have HBD : Hid (ofV (nthO l j) ≠ 0 → fcL l = ofV (nthO l j)) := fun h => fcL_bad l j hjl HALL.out h
   have HAL2 : Hid (ofV (nthO l j) = 0 → ∀ i, i < j + 1 → ofV (nthO l i) = 0) := fun h i hi => by
    rcases Nat.lt_or_ge i j with h' | h'
    ·exact HALL.out i h'
    ·obtain rfl : i = j := by omega
     exact h
   clear hcell hro
   generalize nthO l j = o at *
   obtain ⟨W1, hW1⟩ : ∃ W1, wr.alloc (.cells #[.int .i64 o.k, .string o.x, .string o.t, slW p.1, .int .i64 o.m, .int .i64 o.f, .int .i64 o.d, slW p.2] 27) = W1 := ⟨_, rfl⟩
   have b1 : Below wr.heap.size wr W1 := by rw [← hW1]; exact (Below.refl _ _).alloc (Nat.le_refl _) _
   have hQ1 : Qo W1 wr.heap.size (opQ o p) := by rw [← hW1]; exact Qo.new _ _ _ _ _ _ _ _ _ _
   have HP := packOp_any o p W1 (hop.below b1) (hT.below b1) hfj.1 hfj.2
   obtain ⟨d0, d1, d2, d3, d4, d5, d6, d7⟩ := hQ1
   dsimp only at d0 d1 d2 d3 d4 d5 d6 d7
   have HPV : Hid (pkV o = if ofV o = 0 then (0, pkO o) else (ofV o, [])) := rfl
   have HPL : Hid (ofV o = 0 → 14 ≤ (pkO o).length ∧ (pkO o).length ≤ 642) := fun h => pkO_le h
   generalize hpv : pkV o = pv at *
   clear hop hT
   go_wp2_with fail
   refine HP.mono ?_
   rintro e w2 ⟨v2, rfl, hg2, hb2⟩
   obtain ⟨a2, cp2, rfl, hrd2, -⟩ := hg2.wr 0
   have hB2 : Below (w.heap.size + 1) W w2 := hbr.trans ((b1.trans (hb2.mono b1.size)).mono hzr)
   have hac2 := (hac.below b1 (Nat.le_refl _)).below hb2 (Nat.le_refl _)
   obtain ⟨W3, hW3⟩ : ∃ W3, w2.alloc (.cells #[.int .i64 pv.1, .slice a2 pv.2.length cp2] 33) = W3 := ⟨_, rfl⟩
   have b3 : Below w2.heap.size w2 W3 := by rw [← hW3]; exact (Below.refl _ _).alloc (Nat.le_refl _) _
   have hz2 : w.heap.size + 1 ≤ w2.heap.size := by have := hB2.size; omega
   have hB3 := hB2.trans (b3.mono hz2)
   have hac3 := hac2.below b3 (Nat.le_refl _)
   have hrd3 := hrd2.below b3
   have k0 : W3.cell? ⟨w2.heap.size, 0, none⟩ = some (.int .i64 pv.1) := by rw [← hW3]; simp
   have k1 : W3.cell? ⟨w2.heap.size, 1, none⟩ = some (.slice a2 pv.2.length cp2) := by rw [← hW3]; simp
   clear HP d0 d1 d2 d3 d4 d5 d6 d7 c0 c1 c2 c3 c4 c5 c6 c7 hg2 hrd2 hac hac2 hb2 b1 b3 hB2
   by_cases hc : ofV o = 0
   ·obtain rfl : pv = (0, pkO o) := HPV.out.trans (if_pos hc)
    dsimp only at k0 k1 hrd3 hW3 ⊢
    obtain ⟨hp1, hp2⟩ := HPL.out hc
    by_cases h8 : acc.length ≤ 8000
    ·have hal' : acc.length ≤ 8000 := h8
     have HS2 : Hid (paL (l.take (j + 1)) = acc ++ pkO o) := HSN.out.trans (if_pos h8)
     obtain ⟨va, ca, rfl, -, -⟩ := id hac3.own.form
     have h8i : (acc.length : Int) ≤ 8000 := by omega
     obtain ⟨b3, off3, ea3, -, hcc⟩ := hrd3.at_ (by omega)
     subst ea3
     have HNW : Hid (∀ i, i < (pkO o).length → W3.cell? ((⟨b3, off3, none⟩ : Addr).add i) = some (.int .u8 (nth (pkO o) i : Int))) := fun i hi => by rw [Go.WideShapes.add_plain]; exact hcc i hi
     have HA2 : Hid (∀ i, i < j + 1 → ofV (nthO l i) = 0) := HAL2.out hc
     have hzz : w.heap.size + 1 ≤ W3.heap.size := by have := hB3.size; omega
     have HLN : Hid ((acc ++ pkO o).length ≤ 8642) := by show _ ≤ _; rw [List.length_append]; omega
     have HPS : Hid (0 < (acc ++ pkO o).length) := by show _ < _; rw [List.length_append]; omega
     clear HPV HPL HSN HBD HAL2 hcc hrd3
     generalize pkO o = pk at *
     go_wp2_with (at_builtin; refine wpList_app rfl _ _ rfl (w.heap.size + 1) _ acc rfl hac3.own ⟨b3, off3, none⟩ pk.length cp2 pk rfl rfl HNW.out (by omega) hzz ?_; intro v4 w4 hO4 hb4; have hB4 := hB3.trans hb4)
     go_roundw
     case rel => exact ⟨j + 1, acc ++ pk, by omega, by go_num, HS2.out.symm, HLN.out, HA2.out, .inr ⟨HPS.out, hO4⟩, hB4⟩
     case measure => simp [intOf]; omega
    ·have HS2 : Hid (paL (l.take (j + 1)) = acc) := HSN.out.trans (if_neg h8)
     obtain ⟨va, ca, rfl, -, -⟩ := id hac3.own.form
     have h8i : ¬ (acc.length : Int) ≤ 8000 := by omega
     have HA2 : Hid (∀ i, i < j + 1 → ofV (nthO l i) = 0) := HAL2.out hc
     clear HPV HPL HSN HBD HAL2 hrd3
     go_wp2
     go_roundw
     case rel => exact ⟨j + 1, acc, by omega, by go_num, HS2.out.symm, hal, HA2.out, hac3, hB3⟩
     case measure => simp [intOf]; omega
   ·obtain rfl : pv = (ofV o, []) := HPV.out.trans (if_neg hc)
    dsimp only [List.length_nil] at k0 k1 hW3 ⊢
    have HR : Hid (r = (ofV o, [])) := HV.out.trans (by rw [HBD.out hc, if_neg hc])
    obtain ⟨a0, a1, y0, y1⟩ := HRB.out W3 hB3
    generalize ofV o = c at *
    obtain ⟨x0, x1⟩ := res_cells a0 a1 (.int .i64 c) (.slice none 0 0)
    have HEE := HE.out (c, []) W3 (.slice none 0 0) hB3 (.inl ⟨rfl, rfl⟩) HR.out
    have HEH : Hid (_) := HEE
    clear HPV HPL HSN HBD HAL2 hrd3 HEE HV HR
    go_wp2
    refine bodyPost_ret (v := .agg #[.int .i64 c, .slice none 0 0]) (by simp [results, Tryd.results18, go_sem, x0, x1]) rfl ?_
    exact HEH.out
  ·have hji : ¬ (j : Int) < (n : Int) := by omega
   have HACC2 : Hid (acc = paL l) := by show _ = _; rw [HACC.out, List.take_of_length_le (by rw [HL.out]; omega)]
   have HFC : Hid (fcL l = 0) := fcL_ok l (fun i hi => HALL.out i (by rw [HL.out] at hi; omega))
   obtain ⟨va, ca, rfl, -, -⟩ := id hac.own.form
   obtain ⟨a0, a1, y0, y1⟩ := HRB.out wr hbr
   by_cases h8 : 8000 < acc.length
   ·have h8i : (acc.length : Int) > 8000 := by omega
    have HR : Hid (r = (2, [])) := HV.out.trans (by rw [HFC.out, if_pos rfl, ← HACC2.out, if_pos h8])
    obtain ⟨x0, x1⟩ := res_cells a0 a1 (.int .i64 2) (.slice none 0 0)
    have HEH : Hid (_) := HE.out (2, []) wr (.slice none 0 0) hbr (.inl ⟨rfl, rfl⟩) HR.out
    clear HV HR HACC HACC2
    go_wp2
    refine bodyPost_ret (v := .agg #[.int .i64 2, .slice none 0 0]) (by simp [results, Tryd.results18, go_sem, x0, x1]) rfl ?_
    exact HEH.out
   ·have h8i : ¬ (acc.length : Int) > 8000 := by omega
    have HR : Hid (r = (0, acc)) := HV.out.trans (by rw [HFC.out, if_pos rfl, ← HACC2.out, if_neg h8])
    obtain ⟨x0, x1⟩ := res_cells a0 a1 (.int .i64 0) (.slice va acc.length ca)
    have HEH : Hid (_) := HE.out (0, acc) wr (.slice va acc.length ca) hbr hac.gr HR.out
    clear HV HR HACC HACC2
    go_wp2
    refine bodyPost_ret (v := .agg #[.int .i64 0, .slice va acc.length ca]) (by simp [results, Tryd.results18, go_sem, x0, x1]) rfl ?_
    exact HEH.out
end Go.Proofs.YtdcgihcjiiemdaaDoor
