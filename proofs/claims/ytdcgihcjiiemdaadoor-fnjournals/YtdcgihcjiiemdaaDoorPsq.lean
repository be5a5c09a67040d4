/- PackOps: the model's function; no conditions beyond those that each fact names. -/
import Derived.Test.YtdcgihcjiiemdaaDoorPso
import Derived.Test.YtdcgihcjiiemdaaDoorPkq
namespace Go.Proofs.YtdcgihcjiiemdaaDoor
open Go.RowKit
set_option linter.unusedVariables false
set_option maxHeartbeats 3200000 in
set_option maxRecDepth 100000 in
theorem specPackOps_any (s : SlQ) (l : List OpR) {lo : Nat} (w : World) (hs : IsOs lo w s l) (hn : s.2.1 ≤ 1048576) (hf : ∀ i, i < l.length → (nthO l i).x.size ≤ 1048576 ∧ (nthO l i).t.size ≤ 1048576) :
  Calls Tryd.prog 20 #[slW s] w fun e w' => PkEnd (poV l) w e w' := by
 obtain ⟨a, n, cap⟩ := s
 obtain ⟨hl, hnc, hcm, hr⟩ := hs
 dsimp only [slW] at *
 have HL : Hid (l.length = n) := hl
 have HV : Hid (poV l = if fcL l = 0 then (if 8000 < (paL l).length then (2, []) else (0, paL l)) else (fcL l, [])) := rfl
 obtain ⟨W, hW⟩ : ∃ W, w.alloc (.cells #[.int .i64 0, .slice none 0 0] 33) = W := ⟨_, rfl⟩
 have hsW : W.heap.size = w.heap.size + 1 := by rw [← hW]; simp
 have hb0 : Below w.heap.size w W := by rw [← hW]; exact (Below.refl _ _).alloc (Nat.le_refl _) _
 have HRB : Hid (∀ wr, Below (w.heap.size + 1) W wr → _) := fun wr hb => res_block hW hb
 have HBW : Hid (∀ wr, Below (w.heap.size + 1) W wr → Below w.heap.size w wr) := fun wr hb => hb0.trans (hb.mono (by omega))
 have HRO : Hid (∀ wr, Below (w.heap.size + 1) W wr → RdO lo wr a l) := fun wr hb => hr.below (HBW.out wr hb)
 have HF : Hid (∀ i, i < l.length → (nthO l i).x.size ≤ 1048576 ∧ (nthO l i).t.size ≤ 1048576) := hf
 have HE : Hid (∀ (r : Int × List Nat) (wr : World) (v : Value), Below (w.heap.size + 1) W wr → GrJ wr (w.heap.size + 1) v r.2 → poV l = r → PkEnd (poV l) w (.returned (.agg #[.int .i64 r.1, v])) ((wr.setCell ⟨w.heap.size, 0, none⟩ (.int .i64 r.1)).setCell ⟨w.heap.size, 1, none⟩ v)) := fun r wr v hb hg he => by
  rw [he]
  exact ⟨v, rfl, pk_end (Nat.le_refl _) (Nat.lt_succ_self _) (HBW.out wr hb) hg⟩
 have hB1 : Below (w.heap.size + 1) W (W.alloc (.cells #[] 5)) := (Below.refl _ _).alloc (by omega) _
 have hG1 : Gr (W.alloc (.cells #[] 5)) (w.heap.size + 1) (.slice (some ⟨W.heap.size, 0, none⟩) 0 0) [] := Gr.zeros W (w.heap.size + 1) 0 (by omega) #[] (by simp) (Nat.zero_le _)
 rw [hsW] at hG1
 generalize poV l = r at *
 clear hr hf hl hb0
 go_enter Tryd.func20, Tryd.ntmps20
 go_wp2
 generalize W.alloc (.cells #[] 5) = W1 at *
 go_loopw [3, 4] (fun v i wr => ∃ (j : Nat) (acc : List Nat), j ≤ n ∧ i = .int .i64 j ∧ acc = paL (l.take j) ∧ acc.length ≤ 8642 ∧ (∀ i, i < j → ofV (nthO l i) = 0) ∧ Gr wr (w.heap.size + 1) v acc ∧ Below (w.heap.size + 1) W wr) (fun _ i _ => n - (intOf i).toNat)
 case atStart => exact ⟨0, [], Nat.zero_le _, rfl, rfl, by simp, fun i hi => absurd hi (Nat.not_lt_zero _), hG1, hB1⟩
 case round =>
  obtain ⟨j, acc, hj, rfl, hacc, hal, hall, hac, hbr⟩ := hrel
  clear hG1 hB1
  have HACC : Hid (acc = paL (l.take j)) := hacc
  have HALL : Hid (∀ i, i < j → ofV (nthO l i) = 0) := hall
  clear hacc hall
  have hzr : w.heap.size + 1 ≤ wr.heap.size := by have := hbr.size; omega
  by_cases hjn : j < n
  ·have hji : (j : Int) < (n : Int) := by omega
   have hjl : j < l.length := by rw [HL.out]; exact hjn
   obtain ⟨b, off, ea, -, hblt, hcell⟩ := (HRO.out wr hbr).at_ (by omega)
   subst ea
   obtain ⟨p, ⟨c0, c1, c2, c3, c4, c5, c6, c7⟩, hop⟩ := hcell j hjl
   have hfj := HF.out j hjl
   have HSN : Hid (paL (l.take (j + 1)) = paS acc (nthO l j)) := by show _ = _; rw [paL_snoc l j hjl, ← HACC.out]
   have HBD : Hid (ofV (nthO l j) ≠ 0 → fcL l = ofV (nthO l j)) := fun h => fcL_bad l j hjl HALL.out h
   have HAL2 : Hid (ofV (nthO l j) = 0 → ∀ i, i < j + 1 → ofV (nthO l i) = 0) := fun h i hi => by
    rcases Nat.lt_or_ge i j with h' | h'
    ·exact HALL.out i h'
    ·obtain rfl : i = j := by omega
     exact h
   have hq : Qp wr b (off + j * 8) (opQ (nthO l j) p) := ⟨c0, c1, c2, c3, c4, c5, c6, c7⟩
   clear hcell c0 c1 c2 c3 c4 c5 c6 c7
   generalize nthO l j = o at *
   have HFT := l8Fault_at o p b (off + j * 8) wr hop hq hfj.1 hfj.2
   have HPL : Hid (ofV o = 0 → 14 ≤ (pkO o).length ∧ (pkO o).length ≤ 642) := fun h => pkO_le h
   have HPK : Hid (ofV o = 0 → ∀ x, Below wr.heap.size wr x → Calls Tryd.prog 23 #[.pointer (some ⟨b, off + j * 8, none⟩)] x fun e w' => ApEnd x.heap.size (pkO o) x e w') := fun h x hx => l9Pack_at o p b (off + j * 8) x (hop.below hx) (hq.below hx hblt) (okJ h)
   clear hop hq
   go_wp2_with fail
   refine HFT.mono ?_
   rintro e w1 ⟨rfl, b1⟩
   have hB1 := hbr.trans (b1.mono hzr)
   have hac1 := hac.below b1 (Nat.le_refl _)
   have hz1 : w.heap.size + 1 ≤ w1.heap.size := by have := hB1.size; omega
   clear HFT hac
   by_cases hc : ofV o = 0
   ·obtain ⟨hp1, hp2⟩ := HPL.out hc
    have HPK1 := HPK.out hc w1 b1
    have HA2 : Hid (∀ i, i < j + 1 → ofV (nthO l i) = 0) := HAL2.out hc
    obtain ⟨ga, ca, rfl, -⟩ := id hac1
    by_cases h8 : acc.length ≤ 8000
    ·have HS2 : Hid (paL (l.take (j + 1)) = acc ++ pkO o) := HSN.out.trans (if_pos h8)
     have h8i : (acc.length : Int) ≤ 8000 := by omega
     have HLN : Hid ((acc ++ pkO o).length ≤ 8642) := by show _ ≤ _; rw [List.length_append]; omega
     clear HPL HSN HBD HAL2 HPK
     rw [hc]
     generalize pkO o = pk at *
     generalize hcc : ofV o = c at *
     clear hcc
     go_wp2_with fail
     refine HPK1.mono ?_
     rintro e w2 ⟨v2, rfl, hg2, b2⟩
     have hB2 := hB1.trans (b2.mono hz1)
     have hac2 := hac1.below b2 (Nat.le_refl _)
     obtain ⟨g2, cp2, rfl, -, -, hcv2⟩ := hg2
     have hz2 : w.heap.size + 1 ≤ w2.heap.size := by have := hB2.size; omega
     have hrd2 := hcv2.rd
     clear HPK1 hcv2 b2 hac1
     go_wp2_with (at_builtin; refine wpList_app_grx rfl _ _ 22 rfl (w.heap.size + 1) _ acc (by rfl) hac2 _ _ pk (by rfl) (src_slice rfl hrd2 (fun h => by cases h)) rfl (by omega) hz2 ?_; intro v3 w3 hg3 b3; have hB3 := hB2.trans b3)
     go_roundw
     case rel => exact ⟨j + 1, acc ++ pk, by omega, by go_num, HS2.out.symm, HLN.out, HA2.out, hg3, hB3⟩
     case measure => simp [intOf]; omega
    ·have HS2 : Hid (paL (l.take (j + 1)) = acc) := HSN.out.trans (if_neg h8)
     have h8i : ¬ (acc.length : Int) ≤ 8000 := by omega
     clear HPL HSN HBD HAL2 HPK HPK1
     rw [hc]
     go_wp2
     go_roundw
     case rel => exact ⟨j + 1, acc, by omega, by go_num, HS2.out.symm, hal, HA2.out, hac1, hB1⟩
     case measure => simp [intOf]; omega
   ·have HR : Hid (r = (ofV o, [])) := HV.out.trans (by rw [HBD.out hc, if_neg hc])
    obtain ⟨a0, a1, y0, y1⟩ := HRB.out w1 hB1
    generalize ofV o = c at *
    obtain ⟨x0, x1⟩ := res_cells a0 a1 (.int .i64 c) (.slice none 0 0)
    have HEH : Hid (_) := HE.out (c, []) w1 (.slice none 0 0) hB1 (.inl ⟨rfl, rfl⟩) HR.out
    clear HPL HSN HBD HAL2 HPK HV HR
    go_wp2
    refine bodyPost_ret (v := .agg #[.int .i64 c, .slice none 0 0]) (by simp [results, Tryd.results20, go_sem, x0, x1]) rfl ?_
    exact HEH.out
  ·have hji : ¬ (j : Int) < (n : Int) := by omega
   have HACC2 : Hid (acc = paL l) := by show _ = _; rw [HACC.out, List.take_of_length_le (by rw [HL.out]; omega)]
   have HFC : Hid (fcL l = 0) := fcL_ok l (fun i hi => HALL.out i (by rw [HL.out] at hi; omega))
   obtain ⟨ga, ca, rfl, -⟩ := id hac
   obtain ⟨a0, a1, y0, y1⟩ := HRB.out wr hbr
   by_cases h8 : 8000 < acc.length
   ·have h8i : (acc.length : Int) > 8000 := by omega
    have HR : Hid (r = (2, [])) := HV.out.trans (by rw [HFC.out, if_pos rfl, ← HACC2.out, if_pos h8])
    obtain ⟨x0, x1⟩ := res_cells a0 a1 (.int .i64 2) (.slice none 0 0)
    have HEH : Hid (_) := HE.out (2, []) wr (.slice none 0 0) hbr (.inl ⟨rfl, rfl⟩) HR.out
    clear HV HR HACC HACC2
    go_wp2
    refine bodyPost_ret (v := .agg #[.int .i64 2, .slice none 0 0]) (by simp [results, Tryd.results20, go_sem, x0, x1]) rfl ?_
    exact HEH.out
   ·have h8i : ¬ (acc.length : Int) > 8000 := by omega
    have HR : Hid (r = (0, acc)) := HV.out.trans (by rw [HFC.out, if_pos rfl, ← HACC2.out, if_neg h8])
    obtain ⟨x0, x1⟩ := res_cells a0 a1 (.int .i64 0) (.slice (some ⟨ga, 0, none⟩) acc.length ca)
    have HEH : Hid (_) := HE.out (0, acc) wr (.slice (some ⟨ga, 0, none⟩) acc.length ca) hbr (.inr hac) HR.out
    clear HV HR HACC HACC2
    go_wp2
    refine bodyPost_ret (v := .agg #[.int .i64 0, .slice (some ⟨ga, 0, none⟩) acc.length ca]) (by simp [results, Tryd.results20, go_sem, x0, x1]) rfl ?_
    exact HEH.out
end Go.Proofs.YtdcgihcjiiemdaaDoor
