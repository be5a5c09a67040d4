/- The text of a command, the program's; no conditions beyond those that each fact names. -/
import Derived.Test.YtjogclofjollnaaGreatDoorCtp
namespace Go.Proofs.YtjogclofjollnaaGreatDoor
open Go.RowKit
set_option linter.unusedVariables false
set_option maxHeartbeats 6400000 in
set_option maxRecDepth 100000 in
theorem tellCmd_any (o : CmR) (p : SlC) {lo : Nat} (w : World) (hs : IsCm lo w p o) (hf : FtC o) (hT : TbsJ w) :
  Calls Tryz.prog 20 #[cmX o p] w fun e w' => e = .returned (.tuple #[.string (str (ctV o).2), erV (ctV o).1]) ∧ Below w.heap.size w w' := by
 have HV : Hid (ctV o = if cfV o = 0 then (0, ctJ o) else (cfV o, [])) := rfl
 obtain ⟨W0, hW0⟩ : ∃ W, w.alloc (.cells #[.string o.t, .int .i64 o.k, .string o.n, slW p.1, .int .i64 o.m, .int .i64 o.f, .int .i64 o.d, slW p.2.1, .int .i64 o.h, slW p.2.2.1, .int .i64 o.e, .bool o.r, slW p.2.2.2, .int .i64 o.c] 35) = W := ⟨_, rfl⟩
 have hb0 : Below w.heap.size w W0 := by rw [← hW0]; exact (Below.refl _ _).alloc (Nat.le_refl _) _
 have hq0 : Qm W0 w.heap.size (cmQ o p) := by rw [← hW0]; exact Qm.new _ _ _ _ _ _ _ _ _ _ _ _ _ _ _ _
 have hs0 := hs.below hb0
 have hT0 := hT.below hb0
 have HC := checkCmd_any o p W0 hs0 hf hT0.N
 have HB : Hid (cfV o = 0 → ∀ W, Below W0.heap.size W0 W → Calls Tryz.prog 41 #[cmX o p] W fun e w' => WbE (wcJ o) W e w') := fun h W hb => wordsBehindKind_any o p W (hs0.below hb) (okT h) hf (hT0.below hb)
 have HO : Hid (cfV o = 0 → OkT o) := okT
 have HQ : Hid (∀ W, Below W0.heap.size W0 W → Qm W w.heap.size (cmQ o p) ∧ TbsJ W) := fun W hb => ⟨hq0.below hb hq0.lt, hT0.below hb⟩
 obtain ⟨c0, c1, c2, c3, c4, c5, c6, c7, c8, c9, c10, c11, c12, c13⟩ := hq0
 dsimp only at c0 c1 c2 c3 c4 c5 c6 c7 c8 c9 c10 c11 c12 c13
 clear hs hf hT hs0 hT0
 by_cases h0 : cfV o = 0
 ·have hv : ctV o = (0, ctJ o) := by rw [HV.out, if_pos h0]
  have HOK := HO.out h0
  obtain ⟨hwb, hwl⟩ := wcJ_len HOK
  have hk14 := HOK.k
  have htl := HOK.t
  have HB := fun W hb => HB.out h0 W hb
  rw [hv]
  obtain ⟨m, hm⟩ := Int.eq_ofNat_of_zero_le (show 0 ≤ o.k by omega)
  have hmn : o.k.toNat = m := by rw [hm]; exact Int.toNat_natCast m
  have hjn : ctJ o = jnJ 32 ([txB o.t, wdJ cwZ o.k.toNat] ++ wcJ o) := rfl
  have hjl : (jnJ 32 ([txB o.t, wdJ cwZ o.k.toNat] ++ wcJ o)).length ≤ 100000000 := by
   have h1 := tlJ_big hwb hwl
   have h2 : (wdJ cwZ o.k.toNat).length ≤ 20 := wdJ_len (by decide) _
   show (txB o.t ++ tlJ 32 (wdJ cwZ o.k.toNat :: wcJ o)).length ≤ _
   rw [tlJ_cons]
   simp only [List.length_append, List.length_cons, List.length_nil, txB_sizeJ]
   omega
  rw [hmn] at hjn hjl
  rw [hjn]
  have HM : Hid (o.k = (m : Int)) := hm
  clear hm hmn
  have HJL : Hid ((jnJ 32 ([txB o.t, wdJ cwZ m] ++ wcJ o)).length ≤ 100000000) := hjl
  have HLW : Hid ((wcJ o).length ≤ 4) := hwl
  have h01 : erV (cfV o) = .nilIface := if_pos h0
  obtain ⟨X, hX⟩ : ∃ X, str (jnJ 32 ([txB o.t, wdJ cwZ m] ++ wcJ o)) = X := ⟨_, rfl⟩
  rw [hX]
  have HX : Hid (str (jnJ 32 ([txB o.t, wdJ cwZ m] ++ wcJ o)) = X) := hX
  clear hX
  rw [h01] at HC
  dsimp only
  go_enter Tryz.func20, Tryz.ntmps20
  go_wp2_with fail
  clear hW0
  refine HC.mono ?_
  clear HC
  rintro e w1 ⟨rfl, hb1⟩
  clear HV HO hv HOK hwb hjn hjl h0 h01 hwl
  generalize wcJ o = pw at *
  obtain ⟨ot, ok, on, oy, om, of0, od, ob, oh, op, oe, or, ou, oc⟩ := o
  obtain ⟨⟨ya, yn, yc⟩, ⟨ba, bn, bc'⟩, ⟨pa, pn, pc⟩, ua, un, uc⟩ := p
  dsimp only [slW, cmX] at *
  have hm := HM.out
  clear HM
  subst hm
  have hm15 : (m : Int) < 15 := by omega
  have HS : Hid (∀ W, Below w1.heap.size w1 W → (W.cell? ⟨w.heap.size, 0, none⟩ = some (.string ot) ∧ W.cell? ⟨w.heap.size, 1, none⟩ = some (.int .i64 m) ∧ W.cell? ⟨w.heap.size, 2, none⟩ = some (.string on) ∧ W.cell? ⟨w.heap.size, 3, none⟩ = some (.slice ya yn yc) ∧ W.cell? ⟨w.heap.size, 4, none⟩ = some (.int .i64 om) ∧ W.cell? ⟨w.heap.size, 5, none⟩ = some (.int .i64 of0) ∧ W.cell? ⟨w.heap.size, 6, none⟩ = some (.int .i64 od) ∧ W.cell? ⟨w.heap.size, 7, none⟩ = some (.slice ba bn bc') ∧ W.cell? ⟨w.heap.size, 8, none⟩ = some (.int .i64 oh) ∧ W.cell? ⟨w.heap.size, 9, none⟩ = some (.slice pa pn pc) ∧ W.cell? ⟨w.heap.size, 10, none⟩ = some (.int .i64 oe) ∧ W.cell? ⟨w.heap.size, 11, none⟩ = some (.bool or) ∧ W.cell? ⟨w.heap.size, 12, none⟩ = some (.slice ua un uc) ∧ W.cell? ⟨w.heap.size, 13, none⟩ = some (.int .i64 oc)) ∧ W.cell? ⟨0, m, none⟩ = some (.string (str (wdJ cwZ m)))) := fun W hb => by
   obtain ⟨⟨c0, c1, c2, c3, c4, c5, c6, c7, c8, c9, c10, c11, c12, c13⟩, hT⟩ := HQ.out W (hb1.trans (hb.mono hb1.size))
   dsimp only [slW] at c0 c1 c2 c3 c4 c5 c6 c7 c8 c9 c10 c11 c12 c13
   exact ⟨⟨c0, c1, c2, c3, c4, c5, c6, c7, c8, c9, c10, c11, c12, c13⟩, hT.c m (show m < 15 by omega)⟩
  have H2 : Hid (∀ W, Below w1.heap.size w1 W → Calls Tryz.prog 41 #[.agg #[.string ot, .int .i64 m, .string on, .slice ya yn yc, .int .i64 om, .int .i64 of0, .int .i64 od, .slice ba bn bc', .int .i64 oh, .slice pa pn pc, .int .i64 oe, .bool or, .slice ua un uc, .int .i64 oc]] W fun e w' => WbE pw W e w') := fun W hb => HB W (hb1.trans (hb.mono hb1.size))
  have hbw1 : Below w.heap.size w w1 := hb0.trans (hb1.mono hb0.size)
  clear HB HQ c0 c1 c2 c3 c4 c5 c6 c7 c8 c9 c10 c11 c12 c13 hk14 htl
  obtain ⟨⟨c0, c1, c2, c3, c4, c5, c6, c7, c8, c9, c10, c11, c12, c13⟩, ct⟩ := HS.out w1 (Below.refl _ _)
  clear hb0 hb1
  generalize w1 = W1 at *
  go_wp2_with fail
  refine wp_region_held_drew (S := fun W => (W.cell? ⟨w.heap.size, 0, none⟩ = some (.string ot) ∧ W.cell? ⟨w.heap.size, 1, none⟩ = some (.int .i64 m) ∧ W.cell? ⟨w.heap.size, 2, none⟩ = some (.string on) ∧ W.cell? ⟨w.heap.size, 3, none⟩ = some (.slice ya yn yc) ∧ W.cell? ⟨w.heap.size, 4, none⟩ = some (.int .i64 om) ∧ W.cell? ⟨w.heap.size, 5, none⟩ = some (.int .i64 of0) ∧ W.cell? ⟨w.heap.size, 6, none⟩ = some (.int .i64 od) ∧ W.cell? ⟨w.heap.size, 7, none⟩ = some (.slice ba bn bc') ∧ W.cell? ⟨w.heap.size, 8, none⟩ = some (.int .i64 oh) ∧ W.cell? ⟨w.heap.size, 9, none⟩ = some (.slice pa pn pc) ∧ W.cell? ⟨w.heap.size, 10, none⟩ = some (.int .i64 oe) ∧ W.cell? ⟨w.heap.size, 11, none⟩ = some (.bool or) ∧ W.cell? ⟨w.heap.size, 12, none⟩ = some (.slice ua un uc) ∧ W.cell? ⟨w.heap.size, 13, none⟩ = some (.int .i64 oc)) ∧ W.cell? ⟨0, m, none⟩ = some (.string (str (wdJ cwZ m)))) (by kernel_rfl) ?hS1 (fun hHeld => ?_)
  case hS1 => exact HS.out _ (Below.refl _ _).drew
  have hx0 : Below W1.heap.size W1 W1.drew := (Below.refl _ _).drew
  generalize W1.drew = x0 at *
  refine tk (i := 0) (v := ?_) rfl (Or.inl ⟨by rfl, ?hy2⟩) ?ty2
  case hy2 => (intro w5 hSw; obtain ⟨⟨c0, c1, c2, c3, c4, c5, c6, c7, c8, c9, c10, c11, c12, c13⟩, ct⟩ := hSw; go_simp; all_goals with_reducible rfl)
  simp only [Act.put, J1, J2, J4, J5, J6]
  refine tk (i := 1) (v := ?_) rfl (Or.inl ⟨by rfl, ?hy3⟩) ?ty3
  case hy3 => (intro w5 hSw; obtain ⟨⟨c0, c1, c2, c3, c4, c5, c6, c7, c8, c9, c10, c11, c12, c13⟩, ct⟩ := hSw; go_simp; all_goals with_reducible rfl)
  simp only [Act.put, J1, J2, J3, J4, J5, J6]
  refine tk (i := 2) (v := ?_) rfl (Or.inl ⟨by rfl, ?hy4⟩) ?ty4
  case hy4 => (intro w5 hSw; obtain ⟨⟨c0, c1, c2, c3, c4, c5, c6, c7, c8, c9, c10, c11, c12, c13⟩, ct⟩ := hSw; go_simp; all_goals with_reducible rfl)
  simp only [Act.put, J1, J2, J3, J4, J5, J6]
  refine tk (i := 3) (v := ?_) rfl (Or.inl ⟨by rfl, ?hy5⟩) ?ty5
  case hy5 => (intro w5 hSw; obtain ⟨⟨c0, c1, c2, c3, c4, c5, c6, c7, c8, c9, c10, c11, c12, c13⟩, ct⟩ := hSw; go_simp; all_goals with_reducible rfl)
  simp only [Act.put, J1, J2, J3, J4, J5, J6]
  refine tk (i := 4) (v := ?_) rfl (Or.inl ⟨by rfl, ?hy6⟩) ?ty6
  case hy6 => (intro w5 hSw; obtain ⟨⟨c0, c1, c2, c3, c4, c5, c6, c7, c8, c9, c10, c11, c12, c13⟩, ct⟩ := hSw; go_simp; all_goals with_reducible rfl)
  simp only [Act.put, J1, J2, J3, J4, J5, J6]
  refine tk (i := 5) (v := ?_) rfl (Or.inl ⟨by rfl, ?hy7⟩) ?ty7
  case hy7 => (intro w5 hSw; obtain ⟨⟨c0, c1, c2, c3, c4, c5, c6, c7, c8, c9, c10, c11, c12, c13⟩, ct⟩ := hSw; go_simp; all_goals with_reducible rfl)
  simp only [Act.put, J1, J2, J3, J4, J5, J6]
  refine tk (i := 7) (v := ?_) rfl (Or.inl ⟨by rfl, ?hy8⟩) ?ty8
  case hy8 => (intro w5 hSw; obtain ⟨⟨c0, c1, c2, c3, c4, c5, c6, c7, c8, c9, c10, c11, c12, c13⟩, ct⟩ := hSw; go_simp; all_goals with_reducible rfl)
  simp only [Act.put, J1, J2, J3, J4, J5, J6]
  refine wpAnyH_ready (rs := [6, 8]) (by kernel_rfl) (by simp) ?_
  refine AllReadyH.cons rfl (fun K hK => ?_) (AllReadyH.cons rfl (fun K hK => ?_) AllReadyH.nil)
  ·have hA := OwnS.lit x0 x0.heap.size (Nat.le_refl _) #[.string ot, .string (str (wdJ cwZ m))] [txB ot, wdJ cwZ m] (by simp [sc, sc_on]) (show 2 ≤ maxLen by decide)
   have hbA : Below W1.heap.size W1 (x0.alloc (.cells #[.string ot, .string (str (wdJ cwZ m))] 9)) := hx0.trans ((Below.refl _ _).alloc hx0.size _)
   go_simp
   refine hK.out _ _ (HS.out _ hbA) (fun hHeld => ?_)
   clear hK K
   refine wpAnyH_ready (rs := [8]) (by kernel_rfl) (by simp) ?_
   refine AllReadyH.cons rfl (fun K hK => ?_) AllReadyH.nil
   go_simp
   refine (H2.out _ hbA).mono ?_
   rintro e y1 ⟨v1, rfl, hO1, hc1⟩
   have hbZ := hbA.trans (hc1.mono hbA.size)
   have hA1 := hA.below hc1 (Nat.le_refl _)
   have hzz : x0.heap.size ≤ y1.heap.size := Nat.le_trans (by simp) hc1.size
   refine hK.out _ _ (HS.out _ hbZ) (fun hHeld => ?_)
   clear hK K
   refine wpAnyH_ready (rs := [9]) (by kernel_rfl) (by simp) ?_
   refine AllReadyH.cons rfl (fun K hK => ?_) AllReadyH.nil
   refine step_appW rfl _ _ rfl x0.heap.size _ [txB ot, wdJ cwZ m] rfl hA1 _ _ _ rfl hO1 (by have := HLW.out; simp only [List.length_cons, List.length_nil]; omega) hzz (fun v9 w9 h9 hb9 => ?_)
   refine hK.out _ _ (HS.out _ (hbZ.trans (hb9.mono (Nat.le_trans hx0.size (Nat.le_refl _))))) (fun hHeld => ?_)
   clear hK K
   refine tk (i := 10) (v := ?_) rfl (Or.inl ⟨by rfl, ?hy9⟩) ?ty9
   case hy9 => (intro w5 hSw; skip; go_simp; all_goals with_reducible rfl)
   simp only [Act.put, J1, J2, J3, J4, J5, J6]
   refine wpAnyH_done (by kernel_rfl) ?_ _
   clear hHeld
   have hbE : Below W1.heap.size W1 w9 := hbZ.trans (hb9.mono hx0.size)
   have h9' : OwnS w9 W1.heap.size v9 _ := h9.low hx0.size
   have hlen9 : ([txB ot, wdJ cwZ m] ++ pw).length ≤ 6 := by have := HLW.out; simp only [List.length_append, List.length_cons, List.length_nil]; omega
   have hpos9 : 0 < ([txB ot, wdJ cwZ m] ++ pw).length := by simp
   have hbw9 : Below w.heap.size w w9 := hbw1.trans (hbE.mono hbw1.size)
   obtain ⟨a9, c9', rfl, -, -⟩ := h9'.form
   have HJ := join_rowS 32 w9 _ a9 _ c9' _ h9' hpos9 (by omega) HJL.out
   clear hlen9 hpos9 h9' h9 hb9 hbE HLW
   generalize [txB ot, wdJ cwZ m] ++ pw = ws at *
   go_wp2_with fail
   refine HJ.mono ?_
   clear HJ
   rintro e wz ⟨rfl, hbz⟩
   go_wp2
   refine bodyPost_ret (v := .tuple #[.string (str (jnJ 32 ws)), .nilIface]) (by simp [results, Tryz.results20, go_sem]) rfl ?_
   exact ⟨by rw [← HX.out]; rfl, hbw9.trans (hbz.mono hbw9.size)⟩
  ·go_simp
   refine (H2.out _ hx0).mono ?_
   rintro e y1 ⟨v1, rfl, hO1, hc1⟩
   have hbY := hx0.trans (hc1.mono hx0.size)
   refine hK.out _ _ (HS.out _ hbY) (fun hHeld => ?_)
   clear hK K
   refine wpAnyH_ready (rs := [6]) (by kernel_rfl) (by simp) ?_
   refine AllReadyH.cons rfl (fun K hK => ?_) AllReadyH.nil
   have hA := OwnS.lit y1 y1.heap.size (Nat.le_refl _) #[.string ot, .string (str (wdJ cwZ m))] [txB ot, wdJ cwZ m] (by simp [sc, sc_on]) (show 2 ≤ maxLen by decide)
   have hbA : Below W1.heap.size W1 (y1.alloc (.cells #[.string ot, .string (str (wdJ cwZ m))] 9)) := hbY.trans ((Below.refl _ _).alloc hbY.size _)
   go_simp
   refine hK.out _ _ (HS.out _ hbA) (fun hHeld => ?_)
   clear hK K
   have hbZ := hbA
   have hO2 := hO1.alloc (.cells #[.string ot, .string (str (wdJ cwZ m))] 9)
   refine wpAnyH_ready (rs := [9]) (by kernel_rfl) (by simp) ?_
   refine AllReadyH.cons rfl (fun K hK => ?_) AllReadyH.nil
   refine step_appW rfl _ _ rfl y1.heap.size _ [txB ot, wdJ cwZ m] rfl hA _ _ _ rfl hO2 (by have := HLW.out; simp only [List.length_cons, List.length_nil]; omega) (by simp) (fun v9 w9 h9 hb9 => ?_)
   refine hK.out _ _ (HS.out _ (hbZ.trans (hb9.mono (hbY.size)))) (fun hHeld => ?_)
   clear hK K
   refine tk (i := 10) (v := ?_) rfl (Or.inl ⟨by rfl, ?hy10⟩) ?ty10
   case hy10 => (intro w5 hSw; skip; go_simp; all_goals with_reducible rfl)
   simp only [Act.put, J1, J2, J3, J4, J5, J6]
   refine wpAnyH_done (by kernel_rfl) ?_ _
   clear hHeld
   have hbE : Below W1.heap.size W1 w9 := hbZ.trans (hb9.mono hbY.size)
   have h9' : OwnS w9 W1.heap.size v9 _ := h9.low hbY.size
   have hlen9 : ([txB ot, wdJ cwZ m] ++ pw).length ≤ 6 := by have := HLW.out; simp only [List.length_append, List.length_cons, List.length_nil]; omega
   have hpos9 : 0 < ([txB ot, wdJ cwZ m] ++ pw).length := by simp
   have hbw9 : Below w.heap.size w w9 := hbw1.trans (hbE.mono hbw1.size)
   obtain ⟨a9, c9', rfl, -, -⟩ := h9'.form
   have HJ := join_rowS 32 w9 _ a9 _ c9' _ h9' hpos9 (by omega) HJL.out
   clear hlen9 hpos9 h9' h9 hb9 hbE HLW
   generalize [txB ot, wdJ cwZ m] ++ pw = ws at *
   go_wp2_with fail
   refine HJ.mono ?_
   clear HJ
   rintro e wz ⟨rfl, hbz⟩
   go_wp2
   refine bodyPost_ret (v := .tuple #[.string (str (jnJ 32 ws)), .nilIface]) (by simp [results, Tryz.results20, go_sem]) rfl ?_
   exact ⟨by rw [← HX.out]; rfl, hbw9.trans (hbz.mono hbw9.size)⟩
 ·have hv : ctV o = (cfV o, []) := by rw [HV.out, if_neg h0]
  have HE : Hid (str [] = ⟨#[]⟩) := rfl
  rw [hv]
  have he : erV (cfV o) = noC (cfV o) := if_neg h0
  rw [he] at HC ⊢
  clear HB HO HV hv h0 he
  generalize cfV o = c at *
  dsimp only
  go_enter Tryz.func20, Tryz.ntmps20
  go_wp2_with fail
  clear hW0
  refine HC.mono ?_
  clear HC
  rintro e w1 ⟨rfl, hb1⟩
  have hbw1 : Below w.heap.size w w1 := hb0.trans (hb1.mono hb0.size)
  clear HQ hb0 hb1 c0 c1 c2 c3 c4 c5 c6 c7 c8 c9 c10 c11 c12 c13
  go_wp2
  refine bodyPost_ret (v := .tuple #[.string ⟨#[]⟩, noC c]) (by simp [results, Tryz.results20, go_sem]) rfl ?_
  exact ⟨by rw [HE.out], hbw1⟩
set_option maxHeartbeats 3200000 in
set_option maxRecDepth 100000 in
theorem cmdText_any (o : CmR) (p : SlC) {lo : Nat} (w : World) (hs : IsCm lo w p o) (hf : FtC o) (hT : TbsJ w) :
  Calls Tryz.prog 7 #[cmX o p] w fun e w' => e = .returned (.agg #[.int .i64 (ctV o).1, .string (str (ctV o).2)]) ∧ Below w.heap.size w w' := by
 obtain ⟨W0, hW0⟩ : ∃ W, w.alloc (.cells #[.string o.t, .int .i64 o.k, .string o.n, slW p.1, .int .i64 o.m, .int .i64 o.f, .int .i64 o.d, slW p.2.1, .int .i64 o.h, slW p.2.2.1, .int .i64 o.e, .bool o.r, slW p.2.2.2, .int .i64 o.c] 35) = W := ⟨_, rfl⟩
 have hb0 : Below w.heap.size w W0 := by rw [← hW0]; exact (Below.refl _ _).alloc (Nat.le_refl _) _
 have hq0 : Qm W0 w.heap.size (cmQ o p) := by rw [← hW0]; exact Qm.new _ _ _ _ _ _ _ _ _ _ _ _ _ _ _ _
 have hz0 : W0.heap.size = w.heap.size + 1 := by rw [← hW0]; simp
 obtain ⟨W1, hW1⟩ : ∃ W, W0.alloc (.cells #[.int .i64 0, .string ⟨#[]⟩] 30) = W := ⟨_, rfl⟩
 have hb1 : Below W0.heap.size W0 W1 := by rw [← hW1]; exact (Below.refl _ _).alloc (Nat.le_refl _) _
 have hb01 : Below w.heap.size w W1 := hb0.trans (hb1.mono hb0.size)
 have hq1 := hq0.below hb1 hq0.lt
 have hz1 : W1.heap.size = w.heap.size + 1 + 1 := by rw [← hW1]; simp [hz0]
 have HTL := tellCmd_any o p W1 (hs.below hb01) hf (hT.below hb01)
 have hV1 : VarT W1 := (hT.below hb01).V
 generalize ctV o = r at *
 obtain ⟨c, x⟩ := r
 dsimp only at HTL ⊢
 have hR : W1.cell? ⟨w.heap.size + 1, 0, none⟩ = some (.int .i64 0) ∧ W1.cell? ⟨w.heap.size + 1, 1, none⟩ = some (.string ⟨#[]⟩) ∧ W1.frozen? ⟨w.heap.size + 1, 0, none⟩ = false ∧ W1.frozen? ⟨w.heap.size + 1, 1, none⟩ = false := by
  rw [← hW1, ← hz0]; exact ⟨by simp, by simp, by simp, by simp⟩
 have HRc : Hid (∀ W, Below W1.heap.size W1 W → W.cell? ⟨w.heap.size + 1, 0, none⟩ = some (.int .i64 0) ∧ W.cell? ⟨w.heap.size + 1, 1, none⟩ = some (.string ⟨#[]⟩) ∧ W.frozen? ⟨w.heap.size + 1, 0, none⟩ = false ∧ W.frozen? ⟨w.heap.size + 1, 1, none⟩ = false) := fun W hb =>
  ⟨(hb.cell (p := ⟨w.heap.size + 1, 0, none⟩) (by show w.heap.size + 1 < _; omega)).trans hR.1, (hb.cell (p := ⟨w.heap.size + 1, 1, none⟩) (by show w.heap.size + 1 < _; omega)).trans hR.2.1, (hb.frozen (p := ⟨w.heap.size + 1, 0, none⟩) (by show w.heap.size + 1 < _; omega)).trans hR.2.2.1, (hb.frozen (p := ⟨w.heap.size + 1, 1, none⟩) (by show w.heap.size + 1 < _; omega)).trans hR.2.2.2⟩
 have HW : Hid (w.alloc (.cells #[.string o.t, .int .i64 o.k, .string o.n, slW p.1, .int .i64 o.m, .int .i64 o.f, .int .i64 o.d, slW p.2.1, .int .i64 o.h, slW p.2.2.1, .int .i64 o.e, .bool o.r, slW p.2.2.2, .int .i64 o.c] 35) = W0 ∧ W0.alloc (.cells #[.int .i64 0, .string ⟨#[]⟩] 30) = W1) := ⟨hW0, hW1⟩
 have HZ : Hid (W0.heap.size = w.heap.size + 1) := hz0
 obtain ⟨c0, c1, c2, c3, c4, c5, c6, c7, c8, c9, c10, c11, c12, c13⟩ := hq1
 dsimp only at c0 c1 c2 c3 c4 c5 c6 c7 c8 c9 c10 c11 c12 c13
 clear hs hf hT hq0 hb0 hb1 hR
 go_enter Tryz.func7, Tryz.ntmps7
 go_wp2_with fail
 clear hW0 hW1
 refine HTL.mono ?_
 clear HTL c0 c1 c2 c3 c4 c5 c6 c7 c8 c9 c10 c11 c12 c13
 rintro e w2 ⟨rfl, hb2⟩
 have hV2 := hV1.below hb2
 clear hz0 hz1
 by_cases h0 : c = 0
 ·subst h0
  rw [show erV 0 = .nilIface from rfl]
  go_wp2_with fail
  refine (codeOf_nil _).mono ?_
  rintro e w3 ⟨rfl, hb3⟩
  have hb13 := hb2.trans (hb3.mono hb2.size)
  obtain ⟨k0, k1, f0, f1⟩ := HRc.out w3 hb13
  obtain ⟨hk0, hk1⟩ := res_cells k0 k1 (.int .i64 0) (.string (str x))
  have hbe := hb01.trans (hb13.mono hb01.size)
  clear hb2 hb3 HRc hb13 hV1 hV2
  go_wp2
  refine bodyPost_ret (v := .agg #[.int .i64 0, .string (str x)]) (by simp [results, Tryz.results7, go_sem, hk0, hk1]) rfl ?_
  exact ⟨rfl, (hbe.setCell (by simp) _).setCell (by simp) _⟩
 ·rw [show erV c = noC c from if_neg h0]
  go_wp2_with fail
  refine (codeOf_err c _ hV2).mono ?_
  rintro e w3 ⟨rfl, hb3⟩
  have hb13 := hb2.trans (hb3.mono hb2.size)
  obtain ⟨k0, k1, f0, f1⟩ := HRc.out w3 hb13
  obtain ⟨hk0, hk1⟩ := res_cells k0 k1 (.int .i64 c) (.string (str x))
  have hbe := hb01.trans (hb13.mono hb01.size)
  clear hb2 hb3 HRc hb13 hV1 hV2
  go_wp2
  refine bodyPost_ret (v := .agg #[.int .i64 c, .string (str x)]) (by simp [results, Tryz.results7, go_sem, hk0, hk1]) rfl ?_
  exact ⟨rfl, (hbe.setCell (by simp) _).setCell (by simp) _⟩
end Go.Proofs.YtjogclofjollnaaGreatDoor
