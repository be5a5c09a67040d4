/- The walk of the law FnConverts: it returns true, whatever the input. -/
import Derived.Test.YtooifkdbpghcfaaGreatDoorChnToMqr
import Derived.Test.YtooifkdbpghcfaaGreatDoorDr5cToLwn
import Derived.Test.YtooifkdbpghcfaaGreatDoorMemPToPth
import Derived.Test.YtooifkdbpghcfaaGreatDoorDecLToDec4
namespace Go.Proofs.YtooifkdbpghcfaaGreatDoor
open Go.RowKit
set_option linter.unusedVariables false

theorem fldU0 (x y : Value) (w : World) : (Instr.field 27 (.agg #[x, y]) 0).run Tryz.prog w = .ok x w := by
  simp [Instr.field, asAgg, go_sem]
theorem fldU1 (x y : Value) (w : World) : (Instr.field 27 (.agg #[x, y]) 1).run Tryz.prog w = .ok y w := by
  simp [Instr.field, asAgg, go_sem]
theorem fldV0 (x y : Value) (w : World) : (Instr.field 33 (.agg #[x, y]) 0).run Tryz.prog w = .ok x w := by
  simp [Instr.field, asAgg, go_sem]
theorem fldV1 (x y : Value) (w : World) : (Instr.field 33 (.agg #[x, y]) 1).run Tryz.prog w = .ok y w := by
  simp [Instr.field, asAgg, go_sem]

set_option maxHeartbeats 12800000 in
set_option maxRecDepth 100000 in
theorem walkConverts (a0 : Option Addr) (len0 cap0 : Nat) (l : List Nat) (w : World) (hl : l.length = len0) (hr : Rd w a0 l) (hBl : IsB l) (htC : TabC w) (htB : TabB w) (htH : TabH w) (hmx : MaxI w) :
    Calls Tryz.prog 4 #[.slice a0 len0 cap0] w fun e w' => e = .returned (.bool true) ∧ Below w.heap.size w w' := by
  by_cases hbig : 1048576 < len0
  · have hb' : (1048576 : Int) < (len0 : Int) := by omega
    go_enter Tryz.func4, Tryz.ntmps4
    go_wp2_with fail
    refine (lwBig_any a0 len0 cap0 _).mono ?_
    rintro e w1 ⟨rfl, rfl⟩
    rw [decide_eq_true (show (1048576 : Int) < (len0 : Int) by omega)]
    go_wp2
    go_ret
    exact ⟨rfl, Below.refl _ _⟩
  have hn : len0 ≤ 1048576 := by omega
  have hb' : ¬ (1048576 : Int) < (len0 : Int) := by omega
  go_enter Tryz.func4, Tryz.ntmps4
  go_wp2_with fail
  refine (lwBig_any a0 len0 cap0 _).mono ?_
  rintro e w1 ⟨rfl, rfl⟩
  rw [decide_eq_false (show ¬ (1048576 : Int) < (len0 : Int) by omega)]
  go_wp2_with fail
  refine (drawConvertPart_any a0 len0 cap0 l w hl hr hBl hn).mono ?_
  rintro e z1 ⟨d, g, cp, k, cs, rfl, ri, hglt, hcp, hBd, hB1⟩
  obtain ⟨N, hN⟩ : ∃ N, d.length = N := ⟨_, rfl⟩
  rw [hN] at hcp
  have HT : Hid (∀ W, Below z1.heap.size z1 W → TabC W ∧ TabB W ∧ TabH W ∧ MaxI W) := fun W hb => by
    have hB := hB1.trans (hb.mono hB1.size)
    exact ⟨htC.below hB, htB.below hB, htH.below hB, hmx.below hB⟩
  have HCI : Hid (∀ (W : World) (cs : Int), Below z1.heap.size z1 W → Calls Tryz.prog 16 #[.slice (some ⟨g, 0, none⟩) N cp, .int .i64 k, .int .i64 cs] W fun e w' => BytEnd (cvV d k cs) W e w') := fun W cs hb => by
    obtain ⟨t1, t2, t3, t4⟩ := HT.out W hb
    exact convertPart_any g N d k cs W (ri.below hb) t1 t2 t3 t4 hBd hN hcp
  have HCS : Hid (∀ (W : World) (cs : Int), Below z1.heap.size z1 W → Calls Tryz.prog 18 #[.slice (some ⟨g, 0, none⟩) N cp, .int .i64 k, .int .i64 cs] W fun e w' => BytEnd (cvV d k cs) W e w') := fun W cs hb => specConvertPart_any g N d k cs W (ri.below hb) (Nat.lt_of_lt_of_le hglt hb.size) hBd hN hcp
  have HQI : Hid (∀ (W : World), Below z1.heap.size z1 W → Calls Tryz.prog 17 #[.slice (some ⟨g, 0, none⟩) N cp, .int .i64 k] W fun e w' => CodEnd (pqV d k) W e w') := fun W hb => by
    obtain ⟨t1, t2, t3, t4⟩ := HT.out W hb
    exact partCodes_any g N d k W (ri.below hb) t1 t2 t3 t4 hBd hN hcp
  have HQS : Hid (∀ (W : World), Below z1.heap.size z1 W → Calls Tryz.prog 19 #[.slice (some ⟨g, 0, none⟩) N cp, .int .i64 k] W fun e w' => CodEnd (pqV d k) W e w') := fun W hb => specPartCodes_any g N d k W (ri.below hb) (Nat.lt_of_lt_of_le hglt hb.size) hBd hN hcp
  have HPB : Hid (∀ (W : World), Below z1.heap.size z1 W → Calls Tryz.prog 22 #[.slice (some ⟨g, 0, none⟩) N cp, .int .i64 k] W fun e w' => BytEnd (pbV d k) W e w') := fun W hb => by
    obtain ⟨t1, t2, t3, t4⟩ := HT.out W hb
    exact partBytes_any g N d k W (ri.below hb) t1 t2 t3 t4 hBd hN hcp
  have HPP : Hid (∀ (W : World), Below z1.heap.size z1 W → Calls Tryz.prog 21 #[.slice (some ⟨g, 0, none⟩) N cp] W fun e w' => PsEnd (psV d) W e w') := fun W hb => by
    obtain ⟨t1, t2, t3, t4⟩ := HT.out W hb
    exact parseParts_any g N d W (ri.below hb) t1 hBd hN hcp
  have HBK : Hid (_) := @cvV_back d k cs
  clear ri hglt hBd htC htB htH hmx HT
  rw [hN]
  go_wp2_with fail
  refine (HCI.out z1 cs (Below.refl _ _)).mono ?_
  rintro e z2 ⟨v2, rfl, ho2, hb2⟩
  obtain ⟨K2, hK2⟩ : ∃ K, (cvV d k cs).2.length = K := ⟨_, rfl⟩
  obtain ⟨a2, cp2, hv2, -, -⟩ := ho2.form
  rw [hK2] at hv2
  subst hv2
  obtain ⟨c, hc⟩ : ∃ c, (cvV d k cs).1 = c := ⟨_, rfl⟩
  rw [hc]
  obtain ⟨Z3, hZ3⟩ : ∃ W, z2.alloc (.cells #[.int .i64 c, .slice a2 K2 cp2] 27) = W := ⟨_, rfl⟩
  have hbzZ3 : Below z2.heap.size z2 Z3 := by rw [← hZ3]; exact (Below.refl _ _).alloc (Nat.le_refl _) _
  have hG0 : Z3.cell? ⟨z2.heap.size, 0, none⟩ = some (.int .i64 c) := by rw [← hZ3]; simp
  have hG1 : Z3.cell? ⟨z2.heap.size, 1, none⟩ = some (.slice a2 K2 cp2) := by rw [← hZ3]; simp
  have HZ3 : Hid (_ = Z3) := hZ3
  clear hZ3
  have hb13 : Below z1.heap.size z1 Z3 := hb2.trans (hbzZ3.mono hb2.size)
  have ho3 := ho2.below hbzZ3 (Nat.le_refl _)
  clear ho2 hb2
  go_wp2_with (rw [HZ3.out])
  clear HZ3
  refine (HQI.out Z3 hb13).mono ?_
  rintro e z4 ⟨v4, rfl, ho4, hb4⟩
  obtain ⟨Kq, hKq⟩ : ∃ K, (pqV d k).2.length = K := ⟨_, rfl⟩
  obtain ⟨aq, cq, hv4, -, -⟩ := ho4.form
  rw [hKq] at hv4
  subst hv4
  obtain ⟨pc, hpc⟩ : ∃ c, (pqV d k).1 = c := ⟨_, rfl⟩
  rw [hpc]
  have hKq4 : Kq ≤ 400 := by rw [← hKq]; exact pqV_len d k
  obtain ⟨Z5, hZ5⟩ : ∃ W, z4.alloc (.cells #[.int .i64 pc, .slice aq Kq cq] 33) = W := ⟨_, rfl⟩
  have hbzZ5 : Below z4.heap.size z4 Z5 := by rw [← hZ5]; exact (Below.refl _ _).alloc (Nat.le_refl _) _
  have hG50 : Z5.cell? ⟨z4.heap.size, 0, none⟩ = some (.int .i64 pc) := by rw [← hZ5]; simp
  have hG51 : Z5.cell? ⟨z4.heap.size, 1, none⟩ = some (.slice aq Kq cq) := by rw [← hZ5]; simp
  have HZ5 : Hid (_ = Z5) := hZ5
  clear hZ5
  have hb35 : Below Z3.heap.size Z3 Z5 := hb4.trans (hbzZ5.mono hb4.size)
  have hb15 : Below z1.heap.size z1 Z5 := hb13.trans (hb35.mono hb13.size)
  have hB5 : Below w.heap.size w Z5 := hB1.trans (hb15.mono hB1.size)
  have ho5 := ho4.below hbzZ5 (Nat.le_refl _)
  clear ho4 hb4
  have HZ1 : Hid (∀ W, Below Z5.heap.size Z5 W → Below z1.heap.size z1 W) := fun W hb => hb15.trans (hb.mono hb15.size)
  obtain ⟨G, hG⟩ : ∃ G, z2.heap.size = G := ⟨_, rfl⟩
  obtain ⟨G5, hG5⟩ : ∃ G, z4.heap.size = G := ⟨_, rfl⟩
  rw [hG] at hG0 hG1
  rw [hG5] at hG50 hG51
  have hG0' := (hb35.cell (p := ⟨G, 0, none⟩) (World.block_lt_of_cell? Z3 _ hG0)).trans hG0
  have hG1' := (hb35.cell (p := ⟨G, 1, none⟩) (World.block_lt_of_cell? Z3 _ hG1)).trans hG1
  have fN0 := fldU0
  have fN1 := fldU1
  have fM0 := fldV0
  have fM1 := fldV1
  by_cases hc0 : c = 0
  case neg =>
    have HS7 : Hid (∀ W, Below Z5.heap.size Z5 W → W.cell? ⟨G, 0, none⟩ = some (.int .i64 c) ∧ W.cell? ⟨G5, 0, none⟩ = some (.int .i64 pc)) := fun W hb => ⟨(hb.cell (p := ⟨G, 0, none⟩) (World.block_lt_of_cell? Z5 _ hG0')).trans hG0', (hb.cell (p := ⟨G5, 0, none⟩) (World.block_lt_of_cell? Z5 _ hG50)).trans hG50⟩
    have hcb : (c == 0) = false := beq_eq_false_iff_ne.2 hc0
    clear HBK HCI HQI HPB HPP hbzZ3 hbzZ5 hb13 hb15 hb35 ho3 ho5 hG0 hG1 hG1' hG51
    go_wp2_with (rw [HZ5.out])
    clear HZ5
    (try rw [hG])
    (try rw [hG5])
    clear hG hG5 hG0' hG50
    refine wp_region_held_drew (S := fun w' => w'.cell? ⟨G, 0, none⟩ = some (.int .i64 c) ∧ w'.cell? ⟨G5, 0, none⟩ = some (.int .i64 pc)) (by kernel_rfl) ?hS1 (fun hHeld => ?_)
    case hS1 => exact HS7.out _ (Below.refl _ _).drew
    refine wpAnyH_take (i := 0) (v := ?_) rfl (by kernel_rfl) (by kernel_rfl) (by kernel_rfl) (fun _ _ _ h => h) (Or.inl ⟨by rfl, ?hy2⟩) (by assumption) ?ty2
    case hy2 => (intro w5 hSw; obtain ⟨e0, e1⟩ := hSw; go_simp; all_goals with_reducible rfl)
    simp only [Act.put, List.getElem_toArray, List.getElem_cons_zero, List.setIfInBounds_toArray, List.set_cons_zero, List.set_cons_succ]
    refine wpAnyH_take (i := 1) (v := ?_) rfl (by kernel_rfl) (by kernel_rfl) (by kernel_rfl) (fun _ _ _ h => h) (Or.inl ⟨by rfl, ?hy3⟩) (by assumption) ?ty3
    case hy3 => (intro w5 hSw; obtain ⟨e0, e1⟩ := hSw; go_simp; all_goals with_reducible rfl)
    simp only [Act.put, List.getElem_toArray, List.getElem_cons_zero, List.getElem_cons_succ, List.setIfInBounds_toArray, List.set_cons_zero, List.set_cons_succ]
    refine wpAnyH_take (i := 2) (v := ?_) rfl (by kernel_rfl) (by kernel_rfl) (by kernel_rfl) (fun _ _ _ h => h) (Or.inl ⟨by rfl, ?hy4⟩) (by assumption) ?ty4
    case hy4 => (intro w5 hSw; obtain ⟨e0, e1⟩ := hSw; go_simp; all_goals with_reducible rfl)
    simp only [Act.put, List.getElem_toArray, List.getElem_cons_zero, List.getElem_cons_succ, List.setIfInBounds_toArray, List.set_cons_zero, List.set_cons_succ]
    refine wpAnyH_take (i := 5) (v := ?_) rfl (by kernel_rfl) (by kernel_rfl) (by kernel_rfl) (fun _ _ _ h => h) (Or.inl ⟨by rfl, ?hy5⟩) (by assumption) ?ty5
    case hy5 => (intro w5 hSw; obtain ⟨e0, e1⟩ := hSw; go_simp; all_goals with_reducible rfl)
    simp only [Act.put, List.getElem_toArray, List.getElem_cons_zero, List.getElem_cons_succ, List.setIfInBounds_toArray, List.set_cons_zero, List.set_cons_succ]
    refine wpAnyH_take (i := 6) (v := ?_) rfl (by kernel_rfl) (by kernel_rfl) (by kernel_rfl) (fun _ _ _ h => h) (Or.inl ⟨by rfl, ?hy6⟩) (by assumption) ?ty6
    case hy6 => (intro w5 hSw; obtain ⟨e0, e1⟩ := hSw; go_simp; all_goals with_reducible rfl)
    simp only [Act.put, List.getElem_toArray, List.getElem_cons_zero, List.getElem_cons_succ, List.setIfInBounds_toArray, List.set_cons_zero, List.set_cons_succ]
    have hy0 : Below Z5.heap.size Z5 Z5.drew := (Below.refl _ _).drew
    generalize Z5.drew = x0 at *
    refine wpAnyH_ready (rs := [3]) (by kernel_rfl) (by simp) ?_
    refine AllReadyH.cons rfl (fun K hK => ?_) AllReadyH.nil
    go_simp
    refine (HCS.out x0 cs (HZ1.out _ hy0)).mono ?_
    rintro e x1 ⟨vA, rfl, hoA, hcA⟩
    obtain ⟨aA, cA, hvA, -, -⟩ := hoA.form
    subst hvA
    rw [hc]
    have hy1 := hy0.trans (hcA.mono hy0.size)
    refine hK.out _ _ (HS7.out _ hy1) (fun hHeld => ?_)
    clear hK K
    refine wpAnyH_take (i := 4) (v := ?_) rfl (by kernel_rfl) (by kernel_rfl) (by kernel_rfl) (fun _ _ _ h => h) (Or.inl ⟨by rfl, ?hy7⟩) (by assumption) ?ty7
    case hy7 => (intro w5 hSw; obtain ⟨e0, e1⟩ := hSw; go_simp; all_goals with_reducible rfl)
    simp only [Act.put, List.getElem_toArray, List.getElem_cons_zero, List.getElem_cons_succ, List.setIfInBounds_toArray, List.set_cons_zero, List.set_cons_succ]
    refine wpAnyH_take (i := 7) (v := .bool true) rfl (by kernel_rfl) (by kernel_rfl) (by kernel_rfl) (fun _ _ _ h => h) (Or.inl ⟨by rfl, ?hy8⟩) (by assumption) ?ty8
    case hy8 => (intro w5 hSw; obtain ⟨e0, e1⟩ := hSw; go_simp; first | (simp; done) | (all_goals with_reducible rfl))
    simp only [Act.put, List.getElem_toArray, List.getElem_cons_zero, List.getElem_cons_succ, List.setIfInBounds_toArray, List.set_cons_zero, List.set_cons_succ]
    refine wpAnyH_take (i := 8) (v := ?_) rfl (by kernel_rfl) (by kernel_rfl) (by kernel_rfl) (fun _ _ _ h => h) (Or.inl ⟨by rfl, ?hy9⟩) (by assumption) ?ty9
    case hy9 => (intro w5 hSw; obtain ⟨e0, e1⟩ := hSw; go_simp; all_goals with_reducible rfl)
    simp only [Act.put, List.getElem_toArray, List.getElem_cons_zero, List.getElem_cons_succ, List.setIfInBounds_toArray, List.set_cons_zero, List.set_cons_succ]
    refine wpAnyH_take (i := 9) (v := ?_) rfl (by kernel_rfl) (by kernel_rfl) (by kernel_rfl) (fun _ _ _ h => h) (Or.inl ⟨by rfl, ?hy10⟩) (by assumption) ?ty10
    case hy10 => (intro w5 hSw; obtain ⟨e0, e1⟩ := hSw; go_simp; all_goals with_reducible rfl)
    simp only [Act.put, List.getElem_toArray, List.getElem_cons_zero, List.getElem_cons_succ, List.setIfInBounds_toArray, List.set_cons_zero, List.set_cons_succ]
    refine wpAnyH_take (i := 10) (v := ?_) rfl (by kernel_rfl) (by kernel_rfl) (by kernel_rfl) (fun _ _ _ h => h) (Or.inl ⟨by rfl, ?hy11⟩) (by assumption) ?ty11
    case hy11 => (intro w5 hSw; obtain ⟨e0, e1⟩ := hSw; go_simp; all_goals with_reducible rfl)
    simp only [Act.put, List.getElem_toArray, List.getElem_cons_zero, List.getElem_cons_succ, List.setIfInBounds_toArray, List.set_cons_zero, List.set_cons_succ]
    refine wpAnyH_take (i := 11) (v := ?_) rfl (by kernel_rfl) (by kernel_rfl) (by kernel_rfl) (fun _ _ _ h => h) (Or.inl ⟨by rfl, ?hy12⟩) (by assumption) ?ty12
    case hy12 => (intro w5 hSw; obtain ⟨e0, e1⟩ := hSw; go_simp; all_goals with_reducible rfl)
    simp only [Act.put, List.getElem_toArray, List.getElem_cons_zero, List.getElem_cons_succ, List.setIfInBounds_toArray, List.set_cons_zero, List.set_cons_succ]
    refine wpAnyH_take (i := 12) (v := ?_) rfl (by kernel_rfl) (by kernel_rfl) (by kernel_rfl) (fun _ _ _ h => h) (Or.inl ⟨by rfl, ?hy13⟩) (by assumption) ?ty13
    case hy13 => (intro w5 hSw; obtain ⟨e0, e1⟩ := hSw; go_simp; all_goals with_reducible rfl)
    simp only [Act.put, List.getElem_toArray, List.getElem_cons_zero, List.getElem_cons_succ, List.setIfInBounds_toArray, List.set_cons_zero, List.set_cons_succ]
    refine wpAnyH_ready (rs := [13]) (by kernel_rfl) (by simp) ?_
    refine AllReadyH.cons rfl (fun K hK => ?_) AllReadyH.nil
    go_simp
    refine (HQS.out x1 (HZ1.out _ hy1)).mono ?_
    rintro e x2 ⟨vB, rfl, hoB, hcB⟩
    obtain ⟨aB, cB, hvB, -, -⟩ := hoB.form
    subst hvB
    rw [hpc]
    have hy2 := hy1.trans (hcB.mono hy1.size)
    refine hK.out _ _ (HS7.out _ hy2) (fun hHeld => ?_)
    clear hK K
    refine wpAnyH_take (i := 14) (v := ?_) rfl (by kernel_rfl) (by kernel_rfl) (by kernel_rfl) (fun _ _ _ h => h) (Or.inl ⟨by rfl, ?hy14⟩) (by assumption) ?ty14
    case hy14 => (intro w5 hSw; obtain ⟨e0, e1⟩ := hSw; go_simp; all_goals with_reducible rfl)
    simp only [Act.put, List.getElem_toArray, List.getElem_cons_zero, List.getElem_cons_succ, List.setIfInBounds_toArray, List.set_cons_zero, List.set_cons_succ]
    refine wpAnyH_take (i := 15) (v := .bool true) rfl (by kernel_rfl) (by kernel_rfl) (by kernel_rfl) (fun _ _ _ h => h) (Or.inl ⟨by rfl, ?hy15⟩) (by assumption) ?ty15
    case hy15 => (intro w5 hSw; obtain ⟨e0, e1⟩ := hSw; go_simp; first | (simp; done) | (all_goals with_reducible rfl))
    simp only [Act.put, List.getElem_toArray, List.getElem_cons_zero, List.getElem_cons_succ, List.setIfInBounds_toArray, List.set_cons_zero, List.set_cons_succ]
    refine wpAnyH_take (i := 16) (v := ?_) rfl (by kernel_rfl) (by kernel_rfl) (by kernel_rfl) (fun _ _ _ h => h) (Or.inl ⟨by rfl, ?hy16⟩) (by assumption) ?ty16
    case hy16 => (intro w5 hSw; obtain ⟨e0, e1⟩ := hSw; go_simp; all_goals with_reducible rfl)
    simp only [Act.put, List.getElem_toArray, List.getElem_cons_zero, List.getElem_cons_succ, List.setIfInBounds_toArray, List.set_cons_zero, List.set_cons_succ]
    refine wpAnyH_take (i := 17) (v := ?_) rfl (by kernel_rfl) (by kernel_rfl) (by kernel_rfl) (fun _ _ _ h => h) (Or.inl ⟨by rfl, ?hy17⟩) (by assumption) ?ty17
    case hy17 => (intro w5 hSw; obtain ⟨e0, e1⟩ := hSw; go_simp; all_goals with_reducible rfl)
    simp only [Act.put, List.getElem_toArray, List.getElem_cons_zero, List.getElem_cons_succ, List.setIfInBounds_toArray, List.set_cons_zero, List.set_cons_succ]
    refine wpAnyH_done (by kernel_rfl) ?_ _
    have hBe := hB5.trans (hy2.mono hB5.size)
    clear hHeld
    go_wp2
    go_ret
    exact ⟨rfl, hBe⟩
  have hc0' := hc0
  subst hc0'
  obtain ⟨hq0, hdec, hBb, hb400, hps0, kn, hkn, hknl, hsame, -⟩ := HBK.out hc
  have hpc0 : pc = 0 := by rw [← hpc]; exact hq0
  subst hpc0
  have HDT : Hid (∀ W, Below Z5.heap.size Z5 W → Calls Tryz.prog 20 #[.int .i64 cs, .slice a2 K2 cp2] W fun e w' => CodEnd (0, (pqV d k).2) W e w') := fun W hb => by
    have hrd := (Own.rd ((ho3.below hb35 (Nat.le_refl _)).below hb (Nat.le_refl _))).2
    obtain ⟨_, _, e, hcap, _⟩ := ho3.form
    cases e
    have := decodeText_any cs a2 _ cp2 (cvV d k cs).2 W rfl hrd hBb hcap
    rwa [hdec] at this
  have HKN : Hid (k = (kn : Int) ∧ kn < (psV d).2.length ∧ (psV d).1 = 0 ∧ cvV d k (nthP (psV d).2 kn).1.2.1 = (0, (pbV d k).2)) := ⟨hkn, hknl, hps0, hsame⟩
  have HKC : Hid ((pqV d k).2.length = Kq) := hKq
  clear HBK hbzZ3 hb13 ho3 hG0 hG1 hbzZ5 hdec hBb hb400 hq0 hkn hknl hps0 hsame hpc hc hK2 hKq
  have hcx : ((0 : Int) != 0) = false := by decide
  go_wp2_with (rw [HZ5.out])
  clear HZ5
  refine (HDT.out Z5 (Below.refl _ _)).mono ?_
  rintro e z6 ⟨v6, rfl, ho6, hb6⟩
  obtain ⟨a7, c7, hv6, -, -⟩ := ho6.form
  dsimp only at hv6
  rw [HKC.out] at hv6
  subst hv6
  clear HDT
  dsimp only at ho6 ⊢
  obtain ⟨Z7, hZ7⟩ : ∃ W, z6.alloc (.cells #[.int .i64 0, .slice a7 Kq c7] 33) = W := ⟨_, rfl⟩
  have hbzZ7 : Below z6.heap.size z6 Z7 := by rw [← hZ7]; exact (Below.refl _ _).alloc (Nat.le_refl _) _
  have hG70 : Z7.cell? ⟨z6.heap.size, 0, none⟩ = some (.int .i64 0) := by rw [← hZ7]; simp
  have hG71 : Z7.cell? ⟨z6.heap.size, 1, none⟩ = some (.slice a7 Kq c7) := by rw [← hZ7]; simp
  have HZ7 : Hid (_ = Z7) := hZ7
  clear hZ7
  have hb57 : Below Z5.heap.size Z5 Z7 := hb6.trans (hbzZ7.mono hb6.size)
  have ho7 := ho6.below hbzZ7 (Nat.le_refl _)
  clear ho6 hb6
  go_wp2_with (rw [HZ7.out])
  clear HZ7
  refine (HPP.out Z7 (HZ1.out _ hb57)).mono ?_
  rintro e z8 ⟨v8, rfl, ho8, hb8⟩
  obtain ⟨KP, hKP⟩ : ∃ K, (psV d).2.length = K := ⟨_, rfl⟩
  obtain ⟨aP, cP, hv8, -, -⟩ := ho8.form
  rw [hKP] at hv8
  subst hv8
  obtain ⟨hkn, hknl, hps0, hsame⟩ := HKN.out
  have hKq := HKC.out
  clear HKN HKC
  rw [hps0]
  obtain ⟨Z9, hZ9⟩ : ∃ W, z8.alloc (.cells #[.int .i64 0, .slice aP KP cP] 41) = W := ⟨_, rfl⟩
  have hbzZ9 : Below z8.heap.size z8 Z9 := by rw [← hZ9]; exact (Below.refl _ _).alloc (Nat.le_refl _) _
  have hG90 : Z9.cell? ⟨z8.heap.size, 0, none⟩ = some (.int .i64 0) := by rw [← hZ9]; simp
  have hG91 : Z9.cell? ⟨z8.heap.size, 1, none⟩ = some (.slice aP KP cP) := by rw [← hZ9]; simp
  have HZ9 : Hid (_ = Z9) := hZ9
  clear hZ9
  have hb79 : Below Z7.heap.size Z7 Z9 := hb8.trans (hbzZ9.mono hb8.size)
  have hb59 : Below Z5.heap.size Z5 Z9 := hb57.trans (hb79.mono hb57.size)
  have ho9 := ho8.below hbzZ9 (Nat.le_refl _)
  obtain ⟨bP, rfl, hbPlt, hcellP⟩ := (OwnP.rd ho9).2.at_ (by omega)
  obtain ⟨-, hcP1, -⟩ := hcellP kn hknl
  clear ho8 hb8 ho9 hcellP
  have hk0 : ¬ k < 0 := by omega
  have hkl : ¬ (KP : Int) ≤ k := by omega
  have hkl2 : k < (KP : Int) := by omega
  have hk1 : 0 ≤ k := by omega
  have htn : k.toNat = kn := by omega
  obtain ⟨ch, hch⟩ : ∃ c, (nthP (psV d).2 kn).1.2.1 = c := ⟨_, rfl⟩
  rw [hch] at hcP1 hsame
  rw [← htn] at hcP1
  clear hknl hKP
  subst hkn
  rw [Int.toNat_natCast] at hcP1
  clear htn
  go_wp2_with (rw [HZ9.out])
  clear HZ9
  refine (HCI.out Z9 ch (HZ1.out _ hb59)).mono ?_
  rw [hsame]
  rintro e zA ⟨vA, rfl, hoA, hbA⟩
  obtain ⟨KB, hKB⟩ : ∃ K, (pbV d (kn : Int)).2.length = K := ⟨_, rfl⟩
  obtain ⟨aB, cB, hvA, -, -⟩ := hoA.form
  dsimp only at hvA
  rw [hKB] at hvA
  subst hvA
  dsimp only at hoA ⊢
  obtain ⟨ZB, hZB⟩ : ∃ W, zA.alloc (.cells #[.int .i64 0, .slice aB KB cB] 27) = W := ⟨_, rfl⟩
  have hbzZB : Below zA.heap.size zA ZB := by rw [← hZB]; exact (Below.refl _ _).alloc (Nat.le_refl _) _
  have hGB0 : ZB.cell? ⟨zA.heap.size, 0, none⟩ = some (.int .i64 0) := by rw [← hZB]; simp
  have hGB1 : ZB.cell? ⟨zA.heap.size, 1, none⟩ = some (.slice aB KB cB) := by rw [← hZB]; simp
  have HZB : Hid (_ = ZB) := hZB
  clear hZB
  have hb9B : Below Z9.heap.size Z9 ZB := hbA.trans (hbzZB.mono hbA.size)
  have hb5B : Below Z5.heap.size Z5 ZB := hb59.trans (hb9B.mono hb59.size)
  have hb7B : Below Z7.heap.size Z7 ZB := hb79.trans (hb9B.mono hb79.size)
  have hoB := hoA.below hbzZB (Nat.le_refl _)
  have hBB : Below w.heap.size w ZB := hB5.trans (hb5B.mono hB5.size)
  have HZ2 : Hid (∀ W, Below ZB.heap.size ZB W → Below z1.heap.size z1 W) := fun W hb => HZ1.out W (hb5B.trans (hb.mono hb5B.size))
  have HOQ : Hid (∀ W, Below ZB.heap.size ZB W → RdI W aq (pqV d (kn : Int)).2) := fun W hb => ((OwnI.rd ho5).2.below hb5B).below hb
  have HO7 : Hid (∀ W, Below ZB.heap.size ZB W → RdI W a7 (pqV d (kn : Int)).2) := fun W hb => ((OwnI.rd ho7).2.below hb7B).below hb
  have HOB : Hid (∀ W, Below ZB.heap.size ZB W → Rd W aB (pbV d (kn : Int)).2) := fun W hb => (Own.rd hoB).2.below hb
  obtain ⟨G7, hG7⟩ : ∃ G, z6.heap.size = G := ⟨_, rfl⟩
  obtain ⟨GB, hGB⟩ : ∃ G, zA.heap.size = G := ⟨_, rfl⟩
  rw [hG7] at hG70 hG71
  rw [hGB] at hGB0 hGB1
  have HSX : Hid (∀ W, Below ZB.heap.size ZB W → W.cell? ⟨G5, 0, none⟩ = some (.int .i64 0) ∧ W.cell? ⟨G5, 1, none⟩ = some (.slice aq Kq cq) ∧ W.cell? ⟨G7, 0, none⟩ = some (.int .i64 0) ∧ W.cell? ⟨G7, 1, none⟩ = some (.slice a7 Kq c7) ∧ W.cell? ⟨GB, 0, none⟩ = some (.int .i64 0) ∧ W.cell? ⟨GB, 1, none⟩ = some (.slice aB KB cB)) := fun W hb => by
    have h50 := (hb5B.cell (p := ⟨G5, 0, none⟩) (World.block_lt_of_cell? Z5 _ hG50)).trans hG50
    have h51 := (hb5B.cell (p := ⟨G5, 1, none⟩) (World.block_lt_of_cell? Z5 _ hG51)).trans hG51
    have h70 := (hb7B.cell (p := ⟨G7, 0, none⟩) (World.block_lt_of_cell? Z7 _ hG70)).trans hG70
    have h71 := (hb7B.cell (p := ⟨G7, 1, none⟩) (World.block_lt_of_cell? Z7 _ hG71)).trans hG71
    exact ⟨(hb.cell (p := ⟨G5, 0, none⟩) (World.block_lt_of_cell? ZB _ h50)).trans h50, (hb.cell (p := ⟨G5, 1, none⟩) (World.block_lt_of_cell? ZB _ h51)).trans h51, (hb.cell (p := ⟨G7, 0, none⟩) (World.block_lt_of_cell? ZB _ h70)).trans h70, (hb.cell (p := ⟨G7, 1, none⟩) (World.block_lt_of_cell? ZB _ h71)).trans h71, (hb.cell (p := ⟨GB, 0, none⟩) (World.block_lt_of_cell? ZB _ hGB0)).trans hGB0, (hb.cell (p := ⟨GB, 1, none⟩) (World.block_lt_of_cell? ZB _ hGB1)).trans hGB1⟩
  clear HZ1
  have HZ1 := HZ2
  clear HZ2 ho5 ho7 hoA hoB hbA hbzZB hbzZ9 hbzZ7 hb9B hb79 hb7B hb5B hb57 hb59 hb35 hb15 hG90 hG91 hcP1 HCI HCS HQI HPP hsame hps0 hbPlt hB5 hG0' hG1'
  go_wp2_with (rw [HZB.out])
  clear HZB
  (try rw [hG5])
  (try rw [hG7])
  (try rw [hGB])
  clear hG5 hG7 hGB hG hG50 hG51 hG70 hG71 hGB0 hGB1
  refine wp_region_held_drew (S := fun w' => w'.cell? ⟨G5, 0, none⟩ = some (.int .i64 0) ∧ w'.cell? ⟨G5, 1, none⟩ = some (.slice aq Kq cq) ∧ w'.cell? ⟨G7, 0, none⟩ = some (.int .i64 0) ∧ w'.cell? ⟨G7, 1, none⟩ = some (.slice a7 Kq c7) ∧ w'.cell? ⟨GB, 0, none⟩ = some (.int .i64 0) ∧ w'.cell? ⟨GB, 1, none⟩ = some (.slice aB KB cB)) (by kernel_rfl) ?hS18 (fun hHeld => ?_)
  case hS18 => exact HSX.out _ (Below.refl _ _).drew
  refine wpAnyH_take (i := 0) (v := ?_) rfl (by kernel_rfl) (by kernel_rfl) (by kernel_rfl) (fun _ _ _ h => h) (Or.inl ⟨by rfl, ?hy19⟩) (by assumption) ?ty19
  case hy19 => (intro w5 hSw; obtain ⟨e1, e2, e3, e4, e5, e6⟩ := hSw; go_simp; all_goals with_reducible rfl)
  simp only [Act.put, List.getElem_toArray, List.getElem_cons_zero, List.setIfInBounds_toArray, List.set_cons_zero, List.set_cons_succ]
  refine wpAnyH_take (i := 1) (v := ?_) rfl (by kernel_rfl) (by kernel_rfl) (by kernel_rfl) (fun _ _ _ h => h) (Or.inl ⟨by rfl, ?hy20⟩) (by assumption) ?ty20
  case hy20 => (intro w5 hSw; obtain ⟨e1, e2, e3, e4, e5, e6⟩ := hSw; go_simp; all_goals with_reducible rfl)
  simp only [Act.put, List.getElem_toArray, List.getElem_cons_zero, List.getElem_cons_succ, List.setIfInBounds_toArray, List.set_cons_zero, List.set_cons_succ]
  refine wpAnyH_take (i := 2) (v := .bool true) rfl (by kernel_rfl) (by kernel_rfl) (by kernel_rfl) (fun _ _ _ h => h) (Or.inl ⟨by rfl, ?hy21⟩) (by assumption) ?ty21
  case hy21 => (intro w5 hSw; obtain ⟨e1, e2, e3, e4, e5, e6⟩ := hSw; go_simp; first | (simp; done) | (all_goals with_reducible rfl))
  simp only [Act.put, List.getElem_toArray, List.getElem_cons_zero, List.getElem_cons_succ, List.setIfInBounds_toArray, List.set_cons_zero, List.set_cons_succ]
  refine wpAnyH_take (i := 3) (v := ?_) rfl (by kernel_rfl) (by kernel_rfl) (by kernel_rfl) (fun _ _ _ h => h) (Or.inl ⟨by rfl, ?hy22⟩) (by assumption) ?ty22
  case hy22 => (intro w5 hSw; obtain ⟨e1, e2, e3, e4, e5, e6⟩ := hSw; go_simp; all_goals with_reducible rfl)
  simp only [Act.put, List.getElem_toArray, List.getElem_cons_zero, List.getElem_cons_succ, List.setIfInBounds_toArray, List.set_cons_zero, List.set_cons_succ]
  refine wpAnyH_take (i := 4) (v := ?_) rfl (by kernel_rfl) (by kernel_rfl) (by kernel_rfl) (fun _ _ _ h => h) (Or.inl ⟨by rfl, ?hy23⟩) (by assumption) ?ty23
  case hy23 => (intro w5 hSw; obtain ⟨e1, e2, e3, e4, e5, e6⟩ := hSw; go_simp; all_goals with_reducible rfl)
  simp only [Act.put, List.getElem_toArray, List.getElem_cons_zero, List.getElem_cons_succ, List.setIfInBounds_toArray, List.set_cons_zero, List.set_cons_succ]
  refine wpAnyH_take (i := 5) (v := ?_) rfl (by kernel_rfl) (by kernel_rfl) (by kernel_rfl) (fun _ _ _ h => h) (Or.inl ⟨by rfl, ?hy24⟩) (by assumption) ?ty24
  case hy24 => (intro w5 hSw; obtain ⟨e1, e2, e3, e4, e5, e6⟩ := hSw; go_simp; all_goals with_reducible rfl)
  simp only [Act.put, List.getElem_toArray, List.getElem_cons_zero, List.getElem_cons_succ, List.setIfInBounds_toArray, List.set_cons_zero, List.set_cons_succ]
  refine wpAnyH_take (i := 6) (v := .bool true) rfl (by kernel_rfl) (by kernel_rfl) (by kernel_rfl) (fun _ _ _ h => h) (Or.inl ⟨by rfl, ?hy25⟩) (by assumption) ?ty25
  case hy25 => (intro w5 hSw; obtain ⟨e1, e2, e3, e4, e5, e6⟩ := hSw; go_simp; first | (simp; done) | (all_goals with_reducible rfl))
  simp only [Act.put, List.getElem_toArray, List.getElem_cons_zero, List.getElem_cons_succ, List.setIfInBounds_toArray, List.set_cons_zero, List.set_cons_succ]
  refine wpAnyH_take (i := 7) (v := ?_) rfl (by kernel_rfl) (by kernel_rfl) (by kernel_rfl) (fun _ _ _ h => h) (Or.inl ⟨by rfl, ?hy26⟩) (by assumption) ?ty26
  case hy26 => (intro w5 hSw; obtain ⟨e1, e2, e3, e4, e5, e6⟩ := hSw; go_simp; all_goals with_reducible rfl)
  simp only [Act.put, List.getElem_toArray, List.getElem_cons_zero, List.getElem_cons_succ, List.setIfInBounds_toArray, List.set_cons_zero, List.set_cons_succ]
  refine wpAnyH_take (i := 8) (v := ?_) rfl (by kernel_rfl) (by kernel_rfl) (by kernel_rfl) (fun _ _ _ h => h) (Or.inl ⟨by rfl, ?hy27⟩) (by assumption) ?ty27
  case hy27 => (intro w5 hSw; obtain ⟨e1, e2, e3, e4, e5, e6⟩ := hSw; go_simp; all_goals with_reducible rfl)
  simp only [Act.put, List.getElem_toArray, List.getElem_cons_zero, List.getElem_cons_succ, List.setIfInBounds_toArray, List.set_cons_zero, List.set_cons_succ]
  refine wpAnyH_take (i := 9) (v := ?_) rfl (by kernel_rfl) (by kernel_rfl) (by kernel_rfl) (fun _ _ _ h => h) (Or.inl ⟨by rfl, ?hy28⟩) (by assumption) ?ty28
  case hy28 => (intro w5 hSw; obtain ⟨e1, e2, e3, e4, e5, e6⟩ := hSw; go_simp; all_goals with_reducible rfl)
  simp only [Act.put, List.getElem_toArray, List.getElem_cons_zero, List.getElem_cons_succ, List.setIfInBounds_toArray, List.set_cons_zero, List.set_cons_succ]
  refine wpAnyH_take (i := 10) (v := ?_) rfl (by kernel_rfl) (by kernel_rfl) (by kernel_rfl) (fun _ _ _ h => h) (Or.inl ⟨by rfl, ?hy29⟩) (by assumption) ?ty29
  case hy29 => (intro w5 hSw; obtain ⟨e1, e2, e3, e4, e5, e6⟩ := hSw; go_simp; all_goals with_reducible rfl)
  simp only [Act.put, List.getElem_toArray, List.getElem_cons_zero, List.getElem_cons_succ, List.setIfInBounds_toArray, List.set_cons_zero, List.set_cons_succ]
  refine wpAnyH_take (i := 11) (v := ?_) rfl (by kernel_rfl) (by kernel_rfl) (by kernel_rfl) (fun _ _ _ h => h) (Or.inl ⟨by rfl, ?hy30⟩) (by assumption) ?ty30
  case hy30 => (intro w5 hSw; obtain ⟨e1, e2, e3, e4, e5, e6⟩ := hSw; go_simp; all_goals with_reducible rfl)
  simp only [Act.put, List.getElem_toArray, List.getElem_cons_zero, List.getElem_cons_succ, List.setIfInBounds_toArray, List.set_cons_zero, List.set_cons_succ]
  refine wpAnyH_take (i := 12) (v := ?_) rfl (by kernel_rfl) (by kernel_rfl) (by kernel_rfl) (fun _ _ _ h => h) (Or.inl ⟨by rfl, ?hy31⟩) (by assumption) ?ty31
  case hy31 => (intro w5 hSw; obtain ⟨e1, e2, e3, e4, e5, e6⟩ := hSw; go_simp; all_goals with_reducible rfl)
  simp only [Act.put, List.getElem_toArray, List.getElem_cons_zero, List.getElem_cons_succ, List.setIfInBounds_toArray, List.set_cons_zero, List.set_cons_succ]
  have hy0 : Below ZB.heap.size ZB ZB.drew := (Below.refl _ _).drew
  generalize ZB.drew = x0 at *
  refine wpAnyH_ready (rs := [13]) (by kernel_rfl) (by simp) ?_
  refine AllReadyH.cons rfl (fun K hK => ?_) AllReadyH.nil
  go_simp
  refine (lwNums_any a7 aq Kq Kq c7 cq (pqV d (kn : Int)).2 (pqV d (kn : Int)).2 x0 hKq hKq (HO7.out _ hy0) (HOQ.out _ hy0) (by omega) (by omega)).mono ?_
  rintro e x1 ⟨rfl, hc1⟩
  rw [decide_eq_true (rfl : (pqV d (kn : Int)).2 = (pqV d (kn : Int)).2)]
  have hy1 := hy0.trans (hc1.mono hy0.size)
  refine hK.out _ _ (HSX.out _ hy1) (fun hHeld => ?_)
  clear hK K
  refine wpAnyH_take (i := 14) (v := ?_) rfl (by kernel_rfl) (by kernel_rfl) (by kernel_rfl) (fun _ _ _ h => h) (Or.inl ⟨by rfl, ?hy32⟩) (by assumption) ?ty32
  case hy32 => (intro w5 hSw; obtain ⟨e1, e2, e3, e4, e5, e6⟩ := hSw; go_simp; all_goals with_reducible rfl)
  simp only [Act.put, List.getElem_toArray, List.getElem_cons_zero, List.getElem_cons_succ, List.setIfInBounds_toArray, List.set_cons_zero, List.set_cons_succ]
  refine wpAnyH_take (i := 15) (v := ?_) rfl (by kernel_rfl) (by kernel_rfl) (by kernel_rfl) (fun _ _ _ h => h) (Or.inl ⟨by rfl, ?hy33⟩) (by assumption) ?ty33
  case hy33 => (intro w5 hSw; obtain ⟨e1, e2, e3, e4, e5, e6⟩ := hSw; go_simp; all_goals with_reducible rfl)
  simp only [Act.put, List.getElem_toArray, List.getElem_cons_zero, List.getElem_cons_succ, List.setIfInBounds_toArray, List.set_cons_zero, List.set_cons_succ]
  refine wpAnyH_take (i := 16) (v := ?_) rfl (by kernel_rfl) (by kernel_rfl) (by kernel_rfl) (fun _ _ _ h => h) (Or.inl ⟨by rfl, ?hy34⟩) (by assumption) ?ty34
  case hy34 => (intro w5 hSw; obtain ⟨e1, e2, e3, e4, e5, e6⟩ := hSw; go_simp; all_goals with_reducible rfl)
  simp only [Act.put, List.getElem_toArray, List.getElem_cons_zero, List.getElem_cons_succ, List.setIfInBounds_toArray, List.set_cons_zero, List.set_cons_succ]
  refine wpAnyH_take (i := 17) (v := ?_) rfl (by kernel_rfl) (by kernel_rfl) (by kernel_rfl) (fun _ _ _ h => h) (Or.inl ⟨by rfl, ?hy35⟩) (by assumption) ?ty35
  case hy35 => (intro w5 hSw; obtain ⟨e1, e2, e3, e4, e5, e6⟩ := hSw; go_simp; all_goals with_reducible rfl)
  simp only [Act.put, List.getElem_toArray, List.getElem_cons_zero, List.getElem_cons_succ, List.setIfInBounds_toArray, List.set_cons_zero, List.set_cons_succ]
  refine wpAnyH_take (i := 18) (v := .bool true) rfl (by kernel_rfl) (by kernel_rfl) (by kernel_rfl) (fun _ _ _ h => h) (Or.inl ⟨by rfl, ?hy36⟩) (by assumption) ?ty36
  case hy36 => (intro w5 hSw; obtain ⟨e1, e2, e3, e4, e5, e6⟩ := hSw; go_simp; first | (simp; done) | (all_goals with_reducible rfl))
  simp only [Act.put, List.getElem_toArray, List.getElem_cons_zero, List.getElem_cons_succ, List.setIfInBounds_toArray, List.set_cons_zero, List.set_cons_succ]
  refine wpAnyH_take (i := 19) (v := ?_) rfl (by kernel_rfl) (by kernel_rfl) (by kernel_rfl) (fun _ _ _ h => h) (Or.inl ⟨by rfl, ?hy37⟩) (by assumption) ?ty37
  case hy37 => (intro w5 hSw; obtain ⟨e1, e2, e3, e4, e5, e6⟩ := hSw; go_simp; all_goals with_reducible rfl)
  simp only [Act.put, List.getElem_toArray, List.getElem_cons_zero, List.getElem_cons_succ, List.setIfInBounds_toArray, List.set_cons_zero, List.set_cons_succ]
  refine wpAnyH_take (i := 20) (v := ?_) rfl (by kernel_rfl) (by kernel_rfl) (by kernel_rfl) (fun _ _ _ h => h) (Or.inl ⟨by rfl, ?hy38⟩) (by assumption) ?ty38
  case hy38 => (intro w5 hSw; obtain ⟨e1, e2, e3, e4, e5, e6⟩ := hSw; go_simp; all_goals with_reducible rfl)
  simp only [Act.put, List.getElem_toArray, List.getElem_cons_zero, List.getElem_cons_succ, List.setIfInBounds_toArray, List.set_cons_zero, List.set_cons_succ]
  refine wpAnyH_take (i := 21) (v := ?_) rfl (by kernel_rfl) (by kernel_rfl) (by kernel_rfl) (fun _ _ _ h => h) (Or.inl ⟨by rfl, ?hy39⟩) (by assumption) ?ty39
  case hy39 => (intro w5 hSw; obtain ⟨e1, e2, e3, e4, e5, e6⟩ := hSw; go_simp; all_goals with_reducible rfl)
  simp only [Act.put, List.getElem_toArray, List.getElem_cons_zero, List.getElem_cons_succ, List.setIfInBounds_toArray, List.set_cons_zero, List.set_cons_succ]
  refine wpAnyH_take (i := 22) (v := ?_) rfl (by kernel_rfl) (by kernel_rfl) (by kernel_rfl) (fun _ _ _ h => h) (Or.inl ⟨by rfl, ?hy40⟩) (by assumption) ?ty40
  case hy40 => (intro w5 hSw; obtain ⟨e1, e2, e3, e4, e5, e6⟩ := hSw; go_simp; all_goals with_reducible rfl)
  simp only [Act.put, List.getElem_toArray, List.getElem_cons_zero, List.getElem_cons_succ, List.setIfInBounds_toArray, List.set_cons_zero, List.set_cons_succ]
  refine wpAnyH_take (i := 23) (v := ?_) rfl (by kernel_rfl) (by kernel_rfl) (by kernel_rfl) (fun _ _ _ h => h) (Or.inl ⟨by rfl, ?hy41⟩) (by assumption) ?ty41
  case hy41 => (intro w5 hSw; obtain ⟨e1, e2, e3, e4, e5, e6⟩ := hSw; go_simp; all_goals with_reducible rfl)
  simp only [Act.put, List.getElem_toArray, List.getElem_cons_zero, List.getElem_cons_succ, List.setIfInBounds_toArray, List.set_cons_zero, List.set_cons_succ]
  refine wpAnyH_take (i := 24) (v := ?_) rfl (by kernel_rfl) (by kernel_rfl) (by kernel_rfl) (fun _ _ _ h => h) (Or.inl ⟨by rfl, ?hy42⟩) (by assumption) ?ty42
  case hy42 => (intro w5 hSw; obtain ⟨e1, e2, e3, e4, e5, e6⟩ := hSw; go_simp; all_goals with_reducible rfl)
  simp only [Act.put, List.getElem_toArray, List.getElem_cons_zero, List.getElem_cons_succ, List.setIfInBounds_toArray, List.set_cons_zero, List.set_cons_succ]
  refine wpAnyH_ready (rs := [25]) (by kernel_rfl) (by simp) ?_
  refine AllReadyH.cons rfl (fun K hK => ?_) AllReadyH.nil
  go_simp
  refine (HPB.out x1 (HZ1.out _ hy1)).mono ?_
  rintro e x2 ⟨v2, rfl, ho2, hc2⟩
  obtain ⟨aE, cE, hvE, -, -⟩ := ho2.form
  rw [hKB] at hvE
  subst hvE
  have hy2 := hy1.trans (hc2.mono hy1.size)
  refine hK.out _ _ (HSX.out _ hy2) (fun hHeld => ?_)
  clear hK K
  refine wpAnyH_take (i := 26) (v := ?_) rfl (by kernel_rfl) (by kernel_rfl) (by kernel_rfl) (fun _ _ _ h => h) (Or.inl ⟨by rfl, ?hy43⟩) (by assumption) ?ty43
  case hy43 => (intro w5 hSw; obtain ⟨e1, e2, e3, e4, e5, e6⟩ := hSw; go_simp; all_goals with_reducible rfl)
  simp only [Act.put, List.getElem_toArray, List.getElem_cons_zero, List.getElem_cons_succ, List.setIfInBounds_toArray, List.set_cons_zero, List.set_cons_succ]
  refine wpAnyH_ready (rs := [27]) (by kernel_rfl) (by simp) ?_
  refine AllReadyH.cons rfl (fun K hK => ?_) AllReadyH.nil
  go_simp
  refine (lwSame_any aB aE KB cB cE (pbV d (kn : Int)).2 x2 hKB (HOB.out _ hy2) (Own.rd ho2).2).mono ?_
  rintro e x3 ⟨rfl, rfl⟩
  refine hK.out _ _ (HSX.out _ hy2) (fun hHeld => ?_)
  clear hK K
  refine wpAnyH_take (i := 28) (v := ?_) rfl (by kernel_rfl) (by kernel_rfl) (by kernel_rfl) (fun _ _ _ h => h) (Or.inl ⟨by rfl, ?hy44⟩) (by assumption) ?ty44
  case hy44 => (intro w5 hSw; obtain ⟨e1, e2, e3, e4, e5, e6⟩ := hSw; go_simp; all_goals with_reducible rfl)
  simp only [Act.put, List.getElem_toArray, List.getElem_cons_zero, List.getElem_cons_succ, List.setIfInBounds_toArray, List.set_cons_zero, List.set_cons_succ]
  refine wpAnyH_take (i := 29) (v := ?_) rfl (by kernel_rfl) (by kernel_rfl) (by kernel_rfl) (fun _ _ _ h => h) (Or.inl ⟨by rfl, ?hy45⟩) (by assumption) ?ty45
  case hy45 => (intro w5 hSw; obtain ⟨e1, e2, e3, e4, e5, e6⟩ := hSw; go_simp; all_goals with_reducible rfl)
  simp only [Act.put, List.getElem_toArray, List.getElem_cons_zero, List.getElem_cons_succ, List.setIfInBounds_toArray, List.set_cons_zero, List.set_cons_succ]
  refine wpAnyH_take (i := 30) (v := ?_) rfl (by kernel_rfl) (by kernel_rfl) (by kernel_rfl) (fun _ _ _ h => h) (Or.inl ⟨by rfl, ?hy46⟩) (by assumption) ?ty46
  case hy46 => (intro w5 hSw; obtain ⟨e1, e2, e3, e4, e5, e6⟩ := hSw; go_simp; all_goals with_reducible rfl)
  simp only [Act.put, List.getElem_toArray, List.getElem_cons_zero, List.getElem_cons_succ, List.setIfInBounds_toArray, List.set_cons_zero, List.set_cons_succ]
  refine wpAnyH_take (i := 31) (v := ?_) rfl (by kernel_rfl) (by kernel_rfl) (by kernel_rfl) (fun _ _ _ h => h) (Or.inl ⟨by rfl, ?hy47⟩) (by assumption) ?ty47
  case hy47 => (intro w5 hSw; obtain ⟨e1, e2, e3, e4, e5, e6⟩ := hSw; go_simp; all_goals with_reducible rfl)
  simp only [Act.put, List.getElem_toArray, List.getElem_cons_zero, List.getElem_cons_succ, List.setIfInBounds_toArray, List.set_cons_zero, List.set_cons_succ]
  refine wpAnyH_take (i := 32) (v := ?_) rfl (by kernel_rfl) (by kernel_rfl) (by kernel_rfl) (fun _ _ _ h => h) (Or.inl ⟨by rfl, ?hy48⟩) (by assumption) ?ty48
  case hy48 => (intro w5 hSw; obtain ⟨e1, e2, e3, e4, e5, e6⟩ := hSw; go_simp; all_goals with_reducible rfl)
  simp only [Act.put, List.getElem_toArray, List.getElem_cons_zero, List.getElem_cons_succ, List.setIfInBounds_toArray, List.set_cons_zero, List.set_cons_succ]
  refine wpAnyH_take (i := 33) (v := ?_) rfl (by kernel_rfl) (by kernel_rfl) (by kernel_rfl) (fun _ _ _ h => h) (Or.inl ⟨by rfl, ?hy49⟩) (by assumption) ?ty49
  case hy49 => (intro w5 hSw; obtain ⟨e1, e2, e3, e4, e5, e6⟩ := hSw; go_simp; all_goals with_reducible rfl)
  simp only [Act.put, List.getElem_toArray, List.getElem_cons_zero, List.getElem_cons_succ, List.setIfInBounds_toArray, List.set_cons_zero, List.set_cons_succ]
  refine wpAnyH_ready (rs := [34]) (by kernel_rfl) (by simp) ?_
  refine AllReadyH.cons rfl (fun K hK => ?_) AllReadyH.nil
  go_simp
  refine (HQS.out x2 (HZ1.out _ hy2)).mono ?_
  rintro e x4 ⟨v4, rfl, ho4, hc4⟩
  obtain ⟨aF, cF, hvF, -, -⟩ := ho4.form
  rw [hKq] at hvF
  subst hvF
  have hy4 := hy2.trans (hc4.mono hy2.size)
  refine hK.out _ _ (HSX.out _ hy4) (fun hHeld => ?_)
  clear hK K
  refine wpAnyH_take (i := 35) (v := ?_) rfl (by kernel_rfl) (by kernel_rfl) (by kernel_rfl) (fun _ _ _ h => h) (Or.inl ⟨by rfl, ?hy50⟩) (by assumption) ?ty50
  case hy50 => (intro w5 hSw; obtain ⟨e1, e2, e3, e4, e5, e6⟩ := hSw; go_simp; all_goals with_reducible rfl)
  simp only [Act.put, List.getElem_toArray, List.getElem_cons_zero, List.getElem_cons_succ, List.setIfInBounds_toArray, List.set_cons_zero, List.set_cons_succ]
  refine wpAnyH_ready (rs := [36]) (by kernel_rfl) (by simp) ?_
  refine AllReadyH.cons rfl (fun K hK => ?_) AllReadyH.nil
  go_simp
  refine (lwNums_any aq aF Kq Kq cq cF (pqV d (kn : Int)).2 (pqV d (kn : Int)).2 x4 hKq hKq (HOQ.out _ hy4) (OwnI.rd ho4).2 (by omega) (by omega)).mono ?_
  rintro e x5 ⟨rfl, hc5⟩
  rw [decide_eq_true (rfl : (pqV d (kn : Int)).2 = (pqV d (kn : Int)).2)]
  have hy5 := hy4.trans (hc5.mono hy4.size)
  refine hK.out _ _ (HSX.out _ hy5) (fun hHeld => ?_)
  clear hK K
  refine wpAnyH_take (i := 37) (v := ?_) rfl (by kernel_rfl) (by kernel_rfl) (by kernel_rfl) (fun _ _ _ h => h) (Or.inl ⟨by rfl, ?hy51⟩) (by assumption) ?ty51
  case hy51 => (intro w5 hSw; obtain ⟨e1, e2, e3, e4, e5, e6⟩ := hSw; go_simp; all_goals with_reducible rfl)
  simp only [Act.put, List.getElem_toArray, List.getElem_cons_zero, List.getElem_cons_succ, List.setIfInBounds_toArray, List.set_cons_zero, List.set_cons_succ]
  refine wpAnyH_take (i := 38) (v := ?_) rfl (by kernel_rfl) (by kernel_rfl) (by kernel_rfl) (fun _ _ _ h => h) (Or.inl ⟨by rfl, ?hy52⟩) (by assumption) ?ty52
  case hy52 => (intro w5 hSw; obtain ⟨e1, e2, e3, e4, e5, e6⟩ := hSw; go_simp; all_goals with_reducible rfl)
  simp only [Act.put, List.getElem_toArray, List.getElem_cons_zero, List.getElem_cons_succ, List.setIfInBounds_toArray, List.set_cons_zero, List.set_cons_succ]
  refine wpAnyH_done (by kernel_rfl) ?_ _
  have hBe := hBB.trans (hy5.mono hBB.size)
  clear hHeld
  go_wp2
  go_ret
  exact ⟨rfl, hBe⟩
end Go.Proofs.YtooifkdbpghcfaaGreatDoor
