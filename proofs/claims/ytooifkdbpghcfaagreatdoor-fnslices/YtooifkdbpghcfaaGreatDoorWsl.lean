/- The walk of the law FnSlices: it returns true, whatever the input. -/
import Derived.Test.YtooifkdbpghcfaaGreatDoorPvwToSlf
import Derived.Test.YtooifkdbpghcfaaGreatDoorDrkToMqr
import Derived.Test.YtooifkdbpghcfaaGreatDoorDr5cToDrl5
import Derived.Laws.AppendOwnNone
import Derived.Deep.DeepCutAuto
namespace Go.Proofs.YtooifkdbpghcfaaGreatDoor
open Go.RowKit
set_option linter.unusedVariables false

theorem fldY0 (x y : Value) (w : World) : (Instr.field 27 (.agg #[x, y]) 0).run Tryz.prog w = .ok x w := by
  simp [Instr.field, asAgg, go_sem]
theorem fldY1 (x y : Value) (w : World) : (Instr.field 27 (.agg #[x, y]) 1).run Tryz.prog w = .ok y w := by
  simp [Instr.field, asAgg, go_sem]
theorem fldC0 (x y : Value) (w : World) : (Instr.field 33 (.agg #[x, y]) 0).run Tryz.prog w = .ok x w := by
  simp [Instr.field, asAgg, go_sem]
theorem fldC1 (x y : Value) (w : World) : (Instr.field 33 (.agg #[x, y]) 1).run Tryz.prog w = .ok y w := by
  simp [Instr.field, asAgg, go_sem]
/-- An append of bytes that some call owns, at a step of a region that draws its order. -/
theorem step_appB {w : World} {ops : Array Oper} {o : Oper} {a : Act} {K : Act → World → Prop} {Q : Exit → Act → World → Prop} {E : Prop} (hw : Region.wanted o (yielded ops a.tmps) = true) (s x : Operand)
    (ho : o.op = .call { callee := .builtin .append, args := #[s, x], argTypes := #[22, 22] })
    (B : Nat) (v v2 : Value) (l : List Nat) (hs : a.eval s = v) (hown : Own w B v l) (B2 : Nat) (new : List Nat) (hx : a.eval x = v2) (hown2 : Own w B2 v2 new) (hsz : l.length + new.length ≤ 1073741824) (hB : B ≤ w.heap.size)
    (h : ∀ v' w1, Own w1 B v' (l ++ new) → Below B w w1 → K (a.put o.dst v') w1) : if Region.wanted o (yielded ops a.tmps) = true then Oper.wp Tryz.prog o a w K Q else E := by
  have hh := hown2
  rcases hown2.2 with ⟨h', h0⟩ | ⟨g, cap, cur, h', _⟩
  · subst h'
    obtain rfl : new = [] := List.length_eq_zero_iff.1 h0
    obtain ⟨i0, hi, hz0, hz1, hz2⟩ := info_parts infoB
    rw [if_pos hw]
    have hrun := run_append_owned_none (P := Tryz.prog) (w := w) B 22 o.type 5 i0 1 Tryz.underlying22 hi v l.length (bc l) hown
    unfold Oper.wp
    simp [execOp, ho, resolve, invoke, builtin, hs, hx, hrun, Result.andThen]
    exact h v w (by rw [List.append_nil]; exact hown) (Below.refl _ _)
  · subst h'
    obtain ⟨hl2, hr2⟩ := Own.rd hh
    rw [if_pos hw]
    obtain ⟨i0, hi, hz0, hz1, hz2⟩ := info_parts infoB
    refine wp_append_own w s x 22 ho B 5 i0 (.int .u8 0) 1 1 Tryz.underlying22 hi hz0 hz1 hz2 rfl (by decide) v l.length (bc l) hs hown ⟨g, 0, none⟩ new.length cap (bc new) hx (by rw [bc_len]; omega) ?_ (bc_one new) (by unfold maxLen; omega) (by omega) hB ?_
    rotate_left
    · intro v' w1 hown' hgr _
      refine h v' w1 ?_ ((Below.refl _ _).grown hgr hB (fun k hk => (hown.lt k hk).1))
      unfold Own
      rw [bc_app, List.length_append]
      exact hown'
    intro j u hj
    have hjl : j < new.length := by
      rcases Nat.lt_or_ge j new.length with hlt | hge
      · exact hlt
      · rw [List.getElem?_eq_none (by rw [bc_len]; exact hge)] at hj; cases hj
    rw [bc_get hjl] at hj
    cases hj
    replace hj := hjl
    obtain ⟨b', off', e, -, hc⟩ := hr2.at_ (by omega)
    cases e
    rw [Go.WideShapes.add_plain]
    exact hc j hj

set_option maxHeartbeats 12800000 in
set_option maxRecDepth 100000 in
theorem walkSlices (a0 : Option Addr) (len0 cap0 : Nat) (l : List Nat) (w : World) (hl : l.length = len0) (hr : Rd w a0 l) (hBl : IsB l) (htC : TabC w) (htB : TabB w) (htH : TabH w) (hmx : MaxI w) :
    Calls Tryz.prog 3 #[.slice a0 len0 cap0] w fun e w' => e = .returned (.bool true) ∧ Below w.heap.size w w' := by
  by_cases hbig : 1048576 < len0
  · have hb' : (1048576 : Int) < (len0 : Int) := by omega
    go_enter Tryz.func3, Tryz.ntmps3
    go_wp2_with fail
    refine (lwBig_any a0 len0 cap0 _).mono ?_
    rintro e w1 ⟨rfl, rfl⟩
    rw [decide_eq_true (show (1048576 : Int) < (len0 : Int) by omega)]
    go_wp2
    go_ret
    exact ⟨rfl, Below.refl _ _⟩
  have hn : len0 ≤ 1048576 := by omega
  have hb' : ¬ (1048576 : Int) < (len0 : Int) := by omega
  go_enter Tryz.func3, Tryz.ntmps3
  go_wp2_with fail
  refine (lwBig_any a0 len0 cap0 _).mono ?_
  rintro e w1 ⟨rfl, rfl⟩
  rw [decide_eq_false (show ¬ (1048576 : Int) < (len0 : Int) by omega)]
  go_wp2_with fail
  refine (drawSliceOf_any a0 len0 cap0 l w hl hr hBl hn).mono ?_
  rintro e z1 ⟨d, g, cp, f, t, rfl, ho, hcp, h401, hBd, hB1⟩
  have ri := (Own.rd ho).2
  have hglt : g < z1.heap.size := (ho.lt g rfl).2
  obtain ⟨N, hN⟩ : ∃ N, d.length = N := ⟨_, rfl⟩
  rw [hN] at ho hcp h401
  have HSL : Hid (∀ (W : World) (f t : Int), Below z1.heap.size z1 W → Calls Tryz.prog 7 #[.slice (some ⟨g, 0, none⟩) N cp, .int .i64 f, .int .i64 t] W fun e w' => BytEnd (sceV d f t) W e w') := fun W f t hb => sliceOf_any g N d f t W (ri.below hb) hN hcp
  have HSS : Hid (∀ (W : World) (f t : Int), Below z1.heap.size z1 W → Calls Tryz.prog 8 #[.slice (some ⟨g, 0, none⟩) N cp, .int .i64 f, .int .i64 t] W fun e w' => BytEnd (sceV d f t) W e w') := fun W f t hb => specSliceOf_any g N d f t W (ri.below hb) hN hcp
  have HRI0 : Hid (∀ W, Below z1.heap.size z1 W → Rd W (some ⟨g, 0, none⟩) d) := fun W hb => ri.below hb
  have HFW : Hid ((sceV d f t).1 = 0 → N ≤ 400 ∧ ((sceV d f t).2.length : Int) ≤ t) := fun h => by have := sceV_few h; rw [hN] at this; exact this
  clear ho
  rw [hN]
  go_wp2_with fail
  refine (HSL.out z1 f t (Below.refl _ _)).mono ?_
  rintro e z2 ⟨v2, rfl, ho2, hb2⟩
  obtain ⟨K2, hK2⟩ : ∃ K, (sceV d f t).2.length = K := ⟨_, rfl⟩
  obtain ⟨a2, cp2, hv2, -, -⟩ := ho2.form
  rw [hK2] at hv2
  subst hv2
  rw [hK2] at HFW
  obtain ⟨c, hc⟩ : ∃ c, (sceV d f t).1 = c := ⟨_, rfl⟩
  rw [hc] at HFW ⊢
  obtain ⟨Z3, hZ3⟩ : ∃ W, z2.alloc (.cells #[.int .i64 c, .slice a2 K2 cp2] 27) = W := ⟨_, rfl⟩
  have hb23 : Below z2.heap.size z2 Z3 := by rw [← hZ3]; exact (Below.refl _ _).alloc (Nat.le_refl _) _
  have hG0 : Z3.cell? ⟨z2.heap.size, 0, none⟩ = some (.int .i64 c) := by rw [← hZ3]; simp
  have hG1 : Z3.cell? ⟨z2.heap.size, 1, none⟩ = some (.slice a2 K2 cp2) := by rw [← hZ3]; simp
  have hb13 : Below z1.heap.size z1 Z3 := hb2.trans (hb23.mono hb2.size)
  have hB3' : Below w.heap.size w Z3 := hB1.trans (hb13.mono hB1.size)
  have HO20 : Hid (∀ W, Below Z3.heap.size Z3 W → Rd W a2 (sceV d f t).2) := fun W hb => ((Own.rd ho2).2.below hb23).below hb
  have HZ3 : Hid (_ = Z3) := hZ3
  clear hZ3 ho2 hb2 hb23 ri
  by_cases hc0 : c = 0
  case neg =>
    clear HFW HRI0 HSL HO20
    go_wp2_with (rw [HZ3.out])
    obtain ⟨G, hG⟩ : ∃ G, z2.heap.size = G := ⟨_, rfl⟩
    rw [hG] at hG0
    rw [hG]
    have hGlt : G < Z3.heap.size := World.block_lt_of_cell? Z3 ⟨G, 0, none⟩ hG0
    have hG0d : Z3.drew.cell? ⟨G, 0, none⟩ = some (.int .i64 c) := hG0
    have hBd : Below w.heap.size w Z3.drew := hB3'.drew
    have fN0 := fldY0
    clear hG0 hG1 HZ3
    refine wp_region_held_drew (S := fun w' => w'.cell? ⟨G, 0, none⟩ = some (.int .i64 c) ∧ True) (by kernel_rfl) ?hS1 (fun hHeld => ?_)
    case hS1 => exact ⟨hG0d, trivial⟩
    refine wpAnyH_take (i := 0) (v := ?_) rfl (by kernel_rfl) (by kernel_rfl) (by kernel_rfl) (fun _ _ _ h => h) (Or.inl ⟨by rfl, ?hy2⟩) (by assumption) ?ty2
    case hy2 => (intro w5 hSw; obtain ⟨e0, -⟩ := hSw; go_simp; all_goals with_reducible rfl)
    simp only [Act.put, List.getElem_toArray, List.getElem_cons_zero, List.setIfInBounds_toArray, List.set_cons_zero, List.set_cons_succ]
    refine wpAnyH_take (i := 1) (v := ?_) rfl (by kernel_rfl) (by kernel_rfl) (by kernel_rfl) (fun _ _ _ h => h) (Or.inl ⟨by rfl, ?hy3⟩) (by assumption) ?ty3
    case hy3 => (intro w5 hSw; obtain ⟨e0, -⟩ := hSw; go_simp; all_goals with_reducible rfl)
    simp only [Act.put, List.getElem_toArray, List.getElem_cons_zero, List.getElem_cons_succ, List.setIfInBounds_toArray, List.set_cons_zero, List.set_cons_succ]
    refine wpAnyH_take (i := 2) (v := ?_) rfl (by kernel_rfl) (by kernel_rfl) (by kernel_rfl) (fun _ _ _ h => h) (Or.inl ⟨by rfl, ?hy4⟩) (by assumption) ?ty4
    case hy4 => (intro w5 hSw; obtain ⟨e0, -⟩ := hSw; go_simp; all_goals with_reducible rfl)
    simp only [Act.put, List.getElem_toArray, List.getElem_cons_zero, List.getElem_cons_succ, List.setIfInBounds_toArray, List.set_cons_zero, List.set_cons_succ]
    refine wpAnyH_take (i := 5) (v := ?_) rfl (by kernel_rfl) (by kernel_rfl) (by kernel_rfl) (fun _ _ _ h => h) (Or.inl ⟨by rfl, ?hy5⟩) (by assumption) ?ty5
    case hy5 => (intro w5 hSw; obtain ⟨e0, -⟩ := hSw; go_simp; all_goals with_reducible rfl)
    simp only [Act.put, List.getElem_toArray, List.getElem_cons_zero, List.getElem_cons_succ, List.setIfInBounds_toArray, List.set_cons_zero, List.set_cons_succ]
    refine wpAnyH_take (i := 6) (v := ?_) rfl (by kernel_rfl) (by kernel_rfl) (by kernel_rfl) (fun _ _ _ h => h) (Or.inl ⟨by rfl, ?hy6⟩) (by assumption) ?ty6
    case hy6 => (intro w5 hSw; obtain ⟨e0, -⟩ := hSw; go_simp; all_goals with_reducible rfl)
    simp only [Act.put, List.getElem_toArray, List.getElem_cons_zero, List.getElem_cons_succ, List.setIfInBounds_toArray, List.set_cons_zero, List.set_cons_succ]
    have hbq : Below z1.heap.size z1 Z3.drew := hb13.drew
    have HG9 : Hid (∀ W, Below Z3.heap.size Z3.drew W → W.cell? ⟨G, 0, none⟩ = some (.int .i64 c) ∧ True) := fun W hb => ⟨(hb.cell (p := ⟨G, 0, none⟩) hGlt).trans hG0d, trivial⟩
    have hszd : Z3.heap.size ≤ Z3.drew.heap.size := Nat.le_refl _
    generalize hZd : Z3.drew = zd at *
    refine wpAnyH_ready (rs := [3]) (by kernel_rfl) (by simp) ?_
    refine AllReadyH.cons rfl (fun K hK => ?_) AllReadyH.nil
    go_simp
    refine (HSS.out zd f t hbq).mono ?_
    rintro e ze ⟨vE, rfl, hoE, hbE⟩
    obtain ⟨aE, cE, hvE, -, -⟩ := hoE.form
    subst hvE
    refine hK.out _ _ (HG9.out _ (hbE.mono (by omega))) (fun hHeld => ?_)
    clear hK K
    refine wpAnyH_take (i := 4) (v := ?_) rfl (by kernel_rfl) (by kernel_rfl) (by kernel_rfl) (fun _ _ _ h => h) (Or.inl ⟨by rfl, ?hy7⟩) (by assumption) ?ty7
    case hy7 => (intro w5 hSw; obtain ⟨e0, -⟩ := hSw; go_simp; all_goals with_reducible rfl)
    simp only [Act.put, List.getElem_toArray, List.getElem_cons_zero, List.getElem_cons_succ, List.setIfInBounds_toArray, List.set_cons_zero, List.set_cons_succ]
    refine wpAnyH_take (i := 7) (v := ?_) rfl (by kernel_rfl) (by kernel_rfl) (by kernel_rfl) (fun _ _ _ h => h) (Or.inl ⟨by rfl, ?hy8⟩) (by assumption) ?ty8
    case hy8 => (intro w5 hSw; obtain ⟨e0, -⟩ := hSw; go_simp; all_goals with_reducible rfl)
    simp only [Act.put, List.getElem_toArray, List.getElem_cons_zero, List.getElem_cons_succ, List.setIfInBounds_toArray, List.set_cons_zero, List.set_cons_succ]
    refine wpAnyH_take (i := 8) (v := ?_) rfl (by kernel_rfl) (by kernel_rfl) (by kernel_rfl) (fun _ _ _ h => h) (Or.inl ⟨by rfl, ?hy9⟩) (by assumption) ?ty9
    case hy9 => (intro w5 hSw; obtain ⟨e0, -⟩ := hSw; go_simp; all_goals with_reducible rfl)
    simp only [Act.put, List.getElem_toArray, List.getElem_cons_zero, List.getElem_cons_succ, List.setIfInBounds_toArray, List.set_cons_zero, List.set_cons_succ]
    refine wpAnyH_done (by kernel_rfl) ?_ _
    have hBe := hBd.trans (hbE.mono hBd.size)
    clear hHeld
    go_wp2
    go_ret
    exact ⟨rfl, hBe⟩
  have hc0' := hc0
  subst hc0'
  obtain ⟨hN400, hKt⟩ := HFW.out (by trivial)
  clear HFW
  go_wp2_with (rw [HZ3.out])
  clear HZ3
  refine (lwAt_any a0 len0 cap0 3 ((N : Int) + 1) l Z3 hl (hr.below hB3') hBl hn (by omega) (by omega) (by omega)).mono ?_
  rintro e z4 ⟨r, rfl, hr0, hr8, hb4⟩
  obtain ⟨cut, rfl⟩ : ∃ cut : Nat, r = (cut : Int) := ⟨r.toNat, by omega⟩
  have hcutN : cut ≤ N := by omega
  obtain ⟨hl1, hl2⟩ := sceV_two (d := d) (by omega) (c := cut) (by omega)
  have hb14 : Below z1.heap.size z1 z4 := hb13.trans (hb4.mono hb13.size)
  go_wp2_with fail
  refine (HSL.out z4 0 cut hb14).mono ?_
  rintro e z5 ⟨v5, rfl, ho5, hb5⟩
  rw [hl1] at ho5 ⊢
  dsimp only at ho5 ⊢
  obtain ⟨K5, hK5⟩ : ∃ K, (d.take cut).length = K := ⟨_, rfl⟩
  obtain ⟨a5, cp5, hv5, -, -⟩ := ho5.form
  rw [hK5] at hv5
  subst hv5
  obtain ⟨Z6, hZ6⟩ : ∃ W, z5.alloc (.cells #[.int .i64 0, .slice a5 K5 cp5] 27) = W := ⟨_, rfl⟩
  have hb56 : Below z5.heap.size z5 Z6 := by rw [← hZ6]; exact (Below.refl _ _).alloc (Nat.le_refl _) _
  have hG50 : Z6.cell? ⟨z5.heap.size, 0, none⟩ = some (.int .i64 0) := by rw [← hZ6]; simp
  have hG51 : Z6.cell? ⟨z5.heap.size, 1, none⟩ = some (.slice a5 K5 cp5) := by rw [← hZ6]; simp
  have hb46 := hb5.trans (hb56.mono hb5.size)
  have hb16 : Below z1.heap.size z1 Z6 := hb14.trans (hb46.mono hb14.size)
  have ho6 := ho5.below hb56 (Nat.le_refl _)
  have HZ6 : Hid (_ = Z6) := hZ6
  clear hZ6 ho5 hb5 hb56
  go_wp2_with (rw [HZ6.out])
  clear HZ6
  refine (HSL.out Z6 cut 400 hb16).mono ?_
  rintro e z7 ⟨v7, rfl, ho7, hb7⟩
  rw [hl2] at ho7 ⊢
  dsimp only at ho7 ⊢
  obtain ⟨K7, hK7⟩ : ∃ K, (d.drop cut).length = K := ⟨_, rfl⟩
  obtain ⟨a7, cp7, hv7, -, -⟩ := ho7.form
  rw [hK7] at hv7
  subst hv7
  obtain ⟨Z8, hZ8⟩ : ∃ W, z7.alloc (.cells #[.int .i64 0, .slice a7 K7 cp7] 27) = W := ⟨_, rfl⟩
  have hb78 : Below z7.heap.size z7 Z8 := by rw [← hZ8]; exact (Below.refl _ _).alloc (Nat.le_refl _) _
  have hG70 : Z8.cell? ⟨z7.heap.size, 0, none⟩ = some (.int .i64 0) := by rw [← hZ8]; simp
  have hG71 : Z8.cell? ⟨z7.heap.size, 1, none⟩ = some (.slice a7 K7 cp7) := by rw [← hZ8]; simp
  have hb68 := hb7.trans (hb78.mono hb7.size)
  have hb18 : Below z1.heap.size z1 Z8 := hb16.trans (hb68.mono hb16.size)
  have hb38 : Below Z3.heap.size Z3 Z8 := (hb4.trans (hb46.mono hb4.size)).trans (hb68.mono (Nat.le_trans hb4.size hb46.size))
  have hB8 : Below w.heap.size w Z8 := hB1.trans (hb18.mono hB1.size)
  have ho8 := ho7.below hb78 (Nat.le_refl _)
  have HZ8 : Hid (_ = Z8) := hZ8
  clear hZ8 ho7 hb7 hb78
  go_wp2_with (rw [HZ8.out])
  clear HZ8
  refine (drawPreviewOf_any a0 len0 cap0 l Z8 hl (hr.below hB8) hBl hn).mono ?_
  rintro e z9 ⟨dd, g2, cp9, rfl, hrd9, hg2, hcp9, h600, hBdd, hb9⟩
  obtain ⟨N2, hN2⟩ : ∃ N, dd.length = N := ⟨_, rfl⟩
  rw [hN2] at hcp9 h600
  rw [hN2]
  have hB9 : Below w.heap.size w z9 := hB8.trans (hb9.mono hB8.size)
  have HPI : Hid (∀ W, Below z9.heap.size z9 W → Calls Tryz.prog 11 #[.slice (some ⟨g2, 0, none⟩) N2 cp9] W fun e w' => CodEnd (pvV dd) W e w') := fun W hb => by
    have hB := hB9.trans (hb.mono hB9.size)
    exact previewOf_any g2 N2 dd W (hrd9.below hb) (htC.below hB) (htB.below hB) (htH.below hB) (hmx.below hB) hBdd hN2 hcp9
  have HPS0 : Hid (∀ W, Below z9.heap.size z9 W → Calls Tryz.prog 13 #[.slice (some ⟨g2, 0, none⟩) N2 cp9] W fun e w' => CodEnd (pvV dd) W e w') := fun W hb => specPreviewOf_any g2 N2 dd W (hrd9.below hb) (Nat.lt_of_lt_of_le hg2 hb.size) hBdd hN2 hcp9
  have hKP20 := pvV_len dd
  have hPH := pvV_head dd
  clear hrd9 hBdd htC htB htH hmx
  go_wp2_with fail
  refine (HPI.out z9 (Below.refl _ _)).mono ?_
  rintro e z10 ⟨v10, rfl, ho10, hb10⟩
  obtain ⟨KP, hKP⟩ : ∃ K, (pvV dd).2.length = K := ⟨_, rfl⟩
  obtain ⟨aP, cpP, hvP, -, -⟩ := ho10.form
  rw [hKP] at hvP
  subst hvP
  rw [hKP] at hKP20
  obtain ⟨pc, hpc⟩ : ∃ c, (pvV dd).1 = c := ⟨_, rfl⟩
  rw [hpc]
  obtain ⟨ZP, hZP⟩ : ∃ W, z10.alloc (.cells #[.int .i64 pc, .slice aP KP cpP] 33) = W := ⟨_, rfl⟩
  have hbXP : Below z10.heap.size z10 ZP := by rw [← hZP]; exact (Below.refl _ _).alloc (Nat.le_refl _) _
  have hGP0 : ZP.cell? ⟨z10.heap.size, 0, none⟩ = some (.int .i64 pc) := by rw [← hZP]; simp
  have hGP1 : ZP.cell? ⟨z10.heap.size, 1, none⟩ = some (.slice aP KP cpP) := by rw [← hZP]; simp
  have hb9P := hb10.trans (hbXP.mono hb10.size)
  have hb8P : Below Z8.heap.size Z8 ZP := hb9.trans (hb9P.mono hb9.size)
  have hb6P : Below Z6.heap.size Z6 ZP := hb68.trans (hb8P.mono hb68.size)
  have hb3P : Below Z3.heap.size Z3 ZP := hb38.trans (hb8P.mono hb38.size)
  have hb1P : Below z1.heap.size z1 ZP := hb18.trans (hb8P.mono hb18.size)
  have hBP : Below w.heap.size w ZP := hB8.trans (hb8P.mono hB8.size)
  have HZ1 : Hid (∀ W, Below ZP.heap.size ZP W → Below z1.heap.size z1 W) := fun W hb => hb1P.trans (hb.mono hb1P.size)
  have HRI : Hid (∀ W, Below ZP.heap.size ZP W → Rd W (some ⟨g, 0, none⟩) d) := fun W hb => HRI0.out W (HZ1.out W hb)
  have HO2 : Hid (∀ W, Below ZP.heap.size ZP W → Rd W a2 (sceV d f t).2) := fun W hb => HO20.out W (hb3P.trans (hb.mono hb3P.size))
  have HO5 : Hid (∀ W, Below ZP.heap.size ZP W → Own W z4.heap.size (.slice a5 K5 cp5) (d.take cut)) := fun W hb => (ho6.below hb6P (Nat.le_refl _)).below hb (Nat.le_refl _)
  have HO7 : Hid (∀ W, Below ZP.heap.size ZP W → Own W Z6.heap.size (.slice a7 K7 cp7) (d.drop cut)) := fun W hb => (ho8.below hb8P (Nat.le_refl _)).below hb (Nat.le_refl _)
  have HOP : Hid (∀ W, Below ZP.heap.size ZP W → RdI W aP (pvV dd).2) := fun W hb => ((OwnI.rd ho10).2.below hbXP).below hb
  have HPS : Hid (∀ W, Below ZP.heap.size ZP W → Calls Tryz.prog 13 #[.slice (some ⟨g2, 0, none⟩) N2 cp9] W fun e w' => CodEnd (pvV dd) W e w') := fun W hb => HPS0.out W (hb9P.trans (hb.mono hb9P.size))
  obtain ⟨G, hG⟩ : ∃ G, z2.heap.size = G := ⟨_, rfl⟩
  obtain ⟨G5, hG5⟩ : ∃ G, z5.heap.size = G := ⟨_, rfl⟩
  obtain ⟨G7, hG7⟩ : ∃ G, z7.heap.size = G := ⟨_, rfl⟩
  obtain ⟨GP, hGP⟩ : ∃ G, z10.heap.size = G := ⟨_, rfl⟩
  rw [hG] at hG1
  rw [hG5] at hG50 hG51
  rw [hG7] at hG70 hG71
  rw [hGP] at hGP0 hGP1
  have HSX : Hid (∀ W, Below ZP.heap.size ZP W → W.cell? ⟨G, 1, none⟩ = some (.slice a2 K2 cp2) ∧ W.cell? ⟨G5, 0, none⟩ = some (.int .i64 0) ∧ W.cell? ⟨G5, 1, none⟩ = some (.slice a5 K5 cp5) ∧ W.cell? ⟨G7, 0, none⟩ = some (.int .i64 0) ∧ W.cell? ⟨G7, 1, none⟩ = some (.slice a7 K7 cp7) ∧ W.cell? ⟨GP, 0, none⟩ = some (.int .i64 pc) ∧ W.cell? ⟨GP, 1, none⟩ = some (.slice aP KP cpP)) := fun W hb => by
    have h1 := (hb3P.cell (p := ⟨G, 1, none⟩) (World.block_lt_of_cell? Z3 _ hG1)).trans hG1
    have h50 := (hb6P.cell (p := ⟨G5, 0, none⟩) (World.block_lt_of_cell? Z6 _ hG50)).trans hG50
    have h51 := (hb6P.cell (p := ⟨G5, 1, none⟩) (World.block_lt_of_cell? Z6 _ hG51)).trans hG51
    have h70 := (hb8P.cell (p := ⟨G7, 0, none⟩) (World.block_lt_of_cell? Z8 _ hG70)).trans hG70
    have h71 := (hb8P.cell (p := ⟨G7, 1, none⟩) (World.block_lt_of_cell? Z8 _ hG71)).trans hG71
    exact ⟨(hb.cell (p := ⟨G, 1, none⟩) (World.block_lt_of_cell? ZP _ h1)).trans h1, (hb.cell (p := ⟨G5, 0, none⟩) (World.block_lt_of_cell? ZP _ h50)).trans h50, (hb.cell (p := ⟨G5, 1, none⟩) (World.block_lt_of_cell? ZP _ h51)).trans h51, (hb.cell (p := ⟨G7, 0, none⟩) (World.block_lt_of_cell? ZP _ h70)).trans h70, (hb.cell (p := ⟨G7, 1, none⟩) (World.block_lt_of_cell? ZP _ h71)).trans h71, (hb.cell (p := ⟨GP, 0, none⟩) (World.block_lt_of_cell? ZP _ hGP0)).trans hGP0, (hb.cell (p := ⟨GP, 1, none⟩) (World.block_lt_of_cell? ZP _ hGP1)).trans hGP1⟩
  have hK5l : K5 ≤ N := by rw [← hK5, ← hN, List.length_take]; omega
  have hK7l : K7 ≤ N := by rw [← hK7, ← hN, List.length_drop]; omega
  have hKs : (d.take cut).length + (d.drop cut).length = N := by rw [← List.length_append, List.take_append_drop, hN]
  have hPC : Hid (0 < KP → ∃ b off, aP = some ⟨b, off, none⟩ ∧ 32 < nthI (pvV dd).2 0 ∧ ZP.cell? ⟨b, off, none⟩ = some (.int .i64 (nthI (pvV dd).2 0))) := fun hp => by
    obtain ⟨b, off, e, _, hc⟩ := (HOP.out ZP (Below.refl _ _)).at_ (by omega)
    exact ⟨b, off, e, hPH (by omega), by have := hc 0 (by omega); rwa [Nat.add_zero] at this⟩
  have HZP : Hid (_ = ZP) := hZP
  have fN0 := fldY0
  have fN1 := fldY1
  have fM0 := fldC0
  have fM1 := fldC1
  clear hZP ho6 ho8 ho10 hb10 hbXP hb9P hb9 hb8P hb6P hb3P hb1P hb68 hb46 hb38 hb18 hb16 hb14 hb13 hb4 hG1 hG50 hG51 hG70 hG71 hl1 hl2 HRI0 HO20 hG0 hB8 hB9 hB3' HPI HPS0 hPH
  go_upto_region 12 with (rw [HZP.out])
  clear HZP
  (try rw [hG])
  (try rw [hG5])
  (try rw [hG7])
  (try rw [hGP])
  go_cut [71] (fun s71 wx => s71 = .bool false ∧ wx = ZP)
  case first =>
    clear HSX HPS HOP HO7 HO5 HO2 HRI HSS HSL HZ1
    by_cases hp0 : pc = 0
    · subst hp0
      have hK20 : ¬ (20 : Int) < (KP : Int) := by omega
      by_cases hK0 : 0 < KP
      · have hK0' : (0 : Int) < (KP : Int) := by omega
        obtain ⟨pb, po, rfl, h32, hcl⟩ := hPC.out hK0
        have h32' : ¬ nthI (pvV dd).2 0 ≤ 32 := by omega
        generalize nthI (pvV dd).2 0 = q0 at *
        clear hPC
        go_wp2
        go_meet
        exact ⟨rfl, rfl⟩
      · have hK0' : ¬ (0 : Int) < (KP : Int) := by omega
        clear hPC
        go_wp2
        go_meet
        exact ⟨rfl, rfl⟩
    · have hp1 : (pc == 0) = false := beq_eq_false_iff_ne.2 hp0
      clear hPC
      go_wp2
      go_meet
      exact ⟨rfl, rfl⟩
  case rest =>
  obtain ⟨rfl, hw⟩ := hcut
  have hw2 := hw.symm
  clear hw
  subst hw2
  clear hGP0 hGP1 hPC
  go_wp2
  obtain ⟨b5, hb5⟩ : ∃ b, z4.heap.size = b := ⟨_, rfl⟩
  obtain ⟨b7, hb7⟩ : ∃ b, Z6.heap.size = b := ⟨_, rfl⟩
  rw [hb5] at HO5
  rw [hb7] at HO7
  refine wp_region_held_drew (S := fun w' => w'.cell? ⟨G, 1, none⟩ = some (.slice a2 K2 cp2) ∧ w'.cell? ⟨G5, 0, none⟩ = some (.int .i64 0) ∧ w'.cell? ⟨G5, 1, none⟩ = some (.slice a5 K5 cp5) ∧ w'.cell? ⟨G7, 0, none⟩ = some (.int .i64 0) ∧ w'.cell? ⟨G7, 1, none⟩ = some (.slice a7 K7 cp7) ∧ w'.cell? ⟨GP, 0, none⟩ = some (.int .i64 pc) ∧ w'.cell? ⟨GP, 1, none⟩ = some (.slice aP KP cpP)) (by kernel_rfl) ?hS10 (fun hHeld => ?_)
  case hS10 => exact HSX.out _ (Below.refl _ _).drew
  refine wpAnyH_take (i := 0) (v := ?_) rfl (by kernel_rfl) (by kernel_rfl) (by kernel_rfl) (fun _ _ _ h => h) (Or.inl ⟨by rfl, ?hy11⟩) (by assumption) ?ty11
  case hy11 => (intro w5 hSw; obtain ⟨e1, e2, e3, e4, e5, e6, e7⟩ := hSw; go_simp; all_goals with_reducible rfl)
  simp only [Act.put, List.getElem_toArray, List.getElem_cons_zero, List.setIfInBounds_toArray, List.set_cons_zero, List.set_cons_succ]
  refine wpAnyH_take (i := 1) (v := ?_) rfl (by kernel_rfl) (by kernel_rfl) (by kernel_rfl) (fun _ _ _ h => h) (Or.inl ⟨by rfl, ?hy12⟩) (by assumption) ?ty12
  case hy12 => (intro w5 hSw; obtain ⟨e1, e2, e3, e4, e5, e6, e7⟩ := hSw; go_simp; all_goals with_reducible rfl)
  simp only [Act.put, List.getElem_toArray, List.getElem_cons_zero, List.getElem_cons_succ, List.setIfInBounds_toArray, List.set_cons_zero, List.set_cons_succ]
  refine wpAnyH_take (i := 2) (v := ?_) rfl (by kernel_rfl) (by kernel_rfl) (by kernel_rfl) (fun _ _ _ h => h) (Or.inl ⟨by rfl, ?hy13⟩) (by assumption) ?ty13
  case hy13 => (intro w5 hSw; obtain ⟨e1, e2, e3, e4, e5, e6, e7⟩ := hSw; go_simp; all_goals with_reducible rfl)
  simp only [Act.put, List.getElem_toArray, List.getElem_cons_zero, List.getElem_cons_succ, List.setIfInBounds_toArray, List.set_cons_zero, List.set_cons_succ]
  refine wpAnyH_take (i := 3) (v := ?_) rfl (by kernel_rfl) (by kernel_rfl) (by kernel_rfl) (fun _ _ _ h => h) (Or.inl ⟨by rfl, ?hy14⟩) (by assumption) ?ty14
  case hy14 => (intro w5 hSw; obtain ⟨e1, e2, e3, e4, e5, e6, e7⟩ := hSw; go_simp; all_goals with_reducible rfl)
  simp only [Act.put, List.getElem_toArray, List.getElem_cons_zero, List.getElem_cons_succ, List.setIfInBounds_toArray, List.set_cons_zero, List.set_cons_succ]
  refine wpAnyH_take (i := 4) (v := .bool true) rfl (by kernel_rfl) (by kernel_rfl) (by kernel_rfl) (fun _ _ _ h => h) (Or.inl ⟨by rfl, ?hy15⟩) (by assumption) ?ty15
  case hy15 => (intro w5 hSw; obtain ⟨e1, e2, e3, e4, e5, e6, e7⟩ := hSw; go_simp; first | (simp; done) | (all_goals with_reducible rfl))
  simp only [Act.put, List.getElem_toArray, List.getElem_cons_zero, List.getElem_cons_succ, List.setIfInBounds_toArray, List.set_cons_zero, List.set_cons_succ]
  refine wpAnyH_take (i := 5) (v := ?_) rfl (by kernel_rfl) (by kernel_rfl) (by kernel_rfl) (fun _ _ _ h => h) (Or.inl ⟨by rfl, ?hy16⟩) (by assumption) ?ty16
  case hy16 => (intro w5 hSw; obtain ⟨e1, e2, e3, e4, e5, e6, e7⟩ := hSw; go_simp; all_goals with_reducible rfl)
  simp only [Act.put, List.getElem_toArray, List.getElem_cons_zero, List.getElem_cons_succ, List.setIfInBounds_toArray, List.set_cons_zero, List.set_cons_succ]
  refine wpAnyH_take (i := 7) (v := ?_) rfl (by kernel_rfl) (by kernel_rfl) (by kernel_rfl) (fun _ _ _ h => h) (Or.inl ⟨by rfl, ?hy17⟩) (by assumption) ?ty17
  case hy17 => (intro w5 hSw; obtain ⟨e1, e2, e3, e4, e5, e6, e7⟩ := hSw; go_simp; all_goals with_reducible rfl)
  simp only [Act.put, List.getElem_toArray, List.getElem_cons_zero, List.getElem_cons_succ, List.setIfInBounds_toArray, List.set_cons_zero, List.set_cons_succ]
  refine wpAnyH_take (i := 8) (v := ?_) rfl (by kernel_rfl) (by kernel_rfl) (by kernel_rfl) (fun _ _ _ h => h) (Or.inl ⟨by rfl, ?hy18⟩) (by assumption) ?ty18
  case hy18 => (intro w5 hSw; obtain ⟨e1, e2, e3, e4, e5, e6, e7⟩ := hSw; go_simp; all_goals with_reducible rfl)
  simp only [Act.put, List.getElem_toArray, List.getElem_cons_zero, List.getElem_cons_succ, List.setIfInBounds_toArray, List.set_cons_zero, List.set_cons_succ]
  refine wpAnyH_take (i := 10) (v := ?_) rfl (by kernel_rfl) (by kernel_rfl) (by kernel_rfl) (fun _ _ _ h => h) (Or.inl ⟨by rfl, ?hy19⟩) (by assumption) ?ty19
  case hy19 => (intro w5 hSw; obtain ⟨e1, e2, e3, e4, e5, e6, e7⟩ := hSw; go_simp; all_goals with_reducible rfl)
  simp only [Act.put, List.getElem_toArray, List.getElem_cons_zero, List.getElem_cons_succ, List.setIfInBounds_toArray, List.set_cons_zero, List.set_cons_succ]
  refine wpAnyH_take (i := 11) (v := ?_) rfl (by kernel_rfl) (by kernel_rfl) (by kernel_rfl) (fun _ _ _ h => h) (Or.inl ⟨by rfl, ?hy20⟩) (by assumption) ?ty20
  case hy20 => (intro w5 hSw; obtain ⟨e1, e2, e3, e4, e5, e6, e7⟩ := hSw; go_simp; all_goals with_reducible rfl)
  simp only [Act.put, List.getElem_toArray, List.getElem_cons_zero, List.getElem_cons_succ, List.setIfInBounds_toArray, List.set_cons_zero, List.set_cons_succ]
  refine wpAnyH_take (i := 13) (v := ?_) rfl (by kernel_rfl) (by kernel_rfl) (by kernel_rfl) (fun _ _ _ h => h) (Or.inl ⟨by rfl, ?hy21⟩) (by assumption) ?ty21
  case hy21 => (intro w5 hSw; obtain ⟨e1, e2, e3, e4, e5, e6, e7⟩ := hSw; go_simp; all_goals with_reducible rfl)
  simp only [Act.put, List.getElem_toArray, List.getElem_cons_zero, List.getElem_cons_succ, List.setIfInBounds_toArray, List.set_cons_zero, List.set_cons_succ]
  have hy0 : Below ZP.heap.size ZP ZP.drew := (Below.refl _ _).drew
  have hsz0 : ZP.heap.size ≤ ZP.drew.heap.size := hy0.size
  generalize ZP.drew = x0 at *
  refine wpAnyH_ready (rs := [6]) (by kernel_rfl) (by simp) ?_
  refine AllReadyH.cons rfl (fun K hK => ?_) AllReadyH.nil
  obtain ⟨x1, he1⟩ : ∃ W, x0.alloc (.cells #[] 5) = W := ⟨_, rfl⟩
  have hyc : Below x0.heap.size x0 x1 := by rw [← he1]; exact (Below.refl _ _).alloc (Nat.le_refl _) _
  have hoN : Own x1 ZP.heap.size (.slice (some ⟨x0.heap.size, 0, none⟩) 0 0) [] := by rw [← he1]; exact Own.lit x0 _ hsz0 #[] [] rfl (by simp)
  have hy1 := hy0.trans (hyc.mono hsz0)
  have hsz1 : ZP.heap.size ≤ x1.heap.size := hy1.size
  go_simp
  (try rw [he1])
  refine hK.out _ _ (HSX.out _ hy1) (fun hHeld => ?_)
  clear hK K
  clear he1 hyc
  refine wpAnyH_ready (rs := [9]) (by kernel_rfl) (by simp) ?_
  refine AllReadyH.cons rfl (fun K hK => ?_) AllReadyH.nil
  refine step_appB (by rfl) _ _ rfl ZP.heap.size _ _ [] rfl hoN b5 (d.take cut) rfl (HO5.out _ hy1) (by simp only [List.length_nil]; omega) hsz1 ?_
  intro vA x2 hoA hcA
  rw [List.nil_append] at hoA
  have hy2 := hy1.trans hcA
  have hsz2 : ZP.heap.size ≤ x2.heap.size := hy2.size
  obtain ⟨aA, cA, hvA, -, -⟩ := hoA.form
  rw [hK5] at hvA
  subst hvA
  refine hK.out _ _ (HSX.out _ hy2) (fun hHeld => ?_)
  clear hK K
  refine wpAnyH_ready (rs := [12]) (by kernel_rfl) (by simp) ?_
  refine AllReadyH.cons rfl (fun K hK => ?_) AllReadyH.nil
  refine step_appB (by rfl) _ _ rfl ZP.heap.size _ _ (d.take cut) rfl hoA b7 (d.drop cut) rfl (HO7.out _ hy2) (by omega) hsz2 ?_
  intro vB x3 hoB hcB
  rw [List.take_append_drop] at hoB
  have hy3 := hy2.trans hcB
  have hsz3 : ZP.heap.size ≤ x3.heap.size := hy3.size
  obtain ⟨aB, cB, hvB, -, -⟩ := hoB.form
  rw [hN] at hvB
  subst hvB
  refine hK.out _ _ (HSX.out _ hy3) (fun hHeld => ?_)
  clear hK K
  refine wpAnyH_ready (rs := [14]) (by kernel_rfl) (by simp) ?_
  refine AllReadyH.cons rfl (fun K hK => ?_) AllReadyH.nil
  go_simp
  refine (lwSame_any aB (some ⟨g, 0, none⟩) N cB cp d x3 hN (Own.rd hoB).2 (HRI.out _ hy3)).mono ?_
  rintro e x4 ⟨rfl, rfl⟩
  refine hK.out _ _ (HSX.out _ hy3) (fun hHeld => ?_)
  clear hK K
  refine wpAnyH_take (i := 15) (v := ?_) rfl (by kernel_rfl) (by kernel_rfl) (by kernel_rfl) (fun _ _ _ h => h) (Or.inl ⟨by rfl, ?hy22⟩) (by assumption) ?ty22
  case hy22 => (intro w5 hSw; obtain ⟨e1, e2, e3, e4, e5, e6, e7⟩ := hSw; go_simp; all_goals with_reducible rfl)
  simp only [Act.put, List.getElem_toArray, List.getElem_cons_zero, List.getElem_cons_succ, List.setIfInBounds_toArray, List.set_cons_zero, List.set_cons_succ]
  refine wpAnyH_take (i := 16) (v := ?_) rfl (by kernel_rfl) (by kernel_rfl) (by kernel_rfl) (fun _ _ _ h => h) (Or.inl ⟨by rfl, ?hy23⟩) (by assumption) ?ty23
  case hy23 => (intro w5 hSw; obtain ⟨e1, e2, e3, e4, e5, e6, e7⟩ := hSw; go_simp; all_goals with_reducible rfl)
  simp only [Act.put, List.getElem_toArray, List.getElem_cons_zero, List.getElem_cons_succ, List.setIfInBounds_toArray, List.set_cons_zero, List.set_cons_succ]
  refine wpAnyH_take (i := 17) (v := ?_) rfl (by kernel_rfl) (by kernel_rfl) (by kernel_rfl) (fun _ _ _ h => h) (Or.inl ⟨by rfl, ?hy24⟩) (by assumption) ?ty24
  case hy24 => (intro w5 hSw; obtain ⟨e1, e2, e3, e4, e5, e6, e7⟩ := hSw; go_simp; all_goals with_reducible rfl)
  simp only [Act.put, List.getElem_toArray, List.getElem_cons_zero, List.getElem_cons_succ, List.setIfInBounds_toArray, List.set_cons_zero, List.set_cons_succ]
  refine wpAnyH_take (i := 18) (v := ?_) rfl (by kernel_rfl) (by kernel_rfl) (by kernel_rfl) (fun _ _ _ h => h) (Or.inl ⟨by rfl, ?hy25⟩) (by assumption) ?ty25
  case hy25 => (intro w5 hSw; obtain ⟨e1, e2, e3, e4, e5, e6, e7⟩ := hSw; go_simp; all_goals with_reducible rfl)
  simp only [Act.put, List.getElem_toArray, List.getElem_cons_zero, List.getElem_cons_succ, List.setIfInBounds_toArray, List.set_cons_zero, List.set_cons_succ]
  refine wpAnyH_take (i := 19) (v := .bool true) rfl (by kernel_rfl) (by kernel_rfl) (by kernel_rfl) (fun _ _ _ h => h) (Or.inl ⟨by rfl, ?hy26⟩) (by assumption) ?ty26
  case hy26 => (intro w5 hSw; obtain ⟨e1, e2, e3, e4, e5, e6, e7⟩ := hSw; go_simp; first | (simp; done) | (all_goals with_reducible rfl))
  simp only [Act.put, List.getElem_toArray, List.getElem_cons_zero, List.getElem_cons_succ, List.setIfInBounds_toArray, List.set_cons_zero, List.set_cons_succ]
  refine wpAnyH_take (i := 20) (v := ?_) rfl (by kernel_rfl) (by kernel_rfl) (by kernel_rfl) (fun _ _ _ h => h) (Or.inl ⟨by rfl, ?hy27⟩) (by assumption) ?ty27
  case hy27 => (intro w5 hSw; obtain ⟨e1, e2, e3, e4, e5, e6, e7⟩ := hSw; go_simp; all_goals with_reducible rfl)
  simp only [Act.put, List.getElem_toArray, List.getElem_cons_zero, List.getElem_cons_succ, List.setIfInBounds_toArray, List.set_cons_zero, List.set_cons_succ]
  refine wpAnyH_take (i := 21) (v := ?_) rfl (by kernel_rfl) (by kernel_rfl) (by kernel_rfl) (fun _ _ _ h => h) (Or.inl ⟨by rfl, ?hy28⟩) (by assumption) ?ty28
  case hy28 => (intro w5 hSw; obtain ⟨e1, e2, e3, e4, e5, e6, e7⟩ := hSw; go_simp; all_goals with_reducible rfl)
  simp only [Act.put, List.getElem_toArray, List.getElem_cons_zero, List.getElem_cons_succ, List.setIfInBounds_toArray, List.set_cons_zero, List.set_cons_succ]
  refine wpAnyH_take (i := 22) (v := ?_) rfl (by kernel_rfl) (by kernel_rfl) (by kernel_rfl) (fun _ _ _ h => h) (Or.inl ⟨by rfl, ?hy29⟩) (by assumption) ?ty29
  case hy29 => (intro w5 hSw; obtain ⟨e1, e2, e3, e4, e5, e6, e7⟩ := hSw; go_simp; all_goals with_reducible rfl)
  simp only [Act.put, List.getElem_toArray, List.getElem_cons_zero, List.getElem_cons_succ, List.setIfInBounds_toArray, List.set_cons_zero, List.set_cons_succ]
  refine wpAnyH_take (i := 23) (v := ?_) rfl (by kernel_rfl) (by kernel_rfl) (by kernel_rfl) (fun _ _ _ h => h) (Or.inl ⟨by rfl, ?hy30⟩) (by assumption) ?ty30
  case hy30 => (intro w5 hSw; obtain ⟨e1, e2, e3, e4, e5, e6, e7⟩ := hSw; go_simp; all_goals with_reducible rfl)
  simp only [Act.put, List.getElem_toArray, List.getElem_cons_zero, List.getElem_cons_succ, List.setIfInBounds_toArray, List.set_cons_zero, List.set_cons_succ]
  refine wpAnyH_take (i := 24) (v := .bool true) rfl (by kernel_rfl) (by kernel_rfl) (by kernel_rfl) (fun _ _ _ h => h) (Or.inl ⟨by rfl, ?hy31⟩) (by assumption) ?ty31
  case hy31 => (intro w5 hSw; obtain ⟨e1, e2, e3, e4, e5, e6, e7⟩ := hSw; go_simp; first | (simp; done) | (all_goals with_reducible rfl))
  simp only [Act.put, List.getElem_toArray, List.getElem_cons_zero, List.getElem_cons_succ, List.setIfInBounds_toArray, List.set_cons_zero, List.set_cons_succ]
  refine wpAnyH_take (i := 25) (v := ?_) rfl (by kernel_rfl) (by kernel_rfl) (by kernel_rfl) (fun _ _ _ h => h) (Or.inl ⟨by rfl, ?hy32⟩) (by assumption) ?ty32
  case hy32 => (intro w5 hSw; obtain ⟨e1, e2, e3, e4, e5, e6, e7⟩ := hSw; go_simp; all_goals with_reducible rfl)
  simp only [Act.put, List.getElem_toArray, List.getElem_cons_zero, List.getElem_cons_succ, List.setIfInBounds_toArray, List.set_cons_zero, List.set_cons_succ]
  refine wpAnyH_take (i := 26) (v := ?_) rfl (by kernel_rfl) (by kernel_rfl) (by kernel_rfl) (fun _ _ _ h => h) (Or.inl ⟨by rfl, ?hy33⟩) (by assumption) ?ty33
  case hy33 => (intro w5 hSw; obtain ⟨e1, e2, e3, e4, e5, e6, e7⟩ := hSw; go_simp; all_goals with_reducible rfl)
  simp only [Act.put, List.getElem_toArray, List.getElem_cons_zero, List.getElem_cons_succ, List.setIfInBounds_toArray, List.set_cons_zero, List.set_cons_succ]
  refine wpAnyH_take (i := 27) (v := ?_) rfl (by kernel_rfl) (by kernel_rfl) (by kernel_rfl) (fun _ _ _ h => h) (Or.inl ⟨by rfl, ?hy34⟩) (by assumption) ?ty34
  case hy34 => (intro w5 hSw; obtain ⟨e1, e2, e3, e4, e5, e6, e7⟩ := hSw; go_simp; all_goals with_reducible rfl)
  simp only [Act.put, List.getElem_toArray, List.getElem_cons_zero, List.getElem_cons_succ, List.setIfInBounds_toArray, List.set_cons_zero, List.set_cons_succ]
  refine wpAnyH_take (i := 28) (v := ?_) rfl (by kernel_rfl) (by kernel_rfl) (by kernel_rfl) (fun _ _ _ h => h) (Or.inl ⟨by rfl, ?hy35⟩) (by assumption) ?ty35
  case hy35 => (intro w5 hSw; obtain ⟨e1, e2, e3, e4, e5, e6, e7⟩ := hSw; go_simp; all_goals with_reducible rfl)
  simp only [Act.put, List.getElem_toArray, List.getElem_cons_zero, List.getElem_cons_succ, List.setIfInBounds_toArray, List.set_cons_zero, List.set_cons_succ]
  refine wpAnyH_take (i := 29) (v := ?_) rfl (by kernel_rfl) (by kernel_rfl) (by kernel_rfl) (fun _ _ _ h => h) (Or.inl ⟨by rfl, ?hy36⟩) (by assumption) ?ty36
  case hy36 => (intro w5 hSw; obtain ⟨e1, e2, e3, e4, e5, e6, e7⟩ := hSw; go_simp; all_goals with_reducible rfl)
  simp only [Act.put, List.getElem_toArray, List.getElem_cons_zero, List.getElem_cons_succ, List.setIfInBounds_toArray, List.set_cons_zero, List.set_cons_succ]
  refine wpAnyH_ready (rs := [30]) (by kernel_rfl) (by simp) ?_
  refine AllReadyH.cons rfl (fun K hK => ?_) AllReadyH.nil
  go_simp
  refine (HPS.out x3 hy3).mono ?_
  rintro e x5 ⟨v5, rfl, ho5, hc5⟩
  obtain ⟨aS, cS, hvS, -, -⟩ := ho5.form
  rw [hKP] at hvS
  subst hvS
  rw [hpc]
  have hy5 := hy3.trans (hc5.mono hy3.size)
  refine hK.out _ _ (HSX.out _ hy5) (fun hHeld => ?_)
  clear hK K
  refine wpAnyH_take (i := 31) (v := ?_) rfl (by kernel_rfl) (by kernel_rfl) (by kernel_rfl) (fun _ _ _ h => h) (Or.inl ⟨by rfl, ?hy37⟩) (by assumption) ?ty37
  case hy37 => (intro w5 hSw; obtain ⟨e1, e2, e3, e4, e5, e6, e7⟩ := hSw; go_simp; all_goals with_reducible rfl)
  simp only [Act.put, List.getElem_toArray, List.getElem_cons_zero, List.getElem_cons_succ, List.setIfInBounds_toArray, List.set_cons_zero, List.set_cons_succ]
  refine wpAnyH_take (i := 32) (v := .bool true) rfl (by kernel_rfl) (by kernel_rfl) (by kernel_rfl) (fun _ _ _ h => h) (Or.inl ⟨by rfl, ?hy38⟩) (by assumption) ?ty38
  case hy38 => (intro w5 hSw; obtain ⟨e1, e2, e3, e4, e5, e6, e7⟩ := hSw; go_simp; first | (simp; done) | (all_goals with_reducible rfl))
  simp only [Act.put, List.getElem_toArray, List.getElem_cons_zero, List.getElem_cons_succ, List.setIfInBounds_toArray, List.set_cons_zero, List.set_cons_succ]
  refine wpAnyH_take (i := 33) (v := ?_) rfl (by kernel_rfl) (by kernel_rfl) (by kernel_rfl) (fun _ _ _ h => h) (Or.inl ⟨by rfl, ?hy39⟩) (by assumption) ?ty39
  case hy39 => (intro w5 hSw; obtain ⟨e1, e2, e3, e4, e5, e6, e7⟩ := hSw; go_simp; all_goals with_reducible rfl)
  simp only [Act.put, List.getElem_toArray, List.getElem_cons_zero, List.getElem_cons_succ, List.setIfInBounds_toArray, List.set_cons_zero, List.set_cons_succ]
  refine wpAnyH_take (i := 34) (v := ?_) rfl (by kernel_rfl) (by kernel_rfl) (by kernel_rfl) (fun _ _ _ h => h) (Or.inl ⟨by rfl, ?hy40⟩) (by assumption) ?ty40
  case hy40 => (intro w5 hSw; obtain ⟨e1, e2, e3, e4, e5, e6, e7⟩ := hSw; go_simp; all_goals with_reducible rfl)
  simp only [Act.put, List.getElem_toArray, List.getElem_cons_zero, List.getElem_cons_succ, List.setIfInBounds_toArray, List.set_cons_zero, List.set_cons_succ]
  refine wpAnyH_take (i := 35) (v := ?_) rfl (by kernel_rfl) (by kernel_rfl) (by kernel_rfl) (fun _ _ _ h => h) (Or.inl ⟨by rfl, ?hy41⟩) (by assumption) ?ty41
  case hy41 => (intro w5 hSw; obtain ⟨e1, e2, e3, e4, e5, e6, e7⟩ := hSw; go_simp; all_goals with_reducible rfl)
  simp only [Act.put, List.getElem_toArray, List.getElem_cons_zero, List.getElem_cons_succ, List.setIfInBounds_toArray, List.set_cons_zero, List.set_cons_succ]
  refine wpAnyH_take (i := 36) (v := ?_) rfl (by kernel_rfl) (by kernel_rfl) (by kernel_rfl) (fun _ _ _ h => h) (Or.inl ⟨by rfl, ?hy42⟩) (by assumption) ?ty42
  case hy42 => (intro w5 hSw; obtain ⟨e1, e2, e3, e4, e5, e6, e7⟩ := hSw; go_simp; all_goals with_reducible rfl)
  simp only [Act.put, List.getElem_toArray, List.getElem_cons_zero, List.getElem_cons_succ, List.setIfInBounds_toArray, List.set_cons_zero, List.set_cons_succ]
  refine wpAnyH_take (i := 37) (v := ?_) rfl (by kernel_rfl) (by kernel_rfl) (by kernel_rfl) (fun _ _ _ h => h) (Or.inl ⟨by rfl, ?hy43⟩) (by assumption) ?ty43
  case hy43 => (intro w5 hSw; obtain ⟨e1, e2, e3, e4, e5, e6, e7⟩ := hSw; go_simp; all_goals with_reducible rfl)
  simp only [Act.put, List.getElem_toArray, List.getElem_cons_zero, List.getElem_cons_succ, List.setIfInBounds_toArray, List.set_cons_zero, List.set_cons_succ]
  refine wpAnyH_ready (rs := [38]) (by kernel_rfl) (by simp) ?_
  refine AllReadyH.cons rfl (fun K hK => ?_) AllReadyH.nil
  go_simp
  refine (HPS.out x5 hy5).mono ?_
  rintro e x6 ⟨v6, rfl, ho6, hc6⟩
  obtain ⟨aU, cU, hvU, -, -⟩ := ho6.form
  rw [hKP] at hvU
  subst hvU
  have hy6 := hy5.trans (hc6.mono hy5.size)
  refine hK.out _ _ (HSX.out _ hy6) (fun hHeld => ?_)
  clear hK K
  refine wpAnyH_take (i := 39) (v := ?_) rfl (by kernel_rfl) (by kernel_rfl) (by kernel_rfl) (fun _ _ _ h => h) (Or.inl ⟨by rfl, ?hy44⟩) (by assumption) ?ty44
  case hy44 => (intro w5 hSw; obtain ⟨e1, e2, e3, e4, e5, e6, e7⟩ := hSw; go_simp; all_goals with_reducible rfl)
  simp only [Act.put, List.getElem_toArray, List.getElem_cons_zero, List.getElem_cons_succ, List.setIfInBounds_toArray, List.set_cons_zero, List.set_cons_succ]
  refine wpAnyH_ready (rs := [40]) (by kernel_rfl) (by simp) ?_
  refine AllReadyH.cons rfl (fun K hK => ?_) AllReadyH.nil
  go_simp
  refine (lwNums_any aP aU KP KP cpP cU (pvV dd).2 (pvV dd).2 x6 hKP hKP (HOP.out _ hy6) (OwnI.rd ho6).2 (by omega) (by omega)).mono ?_
  rintro e x7 ⟨rfl, hc7⟩
  rw [decide_eq_true (rfl : (pvV dd).2 = (pvV dd).2)]
  have hy7 := hy6.trans (hc7.mono hy6.size)
  refine hK.out _ _ (HSX.out _ hy7) (fun hHeld => ?_)
  clear hK K
  refine wpAnyH_take (i := 41) (v := ?_) rfl (by kernel_rfl) (by kernel_rfl) (by kernel_rfl) (fun _ _ _ h => h) (Or.inl ⟨by rfl, ?hy45⟩) (by assumption) ?ty45
  case hy45 => (intro w5 hSw; obtain ⟨e1, e2, e3, e4, e5, e6, e7⟩ := hSw; go_simp; all_goals with_reducible rfl)
  simp only [Act.put, List.getElem_toArray, List.getElem_cons_zero, List.getElem_cons_succ, List.setIfInBounds_toArray, List.set_cons_zero, List.set_cons_succ]
  refine wpAnyH_take (i := 42) (v := ?_) rfl (by kernel_rfl) (by kernel_rfl) (by kernel_rfl) (fun _ _ _ h => h) (Or.inl ⟨by rfl, ?hy46⟩) (by assumption) ?ty46
  case hy46 => (intro w5 hSw; obtain ⟨e1, e2, e3, e4, e5, e6, e7⟩ := hSw; go_simp; all_goals with_reducible rfl)
  simp only [Act.put, List.getElem_toArray, List.getElem_cons_zero, List.getElem_cons_succ, List.setIfInBounds_toArray, List.set_cons_zero, List.set_cons_succ]
  refine wpAnyH_take (i := 43) (v := ?_) rfl (by kernel_rfl) (by kernel_rfl) (by kernel_rfl) (fun _ _ _ h => h) (Or.inl ⟨by rfl, ?hy47⟩) (by assumption) ?ty47
  case hy47 => (intro w5 hSw; obtain ⟨e1, e2, e3, e4, e5, e6, e7⟩ := hSw; go_simp; all_goals with_reducible rfl)
  simp only [Act.put, List.getElem_toArray, List.getElem_cons_zero, List.getElem_cons_succ, List.setIfInBounds_toArray, List.set_cons_zero, List.set_cons_succ]
  refine wpAnyH_take (i := 44) (v := ?_) rfl (by kernel_rfl) (by kernel_rfl) (by kernel_rfl) (fun _ _ _ h => h) (Or.inl ⟨by rfl, ?hy48⟩) (by assumption) ?ty48
  case hy48 => (intro w5 hSw; obtain ⟨e1, e2, e3, e4, e5, e6, e7⟩ := hSw; go_simp; all_goals with_reducible rfl)
  simp only [Act.put, List.getElem_toArray, List.getElem_cons_zero, List.getElem_cons_succ, List.setIfInBounds_toArray, List.set_cons_zero, List.set_cons_succ]
  refine wpAnyH_take (i := 45) (v := ?_) rfl (by kernel_rfl) (by kernel_rfl) (by kernel_rfl) (fun _ _ _ h => h) (Or.inl ⟨by rfl, ?hy49⟩) (by assumption) ?ty49
  case hy49 => (intro w5 hSw; obtain ⟨e1, e2, e3, e4, e5, e6, e7⟩ := hSw; go_simp; all_goals with_reducible rfl)
  simp only [Act.put, List.getElem_toArray, List.getElem_cons_zero, List.getElem_cons_succ, List.setIfInBounds_toArray, List.set_cons_zero, List.set_cons_succ]
  refine wpAnyH_take (i := 46) (v := ?_) rfl (by kernel_rfl) (by kernel_rfl) (by kernel_rfl) (fun _ _ _ h => h) (Or.inl ⟨by rfl, ?hy50⟩) (by assumption) ?ty50
  case hy50 => (intro w5 hSw; obtain ⟨e1, e2, e3, e4, e5, e6, e7⟩ := hSw; go_simp; all_goals with_reducible rfl)
  simp only [Act.put, List.getElem_toArray, List.getElem_cons_zero, List.getElem_cons_succ, List.setIfInBounds_toArray, List.set_cons_zero, List.set_cons_succ]
  refine wpAnyH_take (i := 47) (v := ?_) rfl (by kernel_rfl) (by kernel_rfl) (by kernel_rfl) (fun _ _ _ h => h) (Or.inl ⟨by rfl, ?hy51⟩) (by assumption) ?ty51
  case hy51 => (intro w5 hSw; obtain ⟨e1, e2, e3, e4, e5, e6, e7⟩ := hSw; go_simp; all_goals with_reducible rfl)
  simp only [Act.put, List.getElem_toArray, List.getElem_cons_zero, List.getElem_cons_succ, List.setIfInBounds_toArray, List.set_cons_zero, List.set_cons_succ]
  refine wpAnyH_ready (rs := [48]) (by kernel_rfl) (by simp) ?_
  refine AllReadyH.cons rfl (fun K hK => ?_) AllReadyH.nil
  go_simp
  refine (HSS.out x7 f t (HZ1.out _ hy7)).mono ?_
  rintro e x8 ⟨v8, rfl, ho8, hc8⟩
  obtain ⟨aV, cV, hvV, -, -⟩ := ho8.form
  rw [hK2] at hvV
  subst hvV
  have hy8 := hy7.trans (hc8.mono hy7.size)
  refine hK.out _ _ (HSX.out _ hy8) (fun hHeld => ?_)
  clear hK K
  refine wpAnyH_take (i := 49) (v := ?_) rfl (by kernel_rfl) (by kernel_rfl) (by kernel_rfl) (fun _ _ _ h => h) (Or.inl ⟨by rfl, ?hy52⟩) (by assumption) ?ty52
  case hy52 => (intro w5 hSw; obtain ⟨e1, e2, e3, e4, e5, e6, e7⟩ := hSw; go_simp; all_goals with_reducible rfl)
  simp only [Act.put, List.getElem_toArray, List.getElem_cons_zero, List.getElem_cons_succ, List.setIfInBounds_toArray, List.set_cons_zero, List.set_cons_succ]
  refine wpAnyH_ready (rs := [50]) (by kernel_rfl) (by simp) ?_
  refine AllReadyH.cons rfl (fun K hK => ?_) AllReadyH.nil
  go_simp
  refine (lwSame_any a2 aV K2 cp2 cV (sceV d f t).2 x8 hK2 (HO2.out _ hy8) (Own.rd ho8).2).mono ?_
  rintro e x9 ⟨rfl, rfl⟩
  refine hK.out _ _ (HSX.out _ hy8) (fun hHeld => ?_)
  clear hK K
  refine wpAnyH_take (i := 51) (v := ?_) rfl (by kernel_rfl) (by kernel_rfl) (by kernel_rfl) (fun _ _ _ h => h) (Or.inl ⟨by rfl, ?hy53⟩) (by assumption) ?ty53
  case hy53 => (intro w5 hSw; obtain ⟨e1, e2, e3, e4, e5, e6, e7⟩ := hSw; go_simp; all_goals with_reducible rfl)
  simp only [Act.put, List.getElem_toArray, List.getElem_cons_zero, List.getElem_cons_succ, List.setIfInBounds_toArray, List.set_cons_zero, List.set_cons_succ]
  refine wpAnyH_take (i := 52) (v := ?_) rfl (by kernel_rfl) (by kernel_rfl) (by kernel_rfl) (fun _ _ _ h => h) (Or.inl ⟨by rfl, ?hy54⟩) (by assumption) ?ty54
  case hy54 => (intro w5 hSw; obtain ⟨e1, e2, e3, e4, e5, e6, e7⟩ := hSw; go_simp; all_goals with_reducible rfl)
  simp only [Act.put, List.getElem_toArray, List.getElem_cons_zero, List.getElem_cons_succ, List.setIfInBounds_toArray, List.set_cons_zero, List.set_cons_succ]
  refine wpAnyH_done (by kernel_rfl) ?_ _
  have hBe := hBP.trans (hy8.mono hBP.size)
  clear hHeld
  go_wp2
  go_ret
  exact ⟨rfl, hBe⟩
end Go.Proofs.YtooifkdbpghcfaaGreatDoor
