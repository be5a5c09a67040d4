/- The model: messages taken out of a box; no conditions beyond those that each fact names. -/
import Derived.Test.YtejbbnpgghpgaaaGreatDoorLszToMda
namespace Go.Proofs.YtejbbnpgghpgaaaGreatDoor
open Go.RowKit
set_option linter.unusedVariables false
def tkM (us : List Int) (fl : Int) (m : Msg) : Bool := hasZ us m.u || !decide (bits .and .i64 m.f fl = 0)
def TkEnd (ms : List Dm) (us : List Int) (fl : Int) (gB off : Nat) (w : World) (e : Ending) (w' : World) : Prop :=
  ∃ (so sl : SlQ) (W : World), e = .returned (slW so) ∧ w' = W.setCell ⟨gB, off + 3, none⟩ (slW sl) ∧ Below w.heap.size w W ∧
    W.ownsRow 0 136 4 (slW so) ((ms.filter fun d => tkM us fl d.m).map Dm.q).length (qc ((ms.filter fun d => tkM us fl d.m).map Dm.q)) ∧
    W.ownsRow 0 136 4 (slW sl) ((ms.filter fun d => !tkM us fl d.m).map Dm.q).length (qc ((ms.filter fun d => !tkM us fl d.m).map Dm.q)) ∧
    (∀ g ∈ blkS so, w.heap.size ≤ g) ∧ (∀ g ∈ blkS sl, w.heap.size ≤ g) ∧ ∀ g ∈ blkS so, g ∉ blkS sl
theorem tk_step (ms : List Dm) (pr : Dm → Bool) (k : Nat) (hk : k < ms.length) (v : Bool) (hv : pr ms[k] = v) : ((ms.take (k + 1)).filter pr).map Dm.q = if v = true then ((ms.take k).filter pr).map Dm.q ++ [ms[k].q] else ((ms.take k).filter pr).map Dm.q := by
  rw [List.take_succ_eq_append_getElem hk, List.filter_append, List.map_append]
  cases v
  · rw [if_neg (by decide), List.filter_cons_of_neg (by rw [hv]; decide)]; simp
  · rw [if_pos rfl, List.filter_cons_of_pos hv]; rfl
set_option maxHeartbeats 1600000 in
set_option maxRecDepth 100000 in
theorem l8Take_any (gB off : Nat) (s us : SlQ) (ms : List Dm) (u : List Int) (fl : Int) (w : World) (hs : HM w s ms) (hml : ms.length ≤ 1048575) (hlt : gB < w.heap.size) (hc : w.cell? ⟨gB, off + 3, none⟩ = some (slW s)) (hfz : w.frozen? ⟨gB, off + 3, none⟩ = false) (hI : u.length = us.2.1 ∧ RdI w us.1 u) (hul : u.length ≤ 1048576) :
    Calls Tryz.prog 117 #[.pointer (some ⟨gB, off, none⟩), slW us, .int .i64 fl] w fun e w' => TkEnd ms u fl gB off w e w' := by
  obtain ⟨a, n, cap⟩ := s
  obtain ⟨⟨a', n', c'⟩, e, hl, hnc, hcm, -⟩ := row_form hs.1
  cases e
  obtain ⟨ua, un, uc⟩ := us
  obtain ⟨hIl, hIr⟩ := hI
  dsimp only [slW] at *
  replace hl := hl.symm
  have hun : un ≤ 1048576 := by omega
  unfold maxLen at hcm
  rw [hl] at hnc hml
  clear hul
  have hb0 : Below w.heap.size w ((w.alloc (.cells #[] 136)).alloc (.cells #[] 136)) := ((Below.refl _ _).alloc (Nat.le_refl _) _).alloc (by simp) _
  have hr0 : ((w.alloc (.cells #[] 136)).alloc (.cells #[] 136)).ownsRow 0 136 4 (slW (some ⟨w.heap.size, 0, none⟩, 0, 0)) 0 (qc []) := row_keep (CM.lit 0 w (Nat.zero_le _)).1.1 fun g hg => by
    have : g < (w.alloc (.cells #[] 136)).heap.size := ((CM.lit 0 w (Nat.zero_le _)).1.lt g (List.mem_append_left _ (mem_blkS.2 hg)))
    exact ((Below.refl _ _).alloc (Nat.le_refl _) _).block g this
  have hr1 : ((w.alloc (.cells #[] 136)).alloc (.cells #[] 136)).ownsRow 0 136 4 (slW (some ⟨w.heap.size + 1, 0, none⟩, 0, 0)) 0 (qc []) := by
    have h := (CM.lit 0 (w.alloc (.cells #[] 136)) (Nat.zero_le _)).1.1
    rw [show (w.alloc (.cells #[] 136)).heap.size = w.heap.size + 1 by simp] at h
    exact h
  go_enter Tryz.func117, Tryz.ntmps117
  go_wp2
  go_loopw [7, 8, 9] (fun x y z wr => ∃ (k : Nat) (so sl : SlQ), k ≤ n ∧ z = .int .i64 k ∧ x = slW so ∧ y = slW sl ∧ Below w.heap.size w wr ∧
      wr.ownsRow 0 136 4 (slW so) (((ms.take k).filter fun d => tkM u fl d.m).map Dm.q).length (qc (((ms.take k).filter fun d => tkM u fl d.m).map Dm.q)) ∧
      wr.ownsRow 0 136 4 (slW sl) (((ms.take k).filter fun d => !tkM u fl d.m).map Dm.q).length (qc (((ms.take k).filter fun d => !tkM u fl d.m).map Dm.q)) ∧
      (∀ g ∈ blkS so, w.heap.size ≤ g) ∧ (∀ g ∈ blkS sl, w.heap.size ≤ g) ∧ ∀ g ∈ blkS so, g ∉ blkS sl) (fun _ _ z _ => n - (intV z).toNat)
  case atStart => exact ⟨0, (some ⟨w.heap.size, 0, none⟩, 0, 0), (some ⟨w.heap.size + 1, 0, none⟩, 0, 0), Nat.zero_le _, rfl, rfl, rfl, hb0, hr0, hr1, fun g hg => by simp [blkS] at hg; omega, fun g hg => by simp [blkS] at hg; omega, fun g hg hc => by simp [blkS] at hg hc; omega⟩
  case round =>
    obtain ⟨k, so, sl, hk, rfl, rfl, rfl, hbel, hO, hL, hgo, hgl, hof⟩ := hrel
    clear hr0 hr1 hb0
    have hcr := (World.cell?_of_block (hbel.block gB hlt)).trans hc
    have hfr := (World.frozen?_of_block (hbel.block gB hlt) (a := ⟨gB, off + 3, none⟩)).trans hfz
    by_cases hkn : k < n
    · have hki : (k : Int) < (n : Int) := by omega
      have hkm : k < ms.length := by omega
      obtain ⟨b, e, hblt, c0, c1, c2, c3⟩ := (hs.below hbel (Nat.le_refl _)).row_at k hkm
      dsimp only at e
      subst e
      have HT : Hid (∀ v, tkM u fl ms[k].m = v → (((ms.take (k + 1)).filter fun d => tkM u fl d.m).map Dm.q = if v = true then ((ms.take k).filter fun d => tkM u fl d.m).map Dm.q ++ [ms[k].q] else ((ms.take k).filter fun d => tkM u fl d.m).map Dm.q) ∧ (((ms.take (k + 1)).filter fun d => !tkM u fl d.m).map Dm.q = if (!v) = true then ((ms.take k).filter fun d => !tkM u fl d.m).map Dm.q ++ [ms[k].q] else ((ms.take k).filter fun d => !tkM u fl d.m).map Dm.q)) := fun v hv => ⟨tk_step ms (fun d => tkM u fl d.m) k hkm v hv, tk_step ms (fun d => !tkM u fl d.m) k hkm (!v) (by simp only [hv])⟩
      have hlo : (((ms.take k).filter fun d => tkM u fl d.m).map Dm.q).length + 1 ≤ 1048576 := by rw [List.length_map]; have := List.length_filter_le (fun d : Dm => tkM u fl d.m) (ms.take k); rw [List.length_take] at this; omega
      have hll : (((ms.take k).filter fun d => !tkM u fl d.m).map Dm.q).length + 1 ≤ 1048576 := by rw [List.length_map]; have := List.length_filter_le (fun d : Dm => !tkM u fl d.m) (ms.take k); rw [List.length_take] at this; omega
      obtain ⟨po, hpo⟩ : ∃ po, ((ms.take (k + 1)).filter fun d => tkM u fl d.m).map Dm.q = po := ⟨_, rfl⟩
      rw [hpo] at HT
      have HPO : Hid (_ = po) := hpo
      clear hpo
      obtain ⟨pl, hpl⟩ : ∃ pl, ((ms.take (k + 1)).filter fun d => !tkM u fl d.m).map Dm.q = pl := ⟨_, rfl⟩
      rw [hpl] at HT
      have HPL : Hid (_ = pl) := hpl
      clear hpl
      generalize ((ms.take k).filter fun d => tkM u fl d.m).map Dm.q = qo at *
      generalize ((ms.take k).filter fun d => !tkM u fl d.m).map Dm.q = ql at *
      generalize ms[k] = p at *
      obtain ⟨⟨mu, mf, md, mb⟩, sd⟩ := p
      dsimp only [Dm.q, msQ] at c0 c1 c2 c3 HT
      have hb1 : Below wr.heap.size wr (wr.alloc (.cells #[.int .i64 mu, .int .i64 mf, .int .i64 md, slW sd] 136)) := (Below.refl _ _).alloc (Nat.le_refl _) _
      have hO1 := row_keep hO (w' := wr.alloc (.cells #[.int .i64 mu, .int .i64 mf, .int .i64 md, slW sd] 136)) (fun g hg => hb1.block g (hO.lt g hg).2)
      have hL1 := row_keep hL (w' := wr.alloc (.cells #[.int .i64 mu, .int .i64 mf, .int .i64 md, slW sd] 136)) (fun g hg => hb1.block g (hL.lt g hg).2)
      have hQ1 := Qc.new wr (.int .i64 mu) (.int .i64 mf) (.int .i64 md) (slW sd) 136
      have hbel1 := hbel.trans (hb1.mono hbel.size)
      have hI1 : RdI (wr.alloc (.cells #[.int .i64 mu, .int .i64 mf, .int .i64 md, slW sd] 136)) ua u := hIr.below hbel1
      have HH := l8Has_any ua un uc u mu (wr.alloc (.cells #[.int .i64 mu, .int .i64 mf, .int .i64 md, slW sd] 136)) hIl hI1 hun
      have hz1 : (wr.alloc (.cells #[.int .i64 mu, .int .i64 mf, .int .i64 md, slW sd] 136)).heap.size = wr.heap.size + 1 := by simp
      obtain ⟨W1, hW1⟩ : ∃ W1, wr.alloc (.cells #[.int .i64 mu, .int .i64 mf, .int .i64 md, slW sd] 136) = W1 := ⟨_, rfl⟩
      rw [hW1] at hO1 hL1 hQ1 hbel1 hz1 HH
      have HW1 : Hid (_ = W1) := hW1
      have HZ1 : Hid (_ = _) := hz1
      clear hb1 hO hL hW1 hz1 hI1
      go_wp2_with fail
      rw [HW1.out]
      refine HH.mono ?_
      rintro e w1 ⟨rfl, rfl⟩
      clear HH
      obtain ⟨d0, d1, d2, d3⟩ := id hQ1
      dsimp only at d0 d1 d2 d3
      have hb2 : Below W1.heap.size W1 (W1.alloc (.cells #[.int .i64 mu, .int .i64 mf, .int .i64 md, slW sd] 136)) := (Below.refl _ _).alloc (Nat.le_refl _) _
      have hO2 := row_keep hO1 (w' := W1.alloc (.cells #[.int .i64 mu, .int .i64 mf, .int .i64 md, slW sd] 136)) (fun g hg => hb2.block g (hO1.lt g hg).2)
      have hL2 := row_keep hL1 (w' := W1.alloc (.cells #[.int .i64 mu, .int .i64 mf, .int .i64 md, slW sd] 136)) (fun g hg => hb2.block g (hL1.lt g hg).2)
      have hQ2 := Qc.new W1 (.int .i64 mu) (.int .i64 mf) (.int .i64 md) (slW sd) 136
      have hbel2 := hbel1.trans (hb2.mono hbel1.size)
      clear hb2
      cases hb : hasZ u mu with
      | true =>
        have HV : Hid (tkM u fl ⟨mu, mf, md, mb⟩ = true) := by rw [Hid, tkM]; dsimp only; rw [hb, Bool.true_or]
        go_wp2_with (at_builtin; go_loud (refine app4 rfl _ _ 126 136 rfl _ 48 rfl (by decide) Tryz.underlying126 infoMessage so qo rfl hO2 W1.heap.size (.int .i64 mu, .int .i64 mf, .int .i64 md, slW sd) rfl hQ2 ⟨rfl, rfl, rfl, rfl⟩ hlo ?_; intro s3 w3 hrow3 hgr3 hloc3))
        have hbel3 : Below w.heap.size w w3 := hbel2.grown hgr3 hbel2.size (fun g hg => hgo g (mem_blkS.2 hg))
        have hoth3 := row_keep hL2 (w' := w3) (fun g hg => hgr3.block g (hL2.lt g hg).2 (fun e => hof g (mem_blkS.2 e.symm) (mem_blkS.2 hg)))
        rw [show (W1.alloc (.cells #[.int .i64 mu, .int .i64 mf, .int .i64 md, slW sd] 136)).heap.size = W1.heap.size + 1 by simp] at hloc3
        have hge3 : ∀ g ∈ blkS s3, w.heap.size ≤ g := fun g hg => by
          rcases hloc3 with e | e
          · exact hgo g (e ▸ hg)
          · rw [e, List.mem_singleton] at hg; rw [hg]; exact Nat.le_trans hbel1.size (Nat.le_succ _)
        have hof3 : ∀ g ∈ blkS s3, g ∉ blkS sl := fun g hg => by
          rcases hloc3 with e | e
          · exact hof g (e ▸ hg)
          · rw [e, List.mem_singleton] at hg; intro hc; have := (hL1.lt g (mem_blkS.1 hc)).2; omega
        have HO3 : Hid (w3.ownsRow 0 136 4 (slW s3) po.length (qc po)) := by rw [Hid, (HT.out true HV.out).1.trans (if_pos rfl)]; exact hrow3
        have HL3 : Hid (w3.ownsRow 0 136 4 (slW sl) pl.length (qc pl)) := by rw [Hid, (HT.out true HV.out).2.trans (if_neg (by decide))]; exact hoth3
        clear hrow3 hgr3 hloc3 hoth3 hO1 hL1 hO2 hL2 hbel1 hbel2 hQ1 hQ2 HT
        go_wp2
        go_roundw
        case rel => exact ⟨k + 1, s3, sl, by omega, by go_num, rfl, rfl, hbel3, by rw [HPO.out]; exact HO3.out, by rw [HPL.out]; exact HL3.out, hge3, hgl, hof3⟩
        case measure => simp [intV, Go.RowKit.intOf]; omega
      | false =>
        by_cases hz : bits .and .i64 mf fl = 0
        · have HV : Hid (tkM u fl ⟨mu, mf, md, mb⟩ = false) := by rw [Hid, tkM]; dsimp only; rw [hb, decide_eq_true hz]; rfl
          go_wp2_with (at_builtin; go_loud (refine app4 rfl _ _ 126 136 rfl _ 48 rfl (by decide) Tryz.underlying126 infoMessage sl ql rfl hL2 W1.heap.size (.int .i64 mu, .int .i64 mf, .int .i64 md, slW sd) rfl hQ2 ⟨rfl, rfl, rfl, rfl⟩ hll ?_; intro s3 w3 hrow3 hgr3 hloc3))
          have hbel3 : Below w.heap.size w w3 := hbel2.grown hgr3 hbel2.size (fun g hg => hgl g (mem_blkS.2 hg))
          have hoth3 := row_keep hO2 (w' := w3) (fun g hg => hgr3.block g (hO2.lt g hg).2 (fun e => hof g (mem_blkS.2 hg) (mem_blkS.2 e.symm)))
          rw [show (W1.alloc (.cells #[.int .i64 mu, .int .i64 mf, .int .i64 md, slW sd] 136)).heap.size = W1.heap.size + 1 by simp] at hloc3
          have hge3 : ∀ g ∈ blkS s3, w.heap.size ≤ g := fun g hg => by
            rcases hloc3 with e | e
            · exact hgl g (e ▸ hg)
            · rw [e, List.mem_singleton] at hg; rw [hg]; exact Nat.le_trans hbel1.size (Nat.le_succ _)
          have hof3 : ∀ g ∈ blkS so, g ∉ blkS s3 := fun g hg => by
            rcases hloc3 with e | e
            · rw [e]; exact hof g hg
            · rw [e, List.mem_singleton]; intro hc; have := (hO1.lt g (mem_blkS.1 hg)).2; omega
          have HL3 : Hid (w3.ownsRow 0 136 4 (slW s3) pl.length (qc pl)) := by rw [Hid, (HT.out false HV.out).2.trans (if_pos rfl)]; exact hrow3
          have HO3 : Hid (w3.ownsRow 0 136 4 (slW so) po.length (qc po)) := by rw [Hid, (HT.out false HV.out).1.trans (if_neg (by decide))]; exact hoth3
          clear hrow3 hgr3 hloc3 hoth3 hO1 hL1 hO2 hL2 hbel1 hbel2 hQ1 hQ2 HT
          go_wp2
          go_roundw
          case rel => exact ⟨k + 1, so, s3, by omega, by go_num, rfl, rfl, hbel3, by rw [HPO.out]; exact HO3.out, by rw [HPL.out]; exact HL3.out, hgo, hge3, hof3⟩
          case measure => simp [intV, Go.RowKit.intOf]; omega
        · have HV : Hid (tkM u fl ⟨mu, mf, md, mb⟩ = true) := by rw [Hid, tkM]; dsimp only; rw [hb, decide_eq_false hz]; rfl
          go_wp2_with (at_builtin; go_loud (refine app4 rfl _ _ 126 136 rfl _ 48 rfl (by decide) Tryz.underlying126 infoMessage so qo rfl hO2 W1.heap.size (.int .i64 mu, .int .i64 mf, .int .i64 md, slW sd) rfl hQ2 ⟨rfl, rfl, rfl, rfl⟩ hlo ?_; intro s3 w3 hrow3 hgr3 hloc3))
          have hbel3 : Below w.heap.size w w3 := hbel2.grown hgr3 hbel2.size (fun g hg => hgo g (mem_blkS.2 hg))
          have hoth3 := row_keep hL2 (w' := w3) (fun g hg => hgr3.block g (hL2.lt g hg).2 (fun e => hof g (mem_blkS.2 e.symm) (mem_blkS.2 hg)))
          rw [show (W1.alloc (.cells #[.int .i64 mu, .int .i64 mf, .int .i64 md, slW sd] 136)).heap.size = W1.heap.size + 1 by simp] at hloc3
          have hge3 : ∀ g ∈ blkS s3, w.heap.size ≤ g := fun g hg => by
            rcases hloc3 with e | e
            · exact hgo g (e ▸ hg)
            · rw [e, List.mem_singleton] at hg; rw [hg]; exact Nat.le_trans hbel1.size (Nat.le_succ _)
          have hof3 : ∀ g ∈ blkS s3, g ∉ blkS sl := fun g hg => by
            rcases hloc3 with e | e
            · exact hof g (e ▸ hg)
            · rw [e, List.mem_singleton] at hg; intro hc; have := (hL1.lt g (mem_blkS.1 hc)).2; omega
          have HO3 : Hid (w3.ownsRow 0 136 4 (slW s3) po.length (qc po)) := by rw [Hid, (HT.out true HV.out).1.trans (if_pos rfl)]; exact hrow3
          have HL3 : Hid (w3.ownsRow 0 136 4 (slW sl) pl.length (qc pl)) := by rw [Hid, (HT.out true HV.out).2.trans (if_neg (by decide))]; exact hoth3
          clear hrow3 hgr3 hloc3 hoth3 hO1 hL1 hO2 hL2 hbel1 hbel2 hQ1 hQ2 HT
          go_wp2
          go_roundw
          case rel => exact ⟨k + 1, s3, sl, by omega, by go_num, rfl, rfl, hbel3, by rw [HPO.out]; exact HO3.out, by rw [HPL.out]; exact HL3.out, hge3, hgl, hof3⟩
          case measure => simp [intV, Go.RowKit.intOf]; omega
    · have hki : ¬ (k : Int) < (n : Int) := by omega
      obtain rfl : k = n := by omega
      rw [← hl, List.take_length] at hO hL
      have HE : Hid (_) := (⟨so, sl, wr, rfl, rfl, hbel, hO, hL, hgo, hgl, hof⟩ : TkEnd ms u fl gB off w (.returned (slW so)) (wr.setCell ⟨gB, off + 3, none⟩ (slW sl)))
      clear hO hL
      go_wp2
      go_ret
      exact HE.out
end Go.Proofs.YtejbbnpgghpgaaaGreatDoor
