/- Ops done to a store one after the other: the model's ApplyAll; no conditions beyond those that each fact names. -/
import Derived.Test.YtejbbnpgghpgaaaGreatDoorAlaToMrk
import Derived.Test.YtejbbnpgghpgaaaGreatDoorLbdToAlh
namespace Go.Proofs.YtejbbnpgghpgaaaGreatDoor
open Go.RowKit List
set_option linter.unusedVariables false
theorem txB_len (s : ByteArray) : (txB s).length = s.size := by simp [txB]
theorem StOk.ft {v : Int} {l : List Bx} (h : StOk v l) : FtXs l := by
  refine ⟨by have := h.2.1; omega, fun i hi => ?_⟩
  obtain ⟨h1, h2, h3, h4, h5, -⟩ := bfV_ok.1 (h.box hi)
  refine ⟨?_, by omega, fun k hk => ?_⟩
  · unfold bnOk at h1
    rw [Bool.and_eq_true] at h1
    have := of_decide_eq_true h1.2
    rw [txB_len] at this
    omega
  · have hm := h5 (nthM (nthX l i).m k) (by rw [nthM_get hk]; exact List.getElem_mem hk)
    have := (mfV_ok.1 hm.1).2.2.2
    unfold FtM
    omega
theorem rz_one (r : Rs) : (rz r).1 = r.1 := by unfold rz; split <;> rfl
theorem rz_zero {r : Rs} (h : r.1 = 0) : rz r = r := if_pos h
set_option maxHeartbeats 6400000 in
set_option maxRecDepth 100000 in
theorem specApplyAll_any (v : Int) (s : SlQ) (xs0 : List Dx) (a : Option Addr) (n cap : Nat) (ol : List OpR) {lo : Nat} (w : World) (hs : HX w s xs0) (hf : FtH xs0) (hfx : FtXs (xs0.map Dx.bx)) (hO : IsOz lo w (a, n, cap) ol) :
    Calls Tryz.prog 26 #[.agg #[.int .i64 v, slW s], .slice a n cap] w fun e w' => SrEnd (aaR v (xs0.map Dx.bx) ol) w e w' := by
  have HL : Hid (ol.length = n) := hO.1
  obtain ⟨W, hW⟩ : ∃ W, (w.alloc (.cells #[.int .i64 v, slW s] 33)).alloc (.cells #[.int .i64 0, .slice none 0 0, .int .i64 0, .slice none 0 0] 35) = W := ⟨_, rfl⟩
  have hbW : Below w.heap.size w W := by rw [← hW]; exact ((Below.refl _ _).alloc (Nat.le_refl _) _).alloc (by simp) _
  have hA : Dw W w.heap.size (.int .i64 v, slW s) := by
    rw [← hW]
    exact (Dw.new w (.int .i64 v) (slW s) 33).below ((Below.refl _ _).alloc (Nat.le_refl _) _) (by simp)
  have hZ : Qw W (w.heap.size + 1) (.int .i64 0, .slice none 0 0, .int .i64 0, .slice none 0 0) := by
    have h := Qw.new (w.alloc (.cells #[.int .i64 v, slW s] 33)) (.int .i64 0) (.slice none 0 0) (.int .i64 0) (.slice none 0 0) 35
    rw [hW] at h
    simpa using h
  have hzW : W.heap.size = w.heap.size + 2 := by rw [← hW]; simp
  have HSF := l7Fault_any v s (xs0.map Dx.bx) w.heap.size (lo := 0) W ((hs.below hbW (Nat.le_refl _)).xs (fun _ _ => Nat.zero_le _)) hfx hA.1
  have HOS : Hid (∀ W', Below w.heap.size w W' → Calls Tryz.prog 74 #[.agg #[.int .i64 v, slW s]] W' fun e w' => CpS v (xs0.map Dx.bx) W' e w') := fun W' hb => l7Copy_any v s xs0 W' (hs.below hb (Nat.le_refl _)) hf
  have HOZ : Hid (∀ W', Below w.heap.size w W' → IsOz lo W' (a, n, cap) ol) := fun W' hb => hO.below hb
  generalize xs0.map Dx.bx = l at *
  have HV2 : Hid (60 < n → aaR v l ol = badR 2) := fun h => if_pos (by rw [HL.out]; exact h)
  have HVF : Hid (¬ 60 < n → stV v l ≠ 0 → aaR v l ol = badR (stV v l)) := fun h h' => (if_neg (by rw [HL.out]; exact h)).trans (if_neg h')
  have HVA : Hid (¬ 60 < n → stV v l = 0 → aaR v l ol = alR v l ol) := fun h h' => (if_neg (by rw [HL.out]; exact h)).trans (if_pos h')
  have HS0 : Hid (stV v l = 0 → StOk v l) := fun h => stV_ok.1 h
  generalize aaR v l ol = rr at *
  generalize stV v l = c at *
  have HW : Hid (_ = W) := hW
  clear hW hO hs hf hfx
  obtain ⟨a0, a1⟩ := id hA.1
  dsimp only at a0 a1
  by_cases hn6 : 60 < n
  · have hn6' : (60 : Int) < (n : Int) := by omega
    have HV : Hid (rr = badR 2) := HV2.out hn6
    clear HVA HVF HOS HOZ HSF
    go_enter Tryz.func26, Tryz.ntmps26
    go_wp2_with fail
    have hW := HW.out
    skip
    rw [hW]
    refine (l8Bad_any 2 W).mono ?_
    rintro e W1 ⟨rfl, hb1⟩
    have hZ1 := hZ.below hb1 hZ.lt
    have hbw1 := hbW.trans (hb1.mono hbW.size)
    have hR := hZ1.four (.int .i64 2) (.slice none 0 0) (.int .i64 0) (.slice none 0 0)
    have HB : Hid (_) := below_put (below_put (below_put (below_put hbw1 (w.heap.size + 1) 0 (.int .i64 2) (by omega)) (w.heap.size + 1) 1 (.slice none 0 0) (by omega)) (w.heap.size + 1) 2 (.int .i64 0) (by omega)) (w.heap.size + 1) 3 (.slice none 0 0) (by omega)
    obtain ⟨z0, z1, z2, z3⟩ := id hZ1.1
    have f0 := hZ1.2 0
    have f1 := hZ1.2 1
    have f2 := hZ1.2 2
    have f3 := hZ1.2 3
    obtain ⟨r0, r1, r2, r3⟩ := id hR.1
    dsimp only at z0 z1 z2 z3 r0 r1 r2 r3
    go_wp2
    refine bodyPost_ret (v := .agg #[.int .i64 2, .slice none 0 0, .int .i64 0, .slice none 0 0]) (by simp [results, Tryz.results26, go_sem, r0, r1, r2, r3]) rfl ?_
    rw [HV.out]
    exact .inl ⟨by decide, rfl, HB.out⟩
  have hn6' : ¬ (60 : Int) < (n : Int) := by omega
  go_enter Tryz.func26, Tryz.ntmps26
  go_wp2_with fail
  have hW := HW.out
  skip
  rw [hW]
  refine HSF.mono ?_
  rintro e W1 ⟨rfl, hb1⟩
  have hA1 := hA.below hb1 (by omega)
  have hZ1 := hZ.below hb1 (by omega)
  have hbw1 := hbW.trans (hb1.mono hbW.size)
  have hz1 : w.heap.size + 2 ≤ W1.heap.size := by rw [← hzW]; exact hb1.size
  clear HSF hA hZ hbW hb1 HW hW hzW a0 a1 HV2
  by_cases hc : c = 0
  case neg =>
    have HV : Hid (rr = badR c) := HVF.out hn6 hc
    clear HVA HVF HOS HOZ
    go_wp2_with fail
    refine (l8Bad_any c W1).mono ?_
    rintro e W2 ⟨rfl, hb2⟩
    have hZ2 := hZ1.below hb2 hZ1.lt
    have hbw2 := hbw1.trans (hb2.mono hbw1.size)
    have hR := hZ2.four (.int .i64 c) (.slice none 0 0) (.int .i64 0) (.slice none 0 0)
    have HB : Hid (_) := below_put (below_put (below_put (below_put hbw2 (w.heap.size + 1) 0 (.int .i64 c) (by omega)) (w.heap.size + 1) 1 (.slice none 0 0) (by omega)) (w.heap.size + 1) 2 (.int .i64 0) (by omega)) (w.heap.size + 1) 3 (.slice none 0 0) (by omega)
    obtain ⟨z0, z1, z2, z3⟩ := id hZ2.1
    have f0 := hZ2.2 0
    have f1 := hZ2.2 1
    have f2 := hZ2.2 2
    have f3 := hZ2.2 3
    obtain ⟨r0, r1, r2, r3⟩ := id hR.1
    dsimp only at z0 z1 z2 z3 r0 r1 r2 r3
    go_wp2
    refine bodyPost_ret (v := .agg #[.int .i64 c, .slice none 0 0, .int .i64 0, .slice none 0 0]) (by simp [results, Tryz.results26, go_sem, r0, r1, r2, r3]) rfl ?_
    rw [HV.out]
    exact .inl ⟨hc, rfl, HB.out⟩
  subst hc
  have HV : Hid (rr = alR v l ol) := HVA.out hn6 (by trivial)
  have hSt := HS0.out (by trivial)
  obtain ⟨a0, a1⟩ := id hA1.1
  dsimp only at a0 a1
  clear HVA HVF HS0
  go_wp2_with fail
  refine (HOS.out W1 hbw1).mono ?_
  rintro e W2 ⟨s2, xs2, rfl, hC2, hb2⟩
  clear a0 a1 hA1 HOS
  obtain ⟨W3, hW3⟩ : ∃ W3, W2.alloc (.cells #[.int .i64 0, .slice none 0 0, .int .i64 v, slW s2] 35) = W3 := ⟨_, rfl⟩
  have b3 : Below W2.heap.size W2 W3 := by rw [← hW3]; exact (Below.refl _ _).alloc (Nat.le_refl _) _
  have hG3 : Qw W3 W2.heap.size (.int .i64 0, .slice none 0 0, .int .i64 v, slW s2) := by rw [← hW3]; exact Qw.new _ _ _ _ _ _
  have hC3 := hC2.below b3 (Nat.le_refl _)
  have hn3 : W2.heap.size ∉ blkS s2 ++ fpX xs2 := fun hc => Nat.lt_irrefl _ (hC2.1.lt _ hc)
  have hB3 : Below W1.heap.size W1 W3 := hb2.trans (b3.mono hb2.size)
  have hg6 : W1.heap.size ≤ W2.heap.size := hb2.size
  have HW3 : Hid (_ = W3) := hW3
  clear hW3 hC2 hb2 b3
  go_wp2_with (rw [HW3.out])
  clear HW3
  generalize W2.heap.size = g6 at *
  go_loopw [7] (fun i wr => ∃ (j : Nat) (v' : Int) (l' : List Bx) (s' : SlQ) (xs' : List Dx), j ≤ n ∧ i = .int .i64 j ∧ StOk v' l' ∧ alR v l ol = alR v' l' (ol.drop j) ∧ Qw wr g6 (.int .i64 0, .slice none 0 0, .int .i64 v', slW s') ∧ CX W1.heap.size wr s' l' xs' ∧ g6 ∉ blkS s' ++ fpX xs' ∧ Below W1.heap.size W1 wr) (fun i _ => n - (intOf i).toNat)
  case atStart => exact ⟨0, v, l, s2, xs2, Nat.zero_le _, rfl, hSt, rfl, hG3, hC3, hn3, hB3⟩
  case round =>
    obtain ⟨j, v', l', s', xs', hj, rfl, hok, hal, hGj, hCj, hnj, hbj⟩ := hrel
    have hZj := hZ1.below hbj (by omega)
    have hbwj := hbw1.trans (hbj.mono hbw1.size)
    have hzj : W1.heap.size ≤ wr.heap.size := hbj.size
    have HAL : Hid (alR v l ol = alR v' l' (ol.drop j)) := hal
    rw [hal] at HV
    clear hal hSt hG3 hC3 hn3 hB3
    by_cases hjn : j < n
    · have hji : (j : Int) < (n : Int) := by omega
      have hjl : j < ol.length := by rw [HL.out]; exact hjn
      have hO1 := HOZ.out wr hbwj
      rcases hO1.2.2.2 with e | ⟨b, off, ea, hlt, hcell⟩
      · rw [e] at hjl; simp at hjl
      dsimp only at ea
      subst ea
      obtain ⟨p, hcs, hop, hx, hdt, hxs, hts⟩ := hcell j hjl
      have HST : Hid ((apR v' l' (nthO ol j)).1 = 0 → alR v' l' (ol.drop j) = alR (apR v' l' (nthO ol j)).2.2.1 (apR v' l' (nthO ol j)).2.2.2 (ol.drop (j + 1))) := fun h => by
        rw [dropO ol j hjl]; exact if_pos h
      have HBD : Hid ((apR v' l' (nthO ol j)).1 ≠ 0 → alR v' l' (ol.drop j) = badR (apR v' l' (nthO ol j)).1) := fun h => by
        rw [dropO ol j hjl]; exact if_neg h
      have HOK : Hid ((apR v' l' (nthO ol j)).1 = 0 → StOk (apR v' l' (nthO ol j)).2.2.1 (apR v' l' (nthO ol j)).2.2.2) := fun h => apR_ok hok h
      have HAO : aoR v' l' (nthO ol j) = apR v' l' (nthO ol j) := if_pos (stV_ok.2 hok)
      have HAP : Hid (∀ W', Below wr.heap.size wr W' → Calls Tryz.prog 14 #[.agg #[.int .i64 v', slW s'], opX (nthO ol j) p] W' fun e w' => SrEnd (apR v' l' (nthO ol j)) W' e w') := fun W' hb => by
        have h := specApplyOp_any v' s' xs' (nthO ol j) p W' (hCj.1.below hb (Nat.le_refl _)) (few_ft hCj.2.1 hok.ft).2 (by rw [hCj.2.1]; exact hok.ft) (hop.below hb) (hdt.below hb (Nat.le_refl _)) hxs hts (fun x hxx => Nat.lt_of_lt_of_le (hx x hxx) hb.size)
        rw [hCj.2.1, HAO] at h
        exact h
      have HSK : Hid (∀ W', Below wr.heap.size wr W' → W'.cell? ⟨g6, 2, none⟩ = some (.int .i64 v') ∧ W'.cell? ⟨g6, 3, none⟩ = some (slW s') ∧ W'.cell? ⟨b, off + j * 8, none⟩ = some (.int .i64 (nthO ol j).k) ∧ W'.cell? ⟨b, off + j * 8 + 1, none⟩ = some (.string (nthO ol j).x) ∧ W'.cell? ⟨b, off + j * 8 + 2, none⟩ = some (.string (nthO ol j).t) ∧ W'.cell? ⟨b, off + j * 8 + 3, none⟩ = some (slW p.1) ∧ W'.cell? ⟨b, off + j * 8 + 4, none⟩ = some (.int .i64 (nthO ol j).m) ∧ W'.cell? ⟨b, off + j * 8 + 5, none⟩ = some (.int .i64 (nthO ol j).f) ∧ W'.cell? ⟨b, off + j * 8 + 6, none⟩ = some (.int .i64 (nthO ol j).d) ∧ W'.cell? ⟨b, off + j * 8 + 7, none⟩ = some (slW p.2)) := fun W' hb => by
        have kc : ∀ q, W'.cell? ⟨b, q, none⟩ = wr.cell? ⟨b, q, none⟩ := fun q => hb.cell (p := ⟨b, q, none⟩) hlt
        have kg : ∀ q, W'.cell? ⟨g6, q, none⟩ = wr.cell? ⟨g6, q, none⟩ := fun q => hb.cell (p := ⟨g6, q, none⟩) hGj.lt
        obtain ⟨c0, c1, c2, c3, c4, c5, c6, c7⟩ := hcs
        exact ⟨(kg _).trans hGj.1.2.2.1, (kg _).trans hGj.1.2.2.2, (kc _).trans c0, (kc _).trans c1, (kc _).trans c2, (kc _).trans c3, (kc _).trans c4, (kc _).trans c5, (kc _).trans c6, (kc _).trans c7⟩
      clear hcell hop hO1 hok HAO hcs hx hdt hxs hts
      generalize nthO ol j = o at *
      generalize apR v' l' o = ra at *
      obtain ⟨ok, ox, ot, ou, om, of, od, ob⟩ := o
      dsimp only [opX] at HAP HSK
      go_wp2
      refine wp_meetL [27, 28, 29, 30, 31, 32, 33, 8] (fun vs w' => ∃ gb su0 s0 xs0, vs.getD 7 undef = .pointer (some ⟨gb, 0, none⟩) ∧ Qc w' gb (.int .i64 (rz ra).1, slW su0, .int .i64 (rz ra).2.2.1, slW s0) ∧ SrK wr.heap.size (rz ra) w' su0 s0 xs0 ∧ gb ∉ blkS su0 ++ (blkS s0 ++ fpX xs0) ∧ wr.heap.size ≤ gb ∧ Below wr.heap.size wr w') ?hm (fun vs W9 hlv hR => ?_)
      case hm =>
        refine wp_region_held_drew (S := fun w' => w'.cell? ⟨g6, 2, none⟩ = some (.int .i64 v') ∧ w'.cell? ⟨g6, 3, none⟩ = some (slW s') ∧ w'.cell? ⟨b, off + j * 8, none⟩ = some (.int .i64 ok) ∧ w'.cell? ⟨b, off + j * 8 + 1, none⟩ = some (.string ox) ∧ w'.cell? ⟨b, off + j * 8 + 2, none⟩ = some (.string ot) ∧ w'.cell? ⟨b, off + j * 8 + 3, none⟩ = some (slW p.1) ∧ w'.cell? ⟨b, off + j * 8 + 4, none⟩ = some (.int .i64 om) ∧ w'.cell? ⟨b, off + j * 8 + 5, none⟩ = some (.int .i64 of) ∧ w'.cell? ⟨b, off + j * 8 + 6, none⟩ = some (.int .i64 od) ∧ w'.cell? ⟨b, off + j * 8 + 7, none⟩ = some (slW p.2)) (by kernel_rfl) ?hS1 (fun hHeld => ?_)
        case hS1 => exact HSK.out _ (Below.refl _ _).drew
        refine wpAnyH_take (i := 0) (v := ?_) rfl (by kernel_rfl) (by kernel_rfl) (by kernel_rfl) (fun _ _ _ h => absurd h.1 (fun e => by cases e)) (Or.inl ⟨by kernel_rfl, ?hy2⟩) (by assumption) ?ty2
        case hy2 => (intro w5 hSw; obtain ⟨p0, p1, c0, c1, c2, c3, c4, c5, c6, c7⟩ := hSw; go_simp; all_goals with_reducible rfl)
        simp only [Act.put, List.getElem_toArray, List.getElem_cons_zero, List.setIfInBounds_toArray, List.set_cons_zero, List.set_cons_succ]
        refine wpAnyH_take (i := 1) (v := ?_) rfl (by kernel_rfl) (by kernel_rfl) (by kernel_rfl) (fun _ _ _ h => absurd h.1 (fun e => by cases e)) (Or.inl ⟨by kernel_rfl, ?hy3⟩) (by assumption) ?ty3
        case hy3 => (intro w5 hSw; obtain ⟨p0, p1, c0, c1, c2, c3, c4, c5, c6, c7⟩ := hSw; go_simp; all_goals with_reducible rfl)
        simp only [Act.put, List.getElem_toArray, List.getElem_cons_zero, List.getElem_cons_succ, List.setIfInBounds_toArray, List.set_cons_zero, List.set_cons_succ]
        refine wpAnyH_take (i := 2) (v := ?_) rfl (by kernel_rfl) (by kernel_rfl) (by kernel_rfl) (fun _ _ _ h => absurd h.1 (fun e => by cases e)) (Or.inl ⟨by kernel_rfl, ?hy4⟩) (by assumption) ?ty4
        case hy4 => (intro w5 hSw; obtain ⟨p0, p1, c0, c1, c2, c3, c4, c5, c6, c7⟩ := hSw; go_simp; all_goals with_reducible rfl)
        simp only [Act.put, List.getElem_toArray, List.getElem_cons_zero, List.getElem_cons_succ, List.setIfInBounds_toArray, List.set_cons_zero, List.set_cons_succ]
        refine wpAnyH_take (i := 3) (v := ?_) rfl (by kernel_rfl) (by kernel_rfl) (by kernel_rfl) (fun _ _ _ h => absurd h.1 (fun e => by cases e)) (Or.inl ⟨by kernel_rfl, ?hy5⟩) (by assumption) ?ty5
        case hy5 => (intro w5 hSw; obtain ⟨p0, p1, c0, c1, c2, c3, c4, c5, c6, c7⟩ := hSw; go_simp; all_goals with_reducible rfl)
        simp only [Act.put, List.getElem_toArray, List.getElem_cons_zero, List.getElem_cons_succ, List.setIfInBounds_toArray, List.set_cons_zero, List.set_cons_succ]
        refine wpAnyH_take (i := 4) (v := ?_) rfl (by kernel_rfl) (by kernel_rfl) (by kernel_rfl) (fun _ _ _ h => absurd h.1 (fun e => by cases e)) (Or.inl ⟨by kernel_rfl, ?hy6⟩) (by assumption) ?ty6
        case hy6 => (intro w5 hSw; obtain ⟨p0, p1, c0, c1, c2, c3, c4, c5, c6, c7⟩ := hSw; go_simp; all_goals with_reducible rfl)
        simp only [Act.put, List.getElem_toArray, List.getElem_cons_zero, List.getElem_cons_succ, List.setIfInBounds_toArray, List.set_cons_zero, List.set_cons_succ]
        refine wpAnyH_take (i := 5) (v := ?_) rfl (by kernel_rfl) (by kernel_rfl) (by kernel_rfl) (fun _ _ _ h => absurd h.1 (fun e => by cases e)) (Or.inl ⟨by kernel_rfl, ?hy7⟩) (by assumption) ?ty7
        case hy7 => (intro w5 hSw; obtain ⟨p0, p1, c0, c1, c2, c3, c4, c5, c6, c7⟩ := hSw; go_simp; all_goals with_reducible rfl)
        simp only [Act.put, List.getElem_toArray, List.getElem_cons_zero, List.getElem_cons_succ, List.setIfInBounds_toArray, List.set_cons_zero, List.set_cons_succ]
        have hby : Below wr.heap.size wr wr.drew := (Below.refl _ _).drew
        generalize wr.drew = y at *
        refine wpAnyH_ready (rs := [6, 7]) (by kernel_rfl) (by simp) ?_
        refine AllReadyH.cons rfl (fun K hK => ?_) (AllReadyH.cons rfl (fun K hK => ?_) AllReadyH.nil)
        · go_simp
          refine (HAP.out y hby).mono ?_
          rintro e y1 hse
          obtain ⟨su0, s0, xs0, rfl, k0, hcy1⟩ := SrEnd.get hse
          clear hse
          have hby1 := hby.trans (hcy1.mono hby.size)
          have k0 : SrK wr.heap.size (rz ra) y1 su0 s0 xs0 := k0.low hby.size
          refine hK.out _ _ (HSK.out _ hby1) (fun hHeld => ?_)
          clear hK K
          refine wpAnyH_ready (rs := [7]) (by kernel_rfl) (by simp) ?_
          refine AllReadyH.cons rfl (fun K hK => ?_) AllReadyH.nil
          obtain ⟨y2, hey2⟩ : ∃ W, y1.alloc (.cells #[.int .i64 0, .slice none 0 0, .int .i64 0, .slice none 0 0] 35) = W := ⟨_, rfl⟩
          have hcy2 : Below y1.heap.size y1 y2 := by rw [← hey2]; exact (Below.refl _ _).alloc (Nat.le_refl _) _
          obtain ⟨gb, hgb⟩ : ∃ gb, y1.heap.size = gb := ⟨_, rfl⟩
          have hq : Qc y2 gb (.int .i64 0, .slice none 0 0, .int .i64 0, .slice none 0 0) := by rw [← hey2, ← hgb]; exact Qc.new _ _ _ _ _ _
          have hf : Fz4 y2 gb := by rw [← hey2, ← hgb]; exact Fz4.new _ _ _ _ _ _
          have hgl : gb < y2.heap.size := hq.lt
          have hgw : wr.heap.size ≤ gb := by rw [← hgb]; exact hby1.size
          have hby2 := hby1.trans (hcy2.mono hby1.size)
          go_simp
          have hof : ∀ g ∈ blkS su0 ++ (blkS s0 ++ fpX xs0), g ≠ gb := fun g hg e => by have h1 := (k0.fp g hg).2; omega
          have k0 := k0.below hcy2 (Nat.le_refl _)
          refine hK.out _ _ (HSK.out _ hby2) (fun hHeld => ?_)
          clear hK K
          refine wpAnyH_ready (rs := [8]) (by kernel_rfl) (by simp) ?_
          refine AllReadyH.cons rfl (fun K hK => ?_) AllReadyH.nil
          have hQF : Qc ((((y2.setCell ⟨gb, 0, none⟩ (.int .i64 (rz ra).1)).setCell ⟨gb, 1, none⟩ (slW su0)).setCell ⟨gb, 2, none⟩ (.int .i64 (rz ra).2.2.1)).setCell ⟨gb, 3, none⟩ (slW s0)) gb (.int .i64 (rz ra).1, slW su0, .int .i64 (rz ra).2.2.1, slW s0) := qc_four hq _ _ _ _
          obtain ⟨q0', q1', q2', q3'⟩ := hq
          obtain ⟨f0, f1, f2, f3⟩ := hf
          dsimp only at q0' q1' q2' q3'
          have hbF : Below wr.heap.size wr ((((y2.setCell ⟨gb, 0, none⟩ (.int .i64 (rz ra).1)).setCell ⟨gb, 1, none⟩ (slW su0)).setCell ⟨gb, 2, none⟩ (.int .i64 (rz ra).2.2.1)).setCell ⟨gb, 3, none⟩ (slW s0)) := ((((hby2.setCell hgw _).setCell hgw _).setCell hgw _).setCell hgw _)
          have hkF : SrK wr.heap.size (rz ra) ((((y2.setCell ⟨gb, 0, none⟩ (.int .i64 (rz ra).1)).setCell ⟨gb, 1, none⟩ (slW su0)).setCell ⟨gb, 2, none⟩ (.int .i64 (rz ra).2.2.1)).setCell ⟨gb, 3, none⟩ (slW s0)) su0 s0 xs0 := k0.keepK (((((Kx.refl [gb] y2).set gb _ _ (.inl (by simp))).set gb _ _ (.inl (by simp))).set gb _ _ (.inl (by simp))).set gb _ _ (.inl (by simp))) (fun g hg hc => hof g hg (by simpa using hc))
          go_simp
          obtain ⟨YF, hYF⟩ : ∃ W, ((((y2.setCell ⟨gb, 0, none⟩ (.int .i64 (rz ra).1)).setCell ⟨gb, 1, none⟩ (slW su0)).setCell ⟨gb, 2, none⟩ (.int .i64 (rz ra).2.2.1)).setCell ⟨gb, 3, none⟩ (slW s0)) = W := ⟨_, rfl⟩
          rw [hYF] at hQF hbF hkF ⊢
          refine hK.out _ _ (HSK.out _ hbF) (fun hHeld => ?_)
          clear hK K
          refine wpAnyH_done (by kernel_rfl) ?_ _
          exact ⟨rfl, ⟨gb, su0, s0, xs0, rfl, hQF, hkF, fun hc => hof gb hc rfl, hgw, hbF⟩, rfl⟩
        · obtain ⟨y3, hey3⟩ : ∃ W, y.alloc (.cells #[.int .i64 0, .slice none 0 0, .int .i64 0, .slice none 0 0] 35) = W := ⟨_, rfl⟩
          have hcy3 : Below y.heap.size y y3 := by rw [← hey3]; exact (Below.refl _ _).alloc (Nat.le_refl _) _
          obtain ⟨gb, hgb⟩ : ∃ gb, y.heap.size = gb := ⟨_, rfl⟩
          have hq : Qc y3 gb (.int .i64 0, .slice none 0 0, .int .i64 0, .slice none 0 0) := by rw [← hey3, ← hgb]; exact Qc.new _ _ _ _ _ _
          have hf : Fz4 y3 gb := by rw [← hey3, ← hgb]; exact Fz4.new _ _ _ _ _ _
          have hgl : gb < y3.heap.size := hq.lt
          have hgw : wr.heap.size ≤ gb := by rw [← hgb]; exact hby.size
          have hby3 := hby.trans (hcy3.mono hby.size)
          go_simp
          refine hK.out _ _ (HSK.out _ hby3) (fun hHeld => ?_)
          clear hK K
          refine wpAnyH_ready (rs := [6]) (by kernel_rfl) (by simp) ?_
          refine AllReadyH.cons rfl (fun K hK => ?_) AllReadyH.nil
          go_simp
          refine (HAP.out y3 hby3).mono ?_
          rintro e y4 hse
          obtain ⟨su0, s0, xs0, rfl, k0, hcy4⟩ := SrEnd.get hse
          clear hse
          have hby4 := hby3.trans (hcy4.mono hby3.size)
          have hof : ∀ g ∈ blkS su0 ++ (blkS s0 ++ fpX xs0), g ≠ gb := fun g hg e => by have h1 := (k0.fp g hg).1; omega
          have hq := hq.below hcy4 hgl
          have hf := hf.below hcy4 hgl
          have hgl : gb < y4.heap.size := Nat.lt_of_lt_of_le hgl hcy4.size
          have k0 : SrK wr.heap.size (rz ra) y4 su0 s0 xs0 := k0.low hby3.size
          refine hK.out _ _ (HSK.out _ hby4) (fun hHeld => ?_)
          clear hK K
          refine wpAnyH_ready (rs := [8]) (by kernel_rfl) (by simp) ?_
          refine AllReadyH.cons rfl (fun K hK => ?_) AllReadyH.nil
          have hQF : Qc ((((y4.setCell ⟨gb, 0, none⟩ (.int .i64 (rz ra).1)).setCell ⟨gb, 1, none⟩ (slW su0)).setCell ⟨gb, 2, none⟩ (.int .i64 (rz ra).2.2.1)).setCell ⟨gb, 3, none⟩ (slW s0)) gb (.int .i64 (rz ra).1, slW su0, .int .i64 (rz ra).2.2.1, slW s0) := qc_four hq _ _ _ _
          obtain ⟨q0', q1', q2', q3'⟩ := hq
          obtain ⟨f0, f1, f2, f3⟩ := hf
          dsimp only at q0' q1' q2' q3'
          have hbF : Below wr.heap.size wr ((((y4.setCell ⟨gb, 0, none⟩ (.int .i64 (rz ra).1)).setCell ⟨gb, 1, none⟩ (slW su0)).setCell ⟨gb, 2, none⟩ (.int .i64 (rz ra).2.2.1)).setCell ⟨gb, 3, none⟩ (slW s0)) := ((((hby4.setCell hgw _).setCell hgw _).setCell hgw _).setCell hgw _)
          have hkF : SrK wr.heap.size (rz ra) ((((y4.setCell ⟨gb, 0, none⟩ (.int .i64 (rz ra).1)).setCell ⟨gb, 1, none⟩ (slW su0)).setCell ⟨gb, 2, none⟩ (.int .i64 (rz ra).2.2.1)).setCell ⟨gb, 3, none⟩ (slW s0)) su0 s0 xs0 := k0.keepK (((((Kx.refl [gb] y4).set gb _ _ (.inl (by simp))).set gb _ _ (.inl (by simp))).set gb _ _ (.inl (by simp))).set gb _ _ (.inl (by simp))) (fun g hg hc => hof g hg (by simpa using hc))
          go_simp
          obtain ⟨YF, hYF⟩ : ∃ W, ((((y4.setCell ⟨gb, 0, none⟩ (.int .i64 (rz ra).1)).setCell ⟨gb, 1, none⟩ (slW su0)).setCell ⟨gb, 2, none⟩ (.int .i64 (rz ra).2.2.1)).setCell ⟨gb, 3, none⟩ (slW s0)) = W := ⟨_, rfl⟩
          rw [hYF] at hQF hbF hkF ⊢
          refine hK.out _ _ (HSK.out _ hbF) (fun hHeld => ?_)
          clear hK K
          refine wpAnyH_done (by kernel_rfl) ?_ _
          exact ⟨rfl, ⟨gb, su0, s0, xs0, rfl, hQF, hkF, fun hc => hof gb hc rfl, hgw, hbF⟩, rfl⟩
      rcases vs with _ | ⟨v1, _ | ⟨v2, _ | ⟨v3, _ | ⟨v4, _ | ⟨v5, _ | ⟨v6, _ | ⟨v7, _ | ⟨v8, _ | ⟨v9, vs⟩⟩⟩⟩⟩⟩⟩⟩⟩
      · simp at hlv
      · simp at hlv
      · simp at hlv
      · simp at hlv
      · simp at hlv
      · simp at hlv
      · simp at hlv
      · simp at hlv
      rotate_left
      · simp at hlv
      obtain ⟨gb, su0, s0, xs1, hvg, qA, k0, nA, lA, hb3⟩ := hR
      obtain rfl : v8 = .pointer (some ⟨gb, 0, none⟩) := hvg
      clear hlv HAP HSK
      simp only [putL, Act.put, List.setIfInBounds_toArray, List.set_cons_zero, List.set_cons_succ]
      have hGa := hGj.below hb3 hGj.lt
      have hZa := hZj.below hb3 hZj.lt
      have hbwa := hbwj.trans (hb3.mono hbwj.size)
      have hba : Below W1.heap.size W1 W9 := hbj.trans (hb3.mono hzj)
      obtain ⟨q0, q1, q2, q3⟩ := id qA
      rw [rz_one] at q0
      dsimp only at q0 q1 q2 q3
      by_cases h1 : ra.1 = 0
      case neg =>
        have HV' : Hid (rr = badR ra.1) := HV.out.trans (HBD.out h1)
        clear HST HBD HOK HV HOZ HAL
        go_wp2_with fail
        refine (l8Bad_any ra.1 W9).mono ?_
        rintro e W4 ⟨rfl, hb4⟩
        have hZ4 := hZa.below hb4 hZa.lt
        have hbw4 := hbwa.trans (hb4.mono hbwa.size)
        clear q0 q1 q2 q3
        have hR := hZ4.four (.int .i64 ra.1) (.slice none 0 0) (.int .i64 0) (.slice none 0 0)
        have HB : Hid (_) := below_put (below_put (below_put (below_put hbw4 (w.heap.size + 1) 0 (.int .i64 ra.1) (by omega)) (w.heap.size + 1) 1 (.slice none 0 0) (by omega)) (w.heap.size + 1) 2 (.int .i64 0) (by omega)) (w.heap.size + 1) 3 (.slice none 0 0) (by omega)
        obtain ⟨z0, z1, z2, z3⟩ := id hZ4.1
        have f0 := hZ4.2 0
        have f1 := hZ4.2 1
        have f2 := hZ4.2 2
        have f3 := hZ4.2 3
        obtain ⟨r0, r1, r2, r3⟩ := id hR.1
        dsimp only at z0 z1 z2 z3 r0 r1 r2 r3
        go_wp2
        refine bodyPost_ret (v := .agg #[.int .i64 ra.1, .slice none 0 0, .int .i64 0, .slice none 0 0]) (by simp [results, Tryz.results26, go_sem, r0, r1, r2, r3]) rfl ?_
        rw [HV'.out]
        exact .inl ⟨h1, rfl, HB.out⟩
      rw [rz_zero h1] at k0 q2
      have hC3 := k0.2.1.low hzj
      have hn3 : g6 ∉ blkS s0 ++ fpX xs1 := fun hc => by have := k0.2.1.2.2.2 _ hc; have := hGj.lt; omega
      have HR : Hid (∃ (j' : Nat) (v'' : Int) (l'' : List Bx) (s'' : SlQ) (xs'' : List Dx), j' ≤ n ∧ ((j : Int) + 1) = (j' : Int) ∧ StOk v'' l'' ∧ alR v l ol = alR v'' l'' (ol.drop j') ∧ Qw ((W9.setCell ⟨g6, 2, none⟩ (.int .i64 ra.2.2.1)).setCell ⟨g6, 3, none⟩ (slW s0)) g6 (.int .i64 0, .slice none 0 0, .int .i64 v'', slW s'') ∧ CX W1.heap.size ((W9.setCell ⟨g6, 2, none⟩ (.int .i64 ra.2.2.1)).setCell ⟨g6, 3, none⟩ (slW s0)) s'' l'' xs'' ∧ g6 ∉ blkS s'' ++ fpX xs'' ∧ Below W1.heap.size W1 ((W9.setCell ⟨g6, 2, none⟩ (.int .i64 ra.2.2.1)).setCell ⟨g6, 3, none⟩ (slW s0))) :=
        ⟨j + 1, _, _, s0, xs1, by omega, by omega, HOK.out h1, HAL.out.trans (HST.out h1), (hGa.set2 _).set3 _, (hC3.far g6 2 _ hn3).far g6 3 _ hn3, hn3, below_put (below_put hba g6 2 _ hg6) g6 3 _ hg6⟩
      obtain ⟨g0, g1, g2, g3⟩ := id hGa.1
      have f2 := hGa.2 2
      have f3 := hGa.2 3
      rw [h1] at q0
      dsimp only at g0 g1 g2 g3
      clear HST HBD HOK HV HOZ HAL hC3 hn3 k0 hba hbwa hZa hGa qA
      go_wp2
      go_roundw
      case rel =>
        obtain ⟨j', v'', l'', s'', xs'', h1', h2', h3', h4', h5', h6', h7', h8'⟩ := HR.out
        exact ⟨j', v'', l'', s'', xs'', h1', by rw [← h2'], h3', h4', h5', h6', h7', h8'⟩
      case measure => simp [intOf]; omega
    · have hji : ¬ (j : Int) < (n : Int) := by omega
      have HV' : Hid (rr = (0, [], v', l')) := HV.out.trans (by rw [List.drop_of_length_le (by rw [HL.out]; omega)]; rfl)
      obtain ⟨g0, g1, g2, g3⟩ := id hGj.1
      have hR := hZj.four (.int .i64 0) (.slice none 0 0) (.int .i64 v') (slW s')
      have HB : Hid (_) := below_put (below_put (below_put (below_put hbwj (w.heap.size + 1) 0 (.int .i64 0) (by omega)) (w.heap.size + 1) 1 (.slice none 0 0) (by omega)) (w.heap.size + 1) 2 (.int .i64 v') (by omega)) (w.heap.size + 1) 3 (slW s') (by omega)
      have hno : w.heap.size + 1 ∉ blkS s' ++ fpX xs' := fun hc => by have := hCj.2.2.2 _ hc; omega
      have HC : Hid (_) := (((hCj.far (w.heap.size + 1) 0 (.int .i64 0) hno).far (w.heap.size + 1) 1 (.slice none 0 0) hno).far (w.heap.size + 1) 2 (.int .i64 v') hno).far (w.heap.size + 1) 3 (slW s') hno
      obtain ⟨z0, z1, z2, z3⟩ := id hZj.1
      have f0 := hZj.2 0
      have f1 := hZj.2 1
      have f2 := hZj.2 2
      have f3 := hZj.2 3
      obtain ⟨r0, r1, r2, r3⟩ := id hR.1
      dsimp only at z0 z1 z2 z3 r0 r1 r2 r3 g0 g1 g2 g3
      clear HV HOZ HAL
      go_wp2
      refine bodyPost_ret (v := .agg #[.int .i64 0, .slice none 0 0, .int .i64 v', slW s']) (by simp [results, Tryz.results26, go_sem, r0, r1, r2, r3]) rfl ?_
      rw [HV'.out]
      exact .inr ⟨rfl, (none, 0, 0), s', xs', rfl, OwZ.nil _ _, CX.low HC.out hbw1.size, fun k hk => by simp [blkS] at hk, HB.out⟩
end Go.Proofs.YtejbbnpgghpgaaaGreatDoor
