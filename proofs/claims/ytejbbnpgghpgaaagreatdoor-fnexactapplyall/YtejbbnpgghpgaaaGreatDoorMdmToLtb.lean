/- The model: an op done, of any kind; no conditions beyond those that each fact names · The model's ApplyOp; no conditions beyond those that each fact names · A message turned into one of the program's lies in memory of its own; no conditions beyond those that each fact names · Messages turned into the program's lie in memory of their own; no conditions beyond those that each fact names. -/
import Derived.Test.YtejbbnpgghpgaaaGreatDoorMdkToMdl
namespace Go.Proofs.YtejbbnpgghpgaaaGreatDoor
open Go.RowKit
theorem l8Apply_any (B : Nat) (v : Int) (s : SlQ) (xs0 : List Dx) (o : OpR) (p : SlO) (w : World) (hs : HX w s xs0) (hf : FtH xs0) (hG : GdS v (xs0.map Dx.bx)) (hQ : Qo w B (opQ o p)) (hI : o.u.length = p.1.2.1 ∧ RdI w p.1.1 o.u) (hIo : ∀ x, p.1.1 = some x → x.block < w.heap.size) (hDt : OwB w p.2 o.b) (hO : ofV o = 0) :
    Calls Tryz.prog 58 #[.agg #[.int .i64 v, slW s], .pointer (some ⟨B, 0, none⟩)] w fun e w' => SrEnd (apR v (xs0.map Dx.bx) o) w e w' := by
  obtain ⟨⟨h1, h7⟩, hul, hbl, -⟩ := ofV_zero hO
  unfold apR
  rw [if_pos hO]
  have hk : o.k = 1 ∨ o.k = 2 ∨ o.k = 3 ∨ o.k = 4 ∨ o.k = 5 ∨ o.k = 6 ∨ o.k = 7 := by omega
  rcases hk with hk | hk | hk | hk | hk | hk | hk
  · exact l8Apply_1 B v s xs0 o p w hs hf hG hQ hI hIo hul hk
  · exact l8Apply_2 B v s xs0 o p w hs hf hG hQ hI hIo hul hk
  · exact l8Apply_3 B v s xs0 o p w hs hf hG hQ hI hIo hul hDt hbl hk
  · exact l8Apply_4 B v s xs0 o p w hs hf hG hQ hI hIo hul hk
  · exact l8Apply_5 B v s xs0 o p w hs hf hG hQ hI hIo hul hk
  · exact l8Apply_6 B v s xs0 o p w hs hf hG hQ hI hIo hul hk
  · exact l8Apply_7 B v s xs0 o p w hs hf hG hQ hI hIo hul hk
end Go.Proofs.YtejbbnpgghpgaaaGreatDoor
namespace Go.Proofs.YtejbbnpgghpgaaaGreatDoor
open Go.RowKit
set_option linter.unusedVariables false
set_option maxHeartbeats 1600000 in
set_option maxRecDepth 100000 in
theorem specApplyOp_any (v : Int) (s : SlQ) (xs0 : List Dx) (o : OpR) (p : SlO) {lo : Nat} (w : World) (hs : HX w s xs0) (hf : FtH xs0) (hfx : FtXs (xs0.map Dx.bx)) (hO : IsOp lo w p o) (hDt : OwB w p.2 o.b) (hxs : o.x.size ≤ 1048576) (hts : o.t.size ≤ 1048576) (hIo : ∀ x, p.1.1 = some x → x.block < w.heap.size) :
    Calls Tryz.prog 14 #[.agg #[.int .i64 v, slW s], opX o p] w fun e w' => SrEnd (aoR v (xs0.map Dx.bx) o) w e w' := by
  obtain ⟨W, hW⟩ : ∃ W, ((w.alloc (.cells #[.int .i64 v, slW s] 33)).alloc (.cells #[.int .i64 o.k, .string o.x, .string o.t, slW p.1, .int .i64 o.m, .int .i64 o.f, .int .i64 o.d, slW p.2] 38)).alloc (.cells #[.int .i64 0, .slice none 0 0, .int .i64 0, .slice none 0 0] 35) = W := ⟨_, rfl⟩
  have hbW : Below w.heap.size w W := by rw [← hW]; exact (((Below.refl _ _).alloc (Nat.le_refl _) _).alloc (by simp) _).alloc (by simp; omega) _
  have hA : Dw W w.heap.size (.int .i64 v, slW s) := by
    rw [← hW]
    exact (Dw.new w (.int .i64 v) (slW s) 33).below (((Below.refl _ _).alloc (Nat.le_refl _) _).alloc (by simp) _) (by simp)
  have hQ : Qo W (w.heap.size + 1) ⟨.int .i64 o.k, .string o.x, .string o.t, slW p.1, .int .i64 o.m, .int .i64 o.f, .int .i64 o.d, slW p.2⟩ := by
    have h := (Qo.new (w.alloc (.cells #[.int .i64 v, slW s] 33)) (.int .i64 o.k) (.string o.x) (.string o.t) (slW p.1) (.int .i64 o.m) (.int .i64 o.f) (.int .i64 o.d) (slW p.2) 38).below ((Below.refl _ _).alloc (Nat.le_refl _) (.cells #[.int .i64 0, .slice none 0 0, .int .i64 0, .slice none 0 0] 35)) (by simp)
    rw [hW] at h
    simpa using h
  have hZ : Qw W (w.heap.size + 2) (.int .i64 0, .slice none 0 0, .int .i64 0, .slice none 0 0) := by
    have h := Qw.new ((w.alloc (.cells #[.int .i64 v, slW s] 33)).alloc (.cells #[.int .i64 o.k, .string o.x, .string o.t, slW p.1, .int .i64 o.m, .int .i64 o.f, .int .i64 o.d, slW p.2] 38)) (.int .i64 0) (.slice none 0 0) (.int .i64 0) (.slice none 0 0) 35
    rw [hW] at h
    simpa using h
  have hzW : W.heap.size = w.heap.size + 3 := by rw [← hW]; simp
  have HSF := l7Fault_any v s (xs0.map Dx.bx) w.heap.size (lo := 0) W ((hs.below hbW (Nat.le_refl _)).xs (fun _ _ => Nat.zero_le _)) hfx hA.1
  have HOF : Hid (∀ W', Below w.heap.size w W' → Qo W' (w.heap.size + 1) (opQ o p) → Calls Tryz.prog 57 #[.pointer (some ⟨w.heap.size + 1, 0, none⟩)] W' fun e w' => e = .returned (.int .i64 (ofV o)) ∧ Below W'.heap.size W' w') := fun W' hb hq => l8Fault_any o p (w.heap.size + 1) W' (hO.below hb) hq hxs hts
  have HAP : Hid (∀ W', stV v (xs0.map Dx.bx) = 0 → ofV o = 0 → Below w.heap.size w W' → Qo W' (w.heap.size + 1) (opQ o p) → Calls Tryz.prog 58 #[.agg #[.int .i64 v, slW s], .pointer (some ⟨w.heap.size + 1, 0, none⟩)] W' fun e w' => SrEnd (apR v (xs0.map Dx.bx) o) W' e w') := fun W' h0 h1 hb hq =>
    l8Apply_any (w.heap.size + 1) v s xs0 o p W' (hs.below hb (Nat.le_refl _)) hf (stV_good h0) hq ⟨(hO.1.below hb).1, (hO.1.below hb).2.2.2.1⟩ (fun x hx => Nat.lt_of_lt_of_le (hIo x hx) hb.size) (hDt.below hb (Nat.le_refl _)) h1
  have HVF : Hid (stV v (xs0.map Dx.bx) ≠ 0 → aoR v (xs0.map Dx.bx) o = badR (stV v (xs0.map Dx.bx))) := fun h => if_neg h
  have HVO : Hid (stV v (xs0.map Dx.bx) = 0 → ofV o ≠ 0 → aoR v (xs0.map Dx.bx) o = badR (ofV o)) := fun h h1 => (if_pos h).trans (if_neg h1)
  have HVA : Hid (stV v (xs0.map Dx.bx) = 0 → aoR v (xs0.map Dx.bx) o = apR v (xs0.map Dx.bx) o) := fun h => if_pos h
  replace hQ : Qo W (w.heap.size + 1) (opQ o p) := hQ
  generalize aoR v (xs0.map Dx.bx) o = rr at *
  generalize apR v (xs0.map Dx.bx) o = ra at *
  generalize stV v (xs0.map Dx.bx) = c at *
  generalize ofV o = c2 at *
  obtain ⟨ok, ox, ot, ou, om, of, od, ob⟩ := o
  dsimp only [opX] at HAP ⊢
  have HW : Hid (_ = W) := hW
  clear hW
  obtain ⟨a0, a1⟩ := id hA.1
  dsimp only at a0 a1
  go_enter Tryz.func14, Tryz.ntmps14
  go_wp2_with fail
  have hW := HW.out
  skip
  rw [hW]
  refine HSF.mono ?_
  rintro e W1 ⟨rfl, hb1⟩
  have hA1 := hA.below hb1 (by omega)
  have hQ1 := hQ.below hb1 (by omega)
  have hZ1 := hZ.below hb1 (by omega)
  have hbw1 := hbW.trans (hb1.mono hbW.size)
  have hz1 : w.heap.size + 3 ≤ W1.heap.size := by rw [← hzW]; exact hb1.size
  clear HSF hA hQ hZ hbW hb1 HW hW hzW a0 a1
  by_cases hc : c = 0
  · subst hc
    go_wp2_with fail
    refine (HOF.out W1 hbw1 hQ1).mono ?_
    rintro e W2 ⟨rfl, hb2⟩
    have hA2 := hA1.below hb2 (by omega)
    have hQ2 := hQ1.below hb2 (by omega)
    have hZ2 := hZ1.below hb2 (by omega)
    have hbw2 := hbw1.trans (hb2.mono hbw1.size)
    have hz2 : w.heap.size + 3 ≤ W2.heap.size := Nat.le_trans hz1 hb2.size
    clear HOF hA1 hQ1 hZ1 hbw1 hb2 hz1
    by_cases hc2 : c2 = 0
    · subst hc2
      have HV : Hid (rr = ra) := HVA.out (by trivial)
      obtain ⟨a0, a1⟩ := id hA2.1
      dsimp only at a0 a1
      clear HVA HVF HVO
      go_wp2_with fail
      refine (HAP.out W2 (by trivial) (by trivial) hbw2 hQ2).mono ?_
      intro e W3 hE
      clear HAP a0 a1 hA2 hQ2
      rcases hE with ⟨h1, rfl, hb3⟩ | ⟨h1, su, s3, xs3, rfl, hu3, hC3, huo3, hb3⟩
      · obtain ⟨rc, ru, rv, rl⟩ := ra
        dsimp only at h1
        have hZ3 := hZ2.below hb3 (by omega)
        have hbw3 := hbw2.trans (hb3.mono hbw2.size)
        have hR := hZ3.four (.int .i64 rc) (.slice none 0 0) (.int .i64 0) (.slice none 0 0)
        have HB : Hid (_) := below_put (below_put (below_put (below_put hbw3 (w.heap.size + 2) 0 (.int .i64 rc) (by omega)) (w.heap.size + 2) 1 (.slice none 0 0) (by omega)) (w.heap.size + 2) 2 (.int .i64 0) (by omega)) (w.heap.size + 2) 3 (.slice none 0 0) (by omega)
        obtain ⟨z0, z1, z2, z3⟩ := id hZ3.1
        have f0 := hZ3.2 0
        have f1 := hZ3.2 1
        have f2 := hZ3.2 2
        have f3 := hZ3.2 3
        obtain ⟨r0, r1, r2, r3⟩ := id hR.1
        dsimp only at z0 z1 z2 z3 r0 r1 r2 r3
        go_wp2
        refine bodyPost_ret (v := .agg #[.int .i64 rc, .slice none 0 0, .int .i64 0, .slice none 0 0]) (by simp [results, Tryz.results14, go_sem, r0, r1, r2, r3]) rfl ?_
        rw [HV.out]
        exact .inl ⟨h1, rfl, HB.out⟩
      · obtain ⟨rc, ru, rv, rl⟩ := ra
        dsimp only at h1 hu3 hC3
        subst h1
        have hZ3 := hZ2.below hb3 (by omega)
        have hbw3 := hbw2.trans (hb3.mono hbw2.size)
        have hno : w.heap.size + 2 ∉ blkS s3 ++ fpX xs3 := fun hc => by have := hC3.2.2.2 _ hc; omega
        have HC : Hid (_) := (((hC3.far (w.heap.size + 2) 0 (.int .i64 0) hno).far (w.heap.size + 2) 1 (slW su) hno).far (w.heap.size + 2) 2 (.int .i64 rv) hno).far (w.heap.size + 2) 3 (slW s3) hno
        have hnu : ∀ k ∈ blkS su, k ≠ w.heap.size + 2 := fun k hk => by have := (huo3 k hk).1; omega
        have HU : Hid (OwZ 2 ((((W3.setCell ⟨w.heap.size + 2, 0, none⟩ (.int .i64 0)).setCell ⟨w.heap.size + 2, 1, none⟩ (slW su)).setCell ⟨w.heap.size + 2, 2, none⟩ (.int .i64 rv)).setCell ⟨w.heap.size + 2, 3, none⟩ (slW s3)) su ru) := hu3.keep fun k hk => by
          have hne := hnu k hk
          rw [Below.heap_setCell _ _ _ _ hne, Below.heap_setCell _ _ _ _ hne, Below.heap_setCell _ _ _ _ hne, Below.heap_setCell _ _ _ _ hne]
        have hR := hZ3.four (.int .i64 0) (slW su) (.int .i64 rv) (slW s3)
        have HB : Hid (_) := below_put (below_put (below_put (below_put hbw3 (w.heap.size + 2) 0 (.int .i64 0) (by omega)) (w.heap.size + 2) 1 (slW su) (by omega)) (w.heap.size + 2) 2 (.int .i64 rv) (by omega)) (w.heap.size + 2) 3 (slW s3) (by omega)
        obtain ⟨z0, z1, z2, z3⟩ := id hZ3.1
        have f0 := hZ3.2 0
        have f1 := hZ3.2 1
        have f2 := hZ3.2 2
        have f3 := hZ3.2 3
        obtain ⟨r0, r1, r2, r3⟩ := id hR.1
        dsimp only at z0 z1 z2 z3 r0 r1 r2 r3
        go_wp2
        refine bodyPost_ret (v := .agg #[.int .i64 0, slW su, .int .i64 rv, slW s3]) (by simp [results, Tryz.results14, go_sem, r0, r1, r2, r3]) rfl ?_
        rw [HV.out]
        exact .inr ⟨rfl, su, s3, xs3, rfl, HU.out, CX.low HC.out hbw2.size, fun k hk => ⟨Nat.le_trans hbw2.size (huo3 k hk).1, (huo3 k hk).2⟩, HB.out⟩
    · have HV : Hid (rr = badR c2) := HVO.out (by trivial) hc2
      clear HVA HVF HVO HAP hA2 hQ2
      go_wp2_with fail
      refine (l8Bad_any c2 W2).mono ?_
      rintro e Wb ⟨rfl, hbb⟩
      have hZb := hZ2.below hbb hZ2.lt
      have hbwb := hbw2.trans (hbb.mono hbw2.size)
      have hR := hZb.four (.int .i64 c2) (.slice none 0 0) (.int .i64 0) (.slice none 0 0)
      have HB : Hid (_) := below_put (below_put (below_put (below_put hbwb (w.heap.size + 2) 0 (.int .i64 c2) (by omega)) (w.heap.size + 2) 1 (.slice none 0 0) (by omega)) (w.heap.size + 2) 2 (.int .i64 0) (by omega)) (w.heap.size + 2) 3 (.slice none 0 0) (by omega)
      obtain ⟨z0, z1, z2, z3⟩ := id hZb.1
      have f0 := hZb.2 0
      have f1 := hZb.2 1
      have f2 := hZb.2 2
      have f3 := hZb.2 3
      obtain ⟨r0, r1, r2, r3⟩ := id hR.1
      dsimp only at z0 z1 z2 z3 r0 r1 r2 r3
      go_wp2
      refine bodyPost_ret (v := .agg #[.int .i64 c2, .slice none 0 0, .int .i64 0, .slice none 0 0]) (by simp [results, Tryz.results14, go_sem, r0, r1, r2, r3]) rfl ?_
      rw [HV.out]
      exact .inl ⟨hc2, rfl, HB.out⟩
  · have HV : Hid (rr = badR c) := HVF.out hc
    clear HVA HVF HVO HAP HOF hA1 hQ1
    go_wp2_with fail
    refine (l8Bad_any c W1).mono ?_
    rintro e Wb ⟨rfl, hbb⟩
    have hZb := hZ1.below hbb hZ1.lt
    have hbwb := hbw1.trans (hbb.mono hbw1.size)
    have hR := hZb.four (.int .i64 c) (.slice none 0 0) (.int .i64 0) (.slice none 0 0)
    have HB : Hid (_) := below_put (below_put (below_put (below_put hbwb (w.heap.size + 2) 0 (.int .i64 c) (by omega)) (w.heap.size + 2) 1 (.slice none 0 0) (by omega)) (w.heap.size + 2) 2 (.int .i64 0) (by omega)) (w.heap.size + 2) 3 (.slice none 0 0) (by omega)
    obtain ⟨z0, z1, z2, z3⟩ := id hZb.1
    have f0 := hZb.2 0
    have f1 := hZb.2 1
    have f2 := hZb.2 2
    have f3 := hZb.2 3
    obtain ⟨r0, r1, r2, r3⟩ := id hR.1
    dsimp only at z0 z1 z2 z3 r0 r1 r2 r3
    go_wp2
    refine bodyPost_ret (v := .agg #[.int .i64 c, .slice none 0 0, .int .i64 0, .slice none 0 0]) (by simp [results, Tryz.results14, go_sem, r0, r1, r2, r3]) rfl ?_
    rw [HV.out]
    exact .inl ⟨hc, rfl, HB.out⟩
end Go.Proofs.YtejbbnpgghpgaaaGreatDoor
namespace Go.Proofs.YtejbbnpgghpgaaaGreatDoor
open Go.RowKit
set_option maxHeartbeats 1600000 in
set_option maxRecDepth 100000 in
theorem toMessage_ow (m : Msg) (s : SlQ) {lo : Nat} (w : World) (hs : IsSl lo w s m.b) (hn : s.2.1 ≤ 1048576) :
    Calls Tryz.prog 182 #[msX m s] w fun e w' => ∃ s', e = .returned (msX m s') ∧ OwB w' s' m.b ∧ (∀ g ∈ blkS s', w.heap.size ≤ g) ∧ Below w.heap.size w w' := by
  have hbW : Below w.heap.size w (((w.alloc (.cells #[.int .i64 m.u, .int .i64 m.f, .int .i64 m.d, slW s] 199)).alloc (.cells #[.int .i64 0, .int .i64 0, .int .i64 0, .slice none 0 0] 136)).alloc (.cells #[.int .i64 m.u, .int .i64 m.f, .int .i64 m.d, .slice none 0 0] 136)) :=
    (((Below.refl _ _).alloc (Nat.le_refl _) _).alloc (by simp) _).alloc (by simp; omega) _
  have hsz : (((w.alloc (.cells #[.int .i64 m.u, .int .i64 m.f, .int .i64 m.d, slW s] 199)).alloc (.cells #[.int .i64 0, .int .i64 0, .int .i64 0, .slice none 0 0] 136)).alloc (.cells #[.int .i64 m.u, .int .i64 m.f, .int .i64 m.d, .slice none 0 0] 136)).heap.size = w.heap.size + 3 := by simp
  have HC := toByteS_any s.1 s.2.1 s.2.2 m.b _ hs.1 (hs.2.2.2.2.1.below hbW) hn
  go_enter Tryz.func182, Tryz.ntmps182
  go_wp2_with fail
  refine HC.mono ?_
  rintro e w1 ⟨rfl, hr, hb1⟩
  rw [hsz] at hb1 hr ⊢
  obtain ⟨⟨z0, z1, z2, z3, y0, y1, y2, y3⟩, ⟨k0, k1, k2, k3, x0, x1, x2, x3⟩⟩ := qd_blocks rfl hb1
  have hz : w.heap.size + 3 ≤ w1.heap.size := by rw [← hsz]; exact hb1.size
  have hbw : Below w.heap.size w w1 := hbW.trans (hb1.mono (by omega))
  have HS : Hid (OwB w1 (some ⟨w.heap.size + 3, 0, none⟩, s.2.1, s.2.1) m.b) := ⟨row_low (show Own w1 (w.heap.size + 3) (.slice (some ⟨w.heap.size + 3, 0, none⟩) s.2.1 s.2.1) m.b from by unfold Own; rw [hs.1]; exact hr) (Nat.zero_le _), hs.2.2.2.1⟩
  clear HC hb1 hbW hsz hr hs
  have hg1 : w.heap.size + 1 + 1 ≠ w.heap.size + 1 := by omega
  have k3' := World.cell?_setCell_same _ _ (slW (some ⟨w.heap.size + 3, 0, none⟩, s.2.1, s.2.1)) k3
  obtain ⟨q0, q1, q2, q3⟩ := qd_cells (wr := w1.setCell ⟨w.heap.size + 1 + 1, 3, none⟩ (slW (some ⟨w.heap.size + 3, 0, none⟩, s.2.1, s.2.1))) (sz := w.heap.size + 1) ((World.cell?_setCell_other _ _ _ _ (by simp)).trans z0) ((World.cell?_setCell_other _ _ _ _ (by simp)).trans z1) ((World.cell?_setCell_other _ _ _ _ (by simp)).trans z2) ((World.cell?_setCell_other _ _ _ _ (by simp)).trans z3) (.int .i64 m.u) (.int .i64 m.f) (.int .i64 m.d) (slW (some ⟨w.heap.size + 3, 0, none⟩, s.2.1, s.2.1))
  dsimp only [slW] at q0 q1 q2 q3 k3'
  go_wp2
  refine bodyPost_ret (v := .agg #[.int .i64 m.u, .int .i64 m.f, .int .i64 m.d, .slice (some ⟨w.heap.size + 3, 0, none⟩) s.2.1 s.2.1]) (by simp [results, Tryz.results182, go_sem, q0, q1, q2, q3]) rfl ?_
  refine ⟨(some ⟨w.heap.size + 3, 0, none⟩, s.2.1, s.2.1), rfl, HS.out.keep fun g hg => ?_, fun g hg => ?_, ?_⟩
  · obtain rfl : g = w.heap.size + 3 := by simpa [blkS] using hg
    rw [Below.heap_setCell _ _ _ _ (by dsimp only; omega), Below.heap_setCell _ _ _ _ (by dsimp only; omega), Below.heap_setCell _ _ _ _ (by dsimp only; omega), Below.heap_setCell _ _ _ _ (by dsimp only; omega), Below.heap_setCell _ _ _ _ (by dsimp only; omega)]
  · obtain rfl : g = w.heap.size + 3 := by simpa [blkS] using hg
    omega
  · exact ((((hbw.setCell (by simp; omega) _).setCell (by simp) _).setCell (by simp) _).setCell (by simp) _).setCell (by simp) _
end Go.Proofs.YtejbbnpgghpgaaaGreatDoor
namespace Go.Proofs.YtejbbnpgghpgaaaGreatDoor
open Go.RowKit
set_option linter.unusedVariables false
def KM (N : Nat) (w : World) (l : List Msg) (ms : List Dm) : Prop := (∀ d ∈ ms, OwB w d.s d.m.b) ∧ ms.map Dm.m = l ∧ (fpM ms).Nodup ∧ ∀ g ∈ fpM ms, N ≤ g
theorem KM.nil (N : Nat) (w : World) : KM N w [] [] := ⟨fun d hd => by simp at hd, rfl, by simp [fpM], by simp [fpM]⟩
theorem KM.far {N : Nat} {w : World} {l : List Msg} {ms : List Dm} {g : Nat} (h : KM N w l ms) (hg : g < N) (j : Nat) (u : Value) : KM N (w.setCell ⟨g, j, none⟩ u) l ms :=
  ⟨fun d hd => (h.1 d hd).keep fun k hk => Below.heap_setCell _ _ _ _ (by have := h.2.2.2 k (List.mem_flatMap.2 ⟨d, hd, hk⟩); dsimp only; omega), h.2⟩
theorem KM.snoc {N : Nat} {w w' : World} {l : List Msg} {ms : List Dm} {m : Msg} {sd : SlQ} (h : KM N w l ms) (hb : Below w.heap.size w w') (hd : OwB w' sd m.b) (hge : ∀ g ∈ blkS sd, w.heap.size ≤ g) (hN : N ≤ w.heap.size) : KM N w' (l ++ [m]) (ms ++ [⟨m, sd⟩]) := by
  have hlt : ∀ g ∈ fpM ms, g < w.heap.size := fun g hg => by
    obtain ⟨d, hd, hg⟩ := List.mem_flatMap.1 hg
    exact (h.1 d hd).lt g hg
  have e : fpM (ms ++ [⟨m, sd⟩]) = fpM ms ++ blkS sd := by simp [fpM]
  refine ⟨fun d hd' => ?_, by rw [List.map_append, h.2.1]; rfl, ?_, fun g hg => ?_⟩
  · rcases List.mem_append.1 hd' with h' | h'
    · exact (h.1 d h').below hb (Nat.le_refl _)
    · rw [List.mem_singleton] at h'
      subst h'
      exact hd
  · rw [e]
    refine List.nodup_append.2 ⟨h.2.2.1, blkS_nodup _, fun x hx y hy => ?_⟩
    have h1 := hlt x hx
    have h2 := hge y hy
    omega
  · rw [e] at hg
    rcases List.mem_append.1 hg with h' | h'
    · exact h.2.2.2 g h'
    · exact Nat.le_trans hN (hge g h')
set_option maxHeartbeats 1600000 in
set_option maxRecDepth 100000 in
theorem toMessageS_cm (s : SlQ) (l : List Msg) {lo : Nat} (w : World) (hs : IsMs lo w s l) (hf : FtMs l) :
    Calls Tryz.prog 151 #[slW s] w fun e w' => CpM w l e w' := by
  obtain ⟨a, n, cap⟩ := s
  obtain ⟨hl, hnc, hcm, hr⟩ := hs
  obtain ⟨hn, hft⟩ := hf
  dsimp only [slW] at *
  obtain ⟨i0, hi, hz0, hz1, hz2⟩ := info_parts infoMessage
  go_enter Tryz.func151, Tryz.ntmps151
  go_wp2_with (at_make; refine wpList_make_full _ rfl _ _ 126 rfl w.heap.size 136 i0 (.agg #[.int .i64 0, .int .i64 0, .int .i64 0, .slice none 0 0]) 4 Tryz.underlying126 hi hz0 hz1 .i64 .i64 _ _ n rfl rfl rfl rfl (by rw [hz2]; omega) (by unfold maxLen; omega) (Nat.le_refl _) ?_; intro w0 hown0 hgrow0)
  have hown0' : w0.ownsRow w.heap.size 136 4 (.slice (some ⟨w.heap.size, 0, none⟩) n n) n (qc (halfQ zMessage [] n)) := by
    rw [halfQ_zero, ← made_quads]
    exact hown0
  have hbel0 : Below w.heap.size w w0 := (Below.refl _ _).grown hgrow0 (Nat.le_refl _) (by intro k hk; cases hk)
  clear hgrow0 hown0
  go_loopw [4] (fun i wr => ∃ (k : Nat) (ms : List Dm), k ≤ n ∧ i = .int .i64 k ∧ (ms.map Dm.q).length = k ∧ wr.ownsRow w.heap.size 136 4 (.slice (some ⟨w.heap.size, 0, none⟩) n n) n (qc (halfQ zMessage (ms.map Dm.q) n)) ∧ KM (w.heap.size + 1) wr (l.take k) ms ∧ Below w.heap.size w wr)
    (fun i _ => n - (intOf i).toNat)
  case atStart => exact ⟨0, [], Nat.zero_le _, rfl, rfl, hown0', KM.nil _ _, hbel0⟩
  case round =>
    obtain ⟨k, ms, hk, rfl, hqk, hown, hall, hbel⟩ := hrel
    obtain ⟨ql, hql⟩ : ∃ ql, ms.map Dm.q = ql := ⟨_, rfl⟩
    rw [hql] at hqk hown
    have HQL : Hid (_ = _) := hql
    clear hql
    clear hown0' hbel0
    by_cases hkn : k < n
    · obtain ⟨b, off, rfl, -, hblt, hcell⟩ := (hr.below hbel).at_ (by omega)
      obtain ⟨s, ⟨hc0, hc1, hc2, hc3⟩, hI⟩ := hcell k (by omega)
      have hgl : w.heap.size < wr.heap.size := (hown.lt w.heap.size rfl).2
      have HC := toMessage_ow (nthM l k) s wr hI (by rw [← hI.1]; exact hft k (by omega))
      have hki : (k : Int) < (n : Int) := by omega
      have HT : Hid (l.take (k + 1) = l.take k ++ [nthM l k]) := take_snocM l k (by omega)
      have hall0 := hall
      have HFS : Hid (∀ s', qc ((halfQ zMessage ql n).set k (msQ (nthM l k) s')) = qc (halfQ zMessage (ql ++ [msQ (nthM l k) s']) n)) := fun s' => by
        rw [← hqk, halfQ_set zMessage ql n _ (by omega)]
      clear hcell hall hI
      have HAL : Hid (_) := hall0
      clear hall0
      generalize nthM l k = p at *
      obtain ⟨mu, mf, md, mb⟩ := p
      dsimp only at hc0 hc1 hc2
      go_wp2_with fail
      refine HC.mono ?_
      rintro e w1 ⟨s', rfl, hI1, hge1, hb1⟩
      have hown1 := ownQ_below hown hb1 (Nat.le_refl _)
      have hbel1 : Below w.heap.size w w1 := hbel.trans (hb1.mono hbel.size)
      have hhl : (halfQ zMessage ql n).length = n := halfQ_len _ _ _ (by omega)
      obtain ⟨-, g0, g1, g2, g3⟩ := ownQ_cells hown1 k (by omega)
      have z0 := hown1.frozenAt (k * 4)
      have z1 := hown1.frozenAt (k * 4 + 1)
      have z2 := hown1.frozenAt (k * 4 + 2)
      have z3 := hown1.frozenAt (k * 4 + 3)
      obtain ⟨hst, -⟩ := hown1.stored (k * 4) (.int .i64 mu)
      obtain ⟨hst2, -⟩ := hst.stored (k * 4 + 1) (.int .i64 mf)
      obtain ⟨hst3, -⟩ := hst2.stored (k * 4 + 2) (.int .i64 md)
      obtain ⟨hst4, -⟩ := hst3.stored (k * 4 + 3) (slW s')
      rw [qc_set (halfQ zMessage ql n) k (msQ ⟨mu, mf, md, mb⟩ s') (by omega), HFS.out s'] at hst4
      have HX : Hid (KM (w.heap.size + 1) ((((w1.setCell ⟨w.heap.size, k * 4, none⟩ (.int .i64 mu)).setCell ⟨w.heap.size, k * 4 + 1, none⟩ (.int .i64 mf)).setCell ⟨w.heap.size, k * 4 + 2, none⟩ (.int .i64 md)).setCell ⟨w.heap.size, k * 4 + 3, none⟩ (slW s')) (l.take (k + 1)) (ms ++ [⟨⟨mu, mf, md, mb⟩, s'⟩])) := by
        show KM _ _ _ _
        rw [HT.out]
        have hK : KM (w.heap.size + 1) wr (l.take k) ms := HAL.out
        exact ((((hK.snoc (m := ⟨mu, mf, md, mb⟩) hb1 hI1 hge1 hgl).far (by omega) _ _).far (by omega) _ _).far (by omega) _ _).far (by omega) _ _
      have HQ2 : Hid ((ms ++ [(⟨⟨mu, mf, md, mb⟩, s'⟩ : Dm)]).map Dm.q = ql ++ [msQ ⟨mu, mf, md, mb⟩ s']) := by show _ = _; rw [List.map_append, HQL.out]; rfl
      have HB2 : Hid (Below w.heap.size w ((((w1.setCell ⟨w.heap.size, k * 4, none⟩ (.int .i64 mu)).setCell ⟨w.heap.size, k * 4 + 1, none⟩ (.int .i64 mf)).setCell ⟨w.heap.size, k * 4 + 2, none⟩ (.int .i64 md)).setCell ⟨w.heap.size, k * 4 + 3, none⟩ (slW s'))) := (((hbel1.setCell (by simp) _).setCell (by simp) _).setCell (by simp) _).setCell (by simp) _
      have HO2 : Hid (_) := hst4
      generalize (nthQ (halfQ zMessage ql n) k) = y at *
      obtain ⟨y0, y1, y2, y3⟩ := y
      dsimp only at g0 g1 g2 g3
      clear hst hst2 hst3 hst4 hown1 hown hb1 HFS hbel HC hI1 hge1 HT HAL HQL
      go_wp2
      go_roundw
      case rel => exact ⟨k + 1, _, by omega, by go_num, by rw [HQ2.out]; simp [hqk], by rw [HQ2.out]; exact HO2.out, HX.out, HB2.out⟩
      case measure => simp [intOf]; omega
    · have hkk : k = n := by omega
      subst hkk
      have hki : ¬ (k : Int) < (k : Int) := by omega
      have hml : ms.length = k := by rw [← hqk, ← HQL.out, List.length_map]
      have HO : Hid (CM w.heap.size wr (some ⟨w.heap.size, 0, none⟩, k, k) l ms) := by
        have e1 : halfQ zMessage ql k = ms.map Dm.q := by rw [HQL.out, ← hqk]; exact halfQ_all _ _
        rw [e1] at hown
        rw [List.take_of_length_le (by omega)] at hall
        refine ⟨⟨by rw [hml]; exact row_low hown (Nat.zero_le _), hall.1⟩, hall.2.1, ?_, fun g hg => ?_⟩
        · refine List.nodup_append.2 ⟨blkS_nodup _, hall.2.2.1, fun x hx y hy => ?_⟩
          have h1 := hall.2.2.2 y hy
          have h2 : x = w.heap.size := by simpa [blkS] using hx
          omega
        · rcases List.mem_append.1 hg with h | h
          · have h2 : g = w.heap.size := by simpa [blkS] using h
            omega
          · have h1 := hall.2.2.2 g h
            omega
      clear hown hall
      go_wp2
      go_ret
      exact ⟨_, _, rfl, HO.out, hbel⟩
end Go.Proofs.YtejbbnpgghpgaaaGreatDoor
