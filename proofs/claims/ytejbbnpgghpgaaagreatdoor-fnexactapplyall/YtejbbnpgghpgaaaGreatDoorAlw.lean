/- The walk of the law of ApplyAll: it returns true at every store and all ops; no conditions beyond those that each fact names. -/
import Derived.Test.YtejbbnpgghpgaaaGreatDoorAlb
import Derived.Test.YtejbbnpgghpgaaaGreatDoorOswToOsz
import Derived.Test.YtejbbnpgghpgaaaGreatDoorOsy
namespace Go.Proofs.YtejbbnpgghpgaaaGreatDoor
open Go.RowKit
set_option linter.unusedVariables false
def PBs (b : Nat) (v : Int) (q0 : SlQ) (w : World) : Prop := w.cell? ⟨b, 0, none⟩ = some (.int .i64 v) ∧ w.cell? ⟨b, 1, none⟩ = some (slW q0)
theorem PBs.below {b C : Nat} {v : Int} {q0 : SlQ} {w w' : World} (h : PBs b v q0 w) (hb : Below C w w') (hC : b + 1 ≤ C) : PBs b v q0 w' :=
  ⟨(hb.cell (p := ⟨b, 0, none⟩) (show b < C by omega)).trans h.1, (hb.cell (p := ⟨b, 1, none⟩) (show b < C by omega)).trans h.2⟩
def FzB (w : World) (g : Nat) : Prop := g < w.heap.size ∧ ∀ i, w.frozen? ⟨g, i, none⟩ = false
theorem FzB.below {w w' : World} {g : Nat} (h : FzB w g) (hb : Below w.heap.size w w') : FzB w' g := ⟨Nat.lt_of_lt_of_le h.1 hb.size, fun i => (hb.frozen (p := ⟨g, i, none⟩) h.1).trans (h.2 i)⟩
theorem FzB.kx {w w' : World} {g : Nat} {fp : List Nat} (h : FzB w g) (hk : Kx fp w w') (hn : g ∉ fp) : FzB w' g := ⟨Nat.lt_of_lt_of_le h.1 hk.size, fun i => (World.frozen?_of_block (hk.block g h.1 hn)).trans (h.2 i)⟩
theorem MkC.kx {b hi : Nat} {w w' : World} (h : MkC b hi w w') : Kx (List.range' b (hi - b)) w w' := ⟨h.1.os, h.1.tape, h.1.output, h.1.size, fun g hg hn => by
  by_cases h1 : g < b
  · exact h.1.block g h1
  · have h2 : hi ≤ g := Nat.le_of_not_lt fun h2 => hn (by rw [List.mem_range'_1]; omega)
    exact h.2.1 ⟨g, 0, none⟩ h2 hg⟩
theorem WrH.kx {lo hi : Nat} {w w' : World} {s : SlQ} {fp : List Nat} (h : WrH lo hi w s) (hk : Kx fp w w') (hn : ∀ g, lo ≤ g → g < hi → g ∉ fp) : WrH lo hi w' s := by
  rcases h with h | ⟨g, h1, h2, h3, h4, h5⟩
  · exact .inl h
  · have e := hk.block g h4 (hn g h2 h3)
    exact .inr ⟨g, h1, h2, h3, Nat.lt_of_lt_of_le h4 hk.size, fun i hi => ⟨by rw [World.cell?_of_block e]; exact (h5 i hi).1, (World.frozen?_of_block e).trans (h5 i hi).2⟩⟩
theorem OsH.kx {b hi : Nat} {w w' : World} {l : List OpR} {fp : List Nat} (h : OsH (b + 1) hi w b l) (hk : Kx fp w w') (hn : ∀ g, b ≤ g → g < max hi (b + 1) → g ∉ fp) : OsH (b + 1) hi w' b l := fun i hi' => by
  obtain ⟨p, hq, h2, h3, h4⟩ := h i hi'
  have e := hk.block b hq.lt (hn b (Nat.le_refl _) (by omega))
  obtain ⟨c0, c1, c2, c3, c4, c5, c6, c7⟩ := hq
  have kc : ∀ j, w'.cell? ⟨b, j, none⟩ = w.cell? ⟨b, j, none⟩ := fun j => World.cell?_of_block e
  exact ⟨p, ⟨(kc _).trans c0, (kc _).trans c1, (kc _).trans c2, (kc _).trans c3, (kc _).trans c4, (kc _).trans c5, (kc _).trans c6, (kc _).trans c7⟩, h2, h3.kx hk (fun g h1 h2 => hn g (by omega) (by omega)), h4.kx hk (fun g h1 h2 => hn g (by omega) (by omega))⟩
theorem IsOz.low {lo lo' : Nat} {w : World} {s : SlQ} {l : List OpR} (h : IsOz lo w s l) (hl : lo' ≤ lo) : IsOz lo' w s l := by
  refine ⟨h.1, h.2.1, h.2.2.1, ?_⟩
  rcases h.2.2.2 with e | ⟨b, off, e, hlt, hc⟩
  · exact .inl e
  · refine .inr ⟨b, off, e, hlt, fun i hi => ?_⟩
    obtain ⟨p, c, ho, r⟩ := hc i hi
    exact ⟨p, c, ho.low hl, r⟩
theorem alR_bd : ∀ {os : List OpR} {v : Int} {l : List Bx}, StOk v l → BdR (rz (alR v l os))
  | [], v, l, h => by
    refine ⟨Nat.zero_le _, by have := h.2.1; show l.length ≤ 4; omega, fun b hb => ?_⟩
    obtain ⟨h1, h2, h3, h4, h5, -⟩ := bfV_ok.1 (h.2.2.1 b hb).1
    refine ⟨?_, by omega, fun m hm => (mfV_ok.1 (h5 m hm).1).2.2.2⟩
    unfold bnOk at h1
    rw [Bool.and_eq_true] at h1
    have := of_decide_eq_true h1.2
    rw [txB_len] at this
    omega
  | o :: os, v, l, h => by
    unfold alR
    split
    · exact alR_bd (apR_ok h (by assumption))
    · exact rz_bd (.bad _)
theorem aaR_bd (v : Int) (l : List Bx) (os : List OpR) : BdR (rz (aaR v l os)) := by
  unfold aaR
  split
  · exact rz_bd (.bad _)
  · split
    · exact alR_bd (stV_ok.1 (by assumption))
    · exact rz_bd (.bad _)
set_option maxHeartbeats 12800000 in
set_option maxRecDepth 100000 in
theorem walkApplyAll (v : Int) (q0 : SlQ) (l0 : List Bx) (so : SlQ) (ol : List OpR) (w : World) (hsW : IsXs 0 w q0 l0) (hok : ∀ i, i < l0.length → (nthX l0 i).n.size ≤ maxLen) (hOW : IsOs 0 w so ol) (hoo : ∀ i, i < ol.length → OkO (nthO ol i)) (hTW : TabH8 w) :
    Calls Tryz.prog 4 #[.agg #[.int .i64 v, slW q0], slW so] w fun e w' => e = .returned (.bool true) ∧ Below w.heap.size w w' := by
  have HSP : Hid (∀ (s : SlQ) (xs : List Dx) (b lo : Nat) (w' : World), HX w' s xs → xs.map Dx.bx = l0 → FtXs l0 → IsOz lo w' (some ⟨b, 0, none⟩, so.2.1, so.2.1) ol → Calls Tryz.prog 26 #[.agg #[.int .i64 v, slW s], .slice (some ⟨b, 0, none⟩) so.2.1 so.2.1] w' fun e w'' => SrEnd (aaR v l0 ol) w' e w'') := fun s xs b lo w' hx he hf hop => by
    have := specApplyAll_any v s xs (some ⟨b, 0, none⟩) so.2.1 so.2.1 ol w' hx (few_ft he hf).2 (by rw [he]; exact hf) hop
    rwa [he] at this
  have HIM : Hid (∀ (s : SlQ) (xs : List Dx) (b lo : Nat) (w' : World), HX w' s xs → xs.map Dx.bx = l0 → FtXs l0 → IsOz lo w' (some ⟨b, 0, none⟩, so.2.1, so.2.1) ol → TabH8 w' → Calls Tryz.prog 28 #[.agg #[.int .i64 v, slW s], .slice (some ⟨b, 0, none⟩) so.2.1 so.2.1] w' fun e w'' => SrEnd (aaR v l0 ol) w' e w'') := fun s xs b lo w' hx he hf hop ht => by
    have hxs := hx.xs (lo := 0) (fun _ _ => Nat.zero_le _)
    rw [he] at hxs
    exact applyAll_any v s l0 (some ⟨b, 0, none⟩) so.2.1 so.2.1 ol w' hxs hf (hop.low (Nat.zero_le _)) ht
  have HBD : Hid (FtXs l0 → BdR (rz (aaR v l0 ol))) := fun _ => aaR_bd v l0 ol
  have HEND : Hid (∀ (w' : World) (e : Ending) (w'' : World), SrEnd (aaR v l0 ol) w' e w'' → ∃ su s xs, e = .returned (.agg #[.int .i64 (rz (aaR v l0 ol)).1, slW su, .int .i64 (rz (aaR v l0 ol)).2.2.1, slW s]) ∧ SrK w'.heap.size (rz (aaR v l0 ol)) w'' su s xs ∧ Below w'.heap.size w' w'') := fun w' e w'' h => h.get
  obtain ⟨SE, hSE⟩ : ∃ SE : World → Ending → World → Prop, SE = SrEnd (aaR v l0 ol) := ⟨_, rfl⟩
  rw [← hSE] at HSP HIM HEND
  generalize rz (aaR v l0 ol) = rr at *
  clear hSE
  obtain ⟨w0, hw0⟩ : ∃ W, w.alloc (.cells #[.int .i64 v, slW q0] 24) = W := ⟨_, rfl⟩
  have hB0 : Below w.heap.size w w0 := by rw [← hw0]; exact (Below.refl _ _).alloc (Nat.le_refl _) _
  have hz0 : w.heap.size + 1 ≤ w0.heap.size := by rw [← hw0]; simp
  have hP0 : PBs w.heap.size v q0 w0 := by rw [← hw0]; exact ⟨by simp, by simp⟩
  have hs0 := hsW.below hB0
  have hO0 := hOW.below hB0
  have hT0 := hTW.below hB0
  go_enter Tryz.func4, Tryz.ntmps4
  obtain ⟨x0, x1⟩ := hP0
  have HPP : Hid (PBs w.heap.size v q0 w0) := ⟨x0, x1⟩
  go_wp2_with fail
  have hP0 := HPP.out
  clear HPP x0 x1
  refine (szStore_w v q0 l0 1048576 w0 (by omega) (by omega) hs0 hok).mono ?_
  rintro e w1 ⟨r, rfl, hcase, hb1⟩
  have hB1 := hB0.trans (hb1.mono hB0.size)
  have hs1 := hs0.below hb1
  have hO1 := hO0.below hb1
  have hT1 := hT0.below hb1
  have hP1 := hP0.below hb1 hz0
  have hz1 : w.heap.size + 1 ≤ w1.heap.size := Nat.le_trans hz0 hb1.size
  clear hs0 hO0 hT0 hP0 hB0
  rcases hcase with rfl | ⟨r0, r1, hfx⟩
  · obtain ⟨x0, x1⟩ := hP1
    clear HSP HIM HEND HBD
    go_wp2
    go_ret
    exact ⟨rfl, hB1⟩
  have hneg : ¬ r < 0 := by omega
  obtain ⟨x0, x1⟩ := hP1
  have HPP : Hid (PBs w.heap.size v q0 w1) := ⟨x0, x1⟩
  go_wp2_with fail
  have hP1 := HPP.out
  clear HPP x0 x1
  refine (szOpS_ft so ol r w1 (by omega) (by omega) hO1 hoo).mono ?_
  rintro e w2 ⟨r2, rfl, hcase, hb2⟩
  have hB2 := hB1.trans (hb2.mono hB1.size)
  have hs2 := hs1.below hb2
  have hO2 := hO1.below hb2
  have hT2 := hT1.below hb2
  have hP2 := hP1.below hb2 hz1
  have hz2 : w.heap.size + 1 ≤ w2.heap.size := Nat.le_trans hz1 hb2.size
  clear hs1 hO1 hT1 hP1 hB1
  rcases hcase with rfl | ⟨r20, -, hfo⟩
  · obtain ⟨x0, x1⟩ := hP2
    clear HSP HIM HEND HBD
    go_wp2
    go_ret
    exact ⟨rfl, hB2⟩
  have hneg2 : ¬ r2 < 0 := by omega
  have hn1 : so.2.1 ≤ 1048576 := by rw [← hO2.1]; exact hfo.1
  have hbd := HBD.out hfx
  clear hok hoo hb1 hb2 HBD
  obtain ⟨x0, x1⟩ := hP2
  have HPP : Hid (PBs w.heap.size v q0 w2) := ⟨x0, x1⟩
  go_wp2_with fail
  have hP2 := HPP.out
  clear HPP x0 x1
  refine (toStore_cx v q0 l0 w2 hs2 hfx).mono ?_
  rintro e w3 ⟨sA, xsA, rfl, cA3, hb3⟩
  have hB3 := hB2.trans (hb3.mono hB2.size)
  have hs3 := hs2.below hb3
  have hO3 := hO2.below hb3
  have hT3 := hT2.below hb3
  have hP3 := hP2.below hb3 hz2
  have hz3 : w.heap.size + 1 ≤ w3.heap.size := Nat.le_trans hz2 hb3.size
  clear hs2 hO2 hT2 hP2 hB2
  clear hb3
  go_wp2_with fail
  refine (toOpS_wz so ol w3 hO3 hfo).mono ?_
  rintro e w4 ⟨rfl, oA4, -, -, hb4⟩
  have hB4 := hB3.trans (hb4.mono hB3.size)
  have hs4 := hs3.below hb4
  have hO4 := hO3.below hb4
  have hT4 := hT3.below hb4
  have hP4 := hP3.below hb4 hz3
  have hz4 : w.heap.size + 1 ≤ w4.heap.size := Nat.le_trans hz3 hb4.size
  have cA4 := cA3.below hb4 (Nat.le_refl _)
  clear hs3 hO3 hT3 hP3 hB3 cA3
  clear hb4
  have iA4 := oA4.oz hO4.1 hn1 hfo
  clear oA4
  go_wp2_with fail
  refine (HSP.out sA xsA _ _ w4 cA4.1 cA4.2.1 hfx iA4).mono ?_
  rintro e w5 hse
  obtain ⟨su0, s0, xs0, rfl, k05, hb5⟩ := HEND.out _ _ _ hse
  have hB5 := hB4.trans (hb5.mono hB4.size)
  have hs5 := hs4.below hb5
  have hO5 := hO4.below hb5
  have hT5 := hT4.below hb5
  have hP5 := hP4.below hb5 hz4
  have hz5 : w.heap.size + 1 ≤ w5.heap.size := Nat.le_trans hz4 hb5.size
  clear hs4 hO4 hT4 hP4 hB4
  clear cA4 iA4 hse HSP
  have hzz4 : w.heap.size + 1 ≤ w4.heap.size := hz4
  have hz45 : w4.heap.size ≤ w5.heap.size := hb5.size
  have l05 : ∀ g ∈ blkS su0 ++ (blkS s0 ++ fpX xs0), w4.heap.size ≤ g ∧ g < w5.heap.size := k05.fp
  clear hb5
  obtain ⟨w6, he6⟩ : ∃ W, w5.alloc (.cells #[.int .i64 rr.1, slW su0, .int .i64 rr.2.2.1, slW s0] 35) = W := ⟨_, rfl⟩
  have hb6 : Below w5.heap.size w5 w6 := by rw [← he6]; exact (Below.refl _ _).alloc (Nat.le_refl _) _
  obtain ⟨g0, hg0⟩ : ∃ g, w5.heap.size = g := ⟨_, rfl⟩
  have qA6 : Qc w6 g0 (.int .i64 rr.1, slW su0, .int .i64 rr.2.2.1, slW s0) := by rw [← he6, ← hg0]; exact Qc.new _ _ _ _ _ _
  have hB6 := hB5.trans (hb6.mono hB5.size)
  have hs6 := hs5.below hb6
  have hO6 := hO5.below hb6
  have hT6 := hT5.below hb6
  have hP6 := hP5.below hb6 hz5
  have hz6 : w.heap.size + 1 ≤ w6.heap.size := Nat.le_trans hz5 hb6.size
  have k06 := k05.below hb6 (Nat.le_refl _)
  clear hs5 hO5 hT5 hP5 hB5 k05
  have hs6z : Hid (w6.heap.size = g0 + 1) := by show _ = _; rw [← he6, ← hg0]; simp
  clear hb6
  obtain ⟨x0, x1⟩ := hP6
  have HPP : Hid (PBs w.heap.size v q0 w6) := ⟨x0, x1⟩
  go_wp2_with fail
  have hP6 := HPP.out
  clear HPP x0 x1
  have Hg0 : Hid (w5.heap.size = g0) := hg0
  clear hg0 he6
  refine (toStore_cx v q0 l0 w6 hs6 hfx).mono ?_
  rintro e w7 ⟨sB, xsB, rfl, cB7, hb7⟩
  have hB7 := hB6.trans (hb7.mono hB6.size)
  have hs7 := hs6.below hb7
  have hO7 := hO6.below hb7
  have hT7 := hT6.below hb7
  have hP7 := hP6.below hb7 hz6
  have hz7 : w.heap.size + 1 ≤ w7.heap.size := Nat.le_trans hz6 hb7.size
  have k07 := k06.below hb7 (Nat.le_refl _)
  have qA7 := qA6.below hb7 qA6.lt
  clear hs6 hO6 hT6 hP6 hB6 k06 qA6
  have lB7 : ∀ g ∈ blkS sB ++ fpX xsB, w6.heap.size ≤ g ∧ g < w7.heap.size := fun g hg => ⟨cB7.2.2.2 g hg, cB7.1.lt g hg⟩
  have hz67 : w6.heap.size ≤ w7.heap.size := hb7.size
  clear hb7
  obtain ⟨w8, he8⟩ : ∃ W, w7.alloc (.cells #[.int .i64 v, slW sB] 33) = W := ⟨_, rfl⟩
  have hb8 : Below w7.heap.size w7 w8 := by rw [← he8]; exact (Below.refl _ _).alloc (Nat.le_refl _) _
  obtain ⟨gX, hgX⟩ : ∃ g, w7.heap.size = g := ⟨_, rfl⟩
  have qX8 : Dc w8 gX (.int .i64 v, slW sB) := by rw [← he8, ← hgX]; exact Dc.new _ _ _ _
  have hB8 := hB7.trans (hb8.mono hB7.size)
  have hs8 := hs7.below hb8
  have hO8 := hO7.below hb8
  have hT8 := hT7.below hb8
  have hP8 := hP7.below hb8 hz7
  have hz8 : w.heap.size + 1 ≤ w8.heap.size := Nat.le_trans hz7 hb8.size
  have k08 := k07.below hb8 (Nat.le_refl _)
  have qA8 := qA7.below hb8 qA7.lt
  have cB8 := cB7.below hb8 (Nat.le_refl _)
  clear hs7 hO7 hT7 hP7 hB7 k07 qA7 cB7
  have hz78 : Hid (w8.heap.size = gX + 1) := by show _ = _; rw [← he8, ← hgX]; simp
  clear hb8
  obtain ⟨x0, x1⟩ := hP8
  have HPP : Hid (PBs w.heap.size v q0 w8) := ⟨x0, x1⟩
  go_wp2_with fail
  have hP8 := HPP.out
  clear HPP x0 x1
  have HgX : Hid (w7.heap.size = gX) := hgX
  clear hgX he8
  refine (toOpS_wz so ol w8 hO8 hfo).mono ?_
  rintro e w9 ⟨rfl, oB9, fB9, sB9, hb9⟩
  have hB9 := hB8.trans (hb9.mono hB8.size)
  have hs9 := hs8.below hb9
  have hO9 := hO8.below hb9
  have hT9 := hT8.below hb9
  have hP9 := hP8.below hb9 hz8
  have hz9 : w.heap.size + 1 ≤ w9.heap.size := Nat.le_trans hz8 hb9.size
  have k09 := k08.below hb9 (Nat.le_refl _)
  have qA9 := qA8.below hb9 qA8.lt
  have cB9 := cB8.below hb9 (Nat.le_refl _)
  have qX9 := qX8.below hb9 qX8.lt
  clear hs8 hO8 hT8 hP8 hB8 k08 qA8 cB8 qX8
  have hz89 : w8.heap.size ≤ w9.heap.size := hb9.size
  clear hb9
  obtain ⟨gO, hgO⟩ : ∃ g, w8.heap.size = g := ⟨_, rfl⟩
  rw [hgO] at oB9 fB9 sB9
  have iB9 := oB9.oz hO9.1 hn1 hfo
  have oh9 : OsH (gO + 1) w9.heap.size w9 gO ol := oB9.w.hi
  have os9 : IsOs gO w9 (some ⟨gO, 0, none⟩, so.2.1, so.2.1) ol := oB9.w.os hO9.1 hn1 (by omega)
  have fz9 : FzB w9 gO := ⟨sB9.1, fB9⟩
  clear oB9 fB9
  rw [hgO]
  have HOqX : Hid (Dc w9 gX (.int .i64 v, slW sB)) := qX9
  obtain ⟨qXc0, qXc1⟩ := qX9
  dsimp only at qXc0 qXc1
  obtain ⟨x0, x1⟩ := hP9
  have HPP : Hid (PBs w.heap.size v q0 w9) := ⟨x0, x1⟩
  go_wp2_with fail
  have hP9 := HPP.out
  clear HPP x0 x1
  have qX9 := HOqX.out
  clear HOqX qXc0 qXc1
  refine (HIM.out sB xsB _ _ w9 cB9.1 cB9.2.1 hfx iB9 hT9).mono ?_
  rintro e w10 hse
  obtain ⟨su1, s1, xs1, rfl, k110, hb10⟩ := HEND.out _ _ _ hse
  have hB10 := hB9.trans (hb10.mono hB9.size)
  have hs10 := hs9.below hb10
  have hO10 := hO9.below hb10
  have hT10 := hT9.below hb10
  have hP10 := hP9.below hb10 hz9
  have hz10 : w.heap.size + 1 ≤ w10.heap.size := Nat.le_trans hz9 hb10.size
  have k010 := k09.below hb10 (Nat.le_refl _)
  have qA10 := qA9.below hb10 qA9.lt
  have cB10 := cB9.below hb10 (Nat.le_refl _)
  have qX10 := qX9.below hb10 qX9.lt
  have oh10 := oh9.below hb10
  have os10 := os9.below hb10
  have fz10 := fz9.below hb10
  clear hs9 hO9 hT9 hP9 hB9 k09 qA9 cB9 qX9 oh9 os9 fz9
  have l110 : ∀ g ∈ blkS su1 ++ (blkS s1 ++ fpX xs1), w9.heap.size ≤ g ∧ g < w10.heap.size := k110.fp
  have hz910 : w9.heap.size ≤ w10.heap.size := hb10.size
  clear hb10 hse iB9
  obtain ⟨w11, he11⟩ : ∃ W, w10.alloc (.cells #[.int .i64 rr.1, slW su1, .int .i64 rr.2.2.1, slW s1] 35) = W := ⟨_, rfl⟩
  have hb11 : Below w10.heap.size w10 w11 := by rw [← he11]; exact (Below.refl _ _).alloc (Nat.le_refl _) _
  obtain ⟨gG, hgG⟩ : ∃ g, w10.heap.size = g := ⟨_, rfl⟩
  have qG11 : Qc w11 gG (.int .i64 rr.1, slW su1, .int .i64 rr.2.2.1, slW s1) := by rw [← he11, ← hgG]; exact Qc.new _ _ _ _ _ _
  have hB11 := hB10.trans (hb11.mono hB10.size)
  have hs11 := hs10.below hb11
  have hO11 := hO10.below hb11
  have hT11 := hT10.below hb11
  have hP11 := hP10.below hb11 hz10
  have hz11 : w.heap.size + 1 ≤ w11.heap.size := Nat.le_trans hz10 hb11.size
  have k011 := k010.below hb11 (Nat.le_refl _)
  have qA11 := qA10.below hb11 qA10.lt
  have cB11 := cB10.below hb11 (Nat.le_refl _)
  have qX11 := qX10.below hb11 qX10.lt
  have oh11 := oh10.below hb11
  have os11 := os10.below hb11
  have fz11 := fz10.below hb11
  have k111 := k110.below hb11 (Nat.le_refl _)
  clear hs10 hO10 hT10 hP10 hB10 k010 qA10 cB10 qX10 oh10 os10 fz10 k110
  clear hb11
  have HOqG : Hid (Qc w11 gG (.int .i64 rr.1, slW su1, .int .i64 rr.2.2.1, slW s1)) := qG11
  obtain ⟨qGc0, qGc1, qGc2, qGc3⟩ := qG11
  dsimp only at qGc0 qGc1 qGc2 qGc3
  have HOqA : Hid (Qc w11 g0 (.int .i64 rr.1, slW su0, .int .i64 rr.2.2.1, slW s0)) := qA11
  obtain ⟨qAc0, qAc1, qAc2, qAc3⟩ := qA11
  dsimp only at qAc0 qAc1 qAc2 qAc3
  obtain ⟨x0, x1⟩ := hP11
  have HPP : Hid (PBs w.heap.size v q0 w11) := ⟨x0, x1⟩
  go_wp2_with fail
  have hP11 := HPP.out
  clear HPP x0 x1
  have qG11 := HOqG.out
  clear HOqG qGc0 qGc1 qGc2 qGc3
  have qA11 := HOqA.out
  clear HOqA qAc0 qAc1 qAc2 qAc3
  have HgG : Hid (w10.heap.size = gG) := hgG
  clear hgG he11
  refine (k111.eq k011 hbd).mono ?_
  rintro e w12 ⟨rfl, hb12⟩
  have hB12 := hB11.trans (hb12.mono hB11.size)
  have hs12 := hs11.below hb12
  have hO12 := hO11.below hb12
  have hT12 := hT11.below hb12
  have hP12 := hP11.below hb12 hz11
  have hz12 : w.heap.size + 1 ≤ w12.heap.size := Nat.le_trans hz11 hb12.size
  have k012 := k011.below hb12 (Nat.le_refl _)
  have qA12 := qA11.below hb12 qA11.lt
  have cB12 := cB11.below hb12 (Nat.le_refl _)
  have qX12 := qX11.below hb12 qX11.lt
  have oh12 := oh11.below hb12
  have os12 := os11.below hb12
  have fz12 := fz11.below hb12
  have k112 := k111.below hb12 (Nat.le_refl _)
  have qG12 := qG11.below hb12 qG11.lt
  clear hs11 hO11 hT11 hP11 hB11 k011 qA11 cB11 qX11 oh11 os11 fz11 k111 qG11
  clear hb12
  have hSS : PBs w.heap.size v q0 w12 ∧ Dc w12 gX (.int .i64 v, slW sB) := ⟨hP12, qX12⟩
  go_wp2_with fail
  refine wp_region_held_drew (S := fun w' => PBs w.heap.size v q0 w' ∧ Dc w' gX (.int .i64 v, slW sB)) (by kernel_rfl) ?hS1 (fun hHeld => ?_)
  case hS1 => exact hSS
  refine wpAnyH_take (i := 0) (v := ?_) rfl (by kernel_rfl) (by kernel_rfl) (by kernel_rfl) (fun _ _ _ h => h) (Or.inl ⟨by kernel_rfl, ?hy2⟩) (by assumption) ?ty2
  case hy2 => (intro w5 hSw; (try dsimp only at hSw); obtain ⟨⟨s0, s1⟩, u0, u1⟩ := hSw; dsimp only at u0 u1; go_simp; all_goals with_reducible rfl)
  simp only [Act.put, List.getElem_toArray, List.getElem_cons_zero, List.setIfInBounds_toArray, List.set_cons_zero, List.set_cons_succ]
  refine wpAnyH_take (i := 1) (v := ?_) rfl (by kernel_rfl) (by kernel_rfl) (by kernel_rfl) (fun _ _ _ h => h) (Or.inl ⟨by kernel_rfl, ?hy3⟩) (by assumption) ?ty3
  case hy3 => (intro w5 hSw; (try dsimp only at hSw); obtain ⟨⟨s0, s1⟩, u0, u1⟩ := hSw; dsimp only at u0 u1; go_simp; all_goals with_reducible rfl)
  simp only [Act.put, List.getElem_toArray, List.getElem_cons_zero, List.getElem_cons_succ, List.setIfInBounds_toArray, List.set_cons_zero, List.set_cons_succ]
  clear hSS
  have hd12 : Below w12.heap.size w12 w12.drew := (Below.refl _ _).drew
  generalize hw12 : w12.drew = w13 at *
  have hb13 := hd12
  clear hd12 hw12
  have hB13 := hB12.trans (hb13.mono hB12.size)
  have hs13 := hs12.below hb13
  have hO13 := hO12.below hb13
  have hT13 := hT12.below hb13
  have hP13 := hP12.below hb13 hz12
  have hz13 : w.heap.size + 1 ≤ w13.heap.size := Nat.le_trans hz12 hb13.size
  have k013 := k012.below hb13 (Nat.le_refl _)
  have qA13 := qA12.below hb13 qA12.lt
  have cB13 := cB12.below hb13 (Nat.le_refl _)
  have qX13 := qX12.below hb13 qX12.lt
  have oh13 := oh12.below hb13
  have os13 := os12.below hb13
  have fz13 := fz12.below hb13
  have k113 := k112.below hb13 (Nat.le_refl _)
  have qG13 := qG12.below hb13 qG12.lt
  clear hs12 hO12 hT12 hP12 hB12 k012 qA12 cB12 qX12 oh12 os12 fz12 k112 qG12
  clear hb13
  refine wpAnyH_ready (rs := [2]) (by kernel_rfl) (by simp) ?_
  refine AllReadyH.cons rfl (fun K hK => ?_) AllReadyH.nil
  go_simp
  refine (toStore_cx v q0 l0 w13 hs13 hfx).mono ?_
  rintro e w14 ⟨sC, xsC, rfl, cC14, hb14⟩
  have hB14 := hB13.trans (hb14.mono hB13.size)
  have hs14 := hs13.below hb14
  have hO14 := hO13.below hb14
  have hT14 := hT13.below hb14
  have hP14 := hP13.below hb14 hz13
  have hz14 : w.heap.size + 1 ≤ w14.heap.size := Nat.le_trans hz13 hb14.size
  have k014 := k013.below hb14 (Nat.le_refl _)
  have qA14 := qA13.below hb14 qA13.lt
  have cB14 := cB13.below hb14 (Nat.le_refl _)
  have qX14 := qX13.below hb14 qX13.lt
  have oh14 := oh13.below hb14
  have os14 := os13.below hb14
  have fz14 := fz13.below hb14
  have k114 := k113.below hb14 (Nat.le_refl _)
  have qG14 := qG13.below hb14 qG13.lt
  clear hs13 hO13 hT13 hP13 hB13 k013 qA13 cB13 qX13 oh13 os13 fz13 k113 qG13
  clear hb14
  refine hK.out _ _ ⟨hP14, qX14⟩ (fun hHeld => ?_)
  clear hK K
  refine wpAnyH_ready (rs := [3]) (by kernel_rfl) (by simp) ?_
  refine AllReadyH.cons rfl (fun K hK => ?_) AllReadyH.nil
  go_simp
  refine (eqStore_ft v sB sC l0 w14 cB14.isx cC14.isx hfx).mono ?_
  rintro e w15 ⟨rfl, hb15⟩
  have hB15 := hB14.trans (hb15.mono hB14.size)
  have hs15 := hs14.below hb15
  have hO15 := hO14.below hb15
  have hT15 := hT14.below hb15
  have hP15 := hP14.below hb15 hz14
  have hz15 : w.heap.size + 1 ≤ w15.heap.size := Nat.le_trans hz14 hb15.size
  have k015 := k014.below hb15 (Nat.le_refl _)
  have qA15 := qA14.below hb15 qA14.lt
  have cB15 := cB14.below hb15 (Nat.le_refl _)
  have qX15 := qX14.below hb15 qX14.lt
  have oh15 := oh14.below hb15
  have os15 := os14.below hb15
  have fz15 := fz14.below hb15
  have k115 := k114.below hb15 (Nat.le_refl _)
  have qG15 := qG14.below hb15 qG14.lt
  clear hs14 hO14 hT14 hP14 hB14 k014 qA14 cB14 qX14 oh14 os14 fz14 k114 qG14
  clear hb15 cC14
  refine hK.out _ _ ⟨hP15, qX15⟩ (fun hHeld => ?_)
  clear hK K
  refine wpAnyH_take (i := 4) (v := ?_) rfl (by kernel_rfl) (by kernel_rfl) (by kernel_rfl) (fun _ _ _ h => h) (Or.inl ⟨by kernel_rfl, ?hy4⟩) (by assumption) ?ty4
  case hy4 => (intro w5 hSw; (try dsimp only at hSw); obtain ⟨⟨s0, s1⟩, u0, u1⟩ := hSw; dsimp only at u0 u1; go_simp; all_goals with_reducible rfl)
  simp only [Act.put, List.getElem_toArray, List.getElem_cons_zero, List.getElem_cons_succ, List.setIfInBounds_toArray, List.set_cons_zero, List.set_cons_succ]
  refine wpAnyH_done (by kernel_rfl) ?_ _
  clear hHeld
  go_wp2_with fail
  refine (toOpS_ft so ol w15 hO15 hfo).mono ?_
  rintro e w16 ⟨sD, rfl, oD16, hb16⟩
  have hB16 := hB15.trans (hb16.mono hB15.size)
  have hs16 := hs15.below hb16
  have hO16 := hO15.below hb16
  have hT16 := hT15.below hb16
  have hP16 := hP15.below hb16 hz15
  have hz16 : w.heap.size + 1 ≤ w16.heap.size := Nat.le_trans hz15 hb16.size
  have k016 := k015.below hb16 (Nat.le_refl _)
  have qA16 := qA15.below hb16 qA15.lt
  have cB16 := cB15.below hb16 (Nat.le_refl _)
  have qX16 := qX15.below hb16 qX15.lt
  have oh16 := oh15.below hb16
  have os16 := os15.below hb16
  have fz16 := fz15.below hb16
  have k116 := k115.below hb16 (Nat.le_refl _)
  have qG16 := qG15.below hb16 qG15.lt
  clear hs15 hO15 hT15 hP15 hB15 k015 qA15 cB15 qX15 oh15 os15 fz15 k115 qG15
  clear hb16
  go_wp2_with fail
  refine (eqOpS_ft (some ⟨gO, 0, none⟩, so.2.1, so.2.1) sD ol w16 os16 oD16 hfo).mono ?_
  rintro e w17 ⟨rfl, hb17⟩
  have hB17 := hB16.trans (hb17.mono hB16.size)
  have hs17 := hs16.below hb17
  have hO17 := hO16.below hb17
  have hT17 := hT16.below hb17
  have hP17 := hP16.below hb17 hz16
  have hz17 : w.heap.size + 1 ≤ w17.heap.size := Nat.le_trans hz16 hb17.size
  have k017 := k016.below hb17 (Nat.le_refl _)
  have qA17 := qA16.below hb17 qA16.lt
  have cB17 := cB16.below hb17 (Nat.le_refl _)
  have qX17 := qX16.below hb17 qX16.lt
  have oh17 := oh16.below hb17
  have fz17 := fz16.below hb17
  have k117 := k116.below hb17 (Nat.le_refl _)
  have qG17 := qG16.below hb17 qG16.lt
  clear hs16 hO16 hT16 hP16 hB16 k016 qA16 cB16 qX16 oh16 fz16 k116 qG16
  clear hb17 oD16 os16
  have hgs : Hid (w5.heap.size = g0 ∧ w6.heap.size = g0 + 1 ∧ w7.heap.size = gX ∧ w8.heap.size = gX + 1 ∧ w8.heap.size = gO ∧ w10.heap.size = gG ∧ w6.heap.size ≤ w7.heap.size ∧ w8.heap.size ≤ w9.heap.size ∧ w9.heap.size ≤ w10.heap.size ∧ w.heap.size + 1 ≤ w4.heap.size ∧ w4.heap.size ≤ w5.heap.size ∧ gO < w9.heap.size) := ⟨Hg0.out, hs6z.out, HgX.out, hz78.out, hgO, HgG.out, hz67, hz89, hz910, hzz4, hz45, sB9.1⟩
  have hmk : 1 + mkKx xsB ≤ 4194304 := by have h1 := mkKx_wt xsB; rw [cB17.2.1] at h1; omega
  have HOqX : Hid (Dc w17 gX (.int .i64 v, slW sB)) := qX17
  obtain ⟨qXc0, qXc1⟩ := qX17
  dsimp only at qXc0 qXc1
  obtain ⟨x0, x1⟩ := hP17
  have HPP : Hid (PBs w.heap.size v q0 w17) := ⟨x0, x1⟩
  go_wp2_with fail
  have hP17 := HPP.out
  clear HPP x0 x1
  have qX17 := HOqX.out
  clear HOqX qXc0 qXc1
  refine (markStore_ow v sB xsB 1 w17 cB17.1 cB17.2.2.1 (Nat.le_refl _) hmk (few_ft cB17.2.1 hfx).1).mono ?_
  rintro e w18 ⟨rfl, -, hk18⟩
  have hq18 : Below (w.heap.size + 1) w17 w18 := hk18.belowN hz17 fun g hg => by have := lB7 g hg; have h3 := hgs.out; omega
  have hB18 := hB17.trans (hq18.mono (by omega : w.heap.size ≤ w.heap.size + 1))
  have hz18 : w.heap.size + 1 ≤ w18.heap.size := Nat.le_trans hz17 hq18.size
  have hs18 := hsW.below hB18
  have hO18 := hOW.below hB18
  have hT18 : TabH8 w18 := hTW.below hB18
  have hP18 := hP17.below hq18 (Nat.le_refl _)
  have k018 := k017.keepK hk18 (fun g hg hc => by have h1 := l05 g hg; have h2 := lB7 g hc; have h3 := hgs.out; omega)
  have qA18 := qA17.kx hk18 (fun hc => by have h2 := lB7 _ hc; have h3 := hgs.out; omega)
  have qX18 := qX17.kx hk18 (fun hc => by have h2 := lB7 _ hc; have h3 := hgs.out; omega)
  have oh18 := oh17.kx hk18 (fun g h1 h1x hc => by have h2 := lB7 _ hc; have h3 := hgs.out; omega)
  have fz18 := fz17.kx hk18 (fun hc => by have h2 := lB7 _ hc; have h3 := hgs.out; omega)
  have k118 := k117.keepK hk18 (fun g hg hc => by have h1 := l110 g hg; have h2 := lB7 g hc; have h3 := hgs.out; omega)
  have qG18 := qG17.kx hk18 (fun hc => by have h2 := lB7 _ hc; have h3 := hgs.out; omega)
  clear hs17 hO17 hT17 hP17 hB17 k017 qA17 qX17 oh17 fz17 k117 qG17 hk18 hq18
  clear cB17
  obtain ⟨kk, hkk⟩ : ∃ kk, 1 + mkKx xsB = kk := ⟨_, rfl⟩
  rw [hkk]
  go_wp2_with fail
  refine (markOpS_mb gO so.2.1 w9.heap.size ol w18 hO18.1 oh18 fz18.2 sB9.2 sB9.1 (by have h1 := qG18.lt; have h3 := hgs.out; omega) hn1 (fun i hi => ⟨(hfo.2 i (by rw [hO18.1]; exact hi)).2.2.1, (hfo.2 i (by rw [hO18.1]; exact hi)).2.2.2⟩) kk (by omega) (by omega)).mono ?_
  rintro e w19 ⟨k2, rfl, hmc⟩
  have hk19 := hmc.kx
  have lO : ∀ g ∈ List.range' gO (w9.heap.size - gO), gO ≤ g ∧ g < w9.heap.size := fun g hg => by rw [List.mem_range'_1] at hg; omega
  have hq19 : Below (w.heap.size + 1) w18 w19 := hk19.belowN hz18 fun g hg => by have := lO g hg; have h3 := hgs.out; omega
  have hB19 := hB18.trans (hq19.mono (by omega : w.heap.size ≤ w.heap.size + 1))
  have hz19 : w.heap.size + 1 ≤ w19.heap.size := Nat.le_trans hz18 hq19.size
  have hs19 := hsW.below hB19
  have hO19 := hOW.below hB19
  have hT19 : TabH8 w19 := hTW.below hB19
  have hP19 := hP18.below hq19 (Nat.le_refl _)
  have k019 := k018.keepK hk19 (fun g hg hc => by have h1 := l05 g hg; have h2 := lO g hc; have h3 := hgs.out; omega)
  have qA19 := qA18.kx hk19 (fun hc => by have h2 := lO _ hc; have h3 := hgs.out; omega)
  have qX19 := qX18.kx hk19 (fun hc => by have h2 := lO _ hc; have h3 := hgs.out; omega)
  have k119 := k118.keepK hk19 (fun g hg hc => by have h1 := l110 g hg; have h2 := lO g hc; have h3 := hgs.out; omega)
  have qG19 := qG18.kx hk19 (fun hc => by have h2 := lO _ hc; have h3 := hgs.out; omega)
  clear hs18 hO18 hT18 hP18 hB18 k018 qA18 qX18 k118 qG18 hk19 hq19
  clear oh18 fz18 hmc
  have hkn : ¬ (k2 : Int) < 0 := by omega
  have HOqG : Hid (Qc w19 gG (.int .i64 rr.1, slW su1, .int .i64 rr.2.2.1, slW s1)) := qG19
  obtain ⟨qGc0, qGc1, qGc2, qGc3⟩ := qG19
  dsimp only at qGc0 qGc1 qGc2 qGc3
  have HOqA : Hid (Qc w19 g0 (.int .i64 rr.1, slW su0, .int .i64 rr.2.2.1, slW s0)) := qA19
  obtain ⟨qAc0, qAc1, qAc2, qAc3⟩ := qA19
  dsimp only at qAc0 qAc1 qAc2 qAc3
  obtain ⟨x0, x1⟩ := hP19
  have HPP : Hid (PBs w.heap.size v q0 w19) := ⟨x0, x1⟩
  go_wp2_with fail
  have hP19 := HPP.out
  clear HPP x0 x1
  have qG19 := HOqG.out
  clear HOqG qGc0 qGc1 qGc2 qGc3
  have qA19 := HOqA.out
  clear HOqA qAc0 qAc1 qAc2 qAc3
  refine (k119.eq k019 hbd).mono ?_
  rintro e w21 ⟨rfl, hb21⟩
  have hB21 := hB19.trans (hb21.mono hB19.size)
  have hs21 := hs19.below hb21
  have hO21 := hO19.below hb21
  have hT21 := hT19.below hb21
  have hP21 := hP19.below hb21 hz19
  have hz21 : w.heap.size + 1 ≤ w21.heap.size := Nat.le_trans hz19 hb21.size
  have k021 := k019.below hb21 (Nat.le_refl _)
  have qA21 := qA19.below hb21 qA19.lt
  have qX21 := qX19.below hb21 qX19.lt
  have k121 := k119.below hb21 (Nat.le_refl _)
  have qG21 := qG19.below hb21 qG19.lt
  clear hs19 hO19 hT19 hP19 hB19 k019 qA19 qX19 k119 qG19
  clear hb21
  have HOqG : Hid (Qc w21 gG (.int .i64 rr.1, slW su1, .int .i64 rr.2.2.1, slW s1)) := qG21
  obtain ⟨qGc0, qGc1, qGc2, qGc3⟩ := qG21
  dsimp only at qGc0 qGc1 qGc2 qGc3
  obtain ⟨x0, x1⟩ := hP21
  have HPP : Hid (PBs w.heap.size v q0 w21) := ⟨x0, x1⟩
  go_wp2_with fail
  have hP21 := HPP.out
  clear HPP x0 x1
  have qG21 := HOqG.out
  clear HOqG qGc0 qGc1 qGc2 qGc3
  have hfw := few_bd k121.2.1.2.1 hbd.2
  have hul := hbd.1
  refine (markStoreResult_ow rr.1 rr.2.2.1 su1 s1 rr.2.1 xs1 1 w21 k121.1 k121.2.1.1 k121.2.1.2.2.1 (fun g hg => (k121.2.2 g hg).2) (Nat.le_refl _) (by omega) (by omega) (by omega) hfw.1).mono ?_
  rintro e w22 ⟨rfl, zm22, hm22, hk22⟩
  have hq22 : Below (w.heap.size + 1) w21 w22 := hk22.belowN hz21 fun g hg => by have := l110 g hg; have h3 := hgs.out; omega
  have hB22 := hB21.trans (hq22.mono (by omega : w.heap.size ≤ w.heap.size + 1))
  have hz22 : w.heap.size + 1 ≤ w22.heap.size := Nat.le_trans hz21 hq22.size
  have hs22 := hsW.below hB22
  have hO22 := hOW.below hB22
  have hT22 : TabH8 w22 := hTW.below hB22
  have hP22 := hP21.below hq22 (Nat.le_refl _)
  have k022 := k021.keepK hk22 (fun g hg hc => by have h1 := l05 g hg; have h2 := l110 g hc; have h3 := hgs.out; omega)
  have qA22 := qA21.kx hk22 (fun hc => by have h2 := l110 _ hc; have h3 := hgs.out; omega)
  have qX22 := qX21.kx hk22 (fun hc => by have h2 := l110 _ hc; have h3 := hgs.out; omega)
  have qG22 := qG21.kx hk22 (fun hc => by have h2 := l110 _ hc; have h3 := hgs.out; omega)
  clear hs21 hO21 hT21 hP21 hB21 k021 qA21 qX21 qG21 hk22 hq22
  clear k121
  obtain ⟨mm, hmm⟩ : ∃ mm, 1 + rr.2.1.length + mkKx xs1 = mm := ⟨_, rfl⟩
  have hml : mm ≤ 4194304 := by omega
  have HH : Hid (∀ w' : World, OwZ 2 w' su1 (marksI rr.2.1.length 1) → HX w' s1 (mkXs xs1 (1 + rr.2.1.length)) → Calls Tryz.prog 24 #[.agg #[.int .i64 rr.1, slW su1, .int .i64 rr.2.2.1, slW s1], .int .i64 1] w' fun e w'' => e = .returned (.int .i64 (mm : Int)) ∧ Below w'.heap.size w' w'') := fun w' h1 h2 => by rw [← hmm]; exact heldStoreResult_ow rr.1 rr.2.2.1 su1 s1 rr.2.1.length xs1 1 w' h1 h2 (Nat.le_refl _) (by omega) (by omega) (by omega) hfw.1
  rw [hmm]
  have hmn : ¬ (mm : Int) < 0 := by omega
  have HOqG : Hid (Qc w22 gG (.int .i64 rr.1, slW su1, .int .i64 rr.2.2.1, slW s1)) := qG22
  obtain ⟨qGc0, qGc1, qGc2, qGc3⟩ := qG22
  dsimp only at qGc0 qGc1 qGc2 qGc3
  obtain ⟨x0, x1⟩ := hP22
  have HPP : Hid (PBs w.heap.size v q0 w22) := ⟨x0, x1⟩
  go_wp2_with fail
  have hP22 := HPP.out
  clear HPP x0 x1
  have qG22 := HOqG.out
  clear HOqG qGc0 qGc1 qGc2 qGc3
  refine (HH.out w22 zm22 hm22).mono ?_
  rintro e w23 ⟨rfl, hb23⟩
  have hB23 := hB22.trans (hb23.mono hB22.size)
  have hs23 := hs22.below hb23
  have hO23 := hO22.below hb23
  have hT23 := hT22.below hb23
  have hP23 := hP22.below hb23 hz22
  have hz23 : w.heap.size + 1 ≤ w23.heap.size := Nat.le_trans hz22 hb23.size
  have k023 := k022.below hb23 (Nat.le_refl _)
  have qA23 := qA22.below hb23 qA22.lt
  have qX23 := qX22.below hb23 qX22.lt
  have qG23 := qG22.below hb23 qG22.lt
  have zm23 := zm22.below hb23 (Nat.le_refl _)
  have hm23 := hm22.below hb23 (Nat.le_refl _)
  clear hs22 hO22 hT22 hP22 hB22 k022 qA22 qX22 qG22 zm22 hm22
  clear hb23
  obtain ⟨x0, x1⟩ := hP23
  have HPP : Hid (PBs w.heap.size v q0 w23) := ⟨x0, x1⟩
  go_wp2_with fail
  have hP23 := HPP.out
  clear HPP x0 x1
  refine (toStore_cx v q0 l0 w23 hs23 hfx).mono ?_
  rintro e w24 ⟨sE, xsE, rfl, cE24, hb24⟩
  have hB24 := hB23.trans (hb24.mono hB23.size)
  have hs24 := hs23.below hb24
  have hO24 := hO23.below hb24
  have hT24 := hT23.below hb24
  have hP24 := hP23.below hb24 hz23
  have hz24 : w.heap.size + 1 ≤ w24.heap.size := Nat.le_trans hz23 hb24.size
  have k024 := k023.below hb24 (Nat.le_refl _)
  have qA24 := qA23.below hb24 qA23.lt
  have qX24 := qX23.below hb24 qX23.lt
  have qG24 := qG23.below hb24 qG23.lt
  have zm24 := zm23.below hb24 (Nat.le_refl _)
  have hm24 := hm23.below hb24 (Nat.le_refl _)
  clear hs23 hO23 hT23 hP23 hB23 k023 qA23 qX23 qG23 zm23 hm23
  clear hb24
  go_wp2_with fail
  refine (toOpS_wz so ol w24 hO24 hfo).mono ?_
  rintro e w25 ⟨rfl, oE25, -, -, hb25⟩
  have hB25 := hB24.trans (hb25.mono hB24.size)
  have hs25 := hs24.below hb25
  have hO25 := hO24.below hb25
  have hT25 := hT24.below hb25
  have hP25 := hP24.below hb25 hz24
  have hz25 : w.heap.size + 1 ≤ w25.heap.size := Nat.le_trans hz24 hb25.size
  have k025 := k024.below hb25 (Nat.le_refl _)
  have qA25 := qA24.below hb25 qA24.lt
  have qX25 := qX24.below hb25 qX24.lt
  have qG25 := qG24.below hb25 qG24.lt
  have zm25 := zm24.below hb25 (Nat.le_refl _)
  have hm25 := hm24.below hb25 (Nat.le_refl _)
  have cE25 := cE24.below hb25 (Nat.le_refl _)
  clear hs24 hO24 hT24 hP24 hB24 k024 qA24 qX24 qG24 zm24 hm24 cE24
  clear hb25
  have iE25 := oE25.oz hO25.1 hn1 hfo
  clear oE25
  go_wp2_with fail
  refine (HIM.out sE xsE _ _ w25 cE25.1 cE25.2.1 hfx iE25 hT25).mono ?_
  rintro e w26 hse
  obtain ⟨su2, s2, xs2, rfl, k226, hb26⟩ := HEND.out _ _ _ hse
  have hB26 := hB25.trans (hb26.mono hB25.size)
  have hs26 := hs25.below hb26
  have hO26 := hO25.below hb26
  have hT26 := hT25.below hb26
  have hP26 := hP25.below hb26 hz25
  have hz26 : w.heap.size + 1 ≤ w26.heap.size := Nat.le_trans hz25 hb26.size
  have k026 := k025.below hb26 (Nat.le_refl _)
  have qA26 := qA25.below hb26 qA25.lt
  have qX26 := qX25.below hb26 qX25.lt
  have qG26 := qG25.below hb26 qG25.lt
  have zm26 := zm25.below hb26 (Nat.le_refl _)
  have hm26 := hm25.below hb26 (Nat.le_refl _)
  clear hs25 hO25 hT25 hP25 hB25 k025 qA25 qX25 qG25 zm25 hm25
  clear cE25 iE25 hb26 hse
  obtain ⟨w27, he27⟩ : ∃ W, w26.alloc (.cells #[.int .i64 rr.1, slW su2, .int .i64 rr.2.2.1, slW s2] 35) = W := ⟨_, rfl⟩
  have hb27 : Below w26.heap.size w26 w27 := by rw [← he27]; exact (Below.refl _ _).alloc (Nat.le_refl _) _
  obtain ⟨gH, hgH⟩ : ∃ g, w26.heap.size = g := ⟨_, rfl⟩
  have qH27 : Qc w27 gH (.int .i64 rr.1, slW su2, .int .i64 rr.2.2.1, slW s2) := by rw [← he27, ← hgH]; exact Qc.new _ _ _ _ _ _
  have hB27 := hB26.trans (hb27.mono hB26.size)
  have hs27 := hs26.below hb27
  have hO27 := hO26.below hb27
  have hT27 := hT26.below hb27
  have hP27 := hP26.below hb27 hz26
  have hz27 : w.heap.size + 1 ≤ w27.heap.size := Nat.le_trans hz26 hb27.size
  have k027 := k026.below hb27 (Nat.le_refl _)
  have qA27 := qA26.below hb27 qA26.lt
  have qX27 := qX26.below hb27 qX26.lt
  have qG27 := qG26.below hb27 qG26.lt
  have zm27 := zm26.below hb27 (Nat.le_refl _)
  have hm27 := hm26.below hb27 (Nat.le_refl _)
  have k227 := k226.below hb27 (Nat.le_refl _)
  clear hs26 hO26 hT26 hP26 hB26 k026 qA26 qX26 qG26 zm26 hm26 k226
  clear hb27
  have HOqH : Hid (Qc w27 gH (.int .i64 rr.1, slW su2, .int .i64 rr.2.2.1, slW s2)) := qH27
  obtain ⟨qHc0, qHc1, qHc2, qHc3⟩ := qH27
  dsimp only at qHc0 qHc1 qHc2 qHc3
  have HOqA : Hid (Qc w27 g0 (.int .i64 rr.1, slW su0, .int .i64 rr.2.2.1, slW s0)) := qA27
  obtain ⟨qAc0, qAc1, qAc2, qAc3⟩ := qA27
  dsimp only at qAc0 qAc1 qAc2 qAc3
  obtain ⟨x0, x1⟩ := hP27
  have HPP : Hid (PBs w.heap.size v q0 w27) := ⟨x0, x1⟩
  go_wp2_with fail
  have hP27 := HPP.out
  clear HPP x0 x1
  have qH27 := HOqH.out
  clear HOqH qHc0 qHc1 qHc2 qHc3
  have qA27 := HOqA.out
  clear HOqA qAc0 qAc1 qAc2 qAc3
  clear hgH he27
  refine (k227.eq k027 hbd).mono ?_
  rintro e w28 ⟨rfl, hb28⟩
  have hB28 := hB27.trans (hb28.mono hB27.size)
  have hs28 := hs27.below hb28
  have hO28 := hO27.below hb28
  have hT28 := hT27.below hb28
  have hP28 := hP27.below hb28 hz27
  have hz28 : w.heap.size + 1 ≤ w28.heap.size := Nat.le_trans hz27 hb28.size
  have k028 := k027.below hb28 (Nat.le_refl _)
  have qA28 := qA27.below hb28 qA27.lt
  have qX28 := qX27.below hb28 qX27.lt
  have qG28 := qG27.below hb28 qG27.lt
  have zm28 := zm27.below hb28 (Nat.le_refl _)
  have hm28 := hm27.below hb28 (Nat.le_refl _)
  have k228 := k227.below hb28 (Nat.le_refl _)
  have qH28 := qH27.below hb28 qH27.lt
  clear hs27 hO27 hT27 hP27 hB27 k027 qA27 qX27 qG27 zm27 hm27 k227 qH27
  clear hb28
  have HOqG : Hid (Qc w28 gG (.int .i64 rr.1, slW su1, .int .i64 rr.2.2.1, slW s1)) := qG28
  obtain ⟨qGc0, qGc1, qGc2, qGc3⟩ := qG28
  dsimp only at qGc0 qGc1 qGc2 qGc3
  obtain ⟨x0, x1⟩ := hP28
  have HPP : Hid (PBs w.heap.size v q0 w28) := ⟨x0, x1⟩
  go_wp2_with fail
  have hP28 := HPP.out
  clear HPP x0 x1
  have qG28 := HOqG.out
  clear HOqG qGc0 qGc1 qGc2 qGc3
  refine (HH.out w28 zm28 hm28).mono ?_
  rintro e w29 ⟨rfl, hb29⟩
  have hB29 := hB28.trans (hb29.mono hB28.size)
  clear HIM HEND HH
  go_wp2
  go_ret
  exact ⟨rfl, hB29⟩
end Go.Proofs.YtejbbnpgghpgaaaGreatDoor
