/- What the model says of a store, with its fault; no conditions beyond those that each fact names. -/
import Derived.Test.YtmidjgpegdodcaaDoorSxm
namespace Go.Proofs.YtmidjgpegdodcaaDoor
open Go.RowKit

set_option maxHeartbeats 3200000 in
set_option maxRecDepth 100000 in
theorem specStoreText_any (v : Int) (s : SlQ) (l : List Bx) {lo : Nat} (w : World) (hs : IsXs lo w s l) (hf : FtXs l) :
    Calls Tryd.prog 5 #[.agg #[.int .i64 v, slW s]] w fun e w' => ZEnd v l w e w' := by
  unfold ZEnd
  have HV : Hid (zT v l = if stV v l = 0 then (0, szT l) else (stV v l, [])) := rfl
  have HOK : Hid (stV v l = 0 → l.length ≤ 3 ∧ ∀ b ∈ l, bfV b = 0) := stV_okX
  obtain ⟨V0, hV0⟩ : ∃ V0, w.alloc (.cells #[.int .i64 v, slW s] 31) = V0 := ⟨_, rfl⟩
  have hbV : Below w.heap.size w V0 := by rw [← hV0]; exact (Below.refl _ _).alloc (Nat.le_refl _) _
  have hD0 : Dc V0 w.heap.size (.int .i64 v, slW s) := by rw [← hV0]; exact Dc.new w (.int .i64 v) (slW s) 31
  have hVs : V0.heap.size = w.heap.size + 1 := by rw [← hV0]; simp
  obtain ⟨W0, hW0⟩ : ∃ W0, V0.alloc (.cells #[.int .i64 0, .string ⟨#[]⟩] 27) = W0 := ⟨_, rfl⟩
  have hbW : Below V0.heap.size V0 W0 := by rw [← hW0]; exact (Below.refl _ _).alloc (Nat.le_refl _) _
  have hWs : W0.heap.size = w.heap.size + 2 := by rw [← hW0]; simp; omega
  have hb0 : Below w.heap.size w W0 := hbV.trans (hbW.mono hbV.size)
  have hD1 := hD0.below hbW (by omega)
  have hs0 := hs.below hb0
  have HCF := l7Fault_any v s l w.heap.size W0 hs0 hf hD1
  have HRB : Hid (∀ wr, Below (w.heap.size + 2) W0 wr → wr.cell? ⟨w.heap.size + 1, 0, none⟩ = some (.int .i64 0) ∧ wr.cell? ⟨w.heap.size + 1, 1, none⟩ = some (.string ⟨#[]⟩) ∧ wr.frozen? ⟨w.heap.size + 1, 0, none⟩ = false ∧ wr.frozen? ⟨w.heap.size + 1, 1, none⟩ = false) := fun wr h => by
    have := res_block hW0 (wr := wr) (by rw [hVs]; exact h)
    rw [hVs] at this; exact this
  clear hs hbV hbW hD0
  obtain ⟨a, n, cap⟩ := s
  dsimp only [slW] at *
  obtain ⟨hl, hnc, hcm, hr⟩ := hs0
  dsimp only at hl hnc hcm hr
  obtain ⟨c0, c1⟩ := id hD1
  dsimp only at c0 c1
  generalize hZ : zT v l = Z at *
  generalize stV v l = c at *
  go_enter Tryd.func5, Tryd.ntmps5
  go_wp2_with fail
  try rw [hV0]
  try simp only [hVs, hW0]
  refine HCF.mono ?_
  rintro e w1 ⟨rfl, hb1⟩
  have hB1 : Below (w.heap.size + 2) W0 w1 := by rw [← hWs]; exact hb1
  have hB0 : Below w.heap.size w w1 := hb0.trans (hb1.mono (by omega))
  have hD2 := hD1.below hb1 (by omega)
  have hr1 := hr.below hb1
  clear c0 c1 hD1 hr hb1 HCF hb0
  obtain ⟨c0, c1⟩ := id hD2
  dsimp only at c0 c1
  obtain ⟨x0, x1, f0, f1⟩ := HRB.out _ hB1
  by_cases hc : c = 0
  · subst hc
    have HZ : Hid (Z = (0, szT l)) := HV.out.trans (if_pos rfl)
    obtain ⟨h3, hbx⟩ := HOK.out rfl
    clear HOK HV
    have HCS := l16Store_any v (a, n, cap) l w.heap.size w1 ⟨hl, hnc, hcm, hr1⟩ h3 hbx hD2
    go_wp2_with fail
    refine HCS.mono ?_
    rintro e w2 ⟨rfl, hb2⟩
    have hB2 : Below (w.heap.size + 2) W0 w2 := hB1.trans (hb2.mono (by have := hB1.size; omega))
    obtain ⟨y0, y1, z0, z1⟩ := HRB.out _ hB2
    obtain ⟨sx, hsx⟩ : ∃ sx, sx = str (szT l) := ⟨_, rfl⟩
    rw [← hsx]
    obtain ⟨k0, k1⟩ := res_cells y0 y1 (.int .i64 0) (.string sx)
    have HY : Hid (Z.1 = 0 ∧ str Z.2 = sx) := ⟨by rw [HZ.out], by rw [HZ.out, hsx]⟩
    have hBE := hB0.trans (hb2.mono hB0.size)
    clear hsx HZ x0 x1 f0 f1 hb2 hB2 c0 c1 hr1 hbx HCS
    go_wp2
    refine bodyPost_ret (v := .agg #[.int .i64 0, .string sx]) (by simp [results, Tryd.results5, go_sem, k0, k1]) rfl ?_
    refine ⟨?_, (hBE.setCell (Nat.le_succ _) _).setCell (Nat.le_succ _) _⟩
    rw [HY.out.1, HY.out.2]
  · have HZ : Hid (Z = (c, [])) := HV.out.trans (if_neg hc)
    have hcB : (c == 0) = false := beq_eq_false_iff_ne.2 hc
    obtain ⟨k0, k1⟩ := res_cells x0 x1 (.int .i64 c) (.string ⟨#[]⟩)
    have HY : Hid (Z.1 = c ∧ str Z.2 = ⟨#[]⟩) := ⟨by rw [HZ.out], by rw [HZ.out]; rfl⟩
    clear HZ HV HOK
    go_wp2
    refine bodyPost_ret (v := .agg #[.int .i64 c, .string ⟨#[]⟩]) (by simp [results, Tryd.results5, go_sem, k0, k1]) rfl ?_
    refine ⟨?_, (hB0.setCell (Nat.le_succ _) _).setCell (Nat.le_succ _) _⟩
    rw [HY.out.1, HY.out.2]
end Go.Proofs.YtmidjgpegdodcaaDoor
