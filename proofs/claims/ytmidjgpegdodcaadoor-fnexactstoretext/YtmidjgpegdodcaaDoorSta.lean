/- Stores: the laws' helpers: a store's size, a copy, whether two are the same; no conditions beyond those that each fact names. -/
import Derived.Test.YtmidjgpegdodcaaDoorSeq
namespace Go.Proofs.YtmidjgpegdodcaaDoor
open Go.RowKit

set_option maxHeartbeats 800000 in
set_option maxRecDepth 100000 in
theorem szStore_ft (v : Int) (s : SlQ) (l : List Bx) (left : Int) {lo : Nat} (w : World) (h0 : 0 ≤ left) (h1 : left ≤ 1048576) (hs : IsXs lo w s l) (hok : ∀ i, i < l.length → OkX (nthX l i)) :
    Calls Tryd.prog 4 #[.agg #[.int .i64 v, slW s], .int .i64 left] w fun e w' => SzQ left (FtXs l) w e w' := by
  have hb0 : Below w.heap.size w (w.alloc (.cells #[.int .i64 v, slW s] 24)) := (Below.refl _ _).alloc (Nat.le_refl _) _
  have HC := szBoxS_ft s l left (w.alloc (.cells #[.int .i64 v, slW s] 24)) h0 h1 (hs.below hb0) hok
  go_enter Tryd.func4, Tryd.ntmps4
  go_wp2_with fail
  refine HC.mono ?_
  rintro e w1 ⟨r, rfl, hcase, hb1⟩
  have hbw := hb0.trans (hb1.mono hb0.size)
  clear HC hb0 hb1
  rcases hcase with rfl | ⟨q0, q1, q2⟩
  · go_wp2
    go_ret
    exact ⟨-1, rfl, .inl rfl, hbw⟩
  · have hneg : ¬ r < 0 := by omega
    go_wp2
    go_ret
    exact ⟨r, rfl, .inr ⟨q0, q1, q2⟩, hbw⟩

/-- Two blocks of two cells that were laid one behind the other, far on. -/
theorem dc_blocks {w0 w wr : World} {c0 c1 z0 z1 : Value} {o : Obj} {t t' : TypeId} (h0 : w = w0.alloc o)
    (hb : Below (w0.heap.size + 3) ((w.alloc (.cells #[z0, z1] t)).alloc (.cells #[c0, c1] t')) wr) :
    (wr.cell? ⟨w0.heap.size + 1, 0, none⟩ = some z0 ∧ wr.cell? ⟨w0.heap.size + 1, 1, none⟩ = some z1 ∧ wr.frozen? ⟨w0.heap.size + 1, 0, none⟩ = false ∧ wr.frozen? ⟨w0.heap.size + 1, 1, none⟩ = false) ∧
    (wr.cell? ⟨w0.heap.size + 1 + 1, 0, none⟩ = some c0 ∧ wr.cell? ⟨w0.heap.size + 1 + 1, 1, none⟩ = some c1 ∧ wr.frozen? ⟨w0.heap.size + 1 + 1, 0, none⟩ = false ∧ wr.frozen? ⟨w0.heap.size + 1 + 1, 1, none⟩ = false) := by
  have e1 : w.heap.size = w0.heap.size + 1 := by rw [h0]; simp
  have e2 : (w.alloc (.cells #[z0, z1] t)).heap.size = w0.heap.size + 1 + 1 := by simp [e1]
  have hA : Below (w.heap.size + 1) (w.alloc (.cells #[z0, z1] t)) wr := ((Below.refl _ _).alloc (by simp) _).trans (hb.mono (by omega))
  have k1 := res_block rfl hA
  have k2 := res_block (w := w.alloc (.cells #[z0, z1] t)) rfl (hb.mono (by omega))
  rw [e1] at k1
  rw [e2] at k2
  exact ⟨k1, k2⟩

set_option maxHeartbeats 1600000 in
set_option maxRecDepth 100000 in
theorem toStore_ft (v : Int) (s : SlQ) (l : List Bx) {lo : Nat} (w : World) (hs : IsXs lo w s l) (hf : FtXs l) :
    Calls Tryd.prog 6 #[.agg #[.int .i64 v, slW s]] w fun e w' => ∃ s', e = .returned (.agg #[.int .i64 v, slW s']) ∧ IsXs w.heap.size w' s' l ∧ Below w.heap.size w w' := by
  have hbW : Below w.heap.size w (((w.alloc (.cells #[.int .i64 v, slW s] 24)).alloc (.cells #[.int .i64 0, .slice none 0 0] 31)).alloc (.cells #[.int .i64 v, .slice none 0 0] 31)) :=
    (((Below.refl _ _).alloc (Nat.le_refl _) _).alloc (by simp) _).alloc (by simp; omega) _
  have hsz : (((w.alloc (.cells #[.int .i64 v, slW s] 24)).alloc (.cells #[.int .i64 0, .slice none 0 0] 31)).alloc (.cells #[.int .i64 v, .slice none 0 0] 31)).heap.size = w.heap.size + 3 := by simp
  have HC := toBoxS_ft s l _ (hs.below hbW) hf
  go_enter Tryd.func6, Tryd.ntmps6
  go_wp2_with fail
  refine HC.mono ?_
  rintro e w1 ⟨s', rfl, hr, hb1⟩
  rw [hsz] at hb1 hr
  obtain ⟨⟨z0, z1, y0, y1⟩, ⟨k0, k1, x0, x1⟩⟩ := dc_blocks rfl hb1
  have hz : w.heap.size + 3 ≤ w1.heap.size := by rw [← hsz]; exact hb1.size
  have hbw : Below w.heap.size w w1 := hbW.trans (hb1.mono (by omega))
  have HS : Hid (IsXs (w.heap.size + 3) w1 s' l) := hr
  clear HC hb1 hbW hsz hr hs
  have hg1 : w.heap.size + 1 + 1 ≠ w.heap.size + 1 := by omega
  have k3' := World.cell?_setCell_same _ _ (slW s') k1
  obtain ⟨q0, q1⟩ := res_cells (wr := w1.setCell ⟨w.heap.size + 1 + 1, 1, none⟩ (slW s')) (sz := w.heap.size + 1) ((World.cell?_setCell_other _ _ _ _ (by simp)).trans z0) ((World.cell?_setCell_other _ _ _ _ (by simp)).trans z1) (.int .i64 v) (slW s')
  go_wp2
  refine bodyPost_ret (v := .agg #[.int .i64 v, slW s']) (by simp [results, Tryd.results6, go_sem, q0, q1]) rfl ?_
  refine ⟨s', rfl, (HS.out.near ?_).low (by omega), ?_⟩
  · exact ((Near.set _ (by omega)).trans (Near.set _ (by omega))).trans (Near.set _ (by omega))
  · exact ((hbw.setCell (by simp; omega) _).setCell (by simp) _).setCell (by simp) _

set_option maxHeartbeats 1600000 in
set_option maxRecDepth 100000 in
theorem eqStore_ft (v : Int) (s s' : SlQ) (l : List Bx) {lo lo' : Nat} (w : World) (hs : IsXs lo w s l) (hs' : IsXs lo' w s' l) (hf : FtXs l) :
    Calls Tryd.prog 9 #[.agg #[.int .i64 v, slW s], .agg #[.int .i64 v, slW s']] w fun e w' => e = .returned (.bool true) ∧ Below w.heap.size w w' := by
  have hbW : Below w.heap.size w (((w.alloc (.cells #[.int .i64 v, slW s] 31)).alloc (.cells #[.int .i64 v, slW s'] 31))) :=
    ((Below.refl _ _).alloc (Nat.le_refl _) _).alloc (by simp) _
  have HC := eqBoxS_ft s s' l _ (hs.below hbW) (hs'.below hbW) hf
  go_enter Tryd.func9, Tryd.ntmps9
  go_wp2_with fail
  refine HC.mono ?_
  rintro e w1 ⟨rfl, hb1⟩
  have hbw := hbW.trans (hb1.mono hbW.size)
  clear HC hb1 hbW
  go_wp2
  go_ret
  exact ⟨rfl, hbw⟩
end Go.Proofs.YtmidjgpegdodcaaDoor
