/- Mailboxes: the laws' helpers: a mailbox's size, a copy, whether two are the same; no conditions beyond those that each fact names. -/
import Derived.Test.YtmidjgpegdodcaaDoorMss
namespace Go.Proofs.YtmidjgpegdodcaaDoor
open Go.RowKit

/-- What the laws let through. -/
def FtX (m : Bx) : Prop := m.n.size ≤ 1048576 ∧ FtMs m.m
def OkX (m : Bx) : Prop := m.n.size ≤ maxLen

set_option maxHeartbeats 1600000 in
set_option maxRecDepth 100000 in
theorem szBox_ft (m : Bx) (s : SlQ) (left : Int) {lo : Nat} (w : World) (h0 : 0 ≤ left) (h1 : left ≤ 1048576) (hs : IsMs lo w s m.m) (hok : OkX m) :
    Calls Tryd.prog 18 #[bxX m s, .int .i64 left] w fun e w' => SzQ left (FtX m) w e w' := by
  have hb0 : Below w.heap.size w (w.alloc (.cells #[.string m.n, .int .i64 m.v, .int .i64 m.x, slW s] 51)) := (Below.refl _ _).alloc (Nat.le_refl _) _
  have hok' : m.n.size ≤ maxLen := hok
  unfold maxLen at hok'
  by_cases c1 : left - (m.n.size : Int) < 0
  · go_enter Tryd.func18, Tryd.ntmps18
    go_wp2
    go_ret
    exact ⟨-1, rfl, .inl rfl, hb0⟩
  · have HC := szMessageS_ft s m.m (left - (m.n.size : Int)) (w.alloc (.cells #[.string m.n, .int .i64 m.v, .int .i64 m.x, slW s] 51)) (by omega) (by omega) (hs.below hb0) (fun _ _ => trivial)
    go_enter Tryd.func18, Tryd.ntmps18
    go_wp2_with fail
    refine HC.mono ?_
    rintro e w1 ⟨r, rfl, hcase, hb1⟩
    have hbw := hb0.trans (hb1.mono hb0.size)
    clear HC hb0 hb1
    rcases hcase with rfl | ⟨q0, q1, q2⟩
    · go_wp2
      go_ret
      exact ⟨-1, rfl, .inl rfl, hbw⟩
    · have hneg : ¬ r < 0 := by omega
      have HF : Hid (FtX m) := ⟨by omega, q2⟩
      have q1' : r ≤ left := by omega
      clear q2
      go_wp2
      go_ret
      exact ⟨r, rfl, .inr ⟨q0, q1', HF.out⟩, hbw⟩

set_option maxHeartbeats 1600000 in
set_option maxRecDepth 100000 in
theorem toBox_ft (m : Bx) (s : SlQ) {lo : Nat} (w : World) (hs : IsMs lo w s m.m) (hf : FtX m) :
    Calls Tryd.prog 22 #[bxX m s] w fun e w' => ∃ s', e = .returned (bxX m s') ∧ IsMs w.heap.size w' s' m.m ∧ Below w.heap.size w w' := by
  have hbW : Below w.heap.size w (((w.alloc (.cells #[.string m.n, .int .i64 m.v, .int .i64 m.x, slW s] 51)).alloc (.cells #[.string ByteArray.empty, .int .i64 0, .int .i64 0, .slice none 0 0] 45)).alloc (.cells #[.string m.n, .int .i64 m.v, .int .i64 m.x, .slice none 0 0] 45)) :=
    (((Below.refl _ _).alloc (Nat.le_refl _) _).alloc (by simp) _).alloc (by simp; omega) _
  have hsz : (((w.alloc (.cells #[.string m.n, .int .i64 m.v, .int .i64 m.x, slW s] 51)).alloc (.cells #[.string ByteArray.empty, .int .i64 0, .int .i64 0, .slice none 0 0] 45)).alloc (.cells #[.string m.n, .int .i64 m.v, .int .i64 m.x, .slice none 0 0] 45)).heap.size = w.heap.size + 3 := by simp
  have HC := toMessageS_ft s m.m _ (hs.below hbW) hf.2
  go_enter Tryd.func22, Tryd.ntmps22
  go_wp2_with fail
  refine HC.mono ?_
  rintro e w1 ⟨s', rfl, hr, hb1⟩
  rw [hsz] at hb1 hr
  obtain ⟨⟨z0, z1, z2, z3, y0, y1, y2, y3⟩, ⟨k0, k1, k2, k3, x0, x1, x2, x3⟩⟩ := qd_blocks rfl hb1
  have hz : w.heap.size + 3 ≤ w1.heap.size := by rw [← hsz]; exact hb1.size
  have hbw : Below w.heap.size w w1 := hbW.trans (hb1.mono (by omega))
  have HS : Hid (IsMs (w.heap.size + 3) w1 s' m.m) := hr
  clear HC hb1 hbW hsz hr hs
  have hg1 : w.heap.size + 1 + 1 ≠ w.heap.size + 1 := by omega
  have k3' := World.cell?_setCell_same _ _ (slW s') k3
  obtain ⟨q0, q1, q2, q3⟩ := qd_cells (wr := w1.setCell ⟨w.heap.size + 1 + 1, 3, none⟩ (slW s')) (sz := w.heap.size + 1) ((World.cell?_setCell_other _ _ _ _ (by simp)).trans z0) ((World.cell?_setCell_other _ _ _ _ (by simp)).trans z1) ((World.cell?_setCell_other _ _ _ _ (by simp)).trans z2) ((World.cell?_setCell_other _ _ _ _ (by simp)).trans z3) (.string m.n) (.int .i64 m.v) (.int .i64 m.x) (slW s')
  go_wp2
  refine bodyPost_ret (v := .agg #[.string m.n, .int .i64 m.v, .int .i64 m.x, slW s']) (by simp [results, Tryd.results22, go_sem, q0, q1, q2, q3]) rfl ?_
  refine ⟨s', rfl, (HS.out.near ?_).low (by omega), ?_⟩
  · exact ((((Near.set _ (by omega)).trans (Near.set _ (by omega))).trans (Near.set _ (by omega))).trans (Near.set _ (by omega))).trans (Near.set _ (by omega))
  · exact ((((hbw.setCell (by simp; omega) _).setCell (by simp) _).setCell (by simp) _).setCell (by simp) _).setCell (by simp) _

set_option maxHeartbeats 1600000 in
set_option maxRecDepth 100000 in
theorem eqBox_ft (m : Bx) (s s' : SlQ) {lo lo' : Nat} (w : World) (hs : IsMs lo w s m.m) (hs' : IsMs lo' w s' m.m) (hf : FtX m) :
    Calls Tryd.prog 28 #[bxX m s, bxX m s'] w fun e w' => e = .returned (.bool true) ∧ Below w.heap.size w w' := by
  have hbW : Below w.heap.size w (((w.alloc (.cells #[.string m.n, .int .i64 m.v, .int .i64 m.x, slW s] 45)).alloc (.cells #[.string m.n, .int .i64 m.v, .int .i64 m.x, slW s'] 45))) :=
    ((Below.refl _ _).alloc (Nat.le_refl _) _).alloc (by simp) _
  have HC := eqMessageS_ft s s' m.m _ (hs.below hbW) (hs'.below hbW) hf.2
  go_enter Tryd.func28, Tryd.ntmps28
  go_wp2_with fail
  refine HC.mono ?_
  rintro e w1 ⟨rfl, hb1⟩
  have hbw := hbW.trans (hb1.mono hbW.size)
  clear HC hb1 hbW
  go_wp2
  go_ret
  exact ⟨rfl, hbw⟩
end Go.Proofs.YtmidjgpegdodcaaDoor
