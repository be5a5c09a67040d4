/- Messages: the laws' helpers: a message's size, a copy, whether two are the same; no conditions beyond those that each fact names. -/
import Derived.Test.YtmidjgpegdodcaaDoorMsa
namespace Go.Proofs.YtmidjgpegdodcaaDoor
open Go.RowKit

/-- How the reckoning of a size ends. -/
def SzQ (left : Int) (C : Prop) (w : World) (e : Ending) (w' : World) : Prop := ∃ r : Int, e = .returned (.int .i64 r) ∧ (r = -1 ∨ 0 ≤ r ∧ r ≤ left ∧ C) ∧ Below w.heap.size w w'

theorem szByteS_any (s : SlQ) (left : Int) (w : World) (h0 : 0 ≤ left) (h1 : left ≤ 1048576) (hn : s.2.1 ≤ maxLen) :
    Calls Tryd.prog 51 #[slW s, .int .i64 left] w fun e w' => SzQ left (s.2.1 ≤ 1048576) w e w' := by
  obtain ⟨a, n, cap⟩ := s
  dsimp only at *
  unfold maxLen at hn
  by_cases c1 : left - (n : Int) < 0
  · go_enter Tryd.func51, Tryd.ntmps51
    go_wp2
    go_ret
    exact ⟨-1, rfl, .inl rfl, by go_grown⟩
  · go_enter Tryd.func51, Tryd.ntmps51
    go_wp2
    go_ret
    exact ⟨left - (n : Int), rfl, .inr ⟨by omega, by omega, by omega⟩, by go_grown⟩

set_option maxHeartbeats 800000 in
set_option maxRecDepth 100000 in
theorem szMessage_any (m : Msg) (s : SlQ) (left : Int) (w : World) (h0 : 0 ≤ left) (h1 : left ≤ 1048576) (hn : s.2.1 ≤ maxLen) :
    Calls Tryd.prog 41 #[msX m s, .int .i64 left] w fun e w' => SzQ left (s.2.1 ≤ 1048576) w e w' := by
  have HC := szByteS_any s left (w.alloc (.cells #[.int .i64 m.u, .int .i64 m.f, .int .i64 m.d, slW s] 89)) h0 h1 hn
  have hb0 : Below w.heap.size w (w.alloc (.cells #[.int .i64 m.u, .int .i64 m.f, .int .i64 m.d, slW s] 89)) := (Below.refl _ _).alloc (Nat.le_refl _) _
  go_enter Tryd.func41, Tryd.ntmps41
  go_wp2_with fail
  refine HC.mono ?_
  rintro e w1 ⟨r, rfl, hcase, hb1⟩
  have hbw := hb0.trans (hb1.mono hb0.size)
  clear HC hb0 hb1
  rcases hcase with rfl | ⟨q0, q1, q2⟩
  · go_wp2
    go_ret
    exact ⟨-1, rfl, .inl rfl, hbw⟩
  · have hneg : ¬ r < 0 := by omega
    go_wp2
    go_ret
    exact ⟨r, rfl, .inr ⟨q0, q1, q2⟩, hbw⟩

/-- A block of four cells, far on. -/
theorem qd_block {w W wr : World} {c0 c1 c2 c3 : Value} {t : TypeId} (hW : w.alloc (.cells #[c0, c1, c2, c3] t) = W) (hb : Below (w.heap.size + 1) W wr) :
    wr.cell? ⟨w.heap.size, 0, none⟩ = some c0 ∧ wr.cell? ⟨w.heap.size, 1, none⟩ = some c1 ∧ wr.cell? ⟨w.heap.size, 2, none⟩ = some c2 ∧ wr.cell? ⟨w.heap.size, 3, none⟩ = some c3 ∧ wr.frozen? ⟨w.heap.size, 0, none⟩ = false ∧ wr.frozen? ⟨w.heap.size, 1, none⟩ = false ∧ wr.frozen? ⟨w.heap.size, 2, none⟩ = false ∧ wr.frozen? ⟨w.heap.size, 3, none⟩ = false := by
  subst hW
  refine ⟨?_, ?_, ?_, ?_, ?_, ?_, ?_, ?_⟩
  · rw [hb.cell (p := ⟨w.heap.size, 0, none⟩) (by simp)]; simp
  · rw [hb.cell (p := ⟨w.heap.size, 1, none⟩) (by simp)]; simp
  · rw [hb.cell (p := ⟨w.heap.size, 2, none⟩) (by simp)]; simp
  · rw [hb.cell (p := ⟨w.heap.size, 3, none⟩) (by simp)]; simp
  · rw [hb.frozen (p := ⟨w.heap.size, 0, none⟩) (by simp)]; simp
  · rw [hb.frozen (p := ⟨w.heap.size, 1, none⟩) (by simp)]; simp
  · rw [hb.frozen (p := ⟨w.heap.size, 2, none⟩) (by simp)]; simp
  · rw [hb.frozen (p := ⟨w.heap.size, 3, none⟩) (by simp)]; simp
theorem qd_cells {wr : World} {sz : Nat} {x0 x1 x2 x3 : Value} (h0 : wr.cell? ⟨sz, 0, none⟩ = some x0) (h1 : wr.cell? ⟨sz, 1, none⟩ = some x1) (h2 : wr.cell? ⟨sz, 2, none⟩ = some x2) (h3 : wr.cell? ⟨sz, 3, none⟩ = some x3) (c t u v : Value) :
    (wr.setCell ⟨sz, 0, none⟩ c).cell? ⟨sz, 0, none⟩ = some c ∧ ((wr.setCell ⟨sz, 0, none⟩ c).setCell ⟨sz, 1, none⟩ t).cell? ⟨sz, 1, none⟩ = some t ∧
    (((wr.setCell ⟨sz, 0, none⟩ c).setCell ⟨sz, 1, none⟩ t).setCell ⟨sz, 2, none⟩ u).cell? ⟨sz, 2, none⟩ = some u ∧
    ((((wr.setCell ⟨sz, 0, none⟩ c).setCell ⟨sz, 1, none⟩ t).setCell ⟨sz, 2, none⟩ u).setCell ⟨sz, 3, none⟩ v).cell? ⟨sz, 3, none⟩ = some v := by
  have h1' : (wr.setCell ⟨sz, 0, none⟩ c).cell? ⟨sz, 1, none⟩ = some x1 := by simp [go_sem, h1]
  have h2' : ((wr.setCell ⟨sz, 0, none⟩ c).setCell ⟨sz, 1, none⟩ t).cell? ⟨sz, 2, none⟩ = some x2 := by simp [go_sem, h2]
  have h3' : (((wr.setCell ⟨sz, 0, none⟩ c).setCell ⟨sz, 1, none⟩ t).setCell ⟨sz, 2, none⟩ u).cell? ⟨sz, 3, none⟩ = some x3 := by simp [go_sem, h3]
  exact ⟨World.cell?_setCell_same _ _ _ h0, World.cell?_setCell_same _ _ _ h1', World.cell?_setCell_same _ _ _ h2', World.cell?_setCell_same _ _ _ h3'⟩
/-- Two blocks of four cells that were laid one behind the other, far on. -/
theorem qd_blocks {w0 w wr : World} {c0 c1 c2 c3 z0 z1 z2 z3 : Value} {o : Obj} {t t' : TypeId} (h0 : w = w0.alloc o)
    (hb : Below (w0.heap.size + 3) ((w.alloc (.cells #[z0, z1, z2, z3] t)).alloc (.cells #[c0, c1, c2, c3] t')) wr) :
    (wr.cell? ⟨w0.heap.size + 1, 0, none⟩ = some z0 ∧ wr.cell? ⟨w0.heap.size + 1, 1, none⟩ = some z1 ∧ wr.cell? ⟨w0.heap.size + 1, 2, none⟩ = some z2 ∧ wr.cell? ⟨w0.heap.size + 1, 3, none⟩ = some z3 ∧ wr.frozen? ⟨w0.heap.size + 1, 0, none⟩ = false ∧ wr.frozen? ⟨w0.heap.size + 1, 1, none⟩ = false ∧ wr.frozen? ⟨w0.heap.size + 1, 2, none⟩ = false ∧ wr.frozen? ⟨w0.heap.size + 1, 3, none⟩ = false) ∧
    (wr.cell? ⟨w0.heap.size + 1 + 1, 0, none⟩ = some c0 ∧ wr.cell? ⟨w0.heap.size + 1 + 1, 1, none⟩ = some c1 ∧ wr.cell? ⟨w0.heap.size + 1 + 1, 2, none⟩ = some c2 ∧ wr.cell? ⟨w0.heap.size + 1 + 1, 3, none⟩ = some c3 ∧ wr.frozen? ⟨w0.heap.size + 1 + 1, 0, none⟩ = false ∧ wr.frozen? ⟨w0.heap.size + 1 + 1, 1, none⟩ = false ∧ wr.frozen? ⟨w0.heap.size + 1 + 1, 2, none⟩ = false ∧ wr.frozen? ⟨w0.heap.size + 1 + 1, 3, none⟩ = false) := by
  have e1 : w.heap.size = w0.heap.size + 1 := by rw [h0]; simp
  have e2 : (w.alloc (.cells #[z0, z1, z2, z3] t)).heap.size = w0.heap.size + 1 + 1 := by simp [e1]
  have hA : Below (w.heap.size + 1) (w.alloc (.cells #[z0, z1, z2, z3] t)) wr := ((Below.refl _ _).alloc (by simp) _).trans (hb.mono (by omega))
  have k1 := qd_block rfl hA
  have k2 := qd_block (w := w.alloc (.cells #[z0, z1, z2, z3] t)) rfl (hb.mono (by omega))
  rw [e1] at k1
  rw [e2] at k2
  exact ⟨k1, k2⟩

set_option maxHeartbeats 1600000 in
set_option maxRecDepth 100000 in
theorem toMessage_any (m : Msg) (s : SlQ) {lo : Nat} (w : World) (hs : IsSl lo w s m.b) (hn : s.2.1 ≤ 1048576) :
    Calls Tryd.prog 42 #[msX m s] w fun e w' => ∃ s', e = .returned (msX m s') ∧ IsSl w.heap.size w' s' m.b ∧ Below w.heap.size w w' := by
  have hbW : Below w.heap.size w (((w.alloc (.cells #[.int .i64 m.u, .int .i64 m.f, .int .i64 m.d, slW s] 89)).alloc (.cells #[.int .i64 0, .int .i64 0, .int .i64 0, .slice none 0 0] 60)).alloc (.cells #[.int .i64 m.u, .int .i64 m.f, .int .i64 m.d, .slice none 0 0] 60)) :=
    (((Below.refl _ _).alloc (Nat.le_refl _) _).alloc (by simp) _).alloc (by simp; omega) _
  have hsz : (((w.alloc (.cells #[.int .i64 m.u, .int .i64 m.f, .int .i64 m.d, slW s] 89)).alloc (.cells #[.int .i64 0, .int .i64 0, .int .i64 0, .slice none 0 0] 60)).alloc (.cells #[.int .i64 m.u, .int .i64 m.f, .int .i64 m.d, .slice none 0 0] 60)).heap.size = w.heap.size + 3 := by simp
  have HC := toByteS_any s.1 s.2.1 s.2.2 m.b _ hs.1 (hs.2.2.2.2.1.below hbW) hn
  go_enter Tryd.func42, Tryd.ntmps42
  go_wp2_with fail
  refine HC.mono ?_
  rintro e w1 ⟨rfl, hr, hb1⟩
  rw [hsz] at hb1 hr ⊢
  obtain ⟨⟨z0, z1, z2, z3, y0, y1, y2, y3⟩, ⟨k0, k1, k2, k3, x0, x1, x2, x3⟩⟩ := qd_blocks rfl hb1
  have hz : w.heap.size + 3 ≤ w1.heap.size := by rw [← hsz]; exact hb1.size
  have hbw : Below w.heap.size w w1 := hbW.trans (hb1.mono (by omega))
  have HS : Hid (IsSl (w.heap.size + 3) w1 (some ⟨w.heap.size + 3, 0, none⟩, s.2.1, s.2.1) m.b) := ⟨hs.1, Nat.le_refl _, by dsimp only; unfold maxLen; omega, hs.2.2.2.1, Rd.own hr, fun x hx => by cases hx; exact Nat.le_refl _⟩
  clear HC hb1 hbW hsz hr hs
  have hg1 : w.heap.size + 1 + 1 ≠ w.heap.size + 1 := by omega
  have k3' := World.cell?_setCell_same _ _ (slW (some ⟨w.heap.size + 3, 0, none⟩, s.2.1, s.2.1)) k3
  obtain ⟨q0, q1, q2, q3⟩ := qd_cells (wr := w1.setCell ⟨w.heap.size + 1 + 1, 3, none⟩ (slW (some ⟨w.heap.size + 3, 0, none⟩, s.2.1, s.2.1))) (sz := w.heap.size + 1) ((World.cell?_setCell_other _ _ _ _ (by simp)).trans z0) ((World.cell?_setCell_other _ _ _ _ (by simp)).trans z1) ((World.cell?_setCell_other _ _ _ _ (by simp)).trans z2) ((World.cell?_setCell_other _ _ _ _ (by simp)).trans z3) (.int .i64 m.u) (.int .i64 m.f) (.int .i64 m.d) (slW (some ⟨w.heap.size + 3, 0, none⟩, s.2.1, s.2.1))
  dsimp only [slW] at q0 q1 q2 q3 k3'
  go_wp2
  refine bodyPost_ret (v := .agg #[.int .i64 m.u, .int .i64 m.f, .int .i64 m.d, .slice (some ⟨w.heap.size + 3, 0, none⟩) s.2.1 s.2.1]) (by simp [results, Tryd.results42, go_sem, q0, q1, q2, q3]) rfl ?_
  refine ⟨(some ⟨w.heap.size + 3, 0, none⟩, s.2.1, s.2.1), rfl, (HS.out.near ?_).low (by omega), ?_⟩
  · exact ((((Near.set _ (by omega)).trans (Near.set _ (by omega))).trans (Near.set _ (by omega))).trans (Near.set _ (by omega))).trans (Near.set _ (by omega))
  · exact ((((hbw.setCell (by simp; omega) _).setCell (by simp) _).setCell (by simp) _).setCell (by simp) _).setCell (by simp) _

set_option maxHeartbeats 1600000 in
set_option maxRecDepth 100000 in
theorem eqMessage_same (m : Msg) (s s' : SlQ) {lo lo' : Nat} (w : World) (hs : IsSl lo w s m.b) (hs' : IsSl lo' w s' m.b) (hn : s.2.1 ≤ 1048576) :
    Calls Tryd.prog 50 #[msX m s, msX m s'] w fun e w' => e = .returned (.bool true) ∧ Below w.heap.size w w' := by
  have hbW : Below w.heap.size w (((w.alloc (.cells #[.int .i64 m.u, .int .i64 m.f, .int .i64 m.d, slW s] 60)).alloc (.cells #[.int .i64 m.u, .int .i64 m.f, .int .i64 m.d, slW s'] 60))) :=
    ((Below.refl _ _).alloc (Nat.le_refl _) _).alloc (by simp) _
  have HC := eqByteS_same s.1 s'.1 s.2.1 s.2.2 s'.2.2 m.b _ hs.1 (hs.2.2.2.2.1.below hbW) (hs'.2.2.2.2.1.below hbW) hn
  have he : s'.2.1 = s.2.1 := by rw [← hs.1, ← hs'.1]
  obtain ⟨a', n', c'⟩ := s'
  dsimp only at he
  subst he
  go_enter Tryd.func50, Tryd.ntmps50
  go_wp2_with fail
  refine HC.mono ?_
  rintro e w1 ⟨rfl, hb1⟩
  have hbw := hbW.trans (hb1.mono hbW.size)
  clear HC hb1 hbW
  go_wp2
  go_ret
  exact ⟨rfl, hbw⟩

/-- Four cells of a block. -/
def Qc (w : World) (g : Nat) (q : Qd) : Prop := w.cell? ⟨g, 0, none⟩ = some q.1 ∧ w.cell? ⟨g, 1, none⟩ = some q.2.1 ∧ w.cell? ⟨g, 2, none⟩ = some q.2.2.1 ∧ w.cell? ⟨g, 3, none⟩ = some q.2.2.2
theorem Qc.below {C : Nat} {w w' : World} {g : Nat} {q : Qd} (h : Qc w g q) (hb : Below C w w') (hg : g < C) : Qc w' g q :=
  ⟨(hb.cell (p := ⟨g, 0, none⟩) hg).trans h.1, (hb.cell (p := ⟨g, 1, none⟩) hg).trans h.2.1, (hb.cell (p := ⟨g, 2, none⟩) hg).trans h.2.2.1, (hb.cell (p := ⟨g, 3, none⟩) hg).trans h.2.2.2⟩
theorem Qc.new (w : World) (c0 c1 c2 c3 : Value) (t : TypeId) : Qc (w.alloc (.cells #[c0, c1, c2, c3] t)) w.heap.size (c0, c1, c2, c3) := ⟨by simp, by simp, by simp, by simp⟩
theorem Qc.lt {w : World} {g : Nat} {q : Qd} (h : Qc w g q) : g < w.heap.size := World.block_lt_of_cell? w ⟨g, 0, none⟩ h.1

/-- What the laws let through. -/
def FtM (m : Msg) : Prop := m.b.length ≤ 1048576
def OkM (_ : Msg) : Prop := True
theorem szMessage_ft (m : Msg) (s : SlQ) (left : Int) {lo : Nat} (w : World) (h0 : 0 ≤ left) (h1 : left ≤ 1048576) (hs : IsSl lo w s m.b) (_ : OkM m) :
    Calls Tryd.prog 41 #[msX m s, .int .i64 left] w fun e w' => SzQ left (FtM m) w e w' :=
  (szMessage_any m s left w h0 h1 (Nat.le_trans hs.2.1 hs.2.2.1)).mono fun _ _ ⟨r, he, hc, hb⟩ => ⟨r, he, hc.imp id (fun ⟨q0, q1, q2⟩ => ⟨q0, q1, by unfold FtM; rw [hs.1]; exact q2⟩), hb⟩
theorem toMessage_ft (m : Msg) (s : SlQ) {lo : Nat} (w : World) (hs : IsSl lo w s m.b) (hf : FtM m) :
    Calls Tryd.prog 42 #[msX m s] w fun e w' => ∃ s', e = .returned (msX m s') ∧ IsSl w.heap.size w' s' m.b ∧ Below w.heap.size w w' := toMessage_any m s w hs (by rw [← hs.1]; exact hf)
theorem eqMessage_ft (m : Msg) (s s' : SlQ) {lo lo' : Nat} (w : World) (hs : IsSl lo w s m.b) (hs' : IsSl lo' w s' m.b) (hf : FtM m) :
    Calls Tryd.prog 50 #[msX m s, msX m s'] w fun e w' => e = .returned (.bool true) ∧ Below w.heap.size w w' := eqMessage_same m s s' w hs hs' (by rw [← hs.1]; exact hf)
end Go.Proofs.YtmidjgpegdodcaaDoor
