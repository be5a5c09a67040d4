/- Messages: the laws' helpers: a message's size, a copy, whether two are the same; no conditions beyond those that each fact names · The draws of messages; no conditions beyond those that each fact names · The laws' helpers over slices of messages: their size, a copy, whether two are the same; no conditions beyond those that each fact names · Mailboxes: the laws' helpers: a mailbox's size, a copy, whether two are the same; no conditions beyond those that each fact names · The laws' helpers over slices of mailboxes: their size, a copy, whether two are the same; no conditions beyond those that each fact names. -/
import Derived.Test.YtilepbbcinbmhaaDoorMsa
import Derived.Test.YtilepbbcinbmhaaDoorDr5
namespace Go.Proofs.YtilepbbcinbmhaaDoor
open Go.RowKit

/-- How the reckoning of a size ends. -/
def SzQ (left : Int) (C : Prop) (w : World) (e : Ending) (w' : World) : Prop := ∃ r : Int, e = .returned (.int .i64 r) ∧ (r = -1 ∨ 0 ≤ r ∧ r ≤ left ∧ C) ∧ Below w.heap.size w w'

theorem szByteS_any (s : SlQ) (left : Int) (w : World) (h0 : 0 ≤ left) (h1 : left ≤ 1048576) (hn : s.2.1 ≤ maxLen) :
    Calls Tryd.prog 47 #[slW s, .int .i64 left] w fun e w' => SzQ left (s.2.1 ≤ 1048576) w e w' := by
  obtain ⟨a, n, cap⟩ := s
  dsimp only at *
  unfold maxLen at hn
  by_cases c1 : left - (n : Int) < 0
  · go_enter Tryd.func47, Tryd.ntmps47
    go_wp2
    go_ret
    exact ⟨-1, rfl, .inl rfl, by go_grown⟩
  · go_enter Tryd.func47, Tryd.ntmps47
    go_wp2
    go_ret
    exact ⟨left - (n : Int), rfl, .inr ⟨by omega, by omega, by omega⟩, by go_grown⟩

/-- A block of four cells, far on. -/
theorem qd_block {w W wr : World} {c0 c1 c2 c3 : Value} {t : TypeId} (hW : w.alloc (.cells #[c0, c1, c2, c3] t) = W) (hb : Below (w.heap.size + 1) W wr) :
    wr.cell? ⟨w.heap.size, 0, none⟩ = some c0 ∧ wr.cell? ⟨w.heap.size, 1, none⟩ = some c1 ∧ wr.cell? ⟨w.heap.size, 2, none⟩ = some c2 ∧ wr.cell? ⟨w.heap.size, 3, none⟩ = some c3 ∧ wr.frozen? ⟨w.heap.size, 0, none⟩ = false ∧ wr.frozen? ⟨w.heap.size, 1, none⟩ = false ∧ wr.frozen? ⟨w.heap.size, 2, none⟩ = false ∧ wr.frozen? ⟨w.heap.size, 3, none⟩ = false := by
  subst hW
  refine ⟨?_, ?_, ?_, ?_, ?_, ?_, ?_, ?_⟩
  · rw [hb.cell (p := ⟨w.heap.size, 0, none⟩) (by simp)]; simp
  · rw [hb.cell (p := ⟨w.heap.size, 1, none⟩) (by simp)]; simp
  · rw [hb.cell (p := ⟨w.heap.size, 2, none⟩) (by simp)]; simp
  · rw [hb.cell (p := ⟨w.heap.size, 3, none⟩) (by simp)]; simp
  · rw [hb.frozen (p := ⟨w.heap.size, 0, none⟩) (by simp)]; simp
  · rw [hb.frozen (p := ⟨w.heap.size, 1, none⟩) (by simp)]; simp
  · rw [hb.frozen (p := ⟨w.heap.size, 2, none⟩) (by simp)]; simp
  · rw [hb.frozen (p := ⟨w.heap.size, 3, none⟩) (by simp)]; simp
theorem qd_cells {wr : World} {sz : Nat} {x0 x1 x2 x3 : Value} (h0 : wr.cell? ⟨sz, 0, none⟩ = some x0) (h1 : wr.cell? ⟨sz, 1, none⟩ = some x1) (h2 : wr.cell? ⟨sz, 2, none⟩ = some x2) (h3 : wr.cell? ⟨sz, 3, none⟩ = some x3) (c t u v : Value) :
    (wr.setCell ⟨sz, 0, none⟩ c).cell? ⟨sz, 0, none⟩ = some c ∧ ((wr.setCell ⟨sz, 0, none⟩ c).setCell ⟨sz, 1, none⟩ t).cell? ⟨sz, 1, none⟩ = some t ∧
    (((wr.setCell ⟨sz, 0, none⟩ c).setCell ⟨sz, 1, none⟩ t).setCell ⟨sz, 2, none⟩ u).cell? ⟨sz, 2, none⟩ = some u ∧
    ((((wr.setCell ⟨sz, 0, none⟩ c).setCell ⟨sz, 1, none⟩ t).setCell ⟨sz, 2, none⟩ u).setCell ⟨sz, 3, none⟩ v).cell? ⟨sz, 3, none⟩ = some v := by
  have h1' : (wr.setCell ⟨sz, 0, none⟩ c).cell? ⟨sz, 1, none⟩ = some x1 := by simp [go_sem, h1]
  have h2' : ((wr.setCell ⟨sz, 0, none⟩ c).setCell ⟨sz, 1, none⟩ t).cell? ⟨sz, 2, none⟩ = some x2 := by simp [go_sem, h2]
  have h3' : (((wr.setCell ⟨sz, 0, none⟩ c).setCell ⟨sz, 1, none⟩ t).setCell ⟨sz, 2, none⟩ u).cell? ⟨sz, 3, none⟩ = some x3 := by simp [go_sem, h3]
  exact ⟨World.cell?_setCell_same _ _ _ h0, World.cell?_setCell_same _ _ _ h1', World.cell?_setCell_same _ _ _ h2', World.cell?_setCell_same _ _ _ h3'⟩
/-- Two blocks of four cells that were laid one behind the other, far on. -/
theorem qd_blocks {w0 w wr : World} {c0 c1 c2 c3 z0 z1 z2 z3 : Value} {o : Obj} {t t' : TypeId} (h0 : w = w0.alloc o)
    (hb : Below (w0.heap.size + 3) ((w.alloc (.cells #[z0, z1, z2, z3] t)).alloc (.cells #[c0, c1, c2, c3] t')) wr) :
    (wr.cell? ⟨w0.heap.size + 1, 0, none⟩ = some z0 ∧ wr.cell? ⟨w0.heap.size + 1, 1, none⟩ = some z1 ∧ wr.cell? ⟨w0.heap.size + 1, 2, none⟩ = some z2 ∧ wr.cell? ⟨w0.heap.size + 1, 3, none⟩ = some z3 ∧ wr.frozen? ⟨w0.heap.size + 1, 0, none⟩ = false ∧ wr.frozen? ⟨w0.heap.size + 1, 1, none⟩ = false ∧ wr.frozen? ⟨w0.heap.size + 1, 2, none⟩ = false ∧ wr.frozen? ⟨w0.heap.size + 1, 3, none⟩ = false) ∧
    (wr.cell? ⟨w0.heap.size + 1 + 1, 0, none⟩ = some c0 ∧ wr.cell? ⟨w0.heap.size + 1 + 1, 1, none⟩ = some c1 ∧ wr.cell? ⟨w0.heap.size + 1 + 1, 2, none⟩ = some c2 ∧ wr.cell? ⟨w0.heap.size + 1 + 1, 3, none⟩ = some c3 ∧ wr.frozen? ⟨w0.heap.size + 1 + 1, 0, none⟩ = false ∧ wr.frozen? ⟨w0.heap.size + 1 + 1, 1, none⟩ = false ∧ wr.frozen? ⟨w0.heap.size + 1 + 1, 2, none⟩ = false ∧ wr.frozen? ⟨w0.heap.size + 1 + 1, 3, none⟩ = false) := by
  have e1 : w.heap.size = w0.heap.size + 1 := by rw [h0]; simp
  have e2 : (w.alloc (.cells #[z0, z1, z2, z3] t)).heap.size = w0.heap.size + 1 + 1 := by simp [e1]
  have hA : Below (w.heap.size + 1) (w.alloc (.cells #[z0, z1, z2, z3] t)) wr := ((Below.refl _ _).alloc (by simp) _).trans (hb.mono (by omega))
  have k1 := qd_block rfl hA
  have k2 := qd_block (w := w.alloc (.cells #[z0, z1, z2, z3] t)) rfl (hb.mono (by omega))
  rw [e1] at k1
  rw [e2] at k2
  exact ⟨k1, k2⟩

/-- Four cells of a block. -/
def Qc (w : World) (g : Nat) (q : Qd) : Prop := w.cell? ⟨g, 0, none⟩ = some q.1 ∧ w.cell? ⟨g, 1, none⟩ = some q.2.1 ∧ w.cell? ⟨g, 2, none⟩ = some q.2.2.1 ∧ w.cell? ⟨g, 3, none⟩ = some q.2.2.2
theorem Qc.below {C : Nat} {w w' : World} {g : Nat} {q : Qd} (h : Qc w g q) (hb : Below C w w') (hg : g < C) : Qc w' g q :=
  ⟨(hb.cell (p := ⟨g, 0, none⟩) hg).trans h.1, (hb.cell (p := ⟨g, 1, none⟩) hg).trans h.2.1, (hb.cell (p := ⟨g, 2, none⟩) hg).trans h.2.2.1, (hb.cell (p := ⟨g, 3, none⟩) hg).trans h.2.2.2⟩
theorem Qc.new (w : World) (c0 c1 c2 c3 : Value) (t : TypeId) : Qc (w.alloc (.cells #[c0, c1, c2, c3] t)) w.heap.size (c0, c1, c2, c3) := ⟨by simp, by simp, by simp, by simp⟩
theorem Qc.lt {w : World} {g : Nat} {q : Qd} (h : Qc w g q) : g < w.heap.size := World.block_lt_of_cell? w ⟨g, 0, none⟩ h.1

/-- What the laws let through. -/
def FtM (m : Msg) : Prop := m.b.length ≤ 1048576
def OkM (_ : Msg) : Prop := True
end Go.Proofs.YtilepbbcinbmhaaDoor

namespace Go.Proofs.YtilepbbcinbmhaaDoor
open Go.RowKit
set_option linter.unusedVariables false

/-- How the draw of a message ends. -/
def MsgEnd (B b M : Nat) (uid : Int) (w : World) (e : Ending) (w' : World) : Prop := ∃ (m : Msg) (s : SlQ), e = .returned (msX m s) ∧ m.u = uid ∧ D0 (w.heap.size + 1) w' s m.b ∧ m.b.length ≤ 600 ∧ Go.Proofs.YtilepbbcinbmhaaDoor.Src w' B b M ∧ Kb b w w'

/-- Four cells that may be written, where all blocks but b stay. -/
theorem qd_kb {w w' : World} {b g : Nat} {c0 c1 c2 c3 : Value} (hk : Kb b w w') (hg : g ≠ b) (hlt : g < w.heap.size)
    (h : (w.cell? ⟨g, 0, none⟩ = some c0 ∧ w.cell? ⟨g, 1, none⟩ = some c1 ∧ w.cell? ⟨g, 2, none⟩ = some c2 ∧ w.cell? ⟨g, 3, none⟩ = some c3) ∧ w.frozen? ⟨g, 0, none⟩ = false ∧ w.frozen? ⟨g, 1, none⟩ = false ∧ w.frozen? ⟨g, 2, none⟩ = false ∧ w.frozen? ⟨g, 3, none⟩ = false) :
    (w'.cell? ⟨g, 0, none⟩ = some c0 ∧ w'.cell? ⟨g, 1, none⟩ = some c1 ∧ w'.cell? ⟨g, 2, none⟩ = some c2 ∧ w'.cell? ⟨g, 3, none⟩ = some c3) ∧ w'.frozen? ⟨g, 0, none⟩ = false ∧ w'.frozen? ⟨g, 1, none⟩ = false ∧ w'.frozen? ⟨g, 2, none⟩ = false ∧ w'.frozen? ⟨g, 3, none⟩ = false := by
  have e1 : ∀ i, w'.cell? ⟨g, i, none⟩ = w.cell? ⟨g, i, none⟩ := fun i => World.grownBy.cell_far hk ⟨g, i, none⟩ hlt (fun e => by injection e with e; exact hg e)
  have e2 : ∀ i, w'.frozen? ⟨g, i, none⟩ = w.frozen? ⟨g, i, none⟩ := fun i => World.grownBy.frozen_far hk ⟨g, i, none⟩ hlt (fun e => by injection e with e; exact hg e)
  rw [e1, e1, e1, e1, e2, e2, e2, e2]
  exact h

set_option maxHeartbeats 1600000 in
set_option maxRecDepth 100000 in
theorem l7DrawMessage_any (B b M : Nat) (uid : Int) (w : World) (hs : Go.Proofs.YtilepbbcinbmhaaDoor.Src w B b M) (hM : M ≤ 70000) :
    Calls Tryd.prog 63 #[.pointer (some ⟨b, 0, none⟩), .int .i64 uid] w fun e w' => MsgEnd B b (M + 210) uid w e w' := by
  have hbw : b < w.heap.size := hs.2.1
  have hbA : Below w.heap.size w (w.alloc (.cells #[.int .i64 0, .int .i64 0, .int .i64 0, .slice none 0 0] 44)) := (Below.refl _ _).alloc (Nat.le_refl _) _
  have hsA := hs.below (hbA.mono hbw)
  have hKA : Kb b w (w.alloc (.cells #[.int .i64 0, .int .i64 0, .int .i64 0, .slice none 0 0] 44)) := (Kb.refl b w).below hbA
  have hzA : (w.alloc (.cells #[.int .i64 0, .int .i64 0, .int .i64 0, .slice none 0 0] 44)).heap.size = w.heap.size + 1 := by simp
  have hqA : ((w.alloc (.cells #[.int .i64 0, .int .i64 0, .int .i64 0, .slice none 0 0] 44)).cell? ⟨w.heap.size, 0, none⟩ = some (.int .i64 0) ∧ (w.alloc (.cells #[.int .i64 0, .int .i64 0, .int .i64 0, .slice none 0 0] 44)).cell? ⟨w.heap.size, 1, none⟩ = some (.int .i64 0) ∧ (w.alloc (.cells #[.int .i64 0, .int .i64 0, .int .i64 0, .slice none 0 0] 44)).cell? ⟨w.heap.size, 2, none⟩ = some (.int .i64 0) ∧ (w.alloc (.cells #[.int .i64 0, .int .i64 0, .int .i64 0, .slice none 0 0] 44)).cell? ⟨w.heap.size, 3, none⟩ = some (.slice none 0 0)) ∧ (w.alloc (.cells #[.int .i64 0, .int .i64 0, .int .i64 0, .slice none 0 0] 44)).frozen? ⟨w.heap.size, 0, none⟩ = false ∧ (w.alloc (.cells #[.int .i64 0, .int .i64 0, .int .i64 0, .slice none 0 0] 44)).frozen? ⟨w.heap.size, 1, none⟩ = false ∧ (w.alloc (.cells #[.int .i64 0, .int .i64 0, .int .i64 0, .slice none 0 0] 44)).frozen? ⟨w.heap.size, 2, none⟩ = false ∧ (w.alloc (.cells #[.int .i64 0, .int .i64 0, .int .i64 0, .slice none 0 0] 44)).frozen? ⟨w.heap.size, 3, none⟩ = false := ⟨⟨by simp, by simp, by simp, by simp⟩, by simp, by simp, by simp, by simp⟩
  go_enter Tryd.func63, Tryd.ntmps63
  go_wp2_with fail
  generalize w.alloc (.cells #[.int .i64 0, .int .i64 0, .int .i64 0, .slice none 0 0] 44) = WA at *
  refine (l1Next_any B b M 16 WA hsA (by omega) (by omega) (by omega)).mono ?_
  rintro e w1 ⟨f, rfl, f0, f1, -, hs1, hg1⟩
  have hq1 := qd_kb hg1 (by omega) (by omega) hqA
  have hK1 := hKA.grown hg1
  have hz1 : w.heap.size + 1 ≤ w1.heap.size := by rw [← hzA]; exact hg1.size
  clear hsA hg1 hqA hKA hbA
  go_wp2_with fail
  refine (l1Next_any B b (M + 1) 50 w1 hs1 (by omega) (by omega) (by omega)).mono ?_
  rintro e w2 ⟨d, rfl, d0, d1, -, hs2, hg2⟩
  have hq2 := qd_kb hg2 (by omega) (by omega) hq1
  have hK2 := hK1.grown hg2
  have hz2 : w.heap.size + 1 ≤ w2.heap.size := Nat.le_trans hz1 hg2.size
  clear hs1 hg2 hq1 hK1
  go_wp2_with fail
  refine (l5Draw_any B b (M + 1 + 1) w2 hs2 (by omega)).mono ?_
  rintro e w3 ⟨⟨sa, sn, sc⟩, out, rfl, hd3, hl3, hs3, hk3⟩
  dsimp only [slW] at hd3 ⊢
  have hq3 := qd_kb hk3 (by omega) (by omega) hq2
  have hK3 := hK2.trans hk3
  have hz3 : w.heap.size + 1 ≤ w3.heap.size := Nat.le_trans hz2 hk3.size
  have hd3 := hd3.low (lo' := w.heap.size + 1) hz2
  have hs3 := hs3.more (show M + 1 + 1 + 200 ≤ M + 210 by omega)
  clear hs2 hq2 hK2 hk3
  obtain ⟨⟨c0, c1, c2, c3⟩, y0, y1, y2, y3⟩ := hq3
  obtain ⟨q0, q1, q2, q3⟩ := qd_cells (sz := w.heap.size) c0 c1 c2 c3 (.int .i64 uid) (.int .i64 f) (.int .i64 d) (.slice sa sn sc)
  have hB4 : Below w.heap.size w3 ((((w3.setCell ⟨w.heap.size, 0, none⟩ (.int .i64 uid)).setCell ⟨w.heap.size, 1, none⟩ (.int .i64 f)).setCell ⟨w.heap.size, 2, none⟩ (.int .i64 d)).setCell ⟨w.heap.size, 3, none⟩ (.slice sa sn sc)) := ((((Below.refl _ _).setCell (by simp) _).setCell (by simp) _).setCell (by simp) _).setCell (by simp) _
  have hZ4 : Kz (w.heap.size + 1) isU8 w3 ((((w3.setCell ⟨w.heap.size, 0, none⟩ (.int .i64 uid)).setCell ⟨w.heap.size, 1, none⟩ (.int .i64 f)).setCell ⟨w.heap.size, 2, none⟩ (.int .i64 d)).setCell ⟨w.heap.size, 3, none⟩ (.slice sa sn sc)) := (((Kz.set _ _ (by omega)).trans (Kz.set _ _ (by omega))).trans (Kz.set _ _ (by omega))).trans (Kz.set _ _ (by omega))
  have HD : Hid (_) := And.intro (hd3.kz hZ4) (And.intro (hs3.below (hB4.mono hbw)) (hK3.below' hB4))
  clear hd3 hs3 hK3 hB4 hZ4
  go_wp2
  refine bodyPost_ret (v := .agg #[.int .i64 uid, .int .i64 f, .int .i64 d, .slice sa sn sc]) (by simp [results, Tryd.results63, go_sem, q0, q1, q2, q3]) rfl ?_
  exact ⟨⟨uid, f, d, out⟩, (sa, sn, sc), rfl, rfl, HD.out.1, hl3, HD.out.2.1, HD.out.2.2⟩
end Go.Proofs.YtilepbbcinbmhaaDoor

namespace Go.Proofs.YtilepbbcinbmhaaDoor
open Go.RowKit

/-- What the laws let through. -/
def FtMs (l : List Msg) : Prop := l.length ≤ 1048576 ∧ ∀ i, i < l.length → FtM (nthM l i)

theorem infoMessage : (Tryd.prog.info? 44).map (fun i => (i.zero, i.size, i.bytes)) = some (some (.agg #[.int .i64 0, .int .i64 0, .int .i64 0, .slice none 0 0]), 4, 48) := by kernel_rfl
abbrev zMessage : Qd := (.int .i64 0, .int .i64 0, .int .i64 0, .slice none 0 0)

end Go.Proofs.YtilepbbcinbmhaaDoor

namespace Go.Proofs.YtilepbbcinbmhaaDoor
open Go.RowKit

/-- What the laws let through. -/
def FtX (m : Bx) : Prop := m.n.size ≤ 1048576 ∧ FtMs m.m
def OkX (m : Bx) : Prop := m.n.size ≤ maxLen

end Go.Proofs.YtilepbbcinbmhaaDoor

namespace Go.Proofs.YtilepbbcinbmhaaDoor
open Go.RowKit

/-- What the laws let through. -/
def FtXs (l : List Bx) : Prop := l.length ≤ 1048576 ∧ ∀ i, i < l.length → FtX (nthX l i)

theorem infoBox : (Tryd.prog.info? 39).map (fun i => (i.zero, i.size, i.bytes)) = some (some (.agg #[.string ByteArray.empty, .int .i64 0, .int .i64 0, .slice none 0 0]), 4, 56) := by kernel_rfl
abbrev zBox : Qd := (.string ByteArray.empty, .int .i64 0, .int .i64 0, .slice none 0 0)

end Go.Proofs.YtilepbbcinbmhaaDoor
