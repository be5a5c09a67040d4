/- Messages: the laws' helpers: a message's size, a copy, whether two are the same; no conditions beyond those that each fact names · Words that were told are read back; what is read is of characters: plain functions, with no program in them · ComesAhead, the program's and the model's: by one plain function. -/
import Derived.Test.YtfbjodbihenmjaaGreatDoorMqrToMsa
import Derived.Test.YtfbjodbihenmjaaGreatDoorWrd6ToWpv
import Derived.Test.YtfbjodbihenmjaaGreatDoorWpEToEwp
import Derived.Test.YtfbjodbihenmjaaGreatDoorDecLToWpm
import Derived.Test.YtfbjodbihenmjaaGreatDoorSeeToSbj
import Derived.Test.YtfbjodbihenmjaaGreatDoorCmpToCmp2
namespace Go.Proofs.YtfbjodbihenmjaaGreatDoor
open Go.RowKit

/-- How the reckoning of a size ends. -/
def SzQ (left : Int) (C : Prop) (w : World) (e : Ending) (w' : World) : Prop := ∃ r : Int, e = .returned (.int .i64 r) ∧ (r = -1 ∨ 0 ≤ r ∧ r ≤ left ∧ C) ∧ Below w.heap.size w w'

theorem szByteS_any (s : SlQ) (left : Int) (w : World) (h0 : 0 ≤ left) (h1 : left ≤ 1048576) (hn : s.2.1 ≤ maxLen) :
    Calls Tryz.prog 34 #[slW s, .int .i64 left] w fun e w' => SzQ left (s.2.1 ≤ 1048576) w e w' := by
  obtain ⟨a, n, cap⟩ := s
  dsimp only at *
  unfold maxLen at hn
  by_cases c1 : left - (n : Int) < 0
  · go_enter Tryz.func34, Tryz.ntmps34
    go_wp2
    go_ret
    exact ⟨-1, rfl, .inl rfl, by go_grown⟩
  · go_enter Tryz.func34, Tryz.ntmps34
    go_wp2
    go_ret
    exact ⟨left - (n : Int), rfl, .inr ⟨by omega, by omega, by omega⟩, by go_grown⟩

set_option maxHeartbeats 800000 in
set_option maxRecDepth 100000 in
theorem szMessage_any (m : Msg) (s : SlQ) (left : Int) (w : World) (h0 : 0 ≤ left) (h1 : left ≤ 1048576) (hn : s.2.1 ≤ maxLen) :
    Calls Tryz.prog 14 #[msX m s, .int .i64 left] w fun e w' => SzQ left (s.2.1 ≤ 1048576) w e w' := by
  have HC := szByteS_any s left (w.alloc (.cells #[.int .i64 m.u, .int .i64 m.f, .int .i64 m.d, slW s] 37)) h0 h1 hn
  have hb0 : Below w.heap.size w (w.alloc (.cells #[.int .i64 m.u, .int .i64 m.f, .int .i64 m.d, slW s] 37)) := (Below.refl _ _).alloc (Nat.le_refl _) _
  go_enter Tryz.func14, Tryz.ntmps14
  go_wp2_with fail
  refine HC.mono ?_
  rintro e w1 ⟨r, rfl, hcase, hb1⟩
  have hbw := hb0.trans (hb1.mono hb0.size)
  clear HC hb0 hb1
  rcases hcase with rfl | ⟨q0, q1, q2⟩
  · go_wp2
    go_ret
    exact ⟨-1, rfl, .inl rfl, hbw⟩
  · have hneg : ¬ r < 0 := by omega
    go_wp2
    go_ret
    exact ⟨r, rfl, .inr ⟨q0, q1, q2⟩, hbw⟩

/-- A block of four cells, far on. -/
theorem qd_block {w W wr : World} {c0 c1 c2 c3 : Value} {t : TypeId} (hW : w.alloc (.cells #[c0, c1, c2, c3] t) = W) (hb : Below (w.heap.size + 1) W wr) :
    wr.cell? ⟨w.heap.size, 0, none⟩ = some c0 ∧ wr.cell? ⟨w.heap.size, 1, none⟩ = some c1 ∧ wr.cell? ⟨w.heap.size, 2, none⟩ = some c2 ∧ wr.cell? ⟨w.heap.size, 3, none⟩ = some c3 ∧ wr.frozen? ⟨w.heap.size, 0, none⟩ = false ∧ wr.frozen? ⟨w.heap.size, 1, none⟩ = false ∧ wr.frozen? ⟨w.heap.size, 2, none⟩ = false ∧ wr.frozen? ⟨w.heap.size, 3, none⟩ = false := by
  subst hW
  refine ⟨?_, ?_, ?_, ?_, ?_, ?_, ?_, ?_⟩
  · rw [hb.cell (p := ⟨w.heap.size, 0, none⟩) (by simp)]; simp
  · rw [hb.cell (p := ⟨w.heap.size, 1, none⟩) (by simp)]; simp
  · rw [hb.cell (p := ⟨w.heap.size, 2, none⟩) (by simp)]; simp
  · rw [hb.cell (p := ⟨w.heap.size, 3, none⟩) (by simp)]; simp
  · rw [hb.frozen (p := ⟨w.heap.size, 0, none⟩) (by simp)]; simp
  · rw [hb.frozen (p := ⟨w.heap.size, 1, none⟩) (by simp)]; simp
  · rw [hb.frozen (p := ⟨w.heap.size, 2, none⟩) (by simp)]; simp
  · rw [hb.frozen (p := ⟨w.heap.size, 3, none⟩) (by simp)]; simp
theorem qd_cells {wr : World} {sz : Nat} {x0 x1 x2 x3 : Value} (h0 : wr.cell? ⟨sz, 0, none⟩ = some x0) (h1 : wr.cell? ⟨sz, 1, none⟩ = some x1) (h2 : wr.cell? ⟨sz, 2, none⟩ = some x2) (h3 : wr.cell? ⟨sz, 3, none⟩ = some x3) (c t u v : Value) :
    (wr.setCell ⟨sz, 0, none⟩ c).cell? ⟨sz, 0, none⟩ = some c ∧ ((wr.setCell ⟨sz, 0, none⟩ c).setCell ⟨sz, 1, none⟩ t).cell? ⟨sz, 1, none⟩ = some t ∧
    (((wr.setCell ⟨sz, 0, none⟩ c).setCell ⟨sz, 1, none⟩ t).setCell ⟨sz, 2, none⟩ u).cell? ⟨sz, 2, none⟩ = some u ∧
    ((((wr.setCell ⟨sz, 0, none⟩ c).setCell ⟨sz, 1, none⟩ t).setCell ⟨sz, 2, none⟩ u).setCell ⟨sz, 3, none⟩ v).cell? ⟨sz, 3, none⟩ = some v := by
  have h1' : (wr.setCell ⟨sz, 0, none⟩ c).cell? ⟨sz, 1, none⟩ = some x1 := by simp [go_sem, h1]
  have h2' : ((wr.setCell ⟨sz, 0, none⟩ c).setCell ⟨sz, 1, none⟩ t).cell? ⟨sz, 2, none⟩ = some x2 := by simp [go_sem, h2]
  have h3' : (((wr.setCell ⟨sz, 0, none⟩ c).setCell ⟨sz, 1, none⟩ t).setCell ⟨sz, 2, none⟩ u).cell? ⟨sz, 3, none⟩ = some x3 := by simp [go_sem, h3]
  exact ⟨World.cell?_setCell_same _ _ _ h0, World.cell?_setCell_same _ _ _ h1', World.cell?_setCell_same _ _ _ h2', World.cell?_setCell_same _ _ _ h3'⟩
/-- Two blocks of four cells that were laid one behind the other, far on. -/
theorem qd_blocks {w0 w wr : World} {c0 c1 c2 c3 z0 z1 z2 z3 : Value} {o : Obj} {t t' : TypeId} (h0 : w = w0.alloc o)
    (hb : Below (w0.heap.size + 3) ((w.alloc (.cells #[z0, z1, z2, z3] t)).alloc (.cells #[c0, c1, c2, c3] t')) wr) :
    (wr.cell? ⟨w0.heap.size + 1, 0, none⟩ = some z0 ∧ wr.cell? ⟨w0.heap.size + 1, 1, none⟩ = some z1 ∧ wr.cell? ⟨w0.heap.size + 1, 2, none⟩ = some z2 ∧ wr.cell? ⟨w0.heap.size + 1, 3, none⟩ = some z3 ∧ wr.frozen? ⟨w0.heap.size + 1, 0, none⟩ = false ∧ wr.frozen? ⟨w0.heap.size + 1, 1, none⟩ = false ∧ wr.frozen? ⟨w0.heap.size + 1, 2, none⟩ = false ∧ wr.frozen? ⟨w0.heap.size + 1, 3, none⟩ = false) ∧
    (wr.cell? ⟨w0.heap.size + 1 + 1, 0, none⟩ = some c0 ∧ wr.cell? ⟨w0.heap.size + 1 + 1, 1, none⟩ = some c1 ∧ wr.cell? ⟨w0.heap.size + 1 + 1, 2, none⟩ = some c2 ∧ wr.cell? ⟨w0.heap.size + 1 + 1, 3, none⟩ = some c3 ∧ wr.frozen? ⟨w0.heap.size + 1 + 1, 0, none⟩ = false ∧ wr.frozen? ⟨w0.heap.size + 1 + 1, 1, none⟩ = false ∧ wr.frozen? ⟨w0.heap.size + 1 + 1, 2, none⟩ = false ∧ wr.frozen? ⟨w0.heap.size + 1 + 1, 3, none⟩ = false) := by
  have e1 : w.heap.size = w0.heap.size + 1 := by rw [h0]; simp
  have e2 : (w.alloc (.cells #[z0, z1, z2, z3] t)).heap.size = w0.heap.size + 1 + 1 := by simp [e1]
  have hA : Below (w.heap.size + 1) (w.alloc (.cells #[z0, z1, z2, z3] t)) wr := ((Below.refl _ _).alloc (by simp) _).trans (hb.mono (by omega))
  have k1 := qd_block rfl hA
  have k2 := qd_block (w := w.alloc (.cells #[z0, z1, z2, z3] t)) rfl (hb.mono (by omega))
  rw [e1] at k1
  rw [e2] at k2
  exact ⟨k1, k2⟩

set_option maxHeartbeats 1600000 in
set_option maxRecDepth 100000 in
theorem toMessage_any (m : Msg) (s : SlQ) {lo : Nat} (w : World) (hs : IsSl lo w s m.b) (hn : s.2.1 ≤ 1048576) :
    Calls Tryz.prog 15 #[msX m s] w fun e w' => ∃ s', e = .returned (msX m s') ∧ IsSl w.heap.size w' s' m.b ∧ Below w.heap.size w w' := by
  have hbW : Below w.heap.size w (((w.alloc (.cells #[.int .i64 m.u, .int .i64 m.f, .int .i64 m.d, slW s] 37)).alloc (.cells #[.int .i64 0, .int .i64 0, .int .i64 0, .slice none 0 0] 25)).alloc (.cells #[.int .i64 m.u, .int .i64 m.f, .int .i64 m.d, .slice none 0 0] 25)) :=
    (((Below.refl _ _).alloc (Nat.le_refl _) _).alloc (by simp) _).alloc (by simp; omega) _
  have hsz : (((w.alloc (.cells #[.int .i64 m.u, .int .i64 m.f, .int .i64 m.d, slW s] 37)).alloc (.cells #[.int .i64 0, .int .i64 0, .int .i64 0, .slice none 0 0] 25)).alloc (.cells #[.int .i64 m.u, .int .i64 m.f, .int .i64 m.d, .slice none 0 0] 25)).heap.size = w.heap.size + 3 := by simp
  have HC := toByteS_any s.1 s.2.1 s.2.2 m.b _ hs.1 (hs.2.2.2.2.1.below hbW) hn
  go_enter Tryz.func15, Tryz.ntmps15
  go_wp2_with fail
  refine HC.mono ?_
  rintro e w1 ⟨rfl, hr, hb1⟩
  rw [hsz] at hb1 hr ⊢
  obtain ⟨⟨z0, z1, z2, z3, y0, y1, y2, y3⟩, ⟨k0, k1, k2, k3, x0, x1, x2, x3⟩⟩ := qd_blocks rfl hb1
  have hz : w.heap.size + 3 ≤ w1.heap.size := by rw [← hsz]; exact hb1.size
  have hbw : Below w.heap.size w w1 := hbW.trans (hb1.mono (by omega))
  have HS : Hid (IsSl (w.heap.size + 3) w1 (some ⟨w.heap.size + 3, 0, none⟩, s.2.1, s.2.1) m.b) := ⟨hs.1, Nat.le_refl _, by dsimp only; unfold maxLen; omega, hs.2.2.2.1, Rd.own hr, fun x hx => by cases hx; exact Nat.le_refl _⟩
  clear HC hb1 hbW hsz hr hs
  have hg1 : w.heap.size + 1 + 1 ≠ w.heap.size + 1 := by omega
  have k3' := World.cell?_setCell_same _ _ (slW (some ⟨w.heap.size + 3, 0, none⟩, s.2.1, s.2.1)) k3
  obtain ⟨q0, q1, q2, q3⟩ := qd_cells (wr := w1.setCell ⟨w.heap.size + 1 + 1, 3, none⟩ (slW (some ⟨w.heap.size + 3, 0, none⟩, s.2.1, s.2.1))) (sz := w.heap.size + 1) ((World.cell?_setCell_other _ _ _ _ (by simp)).trans z0) ((World.cell?_setCell_other _ _ _ _ (by simp)).trans z1) ((World.cell?_setCell_other _ _ _ _ (by simp)).trans z2) ((World.cell?_setCell_other _ _ _ _ (by simp)).trans z3) (.int .i64 m.u) (.int .i64 m.f) (.int .i64 m.d) (slW (some ⟨w.heap.size + 3, 0, none⟩, s.2.1, s.2.1))
  dsimp only [slW] at q0 q1 q2 q3 k3'
  go_wp2
  refine bodyPost_ret (v := .agg #[.int .i64 m.u, .int .i64 m.f, .int .i64 m.d, .slice (some ⟨w.heap.size + 3, 0, none⟩) s.2.1 s.2.1]) (by simp [results, Tryz.results15, go_sem, q0, q1, q2, q3]) rfl ?_
  refine ⟨(some ⟨w.heap.size + 3, 0, none⟩, s.2.1, s.2.1), rfl, (HS.out.near ?_).low (by omega), ?_⟩
  · exact ((((Near.set _ (by omega)).trans (Near.set _ (by omega))).trans (Near.set _ (by omega))).trans (Near.set _ (by omega))).trans (Near.set _ (by omega))
  · exact ((((hbw.setCell (by simp; omega) _).setCell (by simp) _).setCell (by simp) _).setCell (by simp) _).setCell (by simp) _

set_option maxHeartbeats 1600000 in
set_option maxRecDepth 100000 in
theorem eqMessage_same (m : Msg) (s s' : SlQ) {lo lo' : Nat} (w : World) (hs : IsSl lo w s m.b) (hs' : IsSl lo' w s' m.b) (hn : s.2.1 ≤ 1048576) :
    Calls Tryz.prog 16 #[msX m s, msX m s'] w fun e w' => e = .returned (.bool true) ∧ Below w.heap.size w w' := by
  have hbW : Below w.heap.size w (((w.alloc (.cells #[.int .i64 m.u, .int .i64 m.f, .int .i64 m.d, slW s] 25)).alloc (.cells #[.int .i64 m.u, .int .i64 m.f, .int .i64 m.d, slW s'] 25))) :=
    ((Below.refl _ _).alloc (Nat.le_refl _) _).alloc (by simp) _
  have HC := eqByteS_same s.1 s'.1 s.2.1 s.2.2 s'.2.2 m.b _ hs.1 (hs.2.2.2.2.1.below hbW) (hs'.2.2.2.2.1.below hbW) hn
  have he : s'.2.1 = s.2.1 := by rw [← hs.1, ← hs'.1]
  obtain ⟨a', n', c'⟩ := s'
  dsimp only at he
  subst he
  go_enter Tryz.func16, Tryz.ntmps16
  go_wp2_with fail
  refine HC.mono ?_
  rintro e w1 ⟨rfl, hb1⟩
  have hbw := hbW.trans (hb1.mono hbW.size)
  clear HC hb1 hbW
  go_wp2
  go_ret
  exact ⟨rfl, hbw⟩

/-- Four cells of a block. -/
def Qc (w : World) (g : Nat) (q : Qd) : Prop := w.cell? ⟨g, 0, none⟩ = some q.1 ∧ w.cell? ⟨g, 1, none⟩ = some q.2.1 ∧ w.cell? ⟨g, 2, none⟩ = some q.2.2.1 ∧ w.cell? ⟨g, 3, none⟩ = some q.2.2.2
theorem Qc.below {C : Nat} {w w' : World} {g : Nat} {q : Qd} (h : Qc w g q) (hb : Below C w w') (hg : g < C) : Qc w' g q :=
  ⟨(hb.cell (p := ⟨g, 0, none⟩) hg).trans h.1, (hb.cell (p := ⟨g, 1, none⟩) hg).trans h.2.1, (hb.cell (p := ⟨g, 2, none⟩) hg).trans h.2.2.1, (hb.cell (p := ⟨g, 3, none⟩) hg).trans h.2.2.2⟩
theorem Qc.new (w : World) (c0 c1 c2 c3 : Value) (t : TypeId) : Qc (w.alloc (.cells #[c0, c1, c2, c3] t)) w.heap.size (c0, c1, c2, c3) := ⟨by simp, by simp, by simp, by simp⟩
theorem Qc.lt {w : World} {g : Nat} {q : Qd} (h : Qc w g q) : g < w.heap.size := World.block_lt_of_cell? w ⟨g, 0, none⟩ h.1

/-- What the laws let through. -/
def FtM (m : Msg) : Prop := m.b.length ≤ 1048576
def OkM (_ : Msg) : Prop := True
theorem szMessage_ft (m : Msg) (s : SlQ) (left : Int) {lo : Nat} (w : World) (h0 : 0 ≤ left) (h1 : left ≤ 1048576) (hs : IsSl lo w s m.b) (_ : OkM m) :
    Calls Tryz.prog 14 #[msX m s, .int .i64 left] w fun e w' => SzQ left (FtM m) w e w' :=
  (szMessage_any m s left w h0 h1 (Nat.le_trans hs.2.1 hs.2.2.1)).mono fun _ _ ⟨r, he, hc, hb⟩ => ⟨r, he, hc.imp id (fun ⟨q0, q1, q2⟩ => ⟨q0, q1, by unfold FtM; rw [hs.1]; exact q2⟩), hb⟩
theorem toMessage_ft (m : Msg) (s : SlQ) {lo : Nat} (w : World) (hs : IsSl lo w s m.b) (hf : FtM m) :
    Calls Tryz.prog 15 #[msX m s] w fun e w' => ∃ s', e = .returned (msX m s') ∧ IsSl w.heap.size w' s' m.b ∧ Below w.heap.size w w' := toMessage_any m s w hs (by rw [← hs.1]; exact hf)
theorem eqMessage_ft (m : Msg) (s s' : SlQ) {lo lo' : Nat} (w : World) (hs : IsSl lo w s m.b) (hs' : IsSl lo' w s' m.b) (hf : FtM m) :
    Calls Tryz.prog 16 #[msX m s, msX m s'] w fun e w' => e = .returned (.bool true) ∧ Below w.heap.size w w' := eqMessage_same m s s' w hs hs' (by rw [← hs.1]; exact hf)
end Go.Proofs.YtfbjodbihenmjaaGreatDoor

namespace Go.Proofs.YtfbjodbihenmjaaGreatDoor
open Go.RowKit

theorem cuV_chr (v : List Nat) : chr (cuV v).1 = true := by
  by_cases h : (rdC 4 v).2 = 0
  · rw [cuV_no h]; decide
  · rw [cuV_yes h]
    unfold rdC at h ⊢
    split at h
    · exact absurd rfl h
    · rename_i hn
      rw [if_neg hn]
      cases hx : chr ((gss 4 v).1 : Int)
      · exact absurd (.inr (.inl hx)) hn
      · rfl
theorem words_chr : ∀ (f : Nat) (b : Bool) (v : List Nat), ∀ x ∈ wdsM wdV cuV f b v, chr x = true := by
  intro f
  induction f with
  | zero => intro b v x hx; cases hx
  | succ f ih =>
    intro b v x hx
    by_cases hv : v.length = 0
    · rw [wdsM_nil hv] at hx; cases hx
    · cases hw : wdV (skp wdV b v) with
      | some r =>
        rw [wdsM_word hv hw] at hx
        obtain ⟨_, _, bs, _, hd, _⟩ := wdV_some hw
        rcases List.mem_append.1 hx with h | h
        · exact (decL_told bs.length bs r.1 (Nat.le_refl _) hd).2.1 x h
        · exact ih _ _ x h
      | none =>
        rw [wdsM_char hv hw] at hx
        rcases List.mem_cons.1 hx with h | h
        · rw [h]; exact cuV_chr _
        · exact ih _ _ x h
/-- What DecodeWords answers without a code has no fault. -/
theorem dw_fault (t : List Nat) (hB : IsB t) (h : (dwV t).1 = 0) : flt (dwV t).2 = 0 := by
  by_cases h4 : 400 < t.length
  · rw [dwV_many h4] at h; cases h
  · rw [dwV_ok h4]
    have := words_few t hB t.length false
    refine flt_ok (by show ¬ 400 < (wdsM wdV cuV t.length false t).length; omega) ?_
    exact List.all_eq_true.2 (fun x hx => words_chr _ _ _ x hx)
theorem enc_noQu : ∀ l : List Nat, IsB l → (Xf.enc l).all noQu = true
  | [], _ => rfl
  | [a], h => by
    have ha := h a (by simp)
    have d : ∀ v, v < 64 → noQu (Xf.dig v) = true := by decide
    rw [Xf.enc, List.all_cons, List.all_cons, d _ (by omega), d _ (by omega)]; rfl
  | [a, b], h => by
    have ha := h a (by simp)
    have hb := h b (by simp)
    have d : ∀ v, v < 64 → noQu (Xf.dig v) = true := by decide
    rw [Xf.enc, List.all_cons, List.all_cons, List.all_cons, d _ (by omega), d _ (by omega), d _ (by omega)]; rfl
  | a :: b :: c :: r, h => by
    have ha := h a (by simp)
    have hb := h b (by simp)
    have hc := h c (by simp)
    have d : ∀ v, v < 64 → noQu (Xf.dig v) = true := by decide
    rw [Xf.enc, List.all_cons, List.all_cons, List.all_cons, List.all_cons, d _ (by omega), d _ (by omega), d _ (by omega), d _ (by omega), enc_noQu r (fun x hx => h x (by simp [hx]))]; rfl
theorem csI_utf8 : csI (str (([117, 116, 102, 45, 56] : List Nat).map low)) = 4 := by kernel_rfl
/-- One told word, read back. -/
theorem wd_told (l : List Int) (o : List Nat) (ho : IsB o) (hd : decL 4 o = some l) : wdV (toldW o) = some (l, (toldW o).length) := by
  have hv : toldW o = 61 :: 63 :: ([117, 116, 102, 45, 56] ++ 63 :: (66 :: 63 :: (Xf.enc o ++ 63 :: (61 :: [])))) := by
    unfold toldW twB
    simp
  obtain ⟨hA, hZ, hf, hq1, hqc, hq3, hlen⟩ := wd_form [117, 116, 102, 45, 56] (Xf.enc o) [] 66 (by decide) (enc_noQu o ho) (toldW o) hv
  have hc : wdC (toldW o) = 4 := by unfold wdC; rw [hq1]; exact csI_utf8
  have hb : wdB (toldW o) = some o := by unfold wdB; rw [hqc, hq3, toldV_b (.inl rfl)]; exact Xf.dec_enc o ho
  rw [wdV_dec hf (by rw [hc]; decide) hb, hc, hd, hlen]
  rfl
theorem no_eqq {v : List Nat} (h : eqq v = false) (k : Nat) : ¬ (nth v k = 61 ∧ nth v (k + 1) = 63) := fun e => by
  have := (eqq_iff v).2 ⟨k, e⟩
  rw [h] at this; cases this
theorem wd_none {v : List Nat} (h : eqq v = false) (k : Nat) : wdV (v.drop k) = none := by
  refine wdV_form (fun hf => ?_)
  have := (wdF_at v k).1 hf
  exact no_eqq h k ⟨this.1, this.2.1⟩
theorem eqq_drop {v : List Nat} (h : eqq v = false) (k : Nat) : eqq (v.drop k) = false := by
  cases e : eqq (v.drop k) with
  | false => rfl
  | true =>
    obtain ⟨j, h1, h2⟩ := (eqq_iff _).1 e
    rw [nth_drop] at h1 h2
    exact absurd ⟨h1, h2⟩ (no_eqq h (k + j))
/-- A text without told words is read as it stands. -/
theorem wds_self : ∀ (f : Nat) (b : Bool) (v : List Nat), v.length ≤ f → v.all bosB = true → eqq v = false → wdsM wdV cuV f b v = asI v
  | 0, _, v, h, _, _ => by
    have : v = [] := List.eq_nil_of_length_eq_zero (by omega)
    subst this; rfl
  | f + 1, b, v, h, ha, he => by
    match v, h, ha, he with
    | [], _, _, _ => exact wdsM_nil rfl
    | c :: r, h, ha, he =>
      have hs : skp wdV b (c :: r) = c :: r := skp_no (fun hx => by rw [wd_none he] at hx; cases hx.2.2)
      have h0 : wdV (c :: r) = none := wd_none (k := 0) he
      rw [List.all_cons, Bool.and_eq_true] at ha
      have hc := of_decide_eq_true ha.1
      have e := rdC_4_one (l := c :: r) (by simp) (by show c < 128; omega)
      have hcu : cuV (c :: r) = ((c : Int), 1) := by rw [cuV_yes (by rw [e]; simp), e]; rfl
      rw [wdsM_char (by simp) (by rw [hs]; exact h0), hs, hcu]
      have ih := wds_self f false r (by rw [List.length_cons] at h; omega) ha.2 (eqq_drop he 1)
      show (c : Int) :: wdsM wdV cuV f false r = asI (c :: r)
      rw [ih]; rfl
theorem asI_back : ∀ l : List Int, l.all slfB = true → asI (l.map Int.toNat) = l
  | [], _ => rfl
  | c :: l, h => by
    rw [List.all_cons, Bool.and_eq_true] at h
    have hc := of_decide_eq_true h.1
    have ih := asI_back l h.2
    show ((c.toNat : Nat) : Int) :: asI (l.map Int.toNat) = c :: l
    rw [ih, Int.toNat_of_nonneg (by omega)]
/-- What EncodeWords tells, DecodeWords reads. -/
theorem dw_ew (l : List Int) (h : (ewV l).1 = 0) : dwV (ewV l).2 = (0, l) := by
  by_cases hz : (encT 4 l).1 = 0
  · obtain ⟨hf, he, hlen⟩ := encT_zero hz
    have hch := (flt_zero hf).2
    cases hs : sfV l with
    | true =>
      rw [ewV_self hz hs]
      have hs' := hs
      rw [sfV_eq, Bool.and_eq_true, Bool.not_eq_true'] at hs'
      have ht : (encT 4 l).2 = l.map Int.toNat := by rw [he, flat_self l hs'.1]
      rw [dwV_ok (by show ¬ 400 < (encT 4 l).2.length; omega)]
      simp only
      rw [ht]
      have hb : (l.map Int.toNat).all bosB = true := by
        rw [← flat_self l hs'.1, flat_bos l hch]; exact hs'.1
      rw [wds_self _ _ _ (Nat.le_refl _) hb hs'.2, asI_back l hs'.1]
    | false =>
      by_cases h4 : 400 < (toldW (encT 4 l).2).length
      · rw [ewV_many hz hs h4] at h; cases h
      · rw [ewV_told hz hs h4]
        have hB := encT_isB hz
        have hd : decL 4 (encT 4 l).2 = some l := by
          rw [he]; exact decL_tell (by decide) l hch (fun x _ => by rw [hasC_4]; rfl)
        generalize (encT 4 l).2 = o at *
        have hw := wd_told l o hB hd
        have hl := toldW_len o
        rw [dwV_ok h4]
        obtain ⟨n, hn⟩ : ∃ n, (toldW o).length = n + 1 := ⟨(toldW o).length - 1, by omega⟩
        rw [hn, wdsM_word (by omega) (by rw [skp_false]; exact hw), wdsM_nil (by rw [skp_false, List.length_drop]; omega), List.append_nil]
  · rw [ewV_bad hz] at h; exact absurd h hz
end Go.Proofs.YtfbjodbihenmjaaGreatDoor

namespace Go.Proofs.YtfbjodbihenmjaaGreatDoor
open Go.RowKit

/-- How two messages compare by a key: below 0 if the first is ahead. -/
def ahV (k key : Int) (m n : Msg) : Int := if key = 1 then cmp1 m.d n.d else if key = 2 then cmp1 (m.b.length : Int) (n.b.length : Int) else if key = 3 then cmpL ((sbV m.b).2.map (mapC k)) ((sbV n.b).2.map (mapC k)) else cmp1 m.u n.u
/-- Whether the first comes ahead of the second. -/
def caV (k key : Int) (m n : Msg) : Bool := decide (mfV m = 0 ∧ mfV n = 0 ∧ (1 ≤ k ∧ k ≤ 3) ∧ (1 ≤ key ∧ key ≤ 4) ∧ ahV k key m n < 0)
theorem sbV_flt (d : List Nat) : flt (sbV d).2 = 0 := by
  unfold sbV
  split
  · unfold sbF
    cases h : fdOf (phV d).2.2 wsb with
    | none => rfl
    | some v =>
      dsimp only
      by_cases hz : (dwV (bts v)).1 = 0
      · exact dw_fault _ (bts_isB v) hz
      · rw [dwV_zero hz]; rfl
  · rfl
theorem compareNumbers_any (x y : Int) (w : World) : Calls Tryz.prog 39 #[.int .i64 x, .int .i64 y] w fun e w' => e = .returned (.int .i64 (cmp1 x y)) ∧ w = w' := by
  have HC := compare64_any x y
  generalize cmp1 x y = r at *
  go_enter Tryz.func39, Tryz.ntmps39
  go_wp2_with fail
  refine (HC _).mono ?_
  rintro e w' ⟨rfl, rfl⟩
  go_wp2
  go_ret
  exact ⟨rfl, rfl⟩
theorem fldC1 (x y : Value) (w : World) : (Instr.field 70 (.agg #[x, y]) 1).run Tryz.prog w = .ok y w := by
  simp [Instr.field, asAgg, go_sem]
theorem fldI1 (x y : Value) (w : World) : (Instr.field 67 (.agg #[x, y]) 1).run Tryz.prog w = .ok y w := by
  simp [Instr.field, asAgg, go_sem]
theorem keep3 {w w' : World} {B : Nat} {x0 x1 x2 : Option Value} (hb : Below w.heap.size w w') (hB : B + 3 ≤ w.heap.size)
    (h : w.cell? ⟨B, 0, none⟩ = x0 ∧ w.cell? ⟨B + 1, 3, none⟩ = x1 ∧ w.cell? ⟨B + 2, 3, none⟩ = x2) : w'.cell? ⟨B, 0, none⟩ = x0 ∧ w'.cell? ⟨B + 1, 3, none⟩ = x1 ∧ w'.cell? ⟨B + 2, 3, none⟩ = x2 :=
  ⟨(hb.cell (p := ⟨B, 0, none⟩) (by simp; omega)).trans h.1, (hb.cell (p := ⟨B + 1, 3, none⟩) (by simp; omega)).trans h.2.1, (hb.cell (p := ⟨B + 2, 3, none⟩) (by simp; omega)).trans h.2.2⟩

set_option maxHeartbeats 3200000 in
set_option maxRecDepth 100000 in
theorem compare_any (k key : Int) (bk : Bool) (m n : Msg) (g h : Nat) {lo lo' : Nat} (w : World) (cm cn : Nat) (hs : IsSl lo w (some ⟨g, 0, none⟩, m.b.length, cm) m.b) (hs' : IsSl lo' w (some ⟨h, 0, none⟩, n.b.length, cn) n.b)
    (hT : TabC w) (hTB : TabB w) (hTH : TabH w) (hMI : MaxI w) (hk : 1 ≤ k ∧ k ≤ 3) :
    Calls Tryz.prog 25 #[.agg #[.int .i64 k, .int .i64 key, .bool bk], msX m (some ⟨g, 0, none⟩, m.b.length, cm), msX n (some ⟨h, 0, none⟩, n.b.length, cn)] w fun e w' => e = .returned (.int .i64 (ahV k key m n)) ∧ Below w.heap.size w w' := by
  have HV : Hid (ahV k key m n = if key = 1 then cmp1 m.d n.d else if key = 2 then cmp1 (m.b.length : Int) (n.b.length : Int) else if key = 3 then cmpL ((sbV m.b).2.map (mapC k)) ((sbV n.b).2.map (mapC k)) else cmp1 m.u n.u) := rfl
  obtain ⟨mu, mf, md, ma⟩ := m
  obtain ⟨nu, nf, nd, mb⟩ := n
  dsimp only [msX, slW] at HV hs hs' ⊢
  have HSa : Hid (∀ W : World, Below w.heap.size w W → Calls Tryz.prog 41 #[.slice (some ⟨g, 0, none⟩) ma.length cm] W (CodEnd (sbV ma) W)) := fun W hW => subjectOf_any g ma.length ma W (hs.2.2.2.2.1.below hW) (hT.below hW) (hTB.below hW) (hTH.below hW) (hMI.below hW) hs.2.2.2.1 rfl hs.2.1
  have HSb : Hid (∀ W : World, Below w.heap.size w W → Calls Tryz.prog 41 #[.slice (some ⟨h, 0, none⟩) mb.length cn] W (CodEnd (sbV mb) W)) := fun W hW => subjectOf_any h mb.length mb W (hs'.2.2.2.2.1.below hW) (hT.below hW) (hTB.below hW) (hTH.below hW) (hMI.below hW) hs'.2.2.2.1 rfl hs'.2.1
  have HC : Hid (cmpT k (sbV ma).2 (sbV mb).2 = (0, cmpL ((sbV ma).2.map (mapC k)) ((sbV mb).2.map (mapC k)))) := cmpT_ok hk (sbV_flt _) (sbV_flt _)
  obtain ⟨Na, hLa⟩ : ∃ N, (sbV ma).2.length = N := ⟨_, rfl⟩
  obtain ⟨Nb, hLb⟩ : ∃ N, (sbV mb).2.length = N := ⟨_, rfl⟩
  have hNa : Na ≤ 400 := by rw [← hLa]; exact sbV_len ma
  have hNb : Nb ≤ 400 := by rw [← hLb]; exact sbV_len mb
  have hm1 : ma.length ≤ maxLen := Nat.le_trans hs.2.1 hs.2.2.1
  have hm2 : mb.length ≤ maxLen := Nat.le_trans hs'.2.1 hs'.2.2.1
  generalize hlm : ma.length = lm at *
  generalize hln : mb.length = ln at *
  have hbW : Below w.heap.size w (((w.alloc (.cells #[.int .i64 k, .int .i64 key, .bool bk] 51)).alloc (.cells #[.int .i64 mu, .int .i64 mf, .int .i64 md, .slice (some ⟨g, 0, none⟩) lm cm] 25)).alloc (.cells #[.int .i64 nu, .int .i64 nf, .int .i64 nd, .slice (some ⟨h, 0, none⟩) ln cn] 25)) :=
    (((Below.refl _ _).alloc (Nat.le_refl _) _).alloc (by simp) _).alloc (by simp; omega) _
  have hWs : (((w.alloc (.cells #[.int .i64 k, .int .i64 key, .bool bk] 51)).alloc (.cells #[.int .i64 mu, .int .i64 mf, .int .i64 md, .slice (some ⟨g, 0, none⟩) lm cm] 25)).alloc (.cells #[.int .i64 nu, .int .i64 nf, .int .i64 nd, .slice (some ⟨h, 0, none⟩) ln cn] 25)).heap.size = w.heap.size + 3 := by simp
  clear hs hs' hT hTB hTH hMI
  by_cases k1 : key = 1
  · subst k1
    rw [if_pos rfl] at HV
    rw [HV.out]
    clear HV
    go_enter Tryz.func25, Tryz.ntmps25
    go_wp2_with fail
    refine (compareNumbers_any _ _ _).mono ?_
    rintro e w1 ⟨rfl, rfl⟩
    go_wp2
    go_ret
    exact ⟨rfl, hbW⟩
  by_cases k2 : key = 2
  · subst k2
    rw [if_neg (by omega), if_pos rfl] at HV
    rw [HV.out]
    clear HV
    go_enter Tryz.func25, Tryz.ntmps25
    go_wp2_with fail
    refine (compareNumbers_any _ _ _).mono ?_
    rintro e w1 ⟨rfl, rfl⟩
    go_wp2
    go_ret
    exact ⟨rfl, hbW⟩
  by_cases k3 : key = 3
  · subst k3
    rw [if_neg (by omega), if_neg (by omega), if_pos rfl] at HV
    rw [HV.out]
    clear HV k1 k2
    generalize cmpL ((sbV ma).2.map (mapC k)) ((sbV mb).2.map (mapC k)) = R at *
    go_enter Tryz.func25, Tryz.ntmps25
    go_wp2_with fail
    have b0 : (((w.alloc (.cells #[.int .i64 k, .int .i64 3, .bool bk] 51)).alloc (.cells #[.int .i64 mu, .int .i64 mf, .int .i64 md, .slice (some ⟨g, 0, none⟩) lm cm] 25)).alloc (.cells #[.int .i64 nu, .int .i64 nf, .int .i64 nd, .slice (some ⟨h, 0, none⟩) ln cn] 25)).cell? ⟨w.heap.size, 0, none⟩ = some (.int .i64 k) := by simp [go_sem]
    have b1 : (((w.alloc (.cells #[.int .i64 k, .int .i64 3, .bool bk] 51)).alloc (.cells #[.int .i64 mu, .int .i64 mf, .int .i64 md, .slice (some ⟨g, 0, none⟩) lm cm] 25)).alloc (.cells #[.int .i64 nu, .int .i64 nf, .int .i64 nd, .slice (some ⟨h, 0, none⟩) ln cn] 25)).cell? ⟨w.heap.size + 1, 3, none⟩ = some (.slice (some ⟨g, 0, none⟩) lm cm) := by simp [go_sem]
    have b2 : (((w.alloc (.cells #[.int .i64 k, .int .i64 3, .bool bk] 51)).alloc (.cells #[.int .i64 mu, .int .i64 mf, .int .i64 md, .slice (some ⟨g, 0, none⟩) lm cm] 25)).alloc (.cells #[.int .i64 nu, .int .i64 nf, .int .i64 nd, .slice (some ⟨h, 0, none⟩) ln cn] 25)).cell? ⟨w.heap.size + 2, 3, none⟩ = some (.slice (some ⟨h, 0, none⟩) ln cn) := by simp [go_sem]
    generalize (((w.alloc (.cells #[.int .i64 k, .int .i64 3, .bool bk] 51)).alloc (.cells #[.int .i64 mu, .int .i64 mf, .int .i64 md, .slice (some ⟨g, 0, none⟩) lm cm] 25)).alloc (.cells #[.int .i64 nu, .int .i64 nf, .int .i64 nd, .slice (some ⟨h, 0, none⟩) ln cn] 25)) = W at *
    have hbD : Below w.heap.size w W.drew := hbW.drew
    have fC1 := fldC1
    have fI1 := fldI1
    refine wp_region_held_drew (S := fun w' => w'.cell? ⟨w.heap.size, 0, none⟩ = some (.int .i64 k) ∧ w'.cell? ⟨w.heap.size + 1, 3, none⟩ = some (.slice (some ⟨g, 0, none⟩) lm cm) ∧ w'.cell? ⟨w.heap.size + 2, 3, none⟩ = some (.slice (some ⟨h, 0, none⟩) ln cn)) (by kernel_rfl) ?hS1 (fun hHeld => ?_)
    case hS1 => exact ⟨b0, b1, b2⟩
    refine wpAnyH_take (i := 0) (v := ?_) rfl (by kernel_rfl) (by kernel_rfl) (by kernel_rfl) (fun _ _ _ h => h) (Or.inl ⟨by rfl, ?hy2⟩) (by assumption) ?ty2
    case hy2 => (intro w5 hSw; obtain ⟨p0, p1, p2⟩ := hSw; go_simp; all_goals with_reducible rfl)
    simp only [Act.put, List.getElem_toArray, List.getElem_cons_zero, List.setIfInBounds_toArray, List.set_cons_zero, List.set_cons_succ]
    refine wpAnyH_take (i := 1) (v := ?_) rfl (by kernel_rfl) (by kernel_rfl) (by kernel_rfl) (fun _ _ _ h => h) (Or.inl ⟨by rfl, ?hy3⟩) (by assumption) ?ty3
    case hy3 => (intro w5 hSw; obtain ⟨p0, p1, p2⟩ := hSw; go_simp; all_goals with_reducible rfl)
    simp only [Act.put, List.getElem_toArray, List.getElem_cons_zero, List.getElem_cons_succ, List.setIfInBounds_toArray, List.set_cons_zero, List.set_cons_succ]
    refine wpAnyH_take (i := 2) (v := ?_) rfl (by kernel_rfl) (by kernel_rfl) (by kernel_rfl) (fun _ _ _ h => h) (Or.inl ⟨by rfl, ?hy4⟩) (by assumption) ?ty4
    case hy4 => (intro w5 hSw; obtain ⟨p0, p1, p2⟩ := hSw; go_simp; all_goals with_reducible rfl)
    simp only [Act.put, List.getElem_toArray, List.getElem_cons_zero, List.getElem_cons_succ, List.setIfInBounds_toArray, List.set_cons_zero, List.set_cons_succ]
    refine wpAnyH_take (i := 3) (v := ?_) rfl (by kernel_rfl) (by kernel_rfl) (by kernel_rfl) (fun _ _ _ h => h) (Or.inl ⟨by rfl, ?hy5⟩) (by assumption) ?ty5
    case hy5 => (intro w5 hSw; obtain ⟨p0, p1, p2⟩ := hSw; go_simp; all_goals with_reducible rfl)
    simp only [Act.put, List.getElem_toArray, List.getElem_cons_zero, List.getElem_cons_succ, List.setIfInBounds_toArray, List.set_cons_zero, List.set_cons_succ]
    refine wpAnyH_take (i := 6) (v := ?_) rfl (by kernel_rfl) (by kernel_rfl) (by kernel_rfl) (fun _ _ _ h => h) (Or.inl ⟨by rfl, ?hy6⟩) (by assumption) ?ty6
    case hy6 => (intro w5 hSw; obtain ⟨p0, p1, p2⟩ := hSw; go_simp; all_goals with_reducible rfl)
    simp only [Act.put, List.getElem_toArray, List.getElem_cons_zero, List.getElem_cons_succ, List.setIfInBounds_toArray, List.set_cons_zero, List.set_cons_succ]
    refine wpAnyH_take (i := 7) (v := ?_) rfl (by kernel_rfl) (by kernel_rfl) (by kernel_rfl) (fun _ _ _ h => h) (Or.inl ⟨by rfl, ?hy7⟩) (by assumption) ?ty7
    case hy7 => (intro w5 hSw; obtain ⟨p0, p1, p2⟩ := hSw; go_simp; all_goals with_reducible rfl)
    simp only [Act.put, List.getElem_toArray, List.getElem_cons_zero, List.getElem_cons_succ, List.setIfInBounds_toArray, List.set_cons_zero, List.set_cons_succ]
    refine wpAnyH_ready (rs := [4]) (by kernel_rfl) (by simp) ?_
    refine AllReadyH.cons rfl (fun K hK => ?_) AllReadyH.nil
    go_simp
    refine (HSa.out _ hbD).mono ?_
    rintro e w1 ⟨v1, rfl, ho1, hb1⟩
    have hbE : Below w.heap.size w w1 := hbD.trans (hb1.mono hbD.size)
    obtain ⟨a1, cp1, hv1, -, -⟩ := ho1.form
    rw [hLa] at hv1
    subst hv1
    have hS1 := keep3 hb1 (by simp [hWs]) ⟨b0, b1, b2⟩
    refine hK.out _ _ hS1 (fun hHeld => ?_)
    clear hK K
    refine wpAnyH_take (i := 5) (v := ?_) rfl (by kernel_rfl) (by kernel_rfl) (by kernel_rfl) (fun _ _ _ h => h) (Or.inl ⟨by rfl, ?hy8⟩) (by assumption) ?ty8
    case hy8 => (intro w5 hSw; obtain ⟨p0, p1, p2⟩ := hSw; go_simp; all_goals with_reducible rfl)
    simp only [Act.put, List.getElem_toArray, List.getElem_cons_zero, List.getElem_cons_succ, List.setIfInBounds_toArray, List.set_cons_zero, List.set_cons_succ]
    refine wpAnyH_ready (rs := [8]) (by kernel_rfl) (by simp) ?_
    refine AllReadyH.cons rfl (fun K hK => ?_) AllReadyH.nil
    go_simp
    refine (HSb.out _ hbE).mono ?_
    rintro e w2 ⟨v2, rfl, ho2, hb2⟩
    have hbF : Below w.heap.size w w2 := hbE.trans (hb2.mono hbE.size)
    obtain ⟨a2, cp2, hv2, -, -⟩ := ho2.form
    rw [hLb] at hv2
    subst hv2
    have hS2 := keep3 hb2 (Nat.le_trans (by simp [hWs]) hb1.size) hS1
    have hr1 := (OwnI.rd ho1).2.below hb2
    have hr2 := (OwnI.rd ho2).2
    refine hK.out _ _ hS2 (fun hHeld => ?_)
    clear hK K
    refine wpAnyH_take (i := 9) (v := ?_) rfl (by kernel_rfl) (by kernel_rfl) (by kernel_rfl) (fun _ _ _ h => h) (Or.inl ⟨by rfl, ?hy9⟩) (by assumption) ?ty9
    case hy9 => (intro w5 hSw; obtain ⟨p0, p1, p2⟩ := hSw; go_simp; all_goals with_reducible rfl)
    simp only [Act.put, List.getElem_toArray, List.getElem_cons_zero, List.getElem_cons_succ, List.setIfInBounds_toArray, List.set_cons_zero, List.set_cons_succ]
    refine wpAnyH_ready (rs := [10]) (by kernel_rfl) (by simp) ?_
    refine AllReadyH.cons rfl (fun K hK => ?_) AllReadyH.nil
    go_simp
    refine (compareCodes_any k a1 a2 Na Nb cp1 cp2 (sbV ma).2 (sbV mb).2 w2 hLa hLb hr1 hr2 (by omega) (by omega)).mono ?_
    rintro e w3 ⟨rfl, hb3⟩
    have hbG : Below w.heap.size w w3 := hbF.trans (hb3.mono hbF.size)
    rw [HC.out]
    dsimp only
    have hS3 := keep3 hb3 (Nat.le_trans (Nat.le_trans (by simp [hWs]) hb1.size) hb2.size) hS2
    refine hK.out _ _ hS3 (fun hHeld => ?_)
    clear hK K
    refine wpAnyH_take (i := 11) (v := ?_) rfl (by kernel_rfl) (by kernel_rfl) (by kernel_rfl) (fun _ _ _ h => h) (Or.inl ⟨by rfl, ?hy10⟩) (by assumption) ?ty10
    case hy10 => (intro w5 hSw; obtain ⟨p0, p1, p2⟩ := hSw; go_simp; all_goals with_reducible rfl)
    simp only [Act.put, List.getElem_toArray, List.getElem_cons_zero, List.getElem_cons_succ, List.setIfInBounds_toArray, List.set_cons_zero, List.set_cons_succ]
    refine wpAnyH_take (i := 12) (v := ?_) rfl (by kernel_rfl) (by kernel_rfl) (by kernel_rfl) (fun _ _ _ h => h) (Or.inl ⟨by rfl, ?hy11⟩) (by assumption) ?ty11
    case hy11 => (intro w5 hSw; obtain ⟨p0, p1, p2⟩ := hSw; go_simp; all_goals with_reducible rfl)
    simp only [Act.put, List.getElem_toArray, List.getElem_cons_zero, List.getElem_cons_succ, List.setIfInBounds_toArray, List.set_cons_zero, List.set_cons_succ]
    refine wpAnyH_done (by kernel_rfl) ?_ _
    clear hHeld
    go_wp2
    go_ret
    exact ⟨rfl, hbG⟩
  rw [if_neg k1, if_neg k2, if_neg k3] at HV
  rw [HV.out]
  clear HV
  go_enter Tryz.func25, Tryz.ntmps25
  go_wp2_with fail
  refine (compareNumbers_any _ _ _).mono ?_
  rintro e w1 ⟨rfl, rfl⟩
  go_wp2
  go_ret
  exact ⟨rfl, hbW⟩
end Go.Proofs.YtfbjodbihenmjaaGreatDoor
