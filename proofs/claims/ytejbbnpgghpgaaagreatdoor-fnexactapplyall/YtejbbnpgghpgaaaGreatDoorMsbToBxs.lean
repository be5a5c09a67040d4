/- Messages: the laws' helpers: a message's size, a copy, whether two are the same; no conditions beyond those that each fact names · A step of a region that draws its order: what is plain of it is found by itself; no conditions beyond those that each fact names · The laws' helpers over slices of messages: their size, a copy, whether two are the same; no conditions beyond those that each fact names · Mailboxes: the laws' helpers: a mailbox's size, a copy, whether two are the same; no conditions beyond those that each fact names · The laws' helpers over slices of mailboxes: their size, a copy, whether two are the same; no conditions beyond those that each fact names. -/
import Derived.Test.YtejbbnpgghpgaaaGreatDoorStmToMsa
import Derived.Test.YtejbbnpgghpgaaaGreatDoorProg
import Derived.OrdersHeld
import Derived.WalkKit
namespace Go.Proofs.YtejbbnpgghpgaaaGreatDoor
open Go.RowKit
def SzQ (left : Int) (C : Prop) (w : World) (e : Ending) (w' : World) : Prop := ∃ r : Int, e = .returned (.int .i64 r) ∧ (r = -1 ∨ 0 ≤ r ∧ r ≤ left ∧ C) ∧ Below w.heap.size w w'
theorem szByteS_any (s : SlQ) (left : Int) (w : World) (h0 : 0 ≤ left) (h1 : left ≤ 1048576) (hn : s.2.1 ≤ maxLen) :
    Calls Tryz.prog 54 #[slW s, .int .i64 left] w fun e w' => SzQ left (s.2.1 ≤ 1048576) w e w' := by
  obtain ⟨a, n, cap⟩ := s
  dsimp only at *
  unfold maxLen at hn
  by_cases c1 : left - (n : Int) < 0
  · go_enter Tryz.func54, Tryz.ntmps54
    go_wp2
    go_ret
    exact ⟨-1, rfl, .inl rfl, by go_grown⟩
  · go_enter Tryz.func54, Tryz.ntmps54
    go_wp2
    go_ret
    exact ⟨left - (n : Int), rfl, .inr ⟨by omega, by omega, by omega⟩, by go_grown⟩
theorem qd_block {w W wr : World} {c0 c1 c2 c3 : Value} {t : TypeId} (hW : w.alloc (.cells #[c0, c1, c2, c3] t) = W) (hb : Below (w.heap.size + 1) W wr) :
    wr.cell? ⟨w.heap.size, 0, none⟩ = some c0 ∧ wr.cell? ⟨w.heap.size, 1, none⟩ = some c1 ∧ wr.cell? ⟨w.heap.size, 2, none⟩ = some c2 ∧ wr.cell? ⟨w.heap.size, 3, none⟩ = some c3 ∧ wr.frozen? ⟨w.heap.size, 0, none⟩ = false ∧ wr.frozen? ⟨w.heap.size, 1, none⟩ = false ∧ wr.frozen? ⟨w.heap.size, 2, none⟩ = false ∧ wr.frozen? ⟨w.heap.size, 3, none⟩ = false := by
  subst hW
  refine ⟨?_, ?_, ?_, ?_, ?_, ?_, ?_, ?_⟩
  · rw [hb.cell (p := ⟨w.heap.size, 0, none⟩) (by simp)]; simp
  · rw [hb.cell (p := ⟨w.heap.size, 1, none⟩) (by simp)]; simp
  · rw [hb.cell (p := ⟨w.heap.size, 2, none⟩) (by simp)]; simp
  · rw [hb.cell (p := ⟨w.heap.size, 3, none⟩) (by simp)]; simp
  · rw [hb.frozen (p := ⟨w.heap.size, 0, none⟩) (by simp)]; simp
  · rw [hb.frozen (p := ⟨w.heap.size, 1, none⟩) (by simp)]; simp
  · rw [hb.frozen (p := ⟨w.heap.size, 2, none⟩) (by simp)]; simp
  · rw [hb.frozen (p := ⟨w.heap.size, 3, none⟩) (by simp)]; simp
theorem qd_cells {wr : World} {sz : Nat} {x0 x1 x2 x3 : Value} (h0 : wr.cell? ⟨sz, 0, none⟩ = some x0) (h1 : wr.cell? ⟨sz, 1, none⟩ = some x1) (h2 : wr.cell? ⟨sz, 2, none⟩ = some x2) (h3 : wr.cell? ⟨sz, 3, none⟩ = some x3) (c t u v : Value) :
    (wr.setCell ⟨sz, 0, none⟩ c).cell? ⟨sz, 0, none⟩ = some c ∧ ((wr.setCell ⟨sz, 0, none⟩ c).setCell ⟨sz, 1, none⟩ t).cell? ⟨sz, 1, none⟩ = some t ∧
    (((wr.setCell ⟨sz, 0, none⟩ c).setCell ⟨sz, 1, none⟩ t).setCell ⟨sz, 2, none⟩ u).cell? ⟨sz, 2, none⟩ = some u ∧
    ((((wr.setCell ⟨sz, 0, none⟩ c).setCell ⟨sz, 1, none⟩ t).setCell ⟨sz, 2, none⟩ u).setCell ⟨sz, 3, none⟩ v).cell? ⟨sz, 3, none⟩ = some v := by
  have h1' : (wr.setCell ⟨sz, 0, none⟩ c).cell? ⟨sz, 1, none⟩ = some x1 := by simp [go_sem, h1]
  have h2' : ((wr.setCell ⟨sz, 0, none⟩ c).setCell ⟨sz, 1, none⟩ t).cell? ⟨sz, 2, none⟩ = some x2 := by simp [go_sem, h2]
  have h3' : (((wr.setCell ⟨sz, 0, none⟩ c).setCell ⟨sz, 1, none⟩ t).setCell ⟨sz, 2, none⟩ u).cell? ⟨sz, 3, none⟩ = some x3 := by simp [go_sem, h3]
  exact ⟨World.cell?_setCell_same _ _ _ h0, World.cell?_setCell_same _ _ _ h1', World.cell?_setCell_same _ _ _ h2', World.cell?_setCell_same _ _ _ h3'⟩
theorem qd_blocks {w0 w wr : World} {c0 c1 c2 c3 z0 z1 z2 z3 : Value} {o : Obj} {t t' : TypeId} (h0 : w = w0.alloc o)
    (hb : Below (w0.heap.size + 3) ((w.alloc (.cells #[z0, z1, z2, z3] t)).alloc (.cells #[c0, c1, c2, c3] t')) wr) :
    (wr.cell? ⟨w0.heap.size + 1, 0, none⟩ = some z0 ∧ wr.cell? ⟨w0.heap.size + 1, 1, none⟩ = some z1 ∧ wr.cell? ⟨w0.heap.size + 1, 2, none⟩ = some z2 ∧ wr.cell? ⟨w0.heap.size + 1, 3, none⟩ = some z3 ∧ wr.frozen? ⟨w0.heap.size + 1, 0, none⟩ = false ∧ wr.frozen? ⟨w0.heap.size + 1, 1, none⟩ = false ∧ wr.frozen? ⟨w0.heap.size + 1, 2, none⟩ = false ∧ wr.frozen? ⟨w0.heap.size + 1, 3, none⟩ = false) ∧
    (wr.cell? ⟨w0.heap.size + 1 + 1, 0, none⟩ = some c0 ∧ wr.cell? ⟨w0.heap.size + 1 + 1, 1, none⟩ = some c1 ∧ wr.cell? ⟨w0.heap.size + 1 + 1, 2, none⟩ = some c2 ∧ wr.cell? ⟨w0.heap.size + 1 + 1, 3, none⟩ = some c3 ∧ wr.frozen? ⟨w0.heap.size + 1 + 1, 0, none⟩ = false ∧ wr.frozen? ⟨w0.heap.size + 1 + 1, 1, none⟩ = false ∧ wr.frozen? ⟨w0.heap.size + 1 + 1, 2, none⟩ = false ∧ wr.frozen? ⟨w0.heap.size + 1 + 1, 3, none⟩ = false) := by
  have e1 : w.heap.size = w0.heap.size + 1 := by rw [h0]; simp
  have e2 : (w.alloc (.cells #[z0, z1, z2, z3] t)).heap.size = w0.heap.size + 1 + 1 := by simp [e1]
  have hA : Below (w.heap.size + 1) (w.alloc (.cells #[z0, z1, z2, z3] t)) wr := ((Below.refl _ _).alloc (by simp) _).trans (hb.mono (by omega))
  have k1 := qd_block rfl hA
  have k2 := qd_block (w := w.alloc (.cells #[z0, z1, z2, z3] t)) rfl (hb.mono (by omega))
  rw [e1] at k1
  rw [e2] at k2
  exact ⟨k1, k2⟩
set_option maxHeartbeats 1600000 in
set_option maxRecDepth 100000 in
theorem eqMessage_same (m : Msg) (s s' : SlQ) {lo lo' : Nat} (w : World) (hs : IsSl lo w s m.b) (hs' : IsSl lo' w s' m.b) (hn : s.2.1 ≤ 1048576) :
    Calls Tryz.prog 198 #[msX m s, msX m s'] w fun e w' => e = .returned (.bool true) ∧ Below w.heap.size w w' := by
  have hbW : Below w.heap.size w (((w.alloc (.cells #[.int .i64 m.u, .int .i64 m.f, .int .i64 m.d, slW s] 136)).alloc (.cells #[.int .i64 m.u, .int .i64 m.f, .int .i64 m.d, slW s'] 136))) :=
    ((Below.refl _ _).alloc (Nat.le_refl _) _).alloc (by simp) _
  have HC := eqByteS_same s.1 s'.1 s.2.1 s.2.2 s'.2.2 m.b _ hs.1 (hs.2.2.2.2.1.below hbW) (hs'.2.2.2.2.1.below hbW) hn
  have he : s'.2.1 = s.2.1 := by rw [← hs.1, ← hs'.1]
  obtain ⟨a', n', c'⟩ := s'
  dsimp only at he
  subst he
  go_enter Tryz.func198, Tryz.ntmps198
  go_wp2_with fail
  refine HC.mono ?_
  rintro e w1 ⟨rfl, hb1⟩
  have hbw := hbW.trans (hb1.mono hbW.size)
  clear HC hb1 hbW
  go_wp2
  go_ret
  exact ⟨rfl, hbw⟩
def Qc (w : World) (g : Nat) (q : Qd) : Prop := w.cell? ⟨g, 0, none⟩ = some q.1 ∧ w.cell? ⟨g, 1, none⟩ = some q.2.1 ∧ w.cell? ⟨g, 2, none⟩ = some q.2.2.1 ∧ w.cell? ⟨g, 3, none⟩ = some q.2.2.2
theorem Qc.below {C : Nat} {w w' : World} {g : Nat} {q : Qd} (h : Qc w g q) (hb : Below C w w') (hg : g < C) : Qc w' g q :=
  ⟨(hb.cell (p := ⟨g, 0, none⟩) hg).trans h.1, (hb.cell (p := ⟨g, 1, none⟩) hg).trans h.2.1, (hb.cell (p := ⟨g, 2, none⟩) hg).trans h.2.2.1, (hb.cell (p := ⟨g, 3, none⟩) hg).trans h.2.2.2⟩
theorem Qc.new (w : World) (c0 c1 c2 c3 : Value) (t : TypeId) : Qc (w.alloc (.cells #[c0, c1, c2, c3] t)) w.heap.size (c0, c1, c2, c3) := ⟨by simp, by simp, by simp, by simp⟩
theorem Qc.lt {w : World} {g : Nat} {q : Qd} (h : Qc w g q) : g < w.heap.size := World.block_lt_of_cell? w ⟨g, 0, none⟩ h.1
def FtM (m : Msg) : Prop := m.b.length ≤ 1048576
theorem eqMessage_ft (m : Msg) (s s' : SlQ) {lo lo' : Nat} (w : World) (hs : IsSl lo w s m.b) (hs' : IsSl lo' w s' m.b) (hf : FtM m) :
    Calls Tryz.prog 198 #[msX m s, msX m s'] w fun e w' => e = .returned (.bool true) ∧ Below w.heap.size w w' := eqMessage_same m s s' w hs hs' (by rw [← hs.1]; exact hf)
end Go.Proofs.YtejbbnpgghpgaaaGreatDoor
namespace Go.Proofs.YtejbbnpgghpgaaaGreatDoor
open Go.RowKit
theorem tk {P : Program} {md : _} {ops : Array Oper} {Q : Exit → Act → World → Prop} {S : World → Prop} {i : Nat} {oi : Oper} {v : Value} {fuel : Nat} {listed : Array Bool} {a : Act} {w : World} (hi : ops[i]? = some oi)
    (hy : YieldsIf P ops S oi v a) (h : wpAnyH P md ops Q S fuel (listed.setIfInBounds i true) (a.put oi.dst v) w)
    (hs : Region.noSelect ops = true := by kernel_rfl) (hf : Region.free md ops listed i = true := by kernel_rfl) (hr : (Region.ready md ops listed).contains i = true := by kernel_rfl)
    (hQ : ∀ c a w, Q (.panic c) (a.put oi.dst v) w → Q (.panic c) a w := by exact fun _ _ _ h => h) (hS : S w := by assumption) : wpAnyH P md ops Q S (fuel + 1) listed a w :=
  wpAnyH_take hi hs hf hr hQ hy hS h
theorem J1 {α : Type} {l : List α} {i : Nat} (h : i < l.toArray.size) : l.toArray[i] = l[i]'h := rfl
theorem J2 {α : Type} {a : α} {l : List α} (h : 0 < (a :: l).length) : (a :: l)[0]'h = a := rfl
theorem J3 {α : Type} {a : α} {l : List α} {i : Nat} (h : i + 1 < (a :: l).length) : (a :: l)[i + 1]'h = l[i]'(Nat.lt_of_succ_lt_succ h) := rfl
theorem J4 {α : Type} {l : List α} {i : Nat} {a : α} : l.toArray.setIfInBounds i a = (l.set i a).toArray := List.setIfInBounds_toArray ..
theorem J5 {α : Type} {a b : α} {l : List α} : (a :: l).set 0 b = b :: l := rfl
theorem J6 {α : Type} {a b : α} {l : List α} {n : Nat} : (a :: l).set (n + 1) b = a :: l.set n b := rfl
end Go.Proofs.YtejbbnpgghpgaaaGreatDoor
namespace Go.Proofs.YtejbbnpgghpgaaaGreatDoor
open Go.RowKit List
def FtMs (l : List Msg) : Prop := l.length ≤ 1048576 ∧ ∀ i, i < l.length → FtM (nthM l i)
theorem infoMessage : (Tryz.prog.info? 136).map (fun i => (i.zero, i.size, i.bytes)) = some (some (.agg #[.int .i64 0, .int .i64 0, .int .i64 0, .slice none 0 0]), 4, 48) := by kernel_rfl
abbrev zMessage : Qd := (.int .i64 0, .int .i64 0, .int .i64 0, .slice none 0 0)
set_option maxHeartbeats 1600000 in
set_option maxRecDepth 100000 in
theorem eqMessageS_ft (s s' : SlQ) (l : List Msg) {lo lo' : Nat} (w : World) (hs : IsMs lo w s l) (hs' : IsMs lo' w s' l) (hf : FtMs l) :
    Calls Tryz.prog 166 #[slW s, slW s'] w fun e w' => e = .returned (.bool true) ∧ Below w.heap.size w w' := by
  obtain ⟨a, n, cap⟩ := s
  obtain ⟨c, n', cap'⟩ := s'
  obtain ⟨hl, hnc, hcm, hr⟩ := hs
  obtain ⟨hl', hnc', hcm', hr'⟩ := hs'
  obtain ⟨hn, hft⟩ := hf
  dsimp only [slW] at *
  obtain rfl : n = n' := by omega
  go_enter Tryz.func166, Tryz.ntmps166
  go_wp2
  go_loopw [5] (fun i wr => ∃ k : Nat, k ≤ n ∧ i = .int .i64 k ∧ Below w.heap.size w wr) (fun i _ => n - (intOf i).toNat)
  case atStart => exact ⟨0, Nat.zero_le _, rfl, Below.refl _ _⟩
  case round =>
    obtain ⟨k, hk, rfl, hbel⟩ := hrel
    by_cases hkn : k < n
    · obtain ⟨b, off, rfl, -, hblt, hcell⟩ := (hr.below hbel).at_ (by omega)
      obtain ⟨d, off', rfl, -, hdlt, hdell⟩ := (hr'.below hbel).at_ (by omega)
      obtain ⟨s, ⟨hc0, hc1, hc2, hc3⟩, hI⟩ := hcell k (by omega)
      obtain ⟨s', ⟨hd0, hd1, hd2, hd3⟩, hI'⟩ := hdell k (by omega)
      have hki : (k : Int) < (n : Int) := by omega
      have hF := hft k (by omega)
      clear hcell hdell hr hr' hft
      generalize nthM l k = p at *
      obtain ⟨mu, mf, md, mb⟩ := p
      dsimp only at hc0 hc1 hc2 hd0 hd1 hd2
      go_wp2_with fail
      refine wp_region_held_drew (S := fun w' => (w'.cell? ⟨b, off + k * 4, none⟩ = some (.int .i64 mu) ∧ w'.cell? ⟨b, off + k * 4 + 1, none⟩ = some (.int .i64 mf) ∧ w'.cell? ⟨b, off + k * 4 + 2, none⟩ = some (.int .i64 md) ∧ w'.cell? ⟨b, off + k * 4 + 3, none⟩ = some (slW s)) ∧ (w'.cell? ⟨d, off' + k * 4, none⟩ = some (.int .i64 mu) ∧ w'.cell? ⟨d, off' + k * 4 + 1, none⟩ = some (.int .i64 mf) ∧ w'.cell? ⟨d, off' + k * 4 + 2, none⟩ = some (.int .i64 md) ∧ w'.cell? ⟨d, off' + k * 4 + 3, none⟩ = some (slW s'))) (by kernel_rfl) ?hS1 (fun hHeld => ?_)
      case hS1 => exact ⟨⟨hc0, hc1, hc2, hc3⟩, ⟨hd0, hd1, hd2, hd3⟩⟩
      refine tk (i := 0) (v := ?_) rfl (Or.inl ⟨by rfl, ?hy0⟩) ?ty0
      case hy0 => (intro w' hSw; obtain ⟨⟨e0, e1, e2, e3⟩, ⟨d0, d1, d2, d3⟩⟩ := hSw; go_simp; all_goals with_reducible rfl)
      simp only [Act.put, J1, J2, J4, J5, J6]
      refine tk (i := 1) (v := ?_) rfl (Or.inl ⟨by rfl, ?hy1⟩) ?ty1
      case hy1 => (intro w' hSw; obtain ⟨⟨e0, e1, e2, e3⟩, ⟨d0, d1, d2, d3⟩⟩ := hSw; go_simp; all_goals with_reducible rfl)
      simp only [Act.put, J1, J2, J3, J4, J5, J6]
      refine tk (i := 2) (v := ?_) rfl (Or.inl ⟨by rfl, ?hy2⟩) ?ty2
      case hy2 => (intro w' hSw; obtain ⟨⟨e0, e1, e2, e3⟩, ⟨d0, d1, d2, d3⟩⟩ := hSw; go_simp; all_goals with_reducible rfl)
      simp only [Act.put, J1, J2, J3, J4, J5, J6]
      refine tk (i := 3) (v := ?_) rfl (Or.inl ⟨by rfl, ?hy3⟩) ?ty3
      case hy3 => (intro w' hSw; obtain ⟨⟨e0, e1, e2, e3⟩, ⟨d0, d1, d2, d3⟩⟩ := hSw; go_simp; all_goals with_reducible rfl)
      simp only [Act.put, J1, J2, J3, J4, J5, J6]
      refine tk (i := 4) (v := ?_) rfl (Or.inl ⟨by rfl, ?hy4⟩) ?ty4
      case hy4 => (intro w' hSw; obtain ⟨⟨e0, e1, e2, e3⟩, ⟨d0, d1, d2, d3⟩⟩ := hSw; go_simp; all_goals with_reducible rfl)
      simp only [Act.put, J1, J2, J3, J4, J5, J6]
      refine tk (i := 5) (v := ?_) rfl (Or.inl ⟨by rfl, ?hy5⟩) ?ty5
      case hy5 => (intro w' hSw; obtain ⟨⟨e0, e1, e2, e3⟩, ⟨d0, d1, d2, d3⟩⟩ := hSw; go_simp; all_goals with_reducible rfl)
      simp only [Act.put, J1, J2, J3, J4, J5, J6]
      refine tk (i := 6) (v := ?_) rfl (Or.inl ⟨by rfl, ?hy6⟩) ?ty6
      case hy6 => (intro w' hSw; obtain ⟨⟨e0, e1, e2, e3⟩, ⟨d0, d1, d2, d3⟩⟩ := hSw; go_simp; all_goals with_reducible rfl)
      simp only [Act.put, J1, J2, J3, J4, J5, J6]
      refine tk (i := 7) (v := ?_) rfl (Or.inl ⟨by rfl, ?hy7⟩) ?ty7
      case hy7 => (intro w' hSw; obtain ⟨⟨e0, e1, e2, e3⟩, ⟨d0, d1, d2, d3⟩⟩ := hSw; go_simp; all_goals with_reducible rfl)
      simp only [Act.put, J1, J2, J3, J4, J5, J6]
      refine wpAnyH_ready (rs := [8]) (by kernel_rfl) (by simp) ?_
      refine AllReadyH.cons rfl (fun K hK => ?_) AllReadyH.nil
      go_simp
      refine (eqMessage_ft ⟨mu, mf, md, mb⟩ s s' _ (hI.below (Below.refl _ _).drew) (hI'.below (Below.refl _ _).drew) hF).mono ?_
      rintro e w1 ⟨rfl, hbx⟩
      have HW : Hid (Below wr.heap.size wr w1) := (Below.refl _ _).drew.trans hbx
      have hsS : (w1.cell? ⟨b, off + k * 4, none⟩ = some (.int .i64 mu) ∧ w1.cell? ⟨b, off + k * 4 + 1, none⟩ = some (.int .i64 mf) ∧ w1.cell? ⟨b, off + k * 4 + 2, none⟩ = some (.int .i64 md) ∧ w1.cell? ⟨b, off + k * 4 + 3, none⟩ = some (slW s)) ∧ (w1.cell? ⟨d, off' + k * 4, none⟩ = some (.int .i64 mu) ∧ w1.cell? ⟨d, off' + k * 4 + 1, none⟩ = some (.int .i64 mf) ∧ w1.cell? ⟨d, off' + k * 4 + 2, none⟩ = some (.int .i64 md) ∧ w1.cell? ⟨d, off' + k * 4 + 3, none⟩ = some (slW s')) :=
        ⟨⟨(HW.out.cell (p := ⟨b, off + k * 4, none⟩) hblt).trans hc0, (HW.out.cell (p := ⟨b, off + k * 4 + 1, none⟩) hblt).trans hc1, (HW.out.cell (p := ⟨b, off + k * 4 + 2, none⟩) hblt).trans hc2, (HW.out.cell (p := ⟨b, off + k * 4 + 3, none⟩) hblt).trans hc3⟩, ⟨(HW.out.cell (p := ⟨d, off' + k * 4, none⟩) hdlt).trans hd0, (HW.out.cell (p := ⟨d, off' + k * 4 + 1, none⟩) hdlt).trans hd1, (HW.out.cell (p := ⟨d, off' + k * 4 + 2, none⟩) hdlt).trans hd2, (HW.out.cell (p := ⟨d, off' + k * 4 + 3, none⟩) hdlt).trans hd3⟩⟩
      refine hK.out _ _ hsS (fun hHeld => ?_)
      clear hK K
      refine tk (i := 9) (v := ?_) rfl (Or.inl ⟨by rfl, ?hy10⟩) ?ty10
      case hy10 => (intro w' hSw; go_simp; all_goals with_reducible rfl)
      simp only [Act.put, J1, J2, J3, J4, J5, J6]
      refine wpAnyH_done (by kernel_rfl) ?_ _
      have hbel2 := hbel.trans (HW.out.mono hbel.size)
      clear hHeld hsS hbx HW
      go_wp2
      go_roundw
      case rel => exact ⟨k + 1, by omega, by go_num, hbel2⟩
      case measure => simp [intOf]; omega
    · have hki : ¬ (k : Int) < (n : Int) := by omega
      go_wp2
      go_ret
      exact ⟨rfl, hbel⟩
end Go.Proofs.YtejbbnpgghpgaaaGreatDoor
namespace Go.Proofs.YtejbbnpgghpgaaaGreatDoor
open Go.RowKit
def FtX (m : Bx) : Prop := m.n.size ≤ 1048576 ∧ FtMs m.m
def OkX (m : Bx) : Prop := m.n.size ≤ maxLen
set_option maxHeartbeats 1600000 in
set_option maxRecDepth 100000 in
theorem eqBox_ft (m : Bx) (s s' : SlQ) {lo lo' : Nat} (w : World) (hs : IsMs lo w s m.m) (hs' : IsMs lo' w s' m.m) (hf : FtX m) :
    Calls Tryz.prog 127 #[bxX m s, bxX m s'] w fun e w' => e = .returned (.bool true) ∧ Below w.heap.size w w' := by
  have hbW : Below w.heap.size w (((w.alloc (.cells #[.string m.n, .int .i64 m.v, .int .i64 m.x, slW s] 128)).alloc (.cells #[.string m.n, .int .i64 m.v, .int .i64 m.x, slW s'] 128))) :=
    ((Below.refl _ _).alloc (Nat.le_refl _) _).alloc (by simp) _
  have HC := eqMessageS_ft s s' m.m _ (hs.below hbW) (hs'.below hbW) hf.2
  go_enter Tryz.func127, Tryz.ntmps127
  go_wp2_with fail
  refine HC.mono ?_
  rintro e w1 ⟨rfl, hb1⟩
  have hbw := hbW.trans (hb1.mono hbW.size)
  clear HC hb1 hbW
  go_wp2
  go_ret
  exact ⟨rfl, hbw⟩
end Go.Proofs.YtejbbnpgghpgaaaGreatDoor
namespace Go.Proofs.YtejbbnpgghpgaaaGreatDoor
open Go.RowKit List
def FtXs (l : List Bx) : Prop := l.length ≤ 1048576 ∧ ∀ i, i < l.length → FtX (nthX l i)
theorem infoBox : (Tryz.prog.info? 128).map (fun i => (i.zero, i.size, i.bytes)) = some (some (.agg #[.string ByteArray.empty, .int .i64 0, .int .i64 0, .slice none 0 0]), 4, 56) := by kernel_rfl
abbrev zBox : Qd := (.string ByteArray.empty, .int .i64 0, .int .i64 0, .slice none 0 0)
set_option maxHeartbeats 1600000 in
set_option maxRecDepth 100000 in
theorem eqBoxS_ft (s s' : SlQ) (l : List Bx) {lo lo' : Nat} (w : World) (hs : IsXs lo w s l) (hs' : IsXs lo' w s' l) (hf : FtXs l) :
    Calls Tryz.prog 67 #[slW s, slW s'] w fun e w' => e = .returned (.bool true) ∧ Below w.heap.size w w' := by
  obtain ⟨a, n, cap⟩ := s
  obtain ⟨c, n', cap'⟩ := s'
  obtain ⟨hl, hnc, hcm, hr⟩ := hs
  obtain ⟨hl', hnc', hcm', hr'⟩ := hs'
  obtain ⟨hn, hft⟩ := hf
  dsimp only [slW] at *
  obtain rfl : n = n' := by omega
  go_enter Tryz.func67, Tryz.ntmps67
  go_wp2
  go_loopw [5] (fun i wr => ∃ k : Nat, k ≤ n ∧ i = .int .i64 k ∧ Below w.heap.size w wr) (fun i _ => n - (intOf i).toNat)
  case atStart => exact ⟨0, Nat.zero_le _, rfl, Below.refl _ _⟩
  case round =>
    obtain ⟨k, hk, rfl, hbel⟩ := hrel
    by_cases hkn : k < n
    · obtain ⟨b, off, rfl, -, hblt, hcell⟩ := (hr.below hbel).at_ (by omega)
      obtain ⟨d, off', rfl, -, hdlt, hdell⟩ := (hr'.below hbel).at_ (by omega)
      obtain ⟨s, ⟨hc0, hc1, hc2, hc3⟩, hI⟩ := hcell k (by omega)
      obtain ⟨s', ⟨hd0, hd1, hd2, hd3⟩, hI'⟩ := hdell k (by omega)
      have hki : (k : Int) < (n : Int) := by omega
      have hF := hft k (by omega)
      clear hcell hdell hr hr' hft
      generalize nthX l k = p at *
      obtain ⟨n0, v0, x0, m0⟩ := p
      dsimp only at hc0 hc1 hc2 hd0 hd1 hd2
      go_wp2_with fail
      refine wp_region_held_drew (S := fun w' => (w'.cell? ⟨b, off + k * 4, none⟩ = some (.string n0) ∧ w'.cell? ⟨b, off + k * 4 + 1, none⟩ = some (.int .i64 v0) ∧ w'.cell? ⟨b, off + k * 4 + 2, none⟩ = some (.int .i64 x0) ∧ w'.cell? ⟨b, off + k * 4 + 3, none⟩ = some (slW s)) ∧ (w'.cell? ⟨d, off' + k * 4, none⟩ = some (.string n0) ∧ w'.cell? ⟨d, off' + k * 4 + 1, none⟩ = some (.int .i64 v0) ∧ w'.cell? ⟨d, off' + k * 4 + 2, none⟩ = some (.int .i64 x0) ∧ w'.cell? ⟨d, off' + k * 4 + 3, none⟩ = some (slW s'))) (by kernel_rfl) ?hS1 (fun hHeld => ?_)
      case hS1 => exact ⟨⟨hc0, hc1, hc2, hc3⟩, ⟨hd0, hd1, hd2, hd3⟩⟩
      refine tk (i := 0) (v := ?_) rfl (Or.inl ⟨by rfl, ?hy0⟩) ?ty0
      case hy0 => (intro w' hSw; obtain ⟨⟨e0, e1, e2, e3⟩, ⟨d0, d1, d2, d3⟩⟩ := hSw; go_simp; all_goals with_reducible rfl)
      simp only [Act.put, J1, J2, J4, J5, J6]
      refine tk (i := 1) (v := ?_) rfl (Or.inl ⟨by rfl, ?hy1⟩) ?ty1
      case hy1 => (intro w' hSw; obtain ⟨⟨e0, e1, e2, e3⟩, ⟨d0, d1, d2, d3⟩⟩ := hSw; go_simp; all_goals with_reducible rfl)
      simp only [Act.put, J1, J2, J3, J4, J5, J6]
      refine tk (i := 2) (v := ?_) rfl (Or.inl ⟨by rfl, ?hy2⟩) ?ty2
      case hy2 => (intro w' hSw; obtain ⟨⟨e0, e1, e2, e3⟩, ⟨d0, d1, d2, d3⟩⟩ := hSw; go_simp; all_goals with_reducible rfl)
      simp only [Act.put, J1, J2, J3, J4, J5, J6]
      refine tk (i := 3) (v := ?_) rfl (Or.inl ⟨by rfl, ?hy3⟩) ?ty3
      case hy3 => (intro w' hSw; obtain ⟨⟨e0, e1, e2, e3⟩, ⟨d0, d1, d2, d3⟩⟩ := hSw; go_simp; all_goals with_reducible rfl)
      simp only [Act.put, J1, J2, J3, J4, J5, J6]
      refine tk (i := 4) (v := ?_) rfl (Or.inl ⟨by rfl, ?hy4⟩) ?ty4
      case hy4 => (intro w' hSw; obtain ⟨⟨e0, e1, e2, e3⟩, ⟨d0, d1, d2, d3⟩⟩ := hSw; go_simp; all_goals with_reducible rfl)
      simp only [Act.put, J1, J2, J3, J4, J5, J6]
      refine tk (i := 5) (v := ?_) rfl (Or.inl ⟨by rfl, ?hy5⟩) ?ty5
      case hy5 => (intro w' hSw; obtain ⟨⟨e0, e1, e2, e3⟩, ⟨d0, d1, d2, d3⟩⟩ := hSw; go_simp; all_goals with_reducible rfl)
      simp only [Act.put, J1, J2, J3, J4, J5, J6]
      refine tk (i := 6) (v := ?_) rfl (Or.inl ⟨by rfl, ?hy6⟩) ?ty6
      case hy6 => (intro w' hSw; obtain ⟨⟨e0, e1, e2, e3⟩, ⟨d0, d1, d2, d3⟩⟩ := hSw; go_simp; all_goals with_reducible rfl)
      simp only [Act.put, J1, J2, J3, J4, J5, J6]
      refine tk (i := 7) (v := ?_) rfl (Or.inl ⟨by rfl, ?hy7⟩) ?ty7
      case hy7 => (intro w' hSw; obtain ⟨⟨e0, e1, e2, e3⟩, ⟨d0, d1, d2, d3⟩⟩ := hSw; go_simp; all_goals with_reducible rfl)
      simp only [Act.put, J1, J2, J3, J4, J5, J6]
      refine wpAnyH_ready (rs := [8]) (by kernel_rfl) (by simp) ?_
      refine AllReadyH.cons rfl (fun K hK => ?_) AllReadyH.nil
      go_simp
      refine (eqBox_ft ⟨n0, v0, x0, m0⟩ s s' _ (hI.below (Below.refl _ _).drew) (hI'.below (Below.refl _ _).drew) hF).mono ?_
      rintro e w1 ⟨rfl, hbx⟩
      have HW : Hid (Below wr.heap.size wr w1) := (Below.refl _ _).drew.trans hbx
      have hsS : (w1.cell? ⟨b, off + k * 4, none⟩ = some (.string n0) ∧ w1.cell? ⟨b, off + k * 4 + 1, none⟩ = some (.int .i64 v0) ∧ w1.cell? ⟨b, off + k * 4 + 2, none⟩ = some (.int .i64 x0) ∧ w1.cell? ⟨b, off + k * 4 + 3, none⟩ = some (slW s)) ∧ (w1.cell? ⟨d, off' + k * 4, none⟩ = some (.string n0) ∧ w1.cell? ⟨d, off' + k * 4 + 1, none⟩ = some (.int .i64 v0) ∧ w1.cell? ⟨d, off' + k * 4 + 2, none⟩ = some (.int .i64 x0) ∧ w1.cell? ⟨d, off' + k * 4 + 3, none⟩ = some (slW s')) :=
        ⟨⟨(HW.out.cell (p := ⟨b, off + k * 4, none⟩) hblt).trans hc0, (HW.out.cell (p := ⟨b, off + k * 4 + 1, none⟩) hblt).trans hc1, (HW.out.cell (p := ⟨b, off + k * 4 + 2, none⟩) hblt).trans hc2, (HW.out.cell (p := ⟨b, off + k * 4 + 3, none⟩) hblt).trans hc3⟩, ⟨(HW.out.cell (p := ⟨d, off' + k * 4, none⟩) hdlt).trans hd0, (HW.out.cell (p := ⟨d, off' + k * 4 + 1, none⟩) hdlt).trans hd1, (HW.out.cell (p := ⟨d, off' + k * 4 + 2, none⟩) hdlt).trans hd2, (HW.out.cell (p := ⟨d, off' + k * 4 + 3, none⟩) hdlt).trans hd3⟩⟩
      refine hK.out _ _ hsS (fun hHeld => ?_)
      clear hK K
      refine tk (i := 9) (v := ?_) rfl (Or.inl ⟨by rfl, ?hy10⟩) ?ty10
      case hy10 => (intro w' hSw; go_simp; all_goals with_reducible rfl)
      simp only [Act.put, J1, J2, J3, J4, J5, J6]
      refine wpAnyH_done (by kernel_rfl) ?_ _
      have hbel2 := hbel.trans (HW.out.mono hbel.size)
      clear hHeld hsS hbx HW
      go_wp2
      go_roundw
      case rel => exact ⟨k + 1, by omega, by go_num, hbel2⟩
      case measure => simp [intOf]; omega
    · have hki : ¬ (k : Int) < (n : Int) := by omega
      go_wp2
      go_ret
      exact ⟨rfl, hbel⟩
end Go.Proofs.YtejbbnpgghpgaaaGreatDoor
