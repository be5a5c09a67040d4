/- Messages: their size, a copy, whether two are the same, and their fault, on both sides; no conditions beyond those that each fact names · Messages: the laws' helpers: a message's size, a copy, whether two are the same; no conditions beyond those that each fact names. -/
import Derived.Test.YtejbbnpgghpgaaaGreatDoorMqrToMemI
import Derived.Test.YtejbbnpgghpgaaaGreatDoorOpmToMrk
import Derived.Deep.RegionHeld3
namespace Go.Proofs.YtejbbnpgghpgaaaGreatDoor
open Go.RowKit

/-- Between two numbers. -/
def bt (c a b : Int) : Bool := decide (a ≤ c ∧ c ≤ b)
theorem l1In_bt (c a b : Int) (w : World) : Calls Tryz.prog 94 #[.int .i64 c, .int .i64 a, .int .i64 b] w fun e w' => e = .returned (.bool (bt c a b)) ∧ w = w' := by
  by_cases h1 : a ≤ c
  · by_cases h2 : c ≤ b
    · have H : Hid (bt c a b = true) := by show bt c a b = true; simp [bt, h1, h2]
      go_enter Tryz.func94, Tryz.ntmps94
      go_wp2
      go_ret
      exact ⟨by rw [H.out]; rfl, rfl⟩
    · have H : Hid (bt c a b = false) := by show bt c a b = false; simp [bt, h2]
      go_enter Tryz.func94, Tryz.ntmps94
      go_wp2
      go_ret
      exact ⟨by rw [H.out]; rfl, rfl⟩
  · have H : Hid (bt c a b = false) := by show bt c a b = false; simp [bt, h1]
    go_enter Tryz.func94, Tryz.ntmps94
    go_wp2
    go_ret
    exact ⟨by rw [H.out]; rfl, rfl⟩
theorem isBetween_bt (c a b : Int) (w : World) : Calls Tryz.prog 120 #[.int .i64 c, .int .i64 a, .int .i64 b] w fun e w' => e = .returned (.bool (bt c a b)) ∧ w = w' := by
  by_cases h1 : a ≤ c
  · by_cases h2 : c ≤ b
    · have H : Hid (bt c a b = true) := by show bt c a b = true; simp [bt, h1, h2]
      go_enter Tryz.func120, Tryz.ntmps120
      go_wp2
      go_ret
      exact ⟨by rw [H.out]; rfl, rfl⟩
    · have H : Hid (bt c a b = false) := by show bt c a b = false; simp [bt, h2]
      go_enter Tryz.func120, Tryz.ntmps120
      go_wp2
      go_ret
      exact ⟨by rw [H.out]; rfl, rfl⟩
  · have H : Hid (bt c a b = false) := by show bt c a b = false; simp [bt, h1]
    go_enter Tryz.func120, Tryz.ntmps120
    go_wp2
    go_ret
    exact ⟨by rw [H.out]; rfl, rfl⟩
theorem areFlags_bt (c : Int) (w : World) : Calls Tryz.prog 189 #[.int .i64 c] w fun e w' => e = .returned (.bool (bt c 0 15)) ∧ w = w' := by
  have HC := isBetween_bt c 0 15
  generalize bt c 0 15 = r at *
  go_enter Tryz.func189, Tryz.ntmps189
  go_wp2_with (first | (go_at_call 120; refine (HC _).mono ?_; rintro e w' ⟨rfl, rfl⟩))
  go_ret
  exact ⟨rfl, rfl⟩

/-- THE FAULT OF A MESSAGE. -/
def mfV (m : Msg) : Int := if bt m.u 1 999 = true ∧ bt m.f 0 15 = true ∧ bt m.d 0 9999 = true then (if 400 < m.b.length then 2 else 0) else 3

set_option maxHeartbeats 1600000 in
set_option maxRecDepth 100000 in
theorem l7Message_any (m : Msg) (s : SlQ) (g o : Nat) {lo : Nat} (w : World) (hs : IsSl lo w s m.b)
    (c0 : w.cell? ⟨g, o, none⟩ = some (.int .i64 m.u)) (c1 : w.cell? ⟨g, o + 1, none⟩ = some (.int .i64 m.f)) (c2 : w.cell? ⟨g, o + 2, none⟩ = some (.int .i64 m.d)) (c3 : w.cell? ⟨g, o + 3, none⟩ = some (slW s)) :
    Calls Tryz.prog 148 #[.pointer (some ⟨g, o, none⟩)] w fun e w' => e = .returned (.int .i64 (mfV m)) ∧ Below w.heap.size w w' := by
  have hl := hs.1
  have HV : Hid (mfV m = if bt m.u 1 999 = true ∧ bt m.f 0 15 = true ∧ bt m.d 0 9999 = true then (if 400 < m.b.length then 2 else 0) else 3) := rfl
  obtain ⟨a, n, cap⟩ := s
  obtain ⟨u, f, d, b⟩ := m
  dsimp only at *
  generalize mfV ⟨u, f, d, b⟩ = r at *
  have hn : b.length ≤ maxLen := by have := hs.2.1; have := hs.2.2.1; dsimp only at *; omega
  unfold maxLen at hn
  rw [hl] at HV
  clear hs
  cases h0 : bt u 1 999 with
  | false =>
    have HM : Hid (r = 3) := HV.out.trans (by simp [h0])
    clear HV
    go_enter Tryz.func148, Tryz.ntmps148
    go_wp2_with (first | (go_at_call 94; refine (l1In_bt _ _ _ _).mono ?_; rintro e w' ⟨rfl, rfl⟩))
    go_ret
    exact ⟨by rw [HM.out]; rfl, by go_grown⟩
  | true =>
    cases h1 : bt f 0 15 with
    | false =>
      have HM : Hid (r = 3) := HV.out.trans (by simp [h0, h1])
      clear HV
      go_enter Tryz.func148, Tryz.ntmps148
      go_wp2_with (first | (go_at_call 94; refine (l1In_bt _ _ _ _).mono ?_; rintro e w' ⟨rfl, rfl⟩))
      go_ret
      exact ⟨by rw [HM.out]; rfl, by go_grown⟩
    | true =>
      cases h2 : bt d 0 9999 with
      | false =>
        have HM : Hid (r = 3) := HV.out.trans (by simp [h0, h1, h2])
        clear HV
        go_enter Tryz.func148, Tryz.ntmps148
        go_wp2_with (first | (go_at_call 94; refine (l1In_bt _ _ _ _).mono ?_; rintro e w' ⟨rfl, rfl⟩))
        go_ret
        exact ⟨by rw [HM.out]; rfl, by go_grown⟩
      | true =>
        by_cases hb : 400 < n
        · have hbi : (400 : Int) < (n : Int) := by omega
          have HM : Hid (r = 2) := HV.out.trans (by simp [h0, h1, h2, hb])
          clear HV
          go_enter Tryz.func148, Tryz.ntmps148
          go_wp2_with (first | (go_at_call 94; refine (l1In_bt _ _ _ _).mono ?_; rintro e w' ⟨rfl, rfl⟩))
          go_ret
          exact ⟨by rw [HM.out]; rfl, by go_grown⟩
        · have hbi : ¬ (400 : Int) < (n : Int) := by omega
          have HM : Hid (r = 0) := HV.out.trans (by simp [h0, h1, h2, hb])
          clear HV
          go_enter Tryz.func148, Tryz.ntmps148
          go_wp2_with (first | (go_at_call 94; refine (l1In_bt _ _ _ _).mono ?_; rintro e w' ⟨rfl, rfl⟩))
          go_ret
          exact ⟨by rw [HM.out]; rfl, by go_grown⟩

set_option maxHeartbeats 1600000 in
set_option maxRecDepth 100000 in
theorem messageFault_any (m : Msg) (s : SlQ) {lo : Nat} (w : World) (hs : IsSl lo w s m.b) :
    Calls Tryz.prog 183 #[msX m s] w fun e w' => e = .returned (.int .i64 (mfV m)) ∧ Below w.heap.size w w' := by
  have hl := hs.1
  have HV : Hid (mfV m = if bt m.u 1 999 = true ∧ bt m.f 0 15 = true ∧ bt m.d 0 9999 = true then (if 400 < m.b.length then 2 else 0) else 3) := rfl
  obtain ⟨a, n, cap⟩ := s
  obtain ⟨u, f, d, b⟩ := m
  dsimp only at *
  generalize mfV ⟨u, f, d, b⟩ = r at *
  have hn : b.length ≤ maxLen := by have := hs.2.1; have := hs.2.2.1; dsimp only at *; omega
  unfold maxLen at hn
  rw [hl] at HV
  clear hs
  cases h0 : bt u 1 999 with
  | false =>
    have HM : Hid (r = 3) := HV.out.trans (by simp [h0])
    clear HV
    go_enter Tryz.func183, Tryz.ntmps183
    go_wp2_with (first | (go_at_call 120; refine (isBetween_bt _ _ _ _).mono ?_; rintro e w' ⟨rfl, rfl⟩) | (go_at_call 189; refine (areFlags_bt _ _).mono ?_; rintro e w' ⟨rfl, rfl⟩))
    go_ret
    exact ⟨by rw [HM.out]; rfl, by go_grown⟩
  | true =>
    cases h1 : bt f 0 15 with
    | false =>
      have HM : Hid (r = 3) := HV.out.trans (by simp [h0, h1])
      clear HV
      go_enter Tryz.func183, Tryz.ntmps183
      go_wp2_with (first | (go_at_call 120; refine (isBetween_bt _ _ _ _).mono ?_; rintro e w' ⟨rfl, rfl⟩) | (go_at_call 189; refine (areFlags_bt _ _).mono ?_; rintro e w' ⟨rfl, rfl⟩))
      go_ret
      exact ⟨by rw [HM.out]; rfl, by go_grown⟩
    | true =>
      cases h2 : bt d 0 9999 with
      | false =>
        have HM : Hid (r = 3) := HV.out.trans (by simp [h0, h1, h2])
        clear HV
        go_enter Tryz.func183, Tryz.ntmps183
        go_wp2_with (first | (go_at_call 120; refine (isBetween_bt _ _ _ _).mono ?_; rintro e w' ⟨rfl, rfl⟩) | (go_at_call 189; refine (areFlags_bt _ _).mono ?_; rintro e w' ⟨rfl, rfl⟩))
        go_ret
        exact ⟨by rw [HM.out]; rfl, by go_grown⟩
      | true =>
        by_cases hb : 400 < n
        · have hbi : (400 : Int) < (n : Int) := by omega
          have HM : Hid (r = 2) := HV.out.trans (by simp [h0, h1, h2, hb])
          clear HV
          go_enter Tryz.func183, Tryz.ntmps183
          go_wp2_with (first | (go_at_call 120; refine (isBetween_bt _ _ _ _).mono ?_; rintro e w' ⟨rfl, rfl⟩) | (go_at_call 189; refine (areFlags_bt _ _).mono ?_; rintro e w' ⟨rfl, rfl⟩))
          go_ret
          exact ⟨by rw [HM.out]; rfl, by go_grown⟩
        · have hbi : ¬ (400 : Int) < (n : Int) := by omega
          have HM : Hid (r = 0) := HV.out.trans (by simp [h0, h1, h2, hb])
          clear HV
          go_enter Tryz.func183, Tryz.ntmps183
          go_wp2_with (first | (go_at_call 120; refine (isBetween_bt _ _ _ _).mono ?_; rintro e w' ⟨rfl, rfl⟩) | (go_at_call 189; refine (areFlags_bt _ _).mono ?_; rintro e w' ⟨rfl, rfl⟩))
          go_ret
          exact ⟨by rw [HM.out]; rfl, by go_grown⟩

end Go.Proofs.YtejbbnpgghpgaaaGreatDoor

namespace Go.Proofs.YtejbbnpgghpgaaaGreatDoor
open Go.RowKit

/-- How the reckoning of a size ends. -/
def SzQ (left : Int) (C : Prop) (w : World) (e : Ending) (w' : World) : Prop := ∃ r : Int, e = .returned (.int .i64 r) ∧ (r = -1 ∨ 0 ≤ r ∧ r ≤ left ∧ C) ∧ Below w.heap.size w w'

theorem szByteS_any (s : SlQ) (left : Int) (w : World) (h0 : 0 ≤ left) (h1 : left ≤ 1048576) (hn : s.2.1 ≤ maxLen) :
    Calls Tryz.prog 54 #[slW s, .int .i64 left] w fun e w' => SzQ left (s.2.1 ≤ 1048576) w e w' := by
  obtain ⟨a, n, cap⟩ := s
  dsimp only at *
  unfold maxLen at hn
  by_cases c1 : left - (n : Int) < 0
  · go_enter Tryz.func54, Tryz.ntmps54
    go_wp2
    go_ret
    exact ⟨-1, rfl, .inl rfl, by go_grown⟩
  · go_enter Tryz.func54, Tryz.ntmps54
    go_wp2
    go_ret
    exact ⟨left - (n : Int), rfl, .inr ⟨by omega, by omega, by omega⟩, by go_grown⟩

/-- A block of four cells, far on. -/
theorem qd_block {w W wr : World} {c0 c1 c2 c3 : Value} {t : TypeId} (hW : w.alloc (.cells #[c0, c1, c2, c3] t) = W) (hb : Below (w.heap.size + 1) W wr) :
    wr.cell? ⟨w.heap.size, 0, none⟩ = some c0 ∧ wr.cell? ⟨w.heap.size, 1, none⟩ = some c1 ∧ wr.cell? ⟨w.heap.size, 2, none⟩ = some c2 ∧ wr.cell? ⟨w.heap.size, 3, none⟩ = some c3 ∧ wr.frozen? ⟨w.heap.size, 0, none⟩ = false ∧ wr.frozen? ⟨w.heap.size, 1, none⟩ = false ∧ wr.frozen? ⟨w.heap.size, 2, none⟩ = false ∧ wr.frozen? ⟨w.heap.size, 3, none⟩ = false := by
  subst hW
  refine ⟨?_, ?_, ?_, ?_, ?_, ?_, ?_, ?_⟩
  · rw [hb.cell (p := ⟨w.heap.size, 0, none⟩) (by simp)]; simp
  · rw [hb.cell (p := ⟨w.heap.size, 1, none⟩) (by simp)]; simp
  · rw [hb.cell (p := ⟨w.heap.size, 2, none⟩) (by simp)]; simp
  · rw [hb.cell (p := ⟨w.heap.size, 3, none⟩) (by simp)]; simp
  · rw [hb.frozen (p := ⟨w.heap.size, 0, none⟩) (by simp)]; simp
  · rw [hb.frozen (p := ⟨w.heap.size, 1, none⟩) (by simp)]; simp
  · rw [hb.frozen (p := ⟨w.heap.size, 2, none⟩) (by simp)]; simp
  · rw [hb.frozen (p := ⟨w.heap.size, 3, none⟩) (by simp)]; simp
theorem qd_cells {wr : World} {sz : Nat} {x0 x1 x2 x3 : Value} (h0 : wr.cell? ⟨sz, 0, none⟩ = some x0) (h1 : wr.cell? ⟨sz, 1, none⟩ = some x1) (h2 : wr.cell? ⟨sz, 2, none⟩ = some x2) (h3 : wr.cell? ⟨sz, 3, none⟩ = some x3) (c t u v : Value) :
    (wr.setCell ⟨sz, 0, none⟩ c).cell? ⟨sz, 0, none⟩ = some c ∧ ((wr.setCell ⟨sz, 0, none⟩ c).setCell ⟨sz, 1, none⟩ t).cell? ⟨sz, 1, none⟩ = some t ∧
    (((wr.setCell ⟨sz, 0, none⟩ c).setCell ⟨sz, 1, none⟩ t).setCell ⟨sz, 2, none⟩ u).cell? ⟨sz, 2, none⟩ = some u ∧
    ((((wr.setCell ⟨sz, 0, none⟩ c).setCell ⟨sz, 1, none⟩ t).setCell ⟨sz, 2, none⟩ u).setCell ⟨sz, 3, none⟩ v).cell? ⟨sz, 3, none⟩ = some v := by
  have h1' : (wr.setCell ⟨sz, 0, none⟩ c).cell? ⟨sz, 1, none⟩ = some x1 := by simp [go_sem, h1]
  have h2' : ((wr.setCell ⟨sz, 0, none⟩ c).setCell ⟨sz, 1, none⟩ t).cell? ⟨sz, 2, none⟩ = some x2 := by simp [go_sem, h2]
  have h3' : (((wr.setCell ⟨sz, 0, none⟩ c).setCell ⟨sz, 1, none⟩ t).setCell ⟨sz, 2, none⟩ u).cell? ⟨sz, 3, none⟩ = some x3 := by simp [go_sem, h3]
  exact ⟨World.cell?_setCell_same _ _ _ h0, World.cell?_setCell_same _ _ _ h1', World.cell?_setCell_same _ _ _ h2', World.cell?_setCell_same _ _ _ h3'⟩
/-- Two blocks of four cells that were laid one behind the other, far on. -/
theorem qd_blocks {w0 w wr : World} {c0 c1 c2 c3 z0 z1 z2 z3 : Value} {o : Obj} {t t' : TypeId} (h0 : w = w0.alloc o)
    (hb : Below (w0.heap.size + 3) ((w.alloc (.cells #[z0, z1, z2, z3] t)).alloc (.cells #[c0, c1, c2, c3] t')) wr) :
    (wr.cell? ⟨w0.heap.size + 1, 0, none⟩ = some z0 ∧ wr.cell? ⟨w0.heap.size + 1, 1, none⟩ = some z1 ∧ wr.cell? ⟨w0.heap.size + 1, 2, none⟩ = some z2 ∧ wr.cell? ⟨w0.heap.size + 1, 3, none⟩ = some z3 ∧ wr.frozen? ⟨w0.heap.size + 1, 0, none⟩ = false ∧ wr.frozen? ⟨w0.heap.size + 1, 1, none⟩ = false ∧ wr.frozen? ⟨w0.heap.size + 1, 2, none⟩ = false ∧ wr.frozen? ⟨w0.heap.size + 1, 3, none⟩ = false) ∧
    (wr.cell? ⟨w0.heap.size + 1 + 1, 0, none⟩ = some c0 ∧ wr.cell? ⟨w0.heap.size + 1 + 1, 1, none⟩ = some c1 ∧ wr.cell? ⟨w0.heap.size + 1 + 1, 2, none⟩ = some c2 ∧ wr.cell? ⟨w0.heap.size + 1 + 1, 3, none⟩ = some c3 ∧ wr.frozen? ⟨w0.heap.size + 1 + 1, 0, none⟩ = false ∧ wr.frozen? ⟨w0.heap.size + 1 + 1, 1, none⟩ = false ∧ wr.frozen? ⟨w0.heap.size + 1 + 1, 2, none⟩ = false ∧ wr.frozen? ⟨w0.heap.size + 1 + 1, 3, none⟩ = false) := by
  have e1 : w.heap.size = w0.heap.size + 1 := by rw [h0]; simp
  have e2 : (w.alloc (.cells #[z0, z1, z2, z3] t)).heap.size = w0.heap.size + 1 + 1 := by simp [e1]
  have hA : Below (w.heap.size + 1) (w.alloc (.cells #[z0, z1, z2, z3] t)) wr := ((Below.refl _ _).alloc (by simp) _).trans (hb.mono (by omega))
  have k1 := qd_block rfl hA
  have k2 := qd_block (w := w.alloc (.cells #[z0, z1, z2, z3] t)) rfl (hb.mono (by omega))
  rw [e1] at k1
  rw [e2] at k2
  exact ⟨k1, k2⟩

set_option maxHeartbeats 1600000 in
set_option maxRecDepth 100000 in
theorem eqMessage_same (m : Msg) (s s' : SlQ) {lo lo' : Nat} (w : World) (hs : IsSl lo w s m.b) (hs' : IsSl lo' w s' m.b) (hn : s.2.1 ≤ 1048576) :
    Calls Tryz.prog 198 #[msX m s, msX m s'] w fun e w' => e = .returned (.bool true) ∧ Below w.heap.size w w' := by
  have hbW : Below w.heap.size w (((w.alloc (.cells #[.int .i64 m.u, .int .i64 m.f, .int .i64 m.d, slW s] 136)).alloc (.cells #[.int .i64 m.u, .int .i64 m.f, .int .i64 m.d, slW s'] 136))) :=
    ((Below.refl _ _).alloc (Nat.le_refl _) _).alloc (by simp) _
  have HC := eqByteS_same s.1 s'.1 s.2.1 s.2.2 s'.2.2 m.b _ hs.1 (hs.2.2.2.2.1.below hbW) (hs'.2.2.2.2.1.below hbW) hn
  have he : s'.2.1 = s.2.1 := by rw [← hs.1, ← hs'.1]
  obtain ⟨a', n', c'⟩ := s'
  dsimp only at he
  subst he
  go_enter Tryz.func198, Tryz.ntmps198
  go_wp2_with fail
  refine HC.mono ?_
  rintro e w1 ⟨rfl, hb1⟩
  have hbw := hbW.trans (hb1.mono hbW.size)
  clear HC hb1 hbW
  go_wp2
  go_ret
  exact ⟨rfl, hbw⟩

/-- Four cells of a block. -/
def Qc (w : World) (g : Nat) (q : Qd) : Prop := w.cell? ⟨g, 0, none⟩ = some q.1 ∧ w.cell? ⟨g, 1, none⟩ = some q.2.1 ∧ w.cell? ⟨g, 2, none⟩ = some q.2.2.1 ∧ w.cell? ⟨g, 3, none⟩ = some q.2.2.2
theorem Qc.below {C : Nat} {w w' : World} {g : Nat} {q : Qd} (h : Qc w g q) (hb : Below C w w') (hg : g < C) : Qc w' g q :=
  ⟨(hb.cell (p := ⟨g, 0, none⟩) hg).trans h.1, (hb.cell (p := ⟨g, 1, none⟩) hg).trans h.2.1, (hb.cell (p := ⟨g, 2, none⟩) hg).trans h.2.2.1, (hb.cell (p := ⟨g, 3, none⟩) hg).trans h.2.2.2⟩
theorem Qc.new (w : World) (c0 c1 c2 c3 : Value) (t : TypeId) : Qc (w.alloc (.cells #[c0, c1, c2, c3] t)) w.heap.size (c0, c1, c2, c3) := ⟨by simp, by simp, by simp, by simp⟩
theorem Qc.lt {w : World} {g : Nat} {q : Qd} (h : Qc w g q) : g < w.heap.size := World.block_lt_of_cell? w ⟨g, 0, none⟩ h.1

/-- What the laws let through. -/
def FtM (m : Msg) : Prop := m.b.length ≤ 1048576
theorem eqMessage_ft (m : Msg) (s s' : SlQ) {lo lo' : Nat} (w : World) (hs : IsSl lo w s m.b) (hs' : IsSl lo' w s' m.b) (hf : FtM m) :
    Calls Tryz.prog 198 #[msX m s, msX m s'] w fun e w' => e = .returned (.bool true) ∧ Below w.heap.size w w' := eqMessage_same m s s' w hs hs' (by rw [← hs.1]; exact hf)
end Go.Proofs.YtejbbnpgghpgaaaGreatDoor
