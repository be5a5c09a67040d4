/- The draws of messages; no conditions beyond those that each fact names · What is drawn for ComesAhead: two messages, a comparator, a key. -/
import Derived.Test.YtfbjodbihenmjaaGreatDoorDr5
import Derived.Test.YtfbjodbihenmjaaGreatDoorMsbToCah
import Derived.Test.YtfbjodbihenmjaaGreatDoorDrw3aToChn
namespace Go.Proofs.YtfbjodbihenmjaaGreatDoor
open Go.RowKit
set_option linter.unusedVariables false

/-- How the draw of a message ends. -/
def MsgEnd (B b M : Nat) (uid : Int) (w : World) (e : Ending) (w' : World) : Prop := ∃ (m : Msg) (s : SlQ), e = .returned (msX m s) ∧ m.u = uid ∧ D0 (w.heap.size + 1) w' s m.b ∧ m.b.length ≤ 600 ∧ Go.Proofs.YtfbjodbihenmjaaGreatDoor.Src w' B b M ∧ Kb b w w'

/-- Four cells that may be written, where all blocks but b stay. -/
theorem qd_kb {w w' : World} {b g : Nat} {c0 c1 c2 c3 : Value} (hk : Kb b w w') (hg : g ≠ b) (hlt : g < w.heap.size)
    (h : (w.cell? ⟨g, 0, none⟩ = some c0 ∧ w.cell? ⟨g, 1, none⟩ = some c1 ∧ w.cell? ⟨g, 2, none⟩ = some c2 ∧ w.cell? ⟨g, 3, none⟩ = some c3) ∧ w.frozen? ⟨g, 0, none⟩ = false ∧ w.frozen? ⟨g, 1, none⟩ = false ∧ w.frozen? ⟨g, 2, none⟩ = false ∧ w.frozen? ⟨g, 3, none⟩ = false) :
    (w'.cell? ⟨g, 0, none⟩ = some c0 ∧ w'.cell? ⟨g, 1, none⟩ = some c1 ∧ w'.cell? ⟨g, 2, none⟩ = some c2 ∧ w'.cell? ⟨g, 3, none⟩ = some c3) ∧ w'.frozen? ⟨g, 0, none⟩ = false ∧ w'.frozen? ⟨g, 1, none⟩ = false ∧ w'.frozen? ⟨g, 2, none⟩ = false ∧ w'.frozen? ⟨g, 3, none⟩ = false := by
  have e1 : ∀ i, w'.cell? ⟨g, i, none⟩ = w.cell? ⟨g, i, none⟩ := fun i => World.grownBy.cell_far hk ⟨g, i, none⟩ hlt (fun e => by injection e with e; exact hg e)
  have e2 : ∀ i, w'.frozen? ⟨g, i, none⟩ = w.frozen? ⟨g, i, none⟩ := fun i => World.grownBy.frozen_far hk ⟨g, i, none⟩ hlt (fun e => by injection e with e; exact hg e)
  rw [e1, e1, e1, e1, e2, e2, e2, e2]
  exact h

set_option maxHeartbeats 1600000 in
set_option maxRecDepth 100000 in
theorem l7DrawMessage_any (B b M : Nat) (uid : Int) (w : World) (hs : Go.Proofs.YtfbjodbihenmjaaGreatDoor.Src w B b M) (hM : M ≤ 70000) :
    Calls Tryz.prog 18 #[.pointer (some ⟨b, 0, none⟩), .int .i64 uid] w fun e w' => MsgEnd B b (M + 210) uid w e w' := by
  have hbw : b < w.heap.size := hs.2.1
  have hbA : Below w.heap.size w (w.alloc (.cells #[.int .i64 0, .int .i64 0, .int .i64 0, .slice none 0 0] 25)) := (Below.refl _ _).alloc (Nat.le_refl _) _
  have hsA := hs.below (hbA.mono hbw)
  have hKA : Kb b w (w.alloc (.cells #[.int .i64 0, .int .i64 0, .int .i64 0, .slice none 0 0] 25)) := (Kb.refl b w).below hbA
  have hzA : (w.alloc (.cells #[.int .i64 0, .int .i64 0, .int .i64 0, .slice none 0 0] 25)).heap.size = w.heap.size + 1 := by simp
  have hqA : ((w.alloc (.cells #[.int .i64 0, .int .i64 0, .int .i64 0, .slice none 0 0] 25)).cell? ⟨w.heap.size, 0, none⟩ = some (.int .i64 0) ∧ (w.alloc (.cells #[.int .i64 0, .int .i64 0, .int .i64 0, .slice none 0 0] 25)).cell? ⟨w.heap.size, 1, none⟩ = some (.int .i64 0) ∧ (w.alloc (.cells #[.int .i64 0, .int .i64 0, .int .i64 0, .slice none 0 0] 25)).cell? ⟨w.heap.size, 2, none⟩ = some (.int .i64 0) ∧ (w.alloc (.cells #[.int .i64 0, .int .i64 0, .int .i64 0, .slice none 0 0] 25)).cell? ⟨w.heap.size, 3, none⟩ = some (.slice none 0 0)) ∧ (w.alloc (.cells #[.int .i64 0, .int .i64 0, .int .i64 0, .slice none 0 0] 25)).frozen? ⟨w.heap.size, 0, none⟩ = false ∧ (w.alloc (.cells #[.int .i64 0, .int .i64 0, .int .i64 0, .slice none 0 0] 25)).frozen? ⟨w.heap.size, 1, none⟩ = false ∧ (w.alloc (.cells #[.int .i64 0, .int .i64 0, .int .i64 0, .slice none 0 0] 25)).frozen? ⟨w.heap.size, 2, none⟩ = false ∧ (w.alloc (.cells #[.int .i64 0, .int .i64 0, .int .i64 0, .slice none 0 0] 25)).frozen? ⟨w.heap.size, 3, none⟩ = false := ⟨⟨by simp, by simp, by simp, by simp⟩, by simp, by simp, by simp, by simp⟩
  go_enter Tryz.func18, Tryz.ntmps18
  go_wp2_with fail
  generalize w.alloc (.cells #[.int .i64 0, .int .i64 0, .int .i64 0, .slice none 0 0] 25) = WA at *
  refine (l1Next_any B b M 16 WA hsA (by omega) (by omega) (by omega)).mono ?_
  rintro e w1 ⟨f, rfl, f0, f1, -, hs1, hg1⟩
  have hq1 := qd_kb hg1 (by omega) (by omega) hqA
  have hK1 := hKA.grown hg1
  have hz1 : w.heap.size + 1 ≤ w1.heap.size := by rw [← hzA]; exact hg1.size
  clear hsA hg1 hqA hKA hbA
  go_wp2_with fail
  refine (l1Next_any B b (M + 1) 50 w1 hs1 (by omega) (by omega) (by omega)).mono ?_
  rintro e w2 ⟨d, rfl, d0, d1, -, hs2, hg2⟩
  have hq2 := qd_kb hg2 (by omega) (by omega) hq1
  have hK2 := hK1.grown hg2
  have hz2 : w.heap.size + 1 ≤ w2.heap.size := Nat.le_trans hz1 hg2.size
  clear hs1 hg2 hq1 hK1
  go_wp2_with fail
  refine (l5Draw_any B b (M + 1 + 1) w2 hs2 (by omega)).mono ?_
  rintro e w3 ⟨⟨sa, sn, sc⟩, out, rfl, hd3, hl3, hs3, hk3⟩
  dsimp only [slW] at hd3 ⊢
  have hq3 := qd_kb hk3 (by omega) (by omega) hq2
  have hK3 := hK2.trans hk3
  have hz3 : w.heap.size + 1 ≤ w3.heap.size := Nat.le_trans hz2 hk3.size
  have hd3 := hd3.low (lo' := w.heap.size + 1) hz2
  have hs3 := hs3.more (show M + 1 + 1 + 200 ≤ M + 210 by omega)
  clear hs2 hq2 hK2 hk3
  obtain ⟨⟨c0, c1, c2, c3⟩, y0, y1, y2, y3⟩ := hq3
  obtain ⟨q0, q1, q2, q3⟩ := qd_cells (sz := w.heap.size) c0 c1 c2 c3 (.int .i64 uid) (.int .i64 f) (.int .i64 d) (.slice sa sn sc)
  have hB4 : Below w.heap.size w3 ((((w3.setCell ⟨w.heap.size, 0, none⟩ (.int .i64 uid)).setCell ⟨w.heap.size, 1, none⟩ (.int .i64 f)).setCell ⟨w.heap.size, 2, none⟩ (.int .i64 d)).setCell ⟨w.heap.size, 3, none⟩ (.slice sa sn sc)) := ((((Below.refl _ _).setCell (by simp) _).setCell (by simp) _).setCell (by simp) _).setCell (by simp) _
  have hZ4 : Kz (w.heap.size + 1) isU8 w3 ((((w3.setCell ⟨w.heap.size, 0, none⟩ (.int .i64 uid)).setCell ⟨w.heap.size, 1, none⟩ (.int .i64 f)).setCell ⟨w.heap.size, 2, none⟩ (.int .i64 d)).setCell ⟨w.heap.size, 3, none⟩ (.slice sa sn sc)) := (((Kz.set _ _ (by omega)).trans (Kz.set _ _ (by omega))).trans (Kz.set _ _ (by omega))).trans (Kz.set _ _ (by omega))
  have HD : Hid (_) := And.intro (hd3.kz hZ4) (And.intro (hs3.below (hB4.mono hbw)) (hK3.below' hB4))
  clear hd3 hs3 hK3 hB4 hZ4
  go_wp2
  refine bodyPost_ret (v := .agg #[.int .i64 uid, .int .i64 f, .int .i64 d, .slice sa sn sc]) (by simp [results, Tryz.results18, go_sem, q0, q1, q2, q3]) rfl ?_
  exact ⟨⟨uid, f, d, out⟩, (sa, sn, sc), rfl, rfl, HD.out.1, hl3, HD.out.2.1, HD.out.2.2⟩
end Go.Proofs.YtfbjodbihenmjaaGreatDoor

namespace Go.Proofs.YtfbjodbihenmjaaGreatDoor
open Go.RowKit
set_option linter.unusedVariables false

/-- Four cells that may be written. -/
def P4 (w : World) (g : Nat) (c0 c1 c2 c3 : Value) : Prop := (w.cell? ⟨g, 0, none⟩ = some c0 ∧ w.cell? ⟨g, 1, none⟩ = some c1 ∧ w.cell? ⟨g, 2, none⟩ = some c2 ∧ w.cell? ⟨g, 3, none⟩ = some c3) ∧ w.frozen? ⟨g, 0, none⟩ = false ∧ w.frozen? ⟨g, 1, none⟩ = false ∧ w.frozen? ⟨g, 2, none⟩ = false ∧ w.frozen? ⟨g, 3, none⟩ = false
theorem P4.new (w : World) (c0 c1 c2 c3 : Value) (t : TypeId) : P4 (w.alloc (.cells #[c0, c1, c2, c3] t)) w.heap.size c0 c1 c2 c3 := ⟨⟨by simp, by simp, by simp, by simp⟩, by simp, by simp, by simp, by simp⟩
theorem P4.lt {w : World} {g : Nat} {c0 c1 c2 c3 : Value} (h : P4 w g c0 c1 c2 c3) : g < w.heap.size := World.block_lt_of_cell? w ⟨g, 0, none⟩ h.1.1
theorem P4.below {C : Nat} {w w' : World} {g : Nat} {c0 c1 c2 c3 : Value} (h : P4 w g c0 c1 c2 c3) (hb : Below C w w') (hg : g < C) : P4 w' g c0 c1 c2 c3 :=
  ⟨⟨(hb.cell (p := ⟨g, 0, none⟩) hg).trans h.1.1, (hb.cell (p := ⟨g, 1, none⟩) hg).trans h.1.2.1, (hb.cell (p := ⟨g, 2, none⟩) hg).trans h.1.2.2.1, (hb.cell (p := ⟨g, 3, none⟩) hg).trans h.1.2.2.2⟩, (hb.frozen (p := ⟨g, 0, none⟩) hg).trans h.2.1, (hb.frozen (p := ⟨g, 1, none⟩) hg).trans h.2.2.1, (hb.frozen (p := ⟨g, 2, none⟩) hg).trans h.2.2.2.1, (hb.frozen (p := ⟨g, 3, none⟩) hg).trans h.2.2.2.2⟩
theorem P4.kb {w w' : World} {b g : Nat} {c0 c1 c2 c3 : Value} (h : P4 w g c0 c1 c2 c3) (hk : Kb b w w') (hg : g ≠ b) : P4 w' g c0 c1 c2 c3 := qd_kb hk hg h.lt h
theorem P4.four {w : World} {g : Nat} {c0 c1 c2 c3 : Value} (h : P4 w g c0 c1 c2 c3) (a b c d : Value) : P4 ((((w.setCell ⟨g, 0, none⟩ a).setCell ⟨g, 1, none⟩ b).setCell ⟨g, 2, none⟩ c).setCell ⟨g, 3, none⟩ d) g a b c d := by
  obtain ⟨⟨h0, h1, h2, h3⟩, f0, f1, f2, f3⟩ := h
  refine ⟨⟨?_, ?_, ?_, ?_⟩, by simp [World.frozen?_setCell, f0], by simp [World.frozen?_setCell, f1], by simp [World.frozen?_setCell, f2], by simp [World.frozen?_setCell, f3]⟩
  · rw [World.cell?_setCell_other _ _ _ _ (by simp), World.cell?_setCell_other _ _ _ _ (by simp), World.cell?_setCell_other _ _ _ _ (by simp)]
    exact World.cell?_setCell_same _ _ _ h0
  · rw [World.cell?_setCell_other _ _ _ _ (by simp), World.cell?_setCell_other _ _ _ _ (by simp)]
    exact World.cell?_setCell_same _ _ _ ((World.cell?_setCell_other _ _ _ _ (by simp)).trans h1)
  · rw [World.cell?_setCell_other _ _ _ _ (by simp)]
    exact World.cell?_setCell_same _ _ _ ((World.cell?_setCell_other _ _ _ _ (by simp)).trans ((World.cell?_setCell_other _ _ _ _ (by simp)).trans h2))
  · exact World.cell?_setCell_same _ _ _ ((World.cell?_setCell_other _ _ _ _ (by simp)).trans ((World.cell?_setCell_other _ _ _ _ (by simp)).trans ((World.cell?_setCell_other _ _ _ _ (by simp)).trans h3)))
theorem P4.far {w : World} {g : Nat} {c0 c1 c2 c3 : Value} (h : P4 w g c0 c1 c2 c3) (k j : Nat) (v : Value) (hk : k ≠ g) : P4 (w.setCell ⟨k, j, none⟩ v) g c0 c1 c2 c3 := by
  obtain ⟨⟨h0, h1, h2, h3⟩, f0, f1, f2, f3⟩ := h
  have kc : ∀ i, (w.setCell ⟨k, j, none⟩ v).cell? ⟨g, i, none⟩ = w.cell? ⟨g, i, none⟩ := fun i => World.cell?_setCell_other _ _ _ _ (fun e => hk (by injection e))
  exact ⟨⟨(kc _).trans h0, (kc _).trans h1, (kc _).trans h2, (kc _).trans h3⟩, by simp [World.frozen?_setCell, f0], by simp [World.frozen?_setCell, f1], by simp [World.frozen?_setCell, f2], by simp [World.frozen?_setCell, f3]⟩
/-- What is drawn. -/
def CaEnd (w : World) (e : Ending) (w' : World) : Prop := ∃ (m1 m2 : Msg) (s1 s2 : SlQ) (k key : Int), e = .returned (.tuple #[msX m1 s1, msX m2 s2, .int .i64 k, .int .i64 key]) ∧ D0 w.heap.size w' s1 m1.b ∧ D0 w.heap.size w' s2 m2.b ∧ (m1.b.length ≤ 600 ∧ m2.b.length ≤ 600) ∧ Below w.heap.size w w'

set_option maxHeartbeats 3200000 in
set_option maxRecDepth 100000 in
theorem drawComesAhead_any (a : Option Addr) (n cap : Nat) (l : List Nat) (w : World) (hl : l.length = n) (hr : Rd w a l) (hB : IsB l) (hn : n ≤ 1048576) :
    Calls Tryz.prog 6 #[.slice a n cap] w fun e w' => CaEnd w e w' := by
  have hbA : Below w.heap.size w ((w.alloc (.cells #[.int .i64 0, .int .i64 0, .int .i64 0, .slice none 0 0] 25)).alloc (.cells #[.int .i64 0, .int .i64 0, .int .i64 0, .slice none 0 0] 25)) := ((Below.refl _ _).alloc (Nat.le_refl _) _).alloc (by simp) _
  have hzA : ((w.alloc (.cells #[.int .i64 0, .int .i64 0, .int .i64 0, .slice none 0 0] 25)).alloc (.cells #[.int .i64 0, .int .i64 0, .int .i64 0, .slice none 0 0] 25)).heap.size = w.heap.size + 2 := by simp
  have hR : P4 ((w.alloc (.cells #[.int .i64 0, .int .i64 0, .int .i64 0, .slice none 0 0] 25)).alloc (.cells #[.int .i64 0, .int .i64 0, .int .i64 0, .slice none 0 0] 25)) w.heap.size (.int .i64 0) (.int .i64 0) (.int .i64 0) (.slice none 0 0) := (P4.new w _ _ _ _ _).below ((Below.refl (w.heap.size + 1) _).alloc (by simp) _) (by omega)
  have hU : P4 ((w.alloc (.cells #[.int .i64 0, .int .i64 0, .int .i64 0, .slice none 0 0] 25)).alloc (.cells #[.int .i64 0, .int .i64 0, .int .i64 0, .slice none 0 0] 25)) (w.heap.size + 1) (.int .i64 0) (.int .i64 0) (.int .i64 0) (.slice none 0 0) := by
    have h := P4.new (w.alloc (.cells #[.int .i64 0, .int .i64 0, .int .i64 0, .slice none 0 0] 25)) (.int .i64 0) (.int .i64 0) (.int .i64 0) (.slice none 0 0) 25
    simpa using h
  have hrA := hr.below hbA
  go_enter Tryz.func6, Tryz.ntmps6
  go_wp2_with fail
  generalize (w.alloc (.cells #[.int .i64 0, .int .i64 0, .int .i64 0, .slice none 0 0] 25)).alloc (.cells #[.int .i64 0, .int .i64 0, .int .i64 0, .slice none 0 0] 25) = WA at *
  refine (l1Source_any a n cap l _ hl hrA hB hn).mono ?_
  rintro e w1 ⟨rfl, hs1, hb1⟩
  rw [hzA] at hs1
  have hR1 := hR.below hb1 hR.lt
  have hU1 := hU.below hb1 hU.lt
  have hB1 : Below w.heap.size w w1 := hbA.trans (hb1.mono hbA.size)
  rw [hzA]
  clear hR hU hbA hb1 hrA
  obtain ⟨b, hbb⟩ : ∃ b, w.heap.size + 2 = b := ⟨_, rfl⟩
  rw [hbb] at hs1 ⊢
  go_wp2_with fail
  refine (l1Next_any b b 0 5 w1 hs1 (by omega) (by omega) (by omega)).mono ?_
  rintro e w2 ⟨u1, rfl, hu0, hu5, -, hs2, hk2⟩
  have hz1 : b < w1.heap.size := hs1.2.1
  have hz2 := World.grownBy.size hk2
  have hR2 := hR1.kb hk2 (by omega)
  have hU2 := hU1.kb hk2 (by omega)
  have hB2 : Below w.heap.size w w2 := hB1.trans ((gbelow hk2 hz1).mono (by omega))
  have hu5' := hu5 (by omega)
  clear hR1 hU1 hB1 hs1 hk2 hu5
  go_wp2_with fail
  refine (l7DrawMessage_any b b (0 + 1) (1 + u1) w2 hs2 (by omega)).mono ?_
  rintro e w3 ⟨m1, s1, rfl, -, hd3, hm1, hs3, hk3⟩
  have hz3 := World.grownBy.size hk3
  have hR3 := hR2.kb hk3 (by omega)
  have hU3 := hU2.kb hk3 (by omega)
  have hB3 : Below w.heap.size w w3 := hB2.trans ((gbelow hk3 (by omega)).mono (by omega))
  have hd3 := hd3.low (lo' := b + 1) (by omega)
  clear hR2 hU2 hB2 hs2 hk3
  obtain ⟨mu, mf, md, mb⟩ := m1
  obtain ⟨sa, sn, sc⟩ := s1
  dsimp only [slW, msX] at hd3 hm1 ⊢
  go_wp2_with fail
  refine (l1Next_any b b (0 + 1 + 210) 5 w3 hs3 (by omega) (by omega) (by omega)).mono ?_
  rintro e w4 ⟨u2, rfl, hv0, hv5, -, hs4, hk4⟩
  have hz4 := World.grownBy.size hk4
  have hR4 := hR3.kb hk4 (by omega)
  have hU4 := hU3.kb hk4 (by omega)
  have hd4 := hd3.kz (Kz.kb hk4 (by omega))
  have hB4 : Below w.heap.size w w4 := hB3.trans ((gbelow hk4 (by omega)).mono (by omega))
  have hv5' := hv5 (by omega)
  clear hR3 hU3 hB3 hs3 hk4 hv5 hd3
  go_wp2_with fail
  refine (l7DrawMessage_any b b (0 + 1 + 210 + 1) (1 + u2) w4 hs4 (by omega)).mono ?_
  rintro e w5 ⟨m2, s2, rfl, -, hD5, hm2, hs5, hk5⟩
  have hz5 := World.grownBy.size hk5
  have hR5 := hR4.kb hk5 (by omega)
  have hU5 := hU4.kb hk5 (by omega)
  have hd5 := hd4.kz (Kz.kb hk5 (by omega))
  have hB5 : Below w.heap.size w w5 := hB4.trans ((gbelow hk5 (by omega)).mono (by omega))
  have hD5 := hD5.low (lo' := b + 1) (by omega)
  clear hR4 hU4 hB4 hs4 hk5 hd4
  obtain ⟨nu, nf, nd, nb⟩ := m2
  obtain ⟨ta, tn, tc⟩ := s2
  dsimp only [slW, msX] at hD5 hm2 ⊢
  go_wp2_with fail
  refine (l3Draw_any b b (0 + 1 + 210 + 1 + 210) w5 hs5 (by omega)).mono ?_
  rintro e w6 ⟨k, rfl, hs6, hk6⟩
  have hz6 := World.grownBy.size hk6
  have hR6 := hR5.kb hk6 (by omega)
  have hU6 := hU5.kb hk6 (by omega)
  have hd6 := hd5.kz (Kz.kb hk6 (by omega))
  have hD6 := hD5.kz (Kz.kb hk6 (by omega))
  have hB6 : Below w.heap.size w w6 := hB5.trans ((gbelow hk6 (by omega)).mono (by omega))
  clear hR5 hU5 hB5 hs5 hk6 hd5 hD5
  have hbP : Below w6.heap.size w6 (w6.alloc (.cells #[.int .i64 1, .int .i64 2, .int .i64 3, .int .i64 3, .int .i64 4, .int .i64 0, .int .i64 5] 2)) := (Below.refl _ _).alloc (Nat.le_refl _) _
  have hsP := hs6.below (hbP.mono (by omega))
  have hRP := hR6.below hbP hR6.lt
  have hUP := hU6.below hbP hU6.lt
  have hdP := hd6.kz (Kz.below _ hbP)
  have hDP := hD6.kz (Kz.below _ hbP)
  have hBP := hB6.trans (hbP.mono hB6.size)
  have HNW : Hid (Nums (w6.alloc (.cells #[.int .i64 1, .int .i64 2, .int .i64 3, .int .i64 3, .int .i64 4, .int .i64 0, .int .i64 5] 2)) w6.heap.size [1, 2, 3, 3, 4, 0, 5]) := nums_new rfl
  have hzP : (w6.alloc (.cells #[.int .i64 1, .int .i64 2, .int .i64 3, .int .i64 3, .int .i64 4, .int .i64 0, .int .i64 5] 2)).heap.size = w6.heap.size + 1 := by simp
  clear hR6 hU6 hB6 hs6 hd6 hD6 hbP
  go_wp2_with fail
  generalize w6.alloc (.cells #[.int .i64 1, .int .i64 2, .int .i64 3, .int .i64 3, .int .i64 4, .int .i64 0, .int .i64 5] 2) = W6 at *
  refine (l1Pick_any b b _ w6.heap.size 7 7 [1, 2, 3, 3, 4, 0, 5] W6 hsP (by omega) rfl (by omega) (by omega) HNW.out (by omega)).mono ?_
  rintro e w7 ⟨key, rfl, -, -, hk7⟩
  have hz7 := World.grownBy.size hk7
  have hR7 := hRP.kb hk7 (by omega)
  have hU7 := hUP.kb hk7 (by omega)
  have hd7 := hdP.kz (Kz.kb hk7 (by omega))
  have hD7 := hDP.kz (Kz.kb hk7 (by omega))
  have hB7 : Below w.heap.size w w7 := hBP.trans ((gbelow hk7 (by omega)).mono (by omega))
  clear hRP hUP hdP hDP hBP hk7 HNW hsP
  have hR8 := hR7.four (.int .i64 mu) (.int .i64 mf) (.int .i64 md) (.slice sa sn sc)
  have hU8 := (((hU7.far w.heap.size 0 (.int .i64 mu) (by omega)).far w.heap.size 1 (.int .i64 mf) (by omega)).far w.heap.size 2 (.int .i64 md) (by omega)).far w.heap.size 3 (.slice sa sn sc) (by omega)
  have hU9 := hU8.four (.int .i64 nu) (.int .i64 nf) (.int .i64 nd) (.slice ta tn tc)
  have hR9 := (((hR8.far (w.heap.size + 1) 0 (.int .i64 nu) (by omega)).far (w.heap.size + 1) 1 (.int .i64 nf) (by omega)).far (w.heap.size + 1) 2 (.int .i64 nd) (by omega)).far (w.heap.size + 1) 3 (.slice ta tn tc) (by omega)
  have HK : Hid (Kz (b + 1) isU8 w7 ((((((((w7.setCell ⟨w.heap.size, 0, none⟩ (.int .i64 mu)).setCell ⟨w.heap.size, 1, none⟩ (.int .i64 mf)).setCell ⟨w.heap.size, 2, none⟩ (.int .i64 md)).setCell ⟨w.heap.size, 3, none⟩ (.slice sa sn sc)).setCell ⟨w.heap.size + 1, 0, none⟩ (.int .i64 nu)).setCell ⟨w.heap.size + 1, 1, none⟩ (.int .i64 nf)).setCell ⟨w.heap.size + 1, 2, none⟩ (.int .i64 nd)).setCell ⟨w.heap.size + 1, 3, none⟩ (.slice ta tn tc))) := (((((((Kz.set _ _ (by omega)).trans (Kz.set _ _ (by omega))).trans (Kz.set _ _ (by omega))).trans (Kz.set _ _ (by omega))).trans (Kz.set _ _ (by omega))).trans (Kz.set _ _ (by omega))).trans (Kz.set _ _ (by omega))).trans (Kz.set _ _ (by omega))
  have HF : Hid (D0 w.heap.size ((((((((w7.setCell ⟨w.heap.size, 0, none⟩ (.int .i64 mu)).setCell ⟨w.heap.size, 1, none⟩ (.int .i64 mf)).setCell ⟨w.heap.size, 2, none⟩ (.int .i64 md)).setCell ⟨w.heap.size, 3, none⟩ (.slice sa sn sc)).setCell ⟨w.heap.size + 1, 0, none⟩ (.int .i64 nu)).setCell ⟨w.heap.size + 1, 1, none⟩ (.int .i64 nf)).setCell ⟨w.heap.size + 1, 2, none⟩ (.int .i64 nd)).setCell ⟨w.heap.size + 1, 3, none⟩ (.slice ta tn tc)) (sa, sn, sc) mb ∧ D0 w.heap.size ((((((((w7.setCell ⟨w.heap.size, 0, none⟩ (.int .i64 mu)).setCell ⟨w.heap.size, 1, none⟩ (.int .i64 mf)).setCell ⟨w.heap.size, 2, none⟩ (.int .i64 md)).setCell ⟨w.heap.size, 3, none⟩ (.slice sa sn sc)).setCell ⟨w.heap.size + 1, 0, none⟩ (.int .i64 nu)).setCell ⟨w.heap.size + 1, 1, none⟩ (.int .i64 nf)).setCell ⟨w.heap.size + 1, 2, none⟩ (.int .i64 nd)).setCell ⟨w.heap.size + 1, 3, none⟩ (.slice ta tn tc)) (ta, tn, tc) nb ∧ Below w.heap.size w ((((((((w7.setCell ⟨w.heap.size, 0, none⟩ (.int .i64 mu)).setCell ⟨w.heap.size, 1, none⟩ (.int .i64 mf)).setCell ⟨w.heap.size, 2, none⟩ (.int .i64 md)).setCell ⟨w.heap.size, 3, none⟩ (.slice sa sn sc)).setCell ⟨w.heap.size + 1, 0, none⟩ (.int .i64 nu)).setCell ⟨w.heap.size + 1, 1, none⟩ (.int .i64 nf)).setCell ⟨w.heap.size + 1, 2, none⟩ (.int .i64 nd)).setCell ⟨w.heap.size + 1, 3, none⟩ (.slice ta tn tc))) :=
    ⟨(hd7.kz HK.out).low (by omega), (hD7.kz HK.out).low (by omega), (((((((hB7.setCell (by simp) _).setCell (by simp) _).setCell (by simp) _).setCell (by simp) _).setCell (by simp) _).setCell (by simp) _).setCell (by simp) _).setCell (by simp) _⟩
  obtain ⟨⟨z0, z1, z2, z3⟩, g0, g1, g2, g3⟩ := hR7
  obtain ⟨⟨y0, y1, y2, y3⟩, f0, f1, f2, f3⟩ := hU7
  obtain ⟨r0, r1, r2, r3⟩ := hR9.1
  obtain ⟨u0, u1', u2', u3⟩ := hU9.1
  have HR : Hid (_ ∧ _ ∧ _ ∧ _ ∧ _ ∧ _ ∧ _ ∧ _) := ⟨r0, r1, r2, r3, u0, u1', u2', u3⟩
  clear r0 r1 r2 r3 u0 u1' u2' u3 hR8 hU8 hR9 hU9 hd7 hD7 hB7 HK
  go_wp2
  obtain ⟨r0, r1, r2, r3, u0, u1', u2', u3⟩ := HR.out
  refine bodyPost_ret (v := .tuple #[.agg #[.int .i64 mu, .int .i64 mf, .int .i64 md, .slice sa sn sc], .agg #[.int .i64 nu, .int .i64 nf, .int .i64 nd, .slice ta tn tc], .int .i64 k, .int .i64 key]) (by simp [results, Tryz.results6, go_sem, r0, r1, r2, r3, u0, u1', u2', u3]) rfl ?_
  exact ⟨⟨mu, mf, md, mb⟩, ⟨nu, nf, nd, nb⟩, (sa, sn, sc), (ta, tn, tc), k, key, rfl, HF.out.1, HF.out.2.1, ⟨hm1, hm2⟩, HF.out.2.2⟩
end Go.Proofs.YtfbjodbihenmjaaGreatDoor
