/- The draw of a mailbox that may be bent; no conditions beyond those that each fact names. -/
import Derived.Test.YtilepbbcinbmhaaDoorDr9
import Derived.OneCell
namespace Go.Proofs.YtilepbbcinbmhaaDoor
open Go.RowKit
set_option linter.unusedVariables false

theorem Kz.set' {lo : Nat} {T : Value → Prop} {w : World} {R j : Nat} {u : Value} (v : Value) (hR : w.cell? ⟨R, 0, none⟩ = some u) (hu : ¬ T u) : Kz lo T w (w.setCell ⟨R, j, none⟩ v) :=
  ⟨by simp, fun k hk ⟨u', h1, h2⟩ i => World.cell?_setCell_other _ _ _ _ (fun e => by cases e; rw [hR] at h1; cases h1; exact hu h2)⟩
theorem notN_str (s : ByteArray) : ¬ isN (.string s) := by rintro (⟨x, hx⟩ | ⟨x, hx⟩) <;> cases hx
theorem Qf.set0 {w : World} {g : Nat} {q : Qd} (h : Qf w g q) (v : Value) : Qf (w.setCell ⟨g, 0, none⟩ v) g (v, q.2.1, q.2.2.1, q.2.2.2) := by
  obtain ⟨⟨h0, h1, h2, h3⟩, f0, f1, f2, f3⟩ := h
  exact ⟨⟨World.cell?_setCell_same _ _ _ h0, (World.cell?_setCell_other _ _ _ _ (by simp)).trans h1, (World.cell?_setCell_other _ _ _ _ (by simp)).trans h2, (World.cell?_setCell_other _ _ _ _ (by simp)).trans h3⟩, by simpa using f0, by simpa using f1, by simpa using f2, by simpa using f3⟩
/-- Names that are none. -/
def bnB (i : Nat) : ByteArray := [⟨#[]⟩, ⟨#[65]⟩, ⟨#[116, 111, 111, 108, 111, 110, 103, 110, 97, 109, 101]⟩].getD i ⟨#[]⟩
theorem bnB_cells (w : World) (i : Nat) (hi : i < 3) : (w.alloc (.cells #[.string ⟨#[]⟩, .string ⟨#[65]⟩, .string ⟨#[116, 111, 111, 108, 111, 110, 103, 110, 97, 109, 101]⟩] 9)).cell? ⟨w.heap.size, i, none⟩ = some (.string (bnB i)) := by
  obtain rfl | rfl | rfl : i = 0 ∨ i = 1 ∨ i = 2 := by omega
  all_goals simp [bnB]
theorem bnB_size (i : Nat) : (bnB i).size ≤ 100 := by
  rcases Nat.lt_or_ge i 3 with h | h
  · obtain rfl | rfl | rfl : i = 0 ∨ i = 1 ∨ i = 2 := by omega
    all_goals decide
  · unfold bnB
    rw [List.getD_eq_getElem?_getD, List.getElem?_eq_none (by simpa using h)]
    decide
/-- A row of messages that was just made. -/
theorem made_dr {w' : World} {B g n : Nat} (h : w'.ownsRow B 44 4 (.slice (some ⟨g, 0, none⟩) n n) n (madeCells #[.int .i64 0, .int .i64 0, .int .i64 0, .slice none 0 0] (n * 4)).toList) (hn : n ≤ maxLen) : DR B w' (some ⟨g, 0, none⟩, n, n) (List.replicate n ⟨0, 0, 0, []⟩) := by
  rw [show (madeCells #[.int .i64 0, .int .i64 0, .int .i64 0, .slice none 0 0] (n * 4)).toList = qc (List.replicate n (zMessage)) from made_quads zMessage n] at h
  have hO : OwnM w' B (.slice (some ⟨g, 0, none⟩) n n) (List.replicate n zMessage) := by unfold OwnM; rw [List.length_replicate]; exact h
  refine hO.dr ⟨by simp, fun j hj => ?_⟩
  rw [List.length_replicate] at hj
  refine ⟨(none, 0, 0), ?_, ?_⟩
  · rw [nthQ_get (by simpa using hj), nthM_get (by simpa using hj), List.getElem_replicate, List.getElem_replicate]
  · rw [nthM_get (by simpa using hj), List.getElem_replicate]
    exact ⟨⟨rfl, Nat.le_refl _, by decide, fun x hx => (by simp at hx), fun x hx => (by cases hx), .inl rfl⟩, by simp⟩

/-- How the draw of such a mailbox ends. -/
def BtEnd (B b M : Nat) (w : World) (e : Ending) (w' : World) : Prop := ∃ (x : Bx) (s : SlQ), e = .returned (bxX x s) ∧ x.n.size ≤ 100 ∧ x.m.length ≤ 7 ∧ DR (w.heap.size + 1) w' s x.m ∧ Go.Proofs.YtilepbbcinbmhaaDoor.Src w' B b M ∧ Kb b w w'

set_option maxHeartbeats 6400000 in
set_option maxRecDepth 100000 in
theorem l7BentBox_any (B b M : Nat) (w : World) (hs : Go.Proofs.YtilepbbcinbmhaaDoor.Src w B b M) (hM : M ≤ 40000) :
    Calls Tryd.prog 37 #[.pointer (some ⟨b, 0, none⟩)] w fun e w' => BtEnd B b (M + 1000) w e w' := by
  have hbw : b < w.heap.size := hs.2.1
  have hbA : Below w.heap.size w (w.alloc (.cells #[.string ⟨#[]⟩, .int .i64 0, .int .i64 0, .slice none 0 0] 39)) := (Below.refl _ _).alloc (Nat.le_refl _) _
  have hzA : (w.alloc (.cells #[.string ⟨#[]⟩, .int .i64 0, .int .i64 0, .slice none 0 0] 39)).heap.size = w.heap.size + 1 := by simp
  have hR : Qf (w.alloc (.cells #[.string ⟨#[]⟩, .int .i64 0, .int .i64 0, .slice none 0 0] 39)) w.heap.size (.string ⟨#[]⟩, .int .i64 0, .int .i64 0, .slice none 0 0) := Qf.new w _ _ _ _ _
  have hsA := hs.below (hbA.mono hbw)
  have hKA : Kb b w (w.alloc (.cells #[.string ⟨#[]⟩, .int .i64 0, .int .i64 0, .slice none 0 0] 39)) := (Kb.refl b w).below hbA
  go_enter Tryd.func37, Tryd.ntmps37
  go_wp2_with fail
  generalize w.alloc (.cells #[.string ⟨#[]⟩, .int .i64 0, .int .i64 0, .slice none 0 0] 39) = WA at *
  refine (l7DrawBox_any B b M ⟨#[105, 110]⟩ 1 WA hsA (by omega)).mono ?_
  rintro e y1 ⟨x, s, rfl, hu1, hu2, hu3, hl, hd1, hS1, hk1, ql, hO1, hD1, h0⟩
  obtain ⟨mn, mv, mx, mm⟩ := x
  obtain ⟨sa, sn, sc⟩ := s
  dsimp only [bxX, slW] at hu1 hu2 hu3 hl hd1 hO1 hD1 h0 ⊢
  subst hu1 hu2
  have hlm := hd1.1
  dsimp only at hlm
  rw [hzA] at hd1 hO1 hD1
  have hR1 := hR.grown hk1 (fun e => by injection e with e; omega)
  have hK1 := hKA.trans hk1
  have hz1 : w.heap.size + 1 ≤ y1.heap.size := by rw [← hzA]; exact World.grownBy.size hk1
  clear hR hKA hsA hbA hk1
  have hb2 : Below y1.heap.size y1 (y1.alloc (.cells #[.string ⟨#[105, 110]⟩, .int .i64 1, .int .i64 mx, .slice sa sn sc] 39)) := (Below.refl _ _).alloc (Nat.le_refl _) _
  have hV2 := Qf.new y1 (.string ⟨#[105, 110]⟩) (.int .i64 1) (.int .i64 mx) (.slice sa sn sc) 39
  have hR2 := hR1.below hb2 hR1.lt
  have hO2 := hO1.below hb2 (Nat.le_refl _)
  have hD2 := hD1.kz (Kz.below _ hb2)
  have hd2 := hd1.kz (Kz.below _ hb2)
  have hS2 := hS1.below (hb2.mono hS1.2.1)
  have hK2 := hK1.below hb2
  have hz2 := Nat.le_trans hz1 hb2.size
  have hgv : ∀ g, (Value.slice sa sn sc).ownBlock = some g → g < y1.heap.size := fun g hg => (World.ownsRow.lt hO1 g hg).2
  clear hR1 hO1 hD1 hd1 hS1 hK1 hb2 WA hzA
  go_wp2_with fail
  generalize y1.alloc (.cells #[.string ⟨#[105, 110]⟩, .int .i64 1, .int .i64 mx, .slice sa sn sc] 39) = Y2 at *
  generalize hgV : y1.heap.size = gV at *
  have HGV : Hid (w.heap.size + 1 ≤ gV) := hz1
  clear hz1 hgV y1
  refine (l1Next_any B b (M + 700) 12 Y2 hS2 (by omega) (by omega) (by omega)).mono ?_
  rintro e Y3 ⟨r, rfl, r0, r1, -, hS3, hk3⟩
  have r1 := r1 (by omega)
  have hV3 := hV2.grown hk3 (fun e => by injection e with e; have := HGV.out; omega)
  have hR3 := hR2.grown hk3 (fun e => by injection e with e; omega)
  have hO3 := hO2.kb hk3 (by omega)
  have hD3 := hD2.kz (Kz.kb hk3 (by omega))
  have hd3 := hd2.kz (Kz.kb hk3 (by omega))
  have hK3 := hK2.grown hk3
  have hz3 := Nat.le_trans hz2 hk3.size
  clear hV2 hR2 hO2 hD2 hd2 hS2 hK2 hk3 hz2
  obtain ⟨⟨c0, c1, c2, c3⟩, f0, f1, f2, f3⟩ := id hV3
  obtain ⟨⟨z0, z1, z2, z3⟩, g0, g1, g2, g3⟩ := id hR3
  dsimp only at c0 c1 c2 c3 z0 z1 z2 z3
  have hgR : gV ≠ w.heap.size := by have := HGV.out; omega
  by_cases hr0 : r = 0
  · subst hr0
    have hb4 : Below Y3.heap.size Y3 (Y3.alloc (.cells #[.string ⟨#[]⟩, .string ⟨#[65]⟩, .string ⟨#[116, 111, 111, 108, 111, 110, 103, 110, 97, 109, 101]⟩] 9)) := (Below.refl _ _).alloc (Nat.le_refl _) _
    have hN := bnB_cells Y3
    have hV4 := hV3.below hb4 hV3.lt
    have hR4 := hR3.below hb4 hR3.lt
    have hd4 := hd3.kz (Kz.below _ hb4)
    have hS4 := hS3.below (hb4.mono hS3.2.1)
    have hK4 := hK3.below hb4
    have hgS : gV < Y3.heap.size := hV3.lt
    clear hV3 hR3 hd3 hS3 hK3 hb4 hO3 hD3 c0 c1 c2 c3 f0 f1 f2 f3 z0 z1 z2 z3 g0 g1 g2 g3
    go_wp2_with fail
    generalize Y3.alloc (.cells #[.string ⟨#[]⟩, .string ⟨#[65]⟩, .string ⟨#[116, 111, 111, 108, 111, 110, 103, 110, 97, 109, 101]⟩] 9) = Y4 at *
    generalize hgs : Y3.heap.size = gS at *
    clear hgs Y3
    refine (l1Next_any B b (M + 700 + 1) 3 Y4 hS4 (by omega) (by omega) (by omega)).mono ?_
    rintro e Y5 ⟨i, rfl, i0, i1, -, hS5, hk5⟩
    have i1 := i1 (by omega)
    obtain ⟨i, rfl⟩ := Int.eq_ofNat_of_zero_le i0
    have hi3 : i < 3 := by omega
    have hN5 : Y5.cell? ⟨gS, i, none⟩ = some (.string (bnB i)) := (World.grownBy.cell_far hk5 ⟨gS, i, none⟩ (World.block_lt_of_cell? _ _ (hN i hi3)) (fun e => by injection e with e; dsimp only at e; omega)).trans (hN i hi3)
    have hV5 := hV4.grown hk5 (fun e => by injection e with e; have := HGV.out; omega)
    have hR5 := hR4.grown hk5 (fun e => by injection e with e; omega)
    have hd5 := hd4.kz (Kz.kb hk5 (by omega))
    have hK5 := hK4.grown hk5
    clear hV4 hR4 hd4 hS4 hK4 hk5 hN i0
    obtain ⟨⟨c0, c1, c2, c3⟩, f0, f1, f2, f3⟩ := id hV5
    dsimp only at c0 c1 c2 c3
    have hV6 := hV5.set0 (.string (bnB i))
    have hR6 := hR5.far gV 0 (.string (bnB i)) hgR
    have hd6 := hd5.kz (Kz.set' (R := gV) (j := 0) (.string (bnB i)) c0 (notN_str _))
    have hB6 : Below w.heap.size Y5 (Y5.setCell ⟨gV, 0, none⟩ (.string (bnB i))) := (Below.refl _ _).setCell (by simp; have := HGV.out; omega) _
    have hS6 := hS5.below (hB6.mono hbw)
    have hK6 := hK5.below' hB6
    clear hR5 hd5 hS5 hK5 hB6
    obtain ⟨⟨v0, v1, v2, v3⟩, w0, w1, w2, w3⟩ := id hV6
    obtain ⟨⟨z0, z1, z2, z3⟩, g0, g1, g2, g3⟩ := id hR6
    dsimp only at v0 v1 v2 v3 z0 z1 z2 z3
    obtain ⟨q0, q1, q2, q3⟩ := qd_cells (sz := w.heap.size) z0 z1 z2 z3 (.string (bnB i)) (.int .i64 1) (.int .i64 mx) (.slice sa sn sc)
    have hB9 : Below w.heap.size (Y5.setCell ⟨gV, 0, none⟩ (.string (bnB i))) ((((World.setCell (Y5.setCell ⟨gV, 0, none⟩ (.string (bnB i))) ⟨w.heap.size, 0, none⟩ (.string (bnB i))).setCell ⟨w.heap.size, 1, none⟩ (.int .i64 1)).setCell ⟨w.heap.size, 2, none⟩ (.int .i64 mx)).setCell ⟨w.heap.size, 3, none⟩ (.slice sa sn sc)) := ((((Below.refl _ _).setCell (by simp) _).setCell (by simp) _).setCell (by simp) _).setCell (by simp) _
    have hZ9 : Kz (w.heap.size + 1) isN (Y5.setCell ⟨gV, 0, none⟩ (.string (bnB i))) ((((World.setCell (Y5.setCell ⟨gV, 0, none⟩ (.string (bnB i))) ⟨w.heap.size, 0, none⟩ (.string (bnB i))).setCell ⟨w.heap.size, 1, none⟩ (.int .i64 1)).setCell ⟨w.heap.size, 2, none⟩ (.int .i64 mx)).setCell ⟨w.heap.size, 3, none⟩ (.slice sa sn sc)) := (((Kz.set _ _ (by omega)).trans (Kz.set _ _ (by omega))).trans (Kz.set _ _ (by omega))).trans (Kz.set _ _ (by omega))
    have HD : Hid (_) := And.intro (DR.kz (hd6.low (by omega)) hZ9) (And.intro (Go.Proofs.YtilepbbcinbmhaaDoor.Src.below (hS6) (hB9.mono hbw)) (Kb.below' (hK6) hB9))
    clear hB9 hZ9 hV6 hR6
    go_wp2
    refine bodyPost_ret (v := .agg #[.string (bnB i), .int .i64 1, .int .i64 mx, .slice sa sn sc]) (by simp [results, Tryd.results37, go_sem, q0, q1, q2, q3]) rfl ?_
    exact ⟨⟨bnB i, 1, mx, mm⟩, (sa, sn, sc), rfl, by exact bnB_size i, by (dsimp only; omega), HD.out.1, HD.out.2.1.more (by omega), HD.out.2.2⟩
  by_cases hr1 : r = 1
  · subst hr1
    have hb4 : Below Y3.heap.size Y3 (Y3.alloc (.cells #[.int .i64 0, .int .i64 1, .int .i64 1000, .int .i64 1001] 2)) := (Below.refl _ _).alloc (Nat.le_refl _) _
    have hN := nums_new (w := Y3) (cs := #[.int .i64 0, .int .i64 1, .int .i64 1000, .int .i64 1001]) (vs := [0, 1, 1000, 1001]) (t := 2) rfl
    have hV4 := hV3.below hb4 hV3.lt
    have hR4 := hR3.below hb4 hR3.lt
    have hd4 := hd3.kz (Kz.below _ hb4)
    have hS4 := hS3.below (hb4.mono hS3.2.1)
    have hK4 := hK3.below hb4
    have hbS : b < Y3.heap.size := hS3.2.1
    clear hV3 hR3 hd3 hS3 hK3 hb4 hO3 hD3 c0 c1 c2 c3 f0 f1 f2 f3 z0 z1 z2 z3 g0 g1 g2 g3
    go_wp2_with fail
    refine (l1Pick_any B b (M + 700 + 1) _ 4 4 [0, 1, 1000, 1001] _ hS4 (by omega) rfl (by omega) (by omega) hN hbS).mono ?_
    rintro e Y5 ⟨p, rfl, hp, hS5, hk5⟩
    have hV5 := hV4.grown hk5 (fun e => by injection e with e; have := HGV.out; omega)
    have hR5 := hR4.grown hk5 (fun e => by injection e with e; omega)
    have hd5 := hd4.kz (Kz.kb hk5 (by omega))
    have hK5 := hK4.grown hk5
    clear hV4 hR4 hd4 hS4 hK4 hk5 hN
    obtain ⟨⟨c0, c1, c2, c3⟩, f0, f1, f2, f3⟩ := id hV5
    dsimp only at c0 c1 c2 c3
    have hV6 := hV5.set2 (.int .i64 p)
    have hR6 := hR5.far gV 2 (.int .i64 p) hgR
    have hd6 := hd5.kz (Kz.set' (R := gV) (j := 2) (.int .i64 p) c0 (notN_str _))
    have hB6 : Below w.heap.size Y5 (Y5.setCell ⟨gV, 2, none⟩ (.int .i64 p)) := (Below.refl _ _).setCell (by simp; have := HGV.out; omega) _
    have hS6 := hS5.below (hB6.mono hbw)
    have hK6 := hK5.below' hB6
    clear hR5 hd5 hS5 hK5 hB6 hp
    obtain ⟨⟨v0, v1, v2, v3⟩, w0, w1, w2, w3⟩ := id hV6
    obtain ⟨⟨z0, z1, z2, z3⟩, g0, g1, g2, g3⟩ := id hR6
    dsimp only at v0 v1 v2 v3 z0 z1 z2 z3
    obtain ⟨q0, q1, q2, q3⟩ := qd_cells (sz := w.heap.size) z0 z1 z2 z3 (.string ⟨#[105, 110]⟩) (.int .i64 1) (.int .i64 p) (.slice sa sn sc)
    have hB9 : Below w.heap.size (Y5.setCell ⟨gV, 2, none⟩ (.int .i64 p)) ((((World.setCell (Y5.setCell ⟨gV, 2, none⟩ (.int .i64 p)) ⟨w.heap.size, 0, none⟩ (.string ⟨#[105, 110]⟩)).setCell ⟨w.heap.size, 1, none⟩ (.int .i64 1)).setCell ⟨w.heap.size, 2, none⟩ (.int .i64 p)).setCell ⟨w.heap.size, 3, none⟩ (.slice sa sn sc)) := ((((Below.refl _ _).setCell (by simp) _).setCell (by simp) _).setCell (by simp) _).setCell (by simp) _
    have hZ9 : Kz (w.heap.size + 1) isN (Y5.setCell ⟨gV, 2, none⟩ (.int .i64 p)) ((((World.setCell (Y5.setCell ⟨gV, 2, none⟩ (.int .i64 p)) ⟨w.heap.size, 0, none⟩ (.string ⟨#[105, 110]⟩)).setCell ⟨w.heap.size, 1, none⟩ (.int .i64 1)).setCell ⟨w.heap.size, 2, none⟩ (.int .i64 p)).setCell ⟨w.heap.size, 3, none⟩ (.slice sa sn sc)) := (((Kz.set _ _ (by omega)).trans (Kz.set _ _ (by omega))).trans (Kz.set _ _ (by omega))).trans (Kz.set _ _ (by omega))
    have HD : Hid (_) := And.intro (DR.kz (hd6.low (by omega)) hZ9) (And.intro (Go.Proofs.YtilepbbcinbmhaaDoor.Src.below (hS6) (hB9.mono hbw)) (Kb.below' (hK6) hB9))
    clear hB9 hZ9 hV6 hR6
    go_wp2
    refine bodyPost_ret (v := .agg #[.string ⟨#[105, 110]⟩, .int .i64 1, .int .i64 p, .slice sa sn sc]) (by simp [results, Tryd.results37, go_sem, q0, q1, q2, q3]) rfl ?_
    exact ⟨⟨⟨#[105, 110]⟩, 1, p, mm⟩, (sa, sn, sc), rfl, by (dsimp only; decide), by (dsimp only; omega), HD.out.1, HD.out.2.1.more (by omega), HD.out.2.2⟩
  by_cases hr2 : r = 2
  · subst hr2
    clear hd3 z0 z1 z2 z3 g0 g1 g2 g3 hz3
    have HQL : Hid (ql.length ≤ 3) := by show _ ≤ _; rw [hD3.1]; exact hl
    go_wp2_with fail
    refine wp_region_held_drew (S := fun w' => w'.cell? ⟨gV, 2, none⟩ = some (.int .i64 mx)) (by kernel_rfl) ?hS1 (fun hHeld => ?_)
    case hS1 => exact c2
    refine wpAnyH_take (i := 0) (v := ?_) rfl (by kernel_rfl) (by kernel_rfl) (by kernel_rfl) (fun _ _ _ h => h) (Or.inl ⟨by rfl, ?hy2⟩) (by assumption) ?ty2
    case hy2 => (intro w5 hSw; (try dsimp only at hSw); go_simp; all_goals with_reducible rfl)
    simp only [Act.put, List.getElem_toArray, List.getElem_cons_zero, List.setIfInBounds_toArray, List.set_cons_zero, List.set_cons_succ]
    refine wpAnyH_take (i := 2) (v := ?_) rfl (by kernel_rfl) (by kernel_rfl) (by kernel_rfl) (fun _ _ _ h => h) (Or.inl ⟨by rfl, ?hy3⟩) (by assumption) ?ty3
    case hy3 => (intro w5 hSw; (try dsimp only at hSw); go_simp; all_goals with_reducible rfl)
    simp only [Act.put, List.getElem_toArray, List.getElem_cons_zero, List.getElem_cons_succ, List.setIfInBounds_toArray, List.set_cons_zero, List.set_cons_succ]
    refine wpAnyH_take (i := 3) (v := ?_) rfl (by kernel_rfl) (by kernel_rfl) (by kernel_rfl) (fun _ _ _ h => h) (Or.inl ⟨by rfl, ?hy4⟩) (by assumption) ?ty4
    case hy4 => (intro w5 hSw; (try dsimp only at hSw); go_simp; all_goals with_reducible rfl)
    simp only [Act.put, List.getElem_toArray, List.getElem_cons_zero, List.getElem_cons_succ, List.setIfInBounds_toArray, List.set_cons_zero, List.set_cons_succ]
    have hb0 : Below Y3.heap.size Y3 Y3.drew := (Below.refl _ _).drew
    have hR0 := hR3.below hb0 hR3.lt
    have hV0 := hV3.below hb0 hV3.lt
    have hO0 := hO3.below hb0 (Nat.le_refl _)
    have hD0 := hD3.kz (Kz.below _ hb0)
    have hS0 := hS3.below (hb0.mono hS3.2.1)
    have hK0 := hK3.below hb0
    clear hR3 hV3 hO3 hD3 hS3 hK3 hb0 c0 c1 c2 c3 f0 f1 f2 f3
    generalize Y3.drew = Y0 at *
    refine wpAnyH_ready (rs := [1, 4]) (by kernel_rfl) (by simp) ?_
    refine AllReadyH.cons rfl (fun K hK => ?_) (AllReadyH.cons rfl (fun K hK => ?_) AllReadyH.nil)
    · have cL := hV0.1.2.2.2
      dsimp only at cL
      go_simp
      refine hK.out _ _ hV0.1.2.2.1 (fun hHeld => ?_)
      clear hK K
      refine wpAnyH_ready (rs := [4]) (by kernel_rfl) (by simp) ?_
      refine AllReadyH.cons rfl (fun K hK => ?_) AllReadyH.nil
      have hb1 : Below (World.heap Y0).size Y0 (World.alloc Y0 (.cells #[.int .i64 0, .int .i64 1, .int .i64 9, .int .i64 1000] 2)) := (Below.refl _ _).alloc (Nat.le_refl _) _
      have hN := nums_new (w := Y0) (cs := #[.int .i64 0, .int .i64 1, .int .i64 9, .int .i64 1000]) (vs := [0, 1, 9, 1000]) (t := 2) rfl
      have hbS : b < (World.heap Y0).size := hS0.2.1
      have hR1 := hR0.below hb1 hR0.lt
      have hV1 := hV0.below hb1 hV0.lt
      have hO1 := hO0.below hb1 (Nat.le_refl _)
      have hD1 := hD0.kz (Kz.below _ hb1)
      have hS1 := hS0.below (hb1.mono hS0.2.1)
      have hK1 := hK0.below hb1
      go_simp
      generalize World.alloc Y0 (.cells #[.int .i64 0, .int .i64 1, .int .i64 9, .int .i64 1000] 2) = Y1 at *
      generalize (World.heap Y0).size = gS at *
      refine hK.out _ _ hV1.1.2.2.1 (fun hHeld => ?_)
      clear hK K
      clear hR0 hV0 hO0 hD0 hS0 hK0
      refine wpAnyH_ready (rs := [5]) (by kernel_rfl) (by simp) ?_
      refine AllReadyH.cons rfl (fun K hK => ?_) AllReadyH.nil
      go_simp
      refine (l1Pick_any B b (M + 700 + 1) _ 4 4 [0, 1, 9, 1000] _ hS1 (by omega) rfl (by omega) (by omega) hN hbS).mono ?_
      rintro e Y2 ⟨p, rfl, -, hS2, hk2⟩
      have hR2 := hR1.grown hk2 (fun e => by injection e with e; omega)
      have hV2 := hV1.grown hk2 (fun e => by injection e with e; have := HGV.out; omega)
      have hO2 := hO1.kb hk2 (by omega)
      have hD2 := hD1.kz (Kz.kb hk2 (by omega))
      have hK2 := hK1.trans hk2
      refine hK.out _ _ hV2.1.2.2.1 (fun hHeld => ?_)
      clear hK K
      clear hR1 hV1 hO1 hD1 hS1 hK1
      clear hN
      refine wpAnyH_ready (rs := [6]) (by kernel_rfl) (by simp) ?_
      refine AllReadyH.cons rfl (fun K hK => ?_) AllReadyH.nil
      go_simp
      refine (l7DrawMessage_any B b (M + 700 + 1 + 1) p _ hS2 (by omega)).mono ?_
      rintro e Y3 ⟨m, q, rfl, hu, hq3, hlq, hS3, hk3⟩
      obtain ⟨mu, mf, md, mb⟩ := m
      obtain ⟨qa, qn, qk⟩ := q
      dsimp only [msX, slW] at hu hq3 hlq ⊢
      replace hu := hu.symm
      subst hu
      have hzq : w.heap.size + 1 + 1 ≤ (World.heap Y2).size + 1 := by have := hR2.lt; have := hV2.lt; have := HGV.out; omega
      have hR3 := hR2.grown hk3 (fun e => by injection e with e; omega)
      have hV3 := hV2.grown hk3 (fun e => by injection e with e; have := HGV.out; omega)
      have hO3 := hO2.kb hk3 (by omega)
      have hD3 := hD2.kz (Kz.kb hk3 (by omega))
      have hK3 := hK2.trans hk3
      have hq3 := hq3.low (lo' := w.heap.size + 1 + 1) hzq
      refine hK.out _ _ hV3.1.2.2.1 (fun hHeld => ?_)
      clear hK K
      clear hR2 hV2 hO2 hD2 hS2 hK2
      refine wpAnyH_ready (rs := [7]) (by kernel_rfl) (by simp) ?_
      refine AllReadyH.cons rfl (fun K hK => ?_) AllReadyH.nil
      have hb4 : Below (World.heap Y3).size Y3 (World.alloc Y3 (.cells #[.int .i64 p, .int .i64 mf, .int .i64 md, .slice qa qn qk] 44)) := (Below.refl _ _).alloc (Nat.le_refl _) _
      have hQ4 := Qc.new Y3 (.int .i64 p) (.int .i64 mf) (.int .i64 md) (.slice qa qn qk) 44
      have hR4 := hR3.below hb4 hR3.lt
      have hV4 := hV3.below hb4 hV3.lt
      have hO4 := hO3.below hb4 (Nat.le_refl _)
      have hD4 := hD3.kz (Kz.below _ hb4)
      have hS4 := hS3.below (hb4.mono hS3.2.1)
      have hK4 := hK3.below hb4
      have hq4 := hq3.kz (Kz.below _ hb4)
      go_simp
      generalize World.alloc Y3 (.cells #[.int .i64 p, .int .i64 mf, .int .i64 md, .slice qa qn qk] 44) = Y4 at *
      refine hK.out _ _ hV4.1.2.2.1 (fun hHeld => ?_)
      clear hK K
      clear hR3 hV3 hO3 hD3 hS3 hK3
      refine wpAnyH_ready (rs := [8]) (by kernel_rfl) (by simp) ?_
      refine AllReadyH.cons rfl (fun K hK => ?_) AllReadyH.nil
      refine step_appM rfl _ _ rfl (w.heap.size + 1 + 1) (.slice sa sn sc) ql (by rfl) hO4 _ (.int .i64 p, .int .i64 mf, .int .i64 md, .slice qa qn qk) (by rfl) hQ4 ⟨rfl, rfl, rfl, rfl⟩ (by have := HQL.out; omega) (by have := hR4.lt; have := hV4.lt; have := HGV.out; omega) ?_
      intro v2 Y5 hO5 hg5
      obtain ⟨a2, n2, k2, rfl⟩ : ∃ a n c, v2 = Value.slice a n c := by obtain ⟨a, c, e, -⟩ := OwnM.form hO5; exact ⟨a, _, c, e⟩
      have hKz : Kz (w.heap.size + 1 + 1) isU8 _ Y5 := hO4.kz isU8 hg5 hD4.first h0
      have hB : Below (w.heap.size + 1 + 1) _ Y5 := (Below.refl _ _).grown hg5 (by have := hR4.lt; have := hV4.lt; have := HGV.out; omega) (fun g hg => (World.ownsRow.lt hO4 g hg).1)
      have hR5 := hR4.below hB (by omega)
      have hV5 := hV4.grown hg5 (fun e => by have := hgv _ e.symm; omega)
      have hD5 := (hD4.kz hKz).snoc ⟨p, mf, md, mb⟩ (qa, qn, qk) (hq4.kz hKz) hlq
      have hS5 := hS4.below (hB.mono (by omega))
      have hK5 := hK4.below' (hB.mono (by omega))
      refine hK.out _ _ hV5.1.2.2.1 (fun hHeld => ?_)
      clear hK K
      clear hB hKz hg5
      clear hR4 hV4 hO4 hD4 hS4 hK4
      refine wpAnyH_take (i := 9) (v := ?_) rfl (by kernel_rfl) (by kernel_rfl) (by kernel_rfl) (fun _ _ _ h => h) (Or.inl ⟨by rfl, ?hy5⟩) (by assumption) ?ty5
      case hy5 => (intro w5 hSw; (try dsimp only at hSw); go_simp; all_goals with_reducible rfl)
      simp only [Act.put, List.getElem_toArray, List.getElem_cons_zero, List.getElem_cons_succ, List.setIfInBounds_toArray, List.set_cons_zero, List.set_cons_succ]
      have hdr := hO5.dr hD5
      obtain ⟨⟨c0, c1, c2, c3⟩, f0, f1, f2, f3⟩ := id hV5
      dsimp only at c0 c1 c2 c3
      refine wpAnyH_ready (rs := [10]) (by kernel_rfl) (by simp) ?_
      refine AllReadyH.cons rfl (fun K hK => ?_) AllReadyH.nil
      have hV5s := hV5.set3 (.slice a2 n2 k2)
      have hR5s := hR5.far gV 3 (.slice a2 n2 k2) hgR
      have hBs : Below w.heap.size Y5 (World.setCell Y5 ⟨gV, 3, none⟩ (.slice a2 n2 k2)) := (Below.refl _ _).setCell (by simp; have := HGV.out; omega) _
      have hdr2 := hdr.kz (Kz.set' (R := gV) (j := 3) (.slice a2 n2 k2) c0 (notN_str _))
      have hS5s := hS5.below (hBs.mono hbw)
      have hK5s := hK5.below' hBs
      clear hR5 hV5 hO5 hD5 hS5 hK5 hBs hdr
      go_simp
      generalize World.setCell Y5 ⟨gV, 3, none⟩ (.slice a2 n2 k2) = Y at *
      refine hK.out _ _ hV5s.1.2.2.1 (fun hHeld => ?_)
      clear hK K
      clear c0 c1 c2 c3 f0 f1 f2 f3
      refine wpAnyH_done (by kernel_rfl) ?_ _
      clear hHeld
      have hlen := hdr2.1
      dsimp only at hlen
      obtain ⟨⟨c0, c1, c2, c3⟩, f0, f1, f2, f3⟩ := id hV5s
      obtain ⟨⟨z0, z1, z2, z3⟩, g0, g1, g2, g3⟩ := id hR5s
      dsimp only at c0 c1 c2 c3 z0 z1 z2 z3
      obtain ⟨q0, q1, q2, q3⟩ := qd_cells (sz := w.heap.size) z0 z1 z2 z3 (.string ⟨#[105, 110]⟩) (.int .i64 1) (.int .i64 mx) (.slice a2 n2 k2)
      have hB9 : Below w.heap.size Y ((((World.setCell Y ⟨w.heap.size, 0, none⟩ (.string ⟨#[105, 110]⟩)).setCell ⟨w.heap.size, 1, none⟩ (.int .i64 1)).setCell ⟨w.heap.size, 2, none⟩ (.int .i64 mx)).setCell ⟨w.heap.size, 3, none⟩ (.slice a2 n2 k2)) := ((((Below.refl _ _).setCell (by simp) _).setCell (by simp) _).setCell (by simp) _).setCell (by simp) _
      have hZ9 : Kz (w.heap.size + 1) isN Y ((((World.setCell Y ⟨w.heap.size, 0, none⟩ (.string ⟨#[105, 110]⟩)).setCell ⟨w.heap.size, 1, none⟩ (.int .i64 1)).setCell ⟨w.heap.size, 2, none⟩ (.int .i64 mx)).setCell ⟨w.heap.size, 3, none⟩ (.slice a2 n2 k2)) := (((Kz.set _ _ (by omega)).trans (Kz.set _ _ (by omega))).trans (Kz.set _ _ (by omega))).trans (Kz.set _ _ (by omega))
      have HD : Hid (_) := And.intro (DR.kz (hdr2.low (by omega)) hZ9) (And.intro (Go.Proofs.YtilepbbcinbmhaaDoor.Src.below (hS5s) (hB9.mono hbw)) (Kb.below' (hK5s) hB9))
      clear hB9 hZ9 hV5s hR5s
      go_wp2
      refine bodyPost_ret (v := .agg #[.string ⟨#[105, 110]⟩, .int .i64 1, .int .i64 mx, .slice a2 n2 k2]) (by simp [results, Tryd.results37, go_sem, q0, q1, q2, q3]) rfl ?_
      exact ⟨⟨⟨#[105, 110]⟩, 1, mx, (mm ++ [⟨p, mf, md, mb⟩])⟩, (a2, n2, k2), rfl, by (dsimp only; decide), by (simp; omega), HD.out.1, HD.out.2.1.more (by omega), HD.out.2.2⟩
    · have hb1 : Below (World.heap Y0).size Y0 (World.alloc Y0 (.cells #[.int .i64 0, .int .i64 1, .int .i64 9, .int .i64 1000] 2)) := (Below.refl _ _).alloc (Nat.le_refl _) _
      have hN := nums_new (w := Y0) (cs := #[.int .i64 0, .int .i64 1, .int .i64 9, .int .i64 1000]) (vs := [0, 1, 9, 1000]) (t := 2) rfl
      have hbS : b < (World.heap Y0).size := hS0.2.1
      have hR1 := hR0.below hb1 hR0.lt
      have hV1 := hV0.below hb1 hV0.lt
      have hO1 := hO0.below hb1 (Nat.le_refl _)
      have hD1 := hD0.kz (Kz.below _ hb1)
      have hS1 := hS0.below (hb1.mono hS0.2.1)
      have hK1 := hK0.below hb1
      go_simp
      generalize World.alloc Y0 (.cells #[.int .i64 0, .int .i64 1, .int .i64 9, .int .i64 1000] 2) = Y1 at *
      generalize (World.heap Y0).size = gS at *
      refine hK.out _ _ hV1.1.2.2.1 (fun hHeld => ?_)
      clear hK K
      clear hR0 hV0 hO0 hD0 hS0 hK0
      refine wpAnyH_ready (rs := [1, 5]) (by kernel_rfl) (by simp) ?_
      refine AllReadyH.cons rfl (fun K hK => ?_) (AllReadyH.cons rfl (fun K hK => ?_) AllReadyH.nil)
      · have cL := hV1.1.2.2.2
        dsimp only at cL
        go_simp
        refine hK.out _ _ hV1.1.2.2.1 (fun hHeld => ?_)
        clear hK K
        refine wpAnyH_ready (rs := [5]) (by kernel_rfl) (by simp) ?_
        refine AllReadyH.cons rfl (fun K hK => ?_) AllReadyH.nil
        go_simp
        refine (l1Pick_any B b (M + 700 + 1) _ 4 4 [0, 1, 9, 1000] _ hS1 (by omega) rfl (by omega) (by omega) hN hbS).mono ?_
        rintro e Y2 ⟨p, rfl, -, hS2, hk2⟩
        have hR2 := hR1.grown hk2 (fun e => by injection e with e; omega)
        have hV2 := hV1.grown hk2 (fun e => by injection e with e; have := HGV.out; omega)
        have hO2 := hO1.kb hk2 (by omega)
        have hD2 := hD1.kz (Kz.kb hk2 (by omega))
        have hK2 := hK1.trans hk2
        refine hK.out _ _ hV2.1.2.2.1 (fun hHeld => ?_)
        clear hK K
        clear hR1 hV1 hO1 hD1 hS1 hK1
        clear hN
        refine wpAnyH_ready (rs := [6]) (by kernel_rfl) (by simp) ?_
        refine AllReadyH.cons rfl (fun K hK => ?_) AllReadyH.nil
        go_simp
        refine (l7DrawMessage_any B b (M + 700 + 1 + 1) p _ hS2 (by omega)).mono ?_
        rintro e Y3 ⟨m, q, rfl, hu, hq3, hlq, hS3, hk3⟩
        obtain ⟨mu, mf, md, mb⟩ := m
        obtain ⟨qa, qn, qk⟩ := q
        dsimp only [msX, slW] at hu hq3 hlq ⊢
        replace hu := hu.symm
        subst hu
        have hzq : w.heap.size + 1 + 1 ≤ (World.heap Y2).size + 1 := by have := hR2.lt; have := hV2.lt; have := HGV.out; omega
        have hR3 := hR2.grown hk3 (fun e => by injection e with e; omega)
        have hV3 := hV2.grown hk3 (fun e => by injection e with e; have := HGV.out; omega)
        have hO3 := hO2.kb hk3 (by omega)
        have hD3 := hD2.kz (Kz.kb hk3 (by omega))
        have hK3 := hK2.trans hk3
        have hq3 := hq3.low (lo' := w.heap.size + 1 + 1) hzq
        refine hK.out _ _ hV3.1.2.2.1 (fun hHeld => ?_)
        clear hK K
        clear hR2 hV2 hO2 hD2 hS2 hK2
        refine wpAnyH_ready (rs := [7]) (by kernel_rfl) (by simp) ?_
        refine AllReadyH.cons rfl (fun K hK => ?_) AllReadyH.nil
        have hb4 : Below (World.heap Y3).size Y3 (World.alloc Y3 (.cells #[.int .i64 p, .int .i64 mf, .int .i64 md, .slice qa qn qk] 44)) := (Below.refl _ _).alloc (Nat.le_refl _) _
        have hQ4 := Qc.new Y3 (.int .i64 p) (.int .i64 mf) (.int .i64 md) (.slice qa qn qk) 44
        have hR4 := hR3.below hb4 hR3.lt
        have hV4 := hV3.below hb4 hV3.lt
        have hO4 := hO3.below hb4 (Nat.le_refl _)
        have hD4 := hD3.kz (Kz.below _ hb4)
        have hS4 := hS3.below (hb4.mono hS3.2.1)
        have hK4 := hK3.below hb4
        have hq4 := hq3.kz (Kz.below _ hb4)
        go_simp
        generalize World.alloc Y3 (.cells #[.int .i64 p, .int .i64 mf, .int .i64 md, .slice qa qn qk] 44) = Y4 at *
        refine hK.out _ _ hV4.1.2.2.1 (fun hHeld => ?_)
        clear hK K
        clear hR3 hV3 hO3 hD3 hS3 hK3
        refine wpAnyH_ready (rs := [8]) (by kernel_rfl) (by simp) ?_
        refine AllReadyH.cons rfl (fun K hK => ?_) AllReadyH.nil
        refine step_appM rfl _ _ rfl (w.heap.size + 1 + 1) (.slice sa sn sc) ql (by rfl) hO4 _ (.int .i64 p, .int .i64 mf, .int .i64 md, .slice qa qn qk) (by rfl) hQ4 ⟨rfl, rfl, rfl, rfl⟩ (by have := HQL.out; omega) (by have := hR4.lt; have := hV4.lt; have := HGV.out; omega) ?_
        intro v2 Y5 hO5 hg5
        obtain ⟨a2, n2, k2, rfl⟩ : ∃ a n c, v2 = Value.slice a n c := by obtain ⟨a, c, e, -⟩ := OwnM.form hO5; exact ⟨a, _, c, e⟩
        have hKz : Kz (w.heap.size + 1 + 1) isU8 _ Y5 := hO4.kz isU8 hg5 hD4.first h0
        have hB : Below (w.heap.size + 1 + 1) _ Y5 := (Below.refl _ _).grown hg5 (by have := hR4.lt; have := hV4.lt; have := HGV.out; omega) (fun g hg => (World.ownsRow.lt hO4 g hg).1)
        have hR5 := hR4.below hB (by omega)
        have hV5 := hV4.grown hg5 (fun e => by have := hgv _ e.symm; omega)
        have hD5 := (hD4.kz hKz).snoc ⟨p, mf, md, mb⟩ (qa, qn, qk) (hq4.kz hKz) hlq
        have hS5 := hS4.below (hB.mono (by omega))
        have hK5 := hK4.below' (hB.mono (by omega))
        refine hK.out _ _ hV5.1.2.2.1 (fun hHeld => ?_)
        clear hK K
        clear hB hKz hg5
        clear hR4 hV4 hO4 hD4 hS4 hK4
        refine wpAnyH_take (i := 9) (v := ?_) rfl (by kernel_rfl) (by kernel_rfl) (by kernel_rfl) (fun _ _ _ h => h) (Or.inl ⟨by rfl, ?hy6⟩) (by assumption) ?ty6
        case hy6 => (intro w5 hSw; (try dsimp only at hSw); go_simp; all_goals with_reducible rfl)
        simp only [Act.put, List.getElem_toArray, List.getElem_cons_zero, List.getElem_cons_succ, List.setIfInBounds_toArray, List.set_cons_zero, List.set_cons_succ]
        have hdr := hO5.dr hD5
        obtain ⟨⟨c0, c1, c2, c3⟩, f0, f1, f2, f3⟩ := id hV5
        dsimp only at c0 c1 c2 c3
        refine wpAnyH_ready (rs := [10]) (by kernel_rfl) (by simp) ?_
        refine AllReadyH.cons rfl (fun K hK => ?_) AllReadyH.nil
        have hV5s := hV5.set3 (.slice a2 n2 k2)
        have hR5s := hR5.far gV 3 (.slice a2 n2 k2) hgR
        have hBs : Below w.heap.size Y5 (World.setCell Y5 ⟨gV, 3, none⟩ (.slice a2 n2 k2)) := (Below.refl _ _).setCell (by simp; have := HGV.out; omega) _
        have hdr2 := hdr.kz (Kz.set' (R := gV) (j := 3) (.slice a2 n2 k2) c0 (notN_str _))
        have hS5s := hS5.below (hBs.mono hbw)
        have hK5s := hK5.below' hBs
        clear hR5 hV5 hO5 hD5 hS5 hK5 hBs hdr
        go_simp
        generalize World.setCell Y5 ⟨gV, 3, none⟩ (.slice a2 n2 k2) = Y at *
        refine hK.out _ _ hV5s.1.2.2.1 (fun hHeld => ?_)
        clear hK K
        clear c0 c1 c2 c3 f0 f1 f2 f3
        refine wpAnyH_done (by kernel_rfl) ?_ _
        clear hHeld
        have hlen := hdr2.1
        dsimp only at hlen
        obtain ⟨⟨c0, c1, c2, c3⟩, f0, f1, f2, f3⟩ := id hV5s
        obtain ⟨⟨z0, z1, z2, z3⟩, g0, g1, g2, g3⟩ := id hR5s
        dsimp only at c0 c1 c2 c3 z0 z1 z2 z3
        obtain ⟨q0, q1, q2, q3⟩ := qd_cells (sz := w.heap.size) z0 z1 z2 z3 (.string ⟨#[105, 110]⟩) (.int .i64 1) (.int .i64 mx) (.slice a2 n2 k2)
        have hB9 : Below w.heap.size Y ((((World.setCell Y ⟨w.heap.size, 0, none⟩ (.string ⟨#[105, 110]⟩)).setCell ⟨w.heap.size, 1, none⟩ (.int .i64 1)).setCell ⟨w.heap.size, 2, none⟩ (.int .i64 mx)).setCell ⟨w.heap.size, 3, none⟩ (.slice a2 n2 k2)) := ((((Below.refl _ _).setCell (by simp) _).setCell (by simp) _).setCell (by simp) _).setCell (by simp) _
        have hZ9 : Kz (w.heap.size + 1) isN Y ((((World.setCell Y ⟨w.heap.size, 0, none⟩ (.string ⟨#[105, 110]⟩)).setCell ⟨w.heap.size, 1, none⟩ (.int .i64 1)).setCell ⟨w.heap.size, 2, none⟩ (.int .i64 mx)).setCell ⟨w.heap.size, 3, none⟩ (.slice a2 n2 k2)) := (((Kz.set _ _ (by omega)).trans (Kz.set _ _ (by omega))).trans (Kz.set _ _ (by omega))).trans (Kz.set _ _ (by omega))
        have HD : Hid (_) := And.intro (DR.kz (hdr2.low (by omega)) hZ9) (And.intro (Go.Proofs.YtilepbbcinbmhaaDoor.Src.below (hS5s) (hB9.mono hbw)) (Kb.below' (hK5s) hB9))
        clear hB9 hZ9 hV5s hR5s
        go_wp2
        refine bodyPost_ret (v := .agg #[.string ⟨#[105, 110]⟩, .int .i64 1, .int .i64 mx, .slice a2 n2 k2]) (by simp [results, Tryd.results37, go_sem, q0, q1, q2, q3]) rfl ?_
        exact ⟨⟨⟨#[105, 110]⟩, 1, mx, (mm ++ [⟨p, mf, md, mb⟩])⟩, (a2, n2, k2), rfl, by (dsimp only; decide), by (simp; omega), HD.out.1, HD.out.2.1.more (by omega), HD.out.2.2⟩
      · go_simp
        refine (l1Pick_any B b (M + 700 + 1) _ 4 4 [0, 1, 9, 1000] _ hS1 (by omega) rfl (by omega) (by omega) hN hbS).mono ?_
        rintro e Y2 ⟨p, rfl, -, hS2, hk2⟩
        have hR2 := hR1.grown hk2 (fun e => by injection e with e; omega)
        have hV2 := hV1.grown hk2 (fun e => by injection e with e; have := HGV.out; omega)
        have hO2 := hO1.kb hk2 (by omega)
        have hD2 := hD1.kz (Kz.kb hk2 (by omega))
        have hK2 := hK1.trans hk2
        refine hK.out _ _ hV2.1.2.2.1 (fun hHeld => ?_)
        clear hK K
        clear hR1 hV1 hO1 hD1 hS1 hK1
        clear hN
        refine wpAnyH_ready (rs := [1, 6]) (by kernel_rfl) (by simp) ?_
        refine AllReadyH.cons rfl (fun K hK => ?_) (AllReadyH.cons rfl (fun K hK => ?_) AllReadyH.nil)
        · have cL := hV2.1.2.2.2
          dsimp only at cL
          go_simp
          refine hK.out _ _ hV2.1.2.2.1 (fun hHeld => ?_)
          clear hK K
          refine wpAnyH_ready (rs := [6]) (by kernel_rfl) (by simp) ?_
          refine AllReadyH.cons rfl (fun K hK => ?_) AllReadyH.nil
          go_simp
          refine (l7DrawMessage_any B b (M + 700 + 1 + 1) p _ hS2 (by omega)).mono ?_
          rintro e Y3 ⟨m, q, rfl, hu, hq3, hlq, hS3, hk3⟩
          obtain ⟨mu, mf, md, mb⟩ := m
          obtain ⟨qa, qn, qk⟩ := q
          dsimp only [msX, slW] at hu hq3 hlq ⊢
          replace hu := hu.symm
          subst hu
          have hzq : w.heap.size + 1 + 1 ≤ (World.heap Y2).size + 1 := by have := hR2.lt; have := hV2.lt; have := HGV.out; omega
          have hR3 := hR2.grown hk3 (fun e => by injection e with e; omega)
          have hV3 := hV2.grown hk3 (fun e => by injection e with e; have := HGV.out; omega)
          have hO3 := hO2.kb hk3 (by omega)
          have hD3 := hD2.kz (Kz.kb hk3 (by omega))
          have hK3 := hK2.trans hk3
          have hq3 := hq3.low (lo' := w.heap.size + 1 + 1) hzq
          refine hK.out _ _ hV3.1.2.2.1 (fun hHeld => ?_)
          clear hK K
          clear hR2 hV2 hO2 hD2 hS2 hK2
          refine wpAnyH_ready (rs := [7]) (by kernel_rfl) (by simp) ?_
          refine AllReadyH.cons rfl (fun K hK => ?_) AllReadyH.nil
          have hb4 : Below (World.heap Y3).size Y3 (World.alloc Y3 (.cells #[.int .i64 p, .int .i64 mf, .int .i64 md, .slice qa qn qk] 44)) := (Below.refl _ _).alloc (Nat.le_refl _) _
          have hQ4 := Qc.new Y3 (.int .i64 p) (.int .i64 mf) (.int .i64 md) (.slice qa qn qk) 44
          have hR4 := hR3.below hb4 hR3.lt
          have hV4 := hV3.below hb4 hV3.lt
          have hO4 := hO3.below hb4 (Nat.le_refl _)
          have hD4 := hD3.kz (Kz.below _ hb4)
          have hS4 := hS3.below (hb4.mono hS3.2.1)
          have hK4 := hK3.below hb4
          have hq4 := hq3.kz (Kz.below _ hb4)
          go_simp
          generalize World.alloc Y3 (.cells #[.int .i64 p, .int .i64 mf, .int .i64 md, .slice qa qn qk] 44) = Y4 at *
          refine hK.out _ _ hV4.1.2.2.1 (fun hHeld => ?_)
          clear hK K
          clear hR3 hV3 hO3 hD3 hS3 hK3
          refine wpAnyH_ready (rs := [8]) (by kernel_rfl) (by simp) ?_
          refine AllReadyH.cons rfl (fun K hK => ?_) AllReadyH.nil
          refine step_appM rfl _ _ rfl (w.heap.size + 1 + 1) (.slice sa sn sc) ql (by rfl) hO4 _ (.int .i64 p, .int .i64 mf, .int .i64 md, .slice qa qn qk) (by rfl) hQ4 ⟨rfl, rfl, rfl, rfl⟩ (by have := HQL.out; omega) (by have := hR4.lt; have := hV4.lt; have := HGV.out; omega) ?_
          intro v2 Y5 hO5 hg5
          obtain ⟨a2, n2, k2, rfl⟩ : ∃ a n c, v2 = Value.slice a n c := by obtain ⟨a, c, e, -⟩ := OwnM.form hO5; exact ⟨a, _, c, e⟩
          have hKz : Kz (w.heap.size + 1 + 1) isU8 _ Y5 := hO4.kz isU8 hg5 hD4.first h0
          have hB : Below (w.heap.size + 1 + 1) _ Y5 := (Below.refl _ _).grown hg5 (by have := hR4.lt; have := hV4.lt; have := HGV.out; omega) (fun g hg => (World.ownsRow.lt hO4 g hg).1)
          have hR5 := hR4.below hB (by omega)
          have hV5 := hV4.grown hg5 (fun e => by have := hgv _ e.symm; omega)
          have hD5 := (hD4.kz hKz).snoc ⟨p, mf, md, mb⟩ (qa, qn, qk) (hq4.kz hKz) hlq
          have hS5 := hS4.below (hB.mono (by omega))
          have hK5 := hK4.below' (hB.mono (by omega))
          refine hK.out _ _ hV5.1.2.2.1 (fun hHeld => ?_)
          clear hK K
          clear hB hKz hg5
          clear hR4 hV4 hO4 hD4 hS4 hK4
          refine wpAnyH_take (i := 9) (v := ?_) rfl (by kernel_rfl) (by kernel_rfl) (by kernel_rfl) (fun _ _ _ h => h) (Or.inl ⟨by rfl, ?hy7⟩) (by assumption) ?ty7
          case hy7 => (intro w5 hSw; (try dsimp only at hSw); go_simp; all_goals with_reducible rfl)
          simp only [Act.put, List.getElem_toArray, List.getElem_cons_zero, List.getElem_cons_succ, List.setIfInBounds_toArray, List.set_cons_zero, List.set_cons_succ]
          have hdr := hO5.dr hD5
          obtain ⟨⟨c0, c1, c2, c3⟩, f0, f1, f2, f3⟩ := id hV5
          dsimp only at c0 c1 c2 c3
          refine wpAnyH_ready (rs := [10]) (by kernel_rfl) (by simp) ?_
          refine AllReadyH.cons rfl (fun K hK => ?_) AllReadyH.nil
          have hV5s := hV5.set3 (.slice a2 n2 k2)
          have hR5s := hR5.far gV 3 (.slice a2 n2 k2) hgR
          have hBs : Below w.heap.size Y5 (World.setCell Y5 ⟨gV, 3, none⟩ (.slice a2 n2 k2)) := (Below.refl _ _).setCell (by simp; have := HGV.out; omega) _
          have hdr2 := hdr.kz (Kz.set' (R := gV) (j := 3) (.slice a2 n2 k2) c0 (notN_str _))
          have hS5s := hS5.below (hBs.mono hbw)
          have hK5s := hK5.below' hBs
          clear hR5 hV5 hO5 hD5 hS5 hK5 hBs hdr
          go_simp
          generalize World.setCell Y5 ⟨gV, 3, none⟩ (.slice a2 n2 k2) = Y at *
          refine hK.out _ _ hV5s.1.2.2.1 (fun hHeld => ?_)
          clear hK K
          clear c0 c1 c2 c3 f0 f1 f2 f3
          refine wpAnyH_done (by kernel_rfl) ?_ _
          clear hHeld
          have hlen := hdr2.1
          dsimp only at hlen
          obtain ⟨⟨c0, c1, c2, c3⟩, f0, f1, f2, f3⟩ := id hV5s
          obtain ⟨⟨z0, z1, z2, z3⟩, g0, g1, g2, g3⟩ := id hR5s
          dsimp only at c0 c1 c2 c3 z0 z1 z2 z3
          obtain ⟨q0, q1, q2, q3⟩ := qd_cells (sz := w.heap.size) z0 z1 z2 z3 (.string ⟨#[105, 110]⟩) (.int .i64 1) (.int .i64 mx) (.slice a2 n2 k2)
          have hB9 : Below w.heap.size Y ((((World.setCell Y ⟨w.heap.size, 0, none⟩ (.string ⟨#[105, 110]⟩)).setCell ⟨w.heap.size, 1, none⟩ (.int .i64 1)).setCell ⟨w.heap.size, 2, none⟩ (.int .i64 mx)).setCell ⟨w.heap.size, 3, none⟩ (.slice a2 n2 k2)) := ((((Below.refl _ _).setCell (by simp) _).setCell (by simp) _).setCell (by simp) _).setCell (by simp) _
          have hZ9 : Kz (w.heap.size + 1) isN Y ((((World.setCell Y ⟨w.heap.size, 0, none⟩ (.string ⟨#[105, 110]⟩)).setCell ⟨w.heap.size, 1, none⟩ (.int .i64 1)).setCell ⟨w.heap.size, 2, none⟩ (.int .i64 mx)).setCell ⟨w.heap.size, 3, none⟩ (.slice a2 n2 k2)) := (((Kz.set _ _ (by omega)).trans (Kz.set _ _ (by omega))).trans (Kz.set _ _ (by omega))).trans (Kz.set _ _ (by omega))
          have HD : Hid (_) := And.intro (DR.kz (hdr2.low (by omega)) hZ9) (And.intro (Go.Proofs.YtilepbbcinbmhaaDoor.Src.below (hS5s) (hB9.mono hbw)) (Kb.below' (hK5s) hB9))
          clear hB9 hZ9 hV5s hR5s
          go_wp2
          refine bodyPost_ret (v := .agg #[.string ⟨#[105, 110]⟩, .int .i64 1, .int .i64 mx, .slice a2 n2 k2]) (by simp [results, Tryd.results37, go_sem, q0, q1, q2, q3]) rfl ?_
          exact ⟨⟨⟨#[105, 110]⟩, 1, mx, (mm ++ [⟨p, mf, md, mb⟩])⟩, (a2, n2, k2), rfl, by (dsimp only; decide), by (simp; omega), HD.out.1, HD.out.2.1.more (by omega), HD.out.2.2⟩
        · go_simp
          refine (l7DrawMessage_any B b (M + 700 + 1 + 1) p _ hS2 (by omega)).mono ?_
          rintro e Y3 ⟨m, q, rfl, hu, hq3, hlq, hS3, hk3⟩
          obtain ⟨mu, mf, md, mb⟩ := m
          obtain ⟨qa, qn, qk⟩ := q
          dsimp only [msX, slW] at hu hq3 hlq ⊢
          replace hu := hu.symm
          subst hu
          have hzq : w.heap.size + 1 + 1 ≤ (World.heap Y2).size + 1 := by have := hR2.lt; have := hV2.lt; have := HGV.out; omega
          have hR3 := hR2.grown hk3 (fun e => by injection e with e; omega)
          have hV3 := hV2.grown hk3 (fun e => by injection e with e; have := HGV.out; omega)
          have hO3 := hO2.kb hk3 (by omega)
          have hD3 := hD2.kz (Kz.kb hk3 (by omega))
          have hK3 := hK2.trans hk3
          have hq3 := hq3.low (lo' := w.heap.size + 1 + 1) hzq
          refine hK.out _ _ hV3.1.2.2.1 (fun hHeld => ?_)
          clear hK K
          clear hR2 hV2 hO2 hD2 hS2 hK2
          refine wpAnyH_ready (rs := [1, 7]) (by kernel_rfl) (by simp) ?_
          refine AllReadyH.cons rfl (fun K hK => ?_) (AllReadyH.cons rfl (fun K hK => ?_) AllReadyH.nil)
          · have cL := hV3.1.2.2.2
            dsimp only at cL
            go_simp
            refine hK.out _ _ hV3.1.2.2.1 (fun hHeld => ?_)
            clear hK K
            refine wpAnyH_ready (rs := [7]) (by kernel_rfl) (by simp) ?_
            refine AllReadyH.cons rfl (fun K hK => ?_) AllReadyH.nil
            have hb4 : Below (World.heap Y3).size Y3 (World.alloc Y3 (.cells #[.int .i64 p, .int .i64 mf, .int .i64 md, .slice qa qn qk] 44)) := (Below.refl _ _).alloc (Nat.le_refl _) _
            have hQ4 := Qc.new Y3 (.int .i64 p) (.int .i64 mf) (.int .i64 md) (.slice qa qn qk) 44
            have hR4 := hR3.below hb4 hR3.lt
            have hV4 := hV3.below hb4 hV3.lt
            have hO4 := hO3.below hb4 (Nat.le_refl _)
            have hD4 := hD3.kz (Kz.below _ hb4)
            have hS4 := hS3.below (hb4.mono hS3.2.1)
            have hK4 := hK3.below hb4
            have hq4 := hq3.kz (Kz.below _ hb4)
            go_simp
            generalize World.alloc Y3 (.cells #[.int .i64 p, .int .i64 mf, .int .i64 md, .slice qa qn qk] 44) = Y4 at *
            refine hK.out _ _ hV4.1.2.2.1 (fun hHeld => ?_)
            clear hK K
            clear hR3 hV3 hO3 hD3 hS3 hK3
            refine wpAnyH_ready (rs := [8]) (by kernel_rfl) (by simp) ?_
            refine AllReadyH.cons rfl (fun K hK => ?_) AllReadyH.nil
            refine step_appM rfl _ _ rfl (w.heap.size + 1 + 1) (.slice sa sn sc) ql (by rfl) hO4 _ (.int .i64 p, .int .i64 mf, .int .i64 md, .slice qa qn qk) (by rfl) hQ4 ⟨rfl, rfl, rfl, rfl⟩ (by have := HQL.out; omega) (by have := hR4.lt; have := hV4.lt; have := HGV.out; omega) ?_
            intro v2 Y5 hO5 hg5
            obtain ⟨a2, n2, k2, rfl⟩ : ∃ a n c, v2 = Value.slice a n c := by obtain ⟨a, c, e, -⟩ := OwnM.form hO5; exact ⟨a, _, c, e⟩
            have hKz : Kz (w.heap.size + 1 + 1) isU8 _ Y5 := hO4.kz isU8 hg5 hD4.first h0
            have hB : Below (w.heap.size + 1 + 1) _ Y5 := (Below.refl _ _).grown hg5 (by have := hR4.lt; have := hV4.lt; have := HGV.out; omega) (fun g hg => (World.ownsRow.lt hO4 g hg).1)
            have hR5 := hR4.below hB (by omega)
            have hV5 := hV4.grown hg5 (fun e => by have := hgv _ e.symm; omega)
            have hD5 := (hD4.kz hKz).snoc ⟨p, mf, md, mb⟩ (qa, qn, qk) (hq4.kz hKz) hlq
            have hS5 := hS4.below (hB.mono (by omega))
            have hK5 := hK4.below' (hB.mono (by omega))
            refine hK.out _ _ hV5.1.2.2.1 (fun hHeld => ?_)
            clear hK K
            clear hB hKz hg5
            clear hR4 hV4 hO4 hD4 hS4 hK4
            refine wpAnyH_take (i := 9) (v := ?_) rfl (by kernel_rfl) (by kernel_rfl) (by kernel_rfl) (fun _ _ _ h => h) (Or.inl ⟨by rfl, ?hy8⟩) (by assumption) ?ty8
            case hy8 => (intro w5 hSw; (try dsimp only at hSw); go_simp; all_goals with_reducible rfl)
            simp only [Act.put, List.getElem_toArray, List.getElem_cons_zero, List.getElem_cons_succ, List.setIfInBounds_toArray, List.set_cons_zero, List.set_cons_succ]
            have hdr := hO5.dr hD5
            obtain ⟨⟨c0, c1, c2, c3⟩, f0, f1, f2, f3⟩ := id hV5
            dsimp only at c0 c1 c2 c3
            refine wpAnyH_ready (rs := [10]) (by kernel_rfl) (by simp) ?_
            refine AllReadyH.cons rfl (fun K hK => ?_) AllReadyH.nil
            have hV5s := hV5.set3 (.slice a2 n2 k2)
            have hR5s := hR5.far gV 3 (.slice a2 n2 k2) hgR
            have hBs : Below w.heap.size Y5 (World.setCell Y5 ⟨gV, 3, none⟩ (.slice a2 n2 k2)) := (Below.refl _ _).setCell (by simp; have := HGV.out; omega) _
            have hdr2 := hdr.kz (Kz.set' (R := gV) (j := 3) (.slice a2 n2 k2) c0 (notN_str _))
            have hS5s := hS5.below (hBs.mono hbw)
            have hK5s := hK5.below' hBs
            clear hR5 hV5 hO5 hD5 hS5 hK5 hBs hdr
            go_simp
            generalize World.setCell Y5 ⟨gV, 3, none⟩ (.slice a2 n2 k2) = Y at *
            refine hK.out _ _ hV5s.1.2.2.1 (fun hHeld => ?_)
            clear hK K
            clear c0 c1 c2 c3 f0 f1 f2 f3
            refine wpAnyH_done (by kernel_rfl) ?_ _
            clear hHeld
            have hlen := hdr2.1
            dsimp only at hlen
            obtain ⟨⟨c0, c1, c2, c3⟩, f0, f1, f2, f3⟩ := id hV5s
            obtain ⟨⟨z0, z1, z2, z3⟩, g0, g1, g2, g3⟩ := id hR5s
            dsimp only at c0 c1 c2 c3 z0 z1 z2 z3
            obtain ⟨q0, q1, q2, q3⟩ := qd_cells (sz := w.heap.size) z0 z1 z2 z3 (.string ⟨#[105, 110]⟩) (.int .i64 1) (.int .i64 mx) (.slice a2 n2 k2)
            have hB9 : Below w.heap.size Y ((((World.setCell Y ⟨w.heap.size, 0, none⟩ (.string ⟨#[105, 110]⟩)).setCell ⟨w.heap.size, 1, none⟩ (.int .i64 1)).setCell ⟨w.heap.size, 2, none⟩ (.int .i64 mx)).setCell ⟨w.heap.size, 3, none⟩ (.slice a2 n2 k2)) := ((((Below.refl _ _).setCell (by simp) _).setCell (by simp) _).setCell (by simp) _).setCell (by simp) _
            have hZ9 : Kz (w.heap.size + 1) isN Y ((((World.setCell Y ⟨w.heap.size, 0, none⟩ (.string ⟨#[105, 110]⟩)).setCell ⟨w.heap.size, 1, none⟩ (.int .i64 1)).setCell ⟨w.heap.size, 2, none⟩ (.int .i64 mx)).setCell ⟨w.heap.size, 3, none⟩ (.slice a2 n2 k2)) := (((Kz.set _ _ (by omega)).trans (Kz.set _ _ (by omega))).trans (Kz.set _ _ (by omega))).trans (Kz.set _ _ (by omega))
            have HD : Hid (_) := And.intro (DR.kz (hdr2.low (by omega)) hZ9) (And.intro (Go.Proofs.YtilepbbcinbmhaaDoor.Src.below (hS5s) (hB9.mono hbw)) (Kb.below' (hK5s) hB9))
            clear hB9 hZ9 hV5s hR5s
            go_wp2
            refine bodyPost_ret (v := .agg #[.string ⟨#[105, 110]⟩, .int .i64 1, .int .i64 mx, .slice a2 n2 k2]) (by simp [results, Tryd.results37, go_sem, q0, q1, q2, q3]) rfl ?_
            exact ⟨⟨⟨#[105, 110]⟩, 1, mx, (mm ++ [⟨p, mf, md, mb⟩])⟩, (a2, n2, k2), rfl, by (dsimp only; decide), by (simp; omega), HD.out.1, HD.out.2.1.more (by omega), HD.out.2.2⟩
          · have hb4 : Below (World.heap Y3).size Y3 (World.alloc Y3 (.cells #[.int .i64 p, .int .i64 mf, .int .i64 md, .slice qa qn qk] 44)) := (Below.refl _ _).alloc (Nat.le_refl _) _
            have hQ4 := Qc.new Y3 (.int .i64 p) (.int .i64 mf) (.int .i64 md) (.slice qa qn qk) 44
            have hR4 := hR3.below hb4 hR3.lt
            have hV4 := hV3.below hb4 hV3.lt
            have hO4 := hO3.below hb4 (Nat.le_refl _)
            have hD4 := hD3.kz (Kz.below _ hb4)
            have hS4 := hS3.below (hb4.mono hS3.2.1)
            have hK4 := hK3.below hb4
            have hq4 := hq3.kz (Kz.below _ hb4)
            go_simp
            generalize World.alloc Y3 (.cells #[.int .i64 p, .int .i64 mf, .int .i64 md, .slice qa qn qk] 44) = Y4 at *
            refine hK.out _ _ hV4.1.2.2.1 (fun hHeld => ?_)
            clear hK K
            clear hR3 hV3 hO3 hD3 hS3 hK3
            refine wpAnyH_ready (rs := [1]) (by kernel_rfl) (by simp) ?_
            refine AllReadyH.cons rfl (fun K hK => ?_) AllReadyH.nil
            have cL := hV4.1.2.2.2
            dsimp only at cL
            go_simp
            refine hK.out _ _ hV4.1.2.2.1 (fun hHeld => ?_)
            clear hK K
            refine wpAnyH_ready (rs := [8]) (by kernel_rfl) (by simp) ?_
            refine AllReadyH.cons rfl (fun K hK => ?_) AllReadyH.nil
            refine step_appM rfl _ _ rfl (w.heap.size + 1 + 1) (.slice sa sn sc) ql (by rfl) hO4 _ (.int .i64 p, .int .i64 mf, .int .i64 md, .slice qa qn qk) (by rfl) hQ4 ⟨rfl, rfl, rfl, rfl⟩ (by have := HQL.out; omega) (by have := hR4.lt; have := hV4.lt; have := HGV.out; omega) ?_
            intro v2 Y5 hO5 hg5
            obtain ⟨a2, n2, k2, rfl⟩ : ∃ a n c, v2 = Value.slice a n c := by obtain ⟨a, c, e, -⟩ := OwnM.form hO5; exact ⟨a, _, c, e⟩
            have hKz : Kz (w.heap.size + 1 + 1) isU8 _ Y5 := hO4.kz isU8 hg5 hD4.first h0
            have hB : Below (w.heap.size + 1 + 1) _ Y5 := (Below.refl _ _).grown hg5 (by have := hR4.lt; have := hV4.lt; have := HGV.out; omega) (fun g hg => (World.ownsRow.lt hO4 g hg).1)
            have hR5 := hR4.below hB (by omega)
            have hV5 := hV4.grown hg5 (fun e => by have := hgv _ e.symm; omega)
            have hD5 := (hD4.kz hKz).snoc ⟨p, mf, md, mb⟩ (qa, qn, qk) (hq4.kz hKz) hlq
            have hS5 := hS4.below (hB.mono (by omega))
            have hK5 := hK4.below' (hB.mono (by omega))
            refine hK.out _ _ hV5.1.2.2.1 (fun hHeld => ?_)
            clear hK K
            clear hB hKz hg5
            clear hR4 hV4 hO4 hD4 hS4 hK4
            refine wpAnyH_take (i := 9) (v := ?_) rfl (by kernel_rfl) (by kernel_rfl) (by kernel_rfl) (fun _ _ _ h => h) (Or.inl ⟨by rfl, ?hy9⟩) (by assumption) ?ty9
            case hy9 => (intro w5 hSw; (try dsimp only at hSw); go_simp; all_goals with_reducible rfl)
            simp only [Act.put, List.getElem_toArray, List.getElem_cons_zero, List.getElem_cons_succ, List.setIfInBounds_toArray, List.set_cons_zero, List.set_cons_succ]
            have hdr := hO5.dr hD5
            obtain ⟨⟨c0, c1, c2, c3⟩, f0, f1, f2, f3⟩ := id hV5
            dsimp only at c0 c1 c2 c3
            refine wpAnyH_ready (rs := [10]) (by kernel_rfl) (by simp) ?_
            refine AllReadyH.cons rfl (fun K hK => ?_) AllReadyH.nil
            have hV5s := hV5.set3 (.slice a2 n2 k2)
            have hR5s := hR5.far gV 3 (.slice a2 n2 k2) hgR
            have hBs : Below w.heap.size Y5 (World.setCell Y5 ⟨gV, 3, none⟩ (.slice a2 n2 k2)) := (Below.refl _ _).setCell (by simp; have := HGV.out; omega) _
            have hdr2 := hdr.kz (Kz.set' (R := gV) (j := 3) (.slice a2 n2 k2) c0 (notN_str _))
            have hS5s := hS5.below (hBs.mono hbw)
            have hK5s := hK5.below' hBs
            clear hR5 hV5 hO5 hD5 hS5 hK5 hBs hdr
            go_simp
            generalize World.setCell Y5 ⟨gV, 3, none⟩ (.slice a2 n2 k2) = Y at *
            refine hK.out _ _ hV5s.1.2.2.1 (fun hHeld => ?_)
            clear hK K
            clear c0 c1 c2 c3 f0 f1 f2 f3
            refine wpAnyH_done (by kernel_rfl) ?_ _
            clear hHeld
            have hlen := hdr2.1
            dsimp only at hlen
            obtain ⟨⟨c0, c1, c2, c3⟩, f0, f1, f2, f3⟩ := id hV5s
            obtain ⟨⟨z0, z1, z2, z3⟩, g0, g1, g2, g3⟩ := id hR5s
            dsimp only at c0 c1 c2 c3 z0 z1 z2 z3
            obtain ⟨q0, q1, q2, q3⟩ := qd_cells (sz := w.heap.size) z0 z1 z2 z3 (.string ⟨#[105, 110]⟩) (.int .i64 1) (.int .i64 mx) (.slice a2 n2 k2)
            have hB9 : Below w.heap.size Y ((((World.setCell Y ⟨w.heap.size, 0, none⟩ (.string ⟨#[105, 110]⟩)).setCell ⟨w.heap.size, 1, none⟩ (.int .i64 1)).setCell ⟨w.heap.size, 2, none⟩ (.int .i64 mx)).setCell ⟨w.heap.size, 3, none⟩ (.slice a2 n2 k2)) := ((((Below.refl _ _).setCell (by simp) _).setCell (by simp) _).setCell (by simp) _).setCell (by simp) _
            have hZ9 : Kz (w.heap.size + 1) isN Y ((((World.setCell Y ⟨w.heap.size, 0, none⟩ (.string ⟨#[105, 110]⟩)).setCell ⟨w.heap.size, 1, none⟩ (.int .i64 1)).setCell ⟨w.heap.size, 2, none⟩ (.int .i64 mx)).setCell ⟨w.heap.size, 3, none⟩ (.slice a2 n2 k2)) := (((Kz.set _ _ (by omega)).trans (Kz.set _ _ (by omega))).trans (Kz.set _ _ (by omega))).trans (Kz.set _ _ (by omega))
            have HD : Hid (_) := And.intro (DR.kz (hdr2.low (by omega)) hZ9) (And.intro (Go.Proofs.YtilepbbcinbmhaaDoor.Src.below (hS5s) (hB9.mono hbw)) (Kb.below' (hK5s) hB9))
            clear hB9 hZ9 hV5s hR5s
            go_wp2
            refine bodyPost_ret (v := .agg #[.string ⟨#[105, 110]⟩, .int .i64 1, .int .i64 mx, .slice a2 n2 k2]) (by simp [results, Tryd.results37, go_sem, q0, q1, q2, q3]) rfl ?_
            exact ⟨⟨⟨#[105, 110]⟩, 1, mx, (mm ++ [⟨p, mf, md, mb⟩])⟩, (a2, n2, k2), rfl, by (dsimp only; decide), by (simp; omega), HD.out.1, HD.out.2.1.more (by omega), HD.out.2.2⟩
  by_cases hr3 : r = 3
  · subst hr3
    obtain ⟨i0, hi, hz0, hz1, hz2⟩ := info_parts infoMessage
    have HF : Hid (∀ (Y5 : World) (_ : Y5.ownsRow Y3.heap.size 44 4 (.slice (some ⟨Y3.heap.size, 0, none⟩) 7 7) 7 (madeCells #[.int .i64 0, .int .i64 0, .int .i64 0, .slice none 0 0] (7 * 4)).toList) (_ : Y3.grownBy Y5 none), DR (w.heap.size + 1) Y5 (some ⟨Y3.heap.size, 0, none⟩, 7, 7) (List.replicate 7 ⟨0, 0, 0, []⟩) ∧ Below Y3.heap.size Y3 Y5) := fun Y5 h hg => ⟨(made_dr h (by decide)).low hz3, (Below.refl _ _).grown hg (Nat.le_refl _) (by intro k hk; cases hk)⟩
    clear c0 c1 c2 c3 f0 f1 f2 f3 z0 z1 z2 z3 g0 g1 g2 g3 hO3 hD3
    go_wp2_with (at_make; refine wpList_make_full _ rfl _ _ 37 rfl Y3.heap.size 44 i0 (.agg #[.int .i64 0, .int .i64 0, .int .i64 0, .slice none 0 0]) 4 Tryd.underlying37 hi hz0 hz1 .i64 .i64 _ _ 7 rfl rfl rfl rfl (by rw [hz2]; omega) (by decide) (Nat.le_refl _) ?_; intro Y5 hown5 hgrow5; obtain ⟨hd5, hb5⟩ := HF.out Y5 hown5 hgrow5; have hV5 := hV3.below hb5 hV3.lt; have hR5 := hR3.below hb5 hR3.lt; have hS5 := hS3.below (hb5.mono hS3.2.1); have hK5 := hK3.below hb5; clear hV3 hR3 hd3 hS3 hK3 hown5 hgrow5 hb5 HF; generalize hg7 : Y3.heap.size = g7 at *; clear hg7; obtain ⟨⟨c0, c1, c2, c3⟩, f0, f1, f2, f3⟩ := id hV5; dsimp only at c0 c1 c2 c3; have hV6 := hV5.set3 (.slice (some ⟨g7, 0, none⟩) 7 7); have hR6 := hR5.far gV 3 (.slice (some ⟨g7, 0, none⟩) 7 7) hgR; have hd6 := hd5.kz (Kz.set' (R := gV) (j := 3) (.slice (some ⟨g7, 0, none⟩) 7 7) c0 (notN_str _)); have hB6 : Below w.heap.size Y5 (Y5.setCell ⟨gV, 3, none⟩ (.slice (some ⟨g7, 0, none⟩) 7 7)) := (Below.refl _ _).setCell (by simp; have := HGV.out; omega) _; have hS6 := hS5.below (hB6.mono hbw); have hK6 := hK5.below' hB6; clear hR5 hd5 hS5 hK5 hB6; obtain ⟨⟨v0, v1, v2, v3⟩, w0, w1, w2, w3⟩ := id hV6; obtain ⟨⟨z0, z1, z2, z3⟩, g0, g1, g2, g3⟩ := id hR6; dsimp only at v0 v1 v2 v3 z0 z1 z2 z3; obtain ⟨q0, q1, q2, q3⟩ := qd_cells (sz := w.heap.size) z0 z1 z2 z3 (.string ⟨#[105, 110]⟩) (.int .i64 1) (.int .i64 mx) (.slice (some ⟨g7, 0, none⟩) 7 7); have hB9 : Below w.heap.size (Y5.setCell ⟨gV, 3, none⟩ (.slice (some ⟨g7, 0, none⟩) 7 7)) ((((World.setCell (Y5.setCell ⟨gV, 3, none⟩ (.slice (some ⟨g7, 0, none⟩) 7 7)) ⟨w.heap.size, 0, none⟩ (.string ⟨#[105, 110]⟩)).setCell ⟨w.heap.size, 1, none⟩ (.int .i64 1)).setCell ⟨w.heap.size, 2, none⟩ (.int .i64 mx)).setCell ⟨w.heap.size, 3, none⟩ (.slice (some ⟨g7, 0, none⟩) 7 7)) := ((((Below.refl _ _).setCell (by simp) _).setCell (by simp) _).setCell (by simp) _).setCell (by simp) _; have hZ9 : Kz (w.heap.size + 1) isN (Y5.setCell ⟨gV, 3, none⟩ (.slice (some ⟨g7, 0, none⟩) 7 7)) ((((World.setCell (Y5.setCell ⟨gV, 3, none⟩ (.slice (some ⟨g7, 0, none⟩) 7 7)) ⟨w.heap.size, 0, none⟩ (.string ⟨#[105, 110]⟩)).setCell ⟨w.heap.size, 1, none⟩ (.int .i64 1)).setCell ⟨w.heap.size, 2, none⟩ (.int .i64 mx)).setCell ⟨w.heap.size, 3, none⟩ (.slice (some ⟨g7, 0, none⟩) 7 7)) := (((Kz.set _ _ (by omega)).trans (Kz.set _ _ (by omega))).trans (Kz.set _ _ (by omega))).trans (Kz.set _ _ (by omega)); have HD : Hid (_) := And.intro (DR.kz (hd6) hZ9) (And.intro (Go.Proofs.YtilepbbcinbmhaaDoor.Src.below (hS6) (hB9.mono hbw)) (Kb.below' (hK6) hB9)); clear hB9 hZ9 hV6 hR6)
    refine bodyPost_ret (v := .agg #[.string ⟨#[105, 110]⟩, .int .i64 1, .int .i64 mx, .slice (some ⟨g7, 0, none⟩) 7 7]) (by simp [results, Tryd.results37, go_sem, q0, q1, q2, q3]) rfl ?_
    exact ⟨⟨⟨#[105, 110]⟩, 1, mx, (List.replicate 7 ⟨0, 0, 0, []⟩)⟩, (some ⟨g7, 0, none⟩, 7, 7), rfl, by (dsimp only; decide), by simp, HD.out.1, HD.out.2.1.more (by omega), HD.out.2.2⟩
  · have e0 : (r == 0) = false := by simpa using hr0
    have e1 : (r == 1) = false := by simpa using hr1
    have e2 : (r == 2) = false := by simpa using hr2
    have e3 : (r == 3) = false := by simpa using hr3
    obtain ⟨⟨c0, c1, c2, c3⟩, f0, f1, f2, f3⟩ := id hV3
    obtain ⟨⟨z0, z1, z2, z3⟩, g0, g1, g2, g3⟩ := id hR3
    dsimp only at c0 c1 c2 c3 z0 z1 z2 z3
    obtain ⟨q0, q1, q2, q3⟩ := qd_cells (sz := w.heap.size) z0 z1 z2 z3 (.string ⟨#[105, 110]⟩) (.int .i64 1) (.int .i64 mx) (.slice sa sn sc)
    have hB9 : Below w.heap.size Y3 ((((World.setCell Y3 ⟨w.heap.size, 0, none⟩ (.string ⟨#[105, 110]⟩)).setCell ⟨w.heap.size, 1, none⟩ (.int .i64 1)).setCell ⟨w.heap.size, 2, none⟩ (.int .i64 mx)).setCell ⟨w.heap.size, 3, none⟩ (.slice sa sn sc)) := ((((Below.refl _ _).setCell (by simp) _).setCell (by simp) _).setCell (by simp) _).setCell (by simp) _
    have hZ9 : Kz (w.heap.size + 1) isN Y3 ((((World.setCell Y3 ⟨w.heap.size, 0, none⟩ (.string ⟨#[105, 110]⟩)).setCell ⟨w.heap.size, 1, none⟩ (.int .i64 1)).setCell ⟨w.heap.size, 2, none⟩ (.int .i64 mx)).setCell ⟨w.heap.size, 3, none⟩ (.slice sa sn sc)) := (((Kz.set _ _ (by omega)).trans (Kz.set _ _ (by omega))).trans (Kz.set _ _ (by omega))).trans (Kz.set _ _ (by omega))
    have HD : Hid (_) := And.intro (DR.kz (hd3.low (by omega)) hZ9) (And.intro (Go.Proofs.YtilepbbcinbmhaaDoor.Src.below (hS3) (hB9.mono hbw)) (Kb.below' (hK3) hB9))
    clear hB9 hZ9 hV3 hR3
    go_wp2
    refine bodyPost_ret (v := .agg #[.string ⟨#[105, 110]⟩, .int .i64 1, .int .i64 mx, .slice sa sn sc]) (by simp [results, Tryd.results37, go_sem, q0, q1, q2, q3]) rfl ?_
    exact ⟨⟨⟨#[105, 110]⟩, 1, mx, mm⟩, (sa, sn, sc), rfl, by (dsimp only; decide), by (dsimp only; omega), HD.out.1, HD.out.2.1.more (by omega), HD.out.2.2⟩
end Go.Proofs.YtilepbbcinbmhaaDoor
