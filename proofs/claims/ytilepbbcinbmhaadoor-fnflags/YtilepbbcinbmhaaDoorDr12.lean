/- The draw of a store that may be bent; no conditions beyond those that each fact names. -/
import Derived.Test.YtilepbbcinbmhaaDoorDr10
import Derived.Test.YtilepbbcinbmhaaDoorDr11
namespace Go.Proofs.YtilepbbcinbmhaaDoor
open Go.RowKit
set_option linter.unusedVariables false

theorem DR.setV {lo : Nat} {w : World} {s : SlQ} {l : List Msg} (h : DR lo w s l) {V j : Nat} {x : Int} {a : Option Addr} {n c : Nat} (u : Value) (h0 : w.cell? ⟨V, 0, none⟩ = some (.int .i64 x)) (h1 : w.cell? ⟨V, 1, none⟩ = some (.slice a n c)) : DR lo (w.setCell ⟨V, j, none⟩ u) s l := by
  obtain ⟨k1, k2, k3, k4, k5⟩ := h
  refine ⟨k1, k2, k3, k4, ?_⟩
  rcases k5 with k5 | ⟨g, e, hg, hc⟩
  · exact .inl k5
  · rcases Nat.eq_zero_or_pos l.length with hz | hp
    · exact .inl (List.length_eq_zero_iff.1 hz)
    · have hgV : g ≠ V := fun e => by
        subst e
        obtain ⟨q0, ⟨-, c1, -⟩, -⟩ := hc 0 hp
        rw [Nat.zero_mul, Nat.zero_add] at c1
        rw [h1] at c1
        cases c1
      have hk : Kz lo isU8 w (w.setCell ⟨V, j, none⟩ u) := Kz.set' u h0 (by rintro ⟨y, hy⟩; cases hy)
      have e' : ∀ i, (w.setCell ⟨V, j, none⟩ u).cell? ⟨g, i, none⟩ = w.cell? ⟨g, i, none⟩ := fun i => World.cell?_setCell_other _ _ _ _ (fun e => by cases e; exact hgV rfl)
      refine .inr ⟨g, e, by simpa using hg, fun i hi => ?_⟩
      obtain ⟨q, ⟨d0, d1, d2, d3⟩, hd, hn⟩ := hc i hi
      exact ⟨q, ⟨(e' _).trans d0, (e' _).trans d1, (e' _).trans d2, (e' _).trans d3⟩, hd.kz hk, hn⟩
theorem DX.setV {lo : Nat} {w : World} {ql : List Qd} {l : List Bx} (h : DX lo w ql l) {V j : Nat} {x : Int} {a : Option Addr} {n c : Nat} (u : Value) (h0 : w.cell? ⟨V, 0, none⟩ = some (.int .i64 x)) (h1 : w.cell? ⟨V, 1, none⟩ = some (.slice a n c)) : DX lo (w.setCell ⟨V, j, none⟩ u) ql l :=
  ⟨h.1, fun i hi => by obtain ⟨s, e, hd, hn⟩ := h.2 i hi; exact ⟨s, e, hd.setV u h0 h1, hn⟩⟩
/-- A row of mailboxes is not the block of a store. -/
theorem OwnX.ne {w : World} {B lo : Nat} {v : Value} {ql : List Qd} {l : List Bx} (h : OwnX w B v ql) (hd : DX lo w ql l) (hne : ql ≠ []) {V : Nat} {x : Int} (h0 : w.cell? ⟨V, 0, none⟩ = some (.int .i64 x)) : v.ownBlock ≠ some V := by
  intro e
  have hp : 0 < ql.length := List.length_pos_iff.2 hne
  rcases h.2 with ⟨h', _⟩ | ⟨g', cap, cur, h', _, _⟩
  · rw [h'] at e; cases e
  · rw [h'] at e
    obtain rfl : g' = V := by injection e
    rw [h'] at h
    obtain ⟨-, c0, -⟩ := ownQ_cells h 0 hp
    obtain ⟨s, e', -⟩ := hd.2 0 (by rw [← hd.1]; exact hp)
    rw [Nat.zero_mul, e', h0] at c0
    cases c0
/-- A row of mailboxes that was just made. -/
theorem made_ds {w' : World} {B g n : Nat} (h : w'.ownsRow B 39 4 (.slice (some ⟨g, 0, none⟩) n n) n (madeCells #[.string ByteArray.empty, .int .i64 0, .int .i64 0, .slice none 0 0] (n * 4)).toList) : DS B w' (some ⟨g, 0, none⟩, n, n) (List.replicate n ⟨ByteArray.empty, 0, 0, []⟩) := by
  rw [show (madeCells #[.string ByteArray.empty, .int .i64 0, .int .i64 0, .slice none 0 0] (n * 4)).toList = qc (List.replicate n (zBox)) from made_quads zBox n] at h
  have hO : OwnX w' B (.slice (some ⟨g, 0, none⟩) n n) (List.replicate n zBox) := by unfold OwnX; rw [List.length_replicate]; exact h
  refine hO.ds ⟨by simp, fun j hj => ?_⟩
  rw [List.length_replicate] at hj
  refine ⟨(none, 0, 0), ?_, ?_, ?_⟩
  · rw [nthQ_get (by simpa using hj), nthX_get (by simpa using hj), List.getElem_replicate, List.getElem_replicate]
  · rw [nthX_get (by simpa using hj), List.getElem_replicate]
    exact ⟨rfl, Nat.le_refl _, by decide, fun x hx => (by cases hx), .inl rfl⟩
  · rw [nthX_get (by simpa using hj), List.getElem_replicate]
    exact ⟨by decide, by simp⟩
theorem DS.near {lo : Nat} {w w' : World} {s : SlQ} {l : List Bx} (h : DS lo w s l) (hn : Near lo w w') : DS lo w' s l := ⟨h.1.near hn, h.2⟩
theorem DS.low {lo lo' : Nat} {w : World} {s : SlQ} {l : List Bx} (h : DS lo w s l) (hl : lo' ≤ lo) : DS lo' w s l := ⟨h.1.low hl, h.2⟩
theorem Kb.near {b lo : Nat} {w w' : World} (h : Kb b w w') (hb : b < lo) : Near lo w w' := ⟨h.size, fun p hp hlt => World.cell?_of_block (h.block p.block hlt (fun e => by injection e with e; omega))⟩

/-- How the draw of such a store ends. -/
def SbEnd (B b M : Nat) (w : World) (e : Ending) (w' : World) : Prop := ∃ (x : Int) (s : SlQ) (l : List Bx), e = .returned (.agg #[.int .i64 x, slW s]) ∧ l.length ≤ 4 ∧ DS (w.heap.size + 1) w' s l ∧ Go.Proofs.YtilepbbcinbmhaaDoor.Src w' B b M ∧ Kb b w w'

set_option maxHeartbeats 6400000 in
set_option maxRecDepth 100000 in
theorem l7Bent_any (B b M : Nat) (w : World) (hs : Go.Proofs.YtilepbbcinbmhaaDoor.Src w B b M) (hM : M ≤ 30000) :
    Calls Tryd.prog 30 #[.pointer (some ⟨b, 0, none⟩)] w fun e w' => SbEnd B b (M + 4000) w e w' := by
  have hbw : b < w.heap.size := hs.2.1
  have hbA : Below w.heap.size w (w.alloc (.cells #[.int .i64 0, .slice none 0 0] 33)) := (Below.refl _ _).alloc (Nat.le_refl _) _
  have hzA : (w.alloc (.cells #[.int .i64 0, .slice none 0 0] 33)).heap.size = w.heap.size + 1 := by simp
  have hR : Df (w.alloc (.cells #[.int .i64 0, .slice none 0 0] 33)) w.heap.size (.int .i64 0, .slice none 0 0) := Df.new w _ _ _
  have hsA := hs.below (hbA.mono hbw)
  have hKA : Kb b w (w.alloc (.cells #[.int .i64 0, .slice none 0 0] 33)) := (Kb.refl b w).below hbA
  go_enter Tryd.func30, Tryd.ntmps30
  go_wp2_with fail
  generalize w.alloc (.cells #[.int .i64 0, .slice none 0 0] 33) = WA at *
  refine (l7Draw_any B b M WA hsA (by omega)).mono ?_
  rintro e y1 ⟨x, v, ql, l, rfl, hu, hl, hO1, hD1, h0, hS1, hk1⟩
  obtain ⟨sa, sn, sc, rfl⟩ : ∃ a n c, v = Value.slice a n c := by obtain ⟨a, c, e, -⟩ := OwnX.form hO1; exact ⟨a, _, c, e⟩
  rw [hzA] at hO1 hD1
  have hR1 := hR.grown hk1 (fun e => by injection e with e; omega)
  have hK1 := hKA.trans hk1
  have hz1 : w.heap.size + 1 ≤ y1.heap.size := by rw [← hzA]; exact World.grownBy.size hk1
  clear hR hKA hsA hbA hk1
  have hb2 : Below y1.heap.size y1 (y1.alloc (.cells #[.int .i64 x, .slice sa sn sc] 33)) := (Below.refl _ _).alloc (Nat.le_refl _) _
  have hV2 := Df.new y1 (.int .i64 x) (.slice sa sn sc) 33
  have hds := hO1.ds hD1
  have hR2 := hR1.below hb2 hR1.lt
  have hO2 := hO1.below hb2 (Nat.le_refl _)
  have hD2 := hD1.kz (Kz.below _ hb2)
  have hS2 := hS1.below (hb2.mono hS1.2.1)
  have hK2 := hK1.below hb2
  have hT2 : Kb b y1 (y1.alloc (.cells #[.int .i64 x, .slice sa sn sc] 33)) := (Kb.refl b y1).below hb2
  have hgv : ∀ g, (Value.slice sa sn sc).ownBlock = some g → g < y1.heap.size := fun g hg => (World.ownsRow.lt hO1 g hg).2
  clear hR1 hO1 hD1 hS1 hK1 hb2 WA hzA
  go_wp2_with fail
  generalize y1.alloc (.cells #[.int .i64 x, .slice sa sn sc] 33) = Y2 at *
  obtain ⟨gV, hgV⟩ : ∃ g, y1.heap.size = g := ⟨_, rfl⟩
  rw [hgV] at hV2 hgv ⊢
  have HGV : Hid (w.heap.size + 1 ≤ gV ∧ y1.heap.size = gV) := ⟨by rw [← hgV]; exact hz1, hgV⟩
  clear hz1 hgV
  refine (l1Next_any B b (M + 2200) 12 Y2 hS2 (by omega) (by omega) (by omega)).mono ?_
  rintro e Y3 ⟨r, rfl, r0, r1, -, hS3, hk3⟩
  have r1 := r1 (by omega)
  have hV3 := hV2.grown hk3 (fun e => by injection e with e; have := HGV.out.1; omega)
  have hR3 := hR2.grown hk3 (fun e => by injection e with e; omega)
  have hO3 := hO2.kb hk3 (by omega)
  have hD3 := hD2.kz (Kz.kb hk3 (by omega))
  have hK3 := hK2.grown hk3
  have hT3 := hT2.grown hk3
  clear hV2 hR2 hO2 hD2 hS2 hK2 hk3 hT2
  obtain ⟨⟨c0, c1⟩, f0, f1⟩ := id hV3
  obtain ⟨⟨z0, z1⟩, g0, g1⟩ := id hR3
  dsimp only at c0 c1 z0 z1
  have hgR : gV ≠ w.heap.size := by have := HGV.out.1; omega
  by_cases hr0 : r = 0
  · subst hr0
    have hb4 : Below Y3.heap.size Y3 (Y3.alloc (.cells #[.int .i64 0, .int .i64 1, .int .i64 1000, .int .i64 1001] 2)) := (Below.refl _ _).alloc (Nat.le_refl _) _
    have hN := nums_new (w := Y3) (cs := #[.int .i64 0, .int .i64 1, .int .i64 1000, .int .i64 1001]) (vs := [0, 1, 1000, 1001]) (t := 2) rfl
    have hV4 := hV3.below hb4 hV3.lt
    have hR4 := hR3.below hb4 hR3.lt
    have hS4 := hS3.below (hb4.mono hS3.2.1)
    have hK4 := hK3.below hb4
    have hT4 := hT3.below hb4
    have hbS : b < Y3.heap.size := hS3.2.1
    clear hV3 hR3 hS3 hK3 hT3 hb4 hO3 hD3 c0 c1 f0 f1 z0 z1 g0 g1
    go_wp2_with fail
    refine (l1Pick_any B b (M + 2200 + 1) _ 4 4 [0, 1, 1000, 1001] _ hS4 (by omega) rfl (by omega) (by omega) hN hbS).mono ?_
    rintro e Y5 ⟨p, rfl, hp, hS5, hk5⟩
    have hV5 := hV4.grown hk5 (fun e => by injection e with e; have := HGV.out.1; omega)
    have hR5 := hR4.grown hk5 (fun e => by injection e with e; omega)
    have hK5 := hK4.grown hk5
    have hT5 := hT4.grown hk5
    clear hV4 hR4 hS4 hK4 hT4 hk5 hN
    obtain ⟨⟨c0, c1⟩, f0, f1⟩ := id hV5
    dsimp only at c0 c1
    have hV6 := hV5.set0 (.int .i64 p)
    have hR6 := hR5.far gV 0 (.int .i64 p) hgR
    have hB6 : Below gV Y5 (Y5.setCell ⟨gV, 0, none⟩ (.int .i64 p)) := (Below.refl _ _).setCell (by simp) _
    have hS6 := hS5.below (hB6.mono (by have := HGV.out.1; omega))
    have hK6 := hK5.below' (hB6.mono (by have := HGV.out.1; omega))
    have hT6 := hT5.below' (hB6.mono (by have := HGV.out.2; omega))
    clear hR5 hS5 hK5 hB6 hp hT5
    obtain ⟨⟨v0, v1⟩, w0, w1⟩ := id hV6
    obtain ⟨⟨z0, z1⟩, g0, g1⟩ := id hR6
    dsimp only at v0 v1 z0 z1
    have hR9 := (hR6.set0 (.int .i64 p)).set1 (.slice sa sn sc)
    obtain ⟨⟨q0, q1⟩, -, -⟩ := hR9
    dsimp only at q0 q1
    have hB9 : Below w.heap.size (Y5.setCell ⟨gV, 0, none⟩ (.int .i64 p)) ((World.setCell (Y5.setCell ⟨gV, 0, none⟩ (.int .i64 p)) ⟨w.heap.size, 0, none⟩ (.int .i64 p)).setCell ⟨w.heap.size, 1, none⟩ (.slice sa sn sc)) := ((Below.refl _ _).setCell (by simp) _).setCell (by simp) _
    have hN9 : Near (w.heap.size + 1) (Y5.setCell ⟨gV, 0, none⟩ (.int .i64 p)) ((World.setCell (Y5.setCell ⟨gV, 0, none⟩ (.int .i64 p)) ⟨w.heap.size, 0, none⟩ (.int .i64 p)).setCell ⟨w.heap.size, 1, none⟩ (.slice sa sn sc)) := (Near.set _ (by omega)).trans (Near.set _ (by omega))
    have HD : Hid (_) := And.intro (DS.near ((hds.low (by omega)).near (hT6.near (by omega))) hN9) (And.intro (Go.Proofs.YtilepbbcinbmhaaDoor.Src.below (hS6) (hB9.mono hbw)) (Kb.below' (hK6) hB9))
    clear hB9 hN9 hV6 hR6
    go_wp2
    refine bodyPost_ret (v := .agg #[.int .i64 p, .slice sa sn sc]) (by simp [results, Tryd.results30, go_sem, q0, q1]) rfl ?_
    exact ⟨p, (sa, sn, sc), l, rfl, by first | omega | (simp; omega) | simp, HD.out.1, HD.out.2.1.more (by omega), HD.out.2.2⟩
  by_cases hr1 : r = 1
  · subst hr1
    clear hds hT3 z0 z1 g0 g1
    have HQL : Hid (ql.length ≤ 3) := by show _ ≤ _; rw [hD3.1]; exact hl
    go_wp2_with fail
    refine wp_region_held_drew (S := fun w' => w'.cell? ⟨gV, 0, none⟩ = some (.int .i64 x)) (by kernel_rfl) ?hS1 (fun hHeld => ?_)
    case hS1 => exact c0
    refine wpAnyH_take (i := 0) (v := ?_) rfl (by kernel_rfl) (by kernel_rfl) (by kernel_rfl) (fun _ _ _ h => h) (Or.inl ⟨by rfl, ?hy2⟩) (by assumption) ?ty2
    case hy2 => (intro w5 hSw; (try dsimp only at hSw); go_simp; all_goals with_reducible rfl)
    simp only [Act.put, List.getElem_toArray, List.getElem_cons_zero, List.setIfInBounds_toArray, List.set_cons_zero, List.set_cons_succ]
    refine wpAnyH_take (i := 2) (v := ?_) rfl (by kernel_rfl) (by kernel_rfl) (by kernel_rfl) (fun _ _ _ h => h) (Or.inl ⟨by rfl, ?hy3⟩) (by assumption) ?ty3
    case hy3 => (intro w5 hSw; (try dsimp only at hSw); go_simp; all_goals with_reducible rfl)
    simp only [Act.put, List.getElem_toArray, List.getElem_cons_zero, List.getElem_cons_succ, List.setIfInBounds_toArray, List.set_cons_zero, List.set_cons_succ]
    have hb0 : Below Y3.heap.size Y3 Y3.drew := (Below.refl _ _).drew
    have hR0 := hR3.below hb0 hR3.lt
    have hV0 := hV3.below hb0 hV3.lt
    have hO0 := hO3.below hb0 (Nat.le_refl _)
    have hD0 := hD3.kz (Kz.below _ hb0)
    have hS0 := hS3.below (hb0.mono hS3.2.1)
    have hK0 := hK3.below hb0
    clear hR3 hV3 hO3 hD3 hS3 hK3 hb0 c0 c1 f0 f1
    generalize Y3.drew = Y0 at *
    refine wpAnyH_ready (rs := [1, 3]) (by kernel_rfl) (by simp) ?_
    refine AllReadyH.cons rfl (fun K hK => ?_) (AllReadyH.cons rfl (fun K hK => ?_) AllReadyH.nil)
    · have cL := hV0.1.2
      dsimp only at cL
      go_simp
      refine hK.out _ _ hV0.1.1 (fun hHeld => ?_)
      clear hK K
      refine wpAnyH_ready (rs := [3]) (by kernel_rfl) (by simp) ?_
      refine AllReadyH.cons rfl (fun K hK => ?_) AllReadyH.nil
      go_simp
      refine (l7BentBox_any B b (M + 2200 + 1) _ hS0 (by omega)).mono ?_
      rintro e Y1 ⟨m, q, rfl, hmn, hml, hq1, hS1, hk1⟩
      obtain ⟨mn, mv, mx, mm⟩ := m
      obtain ⟨qa, qn, qk⟩ := q
      dsimp only [bxX, slW] at hmn hml hq1 ⊢
      have hzq : w.heap.size + 1 + 1 ≤ (World.heap Y0).size + 1 := by have := hR0.lt; have := hV0.lt; have := HGV.out.1; omega
      have hR1 := hR0.grown hk1 (fun e => by injection e with e; omega)
      have hV1 := hV0.grown hk1 (fun e => by injection e with e; have := HGV.out.1; omega)
      have hO1 := hO0.kb hk1 (by omega)
      have hD1 := hD0.kz (Kz.kb hk1 (by omega))
      have hK1 := hK0.trans hk1
      have hq1 := hq1.low (lo' := w.heap.size + 1 + 1) hzq
      refine hK.out _ _ hV1.1.1 (fun hHeld => ?_)
      clear hK K
      clear hR0 hV0 hO0 hD0 hS0 hK0
      refine wpAnyH_ready (rs := [4]) (by kernel_rfl) (by simp) ?_
      refine AllReadyH.cons rfl (fun K hK => ?_) AllReadyH.nil
      have hb2 : Below (World.heap Y1).size Y1 (World.alloc Y1 (.cells #[.string mn, .int .i64 mv, .int .i64 mx, .slice qa qn qk] 39)) := (Below.refl _ _).alloc (Nat.le_refl _) _
      have hQ2 := Qc.new Y1 (.string mn) (.int .i64 mv) (.int .i64 mx) (.slice qa qn qk) 39
      have hR2 := hR1.below hb2 hR1.lt
      have hV2 := hV1.below hb2 hV1.lt
      have hO2 := hO1.below hb2 (Nat.le_refl _)
      have hD2 := hD1.kz (Kz.below _ hb2)
      have hS2 := hS1.below (hb2.mono hS1.2.1)
      have hK2 := hK1.below hb2
      have hq2 := hq1.kz (Kz.below _ hb2)
      go_simp
      generalize World.alloc Y1 (.cells #[.string mn, .int .i64 mv, .int .i64 mx, .slice qa qn qk] 39) = Y2 at *
      refine hK.out _ _ hV2.1.1 (fun hHeld => ?_)
      clear hK K
      clear hR1 hV1 hO1 hD1 hS1 hK1
      refine wpAnyH_ready (rs := [5]) (by kernel_rfl) (by simp) ?_
      refine AllReadyH.cons rfl (fun K hK => ?_) AllReadyH.nil
      refine step_appX rfl _ _ rfl (w.heap.size + 1 + 1) (.slice sa sn sc) ql (by rfl) hO2 _ (.string mn, .int .i64 mv, .int .i64 mx, .slice qa qn qk) (by rfl) hQ2 ⟨rfl, rfl, rfl, rfl⟩ (by have := HQL.out; omega) (by have := hR2.lt; have := hV2.lt; have := HGV.out.1; omega) ?_
      intro v2 Y3 hO3 hg3
      obtain ⟨a2, n2, k2, rfl⟩ : ∃ a n c, v2 = Value.slice a n c := by obtain ⟨a, c, e, -⟩ := OwnX.form hO3; exact ⟨a, _, c, e⟩
      have hKz : Kz (w.heap.size + 1 + 1) isN _ Y3 := hO2.kz isN hg3 hD2.first h0
      have hB : Below (w.heap.size + 1 + 1) _ Y3 := (Below.refl _ _).grown hg3 (by have := hR2.lt; have := hV2.lt; have := HGV.out.1; omega) (fun g hg => (World.ownsRow.lt hO2 g hg).1)
      have hR3 := hR2.below hB (by omega)
      have hV3 := hV2.grown hg3 (fun e => by have := hgv _ e.symm; omega)
      have hD3 := (hD2.kz hKz).snoc ⟨mn, mv, mx, mm⟩ (qa, qn, qk) (hq2.kz hKz) ⟨hmn, hml⟩
      have hS3 := hS2.below (hB.mono (by omega))
      have hK3 := hK2.below' (hB.mono (by omega))
      refine hK.out _ _ hV3.1.1 (fun hHeld => ?_)
      clear hK K
      clear hB hKz hg3
      clear hR2 hV2 hO2 hD2 hS2 hK2
      refine wpAnyH_take (i := 6) (v := ?_) rfl (by kernel_rfl) (by kernel_rfl) (by kernel_rfl) (fun _ _ _ h => h) (Or.inl ⟨by rfl, ?hy4⟩) (by assumption) ?ty4
      case hy4 => (intro w5 hSw; (try dsimp only at hSw); go_simp; all_goals with_reducible rfl)
      simp only [Act.put, List.getElem_toArray, List.getElem_cons_zero, List.getElem_cons_succ, List.setIfInBounds_toArray, List.set_cons_zero, List.set_cons_succ]
      obtain ⟨⟨c0, c1⟩, f0, f1⟩ := id hV3
      dsimp only at c0 c1
      refine wpAnyH_ready (rs := [7]) (by kernel_rfl) (by simp) ?_
      refine AllReadyH.cons rfl (fun K hK => ?_) AllReadyH.nil
      have hV3s := hV3.set1 (.slice a2 n2 k2)
      have hR3s := hR3.far gV 1 (.slice a2 n2 k2) hgR
      have hBs : Below w.heap.size Y3 (World.setCell Y3 ⟨gV, 1, none⟩ (.slice a2 n2 k2)) := (Below.refl _ _).setCell (by simp; have := HGV.out.1; omega) _
      have hds2 := OwnX.ds (ownsRow_setCell_other (a := ⟨gV, 1, none⟩) hO3 (hO3.ne hD3 (by simp) c0) (.slice a2 n2 k2)) (hD3.setV (V := gV) (j := 1) (.slice a2 n2 k2) c0 c1)
      have hS3s := hS3.below (hBs.mono hbw)
      have hK3s := hK3.below' hBs
      clear hR3 hV3 hO3 hD3 hS3 hK3 hBs
      go_simp
      generalize World.setCell Y3 ⟨gV, 1, none⟩ (.slice a2 n2 k2) = Y at *
      refine hK.out _ _ hV3s.1.1 (fun hHeld => ?_)
      clear hK K
      clear c0 c1 f0 f1
      refine wpAnyH_done (by kernel_rfl) ?_ _
      clear hHeld
      obtain ⟨⟨v0, v1⟩, w0, w1⟩ := id hV3s
      obtain ⟨⟨z0, z1⟩, g0, g1⟩ := id hR3s
      dsimp only at v0 v1 z0 z1
      have hR9 := (hR3s.set0 (.int .i64 x)).set1 (.slice a2 n2 k2)
      obtain ⟨⟨q0, q1⟩, -, -⟩ := hR9
      dsimp only at q0 q1
      have hB9 : Below w.heap.size Y ((World.setCell Y ⟨w.heap.size, 0, none⟩ (.int .i64 x)).setCell ⟨w.heap.size, 1, none⟩ (.slice a2 n2 k2)) := ((Below.refl _ _).setCell (by simp) _).setCell (by simp) _
      have hN9 : Near (w.heap.size + 1) Y ((World.setCell Y ⟨w.heap.size, 0, none⟩ (.int .i64 x)).setCell ⟨w.heap.size, 1, none⟩ (.slice a2 n2 k2)) := (Near.set _ (by omega)).trans (Near.set _ (by omega))
      have HD : Hid (_) := And.intro (DS.near (hds2.low (by omega)) hN9) (And.intro (Go.Proofs.YtilepbbcinbmhaaDoor.Src.below (hS3s) (hB9.mono hbw)) (Kb.below' (hK3s) hB9))
      clear hB9 hN9 hV3s hR3s
      go_wp2
      refine bodyPost_ret (v := .agg #[.int .i64 x, .slice a2 n2 k2]) (by simp [results, Tryd.results30, go_sem, q0, q1]) rfl ?_
      exact ⟨x, (a2, n2, k2), (l ++ [⟨mn, mv, mx, mm⟩]), rfl, by first | omega | (simp; omega) | simp, HD.out.1, HD.out.2.1.more (by omega), HD.out.2.2⟩
    · go_simp
      refine (l7BentBox_any B b (M + 2200 + 1) _ hS0 (by omega)).mono ?_
      rintro e Y1 ⟨m, q, rfl, hmn, hml, hq1, hS1, hk1⟩
      obtain ⟨mn, mv, mx, mm⟩ := m
      obtain ⟨qa, qn, qk⟩ := q
      dsimp only [bxX, slW] at hmn hml hq1 ⊢
      have hzq : w.heap.size + 1 + 1 ≤ (World.heap Y0).size + 1 := by have := hR0.lt; have := hV0.lt; have := HGV.out.1; omega
      have hR1 := hR0.grown hk1 (fun e => by injection e with e; omega)
      have hV1 := hV0.grown hk1 (fun e => by injection e with e; have := HGV.out.1; omega)
      have hO1 := hO0.kb hk1 (by omega)
      have hD1 := hD0.kz (Kz.kb hk1 (by omega))
      have hK1 := hK0.trans hk1
      have hq1 := hq1.low (lo' := w.heap.size + 1 + 1) hzq
      refine hK.out _ _ hV1.1.1 (fun hHeld => ?_)
      clear hK K
      clear hR0 hV0 hO0 hD0 hS0 hK0
      refine wpAnyH_ready (rs := [1, 4]) (by kernel_rfl) (by simp) ?_
      refine AllReadyH.cons rfl (fun K hK => ?_) (AllReadyH.cons rfl (fun K hK => ?_) AllReadyH.nil)
      · have cL := hV1.1.2
        dsimp only at cL
        go_simp
        refine hK.out _ _ hV1.1.1 (fun hHeld => ?_)
        clear hK K
        refine wpAnyH_ready (rs := [4]) (by kernel_rfl) (by simp) ?_
        refine AllReadyH.cons rfl (fun K hK => ?_) AllReadyH.nil
        have hb2 : Below (World.heap Y1).size Y1 (World.alloc Y1 (.cells #[.string mn, .int .i64 mv, .int .i64 mx, .slice qa qn qk] 39)) := (Below.refl _ _).alloc (Nat.le_refl _) _
        have hQ2 := Qc.new Y1 (.string mn) (.int .i64 mv) (.int .i64 mx) (.slice qa qn qk) 39
        have hR2 := hR1.below hb2 hR1.lt
        have hV2 := hV1.below hb2 hV1.lt
        have hO2 := hO1.below hb2 (Nat.le_refl _)
        have hD2 := hD1.kz (Kz.below _ hb2)
        have hS2 := hS1.below (hb2.mono hS1.2.1)
        have hK2 := hK1.below hb2
        have hq2 := hq1.kz (Kz.below _ hb2)
        go_simp
        generalize World.alloc Y1 (.cells #[.string mn, .int .i64 mv, .int .i64 mx, .slice qa qn qk] 39) = Y2 at *
        refine hK.out _ _ hV2.1.1 (fun hHeld => ?_)
        clear hK K
        clear hR1 hV1 hO1 hD1 hS1 hK1
        refine wpAnyH_ready (rs := [5]) (by kernel_rfl) (by simp) ?_
        refine AllReadyH.cons rfl (fun K hK => ?_) AllReadyH.nil
        refine step_appX rfl _ _ rfl (w.heap.size + 1 + 1) (.slice sa sn sc) ql (by rfl) hO2 _ (.string mn, .int .i64 mv, .int .i64 mx, .slice qa qn qk) (by rfl) hQ2 ⟨rfl, rfl, rfl, rfl⟩ (by have := HQL.out; omega) (by have := hR2.lt; have := hV2.lt; have := HGV.out.1; omega) ?_
        intro v2 Y3 hO3 hg3
        obtain ⟨a2, n2, k2, rfl⟩ : ∃ a n c, v2 = Value.slice a n c := by obtain ⟨a, c, e, -⟩ := OwnX.form hO3; exact ⟨a, _, c, e⟩
        have hKz : Kz (w.heap.size + 1 + 1) isN _ Y3 := hO2.kz isN hg3 hD2.first h0
        have hB : Below (w.heap.size + 1 + 1) _ Y3 := (Below.refl _ _).grown hg3 (by have := hR2.lt; have := hV2.lt; have := HGV.out.1; omega) (fun g hg => (World.ownsRow.lt hO2 g hg).1)
        have hR3 := hR2.below hB (by omega)
        have hV3 := hV2.grown hg3 (fun e => by have := hgv _ e.symm; omega)
        have hD3 := (hD2.kz hKz).snoc ⟨mn, mv, mx, mm⟩ (qa, qn, qk) (hq2.kz hKz) ⟨hmn, hml⟩
        have hS3 := hS2.below (hB.mono (by omega))
        have hK3 := hK2.below' (hB.mono (by omega))
        refine hK.out _ _ hV3.1.1 (fun hHeld => ?_)
        clear hK K
        clear hB hKz hg3
        clear hR2 hV2 hO2 hD2 hS2 hK2
        refine wpAnyH_take (i := 6) (v := ?_) rfl (by kernel_rfl) (by kernel_rfl) (by kernel_rfl) (fun _ _ _ h => h) (Or.inl ⟨by rfl, ?hy5⟩) (by assumption) ?ty5
        case hy5 => (intro w5 hSw; (try dsimp only at hSw); go_simp; all_goals with_reducible rfl)
        simp only [Act.put, List.getElem_toArray, List.getElem_cons_zero, List.getElem_cons_succ, List.setIfInBounds_toArray, List.set_cons_zero, List.set_cons_succ]
        obtain ⟨⟨c0, c1⟩, f0, f1⟩ := id hV3
        dsimp only at c0 c1
        refine wpAnyH_ready (rs := [7]) (by kernel_rfl) (by simp) ?_
        refine AllReadyH.cons rfl (fun K hK => ?_) AllReadyH.nil
        have hV3s := hV3.set1 (.slice a2 n2 k2)
        have hR3s := hR3.far gV 1 (.slice a2 n2 k2) hgR
        have hBs : Below w.heap.size Y3 (World.setCell Y3 ⟨gV, 1, none⟩ (.slice a2 n2 k2)) := (Below.refl _ _).setCell (by simp; have := HGV.out.1; omega) _
        have hds2 := OwnX.ds (ownsRow_setCell_other (a := ⟨gV, 1, none⟩) hO3 (hO3.ne hD3 (by simp) c0) (.slice a2 n2 k2)) (hD3.setV (V := gV) (j := 1) (.slice a2 n2 k2) c0 c1)
        have hS3s := hS3.below (hBs.mono hbw)
        have hK3s := hK3.below' hBs
        clear hR3 hV3 hO3 hD3 hS3 hK3 hBs
        go_simp
        generalize World.setCell Y3 ⟨gV, 1, none⟩ (.slice a2 n2 k2) = Y at *
        refine hK.out _ _ hV3s.1.1 (fun hHeld => ?_)
        clear hK K
        clear c0 c1 f0 f1
        refine wpAnyH_done (by kernel_rfl) ?_ _
        clear hHeld
        obtain ⟨⟨v0, v1⟩, w0, w1⟩ := id hV3s
        obtain ⟨⟨z0, z1⟩, g0, g1⟩ := id hR3s
        dsimp only at v0 v1 z0 z1
        have hR9 := (hR3s.set0 (.int .i64 x)).set1 (.slice a2 n2 k2)
        obtain ⟨⟨q0, q1⟩, -, -⟩ := hR9
        dsimp only at q0 q1
        have hB9 : Below w.heap.size Y ((World.setCell Y ⟨w.heap.size, 0, none⟩ (.int .i64 x)).setCell ⟨w.heap.size, 1, none⟩ (.slice a2 n2 k2)) := ((Below.refl _ _).setCell (by simp) _).setCell (by simp) _
        have hN9 : Near (w.heap.size + 1) Y ((World.setCell Y ⟨w.heap.size, 0, none⟩ (.int .i64 x)).setCell ⟨w.heap.size, 1, none⟩ (.slice a2 n2 k2)) := (Near.set _ (by omega)).trans (Near.set _ (by omega))
        have HD : Hid (_) := And.intro (DS.near (hds2.low (by omega)) hN9) (And.intro (Go.Proofs.YtilepbbcinbmhaaDoor.Src.below (hS3s) (hB9.mono hbw)) (Kb.below' (hK3s) hB9))
        clear hB9 hN9 hV3s hR3s
        go_wp2
        refine bodyPost_ret (v := .agg #[.int .i64 x, .slice a2 n2 k2]) (by simp [results, Tryd.results30, go_sem, q0, q1]) rfl ?_
        exact ⟨x, (a2, n2, k2), (l ++ [⟨mn, mv, mx, mm⟩]), rfl, by first | omega | (simp; omega) | simp, HD.out.1, HD.out.2.1.more (by omega), HD.out.2.2⟩
      · have hb2 : Below (World.heap Y1).size Y1 (World.alloc Y1 (.cells #[.string mn, .int .i64 mv, .int .i64 mx, .slice qa qn qk] 39)) := (Below.refl _ _).alloc (Nat.le_refl _) _
        have hQ2 := Qc.new Y1 (.string mn) (.int .i64 mv) (.int .i64 mx) (.slice qa qn qk) 39
        have hR2 := hR1.below hb2 hR1.lt
        have hV2 := hV1.below hb2 hV1.lt
        have hO2 := hO1.below hb2 (Nat.le_refl _)
        have hD2 := hD1.kz (Kz.below _ hb2)
        have hS2 := hS1.below (hb2.mono hS1.2.1)
        have hK2 := hK1.below hb2
        have hq2 := hq1.kz (Kz.below _ hb2)
        go_simp
        generalize World.alloc Y1 (.cells #[.string mn, .int .i64 mv, .int .i64 mx, .slice qa qn qk] 39) = Y2 at *
        refine hK.out _ _ hV2.1.1 (fun hHeld => ?_)
        clear hK K
        clear hR1 hV1 hO1 hD1 hS1 hK1
        refine wpAnyH_ready (rs := [1]) (by kernel_rfl) (by simp) ?_
        refine AllReadyH.cons rfl (fun K hK => ?_) AllReadyH.nil
        have cL := hV2.1.2
        dsimp only at cL
        go_simp
        refine hK.out _ _ hV2.1.1 (fun hHeld => ?_)
        clear hK K
        refine wpAnyH_ready (rs := [5]) (by kernel_rfl) (by simp) ?_
        refine AllReadyH.cons rfl (fun K hK => ?_) AllReadyH.nil
        refine step_appX rfl _ _ rfl (w.heap.size + 1 + 1) (.slice sa sn sc) ql (by rfl) hO2 _ (.string mn, .int .i64 mv, .int .i64 mx, .slice qa qn qk) (by rfl) hQ2 ⟨rfl, rfl, rfl, rfl⟩ (by have := HQL.out; omega) (by have := hR2.lt; have := hV2.lt; have := HGV.out.1; omega) ?_
        intro v2 Y3 hO3 hg3
        obtain ⟨a2, n2, k2, rfl⟩ : ∃ a n c, v2 = Value.slice a n c := by obtain ⟨a, c, e, -⟩ := OwnX.form hO3; exact ⟨a, _, c, e⟩
        have hKz : Kz (w.heap.size + 1 + 1) isN _ Y3 := hO2.kz isN hg3 hD2.first h0
        have hB : Below (w.heap.size + 1 + 1) _ Y3 := (Below.refl _ _).grown hg3 (by have := hR2.lt; have := hV2.lt; have := HGV.out.1; omega) (fun g hg => (World.ownsRow.lt hO2 g hg).1)
        have hR3 := hR2.below hB (by omega)
        have hV3 := hV2.grown hg3 (fun e => by have := hgv _ e.symm; omega)
        have hD3 := (hD2.kz hKz).snoc ⟨mn, mv, mx, mm⟩ (qa, qn, qk) (hq2.kz hKz) ⟨hmn, hml⟩
        have hS3 := hS2.below (hB.mono (by omega))
        have hK3 := hK2.below' (hB.mono (by omega))
        refine hK.out _ _ hV3.1.1 (fun hHeld => ?_)
        clear hK K
        clear hB hKz hg3
        clear hR2 hV2 hO2 hD2 hS2 hK2
        refine wpAnyH_take (i := 6) (v := ?_) rfl (by kernel_rfl) (by kernel_rfl) (by kernel_rfl) (fun _ _ _ h => h) (Or.inl ⟨by rfl, ?hy6⟩) (by assumption) ?ty6
        case hy6 => (intro w5 hSw; (try dsimp only at hSw); go_simp; all_goals with_reducible rfl)
        simp only [Act.put, List.getElem_toArray, List.getElem_cons_zero, List.getElem_cons_succ, List.setIfInBounds_toArray, List.set_cons_zero, List.set_cons_succ]
        obtain ⟨⟨c0, c1⟩, f0, f1⟩ := id hV3
        dsimp only at c0 c1
        refine wpAnyH_ready (rs := [7]) (by kernel_rfl) (by simp) ?_
        refine AllReadyH.cons rfl (fun K hK => ?_) AllReadyH.nil
        have hV3s := hV3.set1 (.slice a2 n2 k2)
        have hR3s := hR3.far gV 1 (.slice a2 n2 k2) hgR
        have hBs : Below w.heap.size Y3 (World.setCell Y3 ⟨gV, 1, none⟩ (.slice a2 n2 k2)) := (Below.refl _ _).setCell (by simp; have := HGV.out.1; omega) _
        have hds2 := OwnX.ds (ownsRow_setCell_other (a := ⟨gV, 1, none⟩) hO3 (hO3.ne hD3 (by simp) c0) (.slice a2 n2 k2)) (hD3.setV (V := gV) (j := 1) (.slice a2 n2 k2) c0 c1)
        have hS3s := hS3.below (hBs.mono hbw)
        have hK3s := hK3.below' hBs
        clear hR3 hV3 hO3 hD3 hS3 hK3 hBs
        go_simp
        generalize World.setCell Y3 ⟨gV, 1, none⟩ (.slice a2 n2 k2) = Y at *
        refine hK.out _ _ hV3s.1.1 (fun hHeld => ?_)
        clear hK K
        clear c0 c1 f0 f1
        refine wpAnyH_done (by kernel_rfl) ?_ _
        clear hHeld
        obtain ⟨⟨v0, v1⟩, w0, w1⟩ := id hV3s
        obtain ⟨⟨z0, z1⟩, g0, g1⟩ := id hR3s
        dsimp only at v0 v1 z0 z1
        have hR9 := (hR3s.set0 (.int .i64 x)).set1 (.slice a2 n2 k2)
        obtain ⟨⟨q0, q1⟩, -, -⟩ := hR9
        dsimp only at q0 q1
        have hB9 : Below w.heap.size Y ((World.setCell Y ⟨w.heap.size, 0, none⟩ (.int .i64 x)).setCell ⟨w.heap.size, 1, none⟩ (.slice a2 n2 k2)) := ((Below.refl _ _).setCell (by simp) _).setCell (by simp) _
        have hN9 : Near (w.heap.size + 1) Y ((World.setCell Y ⟨w.heap.size, 0, none⟩ (.int .i64 x)).setCell ⟨w.heap.size, 1, none⟩ (.slice a2 n2 k2)) := (Near.set _ (by omega)).trans (Near.set _ (by omega))
        have HD : Hid (_) := And.intro (DS.near (hds2.low (by omega)) hN9) (And.intro (Go.Proofs.YtilepbbcinbmhaaDoor.Src.below (hS3s) (hB9.mono hbw)) (Kb.below' (hK3s) hB9))
        clear hB9 hN9 hV3s hR3s
        go_wp2
        refine bodyPost_ret (v := .agg #[.int .i64 x, .slice a2 n2 k2]) (by simp [results, Tryd.results30, go_sem, q0, q1]) rfl ?_
        exact ⟨x, (a2, n2, k2), (l ++ [⟨mn, mv, mx, mm⟩]), rfl, by first | omega | (simp; omega) | simp, HD.out.1, HD.out.2.1.more (by omega), HD.out.2.2⟩
  by_cases hr2 : r = 2
  · subst hr2
    obtain ⟨i0, hi, hz0, hz1, hz2⟩ := info_parts infoBox
    have HZ : Hid (w.heap.size + 1 ≤ Y3.heap.size ∧ gV < Y3.heap.size) := ⟨by have := HGV.out.1; have := hV3.lt; omega, hV3.lt⟩
    have HF : Hid (∀ (Y5 : World) (_ : Y5.ownsRow Y3.heap.size 39 4 (.slice (some ⟨Y3.heap.size, 0, none⟩) 4 4) 4 (madeCells #[.string ByteArray.empty, .int .i64 0, .int .i64 0, .slice none 0 0] (4 * 4)).toList) (_ : Y3.grownBy Y5 none), DS (gV + 1) Y5 (some ⟨Y3.heap.size, 0, none⟩, 4, 4) (List.replicate 4 ⟨ByteArray.empty, 0, 0, []⟩) ∧ Below Y3.heap.size Y3 Y5) := fun Y5 h hg => ⟨(made_ds h).low HZ.out.2, (Below.refl _ _).grown hg (Nat.le_refl _) (by intro k hk; cases hk)⟩
    clear c0 c1 f0 f1 z0 z1 g0 g1 hO3 hD3 hT3
    go_wp2_with (at_make; refine wpList_make_full _ rfl _ _ 31 rfl Y3.heap.size 39 i0 (.agg #[.string ByteArray.empty, .int .i64 0, .int .i64 0, .slice none 0 0]) 4 Tryd.underlying31 hi hz0 hz1 .i64 .i64 _ _ 4 rfl rfl rfl rfl (by rw [hz2]; omega) (by decide) (Nat.le_refl _) ?_; intro Y5 hown5 hgrow5; obtain ⟨hd5, hb5⟩ := HF.out Y5 hown5 hgrow5; have hV5 := hV3.below hb5 hV3.lt; have hR5 := hR3.below hb5 hR3.lt; have hS5 := hS3.below (hb5.mono hS3.2.1); have hK5 := hK3.below hb5; clear hV3 hR3 hS3 hK3 hown5 hgrow5 hb5 HF HZ; generalize hg7 : Y3.heap.size = g7 at *; clear hg7; obtain ⟨⟨c0, c1⟩, f0, f1⟩ := id hV5; dsimp only at c0 c1; have hV6 := hV5.set1 (.slice (some ⟨g7, 0, none⟩) 4 4); have hR6 := hR5.far gV 1 (.slice (some ⟨g7, 0, none⟩) 4 4) hgR; have hd6 := hd5.near (Near.set (g := gV) (j := 1) (.slice (some ⟨g7, 0, none⟩) 4 4) (by omega)); have hB6 : Below w.heap.size Y5 (Y5.setCell ⟨gV, 1, none⟩ (.slice (some ⟨g7, 0, none⟩) 4 4)) := (Below.refl _ _).setCell (by simp; have := HGV.out.1; omega) _; have hS6 := hS5.below (hB6.mono hbw); have hK6 := hK5.below' hB6; clear hR5 hd5 hS5 hK5 hB6; obtain ⟨⟨v0, v1⟩, w0, w1⟩ := id hV6; obtain ⟨⟨z0, z1⟩, g0, g1⟩ := id hR6; dsimp only at v0 v1 z0 z1; have hR9 := (hR6.set0 (.int .i64 x)).set1 (.slice (some ⟨g7, 0, none⟩) 4 4); obtain ⟨⟨q0, q1⟩, -, -⟩ := hR9; dsimp only at q0 q1; have hB9 : Below w.heap.size (Y5.setCell ⟨gV, 1, none⟩ (.slice (some ⟨g7, 0, none⟩) 4 4)) ((World.setCell (Y5.setCell ⟨gV, 1, none⟩ (.slice (some ⟨g7, 0, none⟩) 4 4)) ⟨w.heap.size, 0, none⟩ (.int .i64 x)).setCell ⟨w.heap.size, 1, none⟩ (.slice (some ⟨g7, 0, none⟩) 4 4)) := ((Below.refl _ _).setCell (by simp) _).setCell (by simp) _; have hN9 : Near (w.heap.size + 1) (Y5.setCell ⟨gV, 1, none⟩ (.slice (some ⟨g7, 0, none⟩) 4 4)) ((World.setCell (Y5.setCell ⟨gV, 1, none⟩ (.slice (some ⟨g7, 0, none⟩) 4 4)) ⟨w.heap.size, 0, none⟩ (.int .i64 x)).setCell ⟨w.heap.size, 1, none⟩ (.slice (some ⟨g7, 0, none⟩) 4 4)) := (Near.set _ (by omega)).trans (Near.set _ (by omega)); have HD : Hid (_) := And.intro (DS.near (hd6.low (by have := HGV.out.1; omega)) hN9) (And.intro (Go.Proofs.YtilepbbcinbmhaaDoor.Src.below (hS6) (hB9.mono hbw)) (Kb.below' (hK6) hB9)); clear hB9 hN9 hV6 hR6)
    refine bodyPost_ret (v := .agg #[.int .i64 x, .slice (some ⟨g7, 0, none⟩) 4 4]) (by simp [results, Tryd.results30, go_sem, q0, q1]) rfl ?_
    exact ⟨x, (some ⟨g7, 0, none⟩, 4, 4), (List.replicate 4 ⟨ByteArray.empty, 0, 0, []⟩), rfl, by first | omega | (simp; omega) | simp, HD.out.1, HD.out.2.1.more (by omega), HD.out.2.2⟩
  · have e0 : (r == 0) = false := by simpa using hr0
    have e1 : (r == 1) = false := by simpa using hr1
    have e2 : (r == 2) = false := by simpa using hr2
    obtain ⟨⟨v0, v1⟩, w0, w1⟩ := id hV3
    obtain ⟨⟨z0, z1⟩, g0, g1⟩ := id hR3
    dsimp only at v0 v1 z0 z1
    have hR9 := (hR3.set0 (.int .i64 x)).set1 (.slice sa sn sc)
    obtain ⟨⟨q0, q1⟩, -, -⟩ := hR9
    dsimp only at q0 q1
    have hB9 : Below w.heap.size Y3 ((World.setCell Y3 ⟨w.heap.size, 0, none⟩ (.int .i64 x)).setCell ⟨w.heap.size, 1, none⟩ (.slice sa sn sc)) := ((Below.refl _ _).setCell (by simp) _).setCell (by simp) _
    have hN9 : Near (w.heap.size + 1) Y3 ((World.setCell Y3 ⟨w.heap.size, 0, none⟩ (.int .i64 x)).setCell ⟨w.heap.size, 1, none⟩ (.slice sa sn sc)) := (Near.set _ (by omega)).trans (Near.set _ (by omega))
    have HD : Hid (_) := And.intro (DS.near ((hds.low (by omega)).near (hT3.near (by omega))) hN9) (And.intro (Go.Proofs.YtilepbbcinbmhaaDoor.Src.below (hS3) (hB9.mono hbw)) (Kb.below' (hK3) hB9))
    clear hB9 hN9 hV3 hR3
    go_wp2
    refine bodyPost_ret (v := .agg #[.int .i64 x, .slice sa sn sc]) (by simp [results, Tryd.results30, go_sem, q0, q1]) rfl ?_
    exact ⟨x, (sa, sn, sc), l, rfl, by first | omega | (simp; omega) | simp, HD.out.1, HD.out.2.1.more (by omega), HD.out.2.2⟩
end Go.Proofs.YtilepbbcinbmhaaDoor
