/- The draw of a mailbox; no conditions beyond those that each fact names. -/
import Derived.Test.YtilepbbcinbmhaaDoorDr8
namespace Go.Proofs.YtilepbbcinbmhaaDoor
open Go.RowKit
set_option linter.unusedVariables false

theorem OwnM.low {w : World} {B C : Nat} {v : Value} {l : List Qd} (h : OwnM w B v l) (hC : C ≤ B) : OwnM w C v l := by
  refine ⟨h.1, ?_⟩
  rcases h.2 with h' | ⟨g, cap, cur, h1, h2, h3, h4⟩
  · exact .inl h'
  · exact .inr ⟨g, cap, cur, h1, by omega, h3, h4⟩
theorem DM.low {lo lo' : Nat} {w : World} {ql : List Qd} {l : List Msg} (h : DM lo w ql l) (hl : lo' ≤ lo) : DM lo' w ql l := ⟨h.1, fun j hj => by obtain ⟨s, e, hd, hn⟩ := h.2 j hj; exact ⟨s, e, hd.low hl, hn⟩⟩
/-- How the draw of a mailbox ends. -/
def BoxEnd (B b M : Nat) (name : ByteArray) (val : Int) (w : World) (e : Ending) (w' : World) : Prop := ∃ (x : Bx) (s : SlQ), e = .returned (bxX x s) ∧ x.n = name ∧ x.v = val ∧ (1 ≤ x.x ∧ x.x ≤ 7) ∧ x.m.length ≤ 3 ∧ DR (w.heap.size + 1) w' s x.m ∧ Go.Proofs.YtilepbbcinbmhaaDoor.Src w' B b M ∧ Kb b w w' ∧ ∃ ql, OwnM w' (w.heap.size + 1) (slW s) ql ∧ DM (w.heap.size + 1) w' ql x.m ∧ (ql = [] → slW s = .slice none 0 0)

set_option maxHeartbeats 3200000 in
set_option maxRecDepth 100000 in
theorem l7DrawBox_any (B b M : Nat) (name : ByteArray) (val : Int) (w : World) (hs : Go.Proofs.YtilepbbcinbmhaaDoor.Src w B b M) (hM : M ≤ 60000) :
    Calls Tryd.prog 62 #[.pointer (some ⟨b, 0, none⟩), .string name, .int .i64 val] w fun e w' => BoxEnd B b (M + 700) name val w e w' := by
  have hbw : b < w.heap.size := hs.2.1
  have hbA : Below w.heap.size w ((w.alloc (.cells #[.string ⟨#[]⟩, .int .i64 0, .int .i64 0, .slice none 0 0] 39)).alloc (.cells #[.string name, .int .i64 val, .int .i64 1, .slice none 0 0] 39)) := ((Below.refl _ _).alloc (Nat.le_refl _) _).alloc (by simp) _
  have hzA : ((w.alloc (.cells #[.string ⟨#[]⟩, .int .i64 0, .int .i64 0, .slice none 0 0] 39)).alloc (.cells #[.string name, .int .i64 val, .int .i64 1, .slice none 0 0] 39)).heap.size = w.heap.size + 2 := by simp
  have hR : Qf ((w.alloc (.cells #[.string ⟨#[]⟩, .int .i64 0, .int .i64 0, .slice none 0 0] 39)).alloc (.cells #[.string name, .int .i64 val, .int .i64 1, .slice none 0 0] 39)) w.heap.size (.string ⟨#[]⟩, .int .i64 0, .int .i64 0, .slice none 0 0) := (Qf.new w _ _ _ _ _).below ((Below.refl _ _).alloc (Nat.le_refl _) _) (by simp)
  have hV : Qf ((w.alloc (.cells #[.string ⟨#[]⟩, .int .i64 0, .int .i64 0, .slice none 0 0] 39)).alloc (.cells #[.string name, .int .i64 val, .int .i64 1, .slice none 0 0] 39)) (w.heap.size + 1) (.string name, .int .i64 val, .int .i64 1, .slice none 0 0) := by
    have h := Qf.new (w.alloc (.cells #[.string ⟨#[]⟩, .int .i64 0, .int .i64 0, .slice none 0 0] 39)) (.string name) (.int .i64 val) (.int .i64 1) (.slice none 0 0) 39
    simpa using h
  have hsA := hs.below (hbA.mono hbw)
  have hKA : Kb b w ((w.alloc (.cells #[.string ⟨#[]⟩, .int .i64 0, .int .i64 0, .slice none 0 0] 39)).alloc (.cells #[.string name, .int .i64 val, .int .i64 1, .slice none 0 0] 39)) := (Kb.refl b w).below hbA
  go_enter Tryd.func62, Tryd.ntmps62
  go_wp2_with fail
  generalize (w.alloc (.cells #[.string ⟨#[]⟩, .int .i64 0, .int .i64 0, .slice none 0 0] 39)).alloc (.cells #[.string name, .int .i64 val, .int .i64 1, .slice none 0 0] 39) = WA at *
  refine (l1Next_any B b M 4 WA hsA (by omega) (by omega) (by omega)).mono ?_
  rintro e w1 ⟨r, rfl, r0, r1, -, hs1, hg1⟩
  obtain ⟨n, rfl⟩ := Int.eq_ofNat_of_zero_le r0
  have hn : n ≤ 3 := by have := r1 (by omega); omega
  have hK1 := hKA.grown hg1
  have hR1 := hR.grown hg1 (fun e => by injection e with e; omega)
  have hV1 := hV.grown hg1 (fun e => by injection e with e; omega)
  have hz1 : w.heap.size + 2 ≤ w1.heap.size := by rw [← hzA]; exact hg1.size
  have hs1 := hs1.more (show M + 1 ≤ M + 1 + 220 * 0 by omega)
  clear r0 r1 hg1 hKA hR hV hsA hbA hzA
  go_wp2_with fail
  go_loopw [8] (fun k wr => ∃ (i : Nat) (x : Int) (v : Value) (ql : List Qd) (l : List Msg), i ≤ n ∧ k = .int .i64 ((n - i : Nat) : Int) ∧ (1 ≤ x ∧ x ≤ 1 + 2 * (i : Int)) ∧ l.length = i ∧ Qf wr w.heap.size (.string ⟨#[]⟩, .int .i64 0, .int .i64 0, .slice none 0 0) ∧ Qf wr (w.heap.size + 1) (.string name, .int .i64 val, .int .i64 x, v) ∧ OwnM wr (w.heap.size + 2) v ql ∧ DM (w.heap.size + 2) wr ql l ∧ (ql = [] → v = .slice none 0 0) ∧ Go.Proofs.YtilepbbcinbmhaaDoor.Src wr B b (M + 1 + 220 * i) ∧ Kb b w wr ∧ w.heap.size + 2 ≤ wr.heap.size)
    (fun k _ => (intOf k).toNat)
  case atStart => exact ⟨0, 1, .slice none 0 0, [], [], Nat.zero_le _, rfl, by omega, rfl, hR1, hV1, OwnM.nil _ _, DM.nil _ _, fun _ => rfl, hs1, hK1, hz1⟩
  case round =>
    obtain ⟨i, x, v, ql, l, hi, rfl, hx, hli, hR, hV, hO, hD, h0, hS, hK, hz⟩ := hrel
    clear hR1 hV1 hs1 hK1 hz1
    obtain ⟨av, cv, hv, -, hcm⟩ := id hO.form
    have HQ : Hid (ql.length = i) := by show _ = _; rw [hD.1, hli]
    rw [HQ.out] at hv
    subst hv
    by_cases hin : i < n
    · have hj : (0 : Int) < ((n - i : Nat) : Int) := by omega
      have hne : ∀ g, (Value.slice av i cv).ownBlock = some g → w.heap.size + 2 ≤ g := fun g hg => (World.ownsRow.lt hO g hg).1
      obtain ⟨⟨c0, c1, c2, c3⟩, f0, f1, f2, f3⟩ := id hV
      dsimp only at c0 c1 c2 c3
      go_wp2_with fail
      refine wp_region_held_drew (S := fun w' => w'.cell? ⟨w.heap.size + 1, 2, none⟩ = some (.int .i64 x)) (by kernel_rfl) ?hS1 (fun hHeld => ?_)
      case hS1 => exact c2
      refine wpAnyH_take (i := 0) (v := ?_) rfl (by kernel_rfl) (by kernel_rfl) (by kernel_rfl) (fun _ _ _ h => h) (Or.inl ⟨by rfl, ?hy2⟩) (by assumption) ?ty2
      case hy2 => (intro w5 hSw; (try dsimp only at hSw); go_simp; all_goals with_reducible rfl)
      simp only [Act.put, List.getElem_toArray, List.getElem_cons_zero, List.setIfInBounds_toArray, List.set_cons_zero, List.set_cons_succ]
      refine wpAnyH_take (i := 2) (v := ?_) rfl (by kernel_rfl) (by kernel_rfl) (by kernel_rfl) (fun _ _ _ h => h) (Or.inl ⟨by rfl, ?hy3⟩) (by assumption) ?ty3
      case hy3 => (intro w5 hSw; (try dsimp only at hSw); go_simp; all_goals with_reducible rfl)
      simp only [Act.put, List.getElem_toArray, List.getElem_cons_zero, List.getElem_cons_succ, List.setIfInBounds_toArray, List.set_cons_zero, List.set_cons_succ]
      refine wpAnyH_take (i := 3) (v := ?_) rfl (by kernel_rfl) (by kernel_rfl) (by kernel_rfl) (fun _ _ _ h => h) (Or.inl ⟨by rfl, ?hy4⟩) (by assumption) ?ty4
      case hy4 => (intro w5 hSw; (try dsimp only at hSw); go_simp; all_goals with_reducible rfl)
      simp only [Act.put, List.getElem_toArray, List.getElem_cons_zero, List.getElem_cons_succ, List.setIfInBounds_toArray, List.set_cons_zero, List.set_cons_succ]
      refine wpAnyH_take (i := 4) (v := ?_) rfl (by kernel_rfl) (by kernel_rfl) (by kernel_rfl) (fun _ _ _ h => h) (Or.inl ⟨by rfl, ?hy5⟩) (by assumption) ?ty5
      case hy5 => (intro w5 hSw; (try dsimp only at hSw); go_simp; all_goals with_reducible rfl)
      simp only [Act.put, List.getElem_toArray, List.getElem_cons_zero, List.getElem_cons_succ, List.setIfInBounds_toArray, List.set_cons_zero, List.set_cons_succ]
      have hb0 : Below wr.heap.size wr wr.drew := (Below.refl _ _).drew
      have hR0 := hR.below hb0 hR.lt
      have hV0 := hV.below hb0 hV.lt
      have hO0 := hO.below hb0 (Nat.le_refl _)
      have hD0 := hD.kz (Kz.below _ hb0)
      have hS0 := hS.below (hb0.mono hS.2.1)
      have hK0 := hK.below hb0
      have hz0 := Nat.le_trans hz hb0.size
      clear hR hV hO hD hS hK hz hb0 c0 c1 c2 c3 f0 f1 f2 f3
      generalize wr.drew = Y0 at *
      refine wpAnyH_ready (rs := [1, 5]) (by kernel_rfl) (by simp) ?_
      refine AllReadyH.cons rfl (fun K hK => ?_) (AllReadyH.cons rfl (fun K hK => ?_) AllReadyH.nil)
      · have cL := hV0.1.2.2.2
        dsimp only at cL
        go_simp
        refine hK.out _ _ hV0.1.2.2.1 (fun hHeld => ?_)
        clear hK K
        refine wpAnyH_ready (rs := [5]) (by kernel_rfl) (by simp) ?_
        refine AllReadyH.cons rfl (fun K hK => ?_) AllReadyH.nil
        go_simp
        refine (l7DrawMessage_any B b (M + 1 + 220 * i) x _ hS0 (by omega)).mono ?_
        rintro e Y1 ⟨m, s, rfl, hu, hd1, hl, hS1, hk1⟩
        obtain ⟨mu, mf, md, mb⟩ := m
        obtain ⟨sa, sn, sc⟩ := s
        dsimp only [msX, slW] at hu hd1 hl ⊢
        replace hu := hu.symm
        subst hu
        have hR1 := hR0.grown hk1 (fun e => by injection e with e; omega)
        have hV1 := hV0.grown hk1 (fun e => by injection e with e; omega)
        have hO1 := hO0.kb hk1 (by omega)
        have hD1 := hD0.kz (Kz.kb hk1 (by omega))
        have hK1 := hK0.trans hk1
        have hz1 := Nat.le_trans hz0 (World.grownBy.size hk1)
        have hd1 := hd1.low (lo' := w.heap.size + 2) (by have := hz0; omega)
        refine hK.out _ _ hV1.1.2.2.1 (fun hHeld => ?_)
        clear hK K
        clear hR0 hV0 hO0 hD0 hS0 hK0 hz0
        refine wpAnyH_ready (rs := [6]) (by kernel_rfl) (by simp) ?_
        refine AllReadyH.cons rfl (fun K hK => ?_) AllReadyH.nil
        have hb2 : Below (Y1).heap.size Y1 (World.alloc Y1 (.cells #[.int .i64 x, .int .i64 mf, .int .i64 md, .slice sa sn sc] 44)) := (Below.refl _ _).alloc (Nat.le_refl _) _
        have hQ2 := Qc.new (Y1) (.int .i64 x) (.int .i64 mf) (.int .i64 md) (.slice sa sn sc) 44
        have hR2 := hR1.below hb2 hR1.lt
        have hV2 := hV1.below hb2 hV1.lt
        have hO2 := hO1.below hb2 (Nat.le_refl _)
        have hD2 := hD1.kz (Kz.below _ hb2)
        have hS2 := hS1.below (hb2.mono hS1.2.1)
        have hK2 := hK1.below hb2
        have hz2 := Nat.le_trans hz1 hb2.size
        have hd2 := hd1.kz (Kz.below _ hb2)
        go_simp
        skip
        generalize World.alloc Y1 (.cells #[.int .i64 x, .int .i64 mf, .int .i64 md, .slice sa sn sc] 44) = Y2 at *
        refine hK.out _ _ hV2.1.2.2.1 (fun hHeld => ?_)
        clear hK K
        clear hR1 hV1 hO1 hD1 hS1 hK1 hz1
        refine wpAnyH_ready (rs := [7]) (by kernel_rfl) (by simp) ?_
        refine AllReadyH.cons rfl (fun K hK => ?_) AllReadyH.nil
        refine step_appM rfl _ _ rfl (w.heap.size + 2) (.slice av i cv) ql (by rfl) hO2 _ (.int .i64 x, .int .i64 mf, .int .i64 md, .slice sa sn sc) (by rfl) hQ2 ⟨rfl, rfl, rfl, rfl⟩ (by have := HQ.out; omega) (by omega) ?_
        intro v2 Y3 hO3 hg3
        obtain ⟨a2, n2, k2, rfl⟩ : ∃ a n c, v2 = Value.slice a n c := by obtain ⟨a, c, e, -⟩ := OwnM.form hO3; exact ⟨a, _, c, e⟩
        have hKz3 : Kz (w.heap.size + 2) isU8 _ Y3 := hO2.kz isU8 hg3 hD2.first h0
        have hB3 : Below (w.heap.size + 2) _ Y3 := (Below.refl _ _).grown hg3 hz2 hne
        have hR3 := hR2.below hB3 (by omega)
        have hV3 := hV2.below hB3 (by omega)
        have hD3 := (hD2.kz hKz3).snoc ⟨x, mf, md, mb⟩ (sa, sn, sc) (hd2.kz hKz3) hl
        have hS3 := hS2.below (hB3.mono (by omega))
        have hK3 := hK2.below' (hB3.mono (by omega))
        have hz3 := Nat.le_trans hz2 hB3.size
        refine hK.out _ _ hV3.1.2.2.1 (fun hHeld => ?_)
        clear hK K hB3 hKz3 hg3
        clear hR2 hV2 hO2 hD2 hS2 hK2 hz2
        refine wpAnyH_take (i := 8) (v := ?_) rfl (by kernel_rfl) (by kernel_rfl) (by kernel_rfl) (fun _ _ _ h => h) (Or.inl ⟨by rfl, ?hy6⟩) (by assumption) ?ty6
        case hy6 => (intro w5 hSw; (try dsimp only at hSw); go_simp; all_goals with_reducible rfl)
        simp only [Act.put, List.getElem_toArray, List.getElem_cons_zero, List.getElem_cons_succ, List.setIfInBounds_toArray, List.set_cons_zero, List.set_cons_succ]
        obtain ⟨⟨c0, c1, c2, c3⟩, f0, f1, f2, f3⟩ := id hV3
        dsimp only at c0 c1 c2 c3
        refine wpAnyH_ready (rs := [9]) (by kernel_rfl) (by simp) ?_
        refine AllReadyH.cons rfl (fun K hK => ?_) AllReadyH.nil
        have hV3s := hV3.set3 (.slice a2 n2 k2)
        have hR3s := hR3.far (w.heap.size + 1) 3 (.slice a2 n2 k2) (by omega)
        have hO3s := hO3.set ⟨w.heap.size + 1, 3, none⟩ (by simp) (.slice a2 n2 k2)
        have hBs : Below w.heap.size Y3 (World.setCell Y3 ⟨w.heap.size + 1, 3, none⟩ (.slice a2 n2 k2)) := (Below.refl _ _).setCell (by simp) _
        have hD3s := hD3.kz (Kz.set (R := w.heap.size + 1) (j := 3) isU8 (.slice a2 n2 k2) (by omega))
        have hS3s := hS3.below (hBs.mono hbw)
        have hK3s := hK3.below' hBs
        have hz3s := Nat.le_trans hz3 hBs.size
        clear hR3 hV3 hO3 hD3 hS3 hK3 hz3 hBs
        go_simp
        generalize World.setCell Y3 ⟨w.heap.size + 1, 3, none⟩ (.slice a2 n2 k2) = Y at *
        refine hK.out _ _ hV3s.1.2.2.1 (fun hHeld => ?_)
        clear hK K c0 c1 c2 c3 f0 f1 f2 f3
        refine wpAnyH_done (by kernel_rfl) ?_ _
        clear hHeld
        have hq0 : ql ++ [((.int .i64 x, .int .i64 mf, .int .i64 md, .slice sa sn sc) : Qd)] ≠ [] := by simp
        obtain ⟨⟨c0, c1, c2, c3⟩, f0, f1, f2, f3⟩ := id hV3s
        dsimp only at c0 c1 c2 c3
        go_wp2_with fail
        refine wp_region_held_drew (S := fun _ => True) (by kernel_rfl) ?hS7 (fun hHeld => ?_)
        case hS7 => exact trivial
        refine wpAnyH_take (i := 0) (v := ?_) rfl (by kernel_rfl) (by kernel_rfl) (by kernel_rfl) (fun _ _ _ h => h) (Or.inl ⟨by rfl, ?hy8⟩) (by assumption) ?ty8
        case hy8 => (intro w5 hSw; (try dsimp only at hSw); go_simp; all_goals with_reducible rfl)
        simp only [Act.put, List.getElem_toArray, List.getElem_cons_zero, List.setIfInBounds_toArray, List.set_cons_zero, List.set_cons_succ]
        refine wpAnyH_take (i := 3) (v := ?_) rfl (by kernel_rfl) (by kernel_rfl) (by kernel_rfl) (fun _ _ _ h => h) (Or.inl ⟨by rfl, ?hy9⟩) (by assumption) ?ty9
        case hy9 => (intro w5 hSw; (try dsimp only at hSw); go_simp; all_goals with_reducible rfl)
        simp only [Act.put, List.getElem_toArray, List.getElem_cons_zero, List.getElem_cons_succ, List.setIfInBounds_toArray, List.set_cons_zero, List.set_cons_succ]
        refine wpAnyH_ready (rs := [1, 4]) (by kernel_rfl) (by simp) ?_
        refine AllReadyH.cons rfl (fun K hK => ?_) (AllReadyH.cons rfl (fun K hK => ?_) AllReadyH.nil)
        · have cL := hV3s.1.2.2.1
          dsimp only at cL
          go_simp
          refine hK.out _ _ trivial (fun hHeld => ?_)
          clear hK K
          refine wpAnyH_take (i := 2) (v := .int .i64 (x + 1)) rfl (by kernel_rfl) (by kernel_rfl) (by kernel_rfl) (fun _ _ _ h => h) (Or.inl ⟨by rfl, ?hy10⟩) (by assumption) ?ty10
          case hy10 => (intro w5 hSw; (try dsimp only at hSw); go_simp; first | (all_goals with_reducible rfl) | (rw [Go.IntWalk.i64_left, Go.IntWalk.wrap64_in _ (by omega)]) | (simp; omega))
          simp only [Act.put, List.getElem_toArray, List.getElem_cons_zero, List.getElem_cons_succ, List.setIfInBounds_toArray, List.set_cons_zero, List.set_cons_succ]
          refine wpAnyH_ready (rs := [4]) (by kernel_rfl) (by simp) ?_
          refine AllReadyH.cons rfl (fun K hK => ?_) AllReadyH.nil
          go_simp
          refine (l1Next_any B b _ 2 _ (hS3s.below (Below.refl _ _).drew) (by omega) (by omega) (by omega)).mono ?_
          rintro e y6 ⟨r6, rfl, r0, r1, -, hS6, hk6⟩
          have hk6 : Kb b Y y6 := (Kb.refl b Y).below (Below.refl _ _).drew |>.grown hk6
          have hR6 := hR3s.grown hk6 (fun e => by injection e with e; omega)
          have hV6 := hV3s.grown hk6 (fun e => by injection e with e; omega)
          have hO6 := hO3s.kb hk6 (by omega)
          have hD6 := hD3s.kz (Kz.kb hk6 (by omega))
          have hK6 := hK3s.trans hk6
          have hz6 := Nat.le_trans hz3s (World.grownBy.size hk6)
          have r1 := r1 (by omega)
          refine hK.out _ _ trivial (fun hHeld => ?_)
          clear hK K
          refine wpAnyH_take (i := 5) (v := .int .i64 (x + 1 + r6)) rfl (by kernel_rfl) (by kernel_rfl) (by kernel_rfl) (fun _ _ _ h => h) (Or.inl ⟨by rfl, ?hy11⟩) (by assumption) ?ty11
          case hy11 => (intro w5 hSw; (try dsimp only at hSw); go_simp; first | (all_goals with_reducible rfl) | (rw [Go.IntWalk.i64_left, Go.IntWalk.wrap64_in _ (by omega)]) | (simp; omega))
          simp only [Act.put, List.getElem_toArray, List.getElem_cons_zero, List.getElem_cons_succ, List.setIfInBounds_toArray, List.set_cons_zero, List.set_cons_succ]
          refine wpAnyH_take (i := 6) (v := ?_) rfl (by kernel_rfl) (by kernel_rfl) (by kernel_rfl) (fun _ _ _ h => h) (Or.inl ⟨by rfl, ?hy12⟩) (by assumption) ?ty12
          case hy12 => (intro w5 hSw; (try dsimp only at hSw); go_simp; all_goals with_reducible rfl)
          simp only [Act.put, List.getElem_toArray, List.getElem_cons_zero, List.getElem_cons_succ, List.setIfInBounds_toArray, List.set_cons_zero, List.set_cons_succ]
          obtain ⟨⟨c0, c1, c2, c3⟩, f0, f1, f2, f3⟩ := id hV6
          dsimp only at c0 c1 c2 c3
          refine wpAnyH_ready (rs := [7]) (by kernel_rfl) (by simp) ?_
          refine AllReadyH.cons rfl (fun K hK => ?_) AllReadyH.nil
          have hV7 := hV6.set2 (.int .i64 (x + 1 + r6))
          have hR7 := hR6.far (w.heap.size + 1) 2 (.int .i64 (x + 1 + r6)) (by omega)
          have hO7 := hO6.set ⟨w.heap.size + 1, 2, none⟩ (by simp) (.int .i64 (x + 1 + r6))
          have hBs : Below w.heap.size y6 (World.setCell y6 ⟨w.heap.size + 1, 2, none⟩ (.int .i64 (x + 1 + r6))) := (Below.refl _ _).setCell (by simp) _
          have hD7 := hD6.kz (Kz.set (R := w.heap.size + 1) (j := 2) isU8 (.int .i64 (x + 1 + r6)) (by omega))
          have hS7 := (hS6.below (hBs.mono hbw)).more (show _ ≤ M + 1 + 220 * (i + 1) by omega)
          have hK7 := hK6.below' hBs
          have hz7 := Nat.le_trans hz6 hBs.size
          clear hR6 hV6 hO6 hD6 hS6 hK6 hz6 hBs
          go_simp
          generalize World.setCell y6 ⟨w.heap.size + 1, 2, none⟩ (.int .i64 (x + 1 + r6)) = Y7 at *
          refine hK.out _ _ trivial (fun hHeld => ?_)
          clear hK K c0 c1 c2 c3 f0 f1 f2 f3
          refine wpAnyH_done (by kernel_rfl) ?_ _
          clear hHeld
          go_wp2
          go_roundw
          case rel => exact ⟨i + 1, x + 1 + r6, .slice a2 n2 k2, ql ++ [(.int .i64 x, .int .i64 mf, .int .i64 md, .slice sa sn sc)], l ++ [⟨x, mf, md, mb⟩], by omega, by go_num, by omega, by simp [hli], hR7, hV7, hO7, hD7, fun e => absurd e hq0, hS7, hK7, hz7⟩
          case measure => simp [intOf]; omega
        · go_simp
          refine (l1Next_any B b _ 2 _ (hS3s.below (Below.refl _ _).drew) (by omega) (by omega) (by omega)).mono ?_
          rintro e y6 ⟨r6, rfl, r0, r1, -, hS6, hk6⟩
          have hk6 : Kb b Y y6 := (Kb.refl b Y).below (Below.refl _ _).drew |>.grown hk6
          have hR6 := hR3s.grown hk6 (fun e => by injection e with e; omega)
          have hV6 := hV3s.grown hk6 (fun e => by injection e with e; omega)
          have hO6 := hO3s.kb hk6 (by omega)
          have hD6 := hD3s.kz (Kz.kb hk6 (by omega))
          have hK6 := hK3s.trans hk6
          have hz6 := Nat.le_trans hz3s (World.grownBy.size hk6)
          have r1 := r1 (by omega)
          refine hK.out _ _ trivial (fun hHeld => ?_)
          clear hK K
          refine wpAnyH_ready (rs := [1]) (by kernel_rfl) (by simp) ?_
          refine AllReadyH.cons rfl (fun K hK => ?_) AllReadyH.nil
          have cL := hV6.1.2.2.1
          dsimp only at cL
          go_simp
          refine hK.out _ _ trivial (fun hHeld => ?_)
          clear hK K
          refine wpAnyH_take (i := 2) (v := .int .i64 (x + 1)) rfl (by kernel_rfl) (by kernel_rfl) (by kernel_rfl) (fun _ _ _ h => h) (Or.inl ⟨by rfl, ?hy13⟩) (by assumption) ?ty13
          case hy13 => (intro w5 hSw; (try dsimp only at hSw); go_simp; first | (all_goals with_reducible rfl) | (rw [Go.IntWalk.i64_left, Go.IntWalk.wrap64_in _ (by omega)]) | (simp; omega))
          simp only [Act.put, List.getElem_toArray, List.getElem_cons_zero, List.getElem_cons_succ, List.setIfInBounds_toArray, List.set_cons_zero, List.set_cons_succ]
          refine wpAnyH_take (i := 5) (v := .int .i64 (x + 1 + r6)) rfl (by kernel_rfl) (by kernel_rfl) (by kernel_rfl) (fun _ _ _ h => h) (Or.inl ⟨by rfl, ?hy14⟩) (by assumption) ?ty14
          case hy14 => (intro w5 hSw; (try dsimp only at hSw); go_simp; first | (all_goals with_reducible rfl) | (rw [Go.IntWalk.i64_left, Go.IntWalk.wrap64_in _ (by omega)]) | (simp; omega))
          simp only [Act.put, List.getElem_toArray, List.getElem_cons_zero, List.getElem_cons_succ, List.setIfInBounds_toArray, List.set_cons_zero, List.set_cons_succ]
          refine wpAnyH_take (i := 6) (v := ?_) rfl (by kernel_rfl) (by kernel_rfl) (by kernel_rfl) (fun _ _ _ h => h) (Or.inl ⟨by rfl, ?hy15⟩) (by assumption) ?ty15
          case hy15 => (intro w5 hSw; (try dsimp only at hSw); go_simp; all_goals with_reducible rfl)
          simp only [Act.put, List.getElem_toArray, List.getElem_cons_zero, List.getElem_cons_succ, List.setIfInBounds_toArray, List.set_cons_zero, List.set_cons_succ]
          obtain ⟨⟨c0, c1, c2, c3⟩, f0, f1, f2, f3⟩ := id hV6
          dsimp only at c0 c1 c2 c3
          refine wpAnyH_ready (rs := [7]) (by kernel_rfl) (by simp) ?_
          refine AllReadyH.cons rfl (fun K hK => ?_) AllReadyH.nil
          have hV7 := hV6.set2 (.int .i64 (x + 1 + r6))
          have hR7 := hR6.far (w.heap.size + 1) 2 (.int .i64 (x + 1 + r6)) (by omega)
          have hO7 := hO6.set ⟨w.heap.size + 1, 2, none⟩ (by simp) (.int .i64 (x + 1 + r6))
          have hBs : Below w.heap.size y6 (World.setCell y6 ⟨w.heap.size + 1, 2, none⟩ (.int .i64 (x + 1 + r6))) := (Below.refl _ _).setCell (by simp) _
          have hD7 := hD6.kz (Kz.set (R := w.heap.size + 1) (j := 2) isU8 (.int .i64 (x + 1 + r6)) (by omega))
          have hS7 := (hS6.below (hBs.mono hbw)).more (show _ ≤ M + 1 + 220 * (i + 1) by omega)
          have hK7 := hK6.below' hBs
          have hz7 := Nat.le_trans hz6 hBs.size
          clear hR6 hV6 hO6 hD6 hS6 hK6 hz6 hBs
          go_simp
          generalize World.setCell y6 ⟨w.heap.size + 1, 2, none⟩ (.int .i64 (x + 1 + r6)) = Y7 at *
          refine hK.out _ _ trivial (fun hHeld => ?_)
          clear hK K c0 c1 c2 c3 f0 f1 f2 f3
          refine wpAnyH_done (by kernel_rfl) ?_ _
          clear hHeld
          go_wp2
          go_roundw
          case rel => exact ⟨i + 1, x + 1 + r6, .slice a2 n2 k2, ql ++ [(.int .i64 x, .int .i64 mf, .int .i64 md, .slice sa sn sc)], l ++ [⟨x, mf, md, mb⟩], by omega, by go_num, by omega, by simp [hli], hR7, hV7, hO7, hD7, fun e => absurd e hq0, hS7, hK7, hz7⟩
          case measure => simp [intOf]; omega
      · go_simp
        refine (l7DrawMessage_any B b (M + 1 + 220 * i) x _ hS0 (by omega)).mono ?_
        rintro e Y1 ⟨m, s, rfl, hu, hd1, hl, hS1, hk1⟩
        obtain ⟨mu, mf, md, mb⟩ := m
        obtain ⟨sa, sn, sc⟩ := s
        dsimp only [msX, slW] at hu hd1 hl ⊢
        replace hu := hu.symm
        subst hu
        have hR1 := hR0.grown hk1 (fun e => by injection e with e; omega)
        have hV1 := hV0.grown hk1 (fun e => by injection e with e; omega)
        have hO1 := hO0.kb hk1 (by omega)
        have hD1 := hD0.kz (Kz.kb hk1 (by omega))
        have hK1 := hK0.trans hk1
        have hz1 := Nat.le_trans hz0 (World.grownBy.size hk1)
        have hd1 := hd1.low (lo' := w.heap.size + 2) (by have := hz0; omega)
        refine hK.out _ _ hV1.1.2.2.1 (fun hHeld => ?_)
        clear hK K
        clear hR0 hV0 hO0 hD0 hS0 hK0 hz0
        refine wpAnyH_ready (rs := [1, 6]) (by kernel_rfl) (by simp) ?_
        refine AllReadyH.cons rfl (fun K hK => ?_) (AllReadyH.cons rfl (fun K hK => ?_) AllReadyH.nil)
        · have cL := hV1.1.2.2.2
          dsimp only at cL
          go_simp
          refine hK.out _ _ hV1.1.2.2.1 (fun hHeld => ?_)
          clear hK K
          refine wpAnyH_ready (rs := [6]) (by kernel_rfl) (by simp) ?_
          refine AllReadyH.cons rfl (fun K hK => ?_) AllReadyH.nil
          have hb2 : Below (Y1).heap.size Y1 (World.alloc Y1 (.cells #[.int .i64 x, .int .i64 mf, .int .i64 md, .slice sa sn sc] 44)) := (Below.refl _ _).alloc (Nat.le_refl _) _
          have hQ2 := Qc.new (Y1) (.int .i64 x) (.int .i64 mf) (.int .i64 md) (.slice sa sn sc) 44
          have hR2 := hR1.below hb2 hR1.lt
          have hV2 := hV1.below hb2 hV1.lt
          have hO2 := hO1.below hb2 (Nat.le_refl _)
          have hD2 := hD1.kz (Kz.below _ hb2)
          have hS2 := hS1.below (hb2.mono hS1.2.1)
          have hK2 := hK1.below hb2
          have hz2 := Nat.le_trans hz1 hb2.size
          have hd2 := hd1.kz (Kz.below _ hb2)
          go_simp
          skip
          generalize World.alloc Y1 (.cells #[.int .i64 x, .int .i64 mf, .int .i64 md, .slice sa sn sc] 44) = Y2 at *
          refine hK.out _ _ hV2.1.2.2.1 (fun hHeld => ?_)
          clear hK K
          clear hR1 hV1 hO1 hD1 hS1 hK1 hz1
          refine wpAnyH_ready (rs := [7]) (by kernel_rfl) (by simp) ?_
          refine AllReadyH.cons rfl (fun K hK => ?_) AllReadyH.nil
          refine step_appM rfl _ _ rfl (w.heap.size + 2) (.slice av i cv) ql (by rfl) hO2 _ (.int .i64 x, .int .i64 mf, .int .i64 md, .slice sa sn sc) (by rfl) hQ2 ⟨rfl, rfl, rfl, rfl⟩ (by have := HQ.out; omega) (by omega) ?_
          intro v2 Y3 hO3 hg3
          obtain ⟨a2, n2, k2, rfl⟩ : ∃ a n c, v2 = Value.slice a n c := by obtain ⟨a, c, e, -⟩ := OwnM.form hO3; exact ⟨a, _, c, e⟩
          have hKz3 : Kz (w.heap.size + 2) isU8 _ Y3 := hO2.kz isU8 hg3 hD2.first h0
          have hB3 : Below (w.heap.size + 2) _ Y3 := (Below.refl _ _).grown hg3 hz2 hne
          have hR3 := hR2.below hB3 (by omega)
          have hV3 := hV2.below hB3 (by omega)
          have hD3 := (hD2.kz hKz3).snoc ⟨x, mf, md, mb⟩ (sa, sn, sc) (hd2.kz hKz3) hl
          have hS3 := hS2.below (hB3.mono (by omega))
          have hK3 := hK2.below' (hB3.mono (by omega))
          have hz3 := Nat.le_trans hz2 hB3.size
          refine hK.out _ _ hV3.1.2.2.1 (fun hHeld => ?_)
          clear hK K hB3 hKz3 hg3
          clear hR2 hV2 hO2 hD2 hS2 hK2 hz2
          refine wpAnyH_take (i := 8) (v := ?_) rfl (by kernel_rfl) (by kernel_rfl) (by kernel_rfl) (fun _ _ _ h => h) (Or.inl ⟨by rfl, ?hy16⟩) (by assumption) ?ty16
          case hy16 => (intro w5 hSw; (try dsimp only at hSw); go_simp; all_goals with_reducible rfl)
          simp only [Act.put, List.getElem_toArray, List.getElem_cons_zero, List.getElem_cons_succ, List.setIfInBounds_toArray, List.set_cons_zero, List.set_cons_succ]
          obtain ⟨⟨c0, c1, c2, c3⟩, f0, f1, f2, f3⟩ := id hV3
          dsimp only at c0 c1 c2 c3
          refine wpAnyH_ready (rs := [9]) (by kernel_rfl) (by simp) ?_
          refine AllReadyH.cons rfl (fun K hK => ?_) AllReadyH.nil
          have hV3s := hV3.set3 (.slice a2 n2 k2)
          have hR3s := hR3.far (w.heap.size + 1) 3 (.slice a2 n2 k2) (by omega)
          have hO3s := hO3.set ⟨w.heap.size + 1, 3, none⟩ (by simp) (.slice a2 n2 k2)
          have hBs : Below w.heap.size Y3 (World.setCell Y3 ⟨w.heap.size + 1, 3, none⟩ (.slice a2 n2 k2)) := (Below.refl _ _).setCell (by simp) _
          have hD3s := hD3.kz (Kz.set (R := w.heap.size + 1) (j := 3) isU8 (.slice a2 n2 k2) (by omega))
          have hS3s := hS3.below (hBs.mono hbw)
          have hK3s := hK3.below' hBs
          have hz3s := Nat.le_trans hz3 hBs.size
          clear hR3 hV3 hO3 hD3 hS3 hK3 hz3 hBs
          go_simp
          generalize World.setCell Y3 ⟨w.heap.size + 1, 3, none⟩ (.slice a2 n2 k2) = Y at *
          refine hK.out _ _ hV3s.1.2.2.1 (fun hHeld => ?_)
          clear hK K c0 c1 c2 c3 f0 f1 f2 f3
          refine wpAnyH_done (by kernel_rfl) ?_ _
          clear hHeld
          have hq0 : ql ++ [((.int .i64 x, .int .i64 mf, .int .i64 md, .slice sa sn sc) : Qd)] ≠ [] := by simp
          obtain ⟨⟨c0, c1, c2, c3⟩, f0, f1, f2, f3⟩ := id hV3s
          dsimp only at c0 c1 c2 c3
          go_wp2_with fail
          refine wp_region_held_drew (S := fun _ => True) (by kernel_rfl) ?hS17 (fun hHeld => ?_)
          case hS17 => exact trivial
          refine wpAnyH_take (i := 0) (v := ?_) rfl (by kernel_rfl) (by kernel_rfl) (by kernel_rfl) (fun _ _ _ h => h) (Or.inl ⟨by rfl, ?hy18⟩) (by assumption) ?ty18
          case hy18 => (intro w5 hSw; (try dsimp only at hSw); go_simp; all_goals with_reducible rfl)
          simp only [Act.put, List.getElem_toArray, List.getElem_cons_zero, List.setIfInBounds_toArray, List.set_cons_zero, List.set_cons_succ]
          refine wpAnyH_take (i := 3) (v := ?_) rfl (by kernel_rfl) (by kernel_rfl) (by kernel_rfl) (fun _ _ _ h => h) (Or.inl ⟨by rfl, ?hy19⟩) (by assumption) ?ty19
          case hy19 => (intro w5 hSw; (try dsimp only at hSw); go_simp; all_goals with_reducible rfl)
          simp only [Act.put, List.getElem_toArray, List.getElem_cons_zero, List.getElem_cons_succ, List.setIfInBounds_toArray, List.set_cons_zero, List.set_cons_succ]
          refine wpAnyH_ready (rs := [1, 4]) (by kernel_rfl) (by simp) ?_
          refine AllReadyH.cons rfl (fun K hK => ?_) (AllReadyH.cons rfl (fun K hK => ?_) AllReadyH.nil)
          · have cL := hV3s.1.2.2.1
            dsimp only at cL
            go_simp
            refine hK.out _ _ trivial (fun hHeld => ?_)
            clear hK K
            refine wpAnyH_take (i := 2) (v := .int .i64 (x + 1)) rfl (by kernel_rfl) (by kernel_rfl) (by kernel_rfl) (fun _ _ _ h => h) (Or.inl ⟨by rfl, ?hy20⟩) (by assumption) ?ty20
            case hy20 => (intro w5 hSw; (try dsimp only at hSw); go_simp; first | (all_goals with_reducible rfl) | (rw [Go.IntWalk.i64_left, Go.IntWalk.wrap64_in _ (by omega)]) | (simp; omega))
            simp only [Act.put, List.getElem_toArray, List.getElem_cons_zero, List.getElem_cons_succ, List.setIfInBounds_toArray, List.set_cons_zero, List.set_cons_succ]
            refine wpAnyH_ready (rs := [4]) (by kernel_rfl) (by simp) ?_
            refine AllReadyH.cons rfl (fun K hK => ?_) AllReadyH.nil
            go_simp
            refine (l1Next_any B b _ 2 _ (hS3s.below (Below.refl _ _).drew) (by omega) (by omega) (by omega)).mono ?_
            rintro e y6 ⟨r6, rfl, r0, r1, -, hS6, hk6⟩
            have hk6 : Kb b Y y6 := (Kb.refl b Y).below (Below.refl _ _).drew |>.grown hk6
            have hR6 := hR3s.grown hk6 (fun e => by injection e with e; omega)
            have hV6 := hV3s.grown hk6 (fun e => by injection e with e; omega)
            have hO6 := hO3s.kb hk6 (by omega)
            have hD6 := hD3s.kz (Kz.kb hk6 (by omega))
            have hK6 := hK3s.trans hk6
            have hz6 := Nat.le_trans hz3s (World.grownBy.size hk6)
            have r1 := r1 (by omega)
            refine hK.out _ _ trivial (fun hHeld => ?_)
            clear hK K
            refine wpAnyH_take (i := 5) (v := .int .i64 (x + 1 + r6)) rfl (by kernel_rfl) (by kernel_rfl) (by kernel_rfl) (fun _ _ _ h => h) (Or.inl ⟨by rfl, ?hy21⟩) (by assumption) ?ty21
            case hy21 => (intro w5 hSw; (try dsimp only at hSw); go_simp; first | (all_goals with_reducible rfl) | (rw [Go.IntWalk.i64_left, Go.IntWalk.wrap64_in _ (by omega)]) | (simp; omega))
            simp only [Act.put, List.getElem_toArray, List.getElem_cons_zero, List.getElem_cons_succ, List.setIfInBounds_toArray, List.set_cons_zero, List.set_cons_succ]
            refine wpAnyH_take (i := 6) (v := ?_) rfl (by kernel_rfl) (by kernel_rfl) (by kernel_rfl) (fun _ _ _ h => h) (Or.inl ⟨by rfl, ?hy22⟩) (by assumption) ?ty22
            case hy22 => (intro w5 hSw; (try dsimp only at hSw); go_simp; all_goals with_reducible rfl)
            simp only [Act.put, List.getElem_toArray, List.getElem_cons_zero, List.getElem_cons_succ, List.setIfInBounds_toArray, List.set_cons_zero, List.set_cons_succ]
            obtain ⟨⟨c0, c1, c2, c3⟩, f0, f1, f2, f3⟩ := id hV6
            dsimp only at c0 c1 c2 c3
            refine wpAnyH_ready (rs := [7]) (by kernel_rfl) (by simp) ?_
            refine AllReadyH.cons rfl (fun K hK => ?_) AllReadyH.nil
            have hV7 := hV6.set2 (.int .i64 (x + 1 + r6))
            have hR7 := hR6.far (w.heap.size + 1) 2 (.int .i64 (x + 1 + r6)) (by omega)
            have hO7 := hO6.set ⟨w.heap.size + 1, 2, none⟩ (by simp) (.int .i64 (x + 1 + r6))
            have hBs : Below w.heap.size y6 (World.setCell y6 ⟨w.heap.size + 1, 2, none⟩ (.int .i64 (x + 1 + r6))) := (Below.refl _ _).setCell (by simp) _
            have hD7 := hD6.kz (Kz.set (R := w.heap.size + 1) (j := 2) isU8 (.int .i64 (x + 1 + r6)) (by omega))
            have hS7 := (hS6.below (hBs.mono hbw)).more (show _ ≤ M + 1 + 220 * (i + 1) by omega)
            have hK7 := hK6.below' hBs
            have hz7 := Nat.le_trans hz6 hBs.size
            clear hR6 hV6 hO6 hD6 hS6 hK6 hz6 hBs
            go_simp
            generalize World.setCell y6 ⟨w.heap.size + 1, 2, none⟩ (.int .i64 (x + 1 + r6)) = Y7 at *
            refine hK.out _ _ trivial (fun hHeld => ?_)
            clear hK K c0 c1 c2 c3 f0 f1 f2 f3
            refine wpAnyH_done (by kernel_rfl) ?_ _
            clear hHeld
            go_wp2
            go_roundw
            case rel => exact ⟨i + 1, x + 1 + r6, .slice a2 n2 k2, ql ++ [(.int .i64 x, .int .i64 mf, .int .i64 md, .slice sa sn sc)], l ++ [⟨x, mf, md, mb⟩], by omega, by go_num, by omega, by simp [hli], hR7, hV7, hO7, hD7, fun e => absurd e hq0, hS7, hK7, hz7⟩
            case measure => simp [intOf]; omega
          · go_simp
            refine (l1Next_any B b _ 2 _ (hS3s.below (Below.refl _ _).drew) (by omega) (by omega) (by omega)).mono ?_
            rintro e y6 ⟨r6, rfl, r0, r1, -, hS6, hk6⟩
            have hk6 : Kb b Y y6 := (Kb.refl b Y).below (Below.refl _ _).drew |>.grown hk6
            have hR6 := hR3s.grown hk6 (fun e => by injection e with e; omega)
            have hV6 := hV3s.grown hk6 (fun e => by injection e with e; omega)
            have hO6 := hO3s.kb hk6 (by omega)
            have hD6 := hD3s.kz (Kz.kb hk6 (by omega))
            have hK6 := hK3s.trans hk6
            have hz6 := Nat.le_trans hz3s (World.grownBy.size hk6)
            have r1 := r1 (by omega)
            refine hK.out _ _ trivial (fun hHeld => ?_)
            clear hK K
            refine wpAnyH_ready (rs := [1]) (by kernel_rfl) (by simp) ?_
            refine AllReadyH.cons rfl (fun K hK => ?_) AllReadyH.nil
            have cL := hV6.1.2.2.1
            dsimp only at cL
            go_simp
            refine hK.out _ _ trivial (fun hHeld => ?_)
            clear hK K
            refine wpAnyH_take (i := 2) (v := .int .i64 (x + 1)) rfl (by kernel_rfl) (by kernel_rfl) (by kernel_rfl) (fun _ _ _ h => h) (Or.inl ⟨by rfl, ?hy23⟩) (by assumption) ?ty23
            case hy23 => (intro w5 hSw; (try dsimp only at hSw); go_simp; first | (all_goals with_reducible rfl) | (rw [Go.IntWalk.i64_left, Go.IntWalk.wrap64_in _ (by omega)]) | (simp; omega))
            simp only [Act.put, List.getElem_toArray, List.getElem_cons_zero, List.getElem_cons_succ, List.setIfInBounds_toArray, List.set_cons_zero, List.set_cons_succ]
            refine wpAnyH_take (i := 5) (v := .int .i64 (x + 1 + r6)) rfl (by kernel_rfl) (by kernel_rfl) (by kernel_rfl) (fun _ _ _ h => h) (Or.inl ⟨by rfl, ?hy24⟩) (by assumption) ?ty24
            case hy24 => (intro w5 hSw; (try dsimp only at hSw); go_simp; first | (all_goals with_reducible rfl) | (rw [Go.IntWalk.i64_left, Go.IntWalk.wrap64_in _ (by omega)]) | (simp; omega))
            simp only [Act.put, List.getElem_toArray, List.getElem_cons_zero, List.getElem_cons_succ, List.setIfInBounds_toArray, List.set_cons_zero, List.set_cons_succ]
            refine wpAnyH_take (i := 6) (v := ?_) rfl (by kernel_rfl) (by kernel_rfl) (by kernel_rfl) (fun _ _ _ h => h) (Or.inl ⟨by rfl, ?hy25⟩) (by assumption) ?ty25
            case hy25 => (intro w5 hSw; (try dsimp only at hSw); go_simp; all_goals with_reducible rfl)
            simp only [Act.put, List.getElem_toArray, List.getElem_cons_zero, List.getElem_cons_succ, List.setIfInBounds_toArray, List.set_cons_zero, List.set_cons_succ]
            obtain ⟨⟨c0, c1, c2, c3⟩, f0, f1, f2, f3⟩ := id hV6
            dsimp only at c0 c1 c2 c3
            refine wpAnyH_ready (rs := [7]) (by kernel_rfl) (by simp) ?_
            refine AllReadyH.cons rfl (fun K hK => ?_) AllReadyH.nil
            have hV7 := hV6.set2 (.int .i64 (x + 1 + r6))
            have hR7 := hR6.far (w.heap.size + 1) 2 (.int .i64 (x + 1 + r6)) (by omega)
            have hO7 := hO6.set ⟨w.heap.size + 1, 2, none⟩ (by simp) (.int .i64 (x + 1 + r6))
            have hBs : Below w.heap.size y6 (World.setCell y6 ⟨w.heap.size + 1, 2, none⟩ (.int .i64 (x + 1 + r6))) := (Below.refl _ _).setCell (by simp) _
            have hD7 := hD6.kz (Kz.set (R := w.heap.size + 1) (j := 2) isU8 (.int .i64 (x + 1 + r6)) (by omega))
            have hS7 := (hS6.below (hBs.mono hbw)).more (show _ ≤ M + 1 + 220 * (i + 1) by omega)
            have hK7 := hK6.below' hBs
            have hz7 := Nat.le_trans hz6 hBs.size
            clear hR6 hV6 hO6 hD6 hS6 hK6 hz6 hBs
            go_simp
            generalize World.setCell y6 ⟨w.heap.size + 1, 2, none⟩ (.int .i64 (x + 1 + r6)) = Y7 at *
            refine hK.out _ _ trivial (fun hHeld => ?_)
            clear hK K c0 c1 c2 c3 f0 f1 f2 f3
            refine wpAnyH_done (by kernel_rfl) ?_ _
            clear hHeld
            go_wp2
            go_roundw
            case rel => exact ⟨i + 1, x + 1 + r6, .slice a2 n2 k2, ql ++ [(.int .i64 x, .int .i64 mf, .int .i64 md, .slice sa sn sc)], l ++ [⟨x, mf, md, mb⟩], by omega, by go_num, by omega, by simp [hli], hR7, hV7, hO7, hD7, fun e => absurd e hq0, hS7, hK7, hz7⟩
            case measure => simp [intOf]; omega
        · have hb2 : Below (Y1).heap.size Y1 (World.alloc Y1 (.cells #[.int .i64 x, .int .i64 mf, .int .i64 md, .slice sa sn sc] 44)) := (Below.refl _ _).alloc (Nat.le_refl _) _
          have hQ2 := Qc.new (Y1) (.int .i64 x) (.int .i64 mf) (.int .i64 md) (.slice sa sn sc) 44
          have hR2 := hR1.below hb2 hR1.lt
          have hV2 := hV1.below hb2 hV1.lt
          have hO2 := hO1.below hb2 (Nat.le_refl _)
          have hD2 := hD1.kz (Kz.below _ hb2)
          have hS2 := hS1.below (hb2.mono hS1.2.1)
          have hK2 := hK1.below hb2
          have hz2 := Nat.le_trans hz1 hb2.size
          have hd2 := hd1.kz (Kz.below _ hb2)
          go_simp
          skip
          generalize World.alloc Y1 (.cells #[.int .i64 x, .int .i64 mf, .int .i64 md, .slice sa sn sc] 44) = Y2 at *
          refine hK.out _ _ hV2.1.2.2.1 (fun hHeld => ?_)
          clear hK K
          clear hR1 hV1 hO1 hD1 hS1 hK1 hz1
          refine wpAnyH_ready (rs := [1]) (by kernel_rfl) (by simp) ?_
          refine AllReadyH.cons rfl (fun K hK => ?_) AllReadyH.nil
          have cL := hV2.1.2.2.2
          dsimp only at cL
          go_simp
          refine hK.out _ _ hV2.1.2.2.1 (fun hHeld => ?_)
          clear hK K
          refine wpAnyH_ready (rs := [7]) (by kernel_rfl) (by simp) ?_
          refine AllReadyH.cons rfl (fun K hK => ?_) AllReadyH.nil
          refine step_appM rfl _ _ rfl (w.heap.size + 2) (.slice av i cv) ql (by rfl) hO2 _ (.int .i64 x, .int .i64 mf, .int .i64 md, .slice sa sn sc) (by rfl) hQ2 ⟨rfl, rfl, rfl, rfl⟩ (by have := HQ.out; omega) (by omega) ?_
          intro v2 Y3 hO3 hg3
          obtain ⟨a2, n2, k2, rfl⟩ : ∃ a n c, v2 = Value.slice a n c := by obtain ⟨a, c, e, -⟩ := OwnM.form hO3; exact ⟨a, _, c, e⟩
          have hKz3 : Kz (w.heap.size + 2) isU8 _ Y3 := hO2.kz isU8 hg3 hD2.first h0
          have hB3 : Below (w.heap.size + 2) _ Y3 := (Below.refl _ _).grown hg3 hz2 hne
          have hR3 := hR2.below hB3 (by omega)
          have hV3 := hV2.below hB3 (by omega)
          have hD3 := (hD2.kz hKz3).snoc ⟨x, mf, md, mb⟩ (sa, sn, sc) (hd2.kz hKz3) hl
          have hS3 := hS2.below (hB3.mono (by omega))
          have hK3 := hK2.below' (hB3.mono (by omega))
          have hz3 := Nat.le_trans hz2 hB3.size
          refine hK.out _ _ hV3.1.2.2.1 (fun hHeld => ?_)
          clear hK K hB3 hKz3 hg3
          clear hR2 hV2 hO2 hD2 hS2 hK2 hz2
          refine wpAnyH_take (i := 8) (v := ?_) rfl (by kernel_rfl) (by kernel_rfl) (by kernel_rfl) (fun _ _ _ h => h) (Or.inl ⟨by rfl, ?hy26⟩) (by assumption) ?ty26
          case hy26 => (intro w5 hSw; (try dsimp only at hSw); go_simp; all_goals with_reducible rfl)
          simp only [Act.put, List.getElem_toArray, List.getElem_cons_zero, List.getElem_cons_succ, List.setIfInBounds_toArray, List.set_cons_zero, List.set_cons_succ]
          obtain ⟨⟨c0, c1, c2, c3⟩, f0, f1, f2, f3⟩ := id hV3
          dsimp only at c0 c1 c2 c3
          refine wpAnyH_ready (rs := [9]) (by kernel_rfl) (by simp) ?_
          refine AllReadyH.cons rfl (fun K hK => ?_) AllReadyH.nil
          have hV3s := hV3.set3 (.slice a2 n2 k2)
          have hR3s := hR3.far (w.heap.size + 1) 3 (.slice a2 n2 k2) (by omega)
          have hO3s := hO3.set ⟨w.heap.size + 1, 3, none⟩ (by simp) (.slice a2 n2 k2)
          have hBs : Below w.heap.size Y3 (World.setCell Y3 ⟨w.heap.size + 1, 3, none⟩ (.slice a2 n2 k2)) := (Below.refl _ _).setCell (by simp) _
          have hD3s := hD3.kz (Kz.set (R := w.heap.size + 1) (j := 3) isU8 (.slice a2 n2 k2) (by omega))
          have hS3s := hS3.below (hBs.mono hbw)
          have hK3s := hK3.below' hBs
          have hz3s := Nat.le_trans hz3 hBs.size
          clear hR3 hV3 hO3 hD3 hS3 hK3 hz3 hBs
          go_simp
          generalize World.setCell Y3 ⟨w.heap.size + 1, 3, none⟩ (.slice a2 n2 k2) = Y at *
          refine hK.out _ _ hV3s.1.2.2.1 (fun hHeld => ?_)
          clear hK K c0 c1 c2 c3 f0 f1 f2 f3
          refine wpAnyH_done (by kernel_rfl) ?_ _
          clear hHeld
          have hq0 : ql ++ [((.int .i64 x, .int .i64 mf, .int .i64 md, .slice sa sn sc) : Qd)] ≠ [] := by simp
          obtain ⟨⟨c0, c1, c2, c3⟩, f0, f1, f2, f3⟩ := id hV3s
          dsimp only at c0 c1 c2 c3
          go_wp2_with fail
          refine wp_region_held_drew (S := fun _ => True) (by kernel_rfl) ?hS27 (fun hHeld => ?_)
          case hS27 => exact trivial
          refine wpAnyH_take (i := 0) (v := ?_) rfl (by kernel_rfl) (by kernel_rfl) (by kernel_rfl) (fun _ _ _ h => h) (Or.inl ⟨by rfl, ?hy28⟩) (by assumption) ?ty28
          case hy28 => (intro w5 hSw; (try dsimp only at hSw); go_simp; all_goals with_reducible rfl)
          simp only [Act.put, List.getElem_toArray, List.getElem_cons_zero, List.setIfInBounds_toArray, List.set_cons_zero, List.set_cons_succ]
          refine wpAnyH_take (i := 3) (v := ?_) rfl (by kernel_rfl) (by kernel_rfl) (by kernel_rfl) (fun _ _ _ h => h) (Or.inl ⟨by rfl, ?hy29⟩) (by assumption) ?ty29
          case hy29 => (intro w5 hSw; (try dsimp only at hSw); go_simp; all_goals with_reducible rfl)
          simp only [Act.put, List.getElem_toArray, List.getElem_cons_zero, List.getElem_cons_succ, List.setIfInBounds_toArray, List.set_cons_zero, List.set_cons_succ]
          refine wpAnyH_ready (rs := [1, 4]) (by kernel_rfl) (by simp) ?_
          refine AllReadyH.cons rfl (fun K hK => ?_) (AllReadyH.cons rfl (fun K hK => ?_) AllReadyH.nil)
          · have cL := hV3s.1.2.2.1
            dsimp only at cL
            go_simp
            refine hK.out _ _ trivial (fun hHeld => ?_)
            clear hK K
            refine wpAnyH_take (i := 2) (v := .int .i64 (x + 1)) rfl (by kernel_rfl) (by kernel_rfl) (by kernel_rfl) (fun _ _ _ h => h) (Or.inl ⟨by rfl, ?hy30⟩) (by assumption) ?ty30
            case hy30 => (intro w5 hSw; (try dsimp only at hSw); go_simp; first | (all_goals with_reducible rfl) | (rw [Go.IntWalk.i64_left, Go.IntWalk.wrap64_in _ (by omega)]) | (simp; omega))
            simp only [Act.put, List.getElem_toArray, List.getElem_cons_zero, List.getElem_cons_succ, List.setIfInBounds_toArray, List.set_cons_zero, List.set_cons_succ]
            refine wpAnyH_ready (rs := [4]) (by kernel_rfl) (by simp) ?_
            refine AllReadyH.cons rfl (fun K hK => ?_) AllReadyH.nil
            go_simp
            refine (l1Next_any B b _ 2 _ (hS3s.below (Below.refl _ _).drew) (by omega) (by omega) (by omega)).mono ?_
            rintro e y6 ⟨r6, rfl, r0, r1, -, hS6, hk6⟩
            have hk6 : Kb b Y y6 := (Kb.refl b Y).below (Below.refl _ _).drew |>.grown hk6
            have hR6 := hR3s.grown hk6 (fun e => by injection e with e; omega)
            have hV6 := hV3s.grown hk6 (fun e => by injection e with e; omega)
            have hO6 := hO3s.kb hk6 (by omega)
            have hD6 := hD3s.kz (Kz.kb hk6 (by omega))
            have hK6 := hK3s.trans hk6
            have hz6 := Nat.le_trans hz3s (World.grownBy.size hk6)
            have r1 := r1 (by omega)
            refine hK.out _ _ trivial (fun hHeld => ?_)
            clear hK K
            refine wpAnyH_take (i := 5) (v := .int .i64 (x + 1 + r6)) rfl (by kernel_rfl) (by kernel_rfl) (by kernel_rfl) (fun _ _ _ h => h) (Or.inl ⟨by rfl, ?hy31⟩) (by assumption) ?ty31
            case hy31 => (intro w5 hSw; (try dsimp only at hSw); go_simp; first | (all_goals with_reducible rfl) | (rw [Go.IntWalk.i64_left, Go.IntWalk.wrap64_in _ (by omega)]) | (simp; omega))
            simp only [Act.put, List.getElem_toArray, List.getElem_cons_zero, List.getElem_cons_succ, List.setIfInBounds_toArray, List.set_cons_zero, List.set_cons_succ]
            refine wpAnyH_take (i := 6) (v := ?_) rfl (by kernel_rfl) (by kernel_rfl) (by kernel_rfl) (fun _ _ _ h => h) (Or.inl ⟨by rfl, ?hy32⟩) (by assumption) ?ty32
            case hy32 => (intro w5 hSw; (try dsimp only at hSw); go_simp; all_goals with_reducible rfl)
            simp only [Act.put, List.getElem_toArray, List.getElem_cons_zero, List.getElem_cons_succ, List.setIfInBounds_toArray, List.set_cons_zero, List.set_cons_succ]
            obtain ⟨⟨c0, c1, c2, c3⟩, f0, f1, f2, f3⟩ := id hV6
            dsimp only at c0 c1 c2 c3
            refine wpAnyH_ready (rs := [7]) (by kernel_rfl) (by simp) ?_
            refine AllReadyH.cons rfl (fun K hK => ?_) AllReadyH.nil
            have hV7 := hV6.set2 (.int .i64 (x + 1 + r6))
            have hR7 := hR6.far (w.heap.size + 1) 2 (.int .i64 (x + 1 + r6)) (by omega)
            have hO7 := hO6.set ⟨w.heap.size + 1, 2, none⟩ (by simp) (.int .i64 (x + 1 + r6))
            have hBs : Below w.heap.size y6 (World.setCell y6 ⟨w.heap.size + 1, 2, none⟩ (.int .i64 (x + 1 + r6))) := (Below.refl _ _).setCell (by simp) _
            have hD7 := hD6.kz (Kz.set (R := w.heap.size + 1) (j := 2) isU8 (.int .i64 (x + 1 + r6)) (by omega))
            have hS7 := (hS6.below (hBs.mono hbw)).more (show _ ≤ M + 1 + 220 * (i + 1) by omega)
            have hK7 := hK6.below' hBs
            have hz7 := Nat.le_trans hz6 hBs.size
            clear hR6 hV6 hO6 hD6 hS6 hK6 hz6 hBs
            go_simp
            generalize World.setCell y6 ⟨w.heap.size + 1, 2, none⟩ (.int .i64 (x + 1 + r6)) = Y7 at *
            refine hK.out _ _ trivial (fun hHeld => ?_)
            clear hK K c0 c1 c2 c3 f0 f1 f2 f3
            refine wpAnyH_done (by kernel_rfl) ?_ _
            clear hHeld
            go_wp2
            go_roundw
            case rel => exact ⟨i + 1, x + 1 + r6, .slice a2 n2 k2, ql ++ [(.int .i64 x, .int .i64 mf, .int .i64 md, .slice sa sn sc)], l ++ [⟨x, mf, md, mb⟩], by omega, by go_num, by omega, by simp [hli], hR7, hV7, hO7, hD7, fun e => absurd e hq0, hS7, hK7, hz7⟩
            case measure => simp [intOf]; omega
          · go_simp
            refine (l1Next_any B b _ 2 _ (hS3s.below (Below.refl _ _).drew) (by omega) (by omega) (by omega)).mono ?_
            rintro e y6 ⟨r6, rfl, r0, r1, -, hS6, hk6⟩
            have hk6 : Kb b Y y6 := (Kb.refl b Y).below (Below.refl _ _).drew |>.grown hk6
            have hR6 := hR3s.grown hk6 (fun e => by injection e with e; omega)
            have hV6 := hV3s.grown hk6 (fun e => by injection e with e; omega)
            have hO6 := hO3s.kb hk6 (by omega)
            have hD6 := hD3s.kz (Kz.kb hk6 (by omega))
            have hK6 := hK3s.trans hk6
            have hz6 := Nat.le_trans hz3s (World.grownBy.size hk6)
            have r1 := r1 (by omega)
            refine hK.out _ _ trivial (fun hHeld => ?_)
            clear hK K
            refine wpAnyH_ready (rs := [1]) (by kernel_rfl) (by simp) ?_
            refine AllReadyH.cons rfl (fun K hK => ?_) AllReadyH.nil
            have cL := hV6.1.2.2.1
            dsimp only at cL
            go_simp
            refine hK.out _ _ trivial (fun hHeld => ?_)
            clear hK K
            refine wpAnyH_take (i := 2) (v := .int .i64 (x + 1)) rfl (by kernel_rfl) (by kernel_rfl) (by kernel_rfl) (fun _ _ _ h => h) (Or.inl ⟨by rfl, ?hy33⟩) (by assumption) ?ty33
            case hy33 => (intro w5 hSw; (try dsimp only at hSw); go_simp; first | (all_goals with_reducible rfl) | (rw [Go.IntWalk.i64_left, Go.IntWalk.wrap64_in _ (by omega)]) | (simp; omega))
            simp only [Act.put, List.getElem_toArray, List.getElem_cons_zero, List.getElem_cons_succ, List.setIfInBounds_toArray, List.set_cons_zero, List.set_cons_succ]
            refine wpAnyH_take (i := 5) (v := .int .i64 (x + 1 + r6)) rfl (by kernel_rfl) (by kernel_rfl) (by kernel_rfl) (fun _ _ _ h => h) (Or.inl ⟨by rfl, ?hy34⟩) (by assumption) ?ty34
            case hy34 => (intro w5 hSw; (try dsimp only at hSw); go_simp; first | (all_goals with_reducible rfl) | (rw [Go.IntWalk.i64_left, Go.IntWalk.wrap64_in _ (by omega)]) | (simp; omega))
            simp only [Act.put, List.getElem_toArray, List.getElem_cons_zero, List.getElem_cons_succ, List.setIfInBounds_toArray, List.set_cons_zero, List.set_cons_succ]
            refine wpAnyH_take (i := 6) (v := ?_) rfl (by kernel_rfl) (by kernel_rfl) (by kernel_rfl) (fun _ _ _ h => h) (Or.inl ⟨by rfl, ?hy35⟩) (by assumption) ?ty35
            case hy35 => (intro w5 hSw; (try dsimp only at hSw); go_simp; all_goals with_reducible rfl)
            simp only [Act.put, List.getElem_toArray, List.getElem_cons_zero, List.getElem_cons_succ, List.setIfInBounds_toArray, List.set_cons_zero, List.set_cons_succ]
            obtain ⟨⟨c0, c1, c2, c3⟩, f0, f1, f2, f3⟩ := id hV6
            dsimp only at c0 c1 c2 c3
            refine wpAnyH_ready (rs := [7]) (by kernel_rfl) (by simp) ?_
            refine AllReadyH.cons rfl (fun K hK => ?_) AllReadyH.nil
            have hV7 := hV6.set2 (.int .i64 (x + 1 + r6))
            have hR7 := hR6.far (w.heap.size + 1) 2 (.int .i64 (x + 1 + r6)) (by omega)
            have hO7 := hO6.set ⟨w.heap.size + 1, 2, none⟩ (by simp) (.int .i64 (x + 1 + r6))
            have hBs : Below w.heap.size y6 (World.setCell y6 ⟨w.heap.size + 1, 2, none⟩ (.int .i64 (x + 1 + r6))) := (Below.refl _ _).setCell (by simp) _
            have hD7 := hD6.kz (Kz.set (R := w.heap.size + 1) (j := 2) isU8 (.int .i64 (x + 1 + r6)) (by omega))
            have hS7 := (hS6.below (hBs.mono hbw)).more (show _ ≤ M + 1 + 220 * (i + 1) by omega)
            have hK7 := hK6.below' hBs
            have hz7 := Nat.le_trans hz6 hBs.size
            clear hR6 hV6 hO6 hD6 hS6 hK6 hz6 hBs
            go_simp
            generalize World.setCell y6 ⟨w.heap.size + 1, 2, none⟩ (.int .i64 (x + 1 + r6)) = Y7 at *
            refine hK.out _ _ trivial (fun hHeld => ?_)
            clear hK K c0 c1 c2 c3 f0 f1 f2 f3
            refine wpAnyH_done (by kernel_rfl) ?_ _
            clear hHeld
            go_wp2
            go_roundw
            case rel => exact ⟨i + 1, x + 1 + r6, .slice a2 n2 k2, ql ++ [(.int .i64 x, .int .i64 mf, .int .i64 md, .slice sa sn sc)], l ++ [⟨x, mf, md, mb⟩], by omega, by go_num, by omega, by simp [hli], hR7, hV7, hO7, hD7, fun e => absurd e hq0, hS7, hK7, hz7⟩
            case measure => simp [intOf]; omega
    · have hii : i = n := by omega
      have hj : ¬ (0 : Int) < ((n - i : Nat) : Int) := by omega
      subst hii
      obtain ⟨⟨c0, c1, c2, c3⟩, f0, f1, f2, f3⟩ := id hV
      obtain ⟨⟨r0, r1, r2, r3⟩, y0, y1, y2, y3⟩ := id hR
      dsimp only at c0 c1 c2 c3 r0 r1 r2 r3
      obtain ⟨q0, q1, q2, q3⟩ := qd_cells (sz := w.heap.size) r0 r1 r2 r3 (.string name) (.int .i64 val) (.int .i64 x) (.slice av i cv)
      have hdr := hO.dr hD
      have hB4 : Below w.heap.size wr ((((wr.setCell ⟨w.heap.size, 0, none⟩ (.string name)).setCell ⟨w.heap.size, 1, none⟩ (.int .i64 val)).setCell ⟨w.heap.size, 2, none⟩ (.int .i64 x)).setCell ⟨w.heap.size, 3, none⟩ (.slice av i cv)) := ((((Below.refl _ _).setCell (by simp) _).setCell (by simp) _).setCell (by simp) _).setCell (by simp) _
      have hZ4 : Kz (w.heap.size + 2) isN wr ((((wr.setCell ⟨w.heap.size, 0, none⟩ (.string name)).setCell ⟨w.heap.size, 1, none⟩ (.int .i64 val)).setCell ⟨w.heap.size, 2, none⟩ (.int .i64 x)).setCell ⟨w.heap.size, 3, none⟩ (.slice av i cv)) := (((Kz.set _ _ (by omega)).trans (Kz.set _ _ (by omega))).trans (Kz.set _ _ (by omega))).trans (Kz.set _ _ (by omega))
      have hO4 := (((hO.set ⟨w.heap.size, 0, none⟩ (by simp) (.string name)).set ⟨w.heap.size, 1, none⟩ (by simp) (.int .i64 val)).set ⟨w.heap.size, 2, none⟩ (by simp) (.int .i64 x)).set ⟨w.heap.size, 3, none⟩ (by simp) (.slice av i cv)
      have HD : Hid (_) := And.intro (hdr.kz hZ4) (And.intro (hS.below (hB4.mono hbw)) (And.intro (hK.below' hB4) (And.intro hO4 (hD.kz hZ4.u8))))
      clear hdr hS hK hB4 hZ4 hO hD hR hV hO4
      go_wp2
      refine bodyPost_ret (v := .agg #[.string name, .int .i64 val, .int .i64 x, .slice av i cv]) (by simp [results, Tryd.results62, go_sem, q0, q1, q2, q3]) rfl ?_
      exact ⟨⟨name, val, x, l⟩, (av, i, cv), rfl, rfl, rfl, by dsimp only; omega, by dsimp only; omega, HD.out.1.low (by omega), HD.out.2.1.more (by omega), HD.out.2.2.1, ql, HD.out.2.2.2.1.low (by omega), HD.out.2.2.2.2.low (by omega), h0⟩
end Go.Proofs.YtilepbbcinbmhaaDoor
