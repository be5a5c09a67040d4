/- The draw of a store; no conditions beyond those that each fact names. -/
import Derived.Test.YtilepbbcinbmhaaDoorDr9
namespace Go.Proofs.YtilepbbcinbmhaaDoor
open Go.RowKit
set_option linter.unusedVariables false

/-- Two cells of a block that may be written. -/
def Df (w : World) (g : Nat) (q : Value × Value) : Prop := (w.cell? ⟨g, 0, none⟩ = some q.1 ∧ w.cell? ⟨g, 1, none⟩ = some q.2) ∧ w.frozen? ⟨g, 0, none⟩ = false ∧ w.frozen? ⟨g, 1, none⟩ = false
theorem Df.lt {w : World} {g : Nat} {q : Value × Value} (h : Df w g q) : g < w.heap.size := World.block_lt_of_cell? w ⟨g, 0, none⟩ h.1.1
theorem Df.new (w : World) (c0 c1 : Value) (t : TypeId) : Df (w.alloc (.cells #[c0, c1] t)) w.heap.size (c0, c1) := ⟨⟨by simp, by simp⟩, by simp, by simp⟩
theorem Df.block {w w' : World} {g : Nat} {q : Value × Value} (h : Df w g q) (hb : w'.heap[g]? = w.heap[g]?) : Df w' g q := by
  obtain ⟨⟨h0, h1⟩, f0, f1⟩ := h
  exact ⟨⟨(World.cell?_of_block hb).trans h0, (World.cell?_of_block hb).trans h1⟩, (World.frozen?_of_block hb).trans f0, (World.frozen?_of_block hb).trans f1⟩
theorem Df.below {C : Nat} {w w' : World} {g : Nat} {q : Value × Value} (h : Df w g q) (hb : Below C w w') (hg : g < C) : Df w' g q := h.block (hb.block g hg)
theorem Df.grown {w w' : World} {g : Nat} {q : Value × Value} {r : Option Nat} (h : Df w g q) (hb : w.grownBy w' r) (hg : some g ≠ r) : Df w' g q := h.block (hb.block g h.lt hg)
theorem Df.set0 {w : World} {g : Nat} {q : Value × Value} (h : Df w g q) (v : Value) : Df (w.setCell ⟨g, 0, none⟩ v) g (v, q.2) := by
  obtain ⟨⟨h0, h1⟩, f0, f1⟩ := h
  exact ⟨⟨World.cell?_setCell_same _ _ _ h0, (World.cell?_setCell_other _ _ _ _ (by simp)).trans h1⟩, by simpa using f0, by simpa using f1⟩
theorem Df.set1 {w : World} {g : Nat} {q : Value × Value} (h : Df w g q) (v : Value) : Df (w.setCell ⟨g, 1, none⟩ v) g (q.1, v) := by
  obtain ⟨⟨h0, h1⟩, f0, f1⟩ := h
  exact ⟨⟨(World.cell?_setCell_other _ _ _ _ (by simp)).trans h0, World.cell?_setCell_same _ _ _ h1⟩, by simpa using f0, by simpa using f1⟩
theorem Df.far {w : World} {g : Nat} {q : Value × Value} (h : Df w g q) (k j : Nat) (v : Value) (hk : k ≠ g) : Df (w.setCell ⟨k, j, none⟩ v) g q := by
  obtain ⟨⟨h0, h1⟩, f0, f1⟩ := h
  exact ⟨⟨(World.cell?_setCell_other _ _ _ _ (fun e => by cases e; exact hk rfl)).trans h0, (World.cell?_setCell_other _ _ _ _ (fun e => by cases e; exact hk rfl)).trans h1⟩, by simpa using f0, by simpa using f1⟩

/-- Mailboxes that were drawn, in a row of cells. -/
def DX (lo : Nat) (w : World) (ql : List Qd) (l : List Bx) : Prop := ql.length = l.length ∧ ∀ j, j < l.length → ∃ s, nthQ ql j = bxQ (nthX l j) s ∧ DR lo w s (nthX l j).m ∧ (nthX l j).n.size ≤ 100 ∧ (nthX l j).m.length ≤ 7
theorem DX.kz {lo : Nat} {w w' : World} {ql : List Qd} {l : List Bx} (h : DX lo w ql l) (hk : Kz lo isN w w') : DX lo w' ql l := ⟨h.1, fun j hj => by obtain ⟨s, e, hd, hn⟩ := h.2 j hj; exact ⟨s, e, hd.kz hk, hn⟩⟩
theorem DX.nil (lo : Nat) (w : World) : DX lo w [] [] := ⟨rfl, fun j hj => absurd hj (Nat.not_lt_zero _)⟩
theorem DX.snoc {lo : Nat} {w : World} {ql : List Qd} {l : List Bx} (h : DX lo w ql l) (m : Bx) (s : SlQ) (hd : DR lo w s m.m) (hn : m.n.size ≤ 100 ∧ m.m.length ≤ 7) : DX lo w (ql ++ [bxQ m s]) (l ++ [m]) := by
  refine ⟨by rw [List.length_append, List.length_append, h.1]; rfl, fun j hj => ?_⟩
  rw [List.length_append, List.length_singleton] at hj
  by_cases hjl : j < l.length
  · have e1 : nthQ (ql ++ [bxQ m s]) j = nthQ ql j := by unfold nthQ; rw [List.getD_eq_getElem?_getD, List.getD_eq_getElem?_getD, List.getElem?_append_left (by rw [h.1]; exact hjl)]
    have e2 : nthX (l ++ [m]) j = nthX l j := by unfold nthX; rw [List.getD_eq_getElem?_getD, List.getD_eq_getElem?_getD, List.getElem?_append_left hjl]
    rw [e1, e2]; exact h.2 j hjl
  · obtain rfl : j = l.length := by omega
    have e1 : nthQ (ql ++ [bxQ m s]) l.length = bxQ m s := by unfold nthQ; rw [← h.1, List.getD_eq_getElem?_getD, List.getElem?_append_right (Nat.le_refl _)]; simp
    have e2 : nthX (l ++ [m]) l.length = m := by unfold nthX; rw [List.getD_eq_getElem?_getD, List.getElem?_append_right (Nat.le_refl _)]; simp
    rw [e1, e2]; exact ⟨s, rfl, hd, hn⟩
theorem DX.first {lo : Nat} {w : World} {ql : List Qd} {l : List Bx} (h : DX lo w ql l) (hne : ql ≠ []) : ¬ isN (nthQ ql 0).1 := by
  have hp : 0 < l.length := by rw [← h.1]; exact List.length_pos_iff.2 hne
  obtain ⟨s, e, -⟩ := h.2 0 hp
  rw [e]
  rintro (⟨x, hx⟩ | ⟨x, hx⟩) <;> cases hx
/-- A SLICE OF MAILBOXES THAT WERE DRAWN. -/
def DS (lo : Nat) (w : World) (s : SlQ) (l : List Bx) : Prop := IsXs lo w s l ∧ ∀ j, j < l.length → FtX (nthX l j)
theorem OwnX.ds {w : World} {B : Nat} {a : Option Addr} {n cap : Nat} {ql : List Qd} {l : List Bx} (h : OwnX w B (.slice a n cap) ql) (hd : DX B w ql l) : DS B w (a, n, cap) l := by
  have hl : l.length = ql.length := hd.1.symm
  obtain ⟨a', c', e, hc, hm⟩ := h.form
  cases e
  refine ⟨⟨hl, hc, hm, ?_⟩, fun j hj => by obtain ⟨s, -, hr, hn, hm⟩ := hd.2 j hj; exact ⟨by omega, hr.ft hm⟩⟩
  rcases Nat.eq_zero_or_pos l.length with hz | hp
  · exact .inl (List.length_eq_zero_iff.1 hz)
  · rcases h.2 with ⟨h', h0⟩ | ⟨g, cap', cur, h', hg, _⟩
    · omega
    · cases h'
      refine .inr ⟨g, 0, rfl, hg, (World.ownsRow.lt h g rfl).2, fun i hi => ?_⟩
      obtain ⟨-, c0, c1, c2, c3⟩ := ownQ_cells h i (by omega)
      obtain ⟨s, e, hd0, -⟩ := hd.2 i hi
      rw [e] at c0 c1 c2 c3
      rw [Nat.zero_add]
      exact ⟨s, ⟨c0, c1, c2, c3⟩, hd0.ms⟩
theorem OwnX.low {w : World} {B C : Nat} {v : Value} {l : List Qd} (h : OwnX w B v l) (hC : C ≤ B) : OwnX w C v l := by
  refine ⟨h.1, ?_⟩
  rcases h.2 with h' | ⟨g, cap, cur, h1, h2, h3, h4⟩
  · exact .inl h'
  · exact .inr ⟨g, cap, cur, h1, by omega, h3, h4⟩
theorem DX.low {lo lo' : Nat} {w : World} {ql : List Qd} {l : List Bx} (h : DX lo w ql l) (hl : lo' ≤ lo) : DX lo' w ql l := ⟨h.1, fun j hj => by obtain ⟨s, e, hd, hn⟩ := h.2 j hj; exact ⟨s, e, hd.low hl, hn⟩⟩
/-- The names of the first three. -/
def nm3B (i : Nat) : ByteArray := [⟨#[105, 110]⟩, ⟨#[111, 108, 100]⟩, ⟨#[98, 111, 120]⟩].getD i ⟨#[]⟩
theorem nm3B_cells (w : World) (i : Nat) (hi : i < 3) : (w.alloc (.cells #[.string ⟨#[105, 110]⟩, .string ⟨#[111, 108, 100]⟩, .string ⟨#[98, 111, 120]⟩] 9)).cell? ⟨w.heap.size, i, none⟩ = some (.string (nm3B i)) := by
  obtain rfl | rfl | rfl : i = 0 ∨ i = 1 ∨ i = 2 := by omega
  all_goals simp [nm3B]
theorem nm3B_size (i : Nat) : (nm3B i).size ≤ 100 := by
  rcases Nat.lt_or_ge i 3 with h | h
  · obtain rfl | rfl | rfl : i = 0 ∨ i = 1 ∨ i = 2 := by omega
    all_goals decide
  · unfold nm3B
    rw [List.getD_eq_getElem?_getD, List.getElem?_eq_none (by simpa using h)]
    decide

/-- How the draw of a store ends. -/
def StoEnd (B b M : Nat) (w : World) (e : Ending) (w' : World) : Prop := ∃ (x : Int) (v : Value) (ql : List Qd) (l : List Bx), e = .returned (.agg #[.int .i64 x, v]) ∧ (1 ≤ x ∧ x ≤ 4) ∧ l.length ≤ 3 ∧ OwnX w' (w.heap.size + 1) v ql ∧ DX (w.heap.size + 1) w' ql l ∧ (ql = [] → v = .slice none 0 0) ∧ Go.Proofs.YtilepbbcinbmhaaDoor.Src w' B b M ∧ Kb b w w'

set_option maxHeartbeats 6400000 in
set_option maxRecDepth 100000 in
theorem l7Draw_any (B b M : Nat) (w : World) (hs : Go.Proofs.YtilepbbcinbmhaaDoor.Src w B b M) (hM : M ≤ 50000) :
    Calls Tryd.prog 57 #[.pointer (some ⟨b, 0, none⟩)] w fun e w' => StoEnd B b (M + 2200) w e w' := by
  have hbw : b < w.heap.size := hs.2.1
  have hbA : Below w.heap.size w ((w.alloc (.cells #[.int .i64 0, .slice none 0 0] 33)).alloc (.cells #[.int .i64 1, .slice none 0 0] 33)) := ((Below.refl _ _).alloc (Nat.le_refl _) _).alloc (by simp) _
  have hzA : ((w.alloc (.cells #[.int .i64 0, .slice none 0 0] 33)).alloc (.cells #[.int .i64 1, .slice none 0 0] 33)).heap.size = w.heap.size + 2 := by simp
  have hR : Df ((w.alloc (.cells #[.int .i64 0, .slice none 0 0] 33)).alloc (.cells #[.int .i64 1, .slice none 0 0] 33)) w.heap.size (.int .i64 0, .slice none 0 0) := (Df.new w _ _ _).below ((Below.refl _ _).alloc (Nat.le_refl _) _) (by simp)
  have hV : Df ((w.alloc (.cells #[.int .i64 0, .slice none 0 0] 33)).alloc (.cells #[.int .i64 1, .slice none 0 0] 33)) (w.heap.size + 1) (.int .i64 1, .slice none 0 0) := by
    have h := Df.new (w.alloc (.cells #[.int .i64 0, .slice none 0 0] 33)) (.int .i64 1) (.slice none 0 0) 33
    simpa using h
  have hsA := hs.below (hbA.mono hbw)
  have hKA : Kb b w ((w.alloc (.cells #[.int .i64 0, .slice none 0 0] 33)).alloc (.cells #[.int .i64 1, .slice none 0 0] 33)) := (Kb.refl b w).below hbA
  go_enter Tryd.func57, Tryd.ntmps57
  go_wp2_with fail
  generalize (w.alloc (.cells #[.int .i64 0, .slice none 0 0] 33)).alloc (.cells #[.int .i64 1, .slice none 0 0] 33) = WA at *
  refine (l1Next_any B b M 4 WA hsA (by omega) (by omega) (by omega)).mono ?_
  rintro e w1 ⟨r, rfl, r0, r1, -, hs1, hg1⟩
  obtain ⟨n, rfl⟩ := Int.eq_ofNat_of_zero_le r0
  have hn : n ≤ 3 := by have := r1 (by omega); omega
  have hK1 := hKA.grown hg1
  have hR1 := hR.grown hg1 (fun e => by injection e with e; omega)
  have hV1 := hV.grown hg1 (fun e => by injection e with e; omega)
  have hz1 : w.heap.size + 2 ≤ w1.heap.size := by rw [← hzA]; exact hg1.size
  have hs1 := hs1.more (show M + 1 ≤ M + 1 + 710 * 0 by omega)
  clear r0 r1 hg1 hKA hR hV hsA hbA hzA
  go_wp2_with fail
  go_loopw [4] (fun k wr => ∃ (i : Nat) (v : Value) (ql : List Qd) (l : List Bx), i ≤ n ∧ k = .int .i64 ((n - i : Nat) : Int) ∧ l.length = i ∧ Df wr w.heap.size (.int .i64 0, .slice none 0 0) ∧ Df wr (w.heap.size + 1) (.int .i64 ((i : Int) + 1), v) ∧ OwnX wr (w.heap.size + 2) v ql ∧ DX (w.heap.size + 2) wr ql l ∧ (ql = [] → v = .slice none 0 0) ∧ Go.Proofs.YtilepbbcinbmhaaDoor.Src wr B b (M + 1 + 710 * i) ∧ Kb b w wr ∧ w.heap.size + 2 ≤ wr.heap.size)
    (fun k _ => (intOf k).toNat)
  case atStart => exact ⟨0, .slice none 0 0, [], [], Nat.zero_le _, rfl, rfl, hR1, hV1, OwnX.nil _ _, DX.nil _ _, fun _ => rfl, hs1, hK1, hz1⟩
  case round =>
    obtain ⟨i, v, ql, l, hi, rfl, hli, hR, hV, hO, hD, h0, hS, hK, hz⟩ := hrel
    clear hR1 hV1 hs1 hK1 hz1
    obtain ⟨av, cv, hv, -, hcm⟩ := id hO.form
    have HQ : Hid (ql.length = i) := by show _ = _; rw [hD.1, hli]
    rw [HQ.out] at hv
    subst hv
    by_cases hin : i < n
    · have hj : (0 : Int) < ((n - i : Nat) : Int) := by omega
      have hi3 : i < 3 := by omega
      have hi3' : (i : Int) < 3 := by omega
      have hne : ∀ g, (Value.slice av i cv).ownBlock = some g → w.heap.size + 2 ≤ g := fun g hg => (World.ownsRow.lt hO g hg).1
      obtain ⟨⟨c0, c1⟩, f0, f1⟩ := id hV
      dsimp only at c0 c1
      go_wp2_with fail
      refine wp_region_held_drew (S := fun w' => w'.cell? ⟨w.heap.size + 1, 0, none⟩ = some (.int .i64 ((i : Int) + 1))) (by kernel_rfl) ?hS1 (fun hHeld => ?_)
      case hS1 => exact c0
      refine wpAnyH_take (i := 0) (v := ?_) rfl (by kernel_rfl) (by kernel_rfl) (by kernel_rfl) (fun _ _ _ h => h) (Or.inl ⟨by rfl, ?hy2⟩) (by assumption) ?ty2
      case hy2 => (intro w5 hSw; (try dsimp only at hSw); go_simp; all_goals with_reducible rfl)
      simp only [Act.put, List.getElem_toArray, List.getElem_cons_zero, List.setIfInBounds_toArray, List.set_cons_zero, List.set_cons_succ]
      refine wpAnyH_take (i := 2) (v := ?_) rfl (by kernel_rfl) (by kernel_rfl) (by kernel_rfl) (fun _ _ _ h => h) (Or.inl ⟨by rfl, ?hy3⟩) (by assumption) ?ty3
      case hy3 => (intro w5 hSw; (try dsimp only at hSw); go_simp; all_goals with_reducible rfl)
      simp only [Act.put, List.getElem_toArray, List.getElem_cons_zero, List.getElem_cons_succ, List.setIfInBounds_toArray, List.set_cons_zero, List.set_cons_succ]
      refine wpAnyH_take (i := 4) (v := ?_) rfl (by kernel_rfl) (by kernel_rfl) (by kernel_rfl) (fun _ _ _ h => h) (Or.inl ⟨by rfl, ?hy4⟩) (by assumption) ?ty4
      case hy4 => (intro w5 hSw; (try dsimp only at hSw); go_simp; all_goals with_reducible rfl)
      simp only [Act.put, List.getElem_toArray, List.getElem_cons_zero, List.getElem_cons_succ, List.setIfInBounds_toArray, List.set_cons_zero, List.set_cons_succ]
      refine wpAnyH_take (i := 9) (v := ?_) rfl (by kernel_rfl) (by kernel_rfl) (by kernel_rfl) (fun _ _ _ h => h) (Or.inl ⟨by rfl, ?hy5⟩) (by assumption) ?ty5
      case hy5 => (intro w5 hSw; (try dsimp only at hSw); go_simp; all_goals with_reducible rfl)
      simp only [Act.put, List.getElem_toArray, List.getElem_cons_zero, List.getElem_cons_succ, List.setIfInBounds_toArray, List.set_cons_zero, List.set_cons_succ]
      refine wpAnyH_take (i := 10) (v := ?_) rfl (by kernel_rfl) (by kernel_rfl) (by kernel_rfl) (fun _ _ _ h => h) (Or.inl ⟨by rfl, ?hy6⟩) (by assumption) ?ty6
      case hy6 => (intro w5 hSw; (try dsimp only at hSw); go_simp; all_goals with_reducible rfl)
      simp only [Act.put, List.getElem_toArray, List.getElem_cons_zero, List.getElem_cons_succ, List.setIfInBounds_toArray, List.set_cons_zero, List.set_cons_succ]
      have hb0 : Below wr.heap.size wr wr.drew := (Below.refl _ _).drew
      have hR0 := hR.below hb0 hR.lt
      have hV0 := hV.below hb0 hV.lt
      have hO0 := hO.below hb0 (Nat.le_refl _)
      have hD0 := hD.kz (Kz.below _ hb0)
      have hS0 := hS.below (hb0.mono hS.2.1)
      have hK0 := hK.below hb0
      have hz0 := Nat.le_trans hz hb0.size
      clear hR hV hO hD hS hK hz hb0 c0 c1 f0 f1
      generalize wr.drew = Y0 at *
      refine wpAnyH_ready (rs := [1, 3, 5]) (by kernel_rfl) (by simp) ?_
      refine AllReadyH.cons rfl (fun K hK => ?_) (AllReadyH.cons rfl (fun K hK => ?_) (AllReadyH.cons rfl (fun K hK => ?_) AllReadyH.nil))
      · have cL := hV0.1.2
        dsimp only at cL
        go_simp
        refine hK.out _ _ hV0.1.1 (fun hHeld => ?_)
        clear hK K
        refine wpAnyH_ready (rs := [3, 5]) (by kernel_rfl) (by simp) ?_
        refine AllReadyH.cons rfl (fun K hK => ?_) (AllReadyH.cons rfl (fun K hK => ?_) AllReadyH.nil)
        · have hb1 : Below (World.heap Y0).size Y0 (World.alloc Y0 (.cells #[.string ⟨#[105, 110]⟩, .string ⟨#[111, 108, 100]⟩, .string ⟨#[98, 111, 120]⟩] 9)) := (Below.refl _ _).alloc (Nat.le_refl _) _
          have hN := nm3B_cells Y0 i hi3
          have hR1 := hR0.below hb1 hR0.lt
          have hV1 := hV0.below hb1 hV0.lt
          have hO1 := hO0.below hb1 (Nat.le_refl _)
          have hD1 := hD0.kz (Kz.below _ hb1)
          have hS1 := hS0.below (hb1.mono hS0.2.1)
          have hK1 := hK0.below hb1
          have hz1 := Nat.le_trans hz0 hb1.size
          go_simp
          generalize World.alloc Y0 (.cells #[.string ⟨#[105, 110]⟩, .string ⟨#[111, 108, 100]⟩, .string ⟨#[98, 111, 120]⟩] 9) = Y1 at *
          generalize (World.heap Y0).size = gS at *
          refine hK.out _ _ hV1.1.1 (fun hHeld => ?_)
          clear hK K
          clear hR0 hV0 hO0 hD0 hS0 hK0 hz0
          refine wpAnyH_ready (rs := [5]) (by kernel_rfl) (by simp) ?_
          refine AllReadyH.cons rfl (fun K hK => ?_) AllReadyH.nil
          have cL := hV1.1.2
          dsimp only at cL
          go_simp
          refine hK.out _ _ hV1.1.1 (fun hHeld => ?_)
          clear hK K
          refine wpAnyH_take (i := 6) (v := ?_) rfl (by kernel_rfl) (by kernel_rfl) (by kernel_rfl) (fun _ _ _ h => h) (Or.inl ⟨by rfl, ?hy7⟩) (by assumption) ?ty7
          case hy7 => (intro w5 hSw; (try dsimp only at hSw); go_simp; all_goals with_reducible rfl)
          simp only [Act.put, List.getElem_toArray, List.getElem_cons_zero, List.getElem_cons_succ, List.setIfInBounds_toArray, List.set_cons_zero, List.set_cons_succ]
          refine wpAnyH_take (i := 7) (v := ?_) rfl (by kernel_rfl) (by kernel_rfl) (by kernel_rfl) (fun _ _ _ h => h) (Or.inl ⟨by rfl, ?hy8⟩) (by assumption) ?ty8
          case hy8 => (intro w5 hSw; (try dsimp only at hSw); go_simp; all_goals with_reducible rfl)
          simp only [Act.put, List.getElem_toArray, List.getElem_cons_zero, List.getElem_cons_succ, List.setIfInBounds_toArray, List.set_cons_zero, List.set_cons_succ]
          refine wpAnyH_ready (rs := [8]) (by kernel_rfl) (by simp) ?_
          refine AllReadyH.cons rfl (fun K hK => ?_) AllReadyH.nil
          go_simp
          refine hK.out _ _ hV1.1.1 (fun hHeld => ?_)
          clear hK K
          refine wpAnyH_ready (rs := [11]) (by kernel_rfl) (by simp) ?_
          refine AllReadyH.cons rfl (fun K hK => ?_) AllReadyH.nil
          go_simp
          refine (l7DrawBox_any B b (M + 1 + 710 * i) (nm3B i) ((i : Int) + 1) _ hS1 (by omega)).mono ?_
          rintro e Y2 ⟨m, s, rfl, hu1, hu2, hu3, hl, hd2, hS2, hk2, -⟩
          obtain ⟨mn, mv, mx, mm⟩ := m
          obtain ⟨sa, sn, sc⟩ := s
          dsimp only [bxX, slW] at hu1 hu2 hu3 hl hd2 ⊢
          subst hu1 hu2
          have hR2 := hR1.grown hk2 (fun e => by injection e with e; omega)
          have hV2 := hV1.grown hk2 (fun e => by injection e with e; omega)
          have hO2 := hO1.kb hk2 (by omega)
          have hD2 := hD1.kz (Kz.kb hk2 (by omega))
          have hK2 := hK1.trans hk2
          have hz2 := Nat.le_trans hz1 (World.grownBy.size hk2)
          have hd2 := hd2.low (lo' := w.heap.size + 2) (by have := hz1; omega)
          refine hK.out _ _ hV2.1.1 (fun hHeld => ?_)
          clear hK K
          clear hR1 hV1 hO1 hD1 hS1 hK1 hz1
          refine wpAnyH_ready (rs := [12]) (by kernel_rfl) (by simp) ?_
          refine AllReadyH.cons rfl (fun K hK => ?_) AllReadyH.nil
          have hb3 : Below (World.heap Y2).size Y2 (World.alloc Y2 (.cells #[.string (nm3B i), .int .i64 ((i : Int) + 1), .int .i64 mx, .slice sa sn sc] 39)) := (Below.refl _ _).alloc (Nat.le_refl _) _
          have hQ3 := Qc.new Y2 (.string (nm3B i)) (.int .i64 ((i : Int) + 1)) (.int .i64 mx) (.slice sa sn sc) 39
          have hR3 := hR2.below hb3 hR2.lt
          have hV3 := hV2.below hb3 hV2.lt
          have hO3 := hO2.below hb3 (Nat.le_refl _)
          have hD3 := hD2.kz (Kz.below _ hb3)
          have hS3 := hS2.below (hb3.mono hS2.2.1)
          have hK3 := hK2.below hb3
          have hz3 := Nat.le_trans hz2 hb3.size
          have hd3 := hd2.kz (Kz.below _ hb3)
          go_simp
          generalize World.alloc Y2 (.cells #[.string (nm3B i), .int .i64 ((i : Int) + 1), .int .i64 mx, .slice sa sn sc] 39) = Y3 at *
          refine hK.out _ _ hV3.1.1 (fun hHeld => ?_)
          clear hK K
          clear hR2 hV2 hO2 hD2 hS2 hK2 hz2
          refine wpAnyH_ready (rs := [13]) (by kernel_rfl) (by simp) ?_
          refine AllReadyH.cons rfl (fun K hK => ?_) AllReadyH.nil
          refine step_appX rfl _ _ rfl (w.heap.size + 2) (.slice av i cv) ql (by rfl) hO3 _ (.string (nm3B i), .int .i64 ((i : Int) + 1), .int .i64 mx, .slice sa sn sc) (by rfl) hQ3 ⟨rfl, rfl, rfl, rfl⟩ (by have := HQ.out; omega) (by omega) ?_
          intro v2 Y4 hO4 hg4
          obtain ⟨a2, n2, k2, rfl⟩ : ∃ a n c, v2 = Value.slice a n c := by obtain ⟨a, c, e, -⟩ := OwnX.form hO4; exact ⟨a, _, c, e⟩
          have hKz : Kz (w.heap.size + 2) isN _ Y4 := hO3.kz isN hg4 hD3.first h0
          have hB : Below (w.heap.size + 2) _ Y4 := (Below.refl _ _).grown hg4 hz3 hne
          have hR4 := hR3.below hB (by omega)
          have hV4 := hV3.below hB (by omega)
          have hD4 := (hD3.kz hKz).snoc ⟨nm3B i, (i : Int) + 1, mx, mm⟩ (sa, sn, sc) (hd3.kz hKz) ⟨nm3B_size i, by dsimp only; omega⟩
          have hS4 := hS3.below (hB.mono (by omega))
          have hK4 := hK3.below' (hB.mono (by omega))
          have hz4 := Nat.le_trans hz3 hB.size
          refine hK.out _ _ hV4.1.1 (fun hHeld => ?_)
          clear hK K
          clear hB hKz hg4
          clear hR3 hV3 hO3 hD3 hS3 hK3 hz3
          refine wpAnyH_take (i := 14) (v := ?_) rfl (by kernel_rfl) (by kernel_rfl) (by kernel_rfl) (fun _ _ _ h => h) (Or.inl ⟨by rfl, ?hy9⟩) (by assumption) ?ty9
          case hy9 => (intro w5 hSw; (try dsimp only at hSw); go_simp; all_goals with_reducible rfl)
          simp only [Act.put, List.getElem_toArray, List.getElem_cons_zero, List.getElem_cons_succ, List.setIfInBounds_toArray, List.set_cons_zero, List.set_cons_succ]
          obtain ⟨⟨c0, c1⟩, f0, f1⟩ := id hV4
          dsimp only at c0 c1
          refine wpAnyH_ready (rs := [15]) (by kernel_rfl) (by simp) ?_
          refine AllReadyH.cons rfl (fun K hK => ?_) AllReadyH.nil
          have hV4s := hV4.set1 (.slice a2 n2 k2)
          have hR4s := hR4.far (w.heap.size + 1) 1 (.slice a2 n2 k2) (by omega)
          have hO4s := hO4.set ⟨w.heap.size + 1, 1, none⟩ (by simp) (.slice a2 n2 k2)
          have hBs : Below w.heap.size Y4 (World.setCell Y4 ⟨w.heap.size + 1, 1, none⟩ (.slice a2 n2 k2)) := (Below.refl _ _).setCell (by simp) _
          have hD4s := hD4.kz (Kz.set (R := w.heap.size + 1) (j := 1) isN (.slice a2 n2 k2) (by omega))
          have hS4s := hS4.below (hBs.mono hbw)
          have hK4s := hK4.below' hBs
          have hz4s := Nat.le_trans hz4 hBs.size
          clear hR4 hV4 hO4 hD4 hS4 hK4 hz4 hBs
          go_simp
          generalize World.setCell Y4 ⟨w.heap.size + 1, 1, none⟩ (.slice a2 n2 k2) = Y at *
          refine hK.out _ _ hV4s.1.1 (fun hHeld => ?_)
          clear hK K
          clear c0 c1 f0 f1
          refine wpAnyH_done (by kernel_rfl) ?_ _
          clear hHeld
          have hq0 : ql ++ [((.string (nm3B i), .int .i64 ((i : Int) + 1), .int .i64 mx, .slice sa sn sc) : Qd)] ≠ [] := by simp
          obtain ⟨⟨c0, c1⟩, f0, f1⟩ := id hV4s
          dsimp only at c0 c1
          have hV7 := hV4s.set0 (.int .i64 ((i : Int) + 1 + 1))
          have hR7 := hR4s.far (w.heap.size + 1) 0 (.int .i64 ((i : Int) + 1 + 1)) (by omega)
          have hO7 := hO4s.set ⟨w.heap.size + 1, 0, none⟩ (by simp) (.int .i64 ((i : Int) + 1 + 1))
          have hBs : Below w.heap.size Y (World.setCell Y ⟨w.heap.size + 1, 0, none⟩ (.int .i64 ((i : Int) + 1 + 1))) := (Below.refl _ _).setCell (by simp) _
          have hD7 := hD4s.kz (Kz.set (R := w.heap.size + 1) (j := 0) isN (.int .i64 ((i : Int) + 1 + 1)) (by omega))
          have hS7 := (hS4s.below (hBs.mono hbw)).more (show _ ≤ M + 1 + 710 * (i + 1) by omega)
          have hK7 := hK4s.below' hBs
          have hz7 := Nat.le_trans hz4s hBs.size
          have HX : Hid (_) := And.intro hR7 (And.intro hV7 (And.intro hO7 (And.intro hD7 (And.intro hS7 (And.intro hK7 hz7)))))
          clear hR7 hV7 hO7 hD7 hS7 hK7 hz7 hBs hR4s hV4s hO4s hD4s hS4s hK4s hz4s
          go_wp2
          go_roundw
          case rel => exact ⟨i + 1, .slice a2 n2 k2, ql ++ [(.string (nm3B i), .int .i64 ((i : Int) + 1), .int .i64 mx, .slice sa sn sc)], l ++ [⟨nm3B i, (i : Int) + 1, mx, mm⟩], by omega, by go_num, by simp [hli], HX.out.1, HX.out.2.1, HX.out.2.2.1, HX.out.2.2.2.1, fun e => absurd e hq0, HX.out.2.2.2.2.1, HX.out.2.2.2.2.2.1, HX.out.2.2.2.2.2.2⟩
          case measure => simp [intOf]; omega
        · have cL := hV0.1.2
          dsimp only at cL
          go_simp
          refine hK.out _ _ hV0.1.1 (fun hHeld => ?_)
          clear hK K
          refine wpAnyH_take (i := 6) (v := ?_) rfl (by kernel_rfl) (by kernel_rfl) (by kernel_rfl) (fun _ _ _ h => h) (Or.inl ⟨by rfl, ?hy10⟩) (by assumption) ?ty10
          case hy10 => (intro w5 hSw; (try dsimp only at hSw); go_simp; all_goals with_reducible rfl)
          simp only [Act.put, List.getElem_toArray, List.getElem_cons_zero, List.getElem_cons_succ, List.setIfInBounds_toArray, List.set_cons_zero, List.set_cons_succ]
          refine wpAnyH_ready (rs := [3]) (by kernel_rfl) (by simp) ?_
          refine AllReadyH.cons rfl (fun K hK => ?_) AllReadyH.nil
          have hb1 : Below (World.heap Y0).size Y0 (World.alloc Y0 (.cells #[.string ⟨#[105, 110]⟩, .string ⟨#[111, 108, 100]⟩, .string ⟨#[98, 111, 120]⟩] 9)) := (Below.refl _ _).alloc (Nat.le_refl _) _
          have hN := nm3B_cells Y0 i hi3
          have hR1 := hR0.below hb1 hR0.lt
          have hV1 := hV0.below hb1 hV0.lt
          have hO1 := hO0.below hb1 (Nat.le_refl _)
          have hD1 := hD0.kz (Kz.below _ hb1)
          have hS1 := hS0.below (hb1.mono hS0.2.1)
          have hK1 := hK0.below hb1
          have hz1 := Nat.le_trans hz0 hb1.size
          go_simp
          generalize World.alloc Y0 (.cells #[.string ⟨#[105, 110]⟩, .string ⟨#[111, 108, 100]⟩, .string ⟨#[98, 111, 120]⟩] 9) = Y1 at *
          generalize (World.heap Y0).size = gS at *
          refine hK.out _ _ hV1.1.1 (fun hHeld => ?_)
          clear hK K
          clear hR0 hV0 hO0 hD0 hS0 hK0 hz0
          refine wpAnyH_take (i := 7) (v := ?_) rfl (by kernel_rfl) (by kernel_rfl) (by kernel_rfl) (fun _ _ _ h => h) (Or.inl ⟨by rfl, ?hy11⟩) (by assumption) ?ty11
          case hy11 => (intro w5 hSw; (try dsimp only at hSw); go_simp; all_goals with_reducible rfl)
          simp only [Act.put, List.getElem_toArray, List.getElem_cons_zero, List.getElem_cons_succ, List.setIfInBounds_toArray, List.set_cons_zero, List.set_cons_succ]
          refine wpAnyH_ready (rs := [8]) (by kernel_rfl) (by simp) ?_
          refine AllReadyH.cons rfl (fun K hK => ?_) AllReadyH.nil
          go_simp
          refine hK.out _ _ hV1.1.1 (fun hHeld => ?_)
          clear hK K
          refine wpAnyH_ready (rs := [11]) (by kernel_rfl) (by simp) ?_
          refine AllReadyH.cons rfl (fun K hK => ?_) AllReadyH.nil
          go_simp
          refine (l7DrawBox_any B b (M + 1 + 710 * i) (nm3B i) ((i : Int) + 1) _ hS1 (by omega)).mono ?_
          rintro e Y2 ⟨m, s, rfl, hu1, hu2, hu3, hl, hd2, hS2, hk2, -⟩
          obtain ⟨mn, mv, mx, mm⟩ := m
          obtain ⟨sa, sn, sc⟩ := s
          dsimp only [bxX, slW] at hu1 hu2 hu3 hl hd2 ⊢
          subst hu1 hu2
          have hR2 := hR1.grown hk2 (fun e => by injection e with e; omega)
          have hV2 := hV1.grown hk2 (fun e => by injection e with e; omega)
          have hO2 := hO1.kb hk2 (by omega)
          have hD2 := hD1.kz (Kz.kb hk2 (by omega))
          have hK2 := hK1.trans hk2
          have hz2 := Nat.le_trans hz1 (World.grownBy.size hk2)
          have hd2 := hd2.low (lo' := w.heap.size + 2) (by have := hz1; omega)
          refine hK.out _ _ hV2.1.1 (fun hHeld => ?_)
          clear hK K
          clear hR1 hV1 hO1 hD1 hS1 hK1 hz1
          refine wpAnyH_ready (rs := [12]) (by kernel_rfl) (by simp) ?_
          refine AllReadyH.cons rfl (fun K hK => ?_) AllReadyH.nil
          have hb3 : Below (World.heap Y2).size Y2 (World.alloc Y2 (.cells #[.string (nm3B i), .int .i64 ((i : Int) + 1), .int .i64 mx, .slice sa sn sc] 39)) := (Below.refl _ _).alloc (Nat.le_refl _) _
          have hQ3 := Qc.new Y2 (.string (nm3B i)) (.int .i64 ((i : Int) + 1)) (.int .i64 mx) (.slice sa sn sc) 39
          have hR3 := hR2.below hb3 hR2.lt
          have hV3 := hV2.below hb3 hV2.lt
          have hO3 := hO2.below hb3 (Nat.le_refl _)
          have hD3 := hD2.kz (Kz.below _ hb3)
          have hS3 := hS2.below (hb3.mono hS2.2.1)
          have hK3 := hK2.below hb3
          have hz3 := Nat.le_trans hz2 hb3.size
          have hd3 := hd2.kz (Kz.below _ hb3)
          go_simp
          generalize World.alloc Y2 (.cells #[.string (nm3B i), .int .i64 ((i : Int) + 1), .int .i64 mx, .slice sa sn sc] 39) = Y3 at *
          refine hK.out _ _ hV3.1.1 (fun hHeld => ?_)
          clear hK K
          clear hR2 hV2 hO2 hD2 hS2 hK2 hz2
          refine wpAnyH_ready (rs := [13]) (by kernel_rfl) (by simp) ?_
          refine AllReadyH.cons rfl (fun K hK => ?_) AllReadyH.nil
          refine step_appX rfl _ _ rfl (w.heap.size + 2) (.slice av i cv) ql (by rfl) hO3 _ (.string (nm3B i), .int .i64 ((i : Int) + 1), .int .i64 mx, .slice sa sn sc) (by rfl) hQ3 ⟨rfl, rfl, rfl, rfl⟩ (by have := HQ.out; omega) (by omega) ?_
          intro v2 Y4 hO4 hg4
          obtain ⟨a2, n2, k2, rfl⟩ : ∃ a n c, v2 = Value.slice a n c := by obtain ⟨a, c, e, -⟩ := OwnX.form hO4; exact ⟨a, _, c, e⟩
          have hKz : Kz (w.heap.size + 2) isN _ Y4 := hO3.kz isN hg4 hD3.first h0
          have hB : Below (w.heap.size + 2) _ Y4 := (Below.refl _ _).grown hg4 hz3 hne
          have hR4 := hR3.below hB (by omega)
          have hV4 := hV3.below hB (by omega)
          have hD4 := (hD3.kz hKz).snoc ⟨nm3B i, (i : Int) + 1, mx, mm⟩ (sa, sn, sc) (hd3.kz hKz) ⟨nm3B_size i, by dsimp only; omega⟩
          have hS4 := hS3.below (hB.mono (by omega))
          have hK4 := hK3.below' (hB.mono (by omega))
          have hz4 := Nat.le_trans hz3 hB.size
          refine hK.out _ _ hV4.1.1 (fun hHeld => ?_)
          clear hK K
          clear hB hKz hg4
          clear hR3 hV3 hO3 hD3 hS3 hK3 hz3
          refine wpAnyH_take (i := 14) (v := ?_) rfl (by kernel_rfl) (by kernel_rfl) (by kernel_rfl) (fun _ _ _ h => h) (Or.inl ⟨by rfl, ?hy12⟩) (by assumption) ?ty12
          case hy12 => (intro w5 hSw; (try dsimp only at hSw); go_simp; all_goals with_reducible rfl)
          simp only [Act.put, List.getElem_toArray, List.getElem_cons_zero, List.getElem_cons_succ, List.setIfInBounds_toArray, List.set_cons_zero, List.set_cons_succ]
          obtain ⟨⟨c0, c1⟩, f0, f1⟩ := id hV4
          dsimp only at c0 c1
          refine wpAnyH_ready (rs := [15]) (by kernel_rfl) (by simp) ?_
          refine AllReadyH.cons rfl (fun K hK => ?_) AllReadyH.nil
          have hV4s := hV4.set1 (.slice a2 n2 k2)
          have hR4s := hR4.far (w.heap.size + 1) 1 (.slice a2 n2 k2) (by omega)
          have hO4s := hO4.set ⟨w.heap.size + 1, 1, none⟩ (by simp) (.slice a2 n2 k2)
          have hBs : Below w.heap.size Y4 (World.setCell Y4 ⟨w.heap.size + 1, 1, none⟩ (.slice a2 n2 k2)) := (Below.refl _ _).setCell (by simp) _
          have hD4s := hD4.kz (Kz.set (R := w.heap.size + 1) (j := 1) isN (.slice a2 n2 k2) (by omega))
          have hS4s := hS4.below (hBs.mono hbw)
          have hK4s := hK4.below' hBs
          have hz4s := Nat.le_trans hz4 hBs.size
          clear hR4 hV4 hO4 hD4 hS4 hK4 hz4 hBs
          go_simp
          generalize World.setCell Y4 ⟨w.heap.size + 1, 1, none⟩ (.slice a2 n2 k2) = Y at *
          refine hK.out _ _ hV4s.1.1 (fun hHeld => ?_)
          clear hK K
          clear c0 c1 f0 f1
          refine wpAnyH_done (by kernel_rfl) ?_ _
          clear hHeld
          have hq0 : ql ++ [((.string (nm3B i), .int .i64 ((i : Int) + 1), .int .i64 mx, .slice sa sn sc) : Qd)] ≠ [] := by simp
          obtain ⟨⟨c0, c1⟩, f0, f1⟩ := id hV4s
          dsimp only at c0 c1
          have hV7 := hV4s.set0 (.int .i64 ((i : Int) + 1 + 1))
          have hR7 := hR4s.far (w.heap.size + 1) 0 (.int .i64 ((i : Int) + 1 + 1)) (by omega)
          have hO7 := hO4s.set ⟨w.heap.size + 1, 0, none⟩ (by simp) (.int .i64 ((i : Int) + 1 + 1))
          have hBs : Below w.heap.size Y (World.setCell Y ⟨w.heap.size + 1, 0, none⟩ (.int .i64 ((i : Int) + 1 + 1))) := (Below.refl _ _).setCell (by simp) _
          have hD7 := hD4s.kz (Kz.set (R := w.heap.size + 1) (j := 0) isN (.int .i64 ((i : Int) + 1 + 1)) (by omega))
          have hS7 := (hS4s.below (hBs.mono hbw)).more (show _ ≤ M + 1 + 710 * (i + 1) by omega)
          have hK7 := hK4s.below' hBs
          have hz7 := Nat.le_trans hz4s hBs.size
          have HX : Hid (_) := And.intro hR7 (And.intro hV7 (And.intro hO7 (And.intro hD7 (And.intro hS7 (And.intro hK7 hz7)))))
          clear hR7 hV7 hO7 hD7 hS7 hK7 hz7 hBs hR4s hV4s hO4s hD4s hS4s hK4s hz4s
          go_wp2
          go_roundw
          case rel => exact ⟨i + 1, .slice a2 n2 k2, ql ++ [(.string (nm3B i), .int .i64 ((i : Int) + 1), .int .i64 mx, .slice sa sn sc)], l ++ [⟨nm3B i, (i : Int) + 1, mx, mm⟩], by omega, by go_num, by simp [hli], HX.out.1, HX.out.2.1, HX.out.2.2.1, HX.out.2.2.2.1, fun e => absurd e hq0, HX.out.2.2.2.2.1, HX.out.2.2.2.2.2.1, HX.out.2.2.2.2.2.2⟩
          case measure => simp [intOf]; omega
      · have hb1 : Below (World.heap Y0).size Y0 (World.alloc Y0 (.cells #[.string ⟨#[105, 110]⟩, .string ⟨#[111, 108, 100]⟩, .string ⟨#[98, 111, 120]⟩] 9)) := (Below.refl _ _).alloc (Nat.le_refl _) _
        have hN := nm3B_cells Y0 i hi3
        have hR1 := hR0.below hb1 hR0.lt
        have hV1 := hV0.below hb1 hV0.lt
        have hO1 := hO0.below hb1 (Nat.le_refl _)
        have hD1 := hD0.kz (Kz.below _ hb1)
        have hS1 := hS0.below (hb1.mono hS0.2.1)
        have hK1 := hK0.below hb1
        have hz1 := Nat.le_trans hz0 hb1.size
        go_simp
        generalize World.alloc Y0 (.cells #[.string ⟨#[105, 110]⟩, .string ⟨#[111, 108, 100]⟩, .string ⟨#[98, 111, 120]⟩] 9) = Y1 at *
        generalize (World.heap Y0).size = gS at *
        refine hK.out _ _ hV1.1.1 (fun hHeld => ?_)
        clear hK K
        clear hR0 hV0 hO0 hD0 hS0 hK0 hz0
        refine wpAnyH_ready (rs := [1, 5]) (by kernel_rfl) (by simp) ?_
        refine AllReadyH.cons rfl (fun K hK => ?_) (AllReadyH.cons rfl (fun K hK => ?_) AllReadyH.nil)
        · have cL := hV1.1.2
          dsimp only at cL
          go_simp
          refine hK.out _ _ hV1.1.1 (fun hHeld => ?_)
          clear hK K
          refine wpAnyH_ready (rs := [5]) (by kernel_rfl) (by simp) ?_
          refine AllReadyH.cons rfl (fun K hK => ?_) AllReadyH.nil
          have cL := hV1.1.2
          dsimp only at cL
          go_simp
          refine hK.out _ _ hV1.1.1 (fun hHeld => ?_)
          clear hK K
          refine wpAnyH_take (i := 6) (v := ?_) rfl (by kernel_rfl) (by kernel_rfl) (by kernel_rfl) (fun _ _ _ h => h) (Or.inl ⟨by rfl, ?hy13⟩) (by assumption) ?ty13
          case hy13 => (intro w5 hSw; (try dsimp only at hSw); go_simp; all_goals with_reducible rfl)
          simp only [Act.put, List.getElem_toArray, List.getElem_cons_zero, List.getElem_cons_succ, List.setIfInBounds_toArray, List.set_cons_zero, List.set_cons_succ]
          refine wpAnyH_take (i := 7) (v := ?_) rfl (by kernel_rfl) (by kernel_rfl) (by kernel_rfl) (fun _ _ _ h => h) (Or.inl ⟨by rfl, ?hy14⟩) (by assumption) ?ty14
          case hy14 => (intro w5 hSw; (try dsimp only at hSw); go_simp; all_goals with_reducible rfl)
          simp only [Act.put, List.getElem_toArray, List.getElem_cons_zero, List.getElem_cons_succ, List.setIfInBounds_toArray, List.set_cons_zero, List.set_cons_succ]
          refine wpAnyH_ready (rs := [8]) (by kernel_rfl) (by simp) ?_
          refine AllReadyH.cons rfl (fun K hK => ?_) AllReadyH.nil
          go_simp
          refine hK.out _ _ hV1.1.1 (fun hHeld => ?_)
          clear hK K
          refine wpAnyH_ready (rs := [11]) (by kernel_rfl) (by simp) ?_
          refine AllReadyH.cons rfl (fun K hK => ?_) AllReadyH.nil
          go_simp
          refine (l7DrawBox_any B b (M + 1 + 710 * i) (nm3B i) ((i : Int) + 1) _ hS1 (by omega)).mono ?_
          rintro e Y2 ⟨m, s, rfl, hu1, hu2, hu3, hl, hd2, hS2, hk2, -⟩
          obtain ⟨mn, mv, mx, mm⟩ := m
          obtain ⟨sa, sn, sc⟩ := s
          dsimp only [bxX, slW] at hu1 hu2 hu3 hl hd2 ⊢
          subst hu1 hu2
          have hR2 := hR1.grown hk2 (fun e => by injection e with e; omega)
          have hV2 := hV1.grown hk2 (fun e => by injection e with e; omega)
          have hO2 := hO1.kb hk2 (by omega)
          have hD2 := hD1.kz (Kz.kb hk2 (by omega))
          have hK2 := hK1.trans hk2
          have hz2 := Nat.le_trans hz1 (World.grownBy.size hk2)
          have hd2 := hd2.low (lo' := w.heap.size + 2) (by have := hz1; omega)
          refine hK.out _ _ hV2.1.1 (fun hHeld => ?_)
          clear hK K
          clear hR1 hV1 hO1 hD1 hS1 hK1 hz1
          refine wpAnyH_ready (rs := [12]) (by kernel_rfl) (by simp) ?_
          refine AllReadyH.cons rfl (fun K hK => ?_) AllReadyH.nil
          have hb3 : Below (World.heap Y2).size Y2 (World.alloc Y2 (.cells #[.string (nm3B i), .int .i64 ((i : Int) + 1), .int .i64 mx, .slice sa sn sc] 39)) := (Below.refl _ _).alloc (Nat.le_refl _) _
          have hQ3 := Qc.new Y2 (.string (nm3B i)) (.int .i64 ((i : Int) + 1)) (.int .i64 mx) (.slice sa sn sc) 39
          have hR3 := hR2.below hb3 hR2.lt
          have hV3 := hV2.below hb3 hV2.lt
          have hO3 := hO2.below hb3 (Nat.le_refl _)
          have hD3 := hD2.kz (Kz.below _ hb3)
          have hS3 := hS2.below (hb3.mono hS2.2.1)
          have hK3 := hK2.below hb3
          have hz3 := Nat.le_trans hz2 hb3.size
          have hd3 := hd2.kz (Kz.below _ hb3)
          go_simp
          generalize World.alloc Y2 (.cells #[.string (nm3B i), .int .i64 ((i : Int) + 1), .int .i64 mx, .slice sa sn sc] 39) = Y3 at *
          refine hK.out _ _ hV3.1.1 (fun hHeld => ?_)
          clear hK K
          clear hR2 hV2 hO2 hD2 hS2 hK2 hz2
          refine wpAnyH_ready (rs := [13]) (by kernel_rfl) (by simp) ?_
          refine AllReadyH.cons rfl (fun K hK => ?_) AllReadyH.nil
          refine step_appX rfl _ _ rfl (w.heap.size + 2) (.slice av i cv) ql (by rfl) hO3 _ (.string (nm3B i), .int .i64 ((i : Int) + 1), .int .i64 mx, .slice sa sn sc) (by rfl) hQ3 ⟨rfl, rfl, rfl, rfl⟩ (by have := HQ.out; omega) (by omega) ?_
          intro v2 Y4 hO4 hg4
          obtain ⟨a2, n2, k2, rfl⟩ : ∃ a n c, v2 = Value.slice a n c := by obtain ⟨a, c, e, -⟩ := OwnX.form hO4; exact ⟨a, _, c, e⟩
          have hKz : Kz (w.heap.size + 2) isN _ Y4 := hO3.kz isN hg4 hD3.first h0
          have hB : Below (w.heap.size + 2) _ Y4 := (Below.refl _ _).grown hg4 hz3 hne
          have hR4 := hR3.below hB (by omega)
          have hV4 := hV3.below hB (by omega)
          have hD4 := (hD3.kz hKz).snoc ⟨nm3B i, (i : Int) + 1, mx, mm⟩ (sa, sn, sc) (hd3.kz hKz) ⟨nm3B_size i, by dsimp only; omega⟩
          have hS4 := hS3.below (hB.mono (by omega))
          have hK4 := hK3.below' (hB.mono (by omega))
          have hz4 := Nat.le_trans hz3 hB.size
          refine hK.out _ _ hV4.1.1 (fun hHeld => ?_)
          clear hK K
          clear hB hKz hg4
          clear hR3 hV3 hO3 hD3 hS3 hK3 hz3
          refine wpAnyH_take (i := 14) (v := ?_) rfl (by kernel_rfl) (by kernel_rfl) (by kernel_rfl) (fun _ _ _ h => h) (Or.inl ⟨by rfl, ?hy15⟩) (by assumption) ?ty15
          case hy15 => (intro w5 hSw; (try dsimp only at hSw); go_simp; all_goals with_reducible rfl)
          simp only [Act.put, List.getElem_toArray, List.getElem_cons_zero, List.getElem_cons_succ, List.setIfInBounds_toArray, List.set_cons_zero, List.set_cons_succ]
          obtain ⟨⟨c0, c1⟩, f0, f1⟩ := id hV4
          dsimp only at c0 c1
          refine wpAnyH_ready (rs := [15]) (by kernel_rfl) (by simp) ?_
          refine AllReadyH.cons rfl (fun K hK => ?_) AllReadyH.nil
          have hV4s := hV4.set1 (.slice a2 n2 k2)
          have hR4s := hR4.far (w.heap.size + 1) 1 (.slice a2 n2 k2) (by omega)
          have hO4s := hO4.set ⟨w.heap.size + 1, 1, none⟩ (by simp) (.slice a2 n2 k2)
          have hBs : Below w.heap.size Y4 (World.setCell Y4 ⟨w.heap.size + 1, 1, none⟩ (.slice a2 n2 k2)) := (Below.refl _ _).setCell (by simp) _
          have hD4s := hD4.kz (Kz.set (R := w.heap.size + 1) (j := 1) isN (.slice a2 n2 k2) (by omega))
          have hS4s := hS4.below (hBs.mono hbw)
          have hK4s := hK4.below' hBs
          have hz4s := Nat.le_trans hz4 hBs.size
          clear hR4 hV4 hO4 hD4 hS4 hK4 hz4 hBs
          go_simp
          generalize World.setCell Y4 ⟨w.heap.size + 1, 1, none⟩ (.slice a2 n2 k2) = Y at *
          refine hK.out _ _ hV4s.1.1 (fun hHeld => ?_)
          clear hK K
          clear c0 c1 f0 f1
          refine wpAnyH_done (by kernel_rfl) ?_ _
          clear hHeld
          have hq0 : ql ++ [((.string (nm3B i), .int .i64 ((i : Int) + 1), .int .i64 mx, .slice sa sn sc) : Qd)] ≠ [] := by simp
          obtain ⟨⟨c0, c1⟩, f0, f1⟩ := id hV4s
          dsimp only at c0 c1
          have hV7 := hV4s.set0 (.int .i64 ((i : Int) + 1 + 1))
          have hR7 := hR4s.far (w.heap.size + 1) 0 (.int .i64 ((i : Int) + 1 + 1)) (by omega)
          have hO7 := hO4s.set ⟨w.heap.size + 1, 0, none⟩ (by simp) (.int .i64 ((i : Int) + 1 + 1))
          have hBs : Below w.heap.size Y (World.setCell Y ⟨w.heap.size + 1, 0, none⟩ (.int .i64 ((i : Int) + 1 + 1))) := (Below.refl _ _).setCell (by simp) _
          have hD7 := hD4s.kz (Kz.set (R := w.heap.size + 1) (j := 0) isN (.int .i64 ((i : Int) + 1 + 1)) (by omega))
          have hS7 := (hS4s.below (hBs.mono hbw)).more (show _ ≤ M + 1 + 710 * (i + 1) by omega)
          have hK7 := hK4s.below' hBs
          have hz7 := Nat.le_trans hz4s hBs.size
          have HX : Hid (_) := And.intro hR7 (And.intro hV7 (And.intro hO7 (And.intro hD7 (And.intro hS7 (And.intro hK7 hz7)))))
          clear hR7 hV7 hO7 hD7 hS7 hK7 hz7 hBs hR4s hV4s hO4s hD4s hS4s hK4s hz4s
          go_wp2
          go_roundw
          case rel => exact ⟨i + 1, .slice a2 n2 k2, ql ++ [(.string (nm3B i), .int .i64 ((i : Int) + 1), .int .i64 mx, .slice sa sn sc)], l ++ [⟨nm3B i, (i : Int) + 1, mx, mm⟩], by omega, by go_num, by simp [hli], HX.out.1, HX.out.2.1, HX.out.2.2.1, HX.out.2.2.2.1, fun e => absurd e hq0, HX.out.2.2.2.2.1, HX.out.2.2.2.2.2.1, HX.out.2.2.2.2.2.2⟩
          case measure => simp [intOf]; omega
        · have cL := hV1.1.2
          dsimp only at cL
          go_simp
          refine hK.out _ _ hV1.1.1 (fun hHeld => ?_)
          clear hK K
          refine wpAnyH_take (i := 6) (v := ?_) rfl (by kernel_rfl) (by kernel_rfl) (by kernel_rfl) (fun _ _ _ h => h) (Or.inl ⟨by rfl, ?hy16⟩) (by assumption) ?ty16
          case hy16 => (intro w5 hSw; (try dsimp only at hSw); go_simp; all_goals with_reducible rfl)
          simp only [Act.put, List.getElem_toArray, List.getElem_cons_zero, List.getElem_cons_succ, List.setIfInBounds_toArray, List.set_cons_zero, List.set_cons_succ]
          refine wpAnyH_take (i := 7) (v := ?_) rfl (by kernel_rfl) (by kernel_rfl) (by kernel_rfl) (fun _ _ _ h => h) (Or.inl ⟨by rfl, ?hy17⟩) (by assumption) ?ty17
          case hy17 => (intro w5 hSw; (try dsimp only at hSw); go_simp; all_goals with_reducible rfl)
          simp only [Act.put, List.getElem_toArray, List.getElem_cons_zero, List.getElem_cons_succ, List.setIfInBounds_toArray, List.set_cons_zero, List.set_cons_succ]
          refine wpAnyH_ready (rs := [1, 8]) (by kernel_rfl) (by simp) ?_
          refine AllReadyH.cons rfl (fun K hK => ?_) (AllReadyH.cons rfl (fun K hK => ?_) AllReadyH.nil)
          · have cL := hV1.1.2
            dsimp only at cL
            go_simp
            refine hK.out _ _ hV1.1.1 (fun hHeld => ?_)
            clear hK K
            refine wpAnyH_ready (rs := [8]) (by kernel_rfl) (by simp) ?_
            refine AllReadyH.cons rfl (fun K hK => ?_) AllReadyH.nil
            go_simp
            refine hK.out _ _ hV1.1.1 (fun hHeld => ?_)
            clear hK K
            refine wpAnyH_ready (rs := [11]) (by kernel_rfl) (by simp) ?_
            refine AllReadyH.cons rfl (fun K hK => ?_) AllReadyH.nil
            go_simp
            refine (l7DrawBox_any B b (M + 1 + 710 * i) (nm3B i) ((i : Int) + 1) _ hS1 (by omega)).mono ?_
            rintro e Y2 ⟨m, s, rfl, hu1, hu2, hu3, hl, hd2, hS2, hk2, -⟩
            obtain ⟨mn, mv, mx, mm⟩ := m
            obtain ⟨sa, sn, sc⟩ := s
            dsimp only [bxX, slW] at hu1 hu2 hu3 hl hd2 ⊢
            subst hu1 hu2
            have hR2 := hR1.grown hk2 (fun e => by injection e with e; omega)
            have hV2 := hV1.grown hk2 (fun e => by injection e with e; omega)
            have hO2 := hO1.kb hk2 (by omega)
            have hD2 := hD1.kz (Kz.kb hk2 (by omega))
            have hK2 := hK1.trans hk2
            have hz2 := Nat.le_trans hz1 (World.grownBy.size hk2)
            have hd2 := hd2.low (lo' := w.heap.size + 2) (by have := hz1; omega)
            refine hK.out _ _ hV2.1.1 (fun hHeld => ?_)
            clear hK K
            clear hR1 hV1 hO1 hD1 hS1 hK1 hz1
            refine wpAnyH_ready (rs := [12]) (by kernel_rfl) (by simp) ?_
            refine AllReadyH.cons rfl (fun K hK => ?_) AllReadyH.nil
            have hb3 : Below (World.heap Y2).size Y2 (World.alloc Y2 (.cells #[.string (nm3B i), .int .i64 ((i : Int) + 1), .int .i64 mx, .slice sa sn sc] 39)) := (Below.refl _ _).alloc (Nat.le_refl _) _
            have hQ3 := Qc.new Y2 (.string (nm3B i)) (.int .i64 ((i : Int) + 1)) (.int .i64 mx) (.slice sa sn sc) 39
            have hR3 := hR2.below hb3 hR2.lt
            have hV3 := hV2.below hb3 hV2.lt
            have hO3 := hO2.below hb3 (Nat.le_refl _)
            have hD3 := hD2.kz (Kz.below _ hb3)
            have hS3 := hS2.below (hb3.mono hS2.2.1)
            have hK3 := hK2.below hb3
            have hz3 := Nat.le_trans hz2 hb3.size
            have hd3 := hd2.kz (Kz.below _ hb3)
            go_simp
            generalize World.alloc Y2 (.cells #[.string (nm3B i), .int .i64 ((i : Int) + 1), .int .i64 mx, .slice sa sn sc] 39) = Y3 at *
            refine hK.out _ _ hV3.1.1 (fun hHeld => ?_)
            clear hK K
            clear hR2 hV2 hO2 hD2 hS2 hK2 hz2
            refine wpAnyH_ready (rs := [13]) (by kernel_rfl) (by simp) ?_
            refine AllReadyH.cons rfl (fun K hK => ?_) AllReadyH.nil
            refine step_appX rfl _ _ rfl (w.heap.size + 2) (.slice av i cv) ql (by rfl) hO3 _ (.string (nm3B i), .int .i64 ((i : Int) + 1), .int .i64 mx, .slice sa sn sc) (by rfl) hQ3 ⟨rfl, rfl, rfl, rfl⟩ (by have := HQ.out; omega) (by omega) ?_
            intro v2 Y4 hO4 hg4
            obtain ⟨a2, n2, k2, rfl⟩ : ∃ a n c, v2 = Value.slice a n c := by obtain ⟨a, c, e, -⟩ := OwnX.form hO4; exact ⟨a, _, c, e⟩
            have hKz : Kz (w.heap.size + 2) isN _ Y4 := hO3.kz isN hg4 hD3.first h0
            have hB : Below (w.heap.size + 2) _ Y4 := (Below.refl _ _).grown hg4 hz3 hne
            have hR4 := hR3.below hB (by omega)
            have hV4 := hV3.below hB (by omega)
            have hD4 := (hD3.kz hKz).snoc ⟨nm3B i, (i : Int) + 1, mx, mm⟩ (sa, sn, sc) (hd3.kz hKz) ⟨nm3B_size i, by dsimp only; omega⟩
            have hS4 := hS3.below (hB.mono (by omega))
            have hK4 := hK3.below' (hB.mono (by omega))
            have hz4 := Nat.le_trans hz3 hB.size
            refine hK.out _ _ hV4.1.1 (fun hHeld => ?_)
            clear hK K
            clear hB hKz hg4
            clear hR3 hV3 hO3 hD3 hS3 hK3 hz3
            refine wpAnyH_take (i := 14) (v := ?_) rfl (by kernel_rfl) (by kernel_rfl) (by kernel_rfl) (fun _ _ _ h => h) (Or.inl ⟨by rfl, ?hy18⟩) (by assumption) ?ty18
            case hy18 => (intro w5 hSw; (try dsimp only at hSw); go_simp; all_goals with_reducible rfl)
            simp only [Act.put, List.getElem_toArray, List.getElem_cons_zero, List.getElem_cons_succ, List.setIfInBounds_toArray, List.set_cons_zero, List.set_cons_succ]
            obtain ⟨⟨c0, c1⟩, f0, f1⟩ := id hV4
            dsimp only at c0 c1
            refine wpAnyH_ready (rs := [15]) (by kernel_rfl) (by simp) ?_
            refine AllReadyH.cons rfl (fun K hK => ?_) AllReadyH.nil
            have hV4s := hV4.set1 (.slice a2 n2 k2)
            have hR4s := hR4.far (w.heap.size + 1) 1 (.slice a2 n2 k2) (by omega)
            have hO4s := hO4.set ⟨w.heap.size + 1, 1, none⟩ (by simp) (.slice a2 n2 k2)
            have hBs : Below w.heap.size Y4 (World.setCell Y4 ⟨w.heap.size + 1, 1, none⟩ (.slice a2 n2 k2)) := (Below.refl _ _).setCell (by simp) _
            have hD4s := hD4.kz (Kz.set (R := w.heap.size + 1) (j := 1) isN (.slice a2 n2 k2) (by omega))
            have hS4s := hS4.below (hBs.mono hbw)
            have hK4s := hK4.below' hBs
            have hz4s := Nat.le_trans hz4 hBs.size
            clear hR4 hV4 hO4 hD4 hS4 hK4 hz4 hBs
            go_simp
            generalize World.setCell Y4 ⟨w.heap.size + 1, 1, none⟩ (.slice a2 n2 k2) = Y at *
            refine hK.out _ _ hV4s.1.1 (fun hHeld => ?_)
            clear hK K
            clear c0 c1 f0 f1
            refine wpAnyH_done (by kernel_rfl) ?_ _
            clear hHeld
            have hq0 : ql ++ [((.string (nm3B i), .int .i64 ((i : Int) + 1), .int .i64 mx, .slice sa sn sc) : Qd)] ≠ [] := by simp
            obtain ⟨⟨c0, c1⟩, f0, f1⟩ := id hV4s
            dsimp only at c0 c1
            have hV7 := hV4s.set0 (.int .i64 ((i : Int) + 1 + 1))
            have hR7 := hR4s.far (w.heap.size + 1) 0 (.int .i64 ((i : Int) + 1 + 1)) (by omega)
            have hO7 := hO4s.set ⟨w.heap.size + 1, 0, none⟩ (by simp) (.int .i64 ((i : Int) + 1 + 1))
            have hBs : Below w.heap.size Y (World.setCell Y ⟨w.heap.size + 1, 0, none⟩ (.int .i64 ((i : Int) + 1 + 1))) := (Below.refl _ _).setCell (by simp) _
            have hD7 := hD4s.kz (Kz.set (R := w.heap.size + 1) (j := 0) isN (.int .i64 ((i : Int) + 1 + 1)) (by omega))
            have hS7 := (hS4s.below (hBs.mono hbw)).more (show _ ≤ M + 1 + 710 * (i + 1) by omega)
            have hK7 := hK4s.below' hBs
            have hz7 := Nat.le_trans hz4s hBs.size
            have HX : Hid (_) := And.intro hR7 (And.intro hV7 (And.intro hO7 (And.intro hD7 (And.intro hS7 (And.intro hK7 hz7)))))
            clear hR7 hV7 hO7 hD7 hS7 hK7 hz7 hBs hR4s hV4s hO4s hD4s hS4s hK4s hz4s
            go_wp2
            go_roundw
            case rel => exact ⟨i + 1, .slice a2 n2 k2, ql ++ [(.string (nm3B i), .int .i64 ((i : Int) + 1), .int .i64 mx, .slice sa sn sc)], l ++ [⟨nm3B i, (i : Int) + 1, mx, mm⟩], by omega, by go_num, by simp [hli], HX.out.1, HX.out.2.1, HX.out.2.2.1, HX.out.2.2.2.1, fun e => absurd e hq0, HX.out.2.2.2.2.1, HX.out.2.2.2.2.2.1, HX.out.2.2.2.2.2.2⟩
            case measure => simp [intOf]; omega
          · go_simp
            refine hK.out _ _ hV1.1.1 (fun hHeld => ?_)
            clear hK K
            refine wpAnyH_ready (rs := [1, 11]) (by kernel_rfl) (by simp) ?_
            refine AllReadyH.cons rfl (fun K hK => ?_) (AllReadyH.cons rfl (fun K hK => ?_) AllReadyH.nil)
            · have cL := hV1.1.2
              dsimp only at cL
              go_simp
              refine hK.out _ _ hV1.1.1 (fun hHeld => ?_)
              clear hK K
              refine wpAnyH_ready (rs := [11]) (by kernel_rfl) (by simp) ?_
              refine AllReadyH.cons rfl (fun K hK => ?_) AllReadyH.nil
              go_simp
              refine (l7DrawBox_any B b (M + 1 + 710 * i) (nm3B i) ((i : Int) + 1) _ hS1 (by omega)).mono ?_
              rintro e Y2 ⟨m, s, rfl, hu1, hu2, hu3, hl, hd2, hS2, hk2, -⟩
              obtain ⟨mn, mv, mx, mm⟩ := m
              obtain ⟨sa, sn, sc⟩ := s
              dsimp only [bxX, slW] at hu1 hu2 hu3 hl hd2 ⊢
              subst hu1 hu2
              have hR2 := hR1.grown hk2 (fun e => by injection e with e; omega)
              have hV2 := hV1.grown hk2 (fun e => by injection e with e; omega)
              have hO2 := hO1.kb hk2 (by omega)
              have hD2 := hD1.kz (Kz.kb hk2 (by omega))
              have hK2 := hK1.trans hk2
              have hz2 := Nat.le_trans hz1 (World.grownBy.size hk2)
              have hd2 := hd2.low (lo' := w.heap.size + 2) (by have := hz1; omega)
              refine hK.out _ _ hV2.1.1 (fun hHeld => ?_)
              clear hK K
              clear hR1 hV1 hO1 hD1 hS1 hK1 hz1
              refine wpAnyH_ready (rs := [12]) (by kernel_rfl) (by simp) ?_
              refine AllReadyH.cons rfl (fun K hK => ?_) AllReadyH.nil
              have hb3 : Below (World.heap Y2).size Y2 (World.alloc Y2 (.cells #[.string (nm3B i), .int .i64 ((i : Int) + 1), .int .i64 mx, .slice sa sn sc] 39)) := (Below.refl _ _).alloc (Nat.le_refl _) _
              have hQ3 := Qc.new Y2 (.string (nm3B i)) (.int .i64 ((i : Int) + 1)) (.int .i64 mx) (.slice sa sn sc) 39
              have hR3 := hR2.below hb3 hR2.lt
              have hV3 := hV2.below hb3 hV2.lt
              have hO3 := hO2.below hb3 (Nat.le_refl _)
              have hD3 := hD2.kz (Kz.below _ hb3)
              have hS3 := hS2.below (hb3.mono hS2.2.1)
              have hK3 := hK2.below hb3
              have hz3 := Nat.le_trans hz2 hb3.size
              have hd3 := hd2.kz (Kz.below _ hb3)
              go_simp
              generalize World.alloc Y2 (.cells #[.string (nm3B i), .int .i64 ((i : Int) + 1), .int .i64 mx, .slice sa sn sc] 39) = Y3 at *
              refine hK.out _ _ hV3.1.1 (fun hHeld => ?_)
              clear hK K
              clear hR2 hV2 hO2 hD2 hS2 hK2 hz2
              refine wpAnyH_ready (rs := [13]) (by kernel_rfl) (by simp) ?_
              refine AllReadyH.cons rfl (fun K hK => ?_) AllReadyH.nil
              refine step_appX rfl _ _ rfl (w.heap.size + 2) (.slice av i cv) ql (by rfl) hO3 _ (.string (nm3B i), .int .i64 ((i : Int) + 1), .int .i64 mx, .slice sa sn sc) (by rfl) hQ3 ⟨rfl, rfl, rfl, rfl⟩ (by have := HQ.out; omega) (by omega) ?_
              intro v2 Y4 hO4 hg4
              obtain ⟨a2, n2, k2, rfl⟩ : ∃ a n c, v2 = Value.slice a n c := by obtain ⟨a, c, e, -⟩ := OwnX.form hO4; exact ⟨a, _, c, e⟩
              have hKz : Kz (w.heap.size + 2) isN _ Y4 := hO3.kz isN hg4 hD3.first h0
              have hB : Below (w.heap.size + 2) _ Y4 := (Below.refl _ _).grown hg4 hz3 hne
              have hR4 := hR3.below hB (by omega)
              have hV4 := hV3.below hB (by omega)
              have hD4 := (hD3.kz hKz).snoc ⟨nm3B i, (i : Int) + 1, mx, mm⟩ (sa, sn, sc) (hd3.kz hKz) ⟨nm3B_size i, by dsimp only; omega⟩
              have hS4 := hS3.below (hB.mono (by omega))
              have hK4 := hK3.below' (hB.mono (by omega))
              have hz4 := Nat.le_trans hz3 hB.size
              refine hK.out _ _ hV4.1.1 (fun hHeld => ?_)
              clear hK K
              clear hB hKz hg4
              clear hR3 hV3 hO3 hD3 hS3 hK3 hz3
              refine wpAnyH_take (i := 14) (v := ?_) rfl (by kernel_rfl) (by kernel_rfl) (by kernel_rfl) (fun _ _ _ h => h) (Or.inl ⟨by rfl, ?hy19⟩) (by assumption) ?ty19
              case hy19 => (intro w5 hSw; (try dsimp only at hSw); go_simp; all_goals with_reducible rfl)
              simp only [Act.put, List.getElem_toArray, List.getElem_cons_zero, List.getElem_cons_succ, List.setIfInBounds_toArray, List.set_cons_zero, List.set_cons_succ]
              obtain ⟨⟨c0, c1⟩, f0, f1⟩ := id hV4
              dsimp only at c0 c1
              refine wpAnyH_ready (rs := [15]) (by kernel_rfl) (by simp) ?_
              refine AllReadyH.cons rfl (fun K hK => ?_) AllReadyH.nil
              have hV4s := hV4.set1 (.slice a2 n2 k2)
              have hR4s := hR4.far (w.heap.size + 1) 1 (.slice a2 n2 k2) (by omega)
              have hO4s := hO4.set ⟨w.heap.size + 1, 1, none⟩ (by simp) (.slice a2 n2 k2)
              have hBs : Below w.heap.size Y4 (World.setCell Y4 ⟨w.heap.size + 1, 1, none⟩ (.slice a2 n2 k2)) := (Below.refl _ _).setCell (by simp) _
              have hD4s := hD4.kz (Kz.set (R := w.heap.size + 1) (j := 1) isN (.slice a2 n2 k2) (by omega))
              have hS4s := hS4.below (hBs.mono hbw)
              have hK4s := hK4.below' hBs
              have hz4s := Nat.le_trans hz4 hBs.size
              clear hR4 hV4 hO4 hD4 hS4 hK4 hz4 hBs
              go_simp
              generalize World.setCell Y4 ⟨w.heap.size + 1, 1, none⟩ (.slice a2 n2 k2) = Y at *
              refine hK.out _ _ hV4s.1.1 (fun hHeld => ?_)
              clear hK K
              clear c0 c1 f0 f1
              refine wpAnyH_done (by kernel_rfl) ?_ _
              clear hHeld
              have hq0 : ql ++ [((.string (nm3B i), .int .i64 ((i : Int) + 1), .int .i64 mx, .slice sa sn sc) : Qd)] ≠ [] := by simp
              obtain ⟨⟨c0, c1⟩, f0, f1⟩ := id hV4s
              dsimp only at c0 c1
              have hV7 := hV4s.set0 (.int .i64 ((i : Int) + 1 + 1))
              have hR7 := hR4s.far (w.heap.size + 1) 0 (.int .i64 ((i : Int) + 1 + 1)) (by omega)
              have hO7 := hO4s.set ⟨w.heap.size + 1, 0, none⟩ (by simp) (.int .i64 ((i : Int) + 1 + 1))
              have hBs : Below w.heap.size Y (World.setCell Y ⟨w.heap.size + 1, 0, none⟩ (.int .i64 ((i : Int) + 1 + 1))) := (Below.refl _ _).setCell (by simp) _
              have hD7 := hD4s.kz (Kz.set (R := w.heap.size + 1) (j := 0) isN (.int .i64 ((i : Int) + 1 + 1)) (by omega))
              have hS7 := (hS4s.below (hBs.mono hbw)).more (show _ ≤ M + 1 + 710 * (i + 1) by omega)
              have hK7 := hK4s.below' hBs
              have hz7 := Nat.le_trans hz4s hBs.size
              have HX : Hid (_) := And.intro hR7 (And.intro hV7 (And.intro hO7 (And.intro hD7 (And.intro hS7 (And.intro hK7 hz7)))))
              clear hR7 hV7 hO7 hD7 hS7 hK7 hz7 hBs hR4s hV4s hO4s hD4s hS4s hK4s hz4s
              go_wp2
              go_roundw
              case rel => exact ⟨i + 1, .slice a2 n2 k2, ql ++ [(.string (nm3B i), .int .i64 ((i : Int) + 1), .int .i64 mx, .slice sa sn sc)], l ++ [⟨nm3B i, (i : Int) + 1, mx, mm⟩], by omega, by go_num, by simp [hli], HX.out.1, HX.out.2.1, HX.out.2.2.1, HX.out.2.2.2.1, fun e => absurd e hq0, HX.out.2.2.2.2.1, HX.out.2.2.2.2.2.1, HX.out.2.2.2.2.2.2⟩
              case measure => simp [intOf]; omega
            · go_simp
              refine (l7DrawBox_any B b (M + 1 + 710 * i) (nm3B i) ((i : Int) + 1) _ hS1 (by omega)).mono ?_
              rintro e Y2 ⟨m, s, rfl, hu1, hu2, hu3, hl, hd2, hS2, hk2, -⟩
              obtain ⟨mn, mv, mx, mm⟩ := m
              obtain ⟨sa, sn, sc⟩ := s
              dsimp only [bxX, slW] at hu1 hu2 hu3 hl hd2 ⊢
              subst hu1 hu2
              have hR2 := hR1.grown hk2 (fun e => by injection e with e; omega)
              have hV2 := hV1.grown hk2 (fun e => by injection e with e; omega)
              have hO2 := hO1.kb hk2 (by omega)
              have hD2 := hD1.kz (Kz.kb hk2 (by omega))
              have hK2 := hK1.trans hk2
              have hz2 := Nat.le_trans hz1 (World.grownBy.size hk2)
              have hd2 := hd2.low (lo' := w.heap.size + 2) (by have := hz1; omega)
              refine hK.out _ _ hV2.1.1 (fun hHeld => ?_)
              clear hK K
              clear hR1 hV1 hO1 hD1 hS1 hK1 hz1
              refine wpAnyH_ready (rs := [1, 12]) (by kernel_rfl) (by simp) ?_
              refine AllReadyH.cons rfl (fun K hK => ?_) (AllReadyH.cons rfl (fun K hK => ?_) AllReadyH.nil)
              · have cL := hV2.1.2
                dsimp only at cL
                go_simp
                refine hK.out _ _ hV2.1.1 (fun hHeld => ?_)
                clear hK K
                refine wpAnyH_ready (rs := [12]) (by kernel_rfl) (by simp) ?_
                refine AllReadyH.cons rfl (fun K hK => ?_) AllReadyH.nil
                have hb3 : Below (World.heap Y2).size Y2 (World.alloc Y2 (.cells #[.string (nm3B i), .int .i64 ((i : Int) + 1), .int .i64 mx, .slice sa sn sc] 39)) := (Below.refl _ _).alloc (Nat.le_refl _) _
                have hQ3 := Qc.new Y2 (.string (nm3B i)) (.int .i64 ((i : Int) + 1)) (.int .i64 mx) (.slice sa sn sc) 39
                have hR3 := hR2.below hb3 hR2.lt
                have hV3 := hV2.below hb3 hV2.lt
                have hO3 := hO2.below hb3 (Nat.le_refl _)
                have hD3 := hD2.kz (Kz.below _ hb3)
                have hS3 := hS2.below (hb3.mono hS2.2.1)
                have hK3 := hK2.below hb3
                have hz3 := Nat.le_trans hz2 hb3.size
                have hd3 := hd2.kz (Kz.below _ hb3)
                go_simp
                generalize World.alloc Y2 (.cells #[.string (nm3B i), .int .i64 ((i : Int) + 1), .int .i64 mx, .slice sa sn sc] 39) = Y3 at *
                refine hK.out _ _ hV3.1.1 (fun hHeld => ?_)
                clear hK K
                clear hR2 hV2 hO2 hD2 hS2 hK2 hz2
                refine wpAnyH_ready (rs := [13]) (by kernel_rfl) (by simp) ?_
                refine AllReadyH.cons rfl (fun K hK => ?_) AllReadyH.nil
                refine step_appX rfl _ _ rfl (w.heap.size + 2) (.slice av i cv) ql (by rfl) hO3 _ (.string (nm3B i), .int .i64 ((i : Int) + 1), .int .i64 mx, .slice sa sn sc) (by rfl) hQ3 ⟨rfl, rfl, rfl, rfl⟩ (by have := HQ.out; omega) (by omega) ?_
                intro v2 Y4 hO4 hg4
                obtain ⟨a2, n2, k2, rfl⟩ : ∃ a n c, v2 = Value.slice a n c := by obtain ⟨a, c, e, -⟩ := OwnX.form hO4; exact ⟨a, _, c, e⟩
                have hKz : Kz (w.heap.size + 2) isN _ Y4 := hO3.kz isN hg4 hD3.first h0
                have hB : Below (w.heap.size + 2) _ Y4 := (Below.refl _ _).grown hg4 hz3 hne
                have hR4 := hR3.below hB (by omega)
                have hV4 := hV3.below hB (by omega)
                have hD4 := (hD3.kz hKz).snoc ⟨nm3B i, (i : Int) + 1, mx, mm⟩ (sa, sn, sc) (hd3.kz hKz) ⟨nm3B_size i, by dsimp only; omega⟩
                have hS4 := hS3.below (hB.mono (by omega))
                have hK4 := hK3.below' (hB.mono (by omega))
                have hz4 := Nat.le_trans hz3 hB.size
                refine hK.out _ _ hV4.1.1 (fun hHeld => ?_)
                clear hK K
                clear hB hKz hg4
                clear hR3 hV3 hO3 hD3 hS3 hK3 hz3
                refine wpAnyH_take (i := 14) (v := ?_) rfl (by kernel_rfl) (by kernel_rfl) (by kernel_rfl) (fun _ _ _ h => h) (Or.inl ⟨by rfl, ?hy20⟩) (by assumption) ?ty20
                case hy20 => (intro w5 hSw; (try dsimp only at hSw); go_simp; all_goals with_reducible rfl)
                simp only [Act.put, List.getElem_toArray, List.getElem_cons_zero, List.getElem_cons_succ, List.setIfInBounds_toArray, List.set_cons_zero, List.set_cons_succ]
                obtain ⟨⟨c0, c1⟩, f0, f1⟩ := id hV4
                dsimp only at c0 c1
                refine wpAnyH_ready (rs := [15]) (by kernel_rfl) (by simp) ?_
                refine AllReadyH.cons rfl (fun K hK => ?_) AllReadyH.nil
                have hV4s := hV4.set1 (.slice a2 n2 k2)
                have hR4s := hR4.far (w.heap.size + 1) 1 (.slice a2 n2 k2) (by omega)
                have hO4s := hO4.set ⟨w.heap.size + 1, 1, none⟩ (by simp) (.slice a2 n2 k2)
                have hBs : Below w.heap.size Y4 (World.setCell Y4 ⟨w.heap.size + 1, 1, none⟩ (.slice a2 n2 k2)) := (Below.refl _ _).setCell (by simp) _
                have hD4s := hD4.kz (Kz.set (R := w.heap.size + 1) (j := 1) isN (.slice a2 n2 k2) (by omega))
                have hS4s := hS4.below (hBs.mono hbw)
                have hK4s := hK4.below' hBs
                have hz4s := Nat.le_trans hz4 hBs.size
                clear hR4 hV4 hO4 hD4 hS4 hK4 hz4 hBs
                go_simp
                generalize World.setCell Y4 ⟨w.heap.size + 1, 1, none⟩ (.slice a2 n2 k2) = Y at *
                refine hK.out _ _ hV4s.1.1 (fun hHeld => ?_)
                clear hK K
                clear c0 c1 f0 f1
                refine wpAnyH_done (by kernel_rfl) ?_ _
                clear hHeld
                have hq0 : ql ++ [((.string (nm3B i), .int .i64 ((i : Int) + 1), .int .i64 mx, .slice sa sn sc) : Qd)] ≠ [] := by simp
                obtain ⟨⟨c0, c1⟩, f0, f1⟩ := id hV4s
                dsimp only at c0 c1
                have hV7 := hV4s.set0 (.int .i64 ((i : Int) + 1 + 1))
                have hR7 := hR4s.far (w.heap.size + 1) 0 (.int .i64 ((i : Int) + 1 + 1)) (by omega)
                have hO7 := hO4s.set ⟨w.heap.size + 1, 0, none⟩ (by simp) (.int .i64 ((i : Int) + 1 + 1))
                have hBs : Below w.heap.size Y (World.setCell Y ⟨w.heap.size + 1, 0, none⟩ (.int .i64 ((i : Int) + 1 + 1))) := (Below.refl _ _).setCell (by simp) _
                have hD7 := hD4s.kz (Kz.set (R := w.heap.size + 1) (j := 0) isN (.int .i64 ((i : Int) + 1 + 1)) (by omega))
                have hS7 := (hS4s.below (hBs.mono hbw)).more (show _ ≤ M + 1 + 710 * (i + 1) by omega)
                have hK7 := hK4s.below' hBs
                have hz7 := Nat.le_trans hz4s hBs.size
                have HX : Hid (_) := And.intro hR7 (And.intro hV7 (And.intro hO7 (And.intro hD7 (And.intro hS7 (And.intro hK7 hz7)))))
                clear hR7 hV7 hO7 hD7 hS7 hK7 hz7 hBs hR4s hV4s hO4s hD4s hS4s hK4s hz4s
                go_wp2
                go_roundw
                case rel => exact ⟨i + 1, .slice a2 n2 k2, ql ++ [(.string (nm3B i), .int .i64 ((i : Int) + 1), .int .i64 mx, .slice sa sn sc)], l ++ [⟨nm3B i, (i : Int) + 1, mx, mm⟩], by omega, by go_num, by simp [hli], HX.out.1, HX.out.2.1, HX.out.2.2.1, HX.out.2.2.2.1, fun e => absurd e hq0, HX.out.2.2.2.2.1, HX.out.2.2.2.2.2.1, HX.out.2.2.2.2.2.2⟩
                case measure => simp [intOf]; omega
              · have hb3 : Below (World.heap Y2).size Y2 (World.alloc Y2 (.cells #[.string (nm3B i), .int .i64 ((i : Int) + 1), .int .i64 mx, .slice sa sn sc] 39)) := (Below.refl _ _).alloc (Nat.le_refl _) _
                have hQ3 := Qc.new Y2 (.string (nm3B i)) (.int .i64 ((i : Int) + 1)) (.int .i64 mx) (.slice sa sn sc) 39
                have hR3 := hR2.below hb3 hR2.lt
                have hV3 := hV2.below hb3 hV2.lt
                have hO3 := hO2.below hb3 (Nat.le_refl _)
                have hD3 := hD2.kz (Kz.below _ hb3)
                have hS3 := hS2.below (hb3.mono hS2.2.1)
                have hK3 := hK2.below hb3
                have hz3 := Nat.le_trans hz2 hb3.size
                have hd3 := hd2.kz (Kz.below _ hb3)
                go_simp
                generalize World.alloc Y2 (.cells #[.string (nm3B i), .int .i64 ((i : Int) + 1), .int .i64 mx, .slice sa sn sc] 39) = Y3 at *
                refine hK.out _ _ hV3.1.1 (fun hHeld => ?_)
                clear hK K
                clear hR2 hV2 hO2 hD2 hS2 hK2 hz2
                refine wpAnyH_ready (rs := [1]) (by kernel_rfl) (by simp) ?_
                refine AllReadyH.cons rfl (fun K hK => ?_) AllReadyH.nil
                have cL := hV3.1.2
                dsimp only at cL
                go_simp
                refine hK.out _ _ hV3.1.1 (fun hHeld => ?_)
                clear hK K
                refine wpAnyH_ready (rs := [13]) (by kernel_rfl) (by simp) ?_
                refine AllReadyH.cons rfl (fun K hK => ?_) AllReadyH.nil
                refine step_appX rfl _ _ rfl (w.heap.size + 2) (.slice av i cv) ql (by rfl) hO3 _ (.string (nm3B i), .int .i64 ((i : Int) + 1), .int .i64 mx, .slice sa sn sc) (by rfl) hQ3 ⟨rfl, rfl, rfl, rfl⟩ (by have := HQ.out; omega) (by omega) ?_
                intro v2 Y4 hO4 hg4
                obtain ⟨a2, n2, k2, rfl⟩ : ∃ a n c, v2 = Value.slice a n c := by obtain ⟨a, c, e, -⟩ := OwnX.form hO4; exact ⟨a, _, c, e⟩
                have hKz : Kz (w.heap.size + 2) isN _ Y4 := hO3.kz isN hg4 hD3.first h0
                have hB : Below (w.heap.size + 2) _ Y4 := (Below.refl _ _).grown hg4 hz3 hne
                have hR4 := hR3.below hB (by omega)
                have hV4 := hV3.below hB (by omega)
                have hD4 := (hD3.kz hKz).snoc ⟨nm3B i, (i : Int) + 1, mx, mm⟩ (sa, sn, sc) (hd3.kz hKz) ⟨nm3B_size i, by dsimp only; omega⟩
                have hS4 := hS3.below (hB.mono (by omega))
                have hK4 := hK3.below' (hB.mono (by omega))
                have hz4 := Nat.le_trans hz3 hB.size
                refine hK.out _ _ hV4.1.1 (fun hHeld => ?_)
                clear hK K
                clear hB hKz hg4
                clear hR3 hV3 hO3 hD3 hS3 hK3 hz3
                refine wpAnyH_take (i := 14) (v := ?_) rfl (by kernel_rfl) (by kernel_rfl) (by kernel_rfl) (fun _ _ _ h => h) (Or.inl ⟨by rfl, ?hy21⟩) (by assumption) ?ty21
                case hy21 => (intro w5 hSw; (try dsimp only at hSw); go_simp; all_goals with_reducible rfl)
                simp only [Act.put, List.getElem_toArray, List.getElem_cons_zero, List.getElem_cons_succ, List.setIfInBounds_toArray, List.set_cons_zero, List.set_cons_succ]
                obtain ⟨⟨c0, c1⟩, f0, f1⟩ := id hV4
                dsimp only at c0 c1
                refine wpAnyH_ready (rs := [15]) (by kernel_rfl) (by simp) ?_
                refine AllReadyH.cons rfl (fun K hK => ?_) AllReadyH.nil
                have hV4s := hV4.set1 (.slice a2 n2 k2)
                have hR4s := hR4.far (w.heap.size + 1) 1 (.slice a2 n2 k2) (by omega)
                have hO4s := hO4.set ⟨w.heap.size + 1, 1, none⟩ (by simp) (.slice a2 n2 k2)
                have hBs : Below w.heap.size Y4 (World.setCell Y4 ⟨w.heap.size + 1, 1, none⟩ (.slice a2 n2 k2)) := (Below.refl _ _).setCell (by simp) _
                have hD4s := hD4.kz (Kz.set (R := w.heap.size + 1) (j := 1) isN (.slice a2 n2 k2) (by omega))
                have hS4s := hS4.below (hBs.mono hbw)
                have hK4s := hK4.below' hBs
                have hz4s := Nat.le_trans hz4 hBs.size
                clear hR4 hV4 hO4 hD4 hS4 hK4 hz4 hBs
                go_simp
                generalize World.setCell Y4 ⟨w.heap.size + 1, 1, none⟩ (.slice a2 n2 k2) = Y at *
                refine hK.out _ _ hV4s.1.1 (fun hHeld => ?_)
                clear hK K
                clear c0 c1 f0 f1
                refine wpAnyH_done (by kernel_rfl) ?_ _
                clear hHeld
                have hq0 : ql ++ [((.string (nm3B i), .int .i64 ((i : Int) + 1), .int .i64 mx, .slice sa sn sc) : Qd)] ≠ [] := by simp
                obtain ⟨⟨c0, c1⟩, f0, f1⟩ := id hV4s
                dsimp only at c0 c1
                have hV7 := hV4s.set0 (.int .i64 ((i : Int) + 1 + 1))
                have hR7 := hR4s.far (w.heap.size + 1) 0 (.int .i64 ((i : Int) + 1 + 1)) (by omega)
                have hO7 := hO4s.set ⟨w.heap.size + 1, 0, none⟩ (by simp) (.int .i64 ((i : Int) + 1 + 1))
                have hBs : Below w.heap.size Y (World.setCell Y ⟨w.heap.size + 1, 0, none⟩ (.int .i64 ((i : Int) + 1 + 1))) := (Below.refl _ _).setCell (by simp) _
                have hD7 := hD4s.kz (Kz.set (R := w.heap.size + 1) (j := 0) isN (.int .i64 ((i : Int) + 1 + 1)) (by omega))
                have hS7 := (hS4s.below (hBs.mono hbw)).more (show _ ≤ M + 1 + 710 * (i + 1) by omega)
                have hK7 := hK4s.below' hBs
                have hz7 := Nat.le_trans hz4s hBs.size
                have HX : Hid (_) := And.intro hR7 (And.intro hV7 (And.intro hO7 (And.intro hD7 (And.intro hS7 (And.intro hK7 hz7)))))
                clear hR7 hV7 hO7 hD7 hS7 hK7 hz7 hBs hR4s hV4s hO4s hD4s hS4s hK4s hz4s
                go_wp2
                go_roundw
                case rel => exact ⟨i + 1, .slice a2 n2 k2, ql ++ [(.string (nm3B i), .int .i64 ((i : Int) + 1), .int .i64 mx, .slice sa sn sc)], l ++ [⟨nm3B i, (i : Int) + 1, mx, mm⟩], by omega, by go_num, by simp [hli], HX.out.1, HX.out.2.1, HX.out.2.2.1, HX.out.2.2.2.1, fun e => absurd e hq0, HX.out.2.2.2.2.1, HX.out.2.2.2.2.2.1, HX.out.2.2.2.2.2.2⟩
                case measure => simp [intOf]; omega
      · have cL := hV0.1.2
        dsimp only at cL
        go_simp
        refine hK.out _ _ hV0.1.1 (fun hHeld => ?_)
        clear hK K
        refine wpAnyH_take (i := 6) (v := ?_) rfl (by kernel_rfl) (by kernel_rfl) (by kernel_rfl) (fun _ _ _ h => h) (Or.inl ⟨by rfl, ?hy22⟩) (by assumption) ?ty22
        case hy22 => (intro w5 hSw; (try dsimp only at hSw); go_simp; all_goals with_reducible rfl)
        simp only [Act.put, List.getElem_toArray, List.getElem_cons_zero, List.getElem_cons_succ, List.setIfInBounds_toArray, List.set_cons_zero, List.set_cons_succ]
        refine wpAnyH_ready (rs := [1, 3]) (by kernel_rfl) (by simp) ?_
        refine AllReadyH.cons rfl (fun K hK => ?_) (AllReadyH.cons rfl (fun K hK => ?_) AllReadyH.nil)
        · have cL := hV0.1.2
          dsimp only at cL
          go_simp
          refine hK.out _ _ hV0.1.1 (fun hHeld => ?_)
          clear hK K
          refine wpAnyH_ready (rs := [3]) (by kernel_rfl) (by simp) ?_
          refine AllReadyH.cons rfl (fun K hK => ?_) AllReadyH.nil
          have hb1 : Below (World.heap Y0).size Y0 (World.alloc Y0 (.cells #[.string ⟨#[105, 110]⟩, .string ⟨#[111, 108, 100]⟩, .string ⟨#[98, 111, 120]⟩] 9)) := (Below.refl _ _).alloc (Nat.le_refl _) _
          have hN := nm3B_cells Y0 i hi3
          have hR1 := hR0.below hb1 hR0.lt
          have hV1 := hV0.below hb1 hV0.lt
          have hO1 := hO0.below hb1 (Nat.le_refl _)
          have hD1 := hD0.kz (Kz.below _ hb1)
          have hS1 := hS0.below (hb1.mono hS0.2.1)
          have hK1 := hK0.below hb1
          have hz1 := Nat.le_trans hz0 hb1.size
          go_simp
          generalize World.alloc Y0 (.cells #[.string ⟨#[105, 110]⟩, .string ⟨#[111, 108, 100]⟩, .string ⟨#[98, 111, 120]⟩] 9) = Y1 at *
          generalize (World.heap Y0).size = gS at *
          refine hK.out _ _ hV1.1.1 (fun hHeld => ?_)
          clear hK K
          clear hR0 hV0 hO0 hD0 hS0 hK0 hz0
          refine wpAnyH_take (i := 7) (v := ?_) rfl (by kernel_rfl) (by kernel_rfl) (by kernel_rfl) (fun _ _ _ h => h) (Or.inl ⟨by rfl, ?hy23⟩) (by assumption) ?ty23
          case hy23 => (intro w5 hSw; (try dsimp only at hSw); go_simp; all_goals with_reducible rfl)
          simp only [Act.put, List.getElem_toArray, List.getElem_cons_zero, List.getElem_cons_succ, List.setIfInBounds_toArray, List.set_cons_zero, List.set_cons_succ]
          refine wpAnyH_ready (rs := [8]) (by kernel_rfl) (by simp) ?_
          refine AllReadyH.cons rfl (fun K hK => ?_) AllReadyH.nil
          go_simp
          refine hK.out _ _ hV1.1.1 (fun hHeld => ?_)
          clear hK K
          refine wpAnyH_ready (rs := [11]) (by kernel_rfl) (by simp) ?_
          refine AllReadyH.cons rfl (fun K hK => ?_) AllReadyH.nil
          go_simp
          refine (l7DrawBox_any B b (M + 1 + 710 * i) (nm3B i) ((i : Int) + 1) _ hS1 (by omega)).mono ?_
          rintro e Y2 ⟨m, s, rfl, hu1, hu2, hu3, hl, hd2, hS2, hk2, -⟩
          obtain ⟨mn, mv, mx, mm⟩ := m
          obtain ⟨sa, sn, sc⟩ := s
          dsimp only [bxX, slW] at hu1 hu2 hu3 hl hd2 ⊢
          subst hu1 hu2
          have hR2 := hR1.grown hk2 (fun e => by injection e with e; omega)
          have hV2 := hV1.grown hk2 (fun e => by injection e with e; omega)
          have hO2 := hO1.kb hk2 (by omega)
          have hD2 := hD1.kz (Kz.kb hk2 (by omega))
          have hK2 := hK1.trans hk2
          have hz2 := Nat.le_trans hz1 (World.grownBy.size hk2)
          have hd2 := hd2.low (lo' := w.heap.size + 2) (by have := hz1; omega)
          refine hK.out _ _ hV2.1.1 (fun hHeld => ?_)
          clear hK K
          clear hR1 hV1 hO1 hD1 hS1 hK1 hz1
          refine wpAnyH_ready (rs := [12]) (by kernel_rfl) (by simp) ?_
          refine AllReadyH.cons rfl (fun K hK => ?_) AllReadyH.nil
          have hb3 : Below (World.heap Y2).size Y2 (World.alloc Y2 (.cells #[.string (nm3B i), .int .i64 ((i : Int) + 1), .int .i64 mx, .slice sa sn sc] 39)) := (Below.refl _ _).alloc (Nat.le_refl _) _
          have hQ3 := Qc.new Y2 (.string (nm3B i)) (.int .i64 ((i : Int) + 1)) (.int .i64 mx) (.slice sa sn sc) 39
          have hR3 := hR2.below hb3 hR2.lt
          have hV3 := hV2.below hb3 hV2.lt
          have hO3 := hO2.below hb3 (Nat.le_refl _)
          have hD3 := hD2.kz (Kz.below _ hb3)
          have hS3 := hS2.below (hb3.mono hS2.2.1)
          have hK3 := hK2.below hb3
          have hz3 := Nat.le_trans hz2 hb3.size
          have hd3 := hd2.kz (Kz.below _ hb3)
          go_simp
          generalize World.alloc Y2 (.cells #[.string (nm3B i), .int .i64 ((i : Int) + 1), .int .i64 mx, .slice sa sn sc] 39) = Y3 at *
          refine hK.out _ _ hV3.1.1 (fun hHeld => ?_)
          clear hK K
          clear hR2 hV2 hO2 hD2 hS2 hK2 hz2
          refine wpAnyH_ready (rs := [13]) (by kernel_rfl) (by simp) ?_
          refine AllReadyH.cons rfl (fun K hK => ?_) AllReadyH.nil
          refine step_appX rfl _ _ rfl (w.heap.size + 2) (.slice av i cv) ql (by rfl) hO3 _ (.string (nm3B i), .int .i64 ((i : Int) + 1), .int .i64 mx, .slice sa sn sc) (by rfl) hQ3 ⟨rfl, rfl, rfl, rfl⟩ (by have := HQ.out; omega) (by omega) ?_
          intro v2 Y4 hO4 hg4
          obtain ⟨a2, n2, k2, rfl⟩ : ∃ a n c, v2 = Value.slice a n c := by obtain ⟨a, c, e, -⟩ := OwnX.form hO4; exact ⟨a, _, c, e⟩
          have hKz : Kz (w.heap.size + 2) isN _ Y4 := hO3.kz isN hg4 hD3.first h0
          have hB : Below (w.heap.size + 2) _ Y4 := (Below.refl _ _).grown hg4 hz3 hne
          have hR4 := hR3.below hB (by omega)
          have hV4 := hV3.below hB (by omega)
          have hD4 := (hD3.kz hKz).snoc ⟨nm3B i, (i : Int) + 1, mx, mm⟩ (sa, sn, sc) (hd3.kz hKz) ⟨nm3B_size i, by dsimp only; omega⟩
          have hS4 := hS3.below (hB.mono (by omega))
          have hK4 := hK3.below' (hB.mono (by omega))
          have hz4 := Nat.le_trans hz3 hB.size
          refine hK.out _ _ hV4.1.1 (fun hHeld => ?_)
          clear hK K
          clear hB hKz hg4
          clear hR3 hV3 hO3 hD3 hS3 hK3 hz3
          refine wpAnyH_take (i := 14) (v := ?_) rfl (by kernel_rfl) (by kernel_rfl) (by kernel_rfl) (fun _ _ _ h => h) (Or.inl ⟨by rfl, ?hy24⟩) (by assumption) ?ty24
          case hy24 => (intro w5 hSw; (try dsimp only at hSw); go_simp; all_goals with_reducible rfl)
          simp only [Act.put, List.getElem_toArray, List.getElem_cons_zero, List.getElem_cons_succ, List.setIfInBounds_toArray, List.set_cons_zero, List.set_cons_succ]
          obtain ⟨⟨c0, c1⟩, f0, f1⟩ := id hV4
          dsimp only at c0 c1
          refine wpAnyH_ready (rs := [15]) (by kernel_rfl) (by simp) ?_
          refine AllReadyH.cons rfl (fun K hK => ?_) AllReadyH.nil
          have hV4s := hV4.set1 (.slice a2 n2 k2)
          have hR4s := hR4.far (w.heap.size + 1) 1 (.slice a2 n2 k2) (by omega)
          have hO4s := hO4.set ⟨w.heap.size + 1, 1, none⟩ (by simp) (.slice a2 n2 k2)
          have hBs : Below w.heap.size Y4 (World.setCell Y4 ⟨w.heap.size + 1, 1, none⟩ (.slice a2 n2 k2)) := (Below.refl _ _).setCell (by simp) _
          have hD4s := hD4.kz (Kz.set (R := w.heap.size + 1) (j := 1) isN (.slice a2 n2 k2) (by omega))
          have hS4s := hS4.below (hBs.mono hbw)
          have hK4s := hK4.below' hBs
          have hz4s := Nat.le_trans hz4 hBs.size
          clear hR4 hV4 hO4 hD4 hS4 hK4 hz4 hBs
          go_simp
          generalize World.setCell Y4 ⟨w.heap.size + 1, 1, none⟩ (.slice a2 n2 k2) = Y at *
          refine hK.out _ _ hV4s.1.1 (fun hHeld => ?_)
          clear hK K
          clear c0 c1 f0 f1
          refine wpAnyH_done (by kernel_rfl) ?_ _
          clear hHeld
          have hq0 : ql ++ [((.string (nm3B i), .int .i64 ((i : Int) + 1), .int .i64 mx, .slice sa sn sc) : Qd)] ≠ [] := by simp
          obtain ⟨⟨c0, c1⟩, f0, f1⟩ := id hV4s
          dsimp only at c0 c1
          have hV7 := hV4s.set0 (.int .i64 ((i : Int) + 1 + 1))
          have hR7 := hR4s.far (w.heap.size + 1) 0 (.int .i64 ((i : Int) + 1 + 1)) (by omega)
          have hO7 := hO4s.set ⟨w.heap.size + 1, 0, none⟩ (by simp) (.int .i64 ((i : Int) + 1 + 1))
          have hBs : Below w.heap.size Y (World.setCell Y ⟨w.heap.size + 1, 0, none⟩ (.int .i64 ((i : Int) + 1 + 1))) := (Below.refl _ _).setCell (by simp) _
          have hD7 := hD4s.kz (Kz.set (R := w.heap.size + 1) (j := 0) isN (.int .i64 ((i : Int) + 1 + 1)) (by omega))
          have hS7 := (hS4s.below (hBs.mono hbw)).more (show _ ≤ M + 1 + 710 * (i + 1) by omega)
          have hK7 := hK4s.below' hBs
          have hz7 := Nat.le_trans hz4s hBs.size
          have HX : Hid (_) := And.intro hR7 (And.intro hV7 (And.intro hO7 (And.intro hD7 (And.intro hS7 (And.intro hK7 hz7)))))
          clear hR7 hV7 hO7 hD7 hS7 hK7 hz7 hBs hR4s hV4s hO4s hD4s hS4s hK4s hz4s
          go_wp2
          go_roundw
          case rel => exact ⟨i + 1, .slice a2 n2 k2, ql ++ [(.string (nm3B i), .int .i64 ((i : Int) + 1), .int .i64 mx, .slice sa sn sc)], l ++ [⟨nm3B i, (i : Int) + 1, mx, mm⟩], by omega, by go_num, by simp [hli], HX.out.1, HX.out.2.1, HX.out.2.2.1, HX.out.2.2.2.1, fun e => absurd e hq0, HX.out.2.2.2.2.1, HX.out.2.2.2.2.2.1, HX.out.2.2.2.2.2.2⟩
          case measure => simp [intOf]; omega
        · have hb1 : Below (World.heap Y0).size Y0 (World.alloc Y0 (.cells #[.string ⟨#[105, 110]⟩, .string ⟨#[111, 108, 100]⟩, .string ⟨#[98, 111, 120]⟩] 9)) := (Below.refl _ _).alloc (Nat.le_refl _) _
          have hN := nm3B_cells Y0 i hi3
          have hR1 := hR0.below hb1 hR0.lt
          have hV1 := hV0.below hb1 hV0.lt
          have hO1 := hO0.below hb1 (Nat.le_refl _)
          have hD1 := hD0.kz (Kz.below _ hb1)
          have hS1 := hS0.below (hb1.mono hS0.2.1)
          have hK1 := hK0.below hb1
          have hz1 := Nat.le_trans hz0 hb1.size
          go_simp
          generalize World.alloc Y0 (.cells #[.string ⟨#[105, 110]⟩, .string ⟨#[111, 108, 100]⟩, .string ⟨#[98, 111, 120]⟩] 9) = Y1 at *
          generalize (World.heap Y0).size = gS at *
          refine hK.out _ _ hV1.1.1 (fun hHeld => ?_)
          clear hK K
          clear hR0 hV0 hO0 hD0 hS0 hK0 hz0
          refine wpAnyH_take (i := 7) (v := ?_) rfl (by kernel_rfl) (by kernel_rfl) (by kernel_rfl) (fun _ _ _ h => h) (Or.inl ⟨by rfl, ?hy25⟩) (by assumption) ?ty25
          case hy25 => (intro w5 hSw; (try dsimp only at hSw); go_simp; all_goals with_reducible rfl)
          simp only [Act.put, List.getElem_toArray, List.getElem_cons_zero, List.getElem_cons_succ, List.setIfInBounds_toArray, List.set_cons_zero, List.set_cons_succ]
          refine wpAnyH_ready (rs := [1, 8]) (by kernel_rfl) (by simp) ?_
          refine AllReadyH.cons rfl (fun K hK => ?_) (AllReadyH.cons rfl (fun K hK => ?_) AllReadyH.nil)
          · have cL := hV1.1.2
            dsimp only at cL
            go_simp
            refine hK.out _ _ hV1.1.1 (fun hHeld => ?_)
            clear hK K
            refine wpAnyH_ready (rs := [8]) (by kernel_rfl) (by simp) ?_
            refine AllReadyH.cons rfl (fun K hK => ?_) AllReadyH.nil
            go_simp
            refine hK.out _ _ hV1.1.1 (fun hHeld => ?_)
            clear hK K
            refine wpAnyH_ready (rs := [11]) (by kernel_rfl) (by simp) ?_
            refine AllReadyH.cons rfl (fun K hK => ?_) AllReadyH.nil
            go_simp
            refine (l7DrawBox_any B b (M + 1 + 710 * i) (nm3B i) ((i : Int) + 1) _ hS1 (by omega)).mono ?_
            rintro e Y2 ⟨m, s, rfl, hu1, hu2, hu3, hl, hd2, hS2, hk2, -⟩
            obtain ⟨mn, mv, mx, mm⟩ := m
            obtain ⟨sa, sn, sc⟩ := s
            dsimp only [bxX, slW] at hu1 hu2 hu3 hl hd2 ⊢
            subst hu1 hu2
            have hR2 := hR1.grown hk2 (fun e => by injection e with e; omega)
            have hV2 := hV1.grown hk2 (fun e => by injection e with e; omega)
            have hO2 := hO1.kb hk2 (by omega)
            have hD2 := hD1.kz (Kz.kb hk2 (by omega))
            have hK2 := hK1.trans hk2
            have hz2 := Nat.le_trans hz1 (World.grownBy.size hk2)
            have hd2 := hd2.low (lo' := w.heap.size + 2) (by have := hz1; omega)
            refine hK.out _ _ hV2.1.1 (fun hHeld => ?_)
            clear hK K
            clear hR1 hV1 hO1 hD1 hS1 hK1 hz1
            refine wpAnyH_ready (rs := [12]) (by kernel_rfl) (by simp) ?_
            refine AllReadyH.cons rfl (fun K hK => ?_) AllReadyH.nil
            have hb3 : Below (World.heap Y2).size Y2 (World.alloc Y2 (.cells #[.string (nm3B i), .int .i64 ((i : Int) + 1), .int .i64 mx, .slice sa sn sc] 39)) := (Below.refl _ _).alloc (Nat.le_refl _) _
            have hQ3 := Qc.new Y2 (.string (nm3B i)) (.int .i64 ((i : Int) + 1)) (.int .i64 mx) (.slice sa sn sc) 39
            have hR3 := hR2.below hb3 hR2.lt
            have hV3 := hV2.below hb3 hV2.lt
            have hO3 := hO2.below hb3 (Nat.le_refl _)
            have hD3 := hD2.kz (Kz.below _ hb3)
            have hS3 := hS2.below (hb3.mono hS2.2.1)
            have hK3 := hK2.below hb3
            have hz3 := Nat.le_trans hz2 hb3.size
            have hd3 := hd2.kz (Kz.below _ hb3)
            go_simp
            generalize World.alloc Y2 (.cells #[.string (nm3B i), .int .i64 ((i : Int) + 1), .int .i64 mx, .slice sa sn sc] 39) = Y3 at *
            refine hK.out _ _ hV3.1.1 (fun hHeld => ?_)
            clear hK K
            clear hR2 hV2 hO2 hD2 hS2 hK2 hz2
            refine wpAnyH_ready (rs := [13]) (by kernel_rfl) (by simp) ?_
            refine AllReadyH.cons rfl (fun K hK => ?_) AllReadyH.nil
            refine step_appX rfl _ _ rfl (w.heap.size + 2) (.slice av i cv) ql (by rfl) hO3 _ (.string (nm3B i), .int .i64 ((i : Int) + 1), .int .i64 mx, .slice sa sn sc) (by rfl) hQ3 ⟨rfl, rfl, rfl, rfl⟩ (by have := HQ.out; omega) (by omega) ?_
            intro v2 Y4 hO4 hg4
            obtain ⟨a2, n2, k2, rfl⟩ : ∃ a n c, v2 = Value.slice a n c := by obtain ⟨a, c, e, -⟩ := OwnX.form hO4; exact ⟨a, _, c, e⟩
            have hKz : Kz (w.heap.size + 2) isN _ Y4 := hO3.kz isN hg4 hD3.first h0
            have hB : Below (w.heap.size + 2) _ Y4 := (Below.refl _ _).grown hg4 hz3 hne
            have hR4 := hR3.below hB (by omega)
            have hV4 := hV3.below hB (by omega)
            have hD4 := (hD3.kz hKz).snoc ⟨nm3B i, (i : Int) + 1, mx, mm⟩ (sa, sn, sc) (hd3.kz hKz) ⟨nm3B_size i, by dsimp only; omega⟩
            have hS4 := hS3.below (hB.mono (by omega))
            have hK4 := hK3.below' (hB.mono (by omega))
            have hz4 := Nat.le_trans hz3 hB.size
            refine hK.out _ _ hV4.1.1 (fun hHeld => ?_)
            clear hK K
            clear hB hKz hg4
            clear hR3 hV3 hO3 hD3 hS3 hK3 hz3
            refine wpAnyH_take (i := 14) (v := ?_) rfl (by kernel_rfl) (by kernel_rfl) (by kernel_rfl) (fun _ _ _ h => h) (Or.inl ⟨by rfl, ?hy26⟩) (by assumption) ?ty26
            case hy26 => (intro w5 hSw; (try dsimp only at hSw); go_simp; all_goals with_reducible rfl)
            simp only [Act.put, List.getElem_toArray, List.getElem_cons_zero, List.getElem_cons_succ, List.setIfInBounds_toArray, List.set_cons_zero, List.set_cons_succ]
            obtain ⟨⟨c0, c1⟩, f0, f1⟩ := id hV4
            dsimp only at c0 c1
            refine wpAnyH_ready (rs := [15]) (by kernel_rfl) (by simp) ?_
            refine AllReadyH.cons rfl (fun K hK => ?_) AllReadyH.nil
            have hV4s := hV4.set1 (.slice a2 n2 k2)
            have hR4s := hR4.far (w.heap.size + 1) 1 (.slice a2 n2 k2) (by omega)
            have hO4s := hO4.set ⟨w.heap.size + 1, 1, none⟩ (by simp) (.slice a2 n2 k2)
            have hBs : Below w.heap.size Y4 (World.setCell Y4 ⟨w.heap.size + 1, 1, none⟩ (.slice a2 n2 k2)) := (Below.refl _ _).setCell (by simp) _
            have hD4s := hD4.kz (Kz.set (R := w.heap.size + 1) (j := 1) isN (.slice a2 n2 k2) (by omega))
            have hS4s := hS4.below (hBs.mono hbw)
            have hK4s := hK4.below' hBs
            have hz4s := Nat.le_trans hz4 hBs.size
            clear hR4 hV4 hO4 hD4 hS4 hK4 hz4 hBs
            go_simp
            generalize World.setCell Y4 ⟨w.heap.size + 1, 1, none⟩ (.slice a2 n2 k2) = Y at *
            refine hK.out _ _ hV4s.1.1 (fun hHeld => ?_)
            clear hK K
            clear c0 c1 f0 f1
            refine wpAnyH_done (by kernel_rfl) ?_ _
            clear hHeld
            have hq0 : ql ++ [((.string (nm3B i), .int .i64 ((i : Int) + 1), .int .i64 mx, .slice sa sn sc) : Qd)] ≠ [] := by simp
            obtain ⟨⟨c0, c1⟩, f0, f1⟩ := id hV4s
            dsimp only at c0 c1
            have hV7 := hV4s.set0 (.int .i64 ((i : Int) + 1 + 1))
            have hR7 := hR4s.far (w.heap.size + 1) 0 (.int .i64 ((i : Int) + 1 + 1)) (by omega)
            have hO7 := hO4s.set ⟨w.heap.size + 1, 0, none⟩ (by simp) (.int .i64 ((i : Int) + 1 + 1))
            have hBs : Below w.heap.size Y (World.setCell Y ⟨w.heap.size + 1, 0, none⟩ (.int .i64 ((i : Int) + 1 + 1))) := (Below.refl _ _).setCell (by simp) _
            have hD7 := hD4s.kz (Kz.set (R := w.heap.size + 1) (j := 0) isN (.int .i64 ((i : Int) + 1 + 1)) (by omega))
            have hS7 := (hS4s.below (hBs.mono hbw)).more (show _ ≤ M + 1 + 710 * (i + 1) by omega)
            have hK7 := hK4s.below' hBs
            have hz7 := Nat.le_trans hz4s hBs.size
            have HX : Hid (_) := And.intro hR7 (And.intro hV7 (And.intro hO7 (And.intro hD7 (And.intro hS7 (And.intro hK7 hz7)))))
            clear hR7 hV7 hO7 hD7 hS7 hK7 hz7 hBs hR4s hV4s hO4s hD4s hS4s hK4s hz4s
            go_wp2
            go_roundw
            case rel => exact ⟨i + 1, .slice a2 n2 k2, ql ++ [(.string (nm3B i), .int .i64 ((i : Int) + 1), .int .i64 mx, .slice sa sn sc)], l ++ [⟨nm3B i, (i : Int) + 1, mx, mm⟩], by omega, by go_num, by simp [hli], HX.out.1, HX.out.2.1, HX.out.2.2.1, HX.out.2.2.2.1, fun e => absurd e hq0, HX.out.2.2.2.2.1, HX.out.2.2.2.2.2.1, HX.out.2.2.2.2.2.2⟩
            case measure => simp [intOf]; omega
          · go_simp
            refine hK.out _ _ hV1.1.1 (fun hHeld => ?_)
            clear hK K
            refine wpAnyH_ready (rs := [1, 11]) (by kernel_rfl) (by simp) ?_
            refine AllReadyH.cons rfl (fun K hK => ?_) (AllReadyH.cons rfl (fun K hK => ?_) AllReadyH.nil)
            · have cL := hV1.1.2
              dsimp only at cL
              go_simp
              refine hK.out _ _ hV1.1.1 (fun hHeld => ?_)
              clear hK K
              refine wpAnyH_ready (rs := [11]) (by kernel_rfl) (by simp) ?_
              refine AllReadyH.cons rfl (fun K hK => ?_) AllReadyH.nil
              go_simp
              refine (l7DrawBox_any B b (M + 1 + 710 * i) (nm3B i) ((i : Int) + 1) _ hS1 (by omega)).mono ?_
              rintro e Y2 ⟨m, s, rfl, hu1, hu2, hu3, hl, hd2, hS2, hk2, -⟩
              obtain ⟨mn, mv, mx, mm⟩ := m
              obtain ⟨sa, sn, sc⟩ := s
              dsimp only [bxX, slW] at hu1 hu2 hu3 hl hd2 ⊢
              subst hu1 hu2
              have hR2 := hR1.grown hk2 (fun e => by injection e with e; omega)
              have hV2 := hV1.grown hk2 (fun e => by injection e with e; omega)
              have hO2 := hO1.kb hk2 (by omega)
              have hD2 := hD1.kz (Kz.kb hk2 (by omega))
              have hK2 := hK1.trans hk2
              have hz2 := Nat.le_trans hz1 (World.grownBy.size hk2)
              have hd2 := hd2.low (lo' := w.heap.size + 2) (by have := hz1; omega)
              refine hK.out _ _ hV2.1.1 (fun hHeld => ?_)
              clear hK K
              clear hR1 hV1 hO1 hD1 hS1 hK1 hz1
              refine wpAnyH_ready (rs := [12]) (by kernel_rfl) (by simp) ?_
              refine AllReadyH.cons rfl (fun K hK => ?_) AllReadyH.nil
              have hb3 : Below (World.heap Y2).size Y2 (World.alloc Y2 (.cells #[.string (nm3B i), .int .i64 ((i : Int) + 1), .int .i64 mx, .slice sa sn sc] 39)) := (Below.refl _ _).alloc (Nat.le_refl _) _
              have hQ3 := Qc.new Y2 (.string (nm3B i)) (.int .i64 ((i : Int) + 1)) (.int .i64 mx) (.slice sa sn sc) 39
              have hR3 := hR2.below hb3 hR2.lt
              have hV3 := hV2.below hb3 hV2.lt
              have hO3 := hO2.below hb3 (Nat.le_refl _)
              have hD3 := hD2.kz (Kz.below _ hb3)
              have hS3 := hS2.below (hb3.mono hS2.2.1)
              have hK3 := hK2.below hb3
              have hz3 := Nat.le_trans hz2 hb3.size
              have hd3 := hd2.kz (Kz.below _ hb3)
              go_simp
              generalize World.alloc Y2 (.cells #[.string (nm3B i), .int .i64 ((i : Int) + 1), .int .i64 mx, .slice sa sn sc] 39) = Y3 at *
              refine hK.out _ _ hV3.1.1 (fun hHeld => ?_)
              clear hK K
              clear hR2 hV2 hO2 hD2 hS2 hK2 hz2
              refine wpAnyH_ready (rs := [13]) (by kernel_rfl) (by simp) ?_
              refine AllReadyH.cons rfl (fun K hK => ?_) AllReadyH.nil
              refine step_appX rfl _ _ rfl (w.heap.size + 2) (.slice av i cv) ql (by rfl) hO3 _ (.string (nm3B i), .int .i64 ((i : Int) + 1), .int .i64 mx, .slice sa sn sc) (by rfl) hQ3 ⟨rfl, rfl, rfl, rfl⟩ (by have := HQ.out; omega) (by omega) ?_
              intro v2 Y4 hO4 hg4
              obtain ⟨a2, n2, k2, rfl⟩ : ∃ a n c, v2 = Value.slice a n c := by obtain ⟨a, c, e, -⟩ := OwnX.form hO4; exact ⟨a, _, c, e⟩
              have hKz : Kz (w.heap.size + 2) isN _ Y4 := hO3.kz isN hg4 hD3.first h0
              have hB : Below (w.heap.size + 2) _ Y4 := (Below.refl _ _).grown hg4 hz3 hne
              have hR4 := hR3.below hB (by omega)
              have hV4 := hV3.below hB (by omega)
              have hD4 := (hD3.kz hKz).snoc ⟨nm3B i, (i : Int) + 1, mx, mm⟩ (sa, sn, sc) (hd3.kz hKz) ⟨nm3B_size i, by dsimp only; omega⟩
              have hS4 := hS3.below (hB.mono (by omega))
              have hK4 := hK3.below' (hB.mono (by omega))
              have hz4 := Nat.le_trans hz3 hB.size
              refine hK.out _ _ hV4.1.1 (fun hHeld => ?_)
              clear hK K
              clear hB hKz hg4
              clear hR3 hV3 hO3 hD3 hS3 hK3 hz3
              refine wpAnyH_take (i := 14) (v := ?_) rfl (by kernel_rfl) (by kernel_rfl) (by kernel_rfl) (fun _ _ _ h => h) (Or.inl ⟨by rfl, ?hy27⟩) (by assumption) ?ty27
              case hy27 => (intro w5 hSw; (try dsimp only at hSw); go_simp; all_goals with_reducible rfl)
              simp only [Act.put, List.getElem_toArray, List.getElem_cons_zero, List.getElem_cons_succ, List.setIfInBounds_toArray, List.set_cons_zero, List.set_cons_succ]
              obtain ⟨⟨c0, c1⟩, f0, f1⟩ := id hV4
              dsimp only at c0 c1
              refine wpAnyH_ready (rs := [15]) (by kernel_rfl) (by simp) ?_
              refine AllReadyH.cons rfl (fun K hK => ?_) AllReadyH.nil
              have hV4s := hV4.set1 (.slice a2 n2 k2)
              have hR4s := hR4.far (w.heap.size + 1) 1 (.slice a2 n2 k2) (by omega)
              have hO4s := hO4.set ⟨w.heap.size + 1, 1, none⟩ (by simp) (.slice a2 n2 k2)
              have hBs : Below w.heap.size Y4 (World.setCell Y4 ⟨w.heap.size + 1, 1, none⟩ (.slice a2 n2 k2)) := (Below.refl _ _).setCell (by simp) _
              have hD4s := hD4.kz (Kz.set (R := w.heap.size + 1) (j := 1) isN (.slice a2 n2 k2) (by omega))
              have hS4s := hS4.below (hBs.mono hbw)
              have hK4s := hK4.below' hBs
              have hz4s := Nat.le_trans hz4 hBs.size
              clear hR4 hV4 hO4 hD4 hS4 hK4 hz4 hBs
              go_simp
              generalize World.setCell Y4 ⟨w.heap.size + 1, 1, none⟩ (.slice a2 n2 k2) = Y at *
              refine hK.out _ _ hV4s.1.1 (fun hHeld => ?_)
              clear hK K
              clear c0 c1 f0 f1
              refine wpAnyH_done (by kernel_rfl) ?_ _
              clear hHeld
              have hq0 : ql ++ [((.string (nm3B i), .int .i64 ((i : Int) + 1), .int .i64 mx, .slice sa sn sc) : Qd)] ≠ [] := by simp
              obtain ⟨⟨c0, c1⟩, f0, f1⟩ := id hV4s
              dsimp only at c0 c1
              have hV7 := hV4s.set0 (.int .i64 ((i : Int) + 1 + 1))
              have hR7 := hR4s.far (w.heap.size + 1) 0 (.int .i64 ((i : Int) + 1 + 1)) (by omega)
              have hO7 := hO4s.set ⟨w.heap.size + 1, 0, none⟩ (by simp) (.int .i64 ((i : Int) + 1 + 1))
              have hBs : Below w.heap.size Y (World.setCell Y ⟨w.heap.size + 1, 0, none⟩ (.int .i64 ((i : Int) + 1 + 1))) := (Below.refl _ _).setCell (by simp) _
              have hD7 := hD4s.kz (Kz.set (R := w.heap.size + 1) (j := 0) isN (.int .i64 ((i : Int) + 1 + 1)) (by omega))
              have hS7 := (hS4s.below (hBs.mono hbw)).more (show _ ≤ M + 1 + 710 * (i + 1) by omega)
              have hK7 := hK4s.below' hBs
              have hz7 := Nat.le_trans hz4s hBs.size
              have HX : Hid (_) := And.intro hR7 (And.intro hV7 (And.intro hO7 (And.intro hD7 (And.intro hS7 (And.intro hK7 hz7)))))
              clear hR7 hV7 hO7 hD7 hS7 hK7 hz7 hBs hR4s hV4s hO4s hD4s hS4s hK4s hz4s
              go_wp2
              go_roundw
              case rel => exact ⟨i + 1, .slice a2 n2 k2, ql ++ [(.string (nm3B i), .int .i64 ((i : Int) + 1), .int .i64 mx, .slice sa sn sc)], l ++ [⟨nm3B i, (i : Int) + 1, mx, mm⟩], by omega, by go_num, by simp [hli], HX.out.1, HX.out.2.1, HX.out.2.2.1, HX.out.2.2.2.1, fun e => absurd e hq0, HX.out.2.2.2.2.1, HX.out.2.2.2.2.2.1, HX.out.2.2.2.2.2.2⟩
              case measure => simp [intOf]; omega
            · go_simp
              refine (l7DrawBox_any B b (M + 1 + 710 * i) (nm3B i) ((i : Int) + 1) _ hS1 (by omega)).mono ?_
              rintro e Y2 ⟨m, s, rfl, hu1, hu2, hu3, hl, hd2, hS2, hk2, -⟩
              obtain ⟨mn, mv, mx, mm⟩ := m
              obtain ⟨sa, sn, sc⟩ := s
              dsimp only [bxX, slW] at hu1 hu2 hu3 hl hd2 ⊢
              subst hu1 hu2
              have hR2 := hR1.grown hk2 (fun e => by injection e with e; omega)
              have hV2 := hV1.grown hk2 (fun e => by injection e with e; omega)
              have hO2 := hO1.kb hk2 (by omega)
              have hD2 := hD1.kz (Kz.kb hk2 (by omega))
              have hK2 := hK1.trans hk2
              have hz2 := Nat.le_trans hz1 (World.grownBy.size hk2)
              have hd2 := hd2.low (lo' := w.heap.size + 2) (by have := hz1; omega)
              refine hK.out _ _ hV2.1.1 (fun hHeld => ?_)
              clear hK K
              clear hR1 hV1 hO1 hD1 hS1 hK1 hz1
              refine wpAnyH_ready (rs := [1, 12]) (by kernel_rfl) (by simp) ?_
              refine AllReadyH.cons rfl (fun K hK => ?_) (AllReadyH.cons rfl (fun K hK => ?_) AllReadyH.nil)
              · have cL := hV2.1.2
                dsimp only at cL
                go_simp
                refine hK.out _ _ hV2.1.1 (fun hHeld => ?_)
                clear hK K
                refine wpAnyH_ready (rs := [12]) (by kernel_rfl) (by simp) ?_
                refine AllReadyH.cons rfl (fun K hK => ?_) AllReadyH.nil
                have hb3 : Below (World.heap Y2).size Y2 (World.alloc Y2 (.cells #[.string (nm3B i), .int .i64 ((i : Int) + 1), .int .i64 mx, .slice sa sn sc] 39)) := (Below.refl _ _).alloc (Nat.le_refl _) _
                have hQ3 := Qc.new Y2 (.string (nm3B i)) (.int .i64 ((i : Int) + 1)) (.int .i64 mx) (.slice sa sn sc) 39
                have hR3 := hR2.below hb3 hR2.lt
                have hV3 := hV2.below hb3 hV2.lt
                have hO3 := hO2.below hb3 (Nat.le_refl _)
                have hD3 := hD2.kz (Kz.below _ hb3)
                have hS3 := hS2.below (hb3.mono hS2.2.1)
                have hK3 := hK2.below hb3
                have hz3 := Nat.le_trans hz2 hb3.size
                have hd3 := hd2.kz (Kz.below _ hb3)
                go_simp
                generalize World.alloc Y2 (.cells #[.string (nm3B i), .int .i64 ((i : Int) + 1), .int .i64 mx, .slice sa sn sc] 39) = Y3 at *
                refine hK.out _ _ hV3.1.1 (fun hHeld => ?_)
                clear hK K
                clear hR2 hV2 hO2 hD2 hS2 hK2 hz2
                refine wpAnyH_ready (rs := [13]) (by kernel_rfl) (by simp) ?_
                refine AllReadyH.cons rfl (fun K hK => ?_) AllReadyH.nil
                refine step_appX rfl _ _ rfl (w.heap.size + 2) (.slice av i cv) ql (by rfl) hO3 _ (.string (nm3B i), .int .i64 ((i : Int) + 1), .int .i64 mx, .slice sa sn sc) (by rfl) hQ3 ⟨rfl, rfl, rfl, rfl⟩ (by have := HQ.out; omega) (by omega) ?_
                intro v2 Y4 hO4 hg4
                obtain ⟨a2, n2, k2, rfl⟩ : ∃ a n c, v2 = Value.slice a n c := by obtain ⟨a, c, e, -⟩ := OwnX.form hO4; exact ⟨a, _, c, e⟩
                have hKz : Kz (w.heap.size + 2) isN _ Y4 := hO3.kz isN hg4 hD3.first h0
                have hB : Below (w.heap.size + 2) _ Y4 := (Below.refl _ _).grown hg4 hz3 hne
                have hR4 := hR3.below hB (by omega)
                have hV4 := hV3.below hB (by omega)
                have hD4 := (hD3.kz hKz).snoc ⟨nm3B i, (i : Int) + 1, mx, mm⟩ (sa, sn, sc) (hd3.kz hKz) ⟨nm3B_size i, by dsimp only; omega⟩
                have hS4 := hS3.below (hB.mono (by omega))
                have hK4 := hK3.below' (hB.mono (by omega))
                have hz4 := Nat.le_trans hz3 hB.size
                refine hK.out _ _ hV4.1.1 (fun hHeld => ?_)
                clear hK K
                clear hB hKz hg4
                clear hR3 hV3 hO3 hD3 hS3 hK3 hz3
                refine wpAnyH_take (i := 14) (v := ?_) rfl (by kernel_rfl) (by kernel_rfl) (by kernel_rfl) (fun _ _ _ h => h) (Or.inl ⟨by rfl, ?hy28⟩) (by assumption) ?ty28
                case hy28 => (intro w5 hSw; (try dsimp only at hSw); go_simp; all_goals with_reducible rfl)
                simp only [Act.put, List.getElem_toArray, List.getElem_cons_zero, List.getElem_cons_succ, List.setIfInBounds_toArray, List.set_cons_zero, List.set_cons_succ]
                obtain ⟨⟨c0, c1⟩, f0, f1⟩ := id hV4
                dsimp only at c0 c1
                refine wpAnyH_ready (rs := [15]) (by kernel_rfl) (by simp) ?_
                refine AllReadyH.cons rfl (fun K hK => ?_) AllReadyH.nil
                have hV4s := hV4.set1 (.slice a2 n2 k2)
                have hR4s := hR4.far (w.heap.size + 1) 1 (.slice a2 n2 k2) (by omega)
                have hO4s := hO4.set ⟨w.heap.size + 1, 1, none⟩ (by simp) (.slice a2 n2 k2)
                have hBs : Below w.heap.size Y4 (World.setCell Y4 ⟨w.heap.size + 1, 1, none⟩ (.slice a2 n2 k2)) := (Below.refl _ _).setCell (by simp) _
                have hD4s := hD4.kz (Kz.set (R := w.heap.size + 1) (j := 1) isN (.slice a2 n2 k2) (by omega))
                have hS4s := hS4.below (hBs.mono hbw)
                have hK4s := hK4.below' hBs
                have hz4s := Nat.le_trans hz4 hBs.size
                clear hR4 hV4 hO4 hD4 hS4 hK4 hz4 hBs
                go_simp
                generalize World.setCell Y4 ⟨w.heap.size + 1, 1, none⟩ (.slice a2 n2 k2) = Y at *
                refine hK.out _ _ hV4s.1.1 (fun hHeld => ?_)
                clear hK K
                clear c0 c1 f0 f1
                refine wpAnyH_done (by kernel_rfl) ?_ _
                clear hHeld
                have hq0 : ql ++ [((.string (nm3B i), .int .i64 ((i : Int) + 1), .int .i64 mx, .slice sa sn sc) : Qd)] ≠ [] := by simp
                obtain ⟨⟨c0, c1⟩, f0, f1⟩ := id hV4s
                dsimp only at c0 c1
                have hV7 := hV4s.set0 (.int .i64 ((i : Int) + 1 + 1))
                have hR7 := hR4s.far (w.heap.size + 1) 0 (.int .i64 ((i : Int) + 1 + 1)) (by omega)
                have hO7 := hO4s.set ⟨w.heap.size + 1, 0, none⟩ (by simp) (.int .i64 ((i : Int) + 1 + 1))
                have hBs : Below w.heap.size Y (World.setCell Y ⟨w.heap.size + 1, 0, none⟩ (.int .i64 ((i : Int) + 1 + 1))) := (Below.refl _ _).setCell (by simp) _
                have hD7 := hD4s.kz (Kz.set (R := w.heap.size + 1) (j := 0) isN (.int .i64 ((i : Int) + 1 + 1)) (by omega))
                have hS7 := (hS4s.below (hBs.mono hbw)).more (show _ ≤ M + 1 + 710 * (i + 1) by omega)
                have hK7 := hK4s.below' hBs
                have hz7 := Nat.le_trans hz4s hBs.size
                have HX : Hid (_) := And.intro hR7 (And.intro hV7 (And.intro hO7 (And.intro hD7 (And.intro hS7 (And.intro hK7 hz7)))))
                clear hR7 hV7 hO7 hD7 hS7 hK7 hz7 hBs hR4s hV4s hO4s hD4s hS4s hK4s hz4s
                go_wp2
                go_roundw
                case rel => exact ⟨i + 1, .slice a2 n2 k2, ql ++ [(.string (nm3B i), .int .i64 ((i : Int) + 1), .int .i64 mx, .slice sa sn sc)], l ++ [⟨nm3B i, (i : Int) + 1, mx, mm⟩], by omega, by go_num, by simp [hli], HX.out.1, HX.out.2.1, HX.out.2.2.1, HX.out.2.2.2.1, fun e => absurd e hq0, HX.out.2.2.2.2.1, HX.out.2.2.2.2.2.1, HX.out.2.2.2.2.2.2⟩
                case measure => simp [intOf]; omega
              · have hb3 : Below (World.heap Y2).size Y2 (World.alloc Y2 (.cells #[.string (nm3B i), .int .i64 ((i : Int) + 1), .int .i64 mx, .slice sa sn sc] 39)) := (Below.refl _ _).alloc (Nat.le_refl _) _
                have hQ3 := Qc.new Y2 (.string (nm3B i)) (.int .i64 ((i : Int) + 1)) (.int .i64 mx) (.slice sa sn sc) 39
                have hR3 := hR2.below hb3 hR2.lt
                have hV3 := hV2.below hb3 hV2.lt
                have hO3 := hO2.below hb3 (Nat.le_refl _)
                have hD3 := hD2.kz (Kz.below _ hb3)
                have hS3 := hS2.below (hb3.mono hS2.2.1)
                have hK3 := hK2.below hb3
                have hz3 := Nat.le_trans hz2 hb3.size
                have hd3 := hd2.kz (Kz.below _ hb3)
                go_simp
                generalize World.alloc Y2 (.cells #[.string (nm3B i), .int .i64 ((i : Int) + 1), .int .i64 mx, .slice sa sn sc] 39) = Y3 at *
                refine hK.out _ _ hV3.1.1 (fun hHeld => ?_)
                clear hK K
                clear hR2 hV2 hO2 hD2 hS2 hK2 hz2
                refine wpAnyH_ready (rs := [1]) (by kernel_rfl) (by simp) ?_
                refine AllReadyH.cons rfl (fun K hK => ?_) AllReadyH.nil
                have cL := hV3.1.2
                dsimp only at cL
                go_simp
                refine hK.out _ _ hV3.1.1 (fun hHeld => ?_)
                clear hK K
                refine wpAnyH_ready (rs := [13]) (by kernel_rfl) (by simp) ?_
                refine AllReadyH.cons rfl (fun K hK => ?_) AllReadyH.nil
                refine step_appX rfl _ _ rfl (w.heap.size + 2) (.slice av i cv) ql (by rfl) hO3 _ (.string (nm3B i), .int .i64 ((i : Int) + 1), .int .i64 mx, .slice sa sn sc) (by rfl) hQ3 ⟨rfl, rfl, rfl, rfl⟩ (by have := HQ.out; omega) (by omega) ?_
                intro v2 Y4 hO4 hg4
                obtain ⟨a2, n2, k2, rfl⟩ : ∃ a n c, v2 = Value.slice a n c := by obtain ⟨a, c, e, -⟩ := OwnX.form hO4; exact ⟨a, _, c, e⟩
                have hKz : Kz (w.heap.size + 2) isN _ Y4 := hO3.kz isN hg4 hD3.first h0
                have hB : Below (w.heap.size + 2) _ Y4 := (Below.refl _ _).grown hg4 hz3 hne
                have hR4 := hR3.below hB (by omega)
                have hV4 := hV3.below hB (by omega)
                have hD4 := (hD3.kz hKz).snoc ⟨nm3B i, (i : Int) + 1, mx, mm⟩ (sa, sn, sc) (hd3.kz hKz) ⟨nm3B_size i, by dsimp only; omega⟩
                have hS4 := hS3.below (hB.mono (by omega))
                have hK4 := hK3.below' (hB.mono (by omega))
                have hz4 := Nat.le_trans hz3 hB.size
                refine hK.out _ _ hV4.1.1 (fun hHeld => ?_)
                clear hK K
                clear hB hKz hg4
                clear hR3 hV3 hO3 hD3 hS3 hK3 hz3
                refine wpAnyH_take (i := 14) (v := ?_) rfl (by kernel_rfl) (by kernel_rfl) (by kernel_rfl) (fun _ _ _ h => h) (Or.inl ⟨by rfl, ?hy29⟩) (by assumption) ?ty29
                case hy29 => (intro w5 hSw; (try dsimp only at hSw); go_simp; all_goals with_reducible rfl)
                simp only [Act.put, List.getElem_toArray, List.getElem_cons_zero, List.getElem_cons_succ, List.setIfInBounds_toArray, List.set_cons_zero, List.set_cons_succ]
                obtain ⟨⟨c0, c1⟩, f0, f1⟩ := id hV4
                dsimp only at c0 c1
                refine wpAnyH_ready (rs := [15]) (by kernel_rfl) (by simp) ?_
                refine AllReadyH.cons rfl (fun K hK => ?_) AllReadyH.nil
                have hV4s := hV4.set1 (.slice a2 n2 k2)
                have hR4s := hR4.far (w.heap.size + 1) 1 (.slice a2 n2 k2) (by omega)
                have hO4s := hO4.set ⟨w.heap.size + 1, 1, none⟩ (by simp) (.slice a2 n2 k2)
                have hBs : Below w.heap.size Y4 (World.setCell Y4 ⟨w.heap.size + 1, 1, none⟩ (.slice a2 n2 k2)) := (Below.refl _ _).setCell (by simp) _
                have hD4s := hD4.kz (Kz.set (R := w.heap.size + 1) (j := 1) isN (.slice a2 n2 k2) (by omega))
                have hS4s := hS4.below (hBs.mono hbw)
                have hK4s := hK4.below' hBs
                have hz4s := Nat.le_trans hz4 hBs.size
                clear hR4 hV4 hO4 hD4 hS4 hK4 hz4 hBs
                go_simp
                generalize World.setCell Y4 ⟨w.heap.size + 1, 1, none⟩ (.slice a2 n2 k2) = Y at *
                refine hK.out _ _ hV4s.1.1 (fun hHeld => ?_)
                clear hK K
                clear c0 c1 f0 f1
                refine wpAnyH_done (by kernel_rfl) ?_ _
                clear hHeld
                have hq0 : ql ++ [((.string (nm3B i), .int .i64 ((i : Int) + 1), .int .i64 mx, .slice sa sn sc) : Qd)] ≠ [] := by simp
                obtain ⟨⟨c0, c1⟩, f0, f1⟩ := id hV4s
                dsimp only at c0 c1
                have hV7 := hV4s.set0 (.int .i64 ((i : Int) + 1 + 1))
                have hR7 := hR4s.far (w.heap.size + 1) 0 (.int .i64 ((i : Int) + 1 + 1)) (by omega)
                have hO7 := hO4s.set ⟨w.heap.size + 1, 0, none⟩ (by simp) (.int .i64 ((i : Int) + 1 + 1))
                have hBs : Below w.heap.size Y (World.setCell Y ⟨w.heap.size + 1, 0, none⟩ (.int .i64 ((i : Int) + 1 + 1))) := (Below.refl _ _).setCell (by simp) _
                have hD7 := hD4s.kz (Kz.set (R := w.heap.size + 1) (j := 0) isN (.int .i64 ((i : Int) + 1 + 1)) (by omega))
                have hS7 := (hS4s.below (hBs.mono hbw)).more (show _ ≤ M + 1 + 710 * (i + 1) by omega)
                have hK7 := hK4s.below' hBs
                have hz7 := Nat.le_trans hz4s hBs.size
                have HX : Hid (_) := And.intro hR7 (And.intro hV7 (And.intro hO7 (And.intro hD7 (And.intro hS7 (And.intro hK7 hz7)))))
                clear hR7 hV7 hO7 hD7 hS7 hK7 hz7 hBs hR4s hV4s hO4s hD4s hS4s hK4s hz4s
                go_wp2
                go_roundw
                case rel => exact ⟨i + 1, .slice a2 n2 k2, ql ++ [(.string (nm3B i), .int .i64 ((i : Int) + 1), .int .i64 mx, .slice sa sn sc)], l ++ [⟨nm3B i, (i : Int) + 1, mx, mm⟩], by omega, by go_num, by simp [hli], HX.out.1, HX.out.2.1, HX.out.2.2.1, HX.out.2.2.2.1, fun e => absurd e hq0, HX.out.2.2.2.2.1, HX.out.2.2.2.2.2.1, HX.out.2.2.2.2.2.2⟩
                case measure => simp [intOf]; omega
    · have hii : i = n := by omega
      have hj : ¬ (0 : Int) < ((n - i : Nat) : Int) := by omega
      subst hii
      obtain ⟨⟨c0, c1⟩, f0, f1⟩ := id hV
      obtain ⟨⟨r0, r1⟩, y0, y1⟩ := id hR
      dsimp only at c0 c1 r0 r1
      have hV4 := (hR.set0 (.int .i64 ((i : Int) + 1))).set1 (.slice av i cv)
      obtain ⟨⟨q0, q1⟩, -, -⟩ := id hV4
      dsimp only at q0 q1
      have hB4 : Below w.heap.size wr ((wr.setCell ⟨w.heap.size, 0, none⟩ (.int .i64 ((i : Int) + 1))).setCell ⟨w.heap.size, 1, none⟩ (.slice av i cv)) := ((Below.refl _ _).setCell (by simp) _).setCell (by simp) _
      have hZ4 : Kz (w.heap.size + 2) isN wr ((wr.setCell ⟨w.heap.size, 0, none⟩ (.int .i64 ((i : Int) + 1))).setCell ⟨w.heap.size, 1, none⟩ (.slice av i cv)) := (Kz.set _ _ (by omega)).trans (Kz.set _ _ (by omega))
      have hO4 := (hO.set ⟨w.heap.size, 0, none⟩ (by simp) (.int .i64 ((i : Int) + 1))).set ⟨w.heap.size, 1, none⟩ (by simp) (.slice av i cv)
      have HD : Hid (_) := And.intro (hD.kz hZ4) (And.intro (hS.below (hB4.mono hbw)) (And.intro (hK.below' hB4) hO4))
      clear hS hK hB4 hZ4 hO hD hR hV hV4 hO4
      go_wp2
      refine bodyPost_ret (v := .agg #[.int .i64 ((i : Int) + 1), .slice av i cv]) (by simp [results, Tryd.results57, go_sem, q0, q1]) rfl ?_
      exact ⟨(i : Int) + 1, .slice av i cv, ql, l, rfl, by omega, by omega, OwnX.low HD.out.2.2.2 (by omega), DX.low HD.out.1 (by omega), h0, HD.out.2.1.more (by omega), HD.out.2.2.1⟩
end Go.Proofs.YtilepbbcinbmhaaDoor
