/- A new world on both sides, for every number of sessions: what is equal, marked and held of it. -/
import Derived.Test.YtpmnopmfaicffaaNww
import Derived.Test.YtpmnopmfaicffaaNvb
import Derived.Test.YtpmnopmfaicffaaMtj
import Derived.Maps.AppendAt
namespace Go.Proofs.Ytpmnopmfaicffaa
open Go.RowKit
set_option linter.unusedVariables false

def SeAt (w : World) (g k : Nat) : Prop := ∀ i, i < k → (w.cell? ⟨g, i * 4, none⟩ = some (.string ⟨#[]⟩) ∧ w.cell? ⟨g, i * 4 + 1, none⟩ = some (.int .i64 0) ∧ w.cell? ⟨g, i * 4 + 2, none⟩ = some (.slice none 0 0) ∧ w.cell? ⟨g, i * 4 + 3, none⟩ = some (.int .i64 1))
theorem SeAt.below {w w' : World} {g k C : Nat} (h : SeAt w g k) (hb : Below C w w') (hg : g < C) : SeAt w' g k := fun i hi =>
  ⟨(hb.cell (p := ⟨g, i * 4, none⟩) hg).trans (h i hi).1, (hb.cell (p := ⟨g, i * 4 + 1, none⟩) hg).trans (h i hi).2.1, (hb.cell (p := ⟨g, i * 4 + 2, none⟩) hg).trans (h i hi).2.2.1, (hb.cell (p := ⟨g, i * 4 + 3, none⟩) hg).trans (h i hi).2.2.2⟩
theorem seC_at : ∀ (k i : Nat), i < k → ∀ L : List Value, (seC k ++ L)[i * 4]? = some (.string ⟨#[]⟩) ∧ (seC k ++ L)[i * 4 + 1]? = some (.int .i64 0) ∧ (seC k ++ L)[i * 4 + 2]? = some (.slice none 0 0) ∧ (seC k ++ L)[i * 4 + 3]? = some (.int .i64 1)
  | 0, i, h, _ => absurd h (by omega)
  | k + 1, 0, _, _ => ⟨rfl, rfl, rfl, rfl⟩
  | k + 1, i + 1, h, L => by
    have e := seC_at k i (by omega) L
    rw [show (i + 1) * 4 = (i * 4) + 1 + 1 + 1 + 1 by omega]
    exact e
theorem SeAt.of_row {w : World} {g k : Nat} {L : List Value} {fz : Nat × Nat} (h : w.heap[g]? = some (.cells (seC k ++ L).toArray 44 fz)) : SeAt w g k := fun i hi => by
  obtain ⟨h0, h1, h2, h3⟩ := seC_at k i hi L
  refine ⟨?_, ?_, ?_, ?_⟩ <;> simp only [World.cell?, h] <;> simp <;> assumption

set_option maxHeartbeats 1600000 in
theorem eqSession_n (w : World) : Calls Try.prog 35 #[.agg #[.string ⟨#[]⟩, .int .i64 0, .slice none 0 0, .int .i64 1], .agg #[.string ⟨#[]⟩, .int .i64 0, .slice none 0 0, .int .i64 1]] w fun e w' => e = .returned (.bool true) ∧ Below w.heap.size w w' := by
  go_enter Try.func35, Try.ntmps35
  go_wp2_with (first
    | (go_at_call 45; refine (eqInt64S_nil _).mono ?_; rintro e w1 ⟨rfl, rfl⟩))
  go_ret
  exact ⟨rfl, by go_grown⟩

set_option maxHeartbeats 1600000 in
set_option maxRecDepth 100000 in
theorem eqSessionS_n (b d n cap cap' : Nat) (w : World) (hn3 : n ≤ 3) (hb : b < w.heap.size) (hd : d < w.heap.size) (hr : SeAt w b n) (hr' : SeAt w d n) :
    Calls Try.prog 26 #[.slice (some ⟨b, 0, none⟩) n cap, .slice (some ⟨d, 0, none⟩) n cap'] w fun e w' => e = .returned (.bool true) ∧ Below w.heap.size w w' := by
  go_enter Try.func26, Try.ntmps26
  go_wp2
  go_loopw [5] (fun i wr => ∃ k : Nat, k ≤ n ∧ i = .int .i64 k ∧ Below w.heap.size w wr) (fun i _ => n - (intOf i).toNat)
  case atStart => exact ⟨0, Nat.zero_le _, rfl, Below.refl _ _⟩
  case round =>
    obtain ⟨k, hk, rfl, hbel⟩ := hrel
    by_cases hkn : k < n
    · have hblt : b < wr.heap.size := Nat.lt_of_lt_of_le hb hbel.size
      have hdlt : d < wr.heap.size := Nat.lt_of_lt_of_le hd hbel.size
      have hC := (hr.below hbel hb) k hkn
      have hD := (hr'.below hbel hd) k hkn
      have hki : (k : Int) < (n : Int) := by omega
      go_wp2_with fail
      refine wp_region_held_drew (S := fun w' => (w'.cell? ⟨b, k * 4, none⟩ = some (.string ⟨#[]⟩) ∧ w'.cell? ⟨b, k * 4 + 1, none⟩ = some (.int .i64 0) ∧ w'.cell? ⟨b, k * 4 + 2, none⟩ = some (.slice none 0 0) ∧ w'.cell? ⟨b, k * 4 + 3, none⟩ = some (.int .i64 1)) ∧ (w'.cell? ⟨d, k * 4, none⟩ = some (.string ⟨#[]⟩) ∧ w'.cell? ⟨d, k * 4 + 1, none⟩ = some (.int .i64 0) ∧ w'.cell? ⟨d, k * 4 + 2, none⟩ = some (.slice none 0 0) ∧ w'.cell? ⟨d, k * 4 + 3, none⟩ = some (.int .i64 1))) (by kernel_rfl) ?hS1 (fun hHeld => ?_)
      case hS1 => exact ⟨hC, hD⟩
      refine tk (i := 0) (v := ?_) rfl (Or.inl ⟨by rfl, ?hya0⟩) ?tya0
      case hya0 => (intro w' hSw; obtain ⟨⟨e0, e1, e2, e3⟩, ⟨d0, d1, d2, d3⟩⟩ := hSw; go_simp; all_goals with_reducible rfl)
      simp only [Act.put, J1, J2, J4, J5, J6]
      refine tk (i := 1) (v := ?_) rfl (Or.inl ⟨by rfl, ?hya1⟩) ?tya1
      case hya1 => (intro w' hSw; obtain ⟨⟨e0, e1, e2, e3⟩, ⟨d0, d1, d2, d3⟩⟩ := hSw; go_simp; all_goals with_reducible rfl)
      simp only [Act.put, J1, J2, J3, J4, J5, J6]
      refine tk (i := 2) (v := ?_) rfl (Or.inl ⟨by rfl, ?hya2⟩) ?tya2
      case hya2 => (intro w' hSw; obtain ⟨⟨e0, e1, e2, e3⟩, ⟨d0, d1, d2, d3⟩⟩ := hSw; go_simp; all_goals with_reducible rfl)
      simp only [Act.put, J1, J2, J3, J4, J5, J6]
      refine tk (i := 3) (v := ?_) rfl (Or.inl ⟨by rfl, ?hya3⟩) ?tya3
      case hya3 => (intro w' hSw; obtain ⟨⟨e0, e1, e2, e3⟩, ⟨d0, d1, d2, d3⟩⟩ := hSw; go_simp; all_goals with_reducible rfl)
      simp only [Act.put, J1, J2, J3, J4, J5, J6]
      refine tk (i := 4) (v := ?_) rfl (Or.inl ⟨by rfl, ?hya4⟩) ?tya4
      case hya4 => (intro w' hSw; obtain ⟨⟨e0, e1, e2, e3⟩, ⟨d0, d1, d2, d3⟩⟩ := hSw; go_simp; all_goals with_reducible rfl)
      simp only [Act.put, J1, J2, J3, J4, J5, J6]
      refine tk (i := 5) (v := ?_) rfl (Or.inl ⟨by rfl, ?hya5⟩) ?tya5
      case hya5 => (intro w' hSw; obtain ⟨⟨e0, e1, e2, e3⟩, ⟨d0, d1, d2, d3⟩⟩ := hSw; go_simp; all_goals with_reducible rfl)
      simp only [Act.put, J1, J2, J3, J4, J5, J6]
      refine tk (i := 6) (v := ?_) rfl (Or.inl ⟨by rfl, ?hya6⟩) ?tya6
      case hya6 => (intro w' hSw; obtain ⟨⟨e0, e1, e2, e3⟩, ⟨d0, d1, d2, d3⟩⟩ := hSw; go_simp; all_goals with_reducible rfl)
      simp only [Act.put, J1, J2, J3, J4, J5, J6]
      refine tk (i := 7) (v := ?_) rfl (Or.inl ⟨by rfl, ?hya7⟩) ?tya7
      case hya7 => (intro w' hSw; obtain ⟨⟨e0, e1, e2, e3⟩, ⟨d0, d1, d2, d3⟩⟩ := hSw; go_simp; all_goals with_reducible rfl)
      simp only [Act.put, J1, J2, J3, J4, J5, J6]
      refine wpAnyH_ready (rs := [8]) (by kernel_rfl) (by simp) ?_
      refine AllReadyH.cons rfl (fun K hK => ?_) AllReadyH.nil
      go_simp
      refine (eqSession_n _).mono ?_
      rintro e w1 ⟨rfl, hbx⟩
      have HW : Hid (Below wr.heap.size wr w1) := (Below.refl _ _).drew.trans hbx
      have hsS := And.intro ((((hr.below hbel hb).below HW.out hblt)) k hkn) ((((hr'.below hbel hd).below HW.out hdlt)) k hkn)
      refine hK.out _ _ hsS (fun hHeld => ?_)
      clear hK K
      refine tk (i := 9) (v := ?_) rfl (Or.inl ⟨by rfl, ?hyb9⟩) ?tyb9
      case hyb9 => (intro w' hSw; go_simp; all_goals with_reducible rfl)
      simp only [Act.put, J1, J2, J3, J4, J5, J6]
      refine wpAnyH_done (by kernel_rfl) ?_ _
      have hbel2 := hbel.trans (HW.out.mono hbel.size)
      clear hHeld hsS hbx HW hC hD
      go_wp2
      go_roundw
      case rel => exact ⟨k + 1, by omega, by go_num, hbel2⟩
      case measure => simp [intOf]; omega
    · have hki : ¬ (k : Int) < (n : Int) := by omega
      go_wp2
      go_ret
      exact ⟨rfl, hbel⟩

/-- So many are marked. -/
def MkS (w : World) (g k i : Nat) : Prop := (∀ o, o < 4 * k → (∃ u, w.cell? ⟨g, o, none⟩ = some u) ∧ w.frozen? ⟨g, o, none⟩ = false) ∧ (∀ j, j < k → w.cell? ⟨g, j * 4 + 2, none⟩ = some (.slice none 0 0)) ∧ ∀ j, j < i → (w.cell? ⟨g, j * 4, none⟩ = some (.string (mtL (1 + 3 * j))) ∧ w.cell? ⟨g, j * 4 + 1, none⟩ = some (.int .i64 (1 + 3 * (j : Int) + 1)) ∧ w.cell? ⟨g, j * 4 + 2, none⟩ = some (.slice none 0 0) ∧ w.cell? ⟨g, j * 4 + 3, none⟩ = some (.int .i64 (1 + 3 * (j : Int) + 1 + 1)))
theorem MkS.blk {w w' : World} {g k i : Nat} (h : MkS w g k i) (e : w'.heap[g]? = w.heap[g]?) : MkS w' g k i := by
  have hc : ∀ o, w'.cell? ⟨g, o, none⟩ = w.cell? ⟨g, o, none⟩ := fun o => by simp only [World.cell?, e]
  have hf : ∀ o, w'.frozen? ⟨g, o, none⟩ = w.frozen? ⟨g, o, none⟩ := fun o => by simp only [World.frozen?, e]
  refine ⟨fun o ho => ?_, fun j hj => ?_, fun j hj => ?_⟩
  · rw [hc, hf]; exact h.1 o ho
  · rw [hc]; exact h.2.1 j hj
  · rw [hc, hc, hc, hc]; exact h.2.2 j hj
theorem set3 {w : World} {g a b c : Nat} {ua ub uc : Value} (va vb vc : Value) (hab : a ≠ b) (hac : a ≠ c) (hbc : b ≠ c) (ha : w.cell? ⟨g, a, none⟩ = some ua) (hb : w.cell? ⟨g, b, none⟩ = some ub) (hc : w.cell? ⟨g, c, none⟩ = some uc) :
    (((w.setCell ⟨g, a, none⟩ va).setCell ⟨g, b, none⟩ vb).setCell ⟨g, c, none⟩ vc).cell? ⟨g, a, none⟩ = some va ∧ (((w.setCell ⟨g, a, none⟩ va).setCell ⟨g, b, none⟩ vb).setCell ⟨g, c, none⟩ vc).cell? ⟨g, b, none⟩ = some vb ∧ (((w.setCell ⟨g, a, none⟩ va).setCell ⟨g, b, none⟩ vb).setCell ⟨g, c, none⟩ vc).cell? ⟨g, c, none⟩ = some vc ∧
    ∀ o, o ≠ a → o ≠ b → o ≠ c → (((w.setCell ⟨g, a, none⟩ va).setCell ⟨g, b, none⟩ vb).setCell ⟨g, c, none⟩ vc).cell? ⟨g, o, none⟩ = w.cell? ⟨g, o, none⟩ := by
  have hne : ∀ {x y : Nat}, x ≠ y → (⟨g, x, none⟩ : Addr) ≠ ⟨g, y, none⟩ := fun h e => h (Addr.mk.inj e).2.1
  have b1 : (w.setCell ⟨g, a, none⟩ va).cell? ⟨g, b, none⟩ = some ub := by rw [World.cell?_setCell_other _ _ _ _ (hne hab)]; exact hb
  have c1 : ((w.setCell ⟨g, a, none⟩ va).setCell ⟨g, b, none⟩ vb).cell? ⟨g, c, none⟩ = some uc := by rw [World.cell?_setCell_other _ _ _ _ (hne hbc), World.cell?_setCell_other _ _ _ _ (hne hac)]; exact hc
  refine ⟨?_, ?_, World.cell?_setCell_same _ _ _ c1, fun o h1 h2 h3 => ?_⟩
  · rw [World.cell?_setCell_other _ _ _ _ (hne (Ne.symm hac)), World.cell?_setCell_other _ _ _ _ (hne (Ne.symm hab))]
    exact World.cell?_setCell_same _ _ _ ha
  · rw [World.cell?_setCell_other _ _ _ _ (hne (Ne.symm hbc))]
    exact World.cell?_setCell_same _ _ _ b1
  · rw [World.cell?_setCell_other _ _ _ _ (hne (Ne.symm h3)), World.cell?_setCell_other _ _ _ _ (hne (Ne.symm h2)), World.cell?_setCell_other _ _ _ _ (hne (Ne.symm h1))]
theorem MkS.next {w W : World} {g k i : Nat} (h : MkS w g k i) (hi : i < k) (e0 : W.cell? ⟨g, i * 4, none⟩ = some (.string (mtL (1 + 3 * i)))) (e1 : W.cell? ⟨g, i * 4 + 1, none⟩ = some (.int .i64 (1 + 3 * (i : Int) + 1))) (e3 : W.cell? ⟨g, i * 4 + 3, none⟩ = some (.int .i64 (1 + 3 * (i : Int) + 1 + 1)))
    (eo : ∀ o, o ≠ i * 4 → o ≠ i * 4 + 1 → o ≠ i * 4 + 3 → W.cell? ⟨g, o, none⟩ = w.cell? ⟨g, o, none⟩) (hf : ∀ o, W.frozen? ⟨g, o, none⟩ = w.frozen? ⟨g, o, none⟩) : MkS W g k (i + 1) := by
  refine ⟨fun o ho => ⟨?_, ?_⟩, fun j hj => ?_, fun j hj => ?_⟩
  · by_cases h0 : o = i * 4
    · subst h0; exact ⟨_, e0⟩
    by_cases h1 : o = i * 4 + 1
    · subst h1; exact ⟨_, e1⟩
    by_cases h3 : o = i * 4 + 3
    · subst h3; exact ⟨_, e3⟩
    obtain ⟨⟨u, hu⟩, -⟩ := h.1 o ho
    exact ⟨u, (eo o h0 h1 h3).trans hu⟩
  · rw [hf]
    exact (h.1 o ho).2
  · exact (eo _ (by omega) (by omega) (by omega)).trans (h.2.1 j hj)
  · by_cases hji : j = i
    · subst hji
      exact ⟨e0, e1, (eo _ (by omega) (by omega) (by omega)).trans (h.2.1 j hi), e3⟩
    · obtain ⟨m0, m1, m2, m3⟩ := h.2.2 j (by omega)
      exact ⟨(eo _ (by omega) (by omega) (by omega)).trans m0, (eo _ (by omega) (by omega) (by omega)).trans m1, (eo _ (by omega) (by omega) (by omega)).trans m2, (eo _ (by omega) (by omega) (by omega)).trans m3⟩

set_option maxHeartbeats 1600000 in
set_option maxRecDepth 100000 in
theorem markSessionS_n (g n : Nat) (w : World) (hn : n ≤ 3) (hg : g < w.heap.size) (h0 : MkS w g n 0) :
    Calls Try.prog 29 #[.slice (some ⟨g, 0, none⟩) n n, .int .i64 1] w fun e w' => e = .returned (.int .i64 ((1 + 3 * n : Nat) : Int)) ∧ MkS w' g n n ∧ w.heap.size ≤ w'.heap.size ∧ (∀ B w0, Below B w0 w → B ≤ g → Below B w0 w') ∧ ∀ q, q < w.heap.size → q ≠ g → w'.heap[q]? = w.heap[q]? := by
  go_enter Try.func29, Try.ntmps29
  go_wp2
  go_loopw [1, 5] (fun m i wr => ∃ k : Nat, k ≤ n ∧ i = .int .i64 k ∧ m = .int .i64 ((1 + 3 * k : Nat) : Int) ∧ Hid (MkS wr g n k ∧ w.heap.size ≤ wr.heap.size ∧ (∀ B w0, Below B w0 w → B ≤ g → Below B w0 wr) ∧ ∀ q, q < w.heap.size → q ≠ g → wr.heap[q]? = w.heap[q]?)) (fun _ i _ => n - (intOf i).toNat)
  case atStart => exact ⟨0, Nat.zero_le _, rfl, rfl, h0, Nat.le_refl _, fun _ _ h _ => h, fun _ _ _ => rfl⟩
  case round =>
    obtain ⟨k, hk, rfl, rfl, hH⟩ := hrel
    by_cases hkn : k < n
    · have hki : (k : Int) < (n : Int) := by omega
      obtain ⟨hM, hs, hB, hq⟩ := hH.out
      have HT := markText_l (1 + 3 * k) wr (by omega) (by omega)
      have gw : g < wr.heap.size := by omega
      clear hH
      go_wp2_with (first
        | (go_at_call 27; refine HT.mono ?_; rintro e w1 ⟨rfl, hb1⟩; have hM1 := hM.blk (hb1.block g gw); have f0 := (hM1.1 (k * 4) (by omega)).2; have f1 := (hM1.1 (k * 4 + 1) (by omega)).2; have f3 := (hM1.1 (k * 4 + 3) (by omega)).2; obtain ⟨u0, c0⟩ := (hM1.1 (k * 4) (by omega)).1; obtain ⟨u1, c1⟩ := (hM1.1 (k * 4 + 1) (by omega)).1; obtain ⟨u3, c3⟩ := (hM1.1 (k * 4 + 3) (by omega)).1; have c2 := hM1.2.1 k hkn)
        | (go_at_call 38; refine (markInt64S_nil _ _).mono ?_; rintro e w2 ⟨rfl, rfl⟩))
      have HN : Hid (MkS (((w1.setCell ⟨g, k * 4, none⟩ (.string (mtL (1 + 3 * k)))).setCell ⟨g, k * 4 + 1, none⟩ (.int .i64 (1 + 3 * (k : Int) + 1))).setCell ⟨g, k * 4 + 3, none⟩ (.int .i64 (1 + 3 * (k : Int) + 1 + 1))) g n (k + 1) ∧ w.heap.size ≤ (((w1.setCell ⟨g, k * 4, none⟩ (.string (mtL (1 + 3 * k)))).setCell ⟨g, k * 4 + 1, none⟩ (.int .i64 (1 + 3 * (k : Int) + 1))).setCell ⟨g, k * 4 + 3, none⟩ (.int .i64 (1 + 3 * (k : Int) + 1 + 1))).heap.size ∧ (∀ B w0, Below B w0 w → B ≤ g → Below B w0 (((w1.setCell ⟨g, k * 4, none⟩ (.string (mtL (1 + 3 * k)))).setCell ⟨g, k * 4 + 1, none⟩ (.int .i64 (1 + 3 * (k : Int) + 1))).setCell ⟨g, k * 4 + 3, none⟩ (.int .i64 (1 + 3 * (k : Int) + 1 + 1)))) ∧ ∀ q, q < w.heap.size → q ≠ g → (((w1.setCell ⟨g, k * 4, none⟩ (.string (mtL (1 + 3 * k)))).setCell ⟨g, k * 4 + 1, none⟩ (.int .i64 (1 + 3 * (k : Int) + 1))).setCell ⟨g, k * 4 + 3, none⟩ (.int .i64 (1 + 3 * (k : Int) + 1 + 1))).heap[q]? = w.heap[q]?) := by
        obtain ⟨e0, e1, e3, eo⟩ := set3 (.string (mtL (1 + 3 * k))) (.int .i64 (1 + 3 * (k : Int) + 1)) (.int .i64 (1 + 3 * (k : Int) + 1 + 1)) (show k * 4 ≠ k * 4 + 1 by omega) (show k * 4 ≠ k * 4 + 3 by omega) (show k * 4 + 1 ≠ k * 4 + 3 by omega) c0 c1 c3
        refine ⟨hM1.next hkn e0 e1 e3 eo (fun o => by rw [World.frozen?_setCell, World.frozen?_setCell, World.frozen?_setCell]), by simp; have := hb1.size; omega, fun B w0 hw hg' => ?_, fun q hq1 hq2 => ?_⟩
        · exact (((((hB B w0 hw hg').trans (hb1.mono (by have := (hB B w0 hw hg').size; omega)))).setCell (p := ⟨g, k * 4, none⟩) hg' _).setCell (p := ⟨g, k * 4 + 1, none⟩) hg' _).setCell (p := ⟨g, k * 4 + 3, none⟩) hg' _
        · rw [Below.heap_setCell _ _ _ _ (by exact hq2), Below.heap_setCell _ _ _ _ (by exact hq2), Below.heap_setCell _ _ _ _ (by exact hq2), hb1.block q (by omega)]
          exact hq q hq1 hq2
      exact ⟨⟨k + 1, by omega, by go_num, by congr 1, HN⟩, by simp [intOf]; omega⟩
    · have hki : ¬ (k : Int) < (n : Int) := by omega
      obtain rfl : k = n := by omega
      go_wp2
      go_ret
      exact ⟨rfl, hH.out⟩

set_option maxHeartbeats 1600000 in
set_option maxRecDepth 100000 in
theorem heldSessionS_n (g n : Nat) (w : World) (hn : n ≤ 3) (hg : g < w.heap.size) (h0 : MkS w g n n) :
    Calls Try.prog 31 #[.slice (some ⟨g, 0, none⟩) n n, .int .i64 1] w fun e w' => e = .returned (.int .i64 ((1 + 3 * n : Nat) : Int)) ∧ Below w.heap.size w w' := by
  go_enter Try.func31, Try.ntmps31
  go_wp2
  go_loopw [1, 5] (fun m i wr => ∃ k : Nat, k ≤ n ∧ i = .int .i64 k ∧ m = .int .i64 ((1 + 3 * k : Nat) : Int) ∧ Below w.heap.size w wr) (fun _ i _ => n - (intOf i).toNat)
  case atStart => exact ⟨0, Nat.zero_le _, rfl, rfl, Below.refl _ _⟩
  case round =>
    obtain ⟨k, hk, rfl, rfl, hbel⟩ := hrel
    have hM := h0.blk (hbel.block g hg)
    by_cases hkn : k < n
    · have hki : (k : Int) < (n : Int) := by omega
      have gw : g < wr.heap.size := Nat.lt_of_lt_of_le hg hbel.size
      obtain ⟨c0, c1, c2, c3⟩ := hM.2.2 k hkn
      have HT := fun W => markText_l (1 + 3 * k) W (by omega) (by omega)
      go_wp2_with fail
      refine wp_region_held_drew (S := fun w' => w'.cell? ⟨g, k * 4, none⟩ = some (.string (mtL (1 + 3 * k)))) (by kernel_rfl) ?hS1 (fun hHeld => ?_)
      case hS1 => exact c0
      refine tk (i := 0) (v := ?_) rfl (Or.inl ⟨by rfl, ?hyc0⟩) ?tyc0
      case hyc0 => (intro w' hSw; go_simp; all_goals with_reducible rfl)
      simp only [Act.put, J1, J2, J4, J5, J6]
      refine tk (i := 1) (v := ?_) rfl (Or.inl ⟨by rfl, ?hyc1⟩) ?tyc1
      case hyc1 => (intro w' hSw; go_simp; all_goals with_reducible rfl)
      simp only [Act.put, J1, J2, J3, J4, J5, J6]
      refine tk (i := 2) (v := ?_) rfl (Or.inl ⟨by rfl, ?hyc2⟩) ?tyc2
      case hyc2 => (intro w' hSw; go_simp; all_goals with_reducible rfl)
      simp only [Act.put, J1, J2, J3, J4, J5, J6]
      refine tk (i := 3) (v := ?_) rfl (Or.inl ⟨by rfl, ?hyc3⟩) ?tyc3
      case hyc3 => (intro w' hSw; go_simp; all_goals with_reducible rfl)
      simp only [Act.put, J1, J2, J3, J4, J5, J6]
      refine tk (i := 4) (v := ?_) rfl (Or.inl ⟨by rfl, ?hyc4⟩) ?tyc4
      case hyc4 => (intro w' hSw; go_simp; all_goals with_reducible rfl)
      simp only [Act.put, J1, J2, J3, J4, J5, J6]
      refine tk (i := 5) (v := ?_) rfl (Or.inl ⟨by rfl, ?hyc5⟩) ?tyc5
      case hyc5 => (intro w' hSw; go_simp; all_goals with_reducible rfl)
      simp only [Act.put, J1, J2, J3, J4, J5, J6]
      refine wpAnyH_ready (rs := [6]) (by kernel_rfl) (by simp) ?_
      refine AllReadyH.cons rfl (fun K hK => ?_) AllReadyH.nil
      go_simp
      refine (HT _).mono ?_
      rintro e w1 ⟨rfl, hbx⟩
      have HW : Hid (Below wr.heap.size wr w1) := (Below.refl _ _).drew.trans hbx
      have hsS : w1.cell? ⟨g, k * 4, none⟩ = some (.string (mtL (1 + 3 * k))) := (HW.out.cell (p := ⟨g, k * 4, none⟩) gw).trans c0
      refine hK.out _ _ hsS (fun hHeld => ?_)
      clear hK K
      refine tk (i := 7) (v := .bool false) rfl (Or.inl ⟨by rfl, ?hyd7⟩) ?tyd7
      case hyd7 => (intro w' hSw; go_simp; first | (simp; done) | (all_goals with_reducible rfl))
      simp only [Act.put, J1, J2, J3, J4, J5, J6]
      refine wpAnyH_done (by kernel_rfl) ?_ _
      have hbel2 := hbel.trans (HW.out.mono hbel.size)
      have d1 := (HW.out.cell (p := ⟨g, k * 4 + 1, none⟩) gw).trans c1
      have d2 := (HW.out.cell (p := ⟨g, k * 4 + 2, none⟩) gw).trans c2
      have d3 := (HW.out.cell (p := ⟨g, k * 4 + 3, none⟩) gw).trans c3
      have n1 : ¬ 1 + 3 * (k : Int) + 1 < 0 := by omega
      have n2 : ¬ 1 + 3 * (k : Int) + 1 + 1 < 0 := by omega
      clear hHeld hsS hbx HW hM c0 c1 c2 c3 HT
      go_wp2_with (first
        | (go_at_call 41; refine (heldInt64S_nil _ _).mono ?_; rintro e w2 ⟨rfl, rfl⟩))
      exact ⟨⟨k + 1, by omega, by go_num, by congr 1, hbel2⟩, by simp [intOf]; omega⟩
    · have hki : ¬ (k : Int) < (n : Int) := by omega
      obtain rfl : k = n := by omega
      go_wp2
      go_ret
      exact ⟨rfl, hbel⟩
end Go.Proofs.Ytpmnopmfaicffaa
