/- A new world on the model's side. -/
import Derived.Test.YtpmnopmfaicffaaNwm
namespace Go.Proofs.Ytpmnopmfaicffaa
open Go.RowKit
set_option linter.unusedVariables false

theorem setCell_blk {W : World} {P i : Nat} {arr : Array Value} {t : TypeId} (h : W.heap[P]? = some (.cells arr t (0, 0))) (v : Value) : (W.setCell ⟨P, i, none⟩ v).heap[P]? = some (.cells (arr.setIfInBounds i v) t (0, 0)) := by
  have hlt := (Array.getElem?_eq_some_iff.1 h).1
  simp [World.setCell, h, Array.getElem?_modify]
theorem row_sl {w : World} {B e k n : Nat} {v : Value} {xs : List Value} (h : w.ownsRow B e k v n xs) : ∃ a c, v = .slice a n c ∧ (0 < n → ∃ g, a = some ⟨g, 0, none⟩ ∧ B ≤ g ∧ g < w.heap.size) := by
  rcases h.2 with ⟨h', h0⟩ | ⟨g, cap, cur, h1, h2, h3, h4⟩
  · exact ⟨none, 0, by rw [h', h0], fun h => by omega⟩
  · exact ⟨some ⟨g, 0, none⟩, cap, h1, fun _ => ⟨g, rfl, h2, (Array.getElem?_eq_some_iff.1 h3).1⟩⟩
theorem SeAt.of_own {w : World} {B g k c : Nat} (h : w.ownsRow B 44 4 (.slice (some ⟨g, 0, none⟩) k c) k (seC k)) : SeAt w g k := fun i hi => by
  obtain ⟨h0, h1, h2, h3⟩ := seC_at k i hi []
  rw [List.append_nil] at h0 h1 h2 h3
  exact ⟨(h.cellAt (i * 4) (by omega)).trans h0, (h.cellAt (i * 4 + 1) (by omega)).trans h1, (h.cellAt (i * 4 + 2) (by omega)).trans h2, (h.cellAt (i * 4 + 3) (by omega)).trans h3⟩
theorem seC_snoc : ∀ k, seC (k + 1) = seC k ++ seC 1
  | 0 => rfl
  | k + 1 => by
    have h := seC_snoc k
    show Value.string ⟨#[]⟩ :: .int .i64 0 :: .slice none 0 0 :: .int .i64 1 :: seC (k + 1) = (.string ⟨#[]⟩ :: .int .i64 0 :: .slice none 0 0 :: .int .i64 1 :: seC k) ++ seC 1
    rw [h]; rfl
/-- So many sessions stand. -/
def NwS (w wr : World) (j : Nat) (v : Value) : Prop := Below w.heap.size w wr ∧ w.heap.size + 1 + 1 + 1 + 1 ≤ wr.heap.size ∧ wr.heap[w.heap.size]? = some (.cells #[.int .i64 0, .slice none 0 0, .bool false, .slice none 0 0, .slice none 0 0, .int .i64 0, .slice none 0 0, .slice none 0 0] 33 (0, 0)) ∧ wr.heap[w.heap.size + 1 + 1 + 1]? = some (.cells #[.bool true, .slice none 0 0, .slice none 0 0, .int .i64 1, .slice none 0 0, v] 31 (0, 0)) ∧ wr.ownsRow (w.heap.size + 1 + 1 + 1 + 1) 44 4 v j (seC j)
theorem cells6 {w : World} {g : Nat} {a0 a1 a2 a3 a4 a5 : Value} {t : TypeId} (h : w.heap[g]? = some (.cells #[a0, a1, a2, a3, a4, a5] t (0, 0))) :
    (w.cell? ⟨g, 0, none⟩ = some a0 ∧ w.cell? ⟨g, 1, none⟩ = some a1 ∧ w.cell? ⟨g, 2, none⟩ = some a2 ∧ w.cell? ⟨g, 3, none⟩ = some a3 ∧ w.cell? ⟨g, 4, none⟩ = some a4 ∧ w.cell? ⟨g, 5, none⟩ = some a5) ∧ ∀ i, w.frozen? ⟨g, i, none⟩ = false :=
  ⟨⟨by simp [World.cell?, h], by simp [World.cell?, h], by simp [World.cell?, h], by simp [World.cell?, h], by simp [World.cell?, h], by simp [World.cell?, h]⟩, fun i => by simp [World.frozen?, h]⟩
theorem new4 {wr : World} : ∀ (j : Nat) (u : Value), (seC 1)[j]? = some u → (wr.alloc (.cells #[.string ⟨#[]⟩, .int .i64 0, .slice none 0 0, .int .i64 1] 44)).cell? ((⟨wr.heap.size, 0, none⟩ : Addr).add j) = some u := seC_src (L := []) (heap_alloc_new wr _)

theorem row_lo {w : World} {B B' e k n : Nat} {v : Value} {xs : List Value} (h : w.ownsRow B e k v n xs) (hB : B' ≤ B) : w.ownsRow B' e k v n xs := by
  refine ⟨h.1, ?_⟩
  rcases h.2 with h' | ⟨g, cap, cur, h1, h2, h3, h4⟩
  · exact .inl h'
  · exact .inr ⟨g, cap, cur, h1, Nat.le_trans hB h2, h3, h4⟩
theorem row_low8 {w : World} {B t k n : Nat} {v : Value} {xs : List Value} {v0 v1 v2 v3 v4 v5 v6 v7 : Value} (h : w.ownsRow (B + 1 + 1 + 1 + 1) t k v n xs) :
    ((((((((w.setCell ⟨B, 0, none⟩ v0).setCell ⟨B, 1, none⟩ v1).setCell ⟨B, 2, none⟩ v2).setCell ⟨B, 3, none⟩ v3).setCell ⟨B, 4, none⟩ v4).setCell ⟨B, 5, none⟩ v5).setCell ⟨B, 6, none⟩ v6).setCell ⟨B, 7, none⟩ v7).ownsRow B t k v n xs := by
  have hl : ∀ o, (⟨B, o, none⟩ : Addr).block < B + 1 + 1 + 1 + 1 := fun o => by show B < _; omega
  exact row_lo (ownsRow_setCell_below (ownsRow_setCell_below (ownsRow_setCell_below (ownsRow_setCell_below (ownsRow_setCell_below (ownsRow_setCell_below (ownsRow_setCell_below (ownsRow_setCell_below h (hl 0) _) (hl 1) _) (hl 2) _) (hl 3) _) (hl 4) _) (hl 5) _) (hl 6) _) (hl 7) _) (by omega)

set_option maxHeartbeats 1600000 in
set_option maxRecDepth 100000 in
theorem specNewWorld_k (k : Nat) (w : World) (h1 : 1 ≤ k) (h3 : k ≤ 3) : Calls Try.prog 4 #[.int .i64 (k : Int)] w fun e w' => ∃ v, e = .returned (nwA v) ∧ w'.ownsRow w.heap.size 44 4 v k (seC k) ∧ Below w.heap.size w w' := by
  unfold nwA
  have hf := fld2
  have c1 : (1 : Int) ≤ (k : Int) := by omega
  have c2 : (k : Int) ≤ 3 := by omega
  have hS0 : Hid (NwS w ((((w.alloc (.cells #[.int .i64 0, .slice none 0 0, .bool false, .slice none 0 0, .slice none 0 0, .int .i64 0, .slice none 0 0, .slice none 0 0] 33)).alloc (.cells #[.int .i64 0, .slice none 0 0, .bool true, .slice none 0 0, .slice none 0 0, .int .i64 1, .slice none 0 0] 41)).alloc (.cells #[.int .i64 1, .slice none 0 0] 26)).alloc (.cells #[.bool true, .slice none 0 0, .slice none 0 0, .int .i64 1, .slice none 0 0, .slice none 0 0] 31)) 0 (.slice none 0 0)) := by
    refine ⟨((((Below.refl _ w).alloc (Nat.le_refl _) _).alloc (by simp) _).alloc (by simp; omega) _).alloc (by simp; omega) _, by simp, ?_, ?_, World.ownsRow_nil _ _ _ _⟩
    · exact (Below.heap_alloc _ _ _ (by simp; omega)).trans ((Below.heap_alloc _ _ _ (by simp; omega)).trans ((Below.heap_alloc _ _ _ (by simp)).trans (heap_alloc_new w _)))
    · have h := heap_alloc_new (((w.alloc (.cells #[.int .i64 0, .slice none 0 0, .bool false, .slice none 0 0, .slice none 0 0, .int .i64 0, .slice none 0 0, .slice none 0 0] 33)).alloc (.cells #[.int .i64 0, .slice none 0 0, .bool true, .slice none 0 0, .slice none 0 0, .int .i64 1, .slice none 0 0] 41)).alloc (.cells #[.int .i64 1, .slice none 0 0] 26)) (.cells #[.bool true, .slice none 0 0, .slice none 0 0, .int .i64 1, .slice none 0 0, .slice none 0 0] 31)
      rw [World.size_alloc, World.size_alloc, World.size_alloc] at h
      exact h
  obtain ⟨i0, hi, hz0, hz1, hz2⟩ := info_parts infoSe
  go_enter Try.func4, Try.ntmps4
  go_wp2_with go_in
  go_loopw [0] (fun s wr => ∃ j : Nat, j ≤ k ∧ s = .int .i64 ((k : Int) - (j : Int)) ∧ Hid (∃ v, NwS w wr j v)) (fun s _ => (intOf s).toNat)
  case atStart => exact ⟨0, Nat.zero_le _, by simp, _, hS0.out⟩
  case round =>
    obtain ⟨j, hj, rfl, hH⟩ := hrel
    obtain ⟨v, hb, hsz, hA, hB, hO⟩ := hH.out
    obtain ⟨a, c, rfl, -⟩ := row_sl hO
    clear hH
    obtain ⟨⟨d0, d1, d2, d3, d4, d5⟩, hzB⟩ := cells6 hB
    have y5 := hzB 5
    by_cases hjk : j < k
    · have c3 : (0 : Int) < (k : Int) - (j : Int) := by omega
      have hlt : w.heap.size + 1 + 1 + 1 < wr.heap.size := by omega
      have hnA : some w.heap.size ≠ (Value.slice a j c).ownBlock := fun e => by have := (hO.lt _ e.symm).1; omega
      have hnB : some (w.heap.size + 1 + 1 + 1) ≠ (Value.slice a j c).ownBlock := fun e => by have := (hO.lt _ e.symm).1; omega
      have HO := hO.lt
      go_wp2_with (at_builtin; go_loud (refine wpList_append_own_at _ rfl _ _ 29 rfl (w.heap.size + 1 + 1 + 1 + 1) 44 i0 _ 4 56 Try.underlying29 hi hz0 hz1 hz2 rfl (by decide) (.slice a j c) j (seC j) rfl (hO.alloc _) ⟨wr.heap.size, 0, none⟩ 1 1 (seC 1) rfl rfl new4 (seC_one 1) (by unfold maxLen; omega) (by omega) (by simp; omega) ?_; intro v' w1 hO1 hg1 _ _; obtain ⟨a', c', rfl, -⟩ := row_sl hO1; have hA1 := (hg1.block w.heap.size (by simp; omega) hnA).trans ((Below.heap_alloc _ _ _ (by omega)).trans hA); have hB1 := (hg1.block (w.heap.size + 1 + 1 + 1) (by simp; omega) hnB).trans ((Below.heap_alloc _ _ _ (by omega)).trans hB); obtain ⟨⟨q0, q1, q2, q3, q4, q5⟩, hzQ⟩ := cells6 hB1; have x5 := hzQ 5))
      have hb1 : Below w.heap.size w w1 := (hb.alloc hb.size _).grown hg1 (by simp; omega) (fun q hq => by have := (HO q hq).1; omega)
      have HN : Hid (NwS w (w1.setCell ⟨w.heap.size + 1 + 1 + 1, 5, none⟩ (.slice a' (j + 1) c')) (j + 1) (.slice a' (j + 1) c')) := by
        refine ⟨hb1.setCell (p := ⟨w.heap.size + 1 + 1 + 1, 5, none⟩) (by show w.heap.size ≤ w.heap.size + 1 + 1 + 1; omega) _, by have := hg1.size; simp at this ⊢; omega, ?_, ?_, ?_⟩
        · rw [Below.heap_setCell _ _ _ _ (by show w.heap.size ≠ w.heap.size + 1 + 1 + 1; omega)]
          exact hA1
        · exact setCell_blk hB1 _
        · rw [seC_snoc]
          exact ownsRow_setCell_below hO1 (by show w.heap.size + 1 + 1 + 1 < w.heap.size + 1 + 1 + 1 + 1; omega) _
      go_roundw
      case rel => exact ⟨_, _, _, _, _, _, _, _, _, _, _, ⟨j + 1, by omega, congrArg (Value.int .i64) (by omega), show Hid _ from ⟨_, HN.out⟩⟩, rfl⟩
      case measure => simp [intOf]; omega
    · have c3 : ¬ (0 : Int) < (k : Int) - (j : Int) := by omega
      obtain rfl : j = k := by omega
      obtain ⟨hc8, hz⟩ := cells8 hA
      have hC := res_cells8 hc8 (.int .i64 0) (.slice none 0 0) (.bool true) (.slice none 0 0) (.slice none 0 0) (.int .i64 1) (.slice none 0 0) (.slice a j c)
      obtain ⟨e0, e1, e2, e3, e4, e5, e6, e7⟩ := hc8
      obtain ⟨r0, r1, r2, r3, r4, r5, r6, r7⟩ := hC
      have z0 := hz 0
      have z1 := hz 1
      have z2 := hz 2
      have z3 := hz 3
      have z4 := hz 4
      have z5 := hz 5
      have z6 := hz 6
      have z7 := hz 7
      clear hz hA hB hzB
      go_wp2
      refine bodyPost_ret (v := .agg #[.int .i64 0, .slice none 0 0, .bool true, .slice none 0 0, .slice none 0 0, .int .i64 1, .slice none 0 0, .slice a j c]) (by simp [results, Try.results4, go_sem, r0, r1, r2, r3, r4, r5, r6, r7]) rfl ?_
      refine ⟨_, rfl, ?_, ((((((((hb.setCell (p := ⟨w.heap.size, 0, none⟩) (Nat.le_refl _) _).setCell (p := ⟨w.heap.size, 1, none⟩) (Nat.le_refl _) _).setCell (p := ⟨w.heap.size, 2, none⟩) (Nat.le_refl _) _).setCell (p := ⟨w.heap.size, 3, none⟩) (Nat.le_refl _) _).setCell (p := ⟨w.heap.size, 4, none⟩) (Nat.le_refl _) _).setCell (p := ⟨w.heap.size, 5, none⟩) (Nat.le_refl _) _).setCell (p := ⟨w.heap.size, 6, none⟩) (Nat.le_refl _) _).setCell (p := ⟨w.heap.size, 7, none⟩) (Nat.le_refl _) _)⟩
      exact row_low8 hO
end Go.Proofs.Ytpmnopmfaicffaa
