/- NewWorld answers as the model: the walk of its law; no conditions. -/
import Derived.Test.YtpmnopmfaicffaaNws
namespace Go.Proofs.Ytpmnopmfaicffaa
open Go.RowKit
set_option linter.unusedVariables false

set_option maxHeartbeats 1600000 in
set_option maxRecDepth 100000 in
theorem eqWr_n (g b n c c' : Nat) (w : World) (hn : n ≤ 3) (hg : g < w.heap.size) (hb : b < w.heap.size) (hr : SeAt w g n) (hr' : SeAt w b n) :
    Calls Try.prog 6 #[nwA (.slice (some ⟨g, 0, none⟩) n c), nwA (.slice (some ⟨b, 0, none⟩) n c')] w fun e w' => e = .returned (.bool true) ∧ Below w.heap.size w w' := by
  unfold nwA
  have HS : ∀ W : World, Below w.heap.size w W → Calls Try.prog 26 #[.slice (some ⟨g, 0, none⟩) n c, .slice (some ⟨b, 0, none⟩) n c'] W fun e w' => e = .returned (.bool true) ∧ Hid (Below w.heap.size w w') := fun W h =>
    (eqSessionS_n g b n c c' W hn (Nat.lt_of_lt_of_le hg h.size) (Nat.lt_of_lt_of_le hb h.size) (hr.below h hg) (hr'.below h hb)).mono fun e w' hh => ⟨hh.1, h.trans (hh.2.mono h.size)⟩
  go_enter Try.func6, Try.ntmps6
  go_wp2_with (first
    | (go_at_call 26; refine (HS _ (by go_grown)).mono ?_; rintro e w1 ⟨rfl, hb1⟩)
    | (go_at_call 15; refine (eqStringS_nil _).mono ?_; rintro e w1 ⟨rfl, rfl⟩)
    | (go_at_call 33; refine (eqByteS_nil _).mono ?_; rintro e w1 ⟨rfl, rfl⟩)
    | (go_at_call 44; refine (eqBoxS_nil _).mono ?_; rintro e w1 ⟨rfl, rfl⟩)
    | go_in)
  go_ret
  exact ⟨rfl, hb1.out⟩
set_option maxHeartbeats 1600000 in
set_option maxRecDepth 100000 in
theorem markWr_n (g n : Nat) (w : World) (hn : n ≤ 3) (hg : g < w.heap.size) (h0 : MkS w g n 0) :
    Calls Try.prog 7 #[nwA (.slice (some ⟨g, 0, none⟩) n n), .int .i64 1] w fun e w' => e = .returned (.int .i64 ((1 + 3 * n : Nat) : Int)) ∧ MkS w' g n n ∧ w.heap.size ≤ w'.heap.size ∧ (∀ B w0, Below B w0 w → B ≤ g → Below B w0 w') ∧ ∀ q, q < w.heap.size → q ≠ g → w'.heap[q]? = w.heap[q]? := by
  unfold nwA
  have HS : ∀ W : World, Below w.heap.size w W → Calls Try.prog 29 #[.slice (some ⟨g, 0, none⟩) n n, .int .i64 1] W fun e w' => e = .returned (.int .i64 ((1 + 3 * n : Nat) : Int)) ∧ Hid (MkS w' g n n ∧ w.heap.size ≤ w'.heap.size ∧ (∀ B w0, Below B w0 w → B ≤ g → Below B w0 w') ∧ ∀ q, q < w.heap.size → q ≠ g → w'.heap[q]? = w.heap[q]?) := fun W h =>
    (markSessionS_n g n W hn (Nat.lt_of_lt_of_le hg h.size) (h0.blk (h.block g hg))).mono fun e w' ⟨h1, h2, h3, h4, h5⟩ =>
      ⟨h1, h2, Nat.le_trans h.size h3, fun B w0 hw hB => h4 B w0 (hw.trans (h.mono (Nat.le_trans hB (Nat.le_of_lt hg)))) hB, fun q hq hne => (h5 q (Nat.lt_of_lt_of_le hq h.size) hne).trans (h.block q hq)⟩
  go_enter Try.func7, Try.ntmps7
  go_wp2_with (first
    | (go_at_call 29; refine (HS _ (by go_grown)).mono ?_; rintro e w1 ⟨rfl, hb1⟩)
    | (go_at_call 17; refine (markStringS_nil _ _).mono ?_; rintro e w1 ⟨rfl, rfl⟩)
    | (go_at_call 36; refine (markByteS_nil _ _).mono ?_; rintro e w1 ⟨rfl, rfl⟩)
    | (go_at_call 46; refine (markBoxS_nil _ _).mono ?_; rintro e w1 ⟨rfl, rfl⟩)
    | go_in)
  go_ret
  exact ⟨by simp, hb1.out⟩
set_option maxHeartbeats 1600000 in
set_option maxRecDepth 100000 in
theorem heldWr_n (g n : Nat) (w : World) (hn : n ≤ 3) (hg : g < w.heap.size) (h0 : MkS w g n n) :
    Calls Try.prog 8 #[nwA (.slice (some ⟨g, 0, none⟩) n n), .int .i64 1] w fun e w' => e = .returned (.int .i64 ((1 + 3 * n : Nat) : Int)) ∧ Below w.heap.size w w' := by
  unfold nwA
  have HS : ∀ W : World, Below w.heap.size w W → Calls Try.prog 31 #[.slice (some ⟨g, 0, none⟩) n n, .int .i64 1] W fun e w' => e = .returned (.int .i64 ((1 + 3 * n : Nat) : Int)) ∧ Hid (Below w.heap.size w w') := fun W h =>
    (heldSessionS_n g n W hn (Nat.lt_of_lt_of_le hg h.size) (h0.blk (h.block g hg))).mono fun e w' hh => ⟨hh.1, h.trans (hh.2.mono h.size)⟩
  have n1 : ¬ ((1 + 3 * n : Nat) : Int) < 0 := by omega
  have n2 : ¬ 1 + 3 * (n : Int) < 0 := by omega
  go_enter Try.func8, Try.ntmps8
  go_wp2_with (first
    | (go_at_call 31; refine (HS _ (by go_grown)).mono ?_; rintro e w1 ⟨rfl, hb1⟩)
    | (go_at_call 19; refine (heldStringS_nil _ _).mono ?_; rintro e w1 ⟨rfl, rfl⟩)
    | (go_at_call 39; refine (heldByteS_nil _ _).mono ?_; rintro e w1 ⟨rfl, rfl⟩)
    | (go_at_call 47; refine (heldBoxS_nil _ _).mono ?_; rintro e w1 ⟨rfl, rfl⟩)
    | go_in)
  go_ret
  exact ⟨by simp, hb1.out⟩

/-- A result in its block. -/
def WrB (w : World) (p : Nat) (v : Value) : Prop := w.heap[p]? = some (.cells #[.int .i64 0, .slice none 0 0, .bool true, .slice none 0 0, .slice none 0 0, .int .i64 1, .slice none 0 0, v] 33 (0, 0))
theorem MkS.of_row {w : World} {g k : Nat} (h : w.heap[g]? = some (.cells (seC k).toArray 44 (0, 0))) (hk : (seC k).length = 4 * k) : MkS w g k 0 := by
  refine ⟨fun o ho => ⟨?_, by simp [World.frozen?, h]⟩, fun j hj => ?_, fun j hj => absurd hj (by omega)⟩
  · refine ⟨(seC k)[o]'(by omega), ?_⟩
    simp only [World.cell?, h]
    simp [hk, ho]
  · exact (SeAt.of_row (L := []) (by rw [List.append_nil]; exact h) j hj).2.2.1
theorem seC_len : ∀ k, (seC k).length = 4 * k
  | 0 => rfl
  | k + 1 => by
    show (seC k).length + 1 + 1 + 1 + 1 = _
    rw [seC_len k]; omega

/-- The walk at so many sessions, over the program's answer at that number. -/
theorem newWorldLaw_k (k : Nat) (w : World) (h1 : 1 ≤ k) (h3 : k ≤ 3) (HI : ∀ w : World, Calls Try.prog 5 #[.int .i64 (k : Int)] w fun e w' => ∃ g, e = .returned (nwA (.slice (some ⟨g, 0, none⟩) k k)) ∧ w.heap.size ≤ g ∧ w'.heap[g]? = some (.cells (seC k).toArray 44 (0, 0)) ∧ Below w.heap.size w w') :
    Calls Try.prog 3 #[.int .i64 (k : Int)] w fun e w' => e = .returned (.bool true) ∧ Below w.heap.size w w' := by
  go_enter Try.func3, Try.ntmps3
  go_wp2_with fail
  refine (specNewWorld_k k w h1 h3).mono ?_
  rintro e w1 ⟨v, rfl, hO, hb1⟩
  obtain ⟨a, c, rfl, hx⟩ := row_sl hO
  obtain ⟨b, rfl, hbB, hbw⟩ := hx (by omega)
  have S1 := SeAt.of_own hO
  unfold nwA
  go_wp2_with fail
  have P1 : WrB (w1.alloc (.cells #[.int .i64 0, .slice none 0 0, .bool true, .slice none 0 0, .slice none 0 0, .int .i64 1, .slice none 0 0, .slice (some ⟨b, 0, none⟩) k c] 33)) w1.heap.size (.slice (some ⟨b, 0, none⟩) k c) := heap_alloc_new w1 _
  have hB1 : Below w.heap.size w (w1.alloc (.cells #[.int .i64 0, .slice none 0 0, .bool true, .slice none 0 0, .slice none 0 0, .int .i64 1, .slice none 0 0, .slice (some ⟨b, 0, none⟩) k c] 33)) := hb1.alloc hb1.size _
  have S2 := S1.below ((Below.refl _ w1).alloc (Nat.le_refl _) (.cells #[.int .i64 0, .slice none 0 0, .bool true, .slice none 0 0, .slice none 0 0, .int .i64 1, .slice none 0 0, .slice (some ⟨b, 0, none⟩) k c] 33)) hbw
  have hp1 : w1.heap.size < (w1.alloc (.cells #[.int .i64 0, .slice none 0 0, .bool true, .slice none 0 0, .slice none 0 0, .int .i64 1, .slice none 0 0, .slice (some ⟨b, 0, none⟩) k c] 33)).heap.size := by simp
  have hbw2 : b < (w1.alloc (.cells #[.int .i64 0, .slice none 0 0, .bool true, .slice none 0 0, .slice none 0 0, .int .i64 1, .slice none 0 0, .slice (some ⟨b, 0, none⟩) k c] 33)).heap.size := by simp; omega
  have hs1 := hb1.size
  generalize w1.heap.size = p1 at *
  generalize w1.alloc (.cells #[.int .i64 0, .slice none 0 0, .bool true, .slice none 0 0, .slice none 0 0, .int .i64 1, .slice none 0 0, .slice (some ⟨b, 0, none⟩) k c] 33) = W1 at *
  clear S1 hO hx hb1 hbw
  refine (HI W1).mono ?_
  rintro e w2 ⟨g, rfl, hg, hgr, hb2⟩
  have P1a : WrB w2 p1 _ := (hb2.block p1 hp1).trans P1
  have S3 := S2.below hb2 hbw2
  have hB2 : Below w.heap.size w w2 := hB1.trans (hb2.mono hB1.size)
  have hs2 := hb2.size
  have hgw : g < w2.heap.size := (Array.getElem?_eq_some_iff.1 hgr).1
  obtain ⟨⟨d0, d1, d2, d3, d4, d5, d6, d7⟩, -⟩ := cells8 P1a
  have hne1 : p1 < w2.heap.size := by omega
  unfold nwA
  go_wp2_with fail
  have P2 : WrB (w2.alloc (.cells #[.int .i64 0, .slice none 0 0, .bool true, .slice none 0 0, .slice none 0 0, .int .i64 1, .slice none 0 0, .slice (some ⟨g, 0, none⟩) k k] 33)) w2.heap.size (.slice (some ⟨g, 0, none⟩) k k) := heap_alloc_new w2 _
  have hbA := (Below.refl w2.heap.size w2).alloc (Nat.le_refl _) (.cells #[.int .i64 0, .slice none 0 0, .bool true, .slice none 0 0, .slice none 0 0, .int .i64 1, .slice none 0 0, .slice (some ⟨g, 0, none⟩) k k] 33)
  have P1b : WrB _ p1 _ := (hbA.block p1 hne1).trans P1a
  have G1 := (hbA.block g hgw).trans hgr
  have S4 := S3.below hbA (by omega)
  have hB3 : Below w.heap.size w (w2.alloc (.cells #[.int .i64 0, .slice none 0 0, .bool true, .slice none 0 0, .slice none 0 0, .int .i64 1, .slice none 0 0, .slice (some ⟨g, 0, none⟩) k k] 33)) := hB2.trans (hbA.mono hB2.size)
  have hs3 : (w2.alloc (.cells #[.int .i64 0, .slice none 0 0, .bool true, .slice none 0 0, .slice none 0 0, .int .i64 1, .slice none 0 0, .slice (some ⟨g, 0, none⟩) k k] 33)).heap.size = w2.heap.size + 1 := by simp
  generalize w2.alloc (.cells #[.int .i64 0, .slice none 0 0, .bool true, .slice none 0 0, .slice none 0 0, .int .i64 1, .slice none 0 0, .slice (some ⟨g, 0, none⟩) k k] 33) = W2 at *
  generalize w2.heap.size = p2 at *
  clear hbA d0 d1 d2 d3 d4 d5 d6 d7 P1a S3 hgr
  refine (eqWr_n g b k k c W2 h3 (by omega) (by omega) (SeAt.of_row (L := []) (by rw [List.append_nil]; exact G1)) S4).mono ?_
  rintro e w3 ⟨rfl, hb3⟩
  have P2c : WrB w3 p2 _ := (hb3.block p2 (by omega)).trans P2
  have P1c : WrB w3 p1 _ := (hb3.block p1 (by omega)).trans P1b
  have G3 := (hb3.block g (by omega)).trans G1
  have S5 := S4.below hb3 (by omega)
  have hB4 : Below w.heap.size w w3 := hB3.trans (hb3.mono hB3.size)
  have hs4 := hb3.size
  obtain ⟨⟨d0, d1, d2, d3, d4, d5, d6, d7⟩, -⟩ := cells8 P2c
  clear P1b P2 G1 S4
  go_wp2_with fail
  refine (markWr_n g k w3 h3 (by omega) (MkS.of_row G3 (seC_len k))).mono ?_
  rintro e w4 ⟨rfl, hM, hs5, hBB, hq⟩
  have P2d : WrB w4 p2 _ := (hq p2 (by omega) (by omega)).trans P2c
  have P1d : WrB w4 p1 _ := (hq p1 (by omega) (by omega)).trans P1c
  have hbg : b ≠ g := by omega
  have S6 : SeAt w4 b k := by
    have e := hq b (by omega) hbg
    have hc : ∀ o, w4.cell? ⟨b, o, none⟩ = w3.cell? ⟨b, o, none⟩ := fun o => by simp only [World.cell?, e]
    intro i hi
    rw [hc, hc, hc, hc]
    exact S5 i hi
  have hB5 : Below w.heap.size w w4 := hBB _ _ hB4 (by omega)
  clear d0 d1 d2 d3 d4 d5 d6 d7
  obtain ⟨⟨d0, d1, d2, d3, d4, d5, d6, d7⟩, -⟩ := cells8 P2d
  have HM := fun (W : World) (h : Below w4.heap.size w4 W) => heldWr_n g k W h3 (by have := h.size; omega) (hM.blk (h.block g (by omega)))
  have n1 : ¬ ((1 + 3 * k : Nat) : Int) < 0 := by omega
  have n2 : ¬ 1 + 3 * (k : Int) < 0 := by omega
  clear hq hBB S5 P1c P2c G3 hM
  go_wp2_with fail
  refine (HM w4 (Below.refl _ _)).mono ?_
  rintro e w5 ⟨rfl, hb5⟩
  have P2e : WrB w5 p2 _ := (hb5.block p2 (by omega)).trans P2d
  have P1e : WrB w5 p1 _ := (hb5.block p1 (by omega)).trans P1d
  have S7 := S6.below hb5 (by omega)
  have hB6 : Below w.heap.size w w5 := hB5.trans (hb5.mono hB5.size)
  have hs6 := hb5.size
  clear d0 d1 d2 d3 d4 d5 d6 d7 S6 P1d P2d
  go_wp2_with fail
  refine (HI w5).mono ?_
  rintro e w6 ⟨g', rfl, hg', hgr', hb6⟩
  have P2f : WrB w6 p2 _ := (hb6.block p2 (by omega)).trans P2e
  have P1f : WrB w6 p1 _ := (hb6.block p1 (by omega)).trans P1e
  have S8 := S7.below hb6 (by omega)
  have hB7 : Below w.heap.size w w6 := hB6.trans (hb6.mono hB6.size)
  have hs7 := hb6.size
  have hgw' : g' < w6.heap.size := (Array.getElem?_eq_some_iff.1 hgr').1
  have hne6 : p1 < w6.heap.size := by omega
  have hne7 : p2 < w6.heap.size := by omega
  obtain ⟨⟨d0, d1, d2, d3, d4, d5, d6, d7⟩, -⟩ := cells8 P1f
  clear P1e P2e S7
  unfold nwA
  go_wp2_with fail
  have hbC := (Below.refl w6.heap.size w6).alloc (Nat.le_refl _) (.cells #[.int .i64 0, .slice none 0 0, .bool true, .slice none 0 0, .slice none 0 0, .int .i64 1, .slice none 0 0, .slice (some ⟨g', 0, none⟩) k k] 33)
  have P2g : WrB _ p2 _ := (hbC.block p2 hne7).trans P2f
  have G6 := (hbC.block g' hgw').trans hgr'
  have S9 := S8.below hbC (by omega)
  have hB8 : Below w.heap.size w (w6.alloc (.cells #[.int .i64 0, .slice none 0 0, .bool true, .slice none 0 0, .slice none 0 0, .int .i64 1, .slice none 0 0, .slice (some ⟨g', 0, none⟩) k k] 33)) := hB7.trans (hbC.mono hB7.size)
  have hs8 : (w6.alloc (.cells #[.int .i64 0, .slice none 0 0, .bool true, .slice none 0 0, .slice none 0 0, .int .i64 1, .slice none 0 0, .slice (some ⟨g', 0, none⟩) k k] 33)).heap.size = w6.heap.size + 1 := by simp
  have HM6 : Below w4.heap.size w4 (w6.alloc (.cells #[.int .i64 0, .slice none 0 0, .bool true, .slice none 0 0, .slice none 0 0, .int .i64 1, .slice none 0 0, .slice (some ⟨g', 0, none⟩) k k] 33)) := (hb5.trans (hb6.mono hb5.size)).trans (hbC.mono (by omega))
  generalize w6.alloc (.cells #[.int .i64 0, .slice none 0 0, .bool true, .slice none 0 0, .slice none 0 0, .int .i64 1, .slice none 0 0, .slice (some ⟨g', 0, none⟩) k k] 33) = W6 at *
  clear d0 d1 d2 d3 d4 d5 d6 d7 P1f P2f S8 hbC
  refine (eqWr_n g' b k k c W6 h3 (by omega) (by omega) (SeAt.of_row (L := []) (by rw [List.append_nil]; exact G6)) S9).mono ?_
  rintro e w7 ⟨rfl, hb7⟩
  have P2h : WrB w7 p2 _ := (hb7.block p2 (by omega)).trans P2g
  have hB9 : Below w.heap.size w w7 := hB8.trans (hb7.mono hB8.size)
  have HM7 : Below w4.heap.size w4 w7 := HM6.trans (hb7.mono HM6.size)
  obtain ⟨⟨d0, d1, d2, d3, d4, d5, d6, d7⟩, -⟩ := cells8 P2h
  clear P2g S9 G6
  go_wp2_with fail
  refine (HM w7 HM7).mono ?_
  rintro e w8 ⟨rfl, hb8⟩
  have hB10 : Below w.heap.size w w8 := hB9.trans (hb8.mono hB9.size)
  clear d0 d1 d2 d3 d4 d5 d6 d7 HM HM6 HM7 HI
  go_wp2
  go_ret
  exact ⟨rfl, hB10⟩

theorem eqWr_b (w : World) : Calls Try.prog 6 #[nwB, nwB] w fun e w' => e = .returned (.bool true) ∧ Below w.heap.size w w' := by
  unfold nwB
  go_enter Try.func6, Try.ntmps6
  go_wp2_with (first
    | (go_at_call 15; refine (eqStringS_nil _).mono ?_; rintro e w1 ⟨rfl, rfl⟩)
    | (go_at_call 33; refine (eqByteS_nil _).mono ?_; rintro e w1 ⟨rfl, rfl⟩)
    | (go_at_call 44; refine (eqBoxS_nil _).mono ?_; rintro e w1 ⟨rfl, rfl⟩)
    | (go_at_call 26; refine (eqSessionS_nil _).mono ?_; rintro e w1 ⟨rfl, rfl⟩)
    | go_in)
  go_ret
  exact ⟨rfl, by go_grown⟩
theorem markWr_b (w : World) : Calls Try.prog 7 #[nwB, .int .i64 1] w fun e w' => e = .returned (.int .i64 1) ∧ Below w.heap.size w w' := by
  unfold nwB
  go_enter Try.func7, Try.ntmps7
  go_wp2_with (first
    | (go_at_call 17; refine (markStringS_nil _ _).mono ?_; rintro e w1 ⟨rfl, rfl⟩)
    | (go_at_call 36; refine (markByteS_nil _ _).mono ?_; rintro e w1 ⟨rfl, rfl⟩)
    | (go_at_call 46; refine (markBoxS_nil _ _).mono ?_; rintro e w1 ⟨rfl, rfl⟩)
    | (go_at_call 29; refine (markSessionS_nil _ _).mono ?_; rintro e w1 ⟨rfl, rfl⟩)
    | go_in)
  go_ret
  exact ⟨rfl, by go_grown⟩
theorem heldWr_b (w : World) : Calls Try.prog 8 #[nwB, .int .i64 1] w fun e w' => e = .returned (.int .i64 1) ∧ Below w.heap.size w w' := by
  unfold nwB
  go_enter Try.func8, Try.ntmps8
  go_wp2_with (first
    | (go_at_call 19; refine (heldStringS_nil _ _).mono ?_; rintro e w1 ⟨rfl, rfl⟩)
    | (go_at_call 39; refine (heldByteS_nil _ _).mono ?_; rintro e w1 ⟨rfl, rfl⟩)
    | (go_at_call 47; refine (heldBoxS_nil _ _).mono ?_; rintro e w1 ⟨rfl, rfl⟩)
    | (go_at_call 31; refine (heldSessionS_nil _ _).mono ?_; rintro e w1 ⟨rfl, rfl⟩)
    | go_in)
  go_ret
  exact ⟨rfl, by go_grown⟩
/-- A result with a code in its block. -/
def WrC (w : World) (p : Nat) : Prop := w.heap[p]? = some (.cells #[.int .i64 3, .slice none 0 0, .bool false, .slice none 0 0, .slice none 0 0, .int .i64 0, .slice none 0 0, .slice none 0 0] 33 (0, 0))
/-- The walk where the number is not so. -/
theorem newWorldLaw_b (s : Int) (w : World) (h : s < 1 ∨ 3 < s) :
    Calls Try.prog 3 #[.int .i64 s] w fun e w' => e = .returned (.bool true) ∧ Below w.heap.size w w' := by
  have HA : ∀ W, Below w.heap.size w W → Calls Try.prog 4 #[.int .i64 s] W fun e w' => e = .returned nwB ∧ Hid (Below w.heap.size w w') := fun W hW => (specNewWorld_bad s W h).mono fun e w' hh => ⟨hh.1, hW.trans (hh.2.mono hW.size)⟩
  have HB : ∀ W, Below w.heap.size w W → Calls Try.prog 5 #[.int .i64 s] W fun e w' => e = .returned nwB ∧ Hid (Below w.heap.size w w' ∧ Below W.heap.size W w') := fun W hW => (newWorld_bad s W h).mono fun e w' hh => ⟨hh.1, hW.trans (hh.2.mono hW.size), hh.2⟩
  go_enter Try.func3, Try.ntmps3
  go_wp2_with fail
  refine (HA w (Below.refl _ _)).mono ?_
  rintro e w1 ⟨rfl, hb1⟩
  unfold nwB
  go_wp2_with fail
  have hW1 := hb1.out.alloc hb1.out.size (.cells #[.int .i64 3, .slice none 0 0, .bool false, .slice none 0 0, .slice none 0 0, .int .i64 0, .slice none 0 0, .slice none 0 0] 33)
  have P1 : WrC (w1.alloc (.cells #[.int .i64 3, .slice none 0 0, .bool false, .slice none 0 0, .slice none 0 0, .int .i64 0, .slice none 0 0, .slice none 0 0] 33)) w1.heap.size := heap_alloc_new w1 _
  have hp1 : w1.heap.size < (w1.alloc (.cells #[.int .i64 3, .slice none 0 0, .bool false, .slice none 0 0, .slice none 0 0, .int .i64 0, .slice none 0 0, .slice none 0 0] 33)).heap.size := by simp
  generalize w1.heap.size = p1 at *
  generalize w1.alloc (.cells #[.int .i64 3, .slice none 0 0, .bool false, .slice none 0 0, .slice none 0 0, .int .i64 0, .slice none 0 0, .slice none 0 0] 33) = W1 at *
  refine (HB W1 hW1).mono ?_
  rintro e w2 ⟨rfl, hb2⟩
  obtain ⟨hB2, hb2⟩ := hb2.out
  have P1a : WrC w2 p1 := (hb2.block p1 hp1).trans P1
  have hs2 := hb2.size
  have hne1 : p1 < w2.heap.size := by omega
  obtain ⟨⟨d0, d1, d2, d3, d4, d5, d6, d7⟩, -⟩ := cells8 P1a
  unfold nwB
  go_wp2_with fail
  have P2 : WrC (w2.alloc (.cells #[.int .i64 3, .slice none 0 0, .bool false, .slice none 0 0, .slice none 0 0, .int .i64 0, .slice none 0 0, .slice none 0 0] 33)) w2.heap.size := heap_alloc_new w2 _
  have hbA := (Below.refl w2.heap.size w2).alloc (Nat.le_refl _) (.cells #[.int .i64 3, .slice none 0 0, .bool false, .slice none 0 0, .slice none 0 0, .int .i64 0, .slice none 0 0, .slice none 0 0] 33)
  have P1b : WrC _ p1 := (hbA.block p1 hne1).trans P1a
  have hB3 : Below w.heap.size w (w2.alloc (.cells #[.int .i64 3, .slice none 0 0, .bool false, .slice none 0 0, .slice none 0 0, .int .i64 0, .slice none 0 0, .slice none 0 0] 33)) := hB2.trans (hbA.mono hB2.size)
  have hs3 : (w2.alloc (.cells #[.int .i64 3, .slice none 0 0, .bool false, .slice none 0 0, .slice none 0 0, .int .i64 0, .slice none 0 0, .slice none 0 0] 33)).heap.size = w2.heap.size + 1 := by simp
  generalize w2.alloc (.cells #[.int .i64 3, .slice none 0 0, .bool false, .slice none 0 0, .slice none 0 0, .int .i64 0, .slice none 0 0, .slice none 0 0] 33) = W2 at *
  generalize w2.heap.size = p2 at *
  clear hbA d0 d1 d2 d3 d4 d5 d6 d7 P1a
  refine (eqWr_b W2).mono ?_
  rintro e w3 ⟨rfl, hb3⟩
  have P2c : WrC w3 p2 := (hb3.block p2 (by omega)).trans P2
  have P1c : WrC w3 p1 := (hb3.block p1 (by omega)).trans P1b
  have hB4 : Below w.heap.size w w3 := hB3.trans (hb3.mono hB3.size)
  have hs4 := hb3.size
  obtain ⟨⟨d0, d1, d2, d3, d4, d5, d6, d7⟩, -⟩ := cells8 P2c
  go_wp2_with fail
  refine (markWr_b w3).mono ?_
  rintro e w4 ⟨rfl, hb4⟩
  have P2d : WrC w4 p2 := (hb4.block p2 (by omega)).trans P2c
  have P1d : WrC w4 p1 := (hb4.block p1 (by omega)).trans P1c
  have hB5 : Below w.heap.size w w4 := hB4.trans (hb4.mono hB4.size)
  have hs5 := hb4.size
  clear d0 d1 d2 d3 d4 d5 d6 d7
  obtain ⟨⟨d0, d1, d2, d3, d4, d5, d6, d7⟩, -⟩ := cells8 P2d
  go_wp2_with fail
  refine (heldWr_b w4).mono ?_
  rintro e w5 ⟨rfl, hb5⟩
  have P2e : WrC w5 p2 := (hb5.block p2 (by omega)).trans P2d
  have P1e : WrC w5 p1 := (hb5.block p1 (by omega)).trans P1d
  have hB6 : Below w.heap.size w w5 := hB5.trans (hb5.mono hB5.size)
  have hs6 := hb5.size
  clear d0 d1 d2 d3 d4 d5 d6 d7
  go_wp2_with fail
  refine (HB w5 hB6).mono ?_
  rintro e w6 ⟨rfl, hb6⟩
  obtain ⟨hB7, hb6⟩ := hb6.out
  have P2f : WrC w6 p2 := (hb6.block p2 (by omega)).trans P2e
  have P1f : WrC w6 p1 := (hb6.block p1 (by omega)).trans P1e
  have hs7 := hb6.size
  have hne6 : p1 < w6.heap.size := by omega
  have hne7 : p2 < w6.heap.size := by omega
  obtain ⟨⟨d0, d1, d2, d3, d4, d5, d6, d7⟩, -⟩ := cells8 P1f
  unfold nwB
  go_wp2_with fail
  have hbC := (Below.refl w6.heap.size w6).alloc (Nat.le_refl _) (.cells #[.int .i64 3, .slice none 0 0, .bool false, .slice none 0 0, .slice none 0 0, .int .i64 0, .slice none 0 0, .slice none 0 0] 33)
  have P2g : WrC _ p2 := (hbC.block p2 hne7).trans P2f
  have hB8 : Below w.heap.size w (w6.alloc (.cells #[.int .i64 3, .slice none 0 0, .bool false, .slice none 0 0, .slice none 0 0, .int .i64 0, .slice none 0 0, .slice none 0 0] 33)) := hB7.trans (hbC.mono hB7.size)
  have hs8 : (w6.alloc (.cells #[.int .i64 3, .slice none 0 0, .bool false, .slice none 0 0, .slice none 0 0, .int .i64 0, .slice none 0 0, .slice none 0 0] 33)).heap.size = w6.heap.size + 1 := by simp
  generalize w6.alloc (.cells #[.int .i64 3, .slice none 0 0, .bool false, .slice none 0 0, .slice none 0 0, .int .i64 0, .slice none 0 0, .slice none 0 0] 33) = W6 at *
  clear d0 d1 d2 d3 d4 d5 d6 d7 P1f P2f hbC
  refine (eqWr_b W6).mono ?_
  rintro e w7 ⟨rfl, hb7⟩
  have P2h : WrC w7 p2 := (hb7.block p2 (by omega)).trans P2g
  have hB9 : Below w.heap.size w w7 := hB8.trans (hb7.mono hB8.size)
  obtain ⟨⟨d0, d1, d2, d3, d4, d5, d6, d7⟩, -⟩ := cells8 P2h
  go_wp2_with fail
  refine (heldWr_b w7).mono ?_
  rintro e w8 ⟨rfl, hb8⟩
  have hB10 : Below w.heap.size w w8 := hB9.trans (hb8.mono hB9.size)
  clear d0 d1 d2 d3 d4 d5 d6 d7 HA HB
  go_wp2
  go_ret
  exact ⟨rfl, hB10⟩
theorem newWorldLaw_any (s : Int) (w : World) :
    Calls Try.prog 3 #[.int .i64 s] w fun e w' => e = .returned (.bool true) ∧ Below w.heap.size w w' := by
  by_cases h1 : s = 1
  · subst h1
    exact newWorldLaw_k 1 w (by omega) (by omega) newWorld_1
  by_cases h2 : s = 2
  · subst h2
    exact newWorldLaw_k 2 w (by omega) (by omega) newWorld_2
  by_cases h3 : s = 3
  · subst h3
    exact newWorldLaw_k 3 w (by omega) (by omega) newWorld_3
  exact newWorldLaw_b s w (by omega)
end Go.Proofs.Ytpmnopmfaicffaa
