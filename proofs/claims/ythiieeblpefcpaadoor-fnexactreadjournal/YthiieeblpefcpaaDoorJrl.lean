/- The laws' marks of what ReadJournal tells; no conditions beyond those that each fact names. -/
import Derived.Test.YthiieeblpefcpaaDoorJrk
namespace Go.Proofs.YthiieeblpefcpaaDoor
open Go.RowKit
set_option linter.unusedVariables false

theorem jG_len14 : ∀ (k : Nat) (d : List Nat), 14 * (jG k d).2.length ≤ d.length
  | 0, d => by simp [jG]
  | k + 1, d => by
    unfold jG
    split
    · next h =>
      have h1 := rpV_ok h
      have := jG_len14 k (d.drop (rpV d).2.1)
      rw [List.length_drop] at this
      simp only [List.length_cons]; omega
    · simp
theorem jV_len14 (d : List Nat) : (jV d).2.2.length ≤ 571 := by
  unfold jV
  split
  · simp
  · have := jG_len14 d.length d
    show (jG d.length d).2.length ≤ 571
    omega
theorem kJ_le {l : List OpR} (h : ∀ i, i < l.length → (nthO l i).u.length ≤ 6 ∧ (nthO l i).b.length ≤ 400) : ∀ j, j ≤ l.length → 1 ≤ kJ (l.take j) ∧ kJ (l.take j) ≤ 1 + 412 * j
  | 0, _ => by simp [kJ]
  | j + 1, hj => by
    have ih := kJ_le h j (by omega)
    have hh := h j (by omega)
    rw [kJ_snoc l j (by omega)]
    omega
/-- Three cells: a code, how many bytes, ops. -/
def Tq (w : World) (g : Nat) (c : Int) (u : Nat) (v : Value) : Prop := w.cell? ⟨g, 0, none⟩ = some (.int .i64 c) ∧ w.cell? ⟨g, 1, none⟩ = some (.int .i64 (u : Int)) ∧ w.cell? ⟨g, 2, none⟩ = some v
theorem Tq.below {C : Nat} {w w' : World} {g u : Nat} {c : Int} {v : Value} (h : Tq w g c u v) (hb : Below C w w') (hg : g < C) : Tq w' g c u v :=
  ⟨(hb.cell (p := ⟨g, 0, none⟩) hg).trans h.1, (hb.cell (p := ⟨g, 1, none⟩) hg).trans h.2.1, (hb.cell (p := ⟨g, 2, none⟩) hg).trans h.2.2⟩
theorem Tq.same {w w' : World} {g u : Nat} {c : Int} {v : Value} (h : Tq w g c u v) (he : ∀ i, w'.cell? ⟨g, i, none⟩ = w.cell? ⟨g, i, none⟩) : Tq w' g c u v := ⟨(he _).trans h.1, (he _).trans h.2.1, (he _).trans h.2.2⟩
theorem Tq.lt {w : World} {g u : Nat} {c : Int} {v : Value} (h : Tq w g c u v) : g < w.heap.size := World.block_lt_of_cell? w ⟨g, 0, none⟩ h.1
theorem Tq.new (w : World) (c : Int) (u : Nat) (v : Value) (t : TypeId) : Tq (w.alloc (.cells #[.int .i64 c, .int .i64 (u : Int), v] t)) w.heap.size c u v := ⟨by simp, by simp, by simp⟩

set_option maxHeartbeats 800000 in
set_option maxRecDepth 100000 in
theorem markOpsResult_hd (c : Int) (u : Nat) (a : Option Addr) (n cap B hi : Nat) (l : List OpR) (w : World) (h : RwC w B hi a n l) (hl : l.length = n) (hn : n ≤ 8000) (hk : ∀ j, j ≤ n → 1 ≤ kJ (l.take j) ∧ kJ (l.take j) ≤ 500000) (hB : B ≤ w.heap.size) :
    Calls Tryd.prog 43 #[.agg #[.int .i64 c, .int .i64 (u : Int), .slice a n cap], .int .i64 1] w fun e w' => e = .returned (.int .i64 (kJ l : Int)) ∧ Below B w w' ∧ (∀ g f, hi ≤ g → g < w.heap.size → w'.cell? ⟨g, f, none⟩ = w.cell? ⟨g, f, none⟩) ∧ ∃ b, (n = 0 ∨ a = some ⟨b, 0, none⟩) ∧ (n = 0 ∨ b < w'.heap.size) ∧ ∀ j, j < n → ∃ p, HdJ w' b (nthO l j) (kJ (l.take j)) j p := by
  obtain ⟨W1, hW1⟩ : ∃ W1, w.alloc (.cells #[.int .i64 c, .int .i64 (u : Int), .slice a n cap] 27) = W1 := ⟨_, rfl⟩
  have b1 : Below w.heap.size w W1 := by rw [← hW1]; exact (Below.refl _ _).alloc (Nat.le_refl _) _
  obtain ⟨x0, x1, x2⟩ : Tq W1 w.heap.size c u (.slice a n cap) := by rw [← hW1]; exact Tq.new _ _ _ _ _
  have HC := markOpS_hd a n cap B hi l W1 (h.keep b1.size (fun g i h1 h2 => ⟨b1.cell (p := ⟨g, i, none⟩) h2, b1.frozen (p := ⟨g, i, none⟩) h2⟩)) hl hn hk
  have HB : Hid (Below B w W1) := b1.mono hB
  have HBS : Hid (w.heap.size ≤ W1.heap.size) := b1.size
  have HBC : Hid (∀ g f, g < w.heap.size → W1.cell? ⟨g, f, none⟩ = w.cell? ⟨g, f, none⟩) := fun g f h => b1.cell (p := ⟨g, f, none⟩) h
  clear b1 h
  go_enter Tryd.func43, Tryd.ntmps43
  go_wp2_with fail
  refine HC.mono ?_
  rintro e w3 ⟨rfl, h3, hy, hx⟩
  have hB3 := HB.out.trans h3.1
  clear HC
  go_wp2
  go_ret
  exact ⟨rfl, hB3, fun g f h1 h2 => (hy g f h1 (Nat.lt_of_lt_of_le h2 HBS.out)).trans (HBC.out g f h2), hx⟩

set_option maxHeartbeats 800000 in
set_option maxRecDepth 100000 in
theorem heldOpsResult_hd (c : Int) (u : Nat) (a : Option Addr) (b n cap : Nat) (l : List OpR) (w : World) (ha : n = 0 ∨ a = some ⟨b, 0, none⟩) (hb : n = 0 ∨ b < w.heap.size) (hl : l.length = n) (hn : n ≤ 8000) (h : ∀ j, j < n → ∃ p, HdJ w b (nthO l j) (kJ (l.take j)) j p) (hk : ∀ j, j ≤ n → 1 ≤ kJ (l.take j) ∧ kJ (l.take j) ≤ 500000) :
    Calls Tryd.prog 44 #[.agg #[.int .i64 c, .int .i64 (u : Int), .slice a n cap], .int .i64 1] w fun e w' => e = .returned (.int .i64 (kJ l : Int)) ∧ Below w.heap.size w w' := by
  obtain ⟨W1, hW1⟩ : ∃ W1, w.alloc (.cells #[.int .i64 c, .int .i64 (u : Int), .slice a n cap] 27) = W1 := ⟨_, rfl⟩
  have b1 : Below w.heap.size w W1 := by rw [← hW1]; exact (Below.refl _ _).alloc (Nat.le_refl _) _
  obtain ⟨x0, x1, x2⟩ : Tq W1 w.heap.size c u (.slice a n cap) := by rw [← hW1]; exact Tq.new _ _ _ _ _
  have HC := heldOpS_any a b n cap l W1 ha (hb.imp id (fun h => Nat.lt_of_lt_of_le h b1.size)) hl hn (fun j hj => by
    obtain ⟨p, c0, c1, c2, c3, c4, c5, c6, c7, hu, hd, n1, n2⟩ := h j hj
    have hbl : b < w.heap.size := hb.resolve_left (by omega)
    have e : ∀ f, W1.cell? ⟨b, f, none⟩ = w.cell? ⟨b, f, none⟩ := fun f => b1.cell (p := ⟨b, f, none⟩) hbl
    exact ⟨p, (e _).trans c0, (e _).trans c1, (e _).trans c2, (e _).trans c3, (e _).trans c4, (e _).trans c5, (e _).trans c6, (e _).trans c7, hu.below b1, hd.below b1, n1, n2⟩) hk
  have HB : Hid (Below w.heap.size w W1) := b1
  clear b1 h hk
  generalize kJ l = kl at *
  have hp : ¬ (kl : Int) < 0 := by omega
  go_enter Tryd.func44, Tryd.ntmps44
  go_wp2_with fail
  refine HC.mono ?_
  rintro e w3 ⟨rfl, h3⟩
  have hB3 := HB.out.trans (h3.mono HB.out.size)
  clear HC
  go_wp2
  go_ret
  exact ⟨rfl, hB3⟩
end Go.Proofs.YthiieeblpefcpaaDoor
