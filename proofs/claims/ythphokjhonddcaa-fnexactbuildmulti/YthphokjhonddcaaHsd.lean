/- Whether a line of some bytes begins with two dashes, the program's. -/
import Derived.Test.YthphokjhonddcaaLns
namespace Go.Proofs.Ythphokjhonddcaa
open Go.RowKit Go.Shelf
attribute [local go_sem] Oper.semAt_some

/-- A line that begins with two dashes. -/
def dsL (x : Line) : Bool := Lib.hasPrefix x.1.data.toList [45, 45]
/-- A block that holds a line. -/
def LnAt (W : World) (B : Nat) (x : Line) : Prop := W.heap[B]? = some (.cells #[.string x.1, .int .i64 x.2.1, .int .i64 x.2.2] 48 (0, 0))
theorem LnAt.lt {W : World} {B : Nat} {x : Line} (h : LnAt W B x) : B < W.heap.size := (Array.getElem?_eq_some_iff.1 h).1
theorem LnAt.cells {W : World} {B : Nat} {x : Line} (h : LnAt W B x) : W.cell? ⟨B, 0, none⟩ = some (.string x.1) ∧ W.cell? ⟨B, 1, none⟩ = some (.int .i64 x.2.1) ∧ W.cell? ⟨B, 2, none⟩ = some (.int .i64 x.2.2) := by
  unfold LnAt at h
  simp [World.cell?, h]
theorem LnAt.kept {W W' : World} {B : Nat} {x : Line} {row : Option Nat} (h : LnAt W B x) (hg : W.grownBy W' row) (hr : ∀ r, row = some r → ∃ o : Obj, W.heap[r]? = some o ∧ o.isCells = false) : LnAt W' B x := by
  unfold LnAt
  rw [hg.block B h.lt (fun e => by
    obtain ⟨o, ho, hc⟩ := hr B e.symm
    unfold LnAt at h
    rw [h] at ho
    cases ho
    cases hc)]
  exact h

theorem cellA {W : World} {o : Obj} {p : Addr} {v : Value} (h : W.cell? p = some v) : (W.alloc o).cell? p = some v := (((Below.refl _ W).alloc (Nat.le_refl _) o).cell (World.block_lt_of_cell? W _ h)).trans h
theorem frozA {W : World} {o : Obj} {p : Addr} {v : Value} {q : Bool} (h : W.cell? p = some v) (hf : W.frozen? p = q) : (W.alloc o).frozen? p = q := (((Below.refl _ W).alloc (Nat.le_refl _) o).frozen (World.block_lt_of_cell? W _ h)).trans hf

set_option maxRecDepth 100000 in
set_option maxHeartbeats 4000000 in
theorem hasDashes_any (a : Option Addr) (m cap : Nat) (d : List Nat) (w : World) (hl : d.length = m) (hr : Rd w a d) (hB : IsB d) (hm : m ≤ 2000000) (hcap : m ≤ cap) (ha : 0 < m → ∃ b off, a = some ⟨b, off, none⟩) :
    Calls Try.prog 21 #[.slice a m cap] w fun e w' => e = .returned (.bool ((lns d).any dsL)) ∧ Below w.heap.size w w' := by
  refine (callsIn_wide (n := 4)).1 ?_
  refine callsIn_of_wp_marks Try.func21 rfl trivial ?_ rfl
  simp only [Try.ntmps21, List.size_toArray, List.length_cons, List.length_nil, Nat.reduceAdd, Nat.reduceSub, Array.replicate_succ, Array.replicate_zero, List.push_toArray, List.append_toArray, List.nil_append, List.cons_append]
  gi_wp2_with (first | (gi_at_call 27; refine (callsIn_wide.2 (linesOf_any a m cap _)).mono ?_; rintro e w' ⟨rfl, rfl⟩) | (refine ⟨trivial, ?_⟩; gi_at_call 27; refine (callsIn_wide.2 (linesOf_any a m cap _)).mono ?_; rintro e w' ⟨rfl, rfl⟩))
  obtain ⟨W0, hW0⟩ : ∃ W0, (w.alloc (.cells #[.bool false] 4)).alloc (.cells #[.slice a m cap] 24) = W0 := ⟨_, rfl⟩
  have hz0 : W0.heap.size = w.heap.size + 1 + 1 := by rw [← hW0]; simp
  have hB0 : Below w.heap.size w W0 := by rw [← hW0]; exact ((Below.refl _ w).alloc (Nat.le_refl _) _).alloc (by simp) _
  have hc0 : W0.cell? ⟨w.heap.size, 0, none⟩ = some (.bool false) := by rw [← hW0]; simp
  have hf0 : W0.frozen? ⟨w.heap.size, 0, none⟩ = false := by rw [← hW0]; simp
  have hcb : W0.cell? ⟨w.heap.size + 1, 0, none⟩ = some (.slice a m cap) := by
    have e : w.heap.size + 1 = (w.alloc (.cells #[.bool false] 4)).heap.size := by simp
    rw [← hW0, e]; simp
  have hr0 : Rd W0 a d := hr.below hB0
  rw [hW0]
  have hKr : ∀ W W', Below (w.heap.size + 1 + 1) W W' → Rd W a d → Rd W' a d := by
    intro W W' h hrd
    rcases hr with h0 | ⟨b, off, rfl, hb, -⟩
    · exact .inl h0
    · exact rd_belowL h hrd (fun b' o' e => by cases e; omega)
  refine wpIn_rangeFunc_ownH rfl (by omega) (gf := 29) (lb := #[.pointer (some ⟨w.heap.size + 1, 0, none⟩)]) rfl trivial (enters_of Try.func29 (by kernel_rfl) rfl)
    (lines_stops 3 (w.heap.size + 1) m cap (by omega) a d (Below (w.heap.size + 1 + 1)) W0 (fun W W' h => h.cell (p := ⟨w.heap.size + 1, 0, none⟩) (by simp)) hKr hcb (by omega) ha hl hr0 hB hm hcap) belowK_t (belowK_b (by omega)) (Below.refl _ _) (fun _ => rfl)
    (fun pre W => ((∀ y ∈ pre, dsL y = false) ∧ W.cell? ⟨w.heap.size, 0, none⟩ = some (.bool false) ∧ W.frozen? ⟨w.heap.size, 0, none⟩ = false ∧ w.heap.size + 1 + 1 ≤ W.heap.size) ∧ Below w.heap.size w W)
    (fun c pre W => (c = .ret ∧ (∃ y ∈ pre, dsL y = true) ∧ W.cell? ⟨w.heap.size, 0, none⟩ = some (.bool true)) ∧ Below w.heap.size w W)
    (OwnFrom.and (Own.from (fun s A B row hs hg hr => ⟨hs.1, cell_kept hs.2.1 hg hr, (frozen_kept hs.2.1 hg hr).trans hs.2.2.1, Nat.le_trans hs.2.2.2 hg.size⟩) _) (ownFrom_below (Nat.le_refl _) (by omega)))
    (fun c => OwnFrom.and (Own.from (fun s A B row hs hg hr => ⟨hs.1, hs.2.1, cell_kept hs.2.2 hg hr⟩) _) (ownFrom_below (Nat.le_refl _) (by omega)))
    ⟨⟨by simp, hc0, hf0, by omega⟩, hB0⟩
    (fun x a' W => ∃ Bx, w.heap.size + 1 < Bx ∧ LnAt W Bx x ∧ a' = { tmps := #[.slice a m cap, undef, .pointer (some ⟨w.heap.size, 0, none⟩), .pointer (some ⟨Bx, 0, none⟩), .slice a m cap, .func (.func 29) #[] #[.pointer (some ⟨w.heap.size + 1, 0, none⟩)], .agg #[.string x.1, .int .i64 x.2.1, .int .i64 x.2.2], undef, undef, undef], defers := [] })
    (fun x a' _ X Y row hs hg hr => by obtain ⟨Bx, h1, h2, h3⟩ := hs; exact ⟨Bx, h1, h2.kept hg (fun r e => (hr r e).2), h3⟩)
    ?assign ?body ?done ?stop
  case assign =>
    rintro l pre x W K ⟨⟨hp, hcr, hfr, hsz⟩, hB1⟩ hK
    dsimp only [encL]
    gi_wp2
    exact hK _ _ ((KeepsOthers.alloc _ _).from _) ((Below.refl _ W).alloc hsz _) ⟨⟨hp, cellA hcr, frozA hcr hfr, by simp; omega⟩, hB1.alloc hB1.size _⟩ ⟨W.heap.size, by omega, heap_alloc_new W _, rfl⟩
  case body =>
    rintro l pre x a' W hl ⟨r, hr⟩ ⟨⟨hp, hcr, hfr, hsz⟩, hB1⟩ ⟨Bx, hBx, hLn, rfl⟩ hlt
    obtain ⟨c0, c1, c2⟩ := hLn.cells
    have HP : Calls Try.prog 28 #[.string x.1, .string ⟨#[45, 45]⟩] W fun e w' => e = .returned (.bool (dsL x)) ∧ w' = W := Try.strings_HasPrefix x.1 ⟨#[45, 45]⟩ W
    cases hx : dsL x with
    | true =>
      rw [hx] at HP
      gi_wp2_with (first | (gi_at_call 28; refine (CallsIn.inRound l (callsIn_wide.2 HP)).mono ?_; rintro e w' ⟨rfl, rfl⟩) | (refine ⟨trivial, ?_⟩; gi_at_call 28; refine (CallsIn.inRound l (callsIn_wide.2 HP)).mono ?_; rintro e w' ⟨rfl, rfl⟩))
      exact ⟨(KeepsOthers.setCell _ _ _).from _, ⟨rfl, ⟨x, List.mem_append.2 (.inr (by simp)), hx⟩, World.cell?_setCell_same' _ _ _ (by rw [hcr]; rfl)⟩, hB1.setCell (p := ⟨w.heap.size, 0, none⟩) (Nat.le_refl _) _⟩
    | false =>
      rw [hx] at HP
      gi_wp2_with (first | (gi_at_call 28; refine (CallsIn.inRound l (callsIn_wide.2 HP)).mono ?_; rintro e w' ⟨rfl, rfl⟩) | (refine ⟨trivial, ?_⟩; gi_at_call 28; refine (CallsIn.inRound l (callsIn_wide.2 HP)).mono ?_; rintro e w' ⟨rfl, rfl⟩))
      exact ⟨KeepsFrom.refl _ _, Below.refl _ _, ⟨fun y hy => (List.mem_append.1 hy).elim (hp y) (fun e => by simp at e; rw [e]; exact hx), hcr, hfr, hsz⟩, hB1⟩
  case done =>
    rintro D ys W hD rfl ⟨⟨hne, hcr, hfr, hsz⟩, hB1⟩ hK
    have HA : Hid ((lns d).any dsL = false) := List.any_eq_false.2 (fun y hy => by rw [hne y hy]; simp)
    gi_wp2
    have hK' := (KeepsOthers.setCell W ⟨w.heap.size, 0, none⟩ (.bool false)).same D _ hK rfl
    refine ⟨by simp, .inl ⟨_, _, rfl, run_takeDeferred hK', ?_⟩⟩
    have hc5 := cell_kept (World.cell?_setCell_same' W ⟨w.heap.size, 0, none⟩ (.bool false) (by rw [hcr]; rfl)) (grownBy_putObj' _ D (.deferred none)) (fun r e => by cases e; exact ⟨_, hK', rfl⟩)
    refine ⟨.bool false, ?_, by rw [HA.out], (hB1.setCell (p := ⟨w.heap.size, 0, none⟩) (Nat.le_refl _) _).trans (belowK_b (w := w) (Nat.le_refl _) _ D _ _ (by omega) hK' rfl rfl)⟩
    simp [results, Try.results21, go_sem, hc5]
  case stop =>
    rintro D c pre W hD hpre ⟨⟨rfl, ⟨y, hy, hyx⟩, hcr⟩, hB1⟩ hK
    have HA : Hid ((lns d).any dsL = true) := List.any_eq_true.2 ⟨y, hpre.subset hy, hyx⟩
    gi_wp2
    refine ⟨by simp, .inl ⟨_, _, rfl, run_takeDeferred hK, ?_⟩⟩
    have hc5 := cell_kept hcr (grownBy_putObj' _ D (.deferred none)) (fun r e => by cases e; exact ⟨_, hK, rfl⟩)
    refine ⟨.bool true, ?_, by rw [HA.out], hB1.trans (belowK_b (w := w) (Nat.le_refl _) W D _ _ (by omega) hK rfl rfl)⟩
    simp [results, Try.results21, go_sem, hc5]
end Go.Proofs.Ythphokjhonddcaa
