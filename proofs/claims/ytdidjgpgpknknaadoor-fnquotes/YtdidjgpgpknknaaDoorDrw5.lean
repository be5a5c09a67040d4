/- A text that the model bends: it ends with some text of at most four letters more; nothing below its source is turned. -/
import Derived.Test.YtdidjgpgpknknaaDoorDrw4
namespace Go.Proofs.YtdidjgpgpknknaaDoor
open Go.RowKit

/-- How a draw of a text ends: a plain word, so that no walk opens it. -/
def TextEnd (b m : Nat) (w : World) (e : Ending) (w' : World) : Prop := ∃ l : List Nat, e = .returned (.string (str l)) ∧ IsB l ∧ l.length ≤ m ∧ Below b w w'
theorem textEnd {b m : Nat} {w w' : World} {l : List Nat} (h1 : IsB l) (h2 : l.length ≤ m) (h3 : Below b w w') : TextEnd b m w (.returned (.string (str l))) w' := ⟨l, rfl, h1, h2, h3⟩

theorem Cv.set {w : World} {g n cap j y : Nat} {l : List Nat} (h : Cv w g n cap l) (hj : j < n) : Rd (w.setCell ⟨g, j, none⟩ (.int .u8 (y : Int))) (some ⟨g, 0, none⟩) (l.set j y) := by
  obtain ⟨hl, _, hg, hc, _⟩ := h
  refine .inr ⟨g, 0, rfl, by simpa using hg, fun i hi => ?_⟩
  rw [List.length_set] at hi
  rw [show (⟨g, 0 + i, none⟩ : Addr) = ⟨g, i, none⟩ by rw [Nat.zero_add], nth_get (by rw [List.length_set]; exact hi), List.getElem_set]
  by_cases e : j = i
  · subst e
    rw [if_pos rfl]
    exact World.cell?_setCell_same _ _ _ (hc j (by omega))
  · rw [if_neg e, World.cell?_setCell_other _ _ _ _ (fun h => e (by cases h; rfl)), hc i (by omega), nth_get hi]
theorem isB_set {l : List Nat} (h : IsB l) {j y : Nat} (hy : y < 256) : IsB (l.set j y) := by
  intro x hx
  rcases List.mem_or_eq_of_mem_set hx with h1 | h1
  · exact h x h1
  · omega
theorem isB_app {a b : List Nat} (ha : IsB a) (hb : IsB b) : IsB (a ++ b) := fun x hx => (List.mem_append.1 hx).elim (ha x) (hb x)
theorem rd_take {w : World} {a : Option Addr} {l : List Nat} (h : Rd w a l) (k : Nat) : Rd w a (l.take k) := by
  rcases h with h | ⟨g, o, e, hg, hc⟩
  · exact .inl (by rw [h]; simp)
  · refine .inr ⟨g, o, e, hg, fun i hi => ?_⟩
    rw [List.length_take] at hi
    rw [hc i (by omega), nth_get (by omega), nth_get (by rw [List.length_take]; omega), List.getElem_take]

/-- The six texts that are hung on. -/
def hung : List (List Nat) := [[61], [61, 10], [32], [61, 52], [61, 61, 61, 61], [61, 51, 100]]
theorem hung_at (w : World) (j : Nat) (hj : j < 6) (t : TypeId) : ∃ new : List Nat, IsB new ∧ 1 ≤ new.length ∧ new.length ≤ 4 ∧ (w.alloc (.cells #[.string ⟨#[61]⟩, .string ⟨#[61, 10]⟩, .string ⟨#[32]⟩, .string ⟨#[61, 52]⟩, .string ⟨#[61, 61, 61, 61]⟩, .string ⟨#[61, 51, 100]⟩] t)).cell? ⟨w.heap.size, j, none⟩ = some (.string (str new)) := by
  have hm : hung.getD j [] ∈ hung := by rw [List.getD_eq_getElem?_getD, List.getElem?_eq_getElem (by exact hj)]; exact List.getElem_mem _
  have hall : ∀ x ∈ hung, (1 ≤ x.length ∧ x.length ≤ 4) ∧ ∀ y ∈ x, y < 256 := by decide
  refine ⟨hung.getD j [], fun y hy => (hall _ hm).2 y hy, (hall _ hm).1.1, (hall _ hm).1.2, ?_⟩
  rw [World.cell?_alloc_mark]
  match j, hj with
  | 0, _ => rfl
  | 1, _ => rfl
  | 2, _ => rfl
  | 3, _ => rfl
  | 4, _ => rfl
  | 5, _ => rfl

set_option maxHeartbeats 1600000 in
set_option maxRecDepth 100000 in
theorem l1Bent_any (B b M g n cap : Nat) (l : List Nat) (w : World) (hs : Src w B b M) (hM : M ≤ 900) (hcv : Cv w g n cap l) (hB : IsB l) (hbg : b < g) (hn : n ≤ 900) :
    Calls Tryd.prog 39 #[.pointer (some ⟨b, 0, none⟩), .slice (some ⟨g, 0, none⟩) n cap] w fun e w' => TextEnd b (n + 4) w e w' := by
  obtain ⟨hBb, hbw, -⟩ := id hs
  go_enter Tryd.func39, Tryd.ntmps39
  go_wp2_with fail
  refine (l1Next_any B b M 5 _ hs (by omega) (by omega) (by omega)).mono ?_
  rintro e w1 ⟨r, rfl, r0, r1, -, hs1, hg1⟩
  have hb1 : Below b w w1 := (Below.refl _ _).grown hg1 (by omega) (by intro k hk; simp at hk; omega)
  have hcv1 : Cv w1 g n cap l := hcv.kept hg1 (by omega)
  have hz := hg1.size
  clear hg1 hcv hs
  obtain ⟨hl, hnc, hgw, -, -⟩ := id hcv1
  have hstr := fun c' => run_str (cap := c') hl hcv1.rd
  by_cases h0 : r = 0
  · subst h0
    clear r0 r1
    by_cases hn0 : n = 0
    · subst hn0
      go_wp2
      go_ret
      exact textEnd hB (by omega) hb1
    · have hnp : (0 : Int) < (n : Int) := by omega
      clear hstr
      go_wp2_with fail
      refine (l1Next_any B b (M + 1) (n : Int) _ hs1 (by omega) (by omega) (by omega)).mono ?_
      rintro e w2 ⟨r, rfl, r0, r1, -, hs2, hg2⟩
      obtain ⟨j, rfl⟩ := Int.eq_ofNat_of_zero_le r0
      have hj : j < n := by have := r1 (by omega); omega
      have hj' : (j : Int) < (n : Int) := by omega
      have hb2 : Below b w w2 := hb1.trans ((Below.refl _ _).grown hg2 (by omega) (by intro k hk; simp at hk; omega))
      have hcv2 : Cv w2 g n cap l := hcv1.kept hg2 (by omega)
      have hz2 := hg2.size
      have hs2' : Src (w2.alloc (.cells #[.int .i64 65, .int .i64 61, .int .i64 47, .int .i64 32, .int .i64 10, .int .i64 200] 2)) B b (M + 1 + 1) := hs2.below ((Below.refl _ _).alloc (by omega) _)
      have hcv2' : Cv (w2.alloc (.cells #[.int .i64 65, .int .i64 61, .int .i64 47, .int .i64 32, .int .i64 10, .int .i64 200] 2)) g n cap l := hcv2.below (C := w2.heap.size) ((Below.refl _ _).alloc (Nat.le_refl _) _) (by omega)
      clear hs1 hs2 hcv1 hg2 hcv2 r1
      go_wp2_with fail
      refine (l1Pick_any B b (M + 1 + 1) _ 6 6 [65, 61, 47, 32, 10, 200] _ hs2' (by omega) rfl (by omega) (by omega) (nums_new rfl) (by omega)).mono ?_
      rintro e w3 ⟨x, rfl, hx, -, hg3⟩
      have hx' : 0 ≤ x ∧ x < 256 := by
        simp only [List.mem_cons, List.not_mem_nil, or_false] at hx
        omega
      obtain ⟨y, rfl⟩ := Int.eq_ofNat_of_zero_le hx'.1
      have hy : y < 256 := by omega
      have hb3 : Below b w w3 := (hb2.alloc (by omega) _).trans ((Below.refl _ _).grown hg3 (by simp; omega) (by intro k hk; simp at hk; omega))
      have hcv3 : Cv w3 g n cap l := hcv2'.kept hg3 (by omega)
      obtain ⟨-, -, -, hc3, hf3⟩ := id hcv3
      have c3 := hc3 j hj
      have f3 := (hf3 j (by omega)).2
      have hst := fun c' => run_str (cap := c') (n := n) (by rw [List.length_set]; exact hl) (hcv3.set (y := y) hj)
      have hb4 : Below b w (w3.setCell ⟨g, j, none⟩ (.int .u8 (y : Int))) := hb3.setCell (p := ⟨g, j, none⟩) (show b ≤ g by omega) _
      clear hs2' hcv2' hg3 hx hcv3 hc3 hf3
      go_wp2
      go_ret
      exact textEnd (isB_set hB hy) (by rw [List.length_set]; omega) hb4
  by_cases h1 : r = 1
  · subst h1
    clear hstr r0 r1 h0
    go_wp2_with fail
    refine (l1Next_any B b (M + 1) ((n : Int) + 1) _ hs1 (by omega) (by omega) (by omega)).mono ?_
    rintro e w2 ⟨r, rfl, r0, r1, -, -, hg2⟩
    obtain ⟨j, rfl⟩ := Int.eq_ofNat_of_zero_le r0
    have hj : j ≤ n := by have := r1 (by omega); omega
    have hj' : (j : Int) ≤ (cap : Int) := by omega
    have hb2 : Below b w w2 := hb1.trans ((Below.refl _ _).grown hg2 (by omega) (by intro k hk; simp at hk; omega))
    have hcv2 : Cv w2 g n cap l := hcv1.kept hg2 (by omega)
    have hst := fun c' => run_str (cap := c') (n := j) (by rw [List.length_take]; omega) (rd_take hcv2.rd j)
    clear hs1 hcv1 hg2 hcv2 r1
    go_wp2
    go_ret
    exact textEnd (isB_take hB j) (by rw [List.length_take]; omega) hb2
  by_cases h2 : r = 2
  · subst h2
    clear hstr r0 r1 h0 h1
    have hs1' : Src (w1.alloc (.cells #[.string ⟨#[61]⟩, .string ⟨#[61, 10]⟩, .string ⟨#[32]⟩, .string ⟨#[61, 52]⟩, .string ⟨#[61, 61, 61, 61]⟩, .string ⟨#[61, 51, 100]⟩] 9)) B b (M + 1) := hs1.below ((Below.refl _ _).alloc (by omega) _)
    have hcv1' : Cv (w1.alloc (.cells #[.string ⟨#[61]⟩, .string ⟨#[61, 10]⟩, .string ⟨#[32]⟩, .string ⟨#[61, 52]⟩, .string ⟨#[61, 61, 61, 61]⟩, .string ⟨#[61, 51, 100]⟩] 9)) g n cap l := hcv1.below (C := w1.heap.size) ((Below.refl _ _).alloc (Nat.le_refl _) _) (by omega)
    have hat := fun j hj => hung_at w1 j hj 9
    go_wp2_with fail
    refine (l1Next_any B b (M + 1) 6 _ hs1' (by omega) (by omega) (by omega)).mono ?_
    rintro e w2 ⟨r, rfl, r0, r1, -, -, hg2⟩
    obtain ⟨j, rfl⟩ := Int.eq_ofNat_of_zero_le r0
    have hj : j < 6 := by have := r1 (by omega); omega
    have hj' : (j : Int) < 6 := by omega
    obtain ⟨new, hBn, hn1, hn4, hcell⟩ := hat j hj
    have c2 : w2.cell? ⟨w1.heap.size, j, none⟩ = some (.string (str new)) := (hg2.cell_far ⟨w1.heap.size, j, none⟩ (by simp) (by simp; omega)).trans hcell
    have hb2 : Below b w w2 := (hb1.alloc (by omega) _).trans ((Below.refl _ _).grown hg2 (by simp; omega) (by intro k hk; simp at hk; omega))
    have hcv2 : Cv w2 g n cap l := hcv1'.kept hg2 (by omega)
    have hz2 : w1.heap.size + 1 ≤ w2.heap.size := by have := hg2.size; simpa using this
    have hsz : (str new).size = new.length := str_size new
    have hcvt := fun wx => run_bytes_of_string (P := Tryd.prog) wx 9 22 5 (str new) Tryd.underlying9 Tryd.underlying22 Tryd.underlying5
    rw [hsz] at hcvt
    clear hs1 hs1' hcv1 hcv1' hat hcell hg2 r1
    have hcp := grownCap_ge w2 new.length 0 5
    have hbW : Below w2.heap.size w2 (w2.alloc (.cells (bytesRow (str new) (grownCap w2 new.length 0 5)) 5 ((bytesRow (str new) (grownCap w2 new.length 0 5)).size, (bytesRow (str new) (grownCap w2 new.length 0 5)).size + 1))).drew := ((Below.refl _ _).alloc (Nat.le_refl _) _).drew
    have hcvW := hcv2.below hbW (by omega)
    have hrdW : Rd (w2.alloc (.cells (bytesRow (str new) (grownCap w2 new.length 0 5)) 5 ((bytesRow (str new) (grownCap w2 new.length 0 5)).size, (bytesRow (str new) (grownCap w2 new.length 0 5)).size + 1))).drew (some ⟨w2.heap.size, 0, none⟩) new := bytesRow_rd w2 new hBn _ _
    go_wp2_with (at_builtin; refine wpList_app_cv rfl _ _ rfl g n cap l rfl hcvW ⟨w2.heap.size, 0, none⟩ new.length _ new rfl rfl ?_ (by omega) ?_)
    · intro j hj
      obtain ⟨d, off, e, -, hc⟩ := hrdW.at_ (by omega)
      cases e
      rw [Go.WideShapes.add_plain]
      exact hc j hj
    · intro ao N cap' w4 hst hb4
      have hb5 : Below b w w4 := hb2.trans ((hbW.mono (by omega)).trans (hb4.mono (by omega)))
      clear hrdW hcvW hcvt
      go_wp2
      go_ret
      exact textEnd (isB_app hB hBn) (by rw [List.length_append]; omega) hb5
  · have e0 : (r == 0) = false := beq_eq_false_iff_ne.2 h0
    have e1 : (r == 1) = false := beq_eq_false_iff_ne.2 h1
    have e2 : (r == 2) = false := beq_eq_false_iff_ne.2 h2
    go_wp2
    go_ret
    exact textEnd hB (by omega) hb1
end Go.Proofs.YtdidjgpgpknknaaDoor
