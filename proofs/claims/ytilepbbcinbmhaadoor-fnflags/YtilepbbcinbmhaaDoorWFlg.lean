/- The law FnFlags returns true at every input, and changes nothing that was there; the condition: the table flagWords lies in its variable. -/
import Derived.Test.YtilepbbcinbmhaaDoorFlp
import Derived.Test.YtilepbbcinbmhaaDoorDrw3aToBytI
import Derived.Test.YtilepbbcinbmhaaDoorBxhToIxf
import Derived.Deep.RegionHeld3
namespace Go.Proofs.YtilepbbcinbmhaaDoor
open Go.RowKit
set_option linter.unusedVariables false

theorem fwI0 (x y : Value) (w : World) : (Instr.field 26 (.agg #[x, y]) 0).run Tryd.prog w = .ok x w := by
  simp [Instr.field, asAgg, go_sem]
theorem fwI1 (x y : Value) (w : World) : (Instr.field 26 (.agg #[x, y]) 1).run Tryd.prog w = .ok y w := by
  simp [Instr.field, asAgg, go_sem]
theorem fwT0 (x y : Value) (w : World) : (Instr.field 29 (.agg #[x, y]) 0).run Tryd.prog w = .ok x w := by
  simp [Instr.field, asAgg, go_sem]
theorem fwT1 (x y : Value) (w : World) : (Instr.field 29 (.agg #[x, y]) 1).run Tryd.prog w = .ok y w := by
  simp [Instr.field, asAgg, go_sem]
def TxE (w : World) (e : Ending) (w' : World) : Prop := ∃ s : ByteArray, e = .returned (.string s) ∧ Below w.heap.size w w'
def StE (w : World) (e : Ending) (w' : World) : Prop := ∃ (x : Int) (s : SlQ) (l : List Bx) (nm : ByteArray), e = .returned (.tuple #[.agg #[.int .i64 x, slW s], .string nm]) ∧ IsXs w.heap.size w' s l ∧ FtXs l ∧ Below w.heap.size w w'
def BxE (w : World) (e : Ending) (w' : World) : Prop := ∃ (x : Bx) (s : SlQ) (u : Int), e = .returned (.tuple #[bxX x s, .int .i64 u]) ∧ IsMs w.heap.size w' s x.m ∧ x.n.size ≤ 1048576 ∧ Below w.heap.size w w'
def NuE (w : World) (e : Ending) (w' : World) : Prop := ∃ r : Int, e = .returned (.int .i64 r) ∧ Below w.heap.size w w'
/-- Values put into slots one behind the other. -/
def putAll (a : Act) : List Nat → List Value → Act
  | s :: ss, v :: vs => putAll (a.put (some s) v) ss vs
  | _, _ => a
/-- The ways of a piece of code meet: whatever it put into its slots, the last of them tells no. -/
theorem wp_meet {P : Program} {c : Code} {Q : Exit → Act → World → Prop} {a : Act} {w : World} (ss : List Nat) (R : World → Prop)
    (h1 : c.wp P (fun ex a' w' => ex = .normal ∧ R w' ∧ (ss.map fun s => a'.tmps.getD s undef).getLast? = some (.bool false) ∧ a' = putAll a ss (ss.map fun s => a'.tmps.getD s undef)) a w)
    (h2 : ∀ (vs : List Value) (w' : World), vs.length = ss.length → vs.getLast? = some (.bool false) → R w' → Q .normal (putAll a ss vs) w') : c.wp P Q a w :=
  Code.wp_mono (fun e a' w' ⟨he, hR, hf, ha⟩ => by subst he; have h := h2 _ w' (by simp) hf hR; rw [← ha] at h; exact h) h1

set_option maxHeartbeats 6400000 in
set_option maxRecDepth 100000 in
theorem walkFlags (a : Option Addr) (n cap : Nat) (l : List Nat) (w : World) (hl : l.length = n) (hr : Rd w a l) (hB : IsB l) (htF : TabF w)
    (HDP : Hid (∀ w', Rd w' a l → Calls Tryd.prog 6 #[.slice a n cap] w' fun e w'' => TxE w' e w''))
    (HDB : Hid (∀ w', Rd w' a l → Calls Tryd.prog 10 #[.slice a n cap] w' fun e w'' => StE w' e w''))
    (HDS : Hid (∀ w', Rd w' a l → Calls Tryd.prog 13 #[.slice a n cap] w' fun e w'' => BxE w' e w''))
    (HDF : Hid (∀ w', Rd w' a l → Calls Tryd.prog 16 #[.slice a n cap] w' fun e w'' => NuE w' e w'')) (hn : n ≤ 1048576) :
    Calls Tryd.prog 3 #[.slice a n cap] w fun e w' => e = .returned (.bool true) ∧ Below w.heap.size w w' := by
  have F0 := fwI0
  have F1 := fwI1
  have T0 := fwT0
  have T1 := fwT1
  have HI0 : Hid (∀ (x y : Value) (w : World), (Instr.field 26 (.agg #[x, y]) 0).run Tryd.prog w = .ok x w) := F0
  have HT1 : Hid (∀ (x y : Value) (w : World), (Instr.field 29 (.agg #[x, y]) 1).run Tryd.prog w = .ok y w) := T1
  have HI1 : Hid (∀ (x y : Value) (w : World), (Instr.field 26 (.agg #[x, y]) 1).run Tryd.prog w = .ok y w) := F1
  have HT0 : Hid (∀ (x y : Value) (w : World), (Instr.field 29 (.agg #[x, y]) 0).run Tryd.prog w = .ok x w) := T0
  clear F0 F1 T0 T1
  have HL := lwBig_any a n cap
  rw [show decide ((1048576 : Int) < (n : Int)) = false from decide_eq_false (by omega)] at HL
  have HRD : Hid (∀ w', Below w.heap.size w w' → Rd w' a l) := fun w' h => hr.below h
  have HTF : Hid (∀ w', Below w.heap.size w w' → TabF w') := fun w' h => htF.below h
  clear hr htF
  go_enter Tryd.func3, Tryd.ntmps3
  go_wp2_with fail
  refine (HL _).mono ?_
  rintro e w1 ⟨rfl, rfl⟩
  clear HL
  go_wp2_with fail
  refine (HDP.out w (HRD.out w (Below.refl _ _))).mono ?_
  rintro e w1 ⟨s, rfl, hb1⟩
  go_wp2_with fail
  refine (parseFlags_any s w1 (HTF.out w1 hb1)).mono ?_
  rintro e w2 ⟨rfl, hb2⟩
  have hB2 := hb1.trans (hb2.mono hb1.size)
  clear hb1 hb2
  have HPF := pf_ft (s := s)
  have HSP := specParseFlags_any s
  generalize pfV s = pv at *
  obtain ⟨c, v⟩ := pv
  dsimp only at HPF HSP ⊢
  have hb3 : Below w2.heap.size w2 (w2.alloc (.cells #[.int .i64 c, .int .i64 v] 26)) := (Below.refl _ _).alloc (Nat.le_refl _) _
  have hV3 := Dc.new w2 (.int .i64 c) (.int .i64 v) 26
  have hB3 := hB2.trans (hb3.mono hB2.size)
  have hg3 : w2.heap.size < (w2.alloc (.cells #[.int .i64 c, .int .i64 v] 26)).heap.size := by simp
  clear hb3 hB2
  go_wp2_with fail
  generalize w2.alloc (.cells #[.int .i64 c, .int .i64 v] 26) = W3 at *
  generalize w2.heap.size = g4 at *
  clear w2
  have hV3 : W3.cell? ⟨g4, 0, none⟩ = some (.int .i64 c) ∧ W3.cell? ⟨g4, 1, none⟩ = some (.int .i64 v) := hV3
  refine wp_meet [19, 20, 21, 22, 23, 24, 25, 26, 27, 28, 29, 30, 31, 32, 33, 34, 35, 36, 37] (fun w' => Below w.heap.size w w') ?hm19 (fun vs W hlv hfv hBW => ?_)
  case hm19 =>
    by_cases hc : c = 0
    · subst hc
      have HPF := HPF rfl
      refine wp_region_held_drew (S := fun w' => w'.cell? ⟨g4, 0, none⟩ = some (.int .i64 0) ∧ w'.cell? ⟨g4, 1, none⟩ = some (.int .i64 v)) (by kernel_rfl) ?hS1 (fun hHeld => ?_)
      case hS1 => exact hV3
      refine wpAnyH_take (i := 0) (v := ?_) rfl (by kernel_rfl) (by kernel_rfl) (by kernel_rfl) (fun _ _ _ h => absurd h.1 (fun e => by cases e)) (Or.inl ⟨by rfl, ?hy2⟩) (by assumption) ?ty2
      case hy2 => (intro w5 hSw; (try dsimp only at hSw); obtain ⟨s0, s1⟩ := hSw;  go_simp; all_goals with_reducible rfl)
      simp only [Act.put, List.getElem_toArray, List.getElem_cons_zero, List.setIfInBounds_toArray, List.set_cons_zero, List.set_cons_succ]
      refine wpAnyH_take (i := 1) (v := ?_) rfl (by kernel_rfl) (by kernel_rfl) (by kernel_rfl) (fun _ _ _ h => absurd h.1 (fun e => by cases e)) (Or.inl ⟨by rfl, ?hy3⟩) (by assumption) ?ty3
      case hy3 => (intro w5 hSw; (try dsimp only at hSw); obtain ⟨s0, s1⟩ := hSw;  go_simp; all_goals with_reducible rfl)
      simp only [Act.put, List.getElem_toArray, List.getElem_cons_zero, List.getElem_cons_succ, List.setIfInBounds_toArray, List.set_cons_zero, List.set_cons_succ]
      refine wpAnyH_take (i := 2) (v := ?_) rfl (by kernel_rfl) (by kernel_rfl) (by kernel_rfl) (fun _ _ _ h => absurd h.1 (fun e => by cases e)) (Or.inl ⟨by rfl, ?hy4⟩) (by assumption) ?ty4
      case hy4 => (intro w5 hSw; (try dsimp only at hSw); obtain ⟨s0, s1⟩ := hSw;  go_simp; all_goals with_reducible rfl)
      simp only [Act.put, List.getElem_toArray, List.getElem_cons_zero, List.getElem_cons_succ, List.setIfInBounds_toArray, List.set_cons_zero, List.set_cons_succ]
      refine wpAnyH_ready (rs := [3]) (by kernel_rfl) (by simp) ?_
      refine AllReadyH.cons rfl (fun K hK => ?_) AllReadyH.nil
      go_simp
      refine (HSP _).mono ?_
      rintro e w4 ⟨rfl, hb4⟩
      have hb4 : Below W3.heap.size W3 w4 := (Below.refl _ _).drew.trans hb4
      have hV4 := And.intro ((hb4.cell (p := ⟨g4, 0, none⟩) hg3).trans hV3.1) ((hb4.cell (p := ⟨g4, 1, none⟩) hg3).trans hV3.2)
      have hB4 := hB3.trans (hb4.mono hB3.size)
      refine hK.out _ _ hV4 (fun hHeld => ?_)
      clear hK K
      refine wpAnyH_take (i := 4) (v := ?_) rfl (by kernel_rfl) (by kernel_rfl) (by kernel_rfl) (fun _ _ _ h => absurd h.1 (fun e => by cases e)) (Or.inl ⟨by rfl, ?hy5⟩) (by assumption) ?ty5
      case hy5 => (intro w5 hSw; (try dsimp only at hSw); obtain ⟨s0, s1⟩ := hSw; have hf := HI0.out; go_simp; all_goals with_reducible rfl)
      simp only [Act.put, List.getElem_toArray, List.getElem_cons_zero, List.getElem_cons_succ, List.setIfInBounds_toArray, List.set_cons_zero, List.set_cons_succ]
      refine wpAnyH_take (i := 5) (v := .bool false) rfl (by kernel_rfl) (by kernel_rfl) (by kernel_rfl) (fun _ _ _ h => absurd h.1 (fun e => by cases e)) (Or.inl ⟨by rfl, ?hy6⟩) (by assumption) ?ty6
      case hy6 => (intro w5 hSw; (try dsimp only at hSw); obtain ⟨s0, s1⟩ := hSw;  go_simp; first | (all_goals with_reducible rfl) | (simp; done) | (simp [*]; done) | (simp; omega))
      simp only [Act.put, List.getElem_toArray, List.getElem_cons_zero, List.getElem_cons_succ, List.setIfInBounds_toArray, List.set_cons_zero, List.set_cons_succ]
      refine wpAnyH_take (i := 6) (v := ?_) rfl (by kernel_rfl) (by kernel_rfl) (by kernel_rfl) (fun _ _ _ h => absurd h.1 (fun e => by cases e)) (Or.inl ⟨by rfl, ?hy7⟩) (by assumption) ?ty7
      case hy7 => (intro w5 hSw; (try dsimp only at hSw); obtain ⟨s0, s1⟩ := hSw;  go_simp; all_goals with_reducible rfl)
      simp only [Act.put, List.getElem_toArray, List.getElem_cons_zero, List.getElem_cons_succ, List.setIfInBounds_toArray, List.set_cons_zero, List.set_cons_succ]
      refine wpAnyH_take (i := 7) (v := ?_) rfl (by kernel_rfl) (by kernel_rfl) (by kernel_rfl) (fun _ _ _ h => absurd h.1 (fun e => by cases e)) (Or.inl ⟨by rfl, ?hy8⟩) (by assumption) ?ty8
      case hy8 => (intro w5 hSw; (try dsimp only at hSw); obtain ⟨s0, s1⟩ := hSw;  go_simp; all_goals with_reducible rfl)
      simp only [Act.put, List.getElem_toArray, List.getElem_cons_zero, List.getElem_cons_succ, List.setIfInBounds_toArray, List.set_cons_zero, List.set_cons_succ]
      refine wpAnyH_take (i := 8) (v := ?_) rfl (by kernel_rfl) (by kernel_rfl) (by kernel_rfl) (fun _ _ _ h => absurd h.1 (fun e => by cases e)) (Or.inl ⟨by rfl, ?hy9⟩) (by assumption) ?ty9
      case hy9 => (intro w5 hSw; (try dsimp only at hSw); obtain ⟨s0, s1⟩ := hSw;  go_simp; all_goals with_reducible rfl)
      simp only [Act.put, List.getElem_toArray, List.getElem_cons_zero, List.getElem_cons_succ, List.setIfInBounds_toArray, List.set_cons_zero, List.set_cons_succ]
      refine wpAnyH_take (i := 9) (v := .bool true) rfl (by kernel_rfl) (by kernel_rfl) (by kernel_rfl) (fun _ _ _ h => absurd h.1 (fun e => by cases e)) (Or.inl ⟨by rfl, ?hy10⟩) (by assumption) ?ty10
      case hy10 => (intro w5 hSw; (try dsimp only at hSw); obtain ⟨s0, s1⟩ := hSw;  go_simp; first | (all_goals with_reducible rfl) | (simp; done) | (simp [*]; done) | (simp; omega))
      simp only [Act.put, List.getElem_toArray, List.getElem_cons_zero, List.getElem_cons_succ, List.setIfInBounds_toArray, List.set_cons_zero, List.set_cons_succ]
      refine wpAnyH_take (i := 10) (v := ?_) rfl (by kernel_rfl) (by kernel_rfl) (by kernel_rfl) (fun _ _ _ h => absurd h.1 (fun e => by cases e)) (Or.inl ⟨by rfl, ?hy11⟩) (by assumption) ?ty11
      case hy11 => (intro w5 hSw; (try dsimp only at hSw); obtain ⟨s0, s1⟩ := hSw;  go_simp; all_goals with_reducible rfl)
      simp only [Act.put, List.getElem_toArray, List.getElem_cons_zero, List.getElem_cons_succ, List.setIfInBounds_toArray, List.set_cons_zero, List.set_cons_succ]
      refine wpAnyH_take (i := 11) (v := ?_) rfl (by kernel_rfl) (by kernel_rfl) (by kernel_rfl) (fun _ _ _ h => absurd h.1 (fun e => by cases e)) (Or.inl ⟨by rfl, ?hy12⟩) (by assumption) ?ty12
      case hy12 => (intro w5 hSw; (try dsimp only at hSw); obtain ⟨s0, s1⟩ := hSw;  go_simp; all_goals with_reducible rfl)
      simp only [Act.put, List.getElem_toArray, List.getElem_cons_zero, List.getElem_cons_succ, List.setIfInBounds_toArray, List.set_cons_zero, List.set_cons_succ]
      refine wpAnyH_take (i := 12) (v := ?_) rfl (by kernel_rfl) (by kernel_rfl) (by kernel_rfl) (fun _ _ _ h => absurd h.1 (fun e => by cases e)) (Or.inl ⟨by rfl, ?hy13⟩) (by assumption) ?ty13
      case hy13 => (intro w5 hSw; (try dsimp only at hSw); obtain ⟨s0, s1⟩ := hSw;  go_simp; all_goals with_reducible rfl)
      simp only [Act.put, List.getElem_toArray, List.getElem_cons_zero, List.getElem_cons_succ, List.setIfInBounds_toArray, List.set_cons_zero, List.set_cons_succ]
      refine wpAnyH_take (i := 15) (v := ?_) rfl (by kernel_rfl) (by kernel_rfl) (by kernel_rfl) (fun _ _ _ h => absurd h.1 (fun e => by cases e)) (Or.inl ⟨by rfl, ?hy14⟩) (by assumption) ?ty14
      case hy14 => (intro w5 hSw; (try dsimp only at hSw); obtain ⟨s0, s1⟩ := hSw;  go_simp; all_goals with_reducible rfl)
      simp only [Act.put, List.getElem_toArray, List.getElem_cons_zero, List.getElem_cons_succ, List.setIfInBounds_toArray, List.set_cons_zero, List.set_cons_succ]
      refine wpAnyH_ready (rs := [13]) (by kernel_rfl) (by simp) ?_
      refine AllReadyH.cons rfl (fun K hK => ?_) AllReadyH.nil
      go_simp
      refine (flagsTextR_any v w4 (HTF.out w4 hB4)).mono ?_
      rintro e w6 ⟨rfl, hb6⟩
      have hV6 := And.intro ((hb6.cell (p := ⟨g4, 0, none⟩) (World.block_lt_of_cell? _ _ hV4.1)).trans hV4.1) ((hb6.cell (p := ⟨g4, 1, none⟩) (World.block_lt_of_cell? _ _ hV4.2)).trans hV4.2)
      have hB6 := hB4.trans (hb6.mono hB4.size)
      rw [HPF]
      refine hK.out _ _ hV6 (fun hHeld => ?_)
      clear hK K
      refine wpAnyH_take (i := 14) (v := ?_) rfl (by kernel_rfl) (by kernel_rfl) (by kernel_rfl) (fun _ _ _ h => absurd h.1 (fun e => by cases e)) (Or.inl ⟨by rfl, ?hy15⟩) (by assumption) ?ty15
      case hy15 => (intro w5 hSw; (try dsimp only at hSw); obtain ⟨s0, s1⟩ := hSw; have hf := HT1.out; go_simp; all_goals with_reducible rfl)
      simp only [Act.put, List.getElem_toArray, List.getElem_cons_zero, List.getElem_cons_succ, List.setIfInBounds_toArray, List.set_cons_zero, List.set_cons_succ]
      refine wpAnyH_take (i := 16) (v := .bool false) rfl (by kernel_rfl) (by kernel_rfl) (by kernel_rfl) (fun _ _ _ h => absurd h.1 (fun e => by cases e)) (Or.inl ⟨by rfl, ?hy16⟩) (by assumption) ?ty16
      case hy16 => (intro w5 hSw; (try dsimp only at hSw); obtain ⟨s0, s1⟩ := hSw;  go_simp; first | (all_goals with_reducible rfl) | (simp; done) | (simp [*]; done) | (simp; omega))
      simp only [Act.put, List.getElem_toArray, List.getElem_cons_zero, List.getElem_cons_succ, List.setIfInBounds_toArray, List.set_cons_zero, List.set_cons_succ]
      refine wpAnyH_take (i := 17) (v := .bool false) rfl (by kernel_rfl) (by kernel_rfl) (by kernel_rfl) (fun _ _ _ h => absurd h.1 (fun e => by cases e)) (Or.inl ⟨by rfl, ?hy17⟩) (by assumption) ?ty17
      case hy17 => (intro w5 hSw; (try dsimp only at hSw); obtain ⟨s0, s1⟩ := hSw;  go_simp; first | (all_goals with_reducible rfl) | (simp; done) | (simp [*]; done) | (simp; omega))
      simp only [Act.put, List.getElem_toArray, List.getElem_cons_zero, List.getElem_cons_succ, List.setIfInBounds_toArray, List.set_cons_zero, List.set_cons_succ]
      refine wpAnyH_take (i := 18) (v := .bool false) rfl (by kernel_rfl) (by kernel_rfl) (by kernel_rfl) (fun _ _ _ h => absurd h.1 (fun e => by cases e)) (Or.inl ⟨by rfl, ?hy18⟩) (by assumption) ?ty18
      case hy18 => (intro w5 hSw; (try dsimp only at hSw); obtain ⟨s0, s1⟩ := hSw;  go_simp; first | (all_goals with_reducible rfl) | (simp; done) | (simp [*]; done) | (simp; omega))
      simp only [Act.put, List.getElem_toArray, List.getElem_cons_zero, List.getElem_cons_succ, List.setIfInBounds_toArray, List.set_cons_zero, List.set_cons_succ]
      refine wpAnyH_done (by kernel_rfl) ?_ _
      clear hHeld
      refine ⟨rfl, hB6, by first | kernel_rfl | rfl, by first | kernel_rfl | rfl⟩
    · clear HPF
      refine wp_region_held_drew (S := fun w' => w'.cell? ⟨g4, 0, none⟩ = some (.int .i64 c) ∧ w'.cell? ⟨g4, 1, none⟩ = some (.int .i64 v)) (by kernel_rfl) ?hS19 (fun hHeld => ?_)
      case hS19 => exact hV3
      refine wpAnyH_take (i := 0) (v := ?_) rfl (by kernel_rfl) (by kernel_rfl) (by kernel_rfl) (fun _ _ _ h => absurd h.1 (fun e => by cases e)) (Or.inl ⟨by rfl, ?hy20⟩) (by assumption) ?ty20
      case hy20 => (intro w5 hSw; (try dsimp only at hSw); obtain ⟨s0, s1⟩ := hSw;  go_simp; all_goals with_reducible rfl)
      simp only [Act.put, List.getElem_toArray, List.getElem_cons_zero, List.setIfInBounds_toArray, List.set_cons_zero, List.set_cons_succ]
      refine wpAnyH_take (i := 1) (v := ?_) rfl (by kernel_rfl) (by kernel_rfl) (by kernel_rfl) (fun _ _ _ h => absurd h.1 (fun e => by cases e)) (Or.inl ⟨by rfl, ?hy21⟩) (by assumption) ?ty21
      case hy21 => (intro w5 hSw; (try dsimp only at hSw); obtain ⟨s0, s1⟩ := hSw;  go_simp; all_goals with_reducible rfl)
      simp only [Act.put, List.getElem_toArray, List.getElem_cons_zero, List.getElem_cons_succ, List.setIfInBounds_toArray, List.set_cons_zero, List.set_cons_succ]
      refine wpAnyH_take (i := 2) (v := ?_) rfl (by kernel_rfl) (by kernel_rfl) (by kernel_rfl) (fun _ _ _ h => absurd h.1 (fun e => by cases e)) (Or.inl ⟨by rfl, ?hy22⟩) (by assumption) ?ty22
      case hy22 => (intro w5 hSw; (try dsimp only at hSw); obtain ⟨s0, s1⟩ := hSw;  go_simp; all_goals with_reducible rfl)
      simp only [Act.put, List.getElem_toArray, List.getElem_cons_zero, List.getElem_cons_succ, List.setIfInBounds_toArray, List.set_cons_zero, List.set_cons_succ]
      refine wpAnyH_ready (rs := [3]) (by kernel_rfl) (by simp) ?_
      refine AllReadyH.cons rfl (fun K hK => ?_) AllReadyH.nil
      go_simp
      refine (HSP _).mono ?_
      rintro e w4 ⟨rfl, hb4⟩
      have hb4 : Below W3.heap.size W3 w4 := (Below.refl _ _).drew.trans hb4
      have hV4 := And.intro ((hb4.cell (p := ⟨g4, 0, none⟩) hg3).trans hV3.1) ((hb4.cell (p := ⟨g4, 1, none⟩) hg3).trans hV3.2)
      have hB4 := hB3.trans (hb4.mono hB3.size)
      refine hK.out _ _ hV4 (fun hHeld => ?_)
      clear hK K
      refine wpAnyH_take (i := 4) (v := ?_) rfl (by kernel_rfl) (by kernel_rfl) (by kernel_rfl) (fun _ _ _ h => absurd h.1 (fun e => by cases e)) (Or.inl ⟨by rfl, ?hy23⟩) (by assumption) ?ty23
      case hy23 => (intro w5 hSw; (try dsimp only at hSw); obtain ⟨s0, s1⟩ := hSw; have hf := HI0.out; go_simp; all_goals with_reducible rfl)
      simp only [Act.put, List.getElem_toArray, List.getElem_cons_zero, List.getElem_cons_succ, List.setIfInBounds_toArray, List.set_cons_zero, List.set_cons_succ]
      refine wpAnyH_take (i := 5) (v := .bool false) rfl (by kernel_rfl) (by kernel_rfl) (by kernel_rfl) (fun _ _ _ h => absurd h.1 (fun e => by cases e)) (Or.inl ⟨by rfl, ?hy24⟩) (by assumption) ?ty24
      case hy24 => (intro w5 hSw; (try dsimp only at hSw); obtain ⟨s0, s1⟩ := hSw;  go_simp; first | (all_goals with_reducible rfl) | (simp; done) | (simp [*]; done) | (simp; omega))
      simp only [Act.put, List.getElem_toArray, List.getElem_cons_zero, List.getElem_cons_succ, List.setIfInBounds_toArray, List.set_cons_zero, List.set_cons_succ]
      refine wpAnyH_take (i := 6) (v := ?_) rfl (by kernel_rfl) (by kernel_rfl) (by kernel_rfl) (fun _ _ _ h => absurd h.1 (fun e => by cases e)) (Or.inl ⟨by rfl, ?hy25⟩) (by assumption) ?ty25
      case hy25 => (intro w5 hSw; (try dsimp only at hSw); obtain ⟨s0, s1⟩ := hSw;  go_simp; all_goals with_reducible rfl)
      simp only [Act.put, List.getElem_toArray, List.getElem_cons_zero, List.getElem_cons_succ, List.setIfInBounds_toArray, List.set_cons_zero, List.set_cons_succ]
      refine wpAnyH_take (i := 7) (v := ?_) rfl (by kernel_rfl) (by kernel_rfl) (by kernel_rfl) (fun _ _ _ h => absurd h.1 (fun e => by cases e)) (Or.inl ⟨by rfl, ?hy26⟩) (by assumption) ?ty26
      case hy26 => (intro w5 hSw; (try dsimp only at hSw); obtain ⟨s0, s1⟩ := hSw;  go_simp; all_goals with_reducible rfl)
      simp only [Act.put, List.getElem_toArray, List.getElem_cons_zero, List.getElem_cons_succ, List.setIfInBounds_toArray, List.set_cons_zero, List.set_cons_succ]
      refine wpAnyH_take (i := 8) (v := ?_) rfl (by kernel_rfl) (by kernel_rfl) (by kernel_rfl) (fun _ _ _ h => absurd h.1 (fun e => by cases e)) (Or.inl ⟨by rfl, ?hy27⟩) (by assumption) ?ty27
      case hy27 => (intro w5 hSw; (try dsimp only at hSw); obtain ⟨s0, s1⟩ := hSw;  go_simp; all_goals with_reducible rfl)
      simp only [Act.put, List.getElem_toArray, List.getElem_cons_zero, List.getElem_cons_succ, List.setIfInBounds_toArray, List.set_cons_zero, List.set_cons_succ]
      refine wpAnyH_take (i := 9) (v := .bool false) rfl (by kernel_rfl) (by kernel_rfl) (by kernel_rfl) (fun _ _ _ h => absurd h.1 (fun e => by cases e)) (Or.inl ⟨by rfl, ?hy28⟩) (by assumption) ?ty28
      case hy28 => (intro w5 hSw; (try dsimp only at hSw); obtain ⟨s0, s1⟩ := hSw;  go_simp; first | (all_goals with_reducible rfl) | (simp; done) | (simp [*]; done) | (simp; omega))
      simp only [Act.put, List.getElem_toArray, List.getElem_cons_zero, List.getElem_cons_succ, List.setIfInBounds_toArray, List.set_cons_zero, List.set_cons_succ]
      refine wpAnyH_take (i := 10) (v := ?_) rfl (by kernel_rfl) (by kernel_rfl) (by kernel_rfl) (fun _ _ _ h => absurd h.1 (fun e => by cases e)) (Or.inl ⟨by rfl, ?hy29⟩) (by assumption) ?ty29
      case hy29 => (intro w5 hSw; (try dsimp only at hSw); obtain ⟨s0, s1⟩ := hSw;  go_simp; all_goals with_reducible rfl)
      simp only [Act.put, List.getElem_toArray, List.getElem_cons_zero, List.getElem_cons_succ, List.setIfInBounds_toArray, List.set_cons_zero, List.set_cons_succ]
      refine wpAnyH_take (i := 11) (v := undef) rfl (by kernel_rfl) (by kernel_rfl) (by kernel_rfl) (fun _ _ _ h => absurd h.1 (fun e => by cases e)) (Or.inr ⟨by rfl, rfl⟩) (by assumption) ?_
      simp only [Act.put, List.getElem_toArray, List.getElem_cons_zero, List.getElem_cons_succ, List.setIfInBounds_toArray, List.set_cons_zero, List.set_cons_succ]
      refine wpAnyH_take (i := 12) (v := undef) rfl (by kernel_rfl) (by kernel_rfl) (by kernel_rfl) (fun _ _ _ h => absurd h.1 (fun e => by cases e)) (Or.inr ⟨by rfl, rfl⟩) (by assumption) ?_
      simp only [Act.put, List.getElem_toArray, List.getElem_cons_zero, List.getElem_cons_succ, List.setIfInBounds_toArray, List.set_cons_zero, List.set_cons_succ]
      refine wpAnyH_take (i := 13) (v := undef) rfl (by kernel_rfl) (by kernel_rfl) (by kernel_rfl) (fun _ _ _ h => absurd h.1 (fun e => by cases e)) (Or.inr ⟨by rfl, rfl⟩) (by assumption) ?_
      simp only [Act.put, List.getElem_toArray, List.getElem_cons_zero, List.getElem_cons_succ, List.setIfInBounds_toArray, List.set_cons_zero, List.set_cons_succ]
      refine wpAnyH_take (i := 14) (v := undef) rfl (by kernel_rfl) (by kernel_rfl) (by kernel_rfl) (fun _ _ _ h => absurd h.1 (fun e => by cases e)) (Or.inr ⟨by rfl, rfl⟩) (by assumption) ?_
      simp only [Act.put, List.getElem_toArray, List.getElem_cons_zero, List.getElem_cons_succ, List.setIfInBounds_toArray, List.set_cons_zero, List.set_cons_succ]
      refine wpAnyH_take (i := 15) (v := undef) rfl (by kernel_rfl) (by kernel_rfl) (by kernel_rfl) (fun _ _ _ h => absurd h.1 (fun e => by cases e)) (Or.inr ⟨by rfl, rfl⟩) (by assumption) ?_
      simp only [Act.put, List.getElem_toArray, List.getElem_cons_zero, List.getElem_cons_succ, List.setIfInBounds_toArray, List.set_cons_zero, List.set_cons_succ]
      refine wpAnyH_take (i := 16) (v := undef) rfl (by kernel_rfl) (by kernel_rfl) (by kernel_rfl) (fun _ _ _ h => absurd h.1 (fun e => by cases e)) (Or.inr ⟨by rfl, rfl⟩) (by assumption) ?_
      simp only [Act.put, List.getElem_toArray, List.getElem_cons_zero, List.getElem_cons_succ, List.setIfInBounds_toArray, List.set_cons_zero, List.set_cons_succ]
      refine wpAnyH_take (i := 17) (v := .bool false) rfl (by kernel_rfl) (by kernel_rfl) (by kernel_rfl) (fun _ _ _ h => absurd h.1 (fun e => by cases e)) (Or.inl ⟨by rfl, ?hy30⟩) (by assumption) ?ty30
      case hy30 => (intro w5 hSw; (try dsimp only at hSw); obtain ⟨s0, s1⟩ := hSw;  go_simp; first | (all_goals with_reducible rfl) | (simp; done) | (simp [*]; done) | (simp; omega))
      simp only [Act.put, List.getElem_toArray, List.getElem_cons_zero, List.getElem_cons_succ, List.setIfInBounds_toArray, List.set_cons_zero, List.set_cons_succ]
      refine wpAnyH_take (i := 18) (v := .bool false) rfl (by kernel_rfl) (by kernel_rfl) (by kernel_rfl) (fun _ _ _ h => absurd h.1 (fun e => by cases e)) (Or.inl ⟨by rfl, ?hy31⟩) (by assumption) ?ty31
      case hy31 => (intro w5 hSw; (try dsimp only at hSw); obtain ⟨s0, s1⟩ := hSw;  go_simp; first | (all_goals with_reducible rfl) | (simp; done) | (simp [*]; done) | (simp; omega))
      simp only [Act.put, List.getElem_toArray, List.getElem_cons_zero, List.getElem_cons_succ, List.setIfInBounds_toArray, List.set_cons_zero, List.set_cons_succ]
      refine wpAnyH_done (by kernel_rfl) ?_ _
      clear hHeld
      refine ⟨rfl, hB4, by first | kernel_rfl | rfl, by first | kernel_rfl | rfl⟩
  obtain - | ⟨x0, vs⟩ := vs
  · simp at hlv
  obtain - | ⟨x1, vs⟩ := vs
  · simp at hlv
  obtain - | ⟨x2, vs⟩ := vs
  · simp at hlv
  obtain - | ⟨x3, vs⟩ := vs
  · simp at hlv
  obtain - | ⟨x4, vs⟩ := vs
  · simp at hlv
  obtain - | ⟨x5, vs⟩ := vs
  · simp at hlv
  obtain - | ⟨x6, vs⟩ := vs
  · simp at hlv
  obtain - | ⟨x7, vs⟩ := vs
  · simp at hlv
  obtain - | ⟨x8, vs⟩ := vs
  · simp at hlv
  obtain - | ⟨x9, vs⟩ := vs
  · simp at hlv
  obtain - | ⟨x10, vs⟩ := vs
  · simp at hlv
  obtain - | ⟨x11, vs⟩ := vs
  · simp at hlv
  obtain - | ⟨x12, vs⟩ := vs
  · simp at hlv
  obtain - | ⟨x13, vs⟩ := vs
  · simp at hlv
  obtain - | ⟨x14, vs⟩ := vs
  · simp at hlv
  obtain - | ⟨x15, vs⟩ := vs
  · simp at hlv
  obtain - | ⟨x16, vs⟩ := vs
  · simp at hlv
  obtain - | ⟨x17, vs⟩ := vs
  · simp at hlv
  obtain - | ⟨x18, vs⟩ := vs
  · simp at hlv
  obtain - | ⟨y, vs⟩ := vs
  rotate_left
  · simp at hlv
  have hfv : x18 = .bool false := by simpa using hfv
  subst hfv
  clear hlv
  simp only [putAll, Act.put, List.setIfInBounds_toArray, List.set_cons_zero, List.set_cons_succ]
  clear hg3 hB3 HSP HPF
  go_wp2_with fail
  refine (HDB.out W (HRD.out W hBW)).mono ?_
  rintro e w5 ⟨x, q, bl, nm, rfl, hx5, hft, hb5⟩
  obtain ⟨sa, sn, sc⟩ := q
  dsimp only [slW] at hx5 ⊢
  have hB5 := hBW.trans (hb5.mono hBW.size)
  generalize W.heap.size = lo5 at hx5
  have hbA : Below w5.heap.size w5 (w5.alloc (.cells #[.int .i64 x, .slice sa sn sc] 33)) := (Below.refl _ _).alloc (Nat.le_refl _) _
  have hV5 := Dc.new w5 (.int .i64 x) (.slice sa sn sc) 33
  have hx6 := hx5.below hbA
  have hB6 := hB5.trans (hbA.mono hB5.size)
  clear hx5 hB5 hbA hb5 hBW
  go_wp2_with fail
  generalize w5.alloc (.cells #[.int .i64 x, .slice sa sn sc] 33) = W6 at *
  generalize w5.heap.size = g5 at *
  refine (boxOf_any x (sa, sn, sc) bl nm W6 hx6 hft).mono ?_
  rintro e w7 ⟨rfl, hb7⟩
  have hV5 := hV5.below hb7 hV5.lt
  have hx7 := hx6.below hb7
  have hB7 := hB6.trans (hb7.mono hB6.size)
  have HBO := bo_in (v := x) (l := bl) (nm := nm)
  have HSB : Hid (∀ w' : World, IsXs lo5 w' (sa, sn, sc) bl → Calls Tryd.prog 12 #[.agg #[.int .i64 x, slW (sa, sn, sc)], .string nm] w' fun e w'' => e = .returned (.agg #[.int .i64 (boV x bl nm).1, .int .i64 (boV x bl nm).2]) ∧ Below w'.heap.size w' w'') := fun w' h => specBoxOf_any x (sa, sn, sc) bl nm w' h hft
  generalize boV x bl nm = pv at *
  obtain ⟨c9, v9⟩ := pv
  dsimp only [slW] at HBO HSB ⊢
  have hbB : Below w7.heap.size w7 (w7.alloc (.cells #[.int .i64 c9, .int .i64 v9] 26)) := (Below.refl _ _).alloc (Nat.le_refl _) _
  have hV7 := Dc.new w7 (.int .i64 c9) (.int .i64 v9) 26
  have hV5 := hV5.below hbB hV5.lt
  have hx := hx7.below hbB
  have hB7 := hB7.trans (hbB.mono hB7.size)
  clear hx6 hx7 hB6 hb7 hbB
  go_wp2_with fail
  generalize w7.alloc (.cells #[.int .i64 c9, .int .i64 v9] 26) = W7 at *
  generalize w7.heap.size = g7 at *
  refine wp_meet [46, 47, 48, 49, 50, 51, 52, 53, 54, 55, 56, 57, 58, 59, 60, 61, 62, 63, 64, 65, 66, 67, 68, 69, 70, 71, 72, 73, 74, 75, 76, 77, 78, 79, 80, 81] (fun w' => Below w.heap.size w w') ?hm46 (fun vs W hlv hfv hBW => ?_)
  case hm46 =>
    by_cases hc9 : c9 = 0
    · subst hc9
      obtain ⟨i, rfl, hil, hnmi⟩ := HBO rfl
      obtain ⟨gb, off, rfl, -, hgb, hcell⟩ := hx.2.2.2.at_ (by omega)
      obtain ⟨qq, ⟨hnm, -⟩, -⟩ := hcell i hil
      rw [hnmi] at hnm
      have hi1 : i < sn := by have h := hx.1; dsimp only at h; omega
      have hi2 : (i : Int) < (sn : Int) := by omega
      have hi3 : ¬ (i : Int) < 0 := by omega
      have hi4 : ¬ (sn : Int) ≤ (i : Int) := by omega
      have hi5 : ¬ sn ≤ i := by omega
      refine wp_region_held_drew (S := fun w' => (Dc w' g7 (.int .i64 0, .int .i64 (i : Int)) ∧ Dc w' g5 (.int .i64 x, .slice (some ⟨gb, off, none⟩) sn sc)) ∧ w'.cell? ⟨gb, off + i * 4, none⟩ = some (.string nm)) (by kernel_rfl) ?hS32 (fun hHeld => ?_)
      case hS32 => exact ⟨⟨hV7, hV5⟩, hnm⟩
      refine wpAnyH_take (i := 0) (v := ?_) rfl (by kernel_rfl) (by kernel_rfl) (by kernel_rfl) (fun _ _ _ h => absurd h.1 (fun e => by cases e)) (Or.inl ⟨by rfl, ?hy33⟩) (by assumption) ?ty33
      case hy33 => (intro w5 hSw; (try dsimp only at hSw); obtain ⟨⟨⟨s0, s1⟩, t0, t1⟩, q0⟩ := hSw; dsimp only at s0 s1 t0 t1; go_simp; all_goals with_reducible rfl)
      simp only [Act.put, List.getElem_toArray, List.getElem_cons_zero, List.setIfInBounds_toArray, List.set_cons_zero, List.set_cons_succ]
      refine wpAnyH_take (i := 1) (v := ?_) rfl (by kernel_rfl) (by kernel_rfl) (by kernel_rfl) (fun _ _ _ h => absurd h.1 (fun e => by cases e)) (Or.inl ⟨by rfl, ?hy34⟩) (by assumption) ?ty34
      case hy34 => (intro w5 hSw; (try dsimp only at hSw); obtain ⟨⟨⟨s0, s1⟩, t0, t1⟩, q0⟩ := hSw; dsimp only at s0 s1 t0 t1; go_simp; all_goals with_reducible rfl)
      simp only [Act.put, List.getElem_toArray, List.getElem_cons_zero, List.getElem_cons_succ, List.setIfInBounds_toArray, List.set_cons_zero, List.set_cons_succ]
      refine wpAnyH_take (i := 2) (v := ?_) rfl (by kernel_rfl) (by kernel_rfl) (by kernel_rfl) (fun _ _ _ h => absurd h.1 (fun e => by cases e)) (Or.inl ⟨by rfl, ?hy35⟩) (by assumption) ?ty35
      case hy35 => (intro w5 hSw; (try dsimp only at hSw); obtain ⟨⟨⟨s0, s1⟩, t0, t1⟩, q0⟩ := hSw; dsimp only at s0 s1 t0 t1; go_simp; all_goals with_reducible rfl)
      simp only [Act.put, List.getElem_toArray, List.getElem_cons_zero, List.getElem_cons_succ, List.setIfInBounds_toArray, List.set_cons_zero, List.set_cons_succ]
      refine wpAnyH_take (i := 3) (v := ?_) rfl (by kernel_rfl) (by kernel_rfl) (by kernel_rfl) (fun _ _ _ h => absurd h.1 (fun e => by cases e)) (Or.inl ⟨by rfl, ?hy36⟩) (by assumption) ?ty36
      case hy36 => (intro w5 hSw; (try dsimp only at hSw); obtain ⟨⟨⟨s0, s1⟩, t0, t1⟩, q0⟩ := hSw; dsimp only at s0 s1 t0 t1; go_simp; all_goals with_reducible rfl)
      simp only [Act.put, List.getElem_toArray, List.getElem_cons_zero, List.getElem_cons_succ, List.setIfInBounds_toArray, List.set_cons_zero, List.set_cons_succ]
      refine wpAnyH_ready (rs := [4]) (by kernel_rfl) (by simp) ?_
      refine AllReadyH.cons rfl (fun K hK => ?_) AllReadyH.nil
      go_simp
      refine (HSB.out _ (hx.below ((Below.refl _ _).drew))).mono ?_
      rintro e wa ⟨rfl, hba⟩
      have hba : Below W7.heap.size W7 wa := (Below.refl _ _).drew.trans hba
      have hV7a := hV7.below hba hV7.lt
      have hV5a := hV5.below hba hV5.lt
      have hBa := hB7.trans (hba.mono hB7.size)
      have hnma := (hba.cell (p := ⟨gb, off + i * 4, none⟩) (World.block_lt_of_cell? _ _ hnm)).trans hnm
      refine hK.out _ _ ⟨⟨hV7a, hV5a⟩, hnma⟩ (fun hHeld => ?_)
      clear hK K
      refine wpAnyH_take (i := 5) (v := ?_) rfl (by kernel_rfl) (by kernel_rfl) (by kernel_rfl) (fun _ _ _ h => absurd h.1 (fun e => by cases e)) (Or.inl ⟨by rfl, ?hy37⟩) (by assumption) ?ty37
      case hy37 => (intro w5 hSw; (try dsimp only at hSw); obtain ⟨⟨⟨s0, s1⟩, t0, t1⟩, q0⟩ := hSw; dsimp only at s0 s1 t0 t1;have hf := HI0.out; go_simp; all_goals with_reducible rfl)
      simp only [Act.put, List.getElem_toArray, List.getElem_cons_zero, List.getElem_cons_succ, List.setIfInBounds_toArray, List.set_cons_zero, List.set_cons_succ]
      refine wpAnyH_take (i := 6) (v := .bool false) rfl (by kernel_rfl) (by kernel_rfl) (by kernel_rfl) (fun _ _ _ h => absurd h.1 (fun e => by cases e)) (Or.inl ⟨by rfl, ?hy38⟩) (by assumption) ?ty38
      case hy38 => (intro w5 hSw; (try dsimp only at hSw); obtain ⟨⟨⟨s0, s1⟩, t0, t1⟩, q0⟩ := hSw; dsimp only at s0 s1 t0 t1; go_simp; first | (all_goals with_reducible rfl) | (simp; done) | (simp [*]; done) | (simp; omega))
      simp only [Act.put, List.getElem_toArray, List.getElem_cons_zero, List.getElem_cons_succ, List.setIfInBounds_toArray, List.set_cons_zero, List.set_cons_succ]
      refine wpAnyH_take (i := 7) (v := ?_) rfl (by kernel_rfl) (by kernel_rfl) (by kernel_rfl) (fun _ _ _ h => absurd h.1 (fun e => by cases e)) (Or.inl ⟨by rfl, ?hy39⟩) (by assumption) ?ty39
      case hy39 => (intro w5 hSw; (try dsimp only at hSw); obtain ⟨⟨⟨s0, s1⟩, t0, t1⟩, q0⟩ := hSw; dsimp only at s0 s1 t0 t1; go_simp; all_goals with_reducible rfl)
      simp only [Act.put, List.getElem_toArray, List.getElem_cons_zero, List.getElem_cons_succ, List.setIfInBounds_toArray, List.set_cons_zero, List.set_cons_succ]
      refine wpAnyH_take (i := 8) (v := ?_) rfl (by kernel_rfl) (by kernel_rfl) (by kernel_rfl) (fun _ _ _ h => absurd h.1 (fun e => by cases e)) (Or.inl ⟨by rfl, ?hy40⟩) (by assumption) ?ty40
      case hy40 => (intro w5 hSw; (try dsimp only at hSw); obtain ⟨⟨⟨s0, s1⟩, t0, t1⟩, q0⟩ := hSw; dsimp only at s0 s1 t0 t1; go_simp; all_goals with_reducible rfl)
      simp only [Act.put, List.getElem_toArray, List.getElem_cons_zero, List.getElem_cons_succ, List.setIfInBounds_toArray, List.set_cons_zero, List.set_cons_succ]
      refine wpAnyH_take (i := 9) (v := ?_) rfl (by kernel_rfl) (by kernel_rfl) (by kernel_rfl) (fun _ _ _ h => absurd h.1 (fun e => by cases e)) (Or.inl ⟨by rfl, ?hy41⟩) (by assumption) ?ty41
      case hy41 => (intro w5 hSw; (try dsimp only at hSw); obtain ⟨⟨⟨s0, s1⟩, t0, t1⟩, q0⟩ := hSw; dsimp only at s0 s1 t0 t1; go_simp; all_goals with_reducible rfl)
      simp only [Act.put, List.getElem_toArray, List.getElem_cons_zero, List.getElem_cons_succ, List.setIfInBounds_toArray, List.set_cons_zero, List.set_cons_succ]
      refine wpAnyH_take (i := 10) (v := .bool true) rfl (by kernel_rfl) (by kernel_rfl) (by kernel_rfl) (fun _ _ _ h => absurd h.1 (fun e => by cases e)) (Or.inl ⟨by rfl, ?hy42⟩) (by assumption) ?ty42
      case hy42 => (intro w5 hSw; (try dsimp only at hSw); obtain ⟨⟨⟨s0, s1⟩, t0, t1⟩, q0⟩ := hSw; dsimp only at s0 s1 t0 t1; go_simp; first | (all_goals with_reducible rfl) | (simp; done) | (simp [*]; done) | (simp; omega))
      simp only [Act.put, List.getElem_toArray, List.getElem_cons_zero, List.getElem_cons_succ, List.setIfInBounds_toArray, List.set_cons_zero, List.set_cons_succ]
      refine wpAnyH_take (i := 11) (v := ?_) rfl (by kernel_rfl) (by kernel_rfl) (by kernel_rfl) (fun _ _ _ h => absurd h.1 (fun e => by cases e)) (Or.inl ⟨by rfl, ?hy43⟩) (by assumption) ?ty43
      case hy43 => (intro w5 hSw; (try dsimp only at hSw); obtain ⟨⟨⟨s0, s1⟩, t0, t1⟩, q0⟩ := hSw; dsimp only at s0 s1 t0 t1; go_simp; all_goals with_reducible rfl)
      simp only [Act.put, List.getElem_toArray, List.getElem_cons_zero, List.getElem_cons_succ, List.setIfInBounds_toArray, List.set_cons_zero, List.set_cons_succ]
      refine wpAnyH_take (i := 12) (v := ?_) rfl (by kernel_rfl) (by kernel_rfl) (by kernel_rfl) (fun _ _ _ h => absurd h.1 (fun e => by cases e)) (Or.inl ⟨by rfl, ?hy44⟩) (by assumption) ?ty44
      case hy44 => (intro w5 hSw; (try dsimp only at hSw); obtain ⟨⟨⟨s0, s1⟩, t0, t1⟩, q0⟩ := hSw; dsimp only at s0 s1 t0 t1; go_simp; all_goals with_reducible rfl)
      simp only [Act.put, List.getElem_toArray, List.getElem_cons_zero, List.getElem_cons_succ, List.setIfInBounds_toArray, List.set_cons_zero, List.set_cons_succ]
      refine wpAnyH_take (i := 13) (v := ?_) rfl (by kernel_rfl) (by kernel_rfl) (by kernel_rfl) (fun _ _ _ h => absurd h.1 (fun e => by cases e)) (Or.inl ⟨by rfl, ?hy45⟩) (by assumption) ?ty45
      case hy45 => (intro w5 hSw; (try dsimp only at hSw); obtain ⟨⟨⟨s0, s1⟩, t0, t1⟩, q0⟩ := hSw; dsimp only at s0 s1 t0 t1; go_simp; all_goals with_reducible rfl)
      simp only [Act.put, List.getElem_toArray, List.getElem_cons_zero, List.getElem_cons_succ, List.setIfInBounds_toArray, List.set_cons_zero, List.set_cons_succ]
      refine wpAnyH_take (i := 14) (v := .bool false) rfl (by kernel_rfl) (by kernel_rfl) (by kernel_rfl) (fun _ _ _ h => absurd h.1 (fun e => by cases e)) (Or.inl ⟨by rfl, ?hy46⟩) (by assumption) ?ty46
      case hy46 => (intro w5 hSw; (try dsimp only at hSw); obtain ⟨⟨⟨s0, s1⟩, t0, t1⟩, q0⟩ := hSw; dsimp only at s0 s1 t0 t1; go_simp; first | (all_goals with_reducible rfl) | (simp; done) | (simp [*]; done) | (simp; omega))
      simp only [Act.put, List.getElem_toArray, List.getElem_cons_zero, List.getElem_cons_succ, List.setIfInBounds_toArray, List.set_cons_zero, List.set_cons_succ]
      refine wpAnyH_take (i := 15) (v := ?_) rfl (by kernel_rfl) (by kernel_rfl) (by kernel_rfl) (fun _ _ _ h => absurd h.1 (fun e => by cases e)) (Or.inl ⟨by rfl, ?hy47⟩) (by assumption) ?ty47
      case hy47 => (intro w5 hSw; (try dsimp only at hSw); obtain ⟨⟨⟨s0, s1⟩, t0, t1⟩, q0⟩ := hSw; dsimp only at s0 s1 t0 t1; go_simp; all_goals with_reducible rfl)
      simp only [Act.put, List.getElem_toArray, List.getElem_cons_zero, List.getElem_cons_succ, List.setIfInBounds_toArray, List.set_cons_zero, List.set_cons_succ]
      refine wpAnyH_take (i := 16) (v := ?_) rfl (by kernel_rfl) (by kernel_rfl) (by kernel_rfl) (fun _ _ _ h => absurd h.1 (fun e => by cases e)) (Or.inl ⟨by rfl, ?hy48⟩) (by assumption) ?ty48
      case hy48 => (intro w5 hSw; (try dsimp only at hSw); obtain ⟨⟨⟨s0, s1⟩, t0, t1⟩, q0⟩ := hSw; dsimp only at s0 s1 t0 t1; go_simp; all_goals with_reducible rfl)
      simp only [Act.put, List.getElem_toArray, List.getElem_cons_zero, List.getElem_cons_succ, List.setIfInBounds_toArray, List.set_cons_zero, List.set_cons_succ]
      refine wpAnyH_take (i := 17) (v := ?_) rfl (by kernel_rfl) (by kernel_rfl) (by kernel_rfl) (fun _ _ _ h => absurd h.1 (fun e => by cases e)) (Or.inl ⟨by rfl, ?hy49⟩) (by assumption) ?ty49
      case hy49 => (intro w5 hSw; (try dsimp only at hSw); obtain ⟨⟨⟨s0, s1⟩, t0, t1⟩, q0⟩ := hSw; dsimp only at s0 s1 t0 t1; go_simp; all_goals with_reducible rfl)
      simp only [Act.put, List.getElem_toArray, List.getElem_cons_zero, List.getElem_cons_succ, List.setIfInBounds_toArray, List.set_cons_zero, List.set_cons_succ]
      refine wpAnyH_take (i := 18) (v := ?_) rfl (by kernel_rfl) (by kernel_rfl) (by kernel_rfl) (fun _ _ _ h => absurd h.1 (fun e => by cases e)) (Or.inl ⟨by rfl, ?hy50⟩) (by assumption) ?ty50
      case hy50 => (intro w5 hSw; (try dsimp only at hSw); obtain ⟨⟨⟨s0, s1⟩, t0, t1⟩, q0⟩ := hSw; dsimp only at s0 s1 t0 t1; go_simp; all_goals with_reducible rfl)
      simp only [Act.put, List.getElem_toArray, List.getElem_cons_zero, List.getElem_cons_succ, List.setIfInBounds_toArray, List.set_cons_zero, List.set_cons_succ]
      refine wpAnyH_take (i := 19) (v := ?_) rfl (by kernel_rfl) (by kernel_rfl) (by kernel_rfl) (fun _ _ _ h => absurd h.1 (fun e => by cases e)) (Or.inl ⟨by rfl, ?hy51⟩) (by assumption) ?ty51
      case hy51 => (intro w5 hSw; (try dsimp only at hSw); obtain ⟨⟨⟨s0, s1⟩, t0, t1⟩, q0⟩ := hSw; dsimp only at s0 s1 t0 t1; go_simp; all_goals with_reducible rfl)
      simp only [Act.put, List.getElem_toArray, List.getElem_cons_zero, List.getElem_cons_succ, List.setIfInBounds_toArray, List.set_cons_zero, List.set_cons_succ]
      refine wpAnyH_take (i := 20) (v := ?_) rfl (by kernel_rfl) (by kernel_rfl) (by kernel_rfl) (fun _ _ _ h => absurd h.1 (fun e => by cases e)) (Or.inl ⟨by rfl, ?hy52⟩) (by assumption) ?ty52
      case hy52 => (intro w5 hSw; (try dsimp only at hSw); obtain ⟨⟨⟨s0, s1⟩, t0, t1⟩, q0⟩ := hSw; dsimp only at s0 s1 t0 t1; go_simp; all_goals with_reducible rfl)
      simp only [Act.put, List.getElem_toArray, List.getElem_cons_zero, List.getElem_cons_succ, List.setIfInBounds_toArray, List.set_cons_zero, List.set_cons_succ]
      refine wpAnyH_take (i := 21) (v := .bool false) rfl (by kernel_rfl) (by kernel_rfl) (by kernel_rfl) (fun _ _ _ h => absurd h.1 (fun e => by cases e)) (Or.inl ⟨by rfl, ?hy53⟩) (by assumption) ?ty53
      case hy53 => (intro w5 hSw; (try dsimp only at hSw); obtain ⟨⟨⟨s0, s1⟩, t0, t1⟩, q0⟩ := hSw; dsimp only at s0 s1 t0 t1; go_simp; first | (all_goals with_reducible rfl) | (simp; done) | (simp [*]; done) | (simp; omega))
      simp only [Act.put, List.getElem_toArray, List.getElem_cons_zero, List.getElem_cons_succ, List.setIfInBounds_toArray, List.set_cons_zero, List.set_cons_succ]
      refine wpAnyH_take (i := 22) (v := .bool false) rfl (by kernel_rfl) (by kernel_rfl) (by kernel_rfl) (fun _ _ _ h => absurd h.1 (fun e => by cases e)) (Or.inl ⟨by rfl, ?hy54⟩) (by assumption) ?ty54
      case hy54 => (intro w5 hSw; (try dsimp only at hSw); obtain ⟨⟨⟨s0, s1⟩, t0, t1⟩, q0⟩ := hSw; dsimp only at s0 s1 t0 t1; go_simp; first | (all_goals with_reducible rfl) | (simp; done) | (simp [*]; done) | (simp; omega))
      simp only [Act.put, List.getElem_toArray, List.getElem_cons_zero, List.getElem_cons_succ, List.setIfInBounds_toArray, List.set_cons_zero, List.set_cons_succ]
      refine wpAnyH_take (i := 23) (v := ?_) rfl (by kernel_rfl) (by kernel_rfl) (by kernel_rfl) (fun _ _ _ h => absurd h.1 (fun e => by cases e)) (Or.inl ⟨by rfl, ?hy55⟩) (by assumption) ?ty55
      case hy55 => (intro w5 hSw; (try dsimp only at hSw); obtain ⟨⟨⟨s0, s1⟩, t0, t1⟩, q0⟩ := hSw; dsimp only at s0 s1 t0 t1; go_simp; all_goals with_reducible rfl)
      simp only [Act.put, List.getElem_toArray, List.getElem_cons_zero, List.getElem_cons_succ, List.setIfInBounds_toArray, List.set_cons_zero, List.set_cons_succ]
      refine wpAnyH_take (i := 24) (v := ?_) rfl (by kernel_rfl) (by kernel_rfl) (by kernel_rfl) (fun _ _ _ h => absurd h.1 (fun e => by cases e)) (Or.inl ⟨by rfl, ?hy56⟩) (by assumption) ?ty56
      case hy56 => (intro w5 hSw; (try dsimp only at hSw); obtain ⟨⟨⟨s0, s1⟩, t0, t1⟩, q0⟩ := hSw; dsimp only at s0 s1 t0 t1; go_simp; all_goals with_reducible rfl)
      simp only [Act.put, List.getElem_toArray, List.getElem_cons_zero, List.getElem_cons_succ, List.setIfInBounds_toArray, List.set_cons_zero, List.set_cons_succ]
      refine wpAnyH_take (i := 25) (v := ?_) rfl (by kernel_rfl) (by kernel_rfl) (by kernel_rfl) (fun _ _ _ h => absurd h.1 (fun e => by cases e)) (Or.inl ⟨by rfl, ?hy57⟩) (by assumption) ?ty57
      case hy57 => (intro w5 hSw; (try dsimp only at hSw); obtain ⟨⟨⟨s0, s1⟩, t0, t1⟩, q0⟩ := hSw; dsimp only at s0 s1 t0 t1; go_simp; all_goals with_reducible rfl)
      simp only [Act.put, List.getElem_toArray, List.getElem_cons_zero, List.getElem_cons_succ, List.setIfInBounds_toArray, List.set_cons_zero, List.set_cons_succ]
      refine wpAnyH_take (i := 26) (v := ?_) rfl (by kernel_rfl) (by kernel_rfl) (by kernel_rfl) (fun _ _ _ h => absurd h.1 (fun e => by cases e)) (Or.inl ⟨by rfl, ?hy58⟩) (by assumption) ?ty58
      case hy58 => (intro w5 hSw; (try dsimp only at hSw); obtain ⟨⟨⟨s0, s1⟩, t0, t1⟩, q0⟩ := hSw; dsimp only at s0 s1 t0 t1; go_simp; all_goals with_reducible rfl)
      simp only [Act.put, List.getElem_toArray, List.getElem_cons_zero, List.getElem_cons_succ, List.setIfInBounds_toArray, List.set_cons_zero, List.set_cons_succ]
      refine wpAnyH_take (i := 27) (v := ?_) rfl (by kernel_rfl) (by kernel_rfl) (by kernel_rfl) (fun _ _ _ h => absurd h.1 (fun e => by cases e)) (Or.inl ⟨by rfl, ?hy59⟩) (by assumption) ?ty59
      case hy59 => (intro w5 hSw; (try dsimp only at hSw); obtain ⟨⟨⟨s0, s1⟩, t0, t1⟩, q0⟩ := hSw; dsimp only at s0 s1 t0 t1; go_simp; all_goals with_reducible rfl)
      simp only [Act.put, List.getElem_toArray, List.getElem_cons_zero, List.getElem_cons_succ, List.setIfInBounds_toArray, List.set_cons_zero, List.set_cons_succ]
      refine wpAnyH_take (i := 28) (v := ?_) rfl (by kernel_rfl) (by kernel_rfl) (by kernel_rfl) (fun _ _ _ h => absurd h.1 (fun e => by cases e)) (Or.inl ⟨by rfl, ?hy60⟩) (by assumption) ?ty60
      case hy60 => (intro w5 hSw; (try dsimp only at hSw); obtain ⟨⟨⟨s0, s1⟩, t0, t1⟩, q0⟩ := hSw; dsimp only at s0 s1 t0 t1; go_simp; all_goals with_reducible rfl)
      simp only [Act.put, List.getElem_toArray, List.getElem_cons_zero, List.getElem_cons_succ, List.setIfInBounds_toArray, List.set_cons_zero, List.set_cons_succ]
      refine wpAnyH_take (i := 29) (v := ?_) rfl (by kernel_rfl) (by kernel_rfl) (by kernel_rfl) (fun _ _ _ h => absurd h.1 (fun e => by cases e)) (Or.inl ⟨by rfl, ?hy61⟩) (by assumption) ?ty61
      case hy61 => (intro w5 hSw; (try dsimp only at hSw); obtain ⟨⟨⟨s0, s1⟩, t0, t1⟩, q0⟩ := hSw; dsimp only at s0 s1 t0 t1; go_simp; all_goals with_reducible rfl)
      simp only [Act.put, List.getElem_toArray, List.getElem_cons_zero, List.getElem_cons_succ, List.setIfInBounds_toArray, List.set_cons_zero, List.set_cons_succ]
      refine wpAnyH_take (i := 30) (v := ?_) rfl (by kernel_rfl) (by kernel_rfl) (by kernel_rfl) (fun _ _ _ h => absurd h.1 (fun e => by cases e)) (Or.inl ⟨by rfl, ?hy62⟩) (by assumption) ?ty62
      case hy62 => (intro w5 hSw; (try dsimp only at hSw); obtain ⟨⟨⟨s0, s1⟩, t0, t1⟩, q0⟩ := hSw; dsimp only at s0 s1 t0 t1; go_simp; all_goals with_reducible rfl)
      simp only [Act.put, List.getElem_toArray, List.getElem_cons_zero, List.getElem_cons_succ, List.setIfInBounds_toArray, List.set_cons_zero, List.set_cons_succ]
      refine wpAnyH_take (i := 31) (v := ?_) rfl (by kernel_rfl) (by kernel_rfl) (by kernel_rfl) (fun _ _ _ h => absurd h.1 (fun e => by cases e)) (Or.inl ⟨by rfl, ?hy63⟩) (by assumption) ?ty63
      case hy63 => (intro w5 hSw; (try dsimp only at hSw); obtain ⟨⟨⟨s0, s1⟩, t0, t1⟩, q0⟩ := hSw; dsimp only at s0 s1 t0 t1; go_simp; all_goals with_reducible rfl)
      simp only [Act.put, List.getElem_toArray, List.getElem_cons_zero, List.getElem_cons_succ, List.setIfInBounds_toArray, List.set_cons_zero, List.set_cons_succ]
      refine wpAnyH_take (i := 32) (v := .bool false) rfl (by kernel_rfl) (by kernel_rfl) (by kernel_rfl) (fun _ _ _ h => absurd h.1 (fun e => by cases e)) (Or.inl ⟨by rfl, ?hy64⟩) (by assumption) ?ty64
      case hy64 => (intro w5 hSw; (try dsimp only at hSw); obtain ⟨⟨⟨s0, s1⟩, t0, t1⟩, q0⟩ := hSw; dsimp only at s0 s1 t0 t1; go_simp; first | (all_goals with_reducible rfl) | (simp; done) | (simp [*]; done) | (simp; omega))
      simp only [Act.put, List.getElem_toArray, List.getElem_cons_zero, List.getElem_cons_succ, List.setIfInBounds_toArray, List.set_cons_zero, List.set_cons_succ]
      refine wpAnyH_take (i := 33) (v := .bool false) rfl (by kernel_rfl) (by kernel_rfl) (by kernel_rfl) (fun _ _ _ h => absurd h.1 (fun e => by cases e)) (Or.inl ⟨by rfl, ?hy65⟩) (by assumption) ?ty65
      case hy65 => (intro w5 hSw; (try dsimp only at hSw); obtain ⟨⟨⟨s0, s1⟩, t0, t1⟩, q0⟩ := hSw; dsimp only at s0 s1 t0 t1; go_simp; first | (all_goals with_reducible rfl) | (simp; done) | (simp [*]; done) | (simp; omega))
      simp only [Act.put, List.getElem_toArray, List.getElem_cons_zero, List.getElem_cons_succ, List.setIfInBounds_toArray, List.set_cons_zero, List.set_cons_succ]
      refine wpAnyH_take (i := 34) (v := .bool false) rfl (by kernel_rfl) (by kernel_rfl) (by kernel_rfl) (fun _ _ _ h => absurd h.1 (fun e => by cases e)) (Or.inl ⟨by rfl, ?hy66⟩) (by assumption) ?ty66
      case hy66 => (intro w5 hSw; (try dsimp only at hSw); obtain ⟨⟨⟨s0, s1⟩, t0, t1⟩, q0⟩ := hSw; dsimp only at s0 s1 t0 t1; go_simp; first | (all_goals with_reducible rfl) | (simp; done) | (simp [*]; done) | (simp; omega))
      simp only [Act.put, List.getElem_toArray, List.getElem_cons_zero, List.getElem_cons_succ, List.setIfInBounds_toArray, List.set_cons_zero, List.set_cons_succ]
      refine wpAnyH_take (i := 35) (v := .bool false) rfl (by kernel_rfl) (by kernel_rfl) (by kernel_rfl) (fun _ _ _ h => absurd h.1 (fun e => by cases e)) (Or.inl ⟨by rfl, ?hy67⟩) (by assumption) ?ty67
      case hy67 => (intro w5 hSw; (try dsimp only at hSw); obtain ⟨⟨⟨s0, s1⟩, t0, t1⟩, q0⟩ := hSw; dsimp only at s0 s1 t0 t1; go_simp; first | (all_goals with_reducible rfl) | (simp; done) | (simp [*]; done) | (simp; omega))
      simp only [Act.put, List.getElem_toArray, List.getElem_cons_zero, List.getElem_cons_succ, List.setIfInBounds_toArray, List.set_cons_zero, List.set_cons_succ]
      refine wpAnyH_done (by kernel_rfl) ?_ _
      clear hHeld
      refine ⟨rfl, hBa, by first | kernel_rfl | rfl, by first | kernel_rfl | rfl⟩
    · clear HBO
      refine wp_region_held_drew (S := fun w' => (Dc w' g7 (.int .i64 c9, .int .i64 v9) ∧ Dc w' g5 (.int .i64 x, .slice sa sn sc))) (by kernel_rfl) ?hS68 (fun hHeld => ?_)
      case hS68 => exact ⟨hV7, hV5⟩
      refine wpAnyH_take (i := 0) (v := ?_) rfl (by kernel_rfl) (by kernel_rfl) (by kernel_rfl) (fun _ _ _ h => absurd h.1 (fun e => by cases e)) (Or.inl ⟨by rfl, ?hy69⟩) (by assumption) ?ty69
      case hy69 => (intro w5 hSw; (try dsimp only at hSw); obtain ⟨⟨s0, s1⟩, t0, t1⟩ := hSw; dsimp only at s0 s1 t0 t1; go_simp; all_goals with_reducible rfl)
      simp only [Act.put, List.getElem_toArray, List.getElem_cons_zero, List.setIfInBounds_toArray, List.set_cons_zero, List.set_cons_succ]
      refine wpAnyH_take (i := 1) (v := ?_) rfl (by kernel_rfl) (by kernel_rfl) (by kernel_rfl) (fun _ _ _ h => absurd h.1 (fun e => by cases e)) (Or.inl ⟨by rfl, ?hy70⟩) (by assumption) ?ty70
      case hy70 => (intro w5 hSw; (try dsimp only at hSw); obtain ⟨⟨s0, s1⟩, t0, t1⟩ := hSw; dsimp only at s0 s1 t0 t1; go_simp; all_goals with_reducible rfl)
      simp only [Act.put, List.getElem_toArray, List.getElem_cons_zero, List.getElem_cons_succ, List.setIfInBounds_toArray, List.set_cons_zero, List.set_cons_succ]
      refine wpAnyH_take (i := 2) (v := ?_) rfl (by kernel_rfl) (by kernel_rfl) (by kernel_rfl) (fun _ _ _ h => absurd h.1 (fun e => by cases e)) (Or.inl ⟨by rfl, ?hy71⟩) (by assumption) ?ty71
      case hy71 => (intro w5 hSw; (try dsimp only at hSw); obtain ⟨⟨s0, s1⟩, t0, t1⟩ := hSw; dsimp only at s0 s1 t0 t1; go_simp; all_goals with_reducible rfl)
      simp only [Act.put, List.getElem_toArray, List.getElem_cons_zero, List.getElem_cons_succ, List.setIfInBounds_toArray, List.set_cons_zero, List.set_cons_succ]
      refine wpAnyH_take (i := 3) (v := ?_) rfl (by kernel_rfl) (by kernel_rfl) (by kernel_rfl) (fun _ _ _ h => absurd h.1 (fun e => by cases e)) (Or.inl ⟨by rfl, ?hy72⟩) (by assumption) ?ty72
      case hy72 => (intro w5 hSw; (try dsimp only at hSw); obtain ⟨⟨s0, s1⟩, t0, t1⟩ := hSw; dsimp only at s0 s1 t0 t1; go_simp; all_goals with_reducible rfl)
      simp only [Act.put, List.getElem_toArray, List.getElem_cons_zero, List.getElem_cons_succ, List.setIfInBounds_toArray, List.set_cons_zero, List.set_cons_succ]
      refine wpAnyH_ready (rs := [4]) (by kernel_rfl) (by simp) ?_
      refine AllReadyH.cons rfl (fun K hK => ?_) AllReadyH.nil
      go_simp
      refine (HSB.out _ (hx.below ((Below.refl _ _).drew))).mono ?_
      rintro e wa ⟨rfl, hba⟩
      have hba : Below W7.heap.size W7 wa := (Below.refl _ _).drew.trans hba
      have hV7a := hV7.below hba hV7.lt
      have hV5a := hV5.below hba hV5.lt
      have hBa := hB7.trans (hba.mono hB7.size)
      refine hK.out _ _ ⟨hV7a, hV5a⟩ (fun hHeld => ?_)
      clear hK K
      refine wpAnyH_take (i := 5) (v := ?_) rfl (by kernel_rfl) (by kernel_rfl) (by kernel_rfl) (fun _ _ _ h => absurd h.1 (fun e => by cases e)) (Or.inl ⟨by rfl, ?hy73⟩) (by assumption) ?ty73
      case hy73 => (intro w5 hSw; (try dsimp only at hSw); obtain ⟨⟨s0, s1⟩, t0, t1⟩ := hSw; dsimp only at s0 s1 t0 t1;have hf := HI0.out; go_simp; all_goals with_reducible rfl)
      simp only [Act.put, List.getElem_toArray, List.getElem_cons_zero, List.getElem_cons_succ, List.setIfInBounds_toArray, List.set_cons_zero, List.set_cons_succ]
      refine wpAnyH_take (i := 6) (v := .bool false) rfl (by kernel_rfl) (by kernel_rfl) (by kernel_rfl) (fun _ _ _ h => absurd h.1 (fun e => by cases e)) (Or.inl ⟨by rfl, ?hy74⟩) (by assumption) ?ty74
      case hy74 => (intro w5 hSw; (try dsimp only at hSw); obtain ⟨⟨s0, s1⟩, t0, t1⟩ := hSw; dsimp only at s0 s1 t0 t1; go_simp; first | (all_goals with_reducible rfl) | (simp; done) | (simp [*]; done) | (simp; omega))
      simp only [Act.put, List.getElem_toArray, List.getElem_cons_zero, List.getElem_cons_succ, List.setIfInBounds_toArray, List.set_cons_zero, List.set_cons_succ]
      refine wpAnyH_take (i := 7) (v := ?_) rfl (by kernel_rfl) (by kernel_rfl) (by kernel_rfl) (fun _ _ _ h => absurd h.1 (fun e => by cases e)) (Or.inl ⟨by rfl, ?hy75⟩) (by assumption) ?ty75
      case hy75 => (intro w5 hSw; (try dsimp only at hSw); obtain ⟨⟨s0, s1⟩, t0, t1⟩ := hSw; dsimp only at s0 s1 t0 t1; go_simp; all_goals with_reducible rfl)
      simp only [Act.put, List.getElem_toArray, List.getElem_cons_zero, List.getElem_cons_succ, List.setIfInBounds_toArray, List.set_cons_zero, List.set_cons_succ]
      refine wpAnyH_take (i := 8) (v := ?_) rfl (by kernel_rfl) (by kernel_rfl) (by kernel_rfl) (fun _ _ _ h => absurd h.1 (fun e => by cases e)) (Or.inl ⟨by rfl, ?hy76⟩) (by assumption) ?ty76
      case hy76 => (intro w5 hSw; (try dsimp only at hSw); obtain ⟨⟨s0, s1⟩, t0, t1⟩ := hSw; dsimp only at s0 s1 t0 t1; go_simp; all_goals with_reducible rfl)
      simp only [Act.put, List.getElem_toArray, List.getElem_cons_zero, List.getElem_cons_succ, List.setIfInBounds_toArray, List.set_cons_zero, List.set_cons_succ]
      refine wpAnyH_take (i := 9) (v := ?_) rfl (by kernel_rfl) (by kernel_rfl) (by kernel_rfl) (fun _ _ _ h => absurd h.1 (fun e => by cases e)) (Or.inl ⟨by rfl, ?hy77⟩) (by assumption) ?ty77
      case hy77 => (intro w5 hSw; (try dsimp only at hSw); obtain ⟨⟨s0, s1⟩, t0, t1⟩ := hSw; dsimp only at s0 s1 t0 t1; go_simp; all_goals with_reducible rfl)
      simp only [Act.put, List.getElem_toArray, List.getElem_cons_zero, List.getElem_cons_succ, List.setIfInBounds_toArray, List.set_cons_zero, List.set_cons_succ]
      refine wpAnyH_take (i := 10) (v := .bool false) rfl (by kernel_rfl) (by kernel_rfl) (by kernel_rfl) (fun _ _ _ h => absurd h.1 (fun e => by cases e)) (Or.inl ⟨by rfl, ?hy78⟩) (by assumption) ?ty78
      case hy78 => (intro w5 hSw; (try dsimp only at hSw); obtain ⟨⟨s0, s1⟩, t0, t1⟩ := hSw; dsimp only at s0 s1 t0 t1; go_simp; first | (all_goals with_reducible rfl) | (simp; done) | (simp [*]; done) | (simp; omega))
      simp only [Act.put, List.getElem_toArray, List.getElem_cons_zero, List.getElem_cons_succ, List.setIfInBounds_toArray, List.set_cons_zero, List.set_cons_succ]
      refine wpAnyH_take (i := 11) (v := ?_) rfl (by kernel_rfl) (by kernel_rfl) (by kernel_rfl) (fun _ _ _ h => absurd h.1 (fun e => by cases e)) (Or.inl ⟨by rfl, ?hy79⟩) (by assumption) ?ty79
      case hy79 => (intro w5 hSw; (try dsimp only at hSw); obtain ⟨⟨s0, s1⟩, t0, t1⟩ := hSw; dsimp only at s0 s1 t0 t1; go_simp; all_goals with_reducible rfl)
      simp only [Act.put, List.getElem_toArray, List.getElem_cons_zero, List.getElem_cons_succ, List.setIfInBounds_toArray, List.set_cons_zero, List.set_cons_succ]
      refine wpAnyH_take (i := 12) (v := undef) rfl (by kernel_rfl) (by kernel_rfl) (by kernel_rfl) (fun _ _ _ h => absurd h.1 (fun e => by cases e)) (Or.inr ⟨by rfl, rfl⟩) (by assumption) ?_
      simp only [Act.put, List.getElem_toArray, List.getElem_cons_zero, List.getElem_cons_succ, List.setIfInBounds_toArray, List.set_cons_zero, List.set_cons_succ]
      refine wpAnyH_take (i := 13) (v := undef) rfl (by kernel_rfl) (by kernel_rfl) (by kernel_rfl) (fun _ _ _ h => absurd h.1 (fun e => by cases e)) (Or.inr ⟨by rfl, rfl⟩) (by assumption) ?_
      simp only [Act.put, List.getElem_toArray, List.getElem_cons_zero, List.getElem_cons_succ, List.setIfInBounds_toArray, List.set_cons_zero, List.set_cons_succ]
      refine wpAnyH_take (i := 14) (v := undef) rfl (by kernel_rfl) (by kernel_rfl) (by kernel_rfl) (fun _ _ _ h => absurd h.1 (fun e => by cases e)) (Or.inr ⟨by rfl, rfl⟩) (by assumption) ?_
      simp only [Act.put, List.getElem_toArray, List.getElem_cons_zero, List.getElem_cons_succ, List.setIfInBounds_toArray, List.set_cons_zero, List.set_cons_succ]
      refine wpAnyH_take (i := 15) (v := undef) rfl (by kernel_rfl) (by kernel_rfl) (by kernel_rfl) (fun _ _ _ h => absurd h.1 (fun e => by cases e)) (Or.inr ⟨by rfl, rfl⟩) (by assumption) ?_
      simp only [Act.put, List.getElem_toArray, List.getElem_cons_zero, List.getElem_cons_succ, List.setIfInBounds_toArray, List.set_cons_zero, List.set_cons_succ]
      refine wpAnyH_take (i := 16) (v := undef) rfl (by kernel_rfl) (by kernel_rfl) (by kernel_rfl) (fun _ _ _ h => absurd h.1 (fun e => by cases e)) (Or.inr ⟨by rfl, rfl⟩) (by assumption) ?_
      simp only [Act.put, List.getElem_toArray, List.getElem_cons_zero, List.getElem_cons_succ, List.setIfInBounds_toArray, List.set_cons_zero, List.set_cons_succ]
      refine wpAnyH_take (i := 17) (v := undef) rfl (by kernel_rfl) (by kernel_rfl) (by kernel_rfl) (fun _ _ _ h => absurd h.1 (fun e => by cases e)) (Or.inr ⟨by rfl, rfl⟩) (by assumption) ?_
      simp only [Act.put, List.getElem_toArray, List.getElem_cons_zero, List.getElem_cons_succ, List.setIfInBounds_toArray, List.set_cons_zero, List.set_cons_succ]
      refine wpAnyH_take (i := 18) (v := undef) rfl (by kernel_rfl) (by kernel_rfl) (by kernel_rfl) (fun _ _ _ h => absurd h.1 (fun e => by cases e)) (Or.inr ⟨by rfl, rfl⟩) (by assumption) ?_
      simp only [Act.put, List.getElem_toArray, List.getElem_cons_zero, List.getElem_cons_succ, List.setIfInBounds_toArray, List.set_cons_zero, List.set_cons_succ]
      refine wpAnyH_take (i := 19) (v := undef) rfl (by kernel_rfl) (by kernel_rfl) (by kernel_rfl) (fun _ _ _ h => absurd h.1 (fun e => by cases e)) (Or.inr ⟨by rfl, rfl⟩) (by assumption) ?_
      simp only [Act.put, List.getElem_toArray, List.getElem_cons_zero, List.getElem_cons_succ, List.setIfInBounds_toArray, List.set_cons_zero, List.set_cons_succ]
      refine wpAnyH_take (i := 20) (v := undef) rfl (by kernel_rfl) (by kernel_rfl) (by kernel_rfl) (fun _ _ _ h => absurd h.1 (fun e => by cases e)) (Or.inr ⟨by rfl, rfl⟩) (by assumption) ?_
      simp only [Act.put, List.getElem_toArray, List.getElem_cons_zero, List.getElem_cons_succ, List.setIfInBounds_toArray, List.set_cons_zero, List.set_cons_succ]
      refine wpAnyH_take (i := 21) (v := undef) rfl (by kernel_rfl) (by kernel_rfl) (by kernel_rfl) (fun _ _ _ h => absurd h.1 (fun e => by cases e)) (Or.inr ⟨by rfl, rfl⟩) (by assumption) ?_
      simp only [Act.put, List.getElem_toArray, List.getElem_cons_zero, List.getElem_cons_succ, List.setIfInBounds_toArray, List.set_cons_zero, List.set_cons_succ]
      refine wpAnyH_take (i := 22) (v := undef) rfl (by kernel_rfl) (by kernel_rfl) (by kernel_rfl) (fun _ _ _ h => absurd h.1 (fun e => by cases e)) (Or.inr ⟨by rfl, rfl⟩) (by assumption) ?_
      simp only [Act.put, List.getElem_toArray, List.getElem_cons_zero, List.getElem_cons_succ, List.setIfInBounds_toArray, List.set_cons_zero, List.set_cons_succ]
      refine wpAnyH_take (i := 23) (v := undef) rfl (by kernel_rfl) (by kernel_rfl) (by kernel_rfl) (fun _ _ _ h => absurd h.1 (fun e => by cases e)) (Or.inr ⟨by rfl, rfl⟩) (by assumption) ?_
      simp only [Act.put, List.getElem_toArray, List.getElem_cons_zero, List.getElem_cons_succ, List.setIfInBounds_toArray, List.set_cons_zero, List.set_cons_succ]
      refine wpAnyH_take (i := 24) (v := undef) rfl (by kernel_rfl) (by kernel_rfl) (by kernel_rfl) (fun _ _ _ h => absurd h.1 (fun e => by cases e)) (Or.inr ⟨by rfl, rfl⟩) (by assumption) ?_
      simp only [Act.put, List.getElem_toArray, List.getElem_cons_zero, List.getElem_cons_succ, List.setIfInBounds_toArray, List.set_cons_zero, List.set_cons_succ]
      refine wpAnyH_take (i := 25) (v := undef) rfl (by kernel_rfl) (by kernel_rfl) (by kernel_rfl) (fun _ _ _ h => absurd h.1 (fun e => by cases e)) (Or.inr ⟨by rfl, rfl⟩) (by assumption) ?_
      simp only [Act.put, List.getElem_toArray, List.getElem_cons_zero, List.getElem_cons_succ, List.setIfInBounds_toArray, List.set_cons_zero, List.set_cons_succ]
      refine wpAnyH_take (i := 26) (v := undef) rfl (by kernel_rfl) (by kernel_rfl) (by kernel_rfl) (fun _ _ _ h => absurd h.1 (fun e => by cases e)) (Or.inr ⟨by rfl, rfl⟩) (by assumption) ?_
      simp only [Act.put, List.getElem_toArray, List.getElem_cons_zero, List.getElem_cons_succ, List.setIfInBounds_toArray, List.set_cons_zero, List.set_cons_succ]
      refine wpAnyH_take (i := 27) (v := undef) rfl (by kernel_rfl) (by kernel_rfl) (by kernel_rfl) (fun _ _ _ h => absurd h.1 (fun e => by cases e)) (Or.inr ⟨by rfl, rfl⟩) (by assumption) ?_
      simp only [Act.put, List.getElem_toArray, List.getElem_cons_zero, List.getElem_cons_succ, List.setIfInBounds_toArray, List.set_cons_zero, List.set_cons_succ]
      refine wpAnyH_take (i := 28) (v := undef) rfl (by kernel_rfl) (by kernel_rfl) (by kernel_rfl) (fun _ _ _ h => absurd h.1 (fun e => by cases e)) (Or.inr ⟨by rfl, rfl⟩) (by assumption) ?_
      simp only [Act.put, List.getElem_toArray, List.getElem_cons_zero, List.getElem_cons_succ, List.setIfInBounds_toArray, List.set_cons_zero, List.set_cons_succ]
      refine wpAnyH_take (i := 29) (v := undef) rfl (by kernel_rfl) (by kernel_rfl) (by kernel_rfl) (fun _ _ _ h => absurd h.1 (fun e => by cases e)) (Or.inr ⟨by rfl, rfl⟩) (by assumption) ?_
      simp only [Act.put, List.getElem_toArray, List.getElem_cons_zero, List.getElem_cons_succ, List.setIfInBounds_toArray, List.set_cons_zero, List.set_cons_succ]
      refine wpAnyH_take (i := 30) (v := undef) rfl (by kernel_rfl) (by kernel_rfl) (by kernel_rfl) (fun _ _ _ h => absurd h.1 (fun e => by cases e)) (Or.inr ⟨by rfl, rfl⟩) (by assumption) ?_
      simp only [Act.put, List.getElem_toArray, List.getElem_cons_zero, List.getElem_cons_succ, List.setIfInBounds_toArray, List.set_cons_zero, List.set_cons_succ]
      refine wpAnyH_take (i := 31) (v := undef) rfl (by kernel_rfl) (by kernel_rfl) (by kernel_rfl) (fun _ _ _ h => absurd h.1 (fun e => by cases e)) (Or.inr ⟨by rfl, rfl⟩) (by assumption) ?_
      simp only [Act.put, List.getElem_toArray, List.getElem_cons_zero, List.getElem_cons_succ, List.setIfInBounds_toArray, List.set_cons_zero, List.set_cons_succ]
      refine wpAnyH_take (i := 32) (v := undef) rfl (by kernel_rfl) (by kernel_rfl) (by kernel_rfl) (fun _ _ _ h => absurd h.1 (fun e => by cases e)) (Or.inr ⟨by rfl, rfl⟩) (by assumption) ?_
      simp only [Act.put, List.getElem_toArray, List.getElem_cons_zero, List.getElem_cons_succ, List.setIfInBounds_toArray, List.set_cons_zero, List.set_cons_succ]
      refine wpAnyH_take (i := 33) (v := undef) rfl (by kernel_rfl) (by kernel_rfl) (by kernel_rfl) (fun _ _ _ h => absurd h.1 (fun e => by cases e)) (Or.inr ⟨by rfl, rfl⟩) (by assumption) ?_
      simp only [Act.put, List.getElem_toArray, List.getElem_cons_zero, List.getElem_cons_succ, List.setIfInBounds_toArray, List.set_cons_zero, List.set_cons_succ]
      refine wpAnyH_take (i := 34) (v := .bool false) rfl (by kernel_rfl) (by kernel_rfl) (by kernel_rfl) (fun _ _ _ h => absurd h.1 (fun e => by cases e)) (Or.inl ⟨by rfl, ?hy80⟩) (by assumption) ?ty80
      case hy80 => (intro w5 hSw; (try dsimp only at hSw); obtain ⟨⟨s0, s1⟩, t0, t1⟩ := hSw; dsimp only at s0 s1 t0 t1; go_simp; first | (all_goals with_reducible rfl) | (simp; done) | (simp [*]; done) | (simp; omega))
      simp only [Act.put, List.getElem_toArray, List.getElem_cons_zero, List.getElem_cons_succ, List.setIfInBounds_toArray, List.set_cons_zero, List.set_cons_succ]
      refine wpAnyH_take (i := 35) (v := .bool false) rfl (by kernel_rfl) (by kernel_rfl) (by kernel_rfl) (fun _ _ _ h => absurd h.1 (fun e => by cases e)) (Or.inl ⟨by rfl, ?hy81⟩) (by assumption) ?ty81
      case hy81 => (intro w5 hSw; (try dsimp only at hSw); obtain ⟨⟨s0, s1⟩, t0, t1⟩ := hSw; dsimp only at s0 s1 t0 t1; go_simp; first | (all_goals with_reducible rfl) | (simp; done) | (simp [*]; done) | (simp; omega))
      simp only [Act.put, List.getElem_toArray, List.getElem_cons_zero, List.getElem_cons_succ, List.setIfInBounds_toArray, List.set_cons_zero, List.set_cons_succ]
      refine wpAnyH_done (by kernel_rfl) ?_ _
      clear hHeld
      refine ⟨rfl, hBa, by first | kernel_rfl | rfl, by first | kernel_rfl | rfl⟩
  obtain - | ⟨x0, vs⟩ := vs
  · simp at hlv
  obtain - | ⟨x1, vs⟩ := vs
  · simp at hlv
  obtain - | ⟨x2, vs⟩ := vs
  · simp at hlv
  obtain - | ⟨x3, vs⟩ := vs
  · simp at hlv
  obtain - | ⟨x4, vs⟩ := vs
  · simp at hlv
  obtain - | ⟨x5, vs⟩ := vs
  · simp at hlv
  obtain - | ⟨x6, vs⟩ := vs
  · simp at hlv
  obtain - | ⟨x7, vs⟩ := vs
  · simp at hlv
  obtain - | ⟨x8, vs⟩ := vs
  · simp at hlv
  obtain - | ⟨x9, vs⟩ := vs
  · simp at hlv
  obtain - | ⟨x10, vs⟩ := vs
  · simp at hlv
  obtain - | ⟨x11, vs⟩ := vs
  · simp at hlv
  obtain - | ⟨x12, vs⟩ := vs
  · simp at hlv
  obtain - | ⟨x13, vs⟩ := vs
  · simp at hlv
  obtain - | ⟨x14, vs⟩ := vs
  · simp at hlv
  obtain - | ⟨x15, vs⟩ := vs
  · simp at hlv
  obtain - | ⟨x16, vs⟩ := vs
  · simp at hlv
  obtain - | ⟨x17, vs⟩ := vs
  · simp at hlv
  obtain - | ⟨x18, vs⟩ := vs
  · simp at hlv
  obtain - | ⟨x19, vs⟩ := vs
  · simp at hlv
  obtain - | ⟨x20, vs⟩ := vs
  · simp at hlv
  obtain - | ⟨x21, vs⟩ := vs
  · simp at hlv
  obtain - | ⟨x22, vs⟩ := vs
  · simp at hlv
  obtain - | ⟨x23, vs⟩ := vs
  · simp at hlv
  obtain - | ⟨x24, vs⟩ := vs
  · simp at hlv
  obtain - | ⟨x25, vs⟩ := vs
  · simp at hlv
  obtain - | ⟨x26, vs⟩ := vs
  · simp at hlv
  obtain - | ⟨x27, vs⟩ := vs
  · simp at hlv
  obtain - | ⟨x28, vs⟩ := vs
  · simp at hlv
  obtain - | ⟨x29, vs⟩ := vs
  · simp at hlv
  obtain - | ⟨x30, vs⟩ := vs
  · simp at hlv
  obtain - | ⟨x31, vs⟩ := vs
  · simp at hlv
  obtain - | ⟨x32, vs⟩ := vs
  · simp at hlv
  obtain - | ⟨x33, vs⟩ := vs
  · simp at hlv
  obtain - | ⟨x34, vs⟩ := vs
  · simp at hlv
  obtain - | ⟨x35, vs⟩ := vs
  · simp at hlv
  obtain - | ⟨y, vs⟩ := vs
  rotate_left
  · simp at hlv
  have hfv : x35 = .bool false := by simpa using hfv
  subst hfv
  clear hlv
  simp only [putAll, Act.put, List.setIfInBounds_toArray, List.set_cons_zero, List.set_cons_succ]
  clear hV5 hV7 hx hB7 HBO HSB hft
  go_wp2_with fail
  refine (HDS.out W (HRD.out W hBW)).mono ?_
  rintro e w8 ⟨bx0, q, u, rfl, hm8, hbn, hb8⟩
  obtain ⟨bn, bv, bx, bm⟩ := bx0
  obtain ⟨qa, qn, qc'⟩ := q
  dsimp only [slW, bxX] at hm8 hbn ⊢
  have hB8 := hBW.trans (hb8.mono hBW.size)
  generalize W.heap.size = lo8 at hm8
  have hbA : Below w8.heap.size w8 (w8.alloc (.cells #[.string bn, .int .i64 bv, .int .i64 bx, .slice qa qn qc'] 39)) := (Below.refl _ _).alloc (Nat.le_refl _) _
  have hV8 := Qc.new w8 (.string bn) (.int .i64 bv) (.int .i64 bx) (.slice qa qn qc') 39
  have hm9 := hm8.below hbA
  have hB9 := hB8.trans (hbA.mono hB8.size)
  clear hm8 hB8 hbA hb8 hBW
  go_wp2_with fail
  generalize w8.alloc (.cells #[.string bn, .int .i64 bv, .int .i64 bx, .slice qa qn qc'] 39) = W9 at *
  generalize w8.heap.size = g8 at *
  refine (sequenceOf_any ⟨bn, bv, bx, bm⟩ (qa, qn, qc') u W9 hm9 hbn).mono ?_
  rintro e w10 ⟨rfl, hb10⟩
  have hV8 := hV8.below hb10 hV8.lt
  have hm10 := hm9.below hb10
  have hB10 := hB9.trans (hb10.mono hB9.size)
  have HSI := sq_in (b := ⟨bn, bv, bx, bm⟩) (u := u)
  have HSQ : Hid (∀ w' : World, IsMs lo8 w' (qa, qn, qc') bm → Calls Tryd.prog 15 #[bxX ⟨bn, bv, bx, bm⟩ (qa, qn, qc'), .int .i64 u] w' fun e w'' => e = .returned (.agg #[.int .i64 (sqV ⟨bn, bv, bx, bm⟩ u).1, .int .i64 (sqV ⟨bn, bv, bx, bm⟩ u).2]) ∧ Below w'.heap.size w' w'') := fun w' h => specSequenceOf_any ⟨bn, bv, bx, bm⟩ (qa, qn, qc') u w' h hbn
  generalize sqV ⟨bn, bv, bx, bm⟩ u = pv at *
  obtain ⟨c13, v13⟩ := pv
  dsimp only [bxX, slW] at HSI HSQ ⊢
  have hbB : Below w10.heap.size w10 (w10.alloc (.cells #[.int .i64 c13, .int .i64 v13] 26)) := (Below.refl _ _).alloc (Nat.le_refl _) _
  have hV10 := Dc.new w10 (.int .i64 c13) (.int .i64 v13) 26
  have hV8 := hV8.below hbB hV8.lt
  have hm := hm10.below hbB
  have hB10 := hB10.trans (hbB.mono hB10.size)
  clear hm9 hm10 hB9 hb10 hbB
  go_wp2_with fail
  generalize w10.alloc (.cells #[.int .i64 c13, .int .i64 v13] 26) = W10 at *
  generalize w10.heap.size = g10 at *
  refine wp_meet [90, 91, 92, 93, 94, 95, 96, 97, 98, 99, 100, 101, 102, 103, 104, 105, 106, 107, 108, 109, 110, 111, 112, 113, 114, 115, 116, 117, 118, 119, 120, 121, 122, 123, 124, 125, 126] (fun w' => Below w.heap.size w w' ∧ Qc w' g8 (.string bn, .int .i64 bv, .int .i64 bx, .slice qa qn qc') ∧ IsMs lo8 w' (qa, qn, qc') bm) ?hm90 (fun vs W hlv hfv hBW => ?_)
  case hm90 =>
    by_cases hc13 : c13 = 0
    · subst hc13
      obtain ⟨i, rfl, hil, hnmi⟩ := HSI rfl
      have hil : i < bm.length := hil
      obtain ⟨gb, off, hqa, -, hgb, hcell⟩ := hm.2.2.2.at_ (by omega)
      dsimp only at hqa
      subst hqa
      obtain ⟨qq, ⟨hnm, -⟩, -⟩ := hcell i hil
      rw [show (nthM bm i).u = u from hnmi] at hnm
      have hi1 : i < qn := by have h := hm.1; dsimp only at h; omega
      have hi2 : (i : Int) < (qn : Int) := by omega
      have hi3 : ¬ (i : Int) + 1 < 1 := by omega
      have hi4 : ¬ (qn : Int) < (i : Int) + 1 := by omega
      have hi5 : ¬ (i : Int) < 0 := by omega
      have hi6 : 0 ≤ (i : Int) := by omega
      have hmx := Nat.le_trans hm.2.1 hm.2.2.1
      unfold maxLen at hmx
      dsimp only at hmx
      refine wp_region_held_drew (S := fun w' => (Dc w' g10 (.int .i64 0, .int .i64 ((i : Int) + 1)) ∧ Qc w' g8 (.string bn, .int .i64 bv, .int .i64 bx, .slice (some ⟨gb, off, none⟩) qn qc')) ∧ w'.cell? ⟨gb, off + i * 4, none⟩ = some (.int .i64 u)) (by kernel_rfl) ?hS82 (fun hHeld => ?_)
      case hS82 => exact ⟨⟨hV10, hV8⟩, hnm⟩
      refine wpAnyH_take (i := 0) (v := ?_) rfl (by kernel_rfl) (by kernel_rfl) (by kernel_rfl) (fun _ _ _ h => absurd h.1 (fun e => by cases e)) (Or.inl ⟨by rfl, ?hy83⟩) (by assumption) ?ty83
      case hy83 => (intro w5 hSw; (try dsimp only at hSw); obtain ⟨⟨⟨s0, s1⟩, t0, t1, t2, t3⟩, q0⟩ := hSw; dsimp only at s0 s1 t0 t1 t2 t3; go_simp; all_goals with_reducible rfl)
      simp only [Act.put, List.getElem_toArray, List.getElem_cons_zero, List.setIfInBounds_toArray, List.set_cons_zero, List.set_cons_succ]
      refine wpAnyH_take (i := 1) (v := ?_) rfl (by kernel_rfl) (by kernel_rfl) (by kernel_rfl) (fun _ _ _ h => absurd h.1 (fun e => by cases e)) (Or.inl ⟨by rfl, ?hy84⟩) (by assumption) ?ty84
      case hy84 => (intro w5 hSw; (try dsimp only at hSw); obtain ⟨⟨⟨s0, s1⟩, t0, t1, t2, t3⟩, q0⟩ := hSw; dsimp only at s0 s1 t0 t1 t2 t3; go_simp; all_goals with_reducible rfl)
      simp only [Act.put, List.getElem_toArray, List.getElem_cons_zero, List.getElem_cons_succ, List.setIfInBounds_toArray, List.set_cons_zero, List.set_cons_succ]
      refine wpAnyH_take (i := 2) (v := ?_) rfl (by kernel_rfl) (by kernel_rfl) (by kernel_rfl) (fun _ _ _ h => absurd h.1 (fun e => by cases e)) (Or.inl ⟨by rfl, ?hy85⟩) (by assumption) ?ty85
      case hy85 => (intro w5 hSw; (try dsimp only at hSw); obtain ⟨⟨⟨s0, s1⟩, t0, t1, t2, t3⟩, q0⟩ := hSw; dsimp only at s0 s1 t0 t1 t2 t3; go_simp; all_goals with_reducible rfl)
      simp only [Act.put, List.getElem_toArray, List.getElem_cons_zero, List.getElem_cons_succ, List.setIfInBounds_toArray, List.set_cons_zero, List.set_cons_succ]
      refine wpAnyH_take (i := 3) (v := ?_) rfl (by kernel_rfl) (by kernel_rfl) (by kernel_rfl) (fun _ _ _ h => absurd h.1 (fun e => by cases e)) (Or.inl ⟨by rfl, ?hy86⟩) (by assumption) ?ty86
      case hy86 => (intro w5 hSw; (try dsimp only at hSw); obtain ⟨⟨⟨s0, s1⟩, t0, t1, t2, t3⟩, q0⟩ := hSw; dsimp only at s0 s1 t0 t1 t2 t3; go_simp; all_goals with_reducible rfl)
      simp only [Act.put, List.getElem_toArray, List.getElem_cons_zero, List.getElem_cons_succ, List.setIfInBounds_toArray, List.set_cons_zero, List.set_cons_succ]
      refine wpAnyH_ready (rs := [4]) (by kernel_rfl) (by simp) ?_
      refine AllReadyH.cons rfl (fun K hK => ?_) AllReadyH.nil
      go_simp
      refine (HSQ.out _ (hm.below ((Below.refl _ _).drew))).mono ?_
      rintro e wa ⟨rfl, hba⟩
      have hba : Below W10.heap.size W10 wa := (Below.refl _ _).drew.trans hba
      have hV10a := hV10.below hba hV10.lt
      have hV8a := hV8.below hba hV8.lt
      have hBa := hB10.trans (hba.mono hB10.size)
      have hma := hm.below hba
      have hnma := (hba.cell (p := ⟨gb, off + i * 4, none⟩) (World.block_lt_of_cell? _ _ hnm)).trans hnm
      refine hK.out _ _ ⟨⟨hV10a, hV8a⟩, hnma⟩ (fun hHeld => ?_)
      clear hK K
      refine wpAnyH_take (i := 5) (v := ?_) rfl (by kernel_rfl) (by kernel_rfl) (by kernel_rfl) (fun _ _ _ h => absurd h.1 (fun e => by cases e)) (Or.inl ⟨by rfl, ?hy87⟩) (by assumption) ?ty87
      case hy87 => (intro w5 hSw; (try dsimp only at hSw); obtain ⟨⟨⟨s0, s1⟩, t0, t1, t2, t3⟩, q0⟩ := hSw; dsimp only at s0 s1 t0 t1 t2 t3;have hf := HI0.out; go_simp; all_goals with_reducible rfl)
      simp only [Act.put, List.getElem_toArray, List.getElem_cons_zero, List.getElem_cons_succ, List.setIfInBounds_toArray, List.set_cons_zero, List.set_cons_succ]
      refine wpAnyH_take (i := 6) (v := .bool false) rfl (by kernel_rfl) (by kernel_rfl) (by kernel_rfl) (fun _ _ _ h => absurd h.1 (fun e => by cases e)) (Or.inl ⟨by rfl, ?hy88⟩) (by assumption) ?ty88
      case hy88 => (intro w5 hSw; (try dsimp only at hSw); obtain ⟨⟨⟨s0, s1⟩, t0, t1, t2, t3⟩, q0⟩ := hSw; dsimp only at s0 s1 t0 t1 t2 t3; go_simp; first | (all_goals with_reducible rfl) | (simp; done) | (simp [*]; done) | (simp; omega))
      simp only [Act.put, List.getElem_toArray, List.getElem_cons_zero, List.getElem_cons_succ, List.setIfInBounds_toArray, List.set_cons_zero, List.set_cons_succ]
      refine wpAnyH_take (i := 7) (v := ?_) rfl (by kernel_rfl) (by kernel_rfl) (by kernel_rfl) (fun _ _ _ h => absurd h.1 (fun e => by cases e)) (Or.inl ⟨by rfl, ?hy89⟩) (by assumption) ?ty89
      case hy89 => (intro w5 hSw; (try dsimp only at hSw); obtain ⟨⟨⟨s0, s1⟩, t0, t1, t2, t3⟩, q0⟩ := hSw; dsimp only at s0 s1 t0 t1 t2 t3; go_simp; all_goals with_reducible rfl)
      simp only [Act.put, List.getElem_toArray, List.getElem_cons_zero, List.getElem_cons_succ, List.setIfInBounds_toArray, List.set_cons_zero, List.set_cons_succ]
      refine wpAnyH_take (i := 8) (v := ?_) rfl (by kernel_rfl) (by kernel_rfl) (by kernel_rfl) (fun _ _ _ h => absurd h.1 (fun e => by cases e)) (Or.inl ⟨by rfl, ?hy90⟩) (by assumption) ?ty90
      case hy90 => (intro w5 hSw; (try dsimp only at hSw); obtain ⟨⟨⟨s0, s1⟩, t0, t1, t2, t3⟩, q0⟩ := hSw; dsimp only at s0 s1 t0 t1 t2 t3; go_simp; all_goals with_reducible rfl)
      simp only [Act.put, List.getElem_toArray, List.getElem_cons_zero, List.getElem_cons_succ, List.setIfInBounds_toArray, List.set_cons_zero, List.set_cons_succ]
      refine wpAnyH_take (i := 9) (v := ?_) rfl (by kernel_rfl) (by kernel_rfl) (by kernel_rfl) (fun _ _ _ h => absurd h.1 (fun e => by cases e)) (Or.inl ⟨by rfl, ?hy91⟩) (by assumption) ?ty91
      case hy91 => (intro w5 hSw; (try dsimp only at hSw); obtain ⟨⟨⟨s0, s1⟩, t0, t1, t2, t3⟩, q0⟩ := hSw; dsimp only at s0 s1 t0 t1 t2 t3; go_simp; all_goals with_reducible rfl)
      simp only [Act.put, List.getElem_toArray, List.getElem_cons_zero, List.getElem_cons_succ, List.setIfInBounds_toArray, List.set_cons_zero, List.set_cons_succ]
      refine wpAnyH_take (i := 10) (v := .bool true) rfl (by kernel_rfl) (by kernel_rfl) (by kernel_rfl) (fun _ _ _ h => absurd h.1 (fun e => by cases e)) (Or.inl ⟨by rfl, ?hy92⟩) (by assumption) ?ty92
      case hy92 => (intro w5 hSw; (try dsimp only at hSw); obtain ⟨⟨⟨s0, s1⟩, t0, t1, t2, t3⟩, q0⟩ := hSw; dsimp only at s0 s1 t0 t1 t2 t3; go_simp; first | (all_goals with_reducible rfl) | (simp; done) | (simp [*]; done) | (simp; omega))
      simp only [Act.put, List.getElem_toArray, List.getElem_cons_zero, List.getElem_cons_succ, List.setIfInBounds_toArray, List.set_cons_zero, List.set_cons_succ]
      refine wpAnyH_take (i := 11) (v := ?_) rfl (by kernel_rfl) (by kernel_rfl) (by kernel_rfl) (fun _ _ _ h => absurd h.1 (fun e => by cases e)) (Or.inl ⟨by rfl, ?hy93⟩) (by assumption) ?ty93
      case hy93 => (intro w5 hSw; (try dsimp only at hSw); obtain ⟨⟨⟨s0, s1⟩, t0, t1, t2, t3⟩, q0⟩ := hSw; dsimp only at s0 s1 t0 t1 t2 t3; go_simp; all_goals with_reducible rfl)
      simp only [Act.put, List.getElem_toArray, List.getElem_cons_zero, List.getElem_cons_succ, List.setIfInBounds_toArray, List.set_cons_zero, List.set_cons_succ]
      refine wpAnyH_take (i := 12) (v := ?_) rfl (by kernel_rfl) (by kernel_rfl) (by kernel_rfl) (fun _ _ _ h => absurd h.1 (fun e => by cases e)) (Or.inl ⟨by rfl, ?hy94⟩) (by assumption) ?ty94
      case hy94 => (intro w5 hSw; (try dsimp only at hSw); obtain ⟨⟨⟨s0, s1⟩, t0, t1, t2, t3⟩, q0⟩ := hSw; dsimp only at s0 s1 t0 t1 t2 t3; go_simp; all_goals with_reducible rfl)
      simp only [Act.put, List.getElem_toArray, List.getElem_cons_zero, List.getElem_cons_succ, List.setIfInBounds_toArray, List.set_cons_zero, List.set_cons_succ]
      refine wpAnyH_take (i := 13) (v := ?_) rfl (by kernel_rfl) (by kernel_rfl) (by kernel_rfl) (fun _ _ _ h => absurd h.1 (fun e => by cases e)) (Or.inl ⟨by rfl, ?hy95⟩) (by assumption) ?ty95
      case hy95 => (intro w5 hSw; (try dsimp only at hSw); obtain ⟨⟨⟨s0, s1⟩, t0, t1, t2, t3⟩, q0⟩ := hSw; dsimp only at s0 s1 t0 t1 t2 t3; go_simp; all_goals with_reducible rfl)
      simp only [Act.put, List.getElem_toArray, List.getElem_cons_zero, List.getElem_cons_succ, List.setIfInBounds_toArray, List.set_cons_zero, List.set_cons_succ]
      refine wpAnyH_take (i := 14) (v := .bool false) rfl (by kernel_rfl) (by kernel_rfl) (by kernel_rfl) (fun _ _ _ h => absurd h.1 (fun e => by cases e)) (Or.inl ⟨by rfl, ?hy96⟩) (by assumption) ?ty96
      case hy96 => (intro w5 hSw; (try dsimp only at hSw); obtain ⟨⟨⟨s0, s1⟩, t0, t1, t2, t3⟩, q0⟩ := hSw; dsimp only at s0 s1 t0 t1 t2 t3; go_simp; first | (all_goals with_reducible rfl) | (simp; done) | (simp [*]; done) | (simp; omega))
      simp only [Act.put, List.getElem_toArray, List.getElem_cons_zero, List.getElem_cons_succ, List.setIfInBounds_toArray, List.set_cons_zero, List.set_cons_succ]
      refine wpAnyH_take (i := 15) (v := ?_) rfl (by kernel_rfl) (by kernel_rfl) (by kernel_rfl) (fun _ _ _ h => absurd h.1 (fun e => by cases e)) (Or.inl ⟨by rfl, ?hy97⟩) (by assumption) ?ty97
      case hy97 => (intro w5 hSw; (try dsimp only at hSw); obtain ⟨⟨⟨s0, s1⟩, t0, t1, t2, t3⟩, q0⟩ := hSw; dsimp only at s0 s1 t0 t1 t2 t3; go_simp; all_goals with_reducible rfl)
      simp only [Act.put, List.getElem_toArray, List.getElem_cons_zero, List.getElem_cons_succ, List.setIfInBounds_toArray, List.set_cons_zero, List.set_cons_succ]
      refine wpAnyH_take (i := 16) (v := ?_) rfl (by kernel_rfl) (by kernel_rfl) (by kernel_rfl) (fun _ _ _ h => absurd h.1 (fun e => by cases e)) (Or.inl ⟨by rfl, ?hy98⟩) (by assumption) ?ty98
      case hy98 => (intro w5 hSw; (try dsimp only at hSw); obtain ⟨⟨⟨s0, s1⟩, t0, t1, t2, t3⟩, q0⟩ := hSw; dsimp only at s0 s1 t0 t1 t2 t3; go_simp; all_goals with_reducible rfl)
      simp only [Act.put, List.getElem_toArray, List.getElem_cons_zero, List.getElem_cons_succ, List.setIfInBounds_toArray, List.set_cons_zero, List.set_cons_succ]
      refine wpAnyH_take (i := 17) (v := ?_) rfl (by kernel_rfl) (by kernel_rfl) (by kernel_rfl) (fun _ _ _ h => absurd h.1 (fun e => by cases e)) (Or.inl ⟨by rfl, ?hy99⟩) (by assumption) ?ty99
      case hy99 => (intro w5 hSw; (try dsimp only at hSw); obtain ⟨⟨⟨s0, s1⟩, t0, t1, t2, t3⟩, q0⟩ := hSw; dsimp only at s0 s1 t0 t1 t2 t3; go_simp; all_goals with_reducible rfl)
      simp only [Act.put, List.getElem_toArray, List.getElem_cons_zero, List.getElem_cons_succ, List.setIfInBounds_toArray, List.set_cons_zero, List.set_cons_succ]
      refine wpAnyH_take (i := 18) (v := ?_) rfl (by kernel_rfl) (by kernel_rfl) (by kernel_rfl) (fun _ _ _ h => absurd h.1 (fun e => by cases e)) (Or.inl ⟨by rfl, ?hy100⟩) (by assumption) ?ty100
      case hy100 => (intro w5 hSw; (try dsimp only at hSw); obtain ⟨⟨⟨s0, s1⟩, t0, t1, t2, t3⟩, q0⟩ := hSw; dsimp only at s0 s1 t0 t1 t2 t3; go_simp; all_goals with_reducible rfl)
      simp only [Act.put, List.getElem_toArray, List.getElem_cons_zero, List.getElem_cons_succ, List.setIfInBounds_toArray, List.set_cons_zero, List.set_cons_succ]
      refine wpAnyH_take (i := 19) (v := ?_) rfl (by kernel_rfl) (by kernel_rfl) (by kernel_rfl) (fun _ _ _ h => absurd h.1 (fun e => by cases e)) (Or.inl ⟨by rfl, ?hy101⟩) (by assumption) ?ty101
      case hy101 => (intro w5 hSw; (try dsimp only at hSw); obtain ⟨⟨⟨s0, s1⟩, t0, t1, t2, t3⟩, q0⟩ := hSw; dsimp only at s0 s1 t0 t1 t2 t3; go_simp; all_goals with_reducible rfl)
      simp only [Act.put, List.getElem_toArray, List.getElem_cons_zero, List.getElem_cons_succ, List.setIfInBounds_toArray, List.set_cons_zero, List.set_cons_succ]
      refine wpAnyH_take (i := 20) (v := ?_) rfl (by kernel_rfl) (by kernel_rfl) (by kernel_rfl) (fun _ _ _ h => absurd h.1 (fun e => by cases e)) (Or.inl ⟨by rfl, ?hy102⟩) (by assumption) ?ty102
      case hy102 => (intro w5 hSw; (try dsimp only at hSw); obtain ⟨⟨⟨s0, s1⟩, t0, t1, t2, t3⟩, q0⟩ := hSw; dsimp only at s0 s1 t0 t1 t2 t3; go_simp; all_goals with_reducible rfl)
      simp only [Act.put, List.getElem_toArray, List.getElem_cons_zero, List.getElem_cons_succ, List.setIfInBounds_toArray, List.set_cons_zero, List.set_cons_succ]
      refine wpAnyH_take (i := 21) (v := .bool false) rfl (by kernel_rfl) (by kernel_rfl) (by kernel_rfl) (fun _ _ _ h => absurd h.1 (fun e => by cases e)) (Or.inl ⟨by rfl, ?hy103⟩) (by assumption) ?ty103
      case hy103 => (intro w5 hSw; (try dsimp only at hSw); obtain ⟨⟨⟨s0, s1⟩, t0, t1, t2, t3⟩, q0⟩ := hSw; dsimp only at s0 s1 t0 t1 t2 t3; go_simp; first | (all_goals with_reducible rfl) | (simp; done) | (simp [*]; done) | (simp; omega))
      simp only [Act.put, List.getElem_toArray, List.getElem_cons_zero, List.getElem_cons_succ, List.setIfInBounds_toArray, List.set_cons_zero, List.set_cons_succ]
      refine wpAnyH_take (i := 22) (v := .bool false) rfl (by kernel_rfl) (by kernel_rfl) (by kernel_rfl) (fun _ _ _ h => absurd h.1 (fun e => by cases e)) (Or.inl ⟨by rfl, ?hy104⟩) (by assumption) ?ty104
      case hy104 => (intro w5 hSw; (try dsimp only at hSw); obtain ⟨⟨⟨s0, s1⟩, t0, t1, t2, t3⟩, q0⟩ := hSw; dsimp only at s0 s1 t0 t1 t2 t3; go_simp; first | (all_goals with_reducible rfl) | (simp; done) | (simp [*]; done) | (simp; omega))
      simp only [Act.put, List.getElem_toArray, List.getElem_cons_zero, List.getElem_cons_succ, List.setIfInBounds_toArray, List.set_cons_zero, List.set_cons_succ]
      refine wpAnyH_take (i := 23) (v := ?_) rfl (by kernel_rfl) (by kernel_rfl) (by kernel_rfl) (fun _ _ _ h => absurd h.1 (fun e => by cases e)) (Or.inl ⟨by rfl, ?hy105⟩) (by assumption) ?ty105
      case hy105 => (intro w5 hSw; (try dsimp only at hSw); obtain ⟨⟨⟨s0, s1⟩, t0, t1, t2, t3⟩, q0⟩ := hSw; dsimp only at s0 s1 t0 t1 t2 t3; go_simp; all_goals with_reducible rfl)
      simp only [Act.put, List.getElem_toArray, List.getElem_cons_zero, List.getElem_cons_succ, List.setIfInBounds_toArray, List.set_cons_zero, List.set_cons_succ]
      refine wpAnyH_take (i := 24) (v := ?_) rfl (by kernel_rfl) (by kernel_rfl) (by kernel_rfl) (fun _ _ _ h => absurd h.1 (fun e => by cases e)) (Or.inl ⟨by rfl, ?hy106⟩) (by assumption) ?ty106
      case hy106 => (intro w5 hSw; (try dsimp only at hSw); obtain ⟨⟨⟨s0, s1⟩, t0, t1, t2, t3⟩, q0⟩ := hSw; dsimp only at s0 s1 t0 t1 t2 t3; go_simp; all_goals with_reducible rfl)
      simp only [Act.put, List.getElem_toArray, List.getElem_cons_zero, List.getElem_cons_succ, List.setIfInBounds_toArray, List.set_cons_zero, List.set_cons_succ]
      refine wpAnyH_take (i := 25) (v := ?_) rfl (by kernel_rfl) (by kernel_rfl) (by kernel_rfl) (fun _ _ _ h => absurd h.1 (fun e => by cases e)) (Or.inl ⟨by rfl, ?hy107⟩) (by assumption) ?ty107
      case hy107 => (intro w5 hSw; (try dsimp only at hSw); obtain ⟨⟨⟨s0, s1⟩, t0, t1, t2, t3⟩, q0⟩ := hSw; dsimp only at s0 s1 t0 t1 t2 t3; go_simp; all_goals with_reducible rfl)
      simp only [Act.put, List.getElem_toArray, List.getElem_cons_zero, List.getElem_cons_succ, List.setIfInBounds_toArray, List.set_cons_zero, List.set_cons_succ]
      refine wpAnyH_take (i := 26) (v := ?_) rfl (by kernel_rfl) (by kernel_rfl) (by kernel_rfl) (fun _ _ _ h => absurd h.1 (fun e => by cases e)) (Or.inl ⟨by rfl, ?hy108⟩) (by assumption) ?ty108
      case hy108 => (intro w5 hSw; (try dsimp only at hSw); obtain ⟨⟨⟨s0, s1⟩, t0, t1, t2, t3⟩, q0⟩ := hSw; dsimp only at s0 s1 t0 t1 t2 t3; go_simp; all_goals with_reducible rfl)
      simp only [Act.put, List.getElem_toArray, List.getElem_cons_zero, List.getElem_cons_succ, List.setIfInBounds_toArray, List.set_cons_zero, List.set_cons_succ]
      refine wpAnyH_take (i := 27) (v := ?_) rfl (by kernel_rfl) (by kernel_rfl) (by kernel_rfl) (fun _ _ _ h => absurd h.1 (fun e => by cases e)) (Or.inl ⟨by rfl, ?hy109⟩) (by assumption) ?ty109
      case hy109 => (intro w5 hSw; (try dsimp only at hSw); obtain ⟨⟨⟨s0, s1⟩, t0, t1, t2, t3⟩, q0⟩ := hSw; dsimp only at s0 s1 t0 t1 t2 t3; go_simp; all_goals with_reducible rfl)
      simp only [Act.put, List.getElem_toArray, List.getElem_cons_zero, List.getElem_cons_succ, List.setIfInBounds_toArray, List.set_cons_zero, List.set_cons_succ]
      refine wpAnyH_take (i := 28) (v := .int .i64 (i : Int)) rfl (by kernel_rfl) (by kernel_rfl) (by kernel_rfl) (fun _ _ _ h => absurd h.1 (fun e => by cases e)) (Or.inl ⟨by rfl, ?hy110⟩) (by assumption) ?ty110
      case hy110 => (intro w5 hSw; (try dsimp only at hSw); obtain ⟨⟨⟨s0, s1⟩, t0, t1, t2, t3⟩, q0⟩ := hSw; dsimp only at s0 s1 t0 t1 t2 t3; go_simp; first | (all_goals with_reducible rfl) | (rw [Go.IntWalk.i64_left, Go.IntWalk.wrap64_in _ (by omega)]) | (rw [Go.IntWalk.i64_left, Go.IntWalk.wrap64_in _ (by omega)]; simp) | (rw [Go.IntWalk.i64_left, Go.IntWalk.wrap64_in _ (by omega)]; congr 1; omega) | (rw [Go.IntWalk.wrap64_in _ (by omega)]) | (rw [Go.IntWalk.wrap64_in _ (by omega)]; simp) | (rw [Go.IntWalk.wrap64_in _ (by omega)]; congr 1; omega) | (simp; omega) | (simp; done) | omega)
      simp only [Act.put, List.getElem_toArray, List.getElem_cons_zero, List.getElem_cons_succ, List.setIfInBounds_toArray, List.set_cons_zero, List.set_cons_succ]
      refine wpAnyH_take (i := 29) (v := ?_) rfl (by kernel_rfl) (by kernel_rfl) (by kernel_rfl) (fun _ _ _ h => absurd h.1 (fun e => by cases e)) (Or.inl ⟨by rfl, ?hy111⟩) (by assumption) ?ty111
      case hy111 => (intro w5 hSw; (try dsimp only at hSw); obtain ⟨⟨⟨s0, s1⟩, t0, t1, t2, t3⟩, q0⟩ := hSw; dsimp only at s0 s1 t0 t1 t2 t3; go_simp; all_goals with_reducible rfl)
      simp only [Act.put, List.getElem_toArray, List.getElem_cons_zero, List.getElem_cons_succ, List.setIfInBounds_toArray, List.set_cons_zero, List.set_cons_succ]
      refine wpAnyH_take (i := 30) (v := ?_) rfl (by kernel_rfl) (by kernel_rfl) (by kernel_rfl) (fun _ _ _ h => absurd h.1 (fun e => by cases e)) (Or.inl ⟨by rfl, ?hy112⟩) (by assumption) ?ty112
      case hy112 => (intro w5 hSw; (try dsimp only at hSw); obtain ⟨⟨⟨s0, s1⟩, t0, t1, t2, t3⟩, q0⟩ := hSw; dsimp only at s0 s1 t0 t1 t2 t3; go_simp; all_goals with_reducible rfl)
      simp only [Act.put, List.getElem_toArray, List.getElem_cons_zero, List.getElem_cons_succ, List.setIfInBounds_toArray, List.set_cons_zero, List.set_cons_succ]
      refine wpAnyH_take (i := 31) (v := ?_) rfl (by kernel_rfl) (by kernel_rfl) (by kernel_rfl) (fun _ _ _ h => absurd h.1 (fun e => by cases e)) (Or.inl ⟨by rfl, ?hy113⟩) (by assumption) ?ty113
      case hy113 => (intro w5 hSw; (try dsimp only at hSw); obtain ⟨⟨⟨s0, s1⟩, t0, t1, t2, t3⟩, q0⟩ := hSw; dsimp only at s0 s1 t0 t1 t2 t3; go_simp; all_goals with_reducible rfl)
      simp only [Act.put, List.getElem_toArray, List.getElem_cons_zero, List.getElem_cons_succ, List.setIfInBounds_toArray, List.set_cons_zero, List.set_cons_succ]
      refine wpAnyH_take (i := 32) (v := ?_) rfl (by kernel_rfl) (by kernel_rfl) (by kernel_rfl) (fun _ _ _ h => absurd h.1 (fun e => by cases e)) (Or.inl ⟨by rfl, ?hy114⟩) (by assumption) ?ty114
      case hy114 => (intro w5 hSw; (try dsimp only at hSw); obtain ⟨⟨⟨s0, s1⟩, t0, t1, t2, t3⟩, q0⟩ := hSw; dsimp only at s0 s1 t0 t1 t2 t3; go_simp; all_goals with_reducible rfl)
      simp only [Act.put, List.getElem_toArray, List.getElem_cons_zero, List.getElem_cons_succ, List.setIfInBounds_toArray, List.set_cons_zero, List.set_cons_succ]
      refine wpAnyH_take (i := 33) (v := .bool false) rfl (by kernel_rfl) (by kernel_rfl) (by kernel_rfl) (fun _ _ _ h => absurd h.1 (fun e => by cases e)) (Or.inl ⟨by rfl, ?hy115⟩) (by assumption) ?ty115
      case hy115 => (intro w5 hSw; (try dsimp only at hSw); obtain ⟨⟨⟨s0, s1⟩, t0, t1, t2, t3⟩, q0⟩ := hSw; dsimp only at s0 s1 t0 t1 t2 t3; go_simp; first | (all_goals with_reducible rfl) | (simp; done) | (simp [*]; done) | (simp; omega))
      simp only [Act.put, List.getElem_toArray, List.getElem_cons_zero, List.getElem_cons_succ, List.setIfInBounds_toArray, List.set_cons_zero, List.set_cons_succ]
      refine wpAnyH_take (i := 34) (v := .bool false) rfl (by kernel_rfl) (by kernel_rfl) (by kernel_rfl) (fun _ _ _ h => absurd h.1 (fun e => by cases e)) (Or.inl ⟨by rfl, ?hy116⟩) (by assumption) ?ty116
      case hy116 => (intro w5 hSw; (try dsimp only at hSw); obtain ⟨⟨⟨s0, s1⟩, t0, t1, t2, t3⟩, q0⟩ := hSw; dsimp only at s0 s1 t0 t1 t2 t3; go_simp; first | (all_goals with_reducible rfl) | (simp; done) | (simp [*]; done) | (simp; omega))
      simp only [Act.put, List.getElem_toArray, List.getElem_cons_zero, List.getElem_cons_succ, List.setIfInBounds_toArray, List.set_cons_zero, List.set_cons_succ]
      refine wpAnyH_take (i := 35) (v := .bool false) rfl (by kernel_rfl) (by kernel_rfl) (by kernel_rfl) (fun _ _ _ h => absurd h.1 (fun e => by cases e)) (Or.inl ⟨by rfl, ?hy117⟩) (by assumption) ?ty117
      case hy117 => (intro w5 hSw; (try dsimp only at hSw); obtain ⟨⟨⟨s0, s1⟩, t0, t1, t2, t3⟩, q0⟩ := hSw; dsimp only at s0 s1 t0 t1 t2 t3; go_simp; first | (all_goals with_reducible rfl) | (simp; done) | (simp [*]; done) | (simp; omega))
      simp only [Act.put, List.getElem_toArray, List.getElem_cons_zero, List.getElem_cons_succ, List.setIfInBounds_toArray, List.set_cons_zero, List.set_cons_succ]
      refine wpAnyH_take (i := 36) (v := .bool false) rfl (by kernel_rfl) (by kernel_rfl) (by kernel_rfl) (fun _ _ _ h => absurd h.1 (fun e => by cases e)) (Or.inl ⟨by rfl, ?hy118⟩) (by assumption) ?ty118
      case hy118 => (intro w5 hSw; (try dsimp only at hSw); obtain ⟨⟨⟨s0, s1⟩, t0, t1, t2, t3⟩, q0⟩ := hSw; dsimp only at s0 s1 t0 t1 t2 t3; go_simp; first | (all_goals with_reducible rfl) | (simp; done) | (simp [*]; done) | (simp; omega))
      simp only [Act.put, List.getElem_toArray, List.getElem_cons_zero, List.getElem_cons_succ, List.setIfInBounds_toArray, List.set_cons_zero, List.set_cons_succ]
      refine wpAnyH_done (by kernel_rfl) ?_ _
      clear hHeld
      refine ⟨rfl, ⟨hBa, hV8a, hma⟩, by first | kernel_rfl | rfl, by first | kernel_rfl | rfl⟩
    · clear HSI
      refine wp_region_held_drew (S := fun w' => (Dc w' g10 (.int .i64 c13, .int .i64 v13) ∧ Qc w' g8 (.string bn, .int .i64 bv, .int .i64 bx, .slice qa qn qc'))) (by kernel_rfl) ?hS119 (fun hHeld => ?_)
      case hS119 => exact ⟨hV10, hV8⟩
      refine wpAnyH_take (i := 0) (v := ?_) rfl (by kernel_rfl) (by kernel_rfl) (by kernel_rfl) (fun _ _ _ h => absurd h.1 (fun e => by cases e)) (Or.inl ⟨by rfl, ?hy120⟩) (by assumption) ?ty120
      case hy120 => (intro w5 hSw; (try dsimp only at hSw); obtain ⟨⟨s0, s1⟩, t0, t1, t2, t3⟩ := hSw; dsimp only at s0 s1 t0 t1 t2 t3; go_simp; all_goals with_reducible rfl)
      simp only [Act.put, List.getElem_toArray, List.getElem_cons_zero, List.setIfInBounds_toArray, List.set_cons_zero, List.set_cons_succ]
      refine wpAnyH_take (i := 1) (v := ?_) rfl (by kernel_rfl) (by kernel_rfl) (by kernel_rfl) (fun _ _ _ h => absurd h.1 (fun e => by cases e)) (Or.inl ⟨by rfl, ?hy121⟩) (by assumption) ?ty121
      case hy121 => (intro w5 hSw; (try dsimp only at hSw); obtain ⟨⟨s0, s1⟩, t0, t1, t2, t3⟩ := hSw; dsimp only at s0 s1 t0 t1 t2 t3; go_simp; all_goals with_reducible rfl)
      simp only [Act.put, List.getElem_toArray, List.getElem_cons_zero, List.getElem_cons_succ, List.setIfInBounds_toArray, List.set_cons_zero, List.set_cons_succ]
      refine wpAnyH_take (i := 2) (v := ?_) rfl (by kernel_rfl) (by kernel_rfl) (by kernel_rfl) (fun _ _ _ h => absurd h.1 (fun e => by cases e)) (Or.inl ⟨by rfl, ?hy122⟩) (by assumption) ?ty122
      case hy122 => (intro w5 hSw; (try dsimp only at hSw); obtain ⟨⟨s0, s1⟩, t0, t1, t2, t3⟩ := hSw; dsimp only at s0 s1 t0 t1 t2 t3; go_simp; all_goals with_reducible rfl)
      simp only [Act.put, List.getElem_toArray, List.getElem_cons_zero, List.getElem_cons_succ, List.setIfInBounds_toArray, List.set_cons_zero, List.set_cons_succ]
      refine wpAnyH_take (i := 3) (v := ?_) rfl (by kernel_rfl) (by kernel_rfl) (by kernel_rfl) (fun _ _ _ h => absurd h.1 (fun e => by cases e)) (Or.inl ⟨by rfl, ?hy123⟩) (by assumption) ?ty123
      case hy123 => (intro w5 hSw; (try dsimp only at hSw); obtain ⟨⟨s0, s1⟩, t0, t1, t2, t3⟩ := hSw; dsimp only at s0 s1 t0 t1 t2 t3; go_simp; all_goals with_reducible rfl)
      simp only [Act.put, List.getElem_toArray, List.getElem_cons_zero, List.getElem_cons_succ, List.setIfInBounds_toArray, List.set_cons_zero, List.set_cons_succ]
      refine wpAnyH_ready (rs := [4]) (by kernel_rfl) (by simp) ?_
      refine AllReadyH.cons rfl (fun K hK => ?_) AllReadyH.nil
      go_simp
      refine (HSQ.out _ (hm.below ((Below.refl _ _).drew))).mono ?_
      rintro e wa ⟨rfl, hba⟩
      have hba : Below W10.heap.size W10 wa := (Below.refl _ _).drew.trans hba
      have hV10a := hV10.below hba hV10.lt
      have hV8a := hV8.below hba hV8.lt
      have hBa := hB10.trans (hba.mono hB10.size)
      have hma := hm.below hba
      refine hK.out _ _ ⟨hV10a, hV8a⟩ (fun hHeld => ?_)
      clear hK K
      refine wpAnyH_take (i := 5) (v := ?_) rfl (by kernel_rfl) (by kernel_rfl) (by kernel_rfl) (fun _ _ _ h => absurd h.1 (fun e => by cases e)) (Or.inl ⟨by rfl, ?hy124⟩) (by assumption) ?ty124
      case hy124 => (intro w5 hSw; (try dsimp only at hSw); obtain ⟨⟨s0, s1⟩, t0, t1, t2, t3⟩ := hSw; dsimp only at s0 s1 t0 t1 t2 t3;have hf := HI0.out; go_simp; all_goals with_reducible rfl)
      simp only [Act.put, List.getElem_toArray, List.getElem_cons_zero, List.getElem_cons_succ, List.setIfInBounds_toArray, List.set_cons_zero, List.set_cons_succ]
      refine wpAnyH_take (i := 6) (v := .bool false) rfl (by kernel_rfl) (by kernel_rfl) (by kernel_rfl) (fun _ _ _ h => absurd h.1 (fun e => by cases e)) (Or.inl ⟨by rfl, ?hy125⟩) (by assumption) ?ty125
      case hy125 => (intro w5 hSw; (try dsimp only at hSw); obtain ⟨⟨s0, s1⟩, t0, t1, t2, t3⟩ := hSw; dsimp only at s0 s1 t0 t1 t2 t3; go_simp; first | (all_goals with_reducible rfl) | (simp; done) | (simp [*]; done) | (simp; omega))
      simp only [Act.put, List.getElem_toArray, List.getElem_cons_zero, List.getElem_cons_succ, List.setIfInBounds_toArray, List.set_cons_zero, List.set_cons_succ]
      refine wpAnyH_take (i := 7) (v := ?_) rfl (by kernel_rfl) (by kernel_rfl) (by kernel_rfl) (fun _ _ _ h => absurd h.1 (fun e => by cases e)) (Or.inl ⟨by rfl, ?hy126⟩) (by assumption) ?ty126
      case hy126 => (intro w5 hSw; (try dsimp only at hSw); obtain ⟨⟨s0, s1⟩, t0, t1, t2, t3⟩ := hSw; dsimp only at s0 s1 t0 t1 t2 t3; go_simp; all_goals with_reducible rfl)
      simp only [Act.put, List.getElem_toArray, List.getElem_cons_zero, List.getElem_cons_succ, List.setIfInBounds_toArray, List.set_cons_zero, List.set_cons_succ]
      refine wpAnyH_take (i := 8) (v := ?_) rfl (by kernel_rfl) (by kernel_rfl) (by kernel_rfl) (fun _ _ _ h => absurd h.1 (fun e => by cases e)) (Or.inl ⟨by rfl, ?hy127⟩) (by assumption) ?ty127
      case hy127 => (intro w5 hSw; (try dsimp only at hSw); obtain ⟨⟨s0, s1⟩, t0, t1, t2, t3⟩ := hSw; dsimp only at s0 s1 t0 t1 t2 t3; go_simp; all_goals with_reducible rfl)
      simp only [Act.put, List.getElem_toArray, List.getElem_cons_zero, List.getElem_cons_succ, List.setIfInBounds_toArray, List.set_cons_zero, List.set_cons_succ]
      refine wpAnyH_take (i := 9) (v := ?_) rfl (by kernel_rfl) (by kernel_rfl) (by kernel_rfl) (fun _ _ _ h => absurd h.1 (fun e => by cases e)) (Or.inl ⟨by rfl, ?hy128⟩) (by assumption) ?ty128
      case hy128 => (intro w5 hSw; (try dsimp only at hSw); obtain ⟨⟨s0, s1⟩, t0, t1, t2, t3⟩ := hSw; dsimp only at s0 s1 t0 t1 t2 t3; go_simp; all_goals with_reducible rfl)
      simp only [Act.put, List.getElem_toArray, List.getElem_cons_zero, List.getElem_cons_succ, List.setIfInBounds_toArray, List.set_cons_zero, List.set_cons_succ]
      refine wpAnyH_take (i := 10) (v := .bool false) rfl (by kernel_rfl) (by kernel_rfl) (by kernel_rfl) (fun _ _ _ h => absurd h.1 (fun e => by cases e)) (Or.inl ⟨by rfl, ?hy129⟩) (by assumption) ?ty129
      case hy129 => (intro w5 hSw; (try dsimp only at hSw); obtain ⟨⟨s0, s1⟩, t0, t1, t2, t3⟩ := hSw; dsimp only at s0 s1 t0 t1 t2 t3; go_simp; first | (all_goals with_reducible rfl) | (simp; done) | (simp [*]; done) | (simp; omega))
      simp only [Act.put, List.getElem_toArray, List.getElem_cons_zero, List.getElem_cons_succ, List.setIfInBounds_toArray, List.set_cons_zero, List.set_cons_succ]
      refine wpAnyH_take (i := 11) (v := ?_) rfl (by kernel_rfl) (by kernel_rfl) (by kernel_rfl) (fun _ _ _ h => absurd h.1 (fun e => by cases e)) (Or.inl ⟨by rfl, ?hy130⟩) (by assumption) ?ty130
      case hy130 => (intro w5 hSw; (try dsimp only at hSw); obtain ⟨⟨s0, s1⟩, t0, t1, t2, t3⟩ := hSw; dsimp only at s0 s1 t0 t1 t2 t3; go_simp; all_goals with_reducible rfl)
      simp only [Act.put, List.getElem_toArray, List.getElem_cons_zero, List.getElem_cons_succ, List.setIfInBounds_toArray, List.set_cons_zero, List.set_cons_succ]
      refine wpAnyH_take (i := 12) (v := undef) rfl (by kernel_rfl) (by kernel_rfl) (by kernel_rfl) (fun _ _ _ h => absurd h.1 (fun e => by cases e)) (Or.inr ⟨by rfl, rfl⟩) (by assumption) ?_
      simp only [Act.put, List.getElem_toArray, List.getElem_cons_zero, List.getElem_cons_succ, List.setIfInBounds_toArray, List.set_cons_zero, List.set_cons_succ]
      refine wpAnyH_take (i := 13) (v := undef) rfl (by kernel_rfl) (by kernel_rfl) (by kernel_rfl) (fun _ _ _ h => absurd h.1 (fun e => by cases e)) (Or.inr ⟨by rfl, rfl⟩) (by assumption) ?_
      simp only [Act.put, List.getElem_toArray, List.getElem_cons_zero, List.getElem_cons_succ, List.setIfInBounds_toArray, List.set_cons_zero, List.set_cons_succ]
      refine wpAnyH_take (i := 14) (v := undef) rfl (by kernel_rfl) (by kernel_rfl) (by kernel_rfl) (fun _ _ _ h => absurd h.1 (fun e => by cases e)) (Or.inr ⟨by rfl, rfl⟩) (by assumption) ?_
      simp only [Act.put, List.getElem_toArray, List.getElem_cons_zero, List.getElem_cons_succ, List.setIfInBounds_toArray, List.set_cons_zero, List.set_cons_succ]
      refine wpAnyH_take (i := 15) (v := undef) rfl (by kernel_rfl) (by kernel_rfl) (by kernel_rfl) (fun _ _ _ h => absurd h.1 (fun e => by cases e)) (Or.inr ⟨by rfl, rfl⟩) (by assumption) ?_
      simp only [Act.put, List.getElem_toArray, List.getElem_cons_zero, List.getElem_cons_succ, List.setIfInBounds_toArray, List.set_cons_zero, List.set_cons_succ]
      refine wpAnyH_take (i := 16) (v := undef) rfl (by kernel_rfl) (by kernel_rfl) (by kernel_rfl) (fun _ _ _ h => absurd h.1 (fun e => by cases e)) (Or.inr ⟨by rfl, rfl⟩) (by assumption) ?_
      simp only [Act.put, List.getElem_toArray, List.getElem_cons_zero, List.getElem_cons_succ, List.setIfInBounds_toArray, List.set_cons_zero, List.set_cons_succ]
      refine wpAnyH_take (i := 17) (v := undef) rfl (by kernel_rfl) (by kernel_rfl) (by kernel_rfl) (fun _ _ _ h => absurd h.1 (fun e => by cases e)) (Or.inr ⟨by rfl, rfl⟩) (by assumption) ?_
      simp only [Act.put, List.getElem_toArray, List.getElem_cons_zero, List.getElem_cons_succ, List.setIfInBounds_toArray, List.set_cons_zero, List.set_cons_succ]
      refine wpAnyH_take (i := 18) (v := undef) rfl (by kernel_rfl) (by kernel_rfl) (by kernel_rfl) (fun _ _ _ h => absurd h.1 (fun e => by cases e)) (Or.inr ⟨by rfl, rfl⟩) (by assumption) ?_
      simp only [Act.put, List.getElem_toArray, List.getElem_cons_zero, List.getElem_cons_succ, List.setIfInBounds_toArray, List.set_cons_zero, List.set_cons_succ]
      refine wpAnyH_take (i := 19) (v := undef) rfl (by kernel_rfl) (by kernel_rfl) (by kernel_rfl) (fun _ _ _ h => absurd h.1 (fun e => by cases e)) (Or.inr ⟨by rfl, rfl⟩) (by assumption) ?_
      simp only [Act.put, List.getElem_toArray, List.getElem_cons_zero, List.getElem_cons_succ, List.setIfInBounds_toArray, List.set_cons_zero, List.set_cons_succ]
      refine wpAnyH_take (i := 20) (v := undef) rfl (by kernel_rfl) (by kernel_rfl) (by kernel_rfl) (fun _ _ _ h => absurd h.1 (fun e => by cases e)) (Or.inr ⟨by rfl, rfl⟩) (by assumption) ?_
      simp only [Act.put, List.getElem_toArray, List.getElem_cons_zero, List.getElem_cons_succ, List.setIfInBounds_toArray, List.set_cons_zero, List.set_cons_succ]
      refine wpAnyH_take (i := 21) (v := undef) rfl (by kernel_rfl) (by kernel_rfl) (by kernel_rfl) (fun _ _ _ h => absurd h.1 (fun e => by cases e)) (Or.inr ⟨by rfl, rfl⟩) (by assumption) ?_
      simp only [Act.put, List.getElem_toArray, List.getElem_cons_zero, List.getElem_cons_succ, List.setIfInBounds_toArray, List.set_cons_zero, List.set_cons_succ]
      refine wpAnyH_take (i := 22) (v := undef) rfl (by kernel_rfl) (by kernel_rfl) (by kernel_rfl) (fun _ _ _ h => absurd h.1 (fun e => by cases e)) (Or.inr ⟨by rfl, rfl⟩) (by assumption) ?_
      simp only [Act.put, List.getElem_toArray, List.getElem_cons_zero, List.getElem_cons_succ, List.setIfInBounds_toArray, List.set_cons_zero, List.set_cons_succ]
      refine wpAnyH_take (i := 23) (v := undef) rfl (by kernel_rfl) (by kernel_rfl) (by kernel_rfl) (fun _ _ _ h => absurd h.1 (fun e => by cases e)) (Or.inr ⟨by rfl, rfl⟩) (by assumption) ?_
      simp only [Act.put, List.getElem_toArray, List.getElem_cons_zero, List.getElem_cons_succ, List.setIfInBounds_toArray, List.set_cons_zero, List.set_cons_succ]
      refine wpAnyH_take (i := 24) (v := undef) rfl (by kernel_rfl) (by kernel_rfl) (by kernel_rfl) (fun _ _ _ h => absurd h.1 (fun e => by cases e)) (Or.inr ⟨by rfl, rfl⟩) (by assumption) ?_
      simp only [Act.put, List.getElem_toArray, List.getElem_cons_zero, List.getElem_cons_succ, List.setIfInBounds_toArray, List.set_cons_zero, List.set_cons_succ]
      refine wpAnyH_take (i := 25) (v := undef) rfl (by kernel_rfl) (by kernel_rfl) (by kernel_rfl) (fun _ _ _ h => absurd h.1 (fun e => by cases e)) (Or.inr ⟨by rfl, rfl⟩) (by assumption) ?_
      simp only [Act.put, List.getElem_toArray, List.getElem_cons_zero, List.getElem_cons_succ, List.setIfInBounds_toArray, List.set_cons_zero, List.set_cons_succ]
      refine wpAnyH_take (i := 26) (v := undef) rfl (by kernel_rfl) (by kernel_rfl) (by kernel_rfl) (fun _ _ _ h => absurd h.1 (fun e => by cases e)) (Or.inr ⟨by rfl, rfl⟩) (by assumption) ?_
      simp only [Act.put, List.getElem_toArray, List.getElem_cons_zero, List.getElem_cons_succ, List.setIfInBounds_toArray, List.set_cons_zero, List.set_cons_succ]
      refine wpAnyH_take (i := 27) (v := undef) rfl (by kernel_rfl) (by kernel_rfl) (by kernel_rfl) (fun _ _ _ h => absurd h.1 (fun e => by cases e)) (Or.inr ⟨by rfl, rfl⟩) (by assumption) ?_
      simp only [Act.put, List.getElem_toArray, List.getElem_cons_zero, List.getElem_cons_succ, List.setIfInBounds_toArray, List.set_cons_zero, List.set_cons_succ]
      refine wpAnyH_take (i := 28) (v := undef) rfl (by kernel_rfl) (by kernel_rfl) (by kernel_rfl) (fun _ _ _ h => absurd h.1 (fun e => by cases e)) (Or.inr ⟨by rfl, rfl⟩) (by assumption) ?_
      simp only [Act.put, List.getElem_toArray, List.getElem_cons_zero, List.getElem_cons_succ, List.setIfInBounds_toArray, List.set_cons_zero, List.set_cons_succ]
      refine wpAnyH_take (i := 29) (v := undef) rfl (by kernel_rfl) (by kernel_rfl) (by kernel_rfl) (fun _ _ _ h => absurd h.1 (fun e => by cases e)) (Or.inr ⟨by rfl, rfl⟩) (by assumption) ?_
      simp only [Act.put, List.getElem_toArray, List.getElem_cons_zero, List.getElem_cons_succ, List.setIfInBounds_toArray, List.set_cons_zero, List.set_cons_succ]
      refine wpAnyH_take (i := 30) (v := undef) rfl (by kernel_rfl) (by kernel_rfl) (by kernel_rfl) (fun _ _ _ h => absurd h.1 (fun e => by cases e)) (Or.inr ⟨by rfl, rfl⟩) (by assumption) ?_
      simp only [Act.put, List.getElem_toArray, List.getElem_cons_zero, List.getElem_cons_succ, List.setIfInBounds_toArray, List.set_cons_zero, List.set_cons_succ]
      refine wpAnyH_take (i := 31) (v := undef) rfl (by kernel_rfl) (by kernel_rfl) (by kernel_rfl) (fun _ _ _ h => absurd h.1 (fun e => by cases e)) (Or.inr ⟨by rfl, rfl⟩) (by assumption) ?_
      simp only [Act.put, List.getElem_toArray, List.getElem_cons_zero, List.getElem_cons_succ, List.setIfInBounds_toArray, List.set_cons_zero, List.set_cons_succ]
      refine wpAnyH_take (i := 32) (v := undef) rfl (by kernel_rfl) (by kernel_rfl) (by kernel_rfl) (fun _ _ _ h => absurd h.1 (fun e => by cases e)) (Or.inr ⟨by rfl, rfl⟩) (by assumption) ?_
      simp only [Act.put, List.getElem_toArray, List.getElem_cons_zero, List.getElem_cons_succ, List.setIfInBounds_toArray, List.set_cons_zero, List.set_cons_succ]
      refine wpAnyH_take (i := 33) (v := undef) rfl (by kernel_rfl) (by kernel_rfl) (by kernel_rfl) (fun _ _ _ h => absurd h.1 (fun e => by cases e)) (Or.inr ⟨by rfl, rfl⟩) (by assumption) ?_
      simp only [Act.put, List.getElem_toArray, List.getElem_cons_zero, List.getElem_cons_succ, List.setIfInBounds_toArray, List.set_cons_zero, List.set_cons_succ]
      refine wpAnyH_take (i := 34) (v := undef) rfl (by kernel_rfl) (by kernel_rfl) (by kernel_rfl) (fun _ _ _ h => absurd h.1 (fun e => by cases e)) (Or.inr ⟨by rfl, rfl⟩) (by assumption) ?_
      simp only [Act.put, List.getElem_toArray, List.getElem_cons_zero, List.getElem_cons_succ, List.setIfInBounds_toArray, List.set_cons_zero, List.set_cons_succ]
      refine wpAnyH_take (i := 35) (v := .bool false) rfl (by kernel_rfl) (by kernel_rfl) (by kernel_rfl) (fun _ _ _ h => absurd h.1 (fun e => by cases e)) (Or.inl ⟨by rfl, ?hy131⟩) (by assumption) ?ty131
      case hy131 => (intro w5 hSw; (try dsimp only at hSw); obtain ⟨⟨s0, s1⟩, t0, t1, t2, t3⟩ := hSw; dsimp only at s0 s1 t0 t1 t2 t3; go_simp; first | (all_goals with_reducible rfl) | (simp; done) | (simp [*]; done) | (simp; omega))
      simp only [Act.put, List.getElem_toArray, List.getElem_cons_zero, List.getElem_cons_succ, List.setIfInBounds_toArray, List.set_cons_zero, List.set_cons_succ]
      refine wpAnyH_take (i := 36) (v := .bool false) rfl (by kernel_rfl) (by kernel_rfl) (by kernel_rfl) (fun _ _ _ h => absurd h.1 (fun e => by cases e)) (Or.inl ⟨by rfl, ?hy132⟩) (by assumption) ?ty132
      case hy132 => (intro w5 hSw; (try dsimp only at hSw); obtain ⟨⟨s0, s1⟩, t0, t1, t2, t3⟩ := hSw; dsimp only at s0 s1 t0 t1 t2 t3; go_simp; first | (all_goals with_reducible rfl) | (simp; done) | (simp [*]; done) | (simp; omega))
      simp only [Act.put, List.getElem_toArray, List.getElem_cons_zero, List.getElem_cons_succ, List.setIfInBounds_toArray, List.set_cons_zero, List.set_cons_succ]
      refine wpAnyH_done (by kernel_rfl) ?_ _
      clear hHeld
      refine ⟨rfl, ⟨hBa, hV8a, hma⟩, by first | kernel_rfl | rfl, by first | kernel_rfl | rfl⟩
  obtain - | ⟨x0, vs⟩ := vs
  · simp at hlv
  obtain - | ⟨x1, vs⟩ := vs
  · simp at hlv
  obtain - | ⟨x2, vs⟩ := vs
  · simp at hlv
  obtain - | ⟨x3, vs⟩ := vs
  · simp at hlv
  obtain - | ⟨x4, vs⟩ := vs
  · simp at hlv
  obtain - | ⟨x5, vs⟩ := vs
  · simp at hlv
  obtain - | ⟨x6, vs⟩ := vs
  · simp at hlv
  obtain - | ⟨x7, vs⟩ := vs
  · simp at hlv
  obtain - | ⟨x8, vs⟩ := vs
  · simp at hlv
  obtain - | ⟨x9, vs⟩ := vs
  · simp at hlv
  obtain - | ⟨x10, vs⟩ := vs
  · simp at hlv
  obtain - | ⟨x11, vs⟩ := vs
  · simp at hlv
  obtain - | ⟨x12, vs⟩ := vs
  · simp at hlv
  obtain - | ⟨x13, vs⟩ := vs
  · simp at hlv
  obtain - | ⟨x14, vs⟩ := vs
  · simp at hlv
  obtain - | ⟨x15, vs⟩ := vs
  · simp at hlv
  obtain - | ⟨x16, vs⟩ := vs
  · simp at hlv
  obtain - | ⟨x17, vs⟩ := vs
  · simp at hlv
  obtain - | ⟨x18, vs⟩ := vs
  · simp at hlv
  obtain - | ⟨x19, vs⟩ := vs
  · simp at hlv
  obtain - | ⟨x20, vs⟩ := vs
  · simp at hlv
  obtain - | ⟨x21, vs⟩ := vs
  · simp at hlv
  obtain - | ⟨x22, vs⟩ := vs
  · simp at hlv
  obtain - | ⟨x23, vs⟩ := vs
  · simp at hlv
  obtain - | ⟨x24, vs⟩ := vs
  · simp at hlv
  obtain - | ⟨x25, vs⟩ := vs
  · simp at hlv
  obtain - | ⟨x26, vs⟩ := vs
  · simp at hlv
  obtain - | ⟨x27, vs⟩ := vs
  · simp at hlv
  obtain - | ⟨x28, vs⟩ := vs
  · simp at hlv
  obtain - | ⟨x29, vs⟩ := vs
  · simp at hlv
  obtain - | ⟨x30, vs⟩ := vs
  · simp at hlv
  obtain - | ⟨x31, vs⟩ := vs
  · simp at hlv
  obtain - | ⟨x32, vs⟩ := vs
  · simp at hlv
  obtain - | ⟨x33, vs⟩ := vs
  · simp at hlv
  obtain - | ⟨x34, vs⟩ := vs
  · simp at hlv
  obtain - | ⟨x35, vs⟩ := vs
  · simp at hlv
  obtain - | ⟨x36, vs⟩ := vs
  · simp at hlv
  obtain - | ⟨y, vs⟩ := vs
  rotate_left
  · simp at hlv
  have hfv : x36 = .bool false := by simpa using hfv
  subst hfv
  clear hlv
  simp only [putAll, Act.put, List.setIfInBounds_toArray, List.set_cons_zero, List.set_cons_succ]
  obtain ⟨hB12, hV8b, hm12⟩ := hBW
  clear hV8 hV10 hm hB10 HSI HSQ
  go_wp2_with fail
  refine (HDF.out W (HRD.out W hB12)).mono ?_
  rintro e w13 ⟨fl, rfl, hb13⟩
  have hB13 := hB12.trans (hb13.mono hB12.size)
  have hV8 := hV8b.below hb13 hV8b.lt
  have hm := hm12.below hb13
  clear hV8b hm12 hB12 hb13
  go_wp2_with fail
  refine (flagsTextR_any fl w13 (HTF.out w13 hB13)).mono ?_
  rintro e w14 ⟨rfl, hb14⟩
  have hB14 := hB13.trans (hb14.mono hB13.size)
  have hV8 := hV8.below hb14 hV8.lt
  have hm := hm.below hb14
  clear hB13 hb14
  have HSF := specFlagsText_any fl
  by_cases hfl : 0 ≤ fl ∧ fl ≤ 15
  · obtain ⟨k, rfl⟩ := Int.eq_ofNat_of_zero_le hfl.1
    have hk : k < 16 := by omega
    have eF : ftV (k : Int) = (0, fxL k) := by unfold ftV; rw [if_pos hfl]; rfl
    have HPK := ft_pf k hk
    have HPP : Hid (∀ w' : World, Below w.heap.size w w' → Calls Tryd.prog 7 #[.string (str (fxL k))] w' fun e w'' => e = .returned (.agg #[.int .i64 (pfV (str (fxL k))).1, .int .i64 (pfV (str (fxL k))).2]) ∧ Below w'.heap.size w' w'') := fun w' h => parseFlags_any (str (fxL k)) w' (HTF.out w' h)
    rw [HPK] at HPP
    rw [eF]
    dsimp only at HPP ⊢
    clear HPK eF HSF
    have HBF : Hid (∀ w' : World, IsMs lo8 w' (qa, qn, qc') bm → Calls Tryd.prog 18 #[bxX ⟨bn, bv, bx, bm⟩ (qa, qn, qc')] w' fun e w'' => e = .returned (.int .i64 (bfV ⟨bn, bv, bx, bm⟩)) ∧ Below w'.heap.size w' w'') := fun w' h => boxFault_any ⟨bn, bv, bx, bm⟩ (qa, qn, qc') w' h hbn
    have HBG : Hid (∀ w' : World, IsMs lo8 w' (qa, qn, qc') bm → Calls Tryd.prog 19 #[bxX ⟨bn, bv, bx, bm⟩ (qa, qn, qc')] w' fun e w'' => e = .returned (.int .i64 (bfV ⟨bn, bv, bx, bm⟩)) ∧ Below w'.heap.size w' w'') := fun w' h => specBoxFault_any ⟨bn, bv, bx, bm⟩ (qa, qn, qc') w' h hbn
    generalize bfV ⟨bn, bv, bx, bm⟩ = fv at *
    generalize str (fxL k) = T at *
    have hbA : Below w14.heap.size w14 (w14.alloc (.cells #[.int .i64 0, .string T] 29)) := (Below.refl _ _).alloc (Nat.le_refl _) _
    have hV12z := Dc.new w14 (.int .i64 0) (.string T) 29
    have hV8z := hV8.below hbA hV8.lt
    have hmz := hm.below hbA
    have hBz := hB14.trans (hbA.mono hB14.size)
    clear hV8 hm hB14 hbA
    go_wp2_with fail
    generalize w14.alloc (.cells #[.int .i64 0, .string T] 29) = W12 at *
    generalize w14.heap.size = g12 at *
    refine wp_region_held_drew (S := fun w' => Dc w' g12 (.int .i64 0, .string T) ∧ Qc w' g8 (.string bn, .int .i64 bv, .int .i64 bx, .slice qa qn qc')) (by kernel_rfl) ?hS133 (fun hHeld => ?_)
    case hS133 => exact ⟨hV12z, hV8z⟩
    refine wpAnyH_take (i := 0) (v := ?_) rfl (by kernel_rfl) (by kernel_rfl) (by kernel_rfl) (fun _ _ _ h => h) (Or.inl ⟨by rfl, ?hy134⟩) (by assumption) ?ty134
    case hy134 => (intro w5 hSw; (try dsimp only at hSw); obtain ⟨⟨s0, s1⟩, t0, t1, t2, t3⟩ := hSw; dsimp only at s0 s1 t0 t1 t2 t3; go_simp; all_goals with_reducible rfl)
    simp only [Act.put, List.getElem_toArray, List.getElem_cons_zero, List.setIfInBounds_toArray, List.set_cons_zero, List.set_cons_succ]
    refine wpAnyH_take (i := 1) (v := ?_) rfl (by kernel_rfl) (by kernel_rfl) (by kernel_rfl) (fun _ _ _ h => h) (Or.inl ⟨by rfl, ?hy135⟩) (by assumption) ?ty135
    case hy135 => (intro w5 hSw; (try dsimp only at hSw); obtain ⟨⟨s0, s1⟩, t0, t1, t2, t3⟩ := hSw; dsimp only at s0 s1 t0 t1 t2 t3; go_simp; all_goals with_reducible rfl)
    simp only [Act.put, List.getElem_toArray, List.getElem_cons_zero, List.getElem_cons_succ, List.setIfInBounds_toArray, List.set_cons_zero, List.set_cons_succ]
    refine wpAnyH_take (i := 4) (v := ?_) rfl (by kernel_rfl) (by kernel_rfl) (by kernel_rfl) (fun _ _ _ h => h) (Or.inl ⟨by rfl, ?hy136⟩) (by assumption) ?ty136
    case hy136 => (intro w5 hSw; (try dsimp only at hSw); obtain ⟨⟨s0, s1⟩, t0, t1, t2, t3⟩ := hSw; dsimp only at s0 s1 t0 t1 t2 t3; go_simp; all_goals with_reducible rfl)
    simp only [Act.put, List.getElem_toArray, List.getElem_cons_zero, List.getElem_cons_succ, List.setIfInBounds_toArray, List.set_cons_zero, List.set_cons_succ]
    refine wpAnyH_ready (rs := [2]) (by kernel_rfl) (by simp) ?_
    refine AllReadyH.cons rfl (fun K hK => ?_) AllReadyH.nil
    go_simp
    refine (HPP.out _ (hBz.trans (Below.refl _ _).drew)).mono ?_
    rintro e wa ⟨rfl, hba⟩
    have hba : Below W12.heap.size W12 wa := (Below.refl _ _).drew.trans hba
    have hV12a := hV12z.below hba hV12z.lt
    have hV8a := hV8z.below hba hV8z.lt
    have hma := hmz.below hba
    have hBa := hBz.trans (hba.mono hBz.size)
    refine hK.out _ _ ⟨hV12a, hV8a⟩ (fun hHeld => ?_)
    clear hK K
    refine wpAnyH_take (i := 3) (v := ?_) rfl (by kernel_rfl) (by kernel_rfl) (by kernel_rfl) (fun _ _ _ h => h) (Or.inl ⟨by rfl, ?hy137⟩) (by assumption) ?ty137
    case hy137 => (intro w5 hSw; (try dsimp only at hSw); obtain ⟨⟨s0, s1⟩, t0, t1, t2, t3⟩ := hSw; dsimp only at s0 s1 t0 t1 t2 t3;have hf := HI1.out; go_simp; all_goals with_reducible rfl)
    simp only [Act.put, List.getElem_toArray, List.getElem_cons_zero, List.getElem_cons_succ, List.setIfInBounds_toArray, List.set_cons_zero, List.set_cons_succ]
    refine wpAnyH_take (i := 5) (v := .bool true) rfl (by kernel_rfl) (by kernel_rfl) (by kernel_rfl) (fun _ _ _ h => h) (Or.inl ⟨by rfl, ?hy138⟩) (by assumption) ?ty138
    case hy138 => (intro w5 hSw; (try dsimp only at hSw); obtain ⟨⟨s0, s1⟩, t0, t1, t2, t3⟩ := hSw; dsimp only at s0 s1 t0 t1 t2 t3; go_simp; first | (all_goals with_reducible rfl) | (simp; done) | (simp [*]; done) | (simp; omega))
    simp only [Act.put, List.getElem_toArray, List.getElem_cons_zero, List.getElem_cons_succ, List.setIfInBounds_toArray, List.set_cons_zero, List.set_cons_succ]
    refine wpAnyH_take (i := 6) (v := ?_) rfl (by kernel_rfl) (by kernel_rfl) (by kernel_rfl) (fun _ _ _ h => h) (Or.inl ⟨by rfl, ?hy139⟩) (by assumption) ?ty139
    case hy139 => (intro w5 hSw; (try dsimp only at hSw); obtain ⟨⟨s0, s1⟩, t0, t1, t2, t3⟩ := hSw; dsimp only at s0 s1 t0 t1 t2 t3; go_simp; all_goals with_reducible rfl)
    simp only [Act.put, List.getElem_toArray, List.getElem_cons_zero, List.getElem_cons_succ, List.setIfInBounds_toArray, List.set_cons_zero, List.set_cons_succ]
    refine wpAnyH_take (i := 7) (v := ?_) rfl (by kernel_rfl) (by kernel_rfl) (by kernel_rfl) (fun _ _ _ h => h) (Or.inl ⟨by rfl, ?hy140⟩) (by assumption) ?ty140
    case hy140 => (intro w5 hSw; (try dsimp only at hSw); obtain ⟨⟨s0, s1⟩, t0, t1, t2, t3⟩ := hSw; dsimp only at s0 s1 t0 t1 t2 t3; go_simp; all_goals with_reducible rfl)
    simp only [Act.put, List.getElem_toArray, List.getElem_cons_zero, List.getElem_cons_succ, List.setIfInBounds_toArray, List.set_cons_zero, List.set_cons_succ]
    refine wpAnyH_take (i := 8) (v := ?_) rfl (by kernel_rfl) (by kernel_rfl) (by kernel_rfl) (fun _ _ _ h => h) (Or.inl ⟨by rfl, ?hy141⟩) (by assumption) ?ty141
    case hy141 => (intro w5 hSw; (try dsimp only at hSw); obtain ⟨⟨s0, s1⟩, t0, t1, t2, t3⟩ := hSw; dsimp only at s0 s1 t0 t1 t2 t3; go_simp; all_goals with_reducible rfl)
    simp only [Act.put, List.getElem_toArray, List.getElem_cons_zero, List.getElem_cons_succ, List.setIfInBounds_toArray, List.set_cons_zero, List.set_cons_succ]
    refine wpAnyH_ready (rs := [9]) (by kernel_rfl) (by simp) ?_
    refine AllReadyH.cons rfl (fun K hK => ?_) AllReadyH.nil
    go_simp
    refine (HPP.out _ hBa).mono ?_
    rintro e wb ⟨rfl, hbb⟩
    have hV12b := hV12a.below hbb hV12a.lt
    have hV8b := hV8a.below hbb hV8a.lt
    have hmb := hma.below hbb
    have hBb := hBa.trans (hbb.mono hBa.size)
    refine hK.out _ _ ⟨hV12b, hV8b⟩ (fun hHeld => ?_)
    clear hK K
    refine wpAnyH_take (i := 10) (v := ?_) rfl (by kernel_rfl) (by kernel_rfl) (by kernel_rfl) (fun _ _ _ h => h) (Or.inl ⟨by rfl, ?hy142⟩) (by assumption) ?ty142
    case hy142 => (intro w5 hSw; (try dsimp only at hSw); obtain ⟨⟨s0, s1⟩, t0, t1, t2, t3⟩ := hSw; dsimp only at s0 s1 t0 t1 t2 t3;have hf := HI0.out; go_simp; all_goals with_reducible rfl)
    simp only [Act.put, List.getElem_toArray, List.getElem_cons_zero, List.getElem_cons_succ, List.setIfInBounds_toArray, List.set_cons_zero, List.set_cons_succ]
    refine wpAnyH_take (i := 11) (v := .bool true) rfl (by kernel_rfl) (by kernel_rfl) (by kernel_rfl) (fun _ _ _ h => h) (Or.inl ⟨by rfl, ?hy143⟩) (by assumption) ?ty143
    case hy143 => (intro w5 hSw; (try dsimp only at hSw); obtain ⟨⟨s0, s1⟩, t0, t1, t2, t3⟩ := hSw; dsimp only at s0 s1 t0 t1 t2 t3; go_simp; first | (all_goals with_reducible rfl) | (simp; done) | (simp [*]; done) | (simp; omega))
    simp only [Act.put, List.getElem_toArray, List.getElem_cons_zero, List.getElem_cons_succ, List.setIfInBounds_toArray, List.set_cons_zero, List.set_cons_succ]
    refine wpAnyH_take (i := 12) (v := .bool true) rfl (by kernel_rfl) (by kernel_rfl) (by kernel_rfl) (fun _ _ _ h => h) (Or.inl ⟨by rfl, ?hy144⟩) (by assumption) ?ty144
    case hy144 => (intro w5 hSw; (try dsimp only at hSw); obtain ⟨⟨s0, s1⟩, t0, t1, t2, t3⟩ := hSw; dsimp only at s0 s1 t0 t1 t2 t3; go_simp; first | (all_goals with_reducible rfl) | (simp; done) | (simp [*]; done) | (simp; omega))
    simp only [Act.put, List.getElem_toArray, List.getElem_cons_zero, List.getElem_cons_succ, List.setIfInBounds_toArray, List.set_cons_zero, List.set_cons_succ]
    refine wpAnyH_take (i := 13) (v := ?_) rfl (by kernel_rfl) (by kernel_rfl) (by kernel_rfl) (fun _ _ _ h => h) (Or.inl ⟨by rfl, ?hy145⟩) (by assumption) ?ty145
    case hy145 => (intro w5 hSw; (try dsimp only at hSw); obtain ⟨⟨s0, s1⟩, t0, t1, t2, t3⟩ := hSw; dsimp only at s0 s1 t0 t1 t2 t3; go_simp; all_goals with_reducible rfl)
    simp only [Act.put, List.getElem_toArray, List.getElem_cons_zero, List.getElem_cons_succ, List.setIfInBounds_toArray, List.set_cons_zero, List.set_cons_succ]
    refine wpAnyH_take (i := 14) (v := ?_) rfl (by kernel_rfl) (by kernel_rfl) (by kernel_rfl) (fun _ _ _ h => h) (Or.inl ⟨by rfl, ?hy146⟩) (by assumption) ?ty146
    case hy146 => (intro w5 hSw; (try dsimp only at hSw); obtain ⟨⟨s0, s1⟩, t0, t1, t2, t3⟩ := hSw; dsimp only at s0 s1 t0 t1 t2 t3; go_simp; all_goals with_reducible rfl)
    simp only [Act.put, List.getElem_toArray, List.getElem_cons_zero, List.getElem_cons_succ, List.setIfInBounds_toArray, List.set_cons_zero, List.set_cons_succ]
    refine wpAnyH_take (i := 16) (v := ?_) rfl (by kernel_rfl) (by kernel_rfl) (by kernel_rfl) (fun _ _ _ h => h) (Or.inl ⟨by rfl, ?hy147⟩) (by assumption) ?ty147
    case hy147 => (intro w5 hSw; (try dsimp only at hSw); obtain ⟨⟨s0, s1⟩, t0, t1, t2, t3⟩ := hSw; dsimp only at s0 s1 t0 t1 t2 t3; go_simp; all_goals with_reducible rfl)
    simp only [Act.put, List.getElem_toArray, List.getElem_cons_zero, List.getElem_cons_succ, List.setIfInBounds_toArray, List.set_cons_zero, List.set_cons_succ]
    refine wpAnyH_ready (rs := [15]) (by kernel_rfl) (by simp) ?_
    refine AllReadyH.cons rfl (fun K hK => ?_) AllReadyH.nil
    go_simp
    refine (HBF.out _ hmb).mono ?_
    rintro e wc ⟨rfl, hbc⟩
    have hV12c := hV12b.below hbc hV12b.lt
    have hV8c := hV8b.below hbc hV8b.lt
    have hmc := hmb.below hbc
    have hBc := hBb.trans (hbc.mono hBb.size)
    refine hK.out _ _ ⟨hV12c, hV8c⟩ (fun hHeld => ?_)
    clear hK K
    refine wpAnyH_ready (rs := [17]) (by kernel_rfl) (by simp) ?_
    refine AllReadyH.cons rfl (fun K hK => ?_) AllReadyH.nil
    go_simp
    refine (HBG.out _ hmc).mono ?_
    rintro e wd ⟨rfl, hbd⟩
    have hV12d := hV12c.below hbd hV12c.lt
    have hV8d := hV8c.below hbd hV8c.lt
    have hmd := hmc.below hbd
    have hBd := hBc.trans (hbd.mono hBc.size)
    refine hK.out _ _ ⟨hV12d, hV8d⟩ (fun hHeld => ?_)
    clear hK K
    refine wpAnyH_take (i := 18) (v := .bool true) rfl (by kernel_rfl) (by kernel_rfl) (by kernel_rfl) (fun _ _ _ h => h) (Or.inl ⟨by rfl, ?hy148⟩) (by assumption) ?ty148
    case hy148 => (intro w5 hSw; (try dsimp only at hSw); obtain ⟨⟨s0, s1⟩, t0, t1, t2, t3⟩ := hSw; dsimp only at s0 s1 t0 t1 t2 t3; go_simp; first | (all_goals with_reducible rfl) | (simp; done) | (simp [*]; done) | (simp; omega))
    simp only [Act.put, List.getElem_toArray, List.getElem_cons_zero, List.getElem_cons_succ, List.setIfInBounds_toArray, List.set_cons_zero, List.set_cons_succ]
    refine wpAnyH_take (i := 19) (v := .bool true) rfl (by kernel_rfl) (by kernel_rfl) (by kernel_rfl) (fun _ _ _ h => h) (Or.inl ⟨by rfl, ?hy149⟩) (by assumption) ?ty149
    case hy149 => (intro w5 hSw; (try dsimp only at hSw); obtain ⟨⟨s0, s1⟩, t0, t1, t2, t3⟩ := hSw; dsimp only at s0 s1 t0 t1 t2 t3; go_simp; first | (all_goals with_reducible rfl) | (simp; done) | (simp [*]; done) | (simp; omega))
    simp only [Act.put, List.getElem_toArray, List.getElem_cons_zero, List.getElem_cons_succ, List.setIfInBounds_toArray, List.set_cons_zero, List.set_cons_succ]
    refine wpAnyH_take (i := 20) (v := ?_) rfl (by kernel_rfl) (by kernel_rfl) (by kernel_rfl) (fun _ _ _ h => h) (Or.inl ⟨by rfl, ?hy150⟩) (by assumption) ?ty150
    case hy150 => (intro w5 hSw; (try dsimp only at hSw); obtain ⟨⟨s0, s1⟩, t0, t1, t2, t3⟩ := hSw; dsimp only at s0 s1 t0 t1 t2 t3; go_simp; all_goals with_reducible rfl)
    simp only [Act.put, List.getElem_toArray, List.getElem_cons_zero, List.getElem_cons_succ, List.setIfInBounds_toArray, List.set_cons_zero, List.set_cons_succ]
    refine wpAnyH_done (by kernel_rfl) ?_ _
    clear hHeld
    go_wp2
    go_ret
    exact ⟨rfl, hBd⟩
  · have eF : ftV fl = (3, []) := by unfold ftV; rw [if_neg hfl]
    rw [eF] at HSF ⊢
    dsimp only at HSF ⊢
    generalize str [] = T at *
    clear eF
    have hbA : Below w14.heap.size w14 (w14.alloc (.cells #[.int .i64 3, .string T] 29)) := (Below.refl _ _).alloc (Nat.le_refl _) _
    have hV12z := Dc.new w14 (.int .i64 3) (.string T) 29
    have hV8z := hV8.below hbA hV8.lt
    have hmz := hm.below hbA
    have hBz := hB14.trans (hbA.mono hB14.size)
    clear hV8 hm hB14 hbA
    go_wp2_with fail
    generalize w14.alloc (.cells #[.int .i64 3, .string T] 29) = W12 at *
    generalize w14.heap.size = g12 at *
    refine wp_region_held_drew (S := fun w' => Dc w' g12 (.int .i64 3, .string T)) (by kernel_rfl) ?hS151 (fun hHeld => ?_)
    case hS151 => exact hV12z
    refine wpAnyH_take (i := 0) (v := ?_) rfl (by kernel_rfl) (by kernel_rfl) (by kernel_rfl) (fun _ _ _ h => h) (Or.inl ⟨by rfl, ?hy152⟩) (by assumption) ?ty152
    case hy152 => (intro w5 hSw; (try dsimp only at hSw); obtain ⟨s0, s1⟩ := hSw; dsimp only at s0 s1; go_simp; all_goals with_reducible rfl)
    simp only [Act.put, List.getElem_toArray, List.getElem_cons_zero, List.setIfInBounds_toArray, List.set_cons_zero, List.set_cons_succ]
    refine wpAnyH_take (i := 3) (v := ?_) rfl (by kernel_rfl) (by kernel_rfl) (by kernel_rfl) (fun _ _ _ h => h) (Or.inl ⟨by rfl, ?hy153⟩) (by assumption) ?ty153
    case hy153 => (intro w5 hSw; (try dsimp only at hSw); obtain ⟨s0, s1⟩ := hSw; dsimp only at s0 s1; go_simp; all_goals with_reducible rfl)
    simp only [Act.put, List.getElem_toArray, List.getElem_cons_zero, List.getElem_cons_succ, List.setIfInBounds_toArray, List.set_cons_zero, List.set_cons_succ]
    refine wpAnyH_take (i := 4) (v := ?_) rfl (by kernel_rfl) (by kernel_rfl) (by kernel_rfl) (fun _ _ _ h => h) (Or.inl ⟨by rfl, ?hy154⟩) (by assumption) ?ty154
    case hy154 => (intro w5 hSw; (try dsimp only at hSw); obtain ⟨s0, s1⟩ := hSw; dsimp only at s0 s1; go_simp; all_goals with_reducible rfl)
    simp only [Act.put, List.getElem_toArray, List.getElem_cons_zero, List.getElem_cons_succ, List.setIfInBounds_toArray, List.set_cons_zero, List.set_cons_succ]
    refine wpAnyH_ready (rs := [1]) (by kernel_rfl) (by simp) ?_
    refine AllReadyH.cons rfl (fun K hK => ?_) AllReadyH.nil
    go_simp
    refine (HSF _).mono ?_
    rintro e wa ⟨rfl, hba⟩
    have hba : Below W12.heap.size W12 wa := (Below.refl _ _).drew.trans hba
    have hV12a := hV12z.below hba hV12z.lt
    have hBa := hBz.trans (hba.mono hBz.size)
    refine hK.out _ _ hV12a (fun hHeld => ?_)
    clear hK K
    refine wpAnyH_take (i := 2) (v := ?_) rfl (by kernel_rfl) (by kernel_rfl) (by kernel_rfl) (fun _ _ _ h => h) (Or.inl ⟨by rfl, ?hy155⟩) (by assumption) ?ty155
    case hy155 => (intro w5 hSw; (try dsimp only at hSw); obtain ⟨s0, s1⟩ := hSw; dsimp only at s0 s1;have hf := HT0.out; go_simp; all_goals with_reducible rfl)
    simp only [Act.put, List.getElem_toArray, List.getElem_cons_zero, List.getElem_cons_succ, List.setIfInBounds_toArray, List.set_cons_zero, List.set_cons_succ]
    refine wpAnyH_take (i := 5) (v := .bool true) rfl (by kernel_rfl) (by kernel_rfl) (by kernel_rfl) (fun _ _ _ h => h) (Or.inl ⟨by rfl, ?hy156⟩) (by assumption) ?ty156
    case hy156 => (intro w5 hSw; (try dsimp only at hSw); obtain ⟨s0, s1⟩ := hSw; dsimp only at s0 s1; go_simp; first | (all_goals with_reducible rfl) | (simp; done) | (simp [*]; done) | (simp; omega))
    simp only [Act.put, List.getElem_toArray, List.getElem_cons_zero, List.getElem_cons_succ, List.setIfInBounds_toArray, List.set_cons_zero, List.set_cons_succ]
    refine wpAnyH_take (i := 6) (v := ?_) rfl (by kernel_rfl) (by kernel_rfl) (by kernel_rfl) (fun _ _ _ h => h) (Or.inl ⟨by rfl, ?hy157⟩) (by assumption) ?ty157
    case hy157 => (intro w5 hSw; (try dsimp only at hSw); obtain ⟨s0, s1⟩ := hSw; dsimp only at s0 s1; go_simp; all_goals with_reducible rfl)
    simp only [Act.put, List.getElem_toArray, List.getElem_cons_zero, List.getElem_cons_succ, List.setIfInBounds_toArray, List.set_cons_zero, List.set_cons_succ]
    refine wpAnyH_done (by kernel_rfl) ?_ _
    clear hHeld
    go_wp2
    go_ret
    exact ⟨rfl, hBa⟩
end Go.Proofs.YtilepbbcinbmhaaDoor
