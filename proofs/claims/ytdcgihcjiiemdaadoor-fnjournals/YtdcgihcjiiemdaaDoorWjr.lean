/- The walk of the law FnJournals: it returns true, whatever the input; the condition: the table kindHas lies in its variable. -/
import Derived.Test.YtdcgihcjiiemdaaDoorDjrToOpa
import Derived.Test.YtdcgihcjiiemdaaDoorDpo
import Derived.Test.YtdcgihcjiiemdaaDoorJpf
import Derived.Test.YtdcgihcjiiemdaaDoorDrw2ToAppI
import Derived.Test.YtdcgihcjiiemdaaDoorMemFToEncQ2
import Derived.Test.YtdcgihcjiiemdaaDoorBmbToDr12
namespace Go.Proofs.YtdcgihcjiiemdaaDoor
open Go.RowKit
set_option linter.unusedVariables false
theorem fldJ2 (a b c : Value) (w : World) : (Instr.field 40 (.agg #[a, b, c]) 2).run Tryd.prog w = .ok c w := by
 simp [Instr.field, asAgg, go_sem]
theorem rd_takeJ {w : World} {a : Option Addr} {d : List Nat} (h : Rd w a d) (k : Nat) : Rd w a (d.take k) := by
 rcases h with h | ⟨b, off, e, hb, hc⟩
 ·left; rw [h]; simp
 ·exact .inr ⟨b, off, e, hb, fun i hi => by
   rw [List.length_take] at hi
   rw [hc i (by omega)]
   congr 3
   unfold nth
   rw [List.getD_eq_getElem?_getD, List.getD_eq_getElem?_getD, List.getElem?_take_of_lt (by omega)]⟩
def Rc3 (w : World) (g : Nat) (c : Int) (u : Nat) (s : SlQ) : Prop := w.cell? ⟨g, 0, none⟩ = some (.int .i64 c) ∧ w.cell? ⟨g, 1, none⟩ = some (.int .i64 (u : Int)) ∧ w.cell? ⟨g, 2, none⟩ = some (slW s) ∧ g < w.heap.size
theorem Rc3.below {w w' : World} {g u : Nat} {c : Int} {s : SlQ} (h : Rc3 w g c u s) (hb : Below w.heap.size w w') : Rc3 w' g c u s := by
 obtain ⟨h0, h1, h2, h3⟩ := h
 exact ⟨(hb.cell (p := ⟨g, 0, none⟩) h3).trans h0, (hb.cell (p := ⟨g, 1, none⟩) h3).trans h1, (hb.cell (p := ⟨g, 2, none⟩) h3).trans h2, Nat.lt_of_lt_of_le h3 hb.size⟩
theorem Rc3.new (w : World) (c : Int) (u : Nat) (s : SlQ) (t : TypeId) : Rc3 (w.alloc (.cells #[.int .i64 c, .int .i64 (u : Int), slW s] t)) w.heap.size c u s := ⟨by simp, by simp, by simp, by simp⟩
def Rc2 (w : World) (g : Nat) (c : Int) (s : SlQ) : Prop := w.cell? ⟨g, 0, none⟩ = some (.int .i64 c) ∧ w.cell? ⟨g, 1, none⟩ = some (slW s) ∧ g < w.heap.size
theorem Rc2.below {w w' : World} {g : Nat} {c : Int} {s : SlQ} (h : Rc2 w g c s) (hb : Below w.heap.size w w') : Rc2 w' g c s := by
 obtain ⟨h0, h1, h3⟩ := h
 exact ⟨(hb.cell (p := ⟨g, 0, none⟩) h3).trans h0, (hb.cell (p := ⟨g, 1, none⟩) h3).trans h1, Nat.lt_of_lt_of_le h3 hb.size⟩
theorem Rc2.new (w : World) (c : Int) (s : SlQ) (t : TypeId) : Rc2 (w.alloc (.cells #[.int .i64 c, slW s] t)) w.heap.size c s := ⟨by simp, by simp, by simp⟩
def JrK (r : Int × Nat × List OpR) (w : World) (e : Ending) (w' : World) : Prop := ∃ (va : Option Addr) (vc : Nat), e = .returned (.agg #[.int .i64 r.1, .int .i64 (r.2.1 : Int), .slice va r.2.2.length vc]) ∧ IsOs w.heap.size w' (va, r.2.2.length, vc) r.2.2 ∧ Below w.heap.size w w'
theorem JrEnd.k {r : Int × Nat × List OpR} {w w' : World} {e : Ending} (h : JrEnd r w e w') : JrK r w e w' := by
 obtain ⟨v, rfl, hro, hb⟩ := h
 obtain ⟨va, vc, rfl, -, -⟩ := id hro.form
 exact ⟨va, vc, rfl, hro.os, hb⟩
def PkK (r : Int × List Nat) (w : World) (e : Ending) (w' : World) : Prop := ∃ (s : SlQ), e = .returned (.agg #[.int .i64 r.1, slW s]) ∧ (s = (none, 0, 0) ∧ r.2 = [] ∨ ∃ g cap, s = (some ⟨g, 0, none⟩, r.2.length, cap)) ∧ r.2.length = s.2.1 ∧ s.2.1 ≤ s.2.2 ∧ s.2.2 ≤ maxLen ∧ Rd w' s.1 r.2 ∧ Below w.heap.size w w'
theorem PkEnd.k {r : Int × List Nat} {w w' : World} {e : Ending} (h : PkEnd r w e w') : PkK r w e w' := by
 obtain ⟨v, rfl, hg, hb⟩ := h
 rcases hg with ⟨rfl, h0⟩ | ⟨g, cap, rfl, -, hm, hc⟩
 ·exact ⟨(none, 0, 0), rfl, .inl ⟨rfl, h0⟩, by rw [h0]; rfl, Nat.le_refl _, Nat.zero_le _, .inl h0, hb⟩
 ·exact ⟨(some ⟨g, 0, none⟩, r.2.length, cap), rfl, .inr ⟨g, cap, rfl⟩, rfl, hc.2.1, hm, hc.rd, hb⟩
theorem ftD_sz {ls : List OpR} (h : ∀ o ∈ ls, FtD o) : ∀ i, i < ls.length → (nthO ls i).x.size ≤ 1048576 ∧ (nthO ls i).t.size ≤ 1048576 := fun i hi => by
 rw [nthO_get hi]
 have := h _ (List.getElem_mem hi)
 exact ⟨by have := this.1; omega, by have := this.2.1; omega⟩
set_option maxHeartbeats 12800000 in
set_option maxRecDepth 100000 in
theorem walkJournals (a : Option Addr) (n cap : Nat) (l : List Nat) (w : World) (hl : l.length = n) (hr : Rd w a l) (hB : IsB l) (hT : TabH8 w) :
  Calls Tryd.prog 4 #[.slice a n cap] w fun e w' => e = .returned (.bool true) ∧ Below w.heap.size w w' := by
 by_cases hbig : 1048576 < n
 ·go_enter Tryd.func4, Tryd.ntmps4
  go_wp2_with fail
  refine (lwBig_any a n cap w).mono ?_
  rintro e w1 ⟨rfl, rfl⟩
  rw [decide_eq_true (by omega)]
  go_wp2
  go_ret
  exact ⟨rfl, Below.refl _ _⟩
 have hn : n ≤ 1048576 := by omega
 have HTA : Hid (∀ W, Below w.heap.size w W → Rd W a l ∧ TabH8 W) := fun W hb => ⟨hr.below hb, hT.below hb⟩
 go_enter Tryd.func4, Tryd.ntmps4
 go_wp2_with fail
 refine (lwBig_any a n cap w).mono ?_
 rintro e w1 ⟨rfl, rfl⟩
 rw [decide_eq_false (by omega)]
 go_wp2_with fail
 refine (drawReadJournal_any a n cap l w hl hr hB hn).mono ?_
 rintro e w1 ⟨g, N, cN, d, rfl, hdl, hnc, hcm, hN8, hBd, hrd, hglt, hb1⟩
 clear hr hT hbig
 have HIR : Hid (∀ W, Below w1.heap.size w1 W → Calls Tryd.prog 16 #[.slice (some ⟨g, 0, none⟩) N cN] W fun e w' => JrK (jV d) W e w') := fun W hb => (readJournal_any _ _ _ d W hdl hnc hcm (hrd.below hb) hBd (HTA.out W (hb1.trans (hb.mono hb1.size))).2).mono fun e w' h => h.k
 have HSR : Hid (∀ W, Below w1.heap.size w1 W → Calls Tryd.prog 17 #[.slice (some ⟨g, 0, none⟩) N cN] W fun e w' => JrK (jV d) W e w') := fun W hb => (specReadJournal_any _ _ _ d W hdl hnc hcm (hrd.below hb) hBd).mono fun e w' h => h.k
 have HRD : Hid (∀ W, Below w1.heap.size w1 W → Rd W (some ⟨g, 0, none⟩) d) := fun W hb => hrd.below hb
 have hJA := jV_any (d := d) (by omega)
 have HJN : Hid ((jV d).2.2.length ≤ 8000) := jV_len d
 have HJF : Hid (∀ i, i < (jV d).2.2.length → FtO (nthO (jV d).2.2 i)) := fun i hi => (jV_ft d i hi).1
 rw [hdl] at hJA
 clear hrd hglt
 generalize jV d = rv at *
 obtain ⟨c, u, os⟩ := rv
 dsimp only at HIR HSR hJA HJN HJF
 obtain ⟨rfl, huN, hpo, htl, -, -⟩ := hJA
 have HPO : Hid (poV os = (0, d.take u)) := hpo
 have HTL : Hid ((d.take u).length = u) := htl
 have HDL : Hid (d.length = N) := hdl
 clear hpo htl hdl
 have hu0 : ¬ (u : Int) < 0 := by omega
 have huNi : ¬ (N : Int) < (u : Int) := by omega
 have hucN : (u : Int) ≤ (cN : Int) := by omega
 go_wp2_with fail
 refine (HIR.out w1 (Below.refl _ _)).mono ?_
 rintro e w2 ⟨va, vc, rfl, hos, hb2⟩
 dsimp only at hos ⊢
 obtain ⟨ol, hol⟩ : ∃ ol, os.length = ol := ⟨_, rfl⟩
 rw [hol] at hos ⊢
 have HOL : Hid (os.length = ol) := hol
 have hol8 : ol ≤ 8000 := by rw [← HOL.out]; exact HJN.out
 clear hol
 obtain ⟨W3, hW3⟩ : ∃ W3, w2.alloc (.cells #[.int .i64 0, .int .i64 (u : Int), .slice va ol vc] 40) = W3 := ⟨_, rfl⟩
 have b3 : Below w2.heap.size w2 W3 := by rw [← hW3]; exact (Below.refl _ _).alloc (Nat.le_refl _) _
 have t3 : Rc3 W3 w2.heap.size 0 u (va, ol, vc) := by rw [← hW3]; exact Rc3.new _ _ _ (va, ol, vc) _
 have hB3 : Below w1.heap.size w1 W3 := hb2.trans (b3.mono hb2.size)
 have HTc : Hid (∀ W, Below W3.heap.size W3 W → Rc3 W w2.heap.size 0 u (va, ol, vc) ∧ IsOs w1.heap.size W (va, ol, vc) os) := fun W hb => ⟨t3.below hb, (hos.below b3).below hb⟩
 clear hos hb2 b3 t3
 go_wp2_with fail
 clear hW3
 generalize w2.heap.size = G at *
 have fO := fldJ2
 have fB := fldB1
 have hNN : ¬ (ol : Int) ≠ (ol : Int) := by omega
 refine wp_region_held_drew (S := fun w' => Rc3 w' G 0 u (va, ol, vc)) (by kernel_rfl) ?hS1 (fun hHeld => ?_)
 case hS1 => exact (HTc.out _ (Below.refl _ _).drew).1
 have hbx0 : Below W3.heap.size W3 W3.drew := (Below.refl _ _).drew
 generalize W3.drew = x0 at *
 refine tk (i := 0) (v := ?_) rfl (Or.inl ⟨by rfl, ?hy2⟩) ?ty2
 case hy2 => (intro w5 hSw; obtain ⟨e0, e1, e2, -⟩ := hSw; dsimp only [slW] at e2; go_simp; all_goals with_reducible rfl)
 simp only [Act.put, J1, J2, J4, J5, J6]
 refine tk (i := 1) (v := ?_) rfl (Or.inl ⟨by rfl, ?hy3⟩) ?ty3
 case hy3 => (intro w5 hSw; obtain ⟨e0, e1, e2, -⟩ := hSw; dsimp only [slW] at e2; go_simp; all_goals with_reducible rfl)
 simp only [Act.put, J1, J2, J3, J4, J5, J6]
 refine tk (i := 2) (v := .bool false) rfl (Or.inl ⟨by rfl, ?hy4⟩) ?ty4
 case hy4 => (intro w5 hSw; (try dsimp only at hSw); go_simp; first | (simp; done) | omega | (simp; omega) | (all_goals with_reducible rfl))
 simp only [Act.put, J1, J2, J3, J4, J5, J6]
 refine tk (i := 3) (v := ?_) rfl (Or.inl ⟨by rfl, ?hy5⟩) ?ty5
 case hy5 => (intro w5 hSw; (try dsimp only at hSw); go_simp; all_goals with_reducible rfl)
 simp only [Act.put, J1, J2, J3, J4, J5, J6]
 refine tk (i := 4) (v := ?_) rfl (Or.inl ⟨by rfl, ?hy6⟩) ?ty6
 case hy6 => (intro w5 hSw; (try dsimp only at hSw); go_simp; all_goals with_reducible rfl)
 simp only [Act.put, J1, J2, J3, J4, J5, J6]
 refine tk (i := 5) (v := ?_) rfl (Or.inl ⟨by rfl, ?hy7⟩) ?ty7
 case hy7 => (intro w5 hSw; obtain ⟨e0, e1, e2, -⟩ := hSw; dsimp only [slW] at e2; go_simp; all_goals with_reducible rfl)
 simp only [Act.put, J1, J2, J3, J4, J5, J6]
 refine tk (i := 6) (v := .bool false) rfl (Or.inl ⟨by rfl, ?hy8⟩) ?ty8
 case hy8 => (intro w5 hSw; (try dsimp only at hSw); go_simp; first | (simp; done) | omega | (simp; omega) | (all_goals with_reducible rfl))
 simp only [Act.put, J1, J2, J3, J4, J5, J6]
 refine tk (i := 7) (v := ?_) rfl (Or.inl ⟨by rfl, ?hy9⟩) ?ty9
 case hy9 => (intro w5 hSw; (try dsimp only at hSw); go_simp; all_goals with_reducible rfl)
 simp only [Act.put, J1, J2, J3, J4, J5, J6]
 refine tk (i := 8) (v := ?_) rfl (Or.inl ⟨by rfl, ?hy10⟩) ?ty10
 case hy10 => (intro w5 hSw; (try dsimp only at hSw); go_simp; all_goals with_reducible rfl)
 simp only [Act.put, J1, J2, J3, J4, J5, J6]
 refine tk (i := 9) (v := ?_) rfl (Or.inl ⟨by rfl, ?hy11⟩) ?ty11
 case hy11 => (intro w5 hSw; (try dsimp only at hSw); go_simp; all_goals with_reducible rfl)
 simp only [Act.put, J1, J2, J3, J4, J5, J6]
 refine tk (i := 10) (v := ?_) rfl (Or.inl ⟨by rfl, ?hy12⟩) ?ty12
 case hy12 => (intro w5 hSw; obtain ⟨e0, e1, e2, -⟩ := hSw; dsimp only [slW] at e2; go_simp; all_goals with_reducible rfl)
 simp only [Act.put, J1, J2, J3, J4, J5, J6]
 refine tk (i := 11) (v := ?_) rfl (Or.inl ⟨by rfl, ?hy13⟩) ?ty13
 case hy13 => (intro w5 hSw; (try dsimp only at hSw); go_simp; all_goals with_reducible rfl)
 simp only [Act.put, J1, J2, J3, J4, J5, J6]
 refine tk (i := 12) (v := ?_) rfl (Or.inl ⟨by rfl, ?hy14⟩) ?ty14
 case hy14 => (intro w5 hSw; (try dsimp only at hSw); go_simp; all_goals with_reducible rfl)
 simp only [Act.put, J1, J2, J3, J4, J5, J6]
 refine tk (i := 13) (v := .bool false) rfl (Or.inl ⟨by rfl, ?hy15⟩) ?ty15
 case hy15 => (intro w5 hSw; (try dsimp only at hSw); go_simp; first | (simp; done) | omega | (simp; omega) | (all_goals with_reducible rfl))
 simp only [Act.put, J1, J2, J3, J4, J5, J6]
 refine tk (i := 14) (v := ?_) rfl (Or.inl ⟨by rfl, ?hy16⟩) ?ty16
 case hy16 => (intro w5 hSw; (try dsimp only at hSw); go_simp; all_goals with_reducible rfl)
 simp only [Act.put, J1, J2, J3, J4, J5, J6]
 refine tk (i := 15) (v := ?_) rfl (Or.inl ⟨by rfl, ?hy17⟩) ?ty17
 case hy17 => (intro w5 hSw; (try dsimp only at hSw); go_simp; all_goals with_reducible rfl)
 simp only [Act.put, J1, J2, J3, J4, J5, J6]
 refine tk (i := 16) (v := ?_) rfl (Or.inl ⟨by rfl, ?hy18⟩) ?ty18
 case hy18 => (intro w5 hSw; (try dsimp only at hSw); go_simp; all_goals with_reducible rfl)
 simp only [Act.put, J1, J2, J3, J4, J5, J6]
 refine tk (i := 17) (v := ?_) rfl (Or.inl ⟨by rfl, ?hy19⟩) ?ty19
 case hy19 => (intro w5 hSw; obtain ⟨e0, e1, e2, -⟩ := hSw; dsimp only [slW] at e2; go_simp; all_goals with_reducible rfl)
 simp only [Act.put, J1, J2, J3, J4, J5, J6]
 refine tk (i := 18) (v := ?_) rfl (Or.inl ⟨by rfl, ?hy20⟩) ?ty20
 case hy20 => (intro w5 hSw; (try dsimp only at hSw); go_simp; all_goals with_reducible rfl)
 simp only [Act.put, J1, J2, J3, J4, J5, J6]
 refine tk (i := 19) (v := ?_) rfl (Or.inl ⟨by rfl, ?hy21⟩) ?ty21
 case hy21 => (intro w5 hSw; (try dsimp only at hSw); go_simp; all_goals with_reducible rfl)
 simp only [Act.put, J1, J2, J3, J4, J5, J6]
 refine wpAnyH_ready (rs := [20]) (by kernel_rfl) (by simp) ?_
 refine AllReadyH.cons rfl (fun K hK => ?_) AllReadyH.nil
 go_simp
 refine (HSR.out x0 (hB3.trans (hbx0.mono hB3.size))).mono ?_
 rintro e x1 ⟨vb, vd, rfl, -, hbx1'⟩
 dsimp only
 rw [HOL.out]
 have hbx1 := hbx0.trans (hbx1'.mono hbx0.size)
 refine hK.out _ _ (HTc.out _ hbx1).1 (fun hHeld => ?_)
 clear hK K
 refine tk (i := 21) (v := ?_) rfl (Or.inl ⟨by rfl, ?hy22⟩) ?ty22
 case hy22 => (intro w5 hSw; (try dsimp only at hSw); go_simp; all_goals with_reducible rfl)
 simp only [Act.put, J1, J2, J3, J4, J5, J6]
 refine tk (i := 22) (v := ?_) rfl (Or.inl ⟨by rfl, ?hy23⟩) ?ty23
 case hy23 => (intro w5 hSw; (try dsimp only at hSw); go_simp; all_goals with_reducible rfl)
 simp only [Act.put, J1, J2, J3, J4, J5, J6]
 refine tk (i := 23) (v := .bool false) rfl (Or.inl ⟨by rfl, ?hy24⟩) ?ty24
 case hy24 => (intro w5 hSw; (try dsimp only at hSw); go_simp; first | (simp; done) | omega | (simp; omega) | (all_goals with_reducible rfl))
 simp only [Act.put, J1, J2, J3, J4, J5, J6]
 refine tk (i := 24) (v := ?_) rfl (Or.inl ⟨by rfl, ?hy25⟩) ?ty25
 case hy25 => (intro w5 hSw; (try dsimp only at hSw); go_simp; all_goals with_reducible rfl)
 simp only [Act.put, J1, J2, J3, J4, J5, J6]
 refine tk (i := 25) (v := ?_) rfl (Or.inl ⟨by rfl, ?hy26⟩) ?ty26
 case hy26 => (intro w5 hSw; (try dsimp only at hSw); go_simp; all_goals with_reducible rfl)
 simp only [Act.put, J1, J2, J3, J4, J5, J6]
 refine tk (i := 26) (v := ?_) rfl (Or.inl ⟨by rfl, ?hy27⟩) ?ty27
 case hy27 => (intro w5 hSw; (try dsimp only at hSw); go_simp; all_goals with_reducible rfl)
 simp only [Act.put, J1, J2, J3, J4, J5, J6]
 refine tk (i := 27) (v := ?_) rfl (Or.inl ⟨by rfl, ?hy28⟩) ?ty28
 case hy28 => (intro w5 hSw; obtain ⟨e0, e1, e2, -⟩ := hSw; dsimp only [slW] at e2; go_simp; all_goals with_reducible rfl)
 simp only [Act.put, J1, J2, J3, J4, J5, J6]
 refine tk (i := 30) (v := ?_) rfl (Or.inl ⟨by rfl, ?hy29⟩) ?ty29
 case hy29 => (intro w5 hSw; (try dsimp only at hSw); go_simp; all_goals with_reducible rfl)
 simp only [Act.put, J1, J2, J3, J4, J5, J6]
 refine tk (i := 31) (v := ?_) rfl (Or.inl ⟨by rfl, ?hy30⟩) ?ty30
 case hy30 => (intro w5 hSw; (try dsimp only at hSw); go_simp; all_goals with_reducible rfl)
 simp only [Act.put, J1, J2, J3, J4, J5, J6]
 refine tk (i := 32) (v := ?_) rfl (Or.inl ⟨by rfl, ?hy31⟩) ?ty31
 case hy31 => (intro w5 hSw; obtain ⟨e0, e1, e2, -⟩ := hSw; dsimp only [slW] at e2; go_simp; all_goals with_reducible rfl)
 simp only [Act.put, J1, J2, J3, J4, J5, J6]
 refine tk (i := 33) (v := ?_) rfl (Or.inl ⟨by rfl, ?hy32⟩) ?ty32
 case hy32 => (intro w5 hSw; (try dsimp only at hSw); go_simp; all_goals with_reducible rfl)
 simp only [Act.put, J1, J2, J3, J4, J5, J6]
 have HPK : Hid (Calls Tryd.prog 18 #[.slice va ol vc] x1 fun e w' => PkK (0, d.take u) x1 e w') := by
  have h := packOps_any (va, ol, vc) os x1 (HTc.out _ hbx1).2 (by dsimp only; omega) (HTA.out _ (hb1.trans ((hB3.trans (hbx1.mono hB3.size)).mono hb1.size))).2 (fun i hi => ⟨(HJF.out i hi).1, (HJF.out i hi).2.1⟩)
  rw [HPO.out] at h
  exact h.mono fun e w' h => h.k
 refine wpAnyH_ready (rs := [28]) (by kernel_rfl) (by simp) ?_
 refine AllReadyH.cons rfl (fun K hK => ?_) AllReadyH.nil
 go_simp
 refine (HPK.out).mono ?_
 rintro e x2 ⟨⟨qa, qn, qc⟩, rfl, -, hqn, -, -, hrq, hbx2'⟩
 dsimp only [slW] at hqn hrq ⊢
 rw [HTL.out] at hqn
 subst hqn
 have hbx2 := hbx1.trans (hbx2'.mono hbx1.size)
 refine hK.out _ _ (HTc.out _ hbx2).1 (fun hHeld => ?_)
 clear hK K
 refine tk (i := 29) (v := ?_) rfl (Or.inl ⟨by rfl, ?hy33⟩) ?ty33
 case hy33 => (intro w5 hSw; (try dsimp only at hSw); go_simp; all_goals with_reducible rfl)
 simp only [Act.put, J1, J2, J3, J4, J5, J6]
 refine wpAnyH_ready (rs := [34]) (by kernel_rfl) (by simp) ?_
 refine AllReadyH.cons rfl (fun K hK => ?_) AllReadyH.nil
 go_simp
 refine (lwSame_any qa (some ⟨g, 0, none⟩) u qc cN (d.take u) x2 HTL.out hrq (rd_takeJ (HRD.out _ (hB3.trans (hbx2.mono hB3.size))) u)).mono ?_
 rintro e x3 ⟨rfl, rfl⟩
 refine hK.out _ _ (HTc.out _ hbx2).1 (fun hHeld => ?_)
 clear hK K
 refine tk (i := 35) (v := ?_) rfl (Or.inl ⟨by rfl, ?hy34⟩) ?ty34
 case hy34 => (intro w5 hSw; (try dsimp only at hSw); go_simp; all_goals with_reducible rfl)
 simp only [Act.put, J1, J2, J3, J4, J5, J6]
 refine tk (i := 36) (v := ?_) rfl (Or.inl ⟨by rfl, ?hy35⟩) ?ty35
 case hy35 => (intro w5 hSw; (try dsimp only at hSw); go_simp; all_goals with_reducible rfl)
 simp only [Act.put, J1, J2, J3, J4, J5, J6]
 refine wpAnyH_done (by kernel_rfl) ?_ _
 have hBW : Below w1.heap.size w1 x2 := hB3.trans (hbx2.mono hB3.size)
 clear hHeld HIR HSR HTc hB3 HPK HPO HJF HJN hrq hbx0 hbx1 hbx2 hbx1' hbx2' fO fB
 generalize x2 = W at *
 go_wp2_with fail
 refine (drawPackOps_any a n cap l W hl (HTA.out W (hb1.trans (hBW.mono hb1.size))).1 hB hn).mono ?_
 rintro e w5 ⟨ls, pa, pn, pc, rfl, hI, hpn, hFt, hb5⟩
 have hB5 := hBW.trans (hb5.mono hBW.size)
 have HLO : Hid (∀ W', Below w5.heap.size w5 W' → IsOs (W.heap.size + 1) W' (pa, pn, pc) ls) := fun W' hb => hI.below hb
 have HLL : Hid (ls.length = pn) := hI.1
 have HLB : Hid (∀ o ∈ ls, IsB o.b) := isOs_isB hI
 have HFT : Hid (∀ o ∈ ls, FtD o) := hFt
 have hppc : (pn : Int) ≤ (pc : Int) := by have := hI.2.1; dsimp only at this; omega
 clear hI hFt hb5 hBW
 have HP : Hid (Calls Tryd.prog 18 #[.slice pa pn pc] w5 fun e w' => PkK (poV ls) w5 e w') := (packOps_any (pa, pn, pc) ls w5 (HLO.out _ (Below.refl _ _)) (by dsimp only; omega) (HTA.out _ (hb1.trans (hB5.mono hb1.size))).2 (ftD_sz HFT.out)).mono fun e w' h => h.k
 have HSP : Hid (∀ W', Below w5.heap.size w5 W' → Calls Tryd.prog 20 #[.slice pa pn pc] W' fun e w' => PkK (poV ls) W' e w') := fun W' hb => (specPackOps_any (pa, pn, pc) ls W' (HLO.out _ hb) (by dsimp only; omega) (ftD_sz HFT.out)).mono fun e w' h => h.k
 have HPV : Hid ((poV ls).1 = 0 → (∀ o ∈ ls, ofV o = 0) ∧ (poV ls).2 = flJ ls ∧ (flJ ls).length ≤ 8000) := fun h => poV_all h
 generalize poV ls = pv at *
 obtain ⟨f, bs⟩ := pv
 dsimp only at HPV
 go_wp2_with fail
 refine HP.out.mono ?_
 rintro e w7 ⟨⟨va7, vn7, vc7⟩, rfl, hform, hvl, hvn, hvm, hrv, hb7⟩
 dsimp only [slW] at hvl hvn hvm hrv ⊢
 clear HP
 by_cases hf0 : f = 0
 rotate_left
 ·have hfb : (f != 0) = true := by simp [hf0]
  have fB := fldB0
  obtain ⟨W8, hW8⟩ : ∃ W8, w7.alloc (.cells #[.int .i64 f, .slice va7 vn7 vc7] 33) = W8 := ⟨_, rfl⟩
  have b8 : Below w7.heap.size w7 W8 := by rw [← hW8]; exact (Below.refl _ _).alloc (Nat.le_refl _) _
  have t8 : Rc2 W8 w7.heap.size f (va7, vn7, vc7) := by rw [← hW8]; exact Rc2.new _ _ (va7, vn7, vc7) _
  have hB58 : Below w5.heap.size w5 W8 := hb7.trans (b8.mono hb7.size)
  have HS10 : Hid (∀ W', Below W8.heap.size W8 W' → Rc2 W' w7.heap.size f (va7, vn7, vc7)) := fun W' hb => t8.below hb
  have hc0 := t8.1
  clear hform hvl hvn hvm hrv hf0 t8 HPV
  go_wp2_with fail
  clear hW8 hc0 b8 hb7
  generalize w7.heap.size = G6 at *
  refine wp_region_held_drew (S := fun w' => Rc2 w' G6 f (va7, vn7, vc7)) (by kernel_rfl) ?hS36 (fun hHeld => ?_)
  case hS36 => exact HS10.out _ (Below.refl _ _).drew
  have hbx0 : Below W8.heap.size W8 W8.drew := (Below.refl _ _).drew
  generalize W8.drew = x0 at *
  refine tk (i := 0) (v := ?_) rfl (Or.inl ⟨by rfl, ?hy37⟩) ?ty37
  case hy37 => (intro w5 hSw; (try dsimp only at hSw); go_simp; all_goals with_reducible rfl)
  simp only [Act.put, J1, J2, J4, J5, J6]
  refine tk (i := 3) (v := ?_) rfl (Or.inl ⟨by rfl, ?hy38⟩) ?ty38
  case hy38 => (intro w5 hSw; (try dsimp only at hSw); go_simp; all_goals with_reducible rfl)
  simp only [Act.put, J1, J2, J3, J4, J5, J6]
  refine tk (i := 4) (v := ?_) rfl (Or.inl ⟨by rfl, ?hy39⟩) ?ty39
  case hy39 => (intro w5 hSw; obtain ⟨e0, e1, -⟩ := hSw; go_simp; all_goals with_reducible rfl)
  simp only [Act.put, J1, J2, J3, J4, J5, J6]
  refine wpAnyH_ready (rs := [1]) (by kernel_rfl) (by simp) ?_
  refine AllReadyH.cons rfl (fun K hK => ?_) AllReadyH.nil
  go_simp
  refine (HSP.out x0 (hB58.trans (hbx0.mono hB58.size))).mono ?_
  rintro e x1 ⟨⟨ra, rn, rc⟩, rfl, -, -, -, -, -, hbx1'⟩
  dsimp only [slW]
  have hbx1 := hbx0.trans (hbx1'.mono hbx0.size)
  refine hK.out _ _ (HS10.out _ hbx1) (fun hHeld => ?_)
  clear hK K
  refine tk (i := 2) (v := ?_) rfl (Or.inl ⟨by rfl, ?hy40⟩) ?ty40
  case hy40 => (intro w5 hSw; (try dsimp only at hSw); go_simp; all_goals with_reducible rfl)
  simp only [Act.put, J1, J2, J3, J4, J5, J6]
  refine tk (i := 5) (v := .bool true) rfl (Or.inl ⟨by rfl, ?hy41⟩) ?ty41
  case hy41 => (intro w5 hSw; (try dsimp only at hSw); go_simp; first | (simp; done) | omega | (simp; omega) | (all_goals with_reducible rfl))
  simp only [Act.put, J1, J2, J3, J4, J5, J6]
  refine tk (i := 6) (v := ?_) rfl (Or.inl ⟨by rfl, ?hy42⟩) ?ty42
  case hy42 => (intro w5 hSw; (try dsimp only at hSw); go_simp; all_goals with_reducible rfl)
  simp only [Act.put, J1, J2, J3, J4, J5, J6]
  refine wpAnyH_done (by kernel_rfl) ?_ _
  have hBe := hb1.trans ((hB5.trans ((hB58.trans (hbx1.mono hB58.size)).mono hB5.size)).mono hb1.size)
  clear hHeld
  go_wp2
  go_ret
  exact ⟨rfl, hBe⟩
 ·subst hf0
  obtain ⟨hall, rfl, h8⟩ := HPV.out rfl
  have HJV : Hid (jV (flJ ls) = (0, (flJ ls).length, ls)) := jV_fl hall h8
  have HCT : Hid (∀ c, ∃ m u, m ≤ ls.length ∧ u ≤ c ∧ jV ((flJ ls).take c) = (0, u, ls.take m)) := fun c => jV_cut hall h8 c
  have HBF : Hid (IsB (flJ ls)) := flJ_isB (fun o ho => pkO_isB (okJ (hall o ho)) (HLB.out o ho))
  rw [hvl] at h8 HJV
  have HPL : Hid ((flJ ls).length = vn7) := hvl
  clear HPV hall hvl
  rcases hform with ⟨h, -⟩ | ⟨gp, cp, h⟩
  ·cases h
   clear HSP
   have b8 : Below w7.heap.size w7 (w7.alloc (.cells #[.int .i64 0, .slice none 0 0] 33)) := (Below.refl _ _).alloc (Nat.le_refl _) _
   have t8 : Rc2 (w7.alloc (.cells #[.int .i64 0, .slice none 0 0] 33)) w7.heap.size 0 (none, 0, 0) := Rc2.new _ _ (none, 0, 0) _
   have hB58 : Below w5.heap.size w5 (w7.alloc (.cells #[.int .i64 0, .slice none 0 0] 33)) := hb7.trans (b8.mono hb7.size)
   have hB18 : Below w1.heap.size w1 (w7.alloc (.cells #[.int .i64 0, .slice none 0 0] 33)) := hB5.trans (hB58.mono hB5.size)
   have HK8 : Hid (∀ W', Below (w7.alloc (.cells #[.int .i64 0, .slice none 0 0] 33)).heap.size (w7.alloc (.cells #[.int .i64 0, .slice none 0 0] 33)) W' → Rc2 W' w7.heap.size 0 (none, 0, 0) ∧ Rd W' none (flJ ls) ∧ IsOs (W.heap.size + 1) W' (pa, pn, pc) ls ∧ TabH8 W' ∧ Rd W' a l ∧ Below w.heap.size w W') := fun W' hb => ⟨t8.below hb, (hrv.below b8).below hb, HLO.out W' (hB58.trans (hb.mono hB58.size)), (HTA.out W' (hb1.trans ((hB18.trans (hb.mono hB18.size)).mono hb1.size))).2, (HTA.out W' (hb1.trans ((hB18.trans (hb.mono hB18.size)).mono hb1.size))).1, hb1.trans ((hB18.trans (hb.mono hB18.size)).mono hb1.size)⟩
   have HR11 := readJournal_any none 0 0 (flJ ls) (w7.alloc (.cells #[.int .i64 0, .slice none 0 0] 33)) HPL.out hvn hvm (HK8.out _ (Below.refl _ _)).2.1 HBF.out (HK8.out _ (Below.refl _ _)).2.2.2.1
   rw [HJV.out] at HR11
   clear hrv b8 t8 hb7 HLO
   go_wp2_with fail
   generalize (w7.alloc (.cells #[.int .i64 0, .slice none 0 0] 33)) = W8 at *
   refine (HR11.mono fun e w' h => h.k).mono ?_
   clear HR11
   rintro e w9 ⟨xa, xc, rfl, ho9, hb9⟩
   dsimp only at ho9 ⊢
   rw [HLL.out] at ho9 ⊢
   generalize w7.heap.size = G6 at *
   obtain ⟨W10, hW10⟩ : ∃ W10, w9.alloc (.cells #[.int .i64 0, .int .i64 (0 : Int), .slice xa pn xc] 40) = W10 := ⟨_, rfl⟩
   have b10 : Below w9.heap.size w9 W10 := by rw [← hW10]; exact (Below.refl _ _).alloc (Nat.le_refl _) _
   have t10 : Rc3 W10 w9.heap.size 0 0 (xa, pn, xc) := by rw [← hW10]; exact Rc3.new _ _ _ (xa, pn, xc) _
   have hB810 : Below W8.heap.size W8 W10 := hb9.trans (b10.mono hb9.size)
   have HK10 : Hid (∀ W', Below W10.heap.size W10 W' → Rc3 W' w9.heap.size 0 0 (xa, pn, xc) ∧ IsOs W8.heap.size W' (xa, pn, xc) ls) := fun W' hb => ⟨t10.below hb, (ho9.below b10).below hb⟩
   have k1 := (HK8.out _ hB810).1.2.1
   dsimp only [slW] at k1
   clear ho9 b10 t10 hb9
   go_wp2_with fail
   clear hW10
   refine (lwAtW_any a n cap 3 _ l W10 hl (HK8.out _ hB810).2.2.2.2.1 hB hn (by omega) (by omega) (by omega)).mono ?_
   rintro e w11 ⟨r, rfl, q0, q1, hb11⟩
   generalize w9.heap.size = G7 at *
   have hB811 : Below W8.heap.size W8 w11 := hB810.trans (hb11.mono hB810.size)
   clear k1
   have k1 := (HK8.out _ hB811).1.2.1
   dsimp only [slW] at k1
   obtain rfl : r = 0 := by omega
   obtain ⟨t, ht⟩ : ∃ t, t = 0 := ⟨_, rfl⟩
   have htP : t ≤ 0 := by omega
   have htC : (0 : Int) ≤ (0 : Int) := by omega
   obtain ⟨m, u2, hm, hu2, hjc⟩ := HCT.out 0
   have HR13 := readJournal_any none 0 0 ((flJ ls).take 0) w11 (by rw [List.length_take, HPL.out]; omega) (by omega) hvm (rd_takeJ (HK8.out _ hB811).2.1 _) (fun z hz => HBF.out z (List.mem_of_mem_take hz)) (HK8.out _ hB811).2.2.2.1
   rw [hjc] at HR13
   have HML : Hid ((ls.take m).length = m) := by show _ = _; rw [List.length_take]; omega
   clear q0 q1 hjc
   go_wp2_with fail
   refine (HR13.mono fun e w' h => h.k).mono ?_
   clear HR13 k1
   rintro e w12 ⟨ya, yc, rfl, ho12, hb12⟩
   dsimp only at ho12 ⊢
   rw [HML.out] at ho12 ⊢
   obtain ⟨W13, hW13⟩ : ∃ W13, w12.alloc (.cells #[.int .i64 0, .int .i64 (u2 : Int), .slice ya m yc] 40) = W13 := ⟨_, rfl⟩
   have b13 : Below w12.heap.size w12 W13 := by rw [← hW13]; exact (Below.refl _ _).alloc (Nat.le_refl _) _
   have t13 : Rc3 W13 w12.heap.size 0 u2 (ya, m, yc) := by rw [← hW13]; exact Rc3.new _ _ _ (ya, m, yc) _
   have hB1113 : Below w11.heap.size w11 W13 := hb12.trans (b13.mono hb12.size)
   have hB1013 : Below W10.heap.size W10 W13 := hb11.trans (hB1113.mono hb11.size)
   have hB813 : Below W8.heap.size W8 W13 := hB810.trans (hB1013.mono hB810.size)
   have HF : Hid (∀ Y, Below W13.heap.size W13 Y → (Rc2 Y G6 0 (none, 0, 0) ∧ Rc3 Y G7 0 0 (xa, pn, xc) ∧ Rc3 Y w12.heap.size 0 u2 (ya, m, yc)) ∧ IsOs (W.heap.size + 1) Y (pa, pn, pc) ls ∧ IsOs W8.heap.size Y (xa, pn, xc) ls ∧ IsOs w11.heap.size Y (ya, m, yc) (ls.take m) ∧ Below w.heap.size w Y) := fun Y hb =>
    ⟨⟨(HK8.out Y (hB813.trans (hb.mono hB813.size))).1, (HK10.out Y (hB1013.trans (hb.mono hB1013.size))).1, t13.below hb⟩, (HK8.out Y (hB813.trans (hb.mono hB813.size))).2.2.1, (HK10.out Y (hB1013.trans (hb.mono hB1013.size))).2, (ho12.below b13).below hb, (HK8.out Y (hB813.trans (hb.mono hB813.size))).2.2.2.2.2⟩
   have k2 := t13.2.2.1
   dsimp only [slW] at k2
   have hmp : (m : Int) ≤ (pn : Int) := by have := HLL.out; omega
   have hmpc : (m : Int) ≤ (pc : Int) := by omega
   have hu2i : (u2 : Int) ≤ (0 : Int) := by omega
   clear ho12 b13 t13 hb12 HK8 HK10 hB1113 hB1013 hB813 hB811 hB810 hb11
   go_wp2_with fail
   clear hW13 k2
   generalize w12.heap.size = G9 at *
   refine wp_region_held_drew (S := fun w' => Rc2 w' G6 0 (none, 0, 0) ∧ Rc3 w' G7 0 0 (xa, pn, xc) ∧ Rc3 w' G9 0 u2 (ya, m, yc)) (by kernel_rfl) ?hS43 (fun hHeld => ?_)
   case hS43 => exact (HF.out _ (Below.refl _ _).drew).1
   have hbx0 : Below W13.heap.size W13 W13.drew := (Below.refl _ _).drew
   generalize W13.drew = x0 at *
   refine tk (i := 0) (v := ?_) rfl (Or.inl ⟨by rfl, ?hy44⟩) ?ty44
   case hy44 => (intro w5 hSw; (try dsimp only at hSw); go_simp; all_goals with_reducible rfl)
   simp only [Act.put, J1, J2, J4, J5, J6]
   refine tk (i := 1) (v := ?_) rfl (Or.inl ⟨by rfl, ?hy45⟩) ?ty45
   case hy45 => (intro w5 hSw; obtain ⟨⟨f0, f1, -⟩, ⟨g0, g1, g2, -⟩, ⟨h0, h1, h2, -⟩⟩ := hSw; dsimp only [slW] at f1 g2 h2; go_simp; all_goals with_reducible rfl)
   simp only [Act.put, J1, J2, J3, J4, J5, J6]
   refine tk (i := 2) (v := .bool true) rfl (Or.inl ⟨by rfl, ?hy46⟩) ?ty46
   case hy46 => (intro w5 hSw; (try dsimp only at hSw); go_simp; first | (simp; done) | omega | (simp; omega) | (all_goals with_reducible rfl))
   simp only [Act.put, J1, J2, J3, J4, J5, J6]
   refine tk (i := 3) (v := ?_) rfl (Or.inl ⟨by rfl, ?hy47⟩) ?ty47
   case hy47 => (intro w5 hSw; (try dsimp only at hSw); go_simp; all_goals with_reducible rfl)
   simp only [Act.put, J1, J2, J3, J4, J5, J6]
   refine tk (i := 4) (v := ?_) rfl (Or.inl ⟨by rfl, ?hy48⟩) ?ty48
   case hy48 => (intro w5 hSw; (try dsimp only at hSw); go_simp; all_goals with_reducible rfl)
   simp only [Act.put, J1, J2, J3, J4, J5, J6]
   refine tk (i := 5) (v := ?_) rfl (Or.inl ⟨by rfl, ?hy49⟩) ?ty49
   case hy49 => (intro w5 hSw; obtain ⟨⟨f0, f1, -⟩, ⟨g0, g1, g2, -⟩, ⟨h0, h1, h2, -⟩⟩ := hSw; dsimp only [slW] at f1 g2 h2; go_simp; all_goals with_reducible rfl)
   simp only [Act.put, J1, J2, J3, J4, J5, J6]
   refine tk (i := 6) (v := ?_) rfl (Or.inl ⟨by rfl, ?hy50⟩) ?ty50
   case hy50 => (intro w5 hSw; (try dsimp only at hSw); go_simp; all_goals with_reducible rfl)
   simp only [Act.put, J1, J2, J3, J4, J5, J6]
   refine wpAnyH_ready (rs := [7]) (by kernel_rfl) (by simp) ?_
   refine AllReadyH.cons rfl (fun K hK => ?_) AllReadyH.nil
   go_simp
   refine (sameOps_any ls ls (xa, pn, xc) (pa, pn, pc) x0 (HF.out _ hbx0).2.2.1 (HF.out _ hbx0).2.1).mono ?_
   rintro e x1 ⟨rfl, hbx1'⟩
   rw [smL_refl]
   have hbx1 := hbx0.trans (hbx1'.mono hbx0.size)
   refine hK.out _ _ (HF.out _ hbx1).1 (fun hHeld => ?_)
   clear hK K
   refine tk (i := 8) (v := ?_) rfl (Or.inl ⟨by rfl, ?hy51⟩) ?ty51
   case hy51 => (intro w5 hSw; (try dsimp only at hSw); go_simp; all_goals with_reducible rfl)
   simp only [Act.put, J1, J2, J3, J4, J5, J6]
   refine tk (i := 9) (v := ?_) rfl (Or.inl ⟨by rfl, ?hy52⟩) ?ty52
   case hy52 => (intro w5 hSw; (try dsimp only at hSw); go_simp; all_goals with_reducible rfl)
   simp only [Act.put, J1, J2, J3, J4, J5, J6]
   refine tk (i := 10) (v := ?_) rfl (Or.inl ⟨by rfl, ?hy53⟩) ?ty53
   case hy53 => (intro w5 hSw; (try dsimp only at hSw); go_simp; all_goals with_reducible rfl)
   simp only [Act.put, J1, J2, J3, J4, J5, J6]
   refine tk (i := 11) (v := ?_) rfl (Or.inl ⟨by rfl, ?hy54⟩) ?ty54
   case hy54 => (intro w5 hSw; obtain ⟨⟨f0, f1, -⟩, ⟨g0, g1, g2, -⟩, ⟨h0, h1, h2, -⟩⟩ := hSw; dsimp only [slW] at f1 g2 h2; go_simp; all_goals with_reducible rfl)
   simp only [Act.put, J1, J2, J3, J4, J5, J6]
   refine tk (i := 12) (v := ?_) rfl (Or.inl ⟨by rfl, ?hy55⟩) ?ty55
   case hy55 => (intro w5 hSw; (try dsimp only at hSw); go_simp; all_goals with_reducible rfl)
   simp only [Act.put, J1, J2, J3, J4, J5, J6]
   refine tk (i := 13) (v := ?_) rfl (Or.inl ⟨by rfl, ?hy56⟩) ?ty56
   case hy56 => (intro w5 hSw; obtain ⟨⟨f0, f1, -⟩, ⟨g0, g1, g2, -⟩, ⟨h0, h1, h2, -⟩⟩ := hSw; dsimp only [slW] at f1 g2 h2; go_simp; all_goals with_reducible rfl)
   simp only [Act.put, J1, J2, J3, J4, J5, J6]
   refine tk (i := 14) (v := ?_) rfl (Or.inl ⟨by rfl, ?hy57⟩) ?ty57
   case hy57 => (intro w5 hSw; (try dsimp only at hSw); go_simp; all_goals with_reducible rfl)
   simp only [Act.put, J1, J2, J3, J4, J5, J6]
   refine tk (i := 15) (v := .bool true) rfl (Or.inl ⟨by rfl, ?hy58⟩) ?ty58
   case hy58 => (intro w5 hSw; (try dsimp only at hSw); go_simp; first | (simp; done) | omega | (simp; omega) | (all_goals with_reducible rfl))
   simp only [Act.put, J1, J2, J3, J4, J5, J6]
   refine tk (i := 16) (v := ?_) rfl (Or.inl ⟨by rfl, ?hy59⟩) ?ty59
   case hy59 => (intro w5 hSw; (try dsimp only at hSw); go_simp; all_goals with_reducible rfl)
   simp only [Act.put, J1, J2, J3, J4, J5, J6]
   refine tk (i := 17) (v := ?_) rfl (Or.inl ⟨by rfl, ?hy60⟩) ?ty60
   case hy60 => (intro w5 hSw; (try dsimp only at hSw); go_simp; all_goals with_reducible rfl)
   simp only [Act.put, J1, J2, J3, J4, J5, J6]
   refine tk (i := 18) (v := ?_) rfl (Or.inl ⟨by rfl, ?hy61⟩) ?ty61
   case hy61 => (intro w5 hSw; (try dsimp only at hSw); go_simp; all_goals with_reducible rfl)
   simp only [Act.put, J1, J2, J3, J4, J5, J6]
   refine tk (i := 19) (v := ?_) rfl (Or.inl ⟨by rfl, ?hy62⟩) ?ty62
   case hy62 => (intro w5 hSw; (try dsimp only at hSw); go_simp; all_goals with_reducible rfl)
   simp only [Act.put, J1, J2, J3, J4, J5, J6]
   refine tk (i := 20) (v := ?_) rfl (Or.inl ⟨by rfl, ?hy63⟩) ?ty63
   case hy63 => (intro w5 hSw; (try dsimp only at hSw); go_simp; all_goals with_reducible rfl)
   simp only [Act.put, J1, J2, J3, J4, J5, J6]
   refine tk (i := 21) (v := .bool true) rfl (Or.inl ⟨by rfl, ?hy64⟩) ?ty64
   case hy64 => (intro w5 hSw; (try dsimp only at hSw); go_simp; first | (simp; done) | omega | (simp; omega) | (all_goals with_reducible rfl))
   simp only [Act.put, J1, J2, J3, J4, J5, J6]
   refine tk (i := 22) (v := ?_) rfl (Or.inl ⟨by rfl, ?hy65⟩) ?ty65
   case hy65 => (intro w5 hSw; (try dsimp only at hSw); go_simp; all_goals with_reducible rfl)
   simp only [Act.put, J1, J2, J3, J4, J5, J6]
   refine tk (i := 23) (v := ?_) rfl (Or.inl ⟨by rfl, ?hy66⟩) ?ty66
   case hy66 => (intro w5 hSw; (try dsimp only at hSw); go_simp; all_goals with_reducible rfl)
   simp only [Act.put, J1, J2, J3, J4, J5, J6]
   refine tk (i := 24) (v := ?_) rfl (Or.inl ⟨by rfl, ?hy67⟩) ?ty67
   case hy67 => (intro w5 hSw; (try dsimp only at hSw); go_simp; all_goals with_reducible rfl)
   simp only [Act.put, J1, J2, J3, J4, J5, J6]
   refine tk (i := 25) (v := ?_) rfl (Or.inl ⟨by rfl, ?hy68⟩) ?ty68
   case hy68 => (intro w5 hSw; obtain ⟨⟨f0, f1, -⟩, ⟨g0, g1, g2, -⟩, ⟨h0, h1, h2, -⟩⟩ := hSw; dsimp only [slW] at f1 g2 h2; go_simp; all_goals with_reducible rfl)
   simp only [Act.put, J1, J2, J3, J4, J5, J6]
   refine tk (i := 26) (v := ?_) rfl (Or.inl ⟨by rfl, ?hy69⟩) ?ty69
   case hy69 => (intro w5 hSw; (try dsimp only at hSw); go_simp; all_goals with_reducible rfl)
   simp only [Act.put, J1, J2, J3, J4, J5, J6]
   refine tk (i := 27) (v := ?_) rfl (Or.inl ⟨by rfl, ?hy70⟩) ?ty70
   case hy70 => (intro w5 hSw; (try dsimp only at hSw); go_simp; all_goals with_reducible rfl)
   simp only [Act.put, J1, J2, J3, J4, J5, J6]
   refine tk (i := 28) (v := ?_) rfl (Or.inl ⟨by rfl, ?hy71⟩) ?ty71
   case hy71 => (intro w5 hSw; (try dsimp only at hSw); go_simp; all_goals with_reducible rfl)
   simp only [Act.put, J1, J2, J3, J4, J5, J6]
   refine wpAnyH_ready (rs := [29]) (by kernel_rfl) (by simp) ?_
   refine AllReadyH.cons rfl (fun K hK => ?_) AllReadyH.nil
   go_simp
   refine (sameOps_any (ls.take m) (ls.take m) (ya, m, yc) (pa, m, pc) x1 (HF.out _ hbx1).2.2.2.1 (isOs_take (HF.out _ hbx1).2.1 (by omega))).mono ?_
   rintro e x2 ⟨rfl, hbx2'⟩
   rw [smL_refl]
   have hbx2 := hbx1.trans (hbx2'.mono hbx1.size)
   refine hK.out _ _ (HF.out _ hbx2).1 (fun hHeld => ?_)
   clear hK K
   refine tk (i := 30) (v := ?_) rfl (Or.inl ⟨by rfl, ?hy72⟩) ?ty72
   case hy72 => (intro w5 hSw; (try dsimp only at hSw); go_simp; all_goals with_reducible rfl)
   simp only [Act.put, J1, J2, J3, J4, J5, J6]
   refine tk (i := 31) (v := ?_) rfl (Or.inl ⟨by rfl, ?hy73⟩) ?ty73
   case hy73 => (intro w5 hSw; (try dsimp only at hSw); go_simp; all_goals with_reducible rfl)
   simp only [Act.put, J1, J2, J3, J4, J5, J6]
   refine tk (i := 32) (v := ?_) rfl (Or.inl ⟨by rfl, ?hy74⟩) ?ty74
   case hy74 => (intro w5 hSw; (try dsimp only at hSw); go_simp; all_goals with_reducible rfl)
   simp only [Act.put, J1, J2, J3, J4, J5, J6]
   refine tk (i := 33) (v := ?_) rfl (Or.inl ⟨by rfl, ?hy75⟩) ?ty75
   case hy75 => (intro w5 hSw; obtain ⟨⟨f0, f1, -⟩, ⟨g0, g1, g2, -⟩, ⟨h0, h1, h2, -⟩⟩ := hSw; dsimp only [slW] at f1 g2 h2; go_simp; all_goals with_reducible rfl)
   simp only [Act.put, J1, J2, J3, J4, J5, J6]
   refine tk (i := 34) (v := ?_) rfl (Or.inl ⟨by rfl, ?hy76⟩) ?ty76
   case hy76 => (intro w5 hSw; (try dsimp only at hSw); go_simp; all_goals with_reducible rfl)
   simp only [Act.put, J1, J2, J3, J4, J5, J6]
   refine tk (i := 35) (v := .bool true) rfl (Or.inl ⟨by rfl, ?hy77⟩) ?ty77
   case hy77 => (intro w5 hSw; (try dsimp only at hSw); go_simp; first | (simp; done) | omega | (simp; omega) | (all_goals with_reducible rfl))
   simp only [Act.put, J1, J2, J3, J4, J5, J6]
   refine tk (i := 36) (v := ?_) rfl (Or.inl ⟨by rfl, ?hy78⟩) ?ty78
   case hy78 => (intro w5 hSw; (try dsimp only at hSw); go_simp; all_goals with_reducible rfl)
   simp only [Act.put, J1, J2, J3, J4, J5, J6]
   refine tk (i := 37) (v := ?_) rfl (Or.inl ⟨by rfl, ?hy79⟩) ?ty79
   case hy79 => (intro w5 hSw; (try dsimp only at hSw); go_simp; all_goals with_reducible rfl)
   simp only [Act.put, J1, J2, J3, J4, J5, J6]
   refine wpAnyH_done (by kernel_rfl) ?_ _
   have hBe := (HF.out _ hbx2).2.2.2.2
   clear hHeld
   go_wp2
   go_ret
   exact ⟨rfl, hBe⟩
  ·obtain ⟨rfl, -, rfl⟩ : va7 = some ⟨gp, 0, none⟩ ∧ vn7 = (flJ ls).length ∧ vc7 = cp := by cases h; exact ⟨rfl, rfl, rfl⟩
   clear h
   clear HSP
   obtain ⟨W8, hW8⟩ : ∃ W8, w7.alloc (.cells #[.int .i64 0, .slice (some ⟨gp, 0, none⟩) vn7 vc7] 33) = W8 := ⟨_, rfl⟩
   have b8 : Below w7.heap.size w7 W8 := by rw [← hW8]; exact (Below.refl _ _).alloc (Nat.le_refl _) _
   have t8 : Rc2 W8 w7.heap.size 0 ((some ⟨gp, 0, none⟩), vn7, vc7) := by rw [← hW8]; exact Rc2.new _ _ ((some ⟨gp, 0, none⟩), vn7, vc7) _
   have hB58 : Below w5.heap.size w5 W8 := hb7.trans (b8.mono hb7.size)
   have hB18 : Below w1.heap.size w1 W8 := hB5.trans (hB58.mono hB5.size)
   have HK8 : Hid (∀ W', Below W8.heap.size W8 W' → Rc2 W' w7.heap.size 0 ((some ⟨gp, 0, none⟩), vn7, vc7) ∧ Rd W' (some ⟨gp, 0, none⟩) (flJ ls) ∧ IsOs (W.heap.size + 1) W' (pa, pn, pc) ls ∧ TabH8 W' ∧ Rd W' a l ∧ Below w.heap.size w W') := fun W' hb => ⟨t8.below hb, (hrv.below b8).below hb, HLO.out W' (hB58.trans (hb.mono hB58.size)), (HTA.out W' (hb1.trans ((hB18.trans (hb.mono hB18.size)).mono hb1.size))).2, (HTA.out W' (hb1.trans ((hB18.trans (hb.mono hB18.size)).mono hb1.size))).1, hb1.trans ((hB18.trans (hb.mono hB18.size)).mono hb1.size)⟩
   have HR11 := readJournal_any (some ⟨gp, 0, none⟩) vn7 vc7 (flJ ls) W8 HPL.out hvn hvm (HK8.out _ (Below.refl _ _)).2.1 HBF.out (HK8.out _ (Below.refl _ _)).2.2.2.1
   rw [HJV.out] at HR11
   obtain ⟨k0, k1, -⟩ := id t8
   dsimp only [slW] at k1
   clear hrv b8 t8 hb7 HLO
   go_wp2_with fail
   clear hW8
   refine (HR11.mono fun e w' h => h.k).mono ?_
   clear HR11 k0 k1
   rintro e w9 ⟨xa, xc, rfl, ho9, hb9⟩
   dsimp only at ho9 ⊢
   rw [HLL.out] at ho9 ⊢
   generalize w7.heap.size = G6 at *
   obtain ⟨W10, hW10⟩ : ∃ W10, w9.alloc (.cells #[.int .i64 0, .int .i64 (vn7 : Int), .slice xa pn xc] 40) = W10 := ⟨_, rfl⟩
   have b10 : Below w9.heap.size w9 W10 := by rw [← hW10]; exact (Below.refl _ _).alloc (Nat.le_refl _) _
   have t10 : Rc3 W10 w9.heap.size 0 vn7 (xa, pn, xc) := by rw [← hW10]; exact Rc3.new _ _ _ (xa, pn, xc) _
   have hB810 : Below W8.heap.size W8 W10 := hb9.trans (b10.mono hb9.size)
   have HK10 : Hid (∀ W', Below W10.heap.size W10 W' → Rc3 W' w9.heap.size 0 vn7 (xa, pn, xc) ∧ IsOs W8.heap.size W' (xa, pn, xc) ls) := fun W' hb => ⟨t10.below hb, (ho9.below b10).below hb⟩
   have k1 := (HK8.out _ hB810).1.2.1
   dsimp only [slW] at k1
   clear ho9 b10 t10 hb9
   go_wp2_with fail
   clear hW10
   refine (lwAtW_any a n cap 3 _ l W10 hl (HK8.out _ hB810).2.2.2.2.1 hB hn (by omega) (by omega) (by omega)).mono ?_
   rintro e w11 ⟨r, rfl, q0, q1, hb11⟩
   generalize w9.heap.size = G7 at *
   have hB811 : Below W8.heap.size W8 w11 := hB810.trans (hb11.mono hB810.size)
   clear k1
   have k1 := (HK8.out _ hB811).1.2.1
   dsimp only [slW] at k1
   obtain ⟨t, rfl⟩ := Int.eq_ofNat_of_zero_le q0
   have htP : t ≤ vn7 := by omega
   have htC : (t : Int) ≤ (vc7 : Int) := by omega
   obtain ⟨m, u2, hm, hu2, hjc⟩ := HCT.out t
   have HR13 := readJournal_any (some ⟨gp, 0, none⟩) t vc7 ((flJ ls).take t) w11 (by rw [List.length_take, HPL.out]; omega) (by omega) hvm (rd_takeJ (HK8.out _ hB811).2.1 _) (fun z hz => HBF.out z (List.mem_of_mem_take hz)) (HK8.out _ hB811).2.2.2.1
   rw [hjc] at HR13
   have HML : Hid ((ls.take m).length = m) := by show _ = _; rw [List.length_take]; omega
   clear q0 q1 hjc
   go_wp2_with fail
   refine (HR13.mono fun e w' h => h.k).mono ?_
   clear HR13 k1
   rintro e w12 ⟨ya, yc, rfl, ho12, hb12⟩
   dsimp only at ho12 ⊢
   rw [HML.out] at ho12 ⊢
   obtain ⟨W13, hW13⟩ : ∃ W13, w12.alloc (.cells #[.int .i64 0, .int .i64 (u2 : Int), .slice ya m yc] 40) = W13 := ⟨_, rfl⟩
   have b13 : Below w12.heap.size w12 W13 := by rw [← hW13]; exact (Below.refl _ _).alloc (Nat.le_refl _) _
   have t13 : Rc3 W13 w12.heap.size 0 u2 (ya, m, yc) := by rw [← hW13]; exact Rc3.new _ _ _ (ya, m, yc) _
   have hB1113 : Below w11.heap.size w11 W13 := hb12.trans (b13.mono hb12.size)
   have hB1013 : Below W10.heap.size W10 W13 := hb11.trans (hB1113.mono hb11.size)
   have hB813 : Below W8.heap.size W8 W13 := hB810.trans (hB1013.mono hB810.size)
   have HF : Hid (∀ Y, Below W13.heap.size W13 Y → (Rc2 Y G6 0 ((some ⟨gp, 0, none⟩), vn7, vc7) ∧ Rc3 Y G7 0 vn7 (xa, pn, xc) ∧ Rc3 Y w12.heap.size 0 u2 (ya, m, yc)) ∧ IsOs (W.heap.size + 1) Y (pa, pn, pc) ls ∧ IsOs W8.heap.size Y (xa, pn, xc) ls ∧ IsOs w11.heap.size Y (ya, m, yc) (ls.take m) ∧ Below w.heap.size w Y) := fun Y hb =>
    ⟨⟨(HK8.out Y (hB813.trans (hb.mono hB813.size))).1, (HK10.out Y (hB1013.trans (hb.mono hB1013.size))).1, t13.below hb⟩, (HK8.out Y (hB813.trans (hb.mono hB813.size))).2.2.1, (HK10.out Y (hB1013.trans (hb.mono hB1013.size))).2, (ho12.below b13).below hb, (HK8.out Y (hB813.trans (hb.mono hB813.size))).2.2.2.2.2⟩
   have k2 := t13.2.2.1
   dsimp only [slW] at k2
   have hmp : (m : Int) ≤ (pn : Int) := by have := HLL.out; omega
   have hmpc : (m : Int) ≤ (pc : Int) := by omega
   have hu2i : (u2 : Int) ≤ (t : Int) := by omega
   clear ho12 b13 t13 hb12 HK8 HK10 hB1113 hB1013 hB813 hB811 hB810 hb11
   go_wp2_with fail
   clear hW13 k2
   generalize w12.heap.size = G9 at *
   refine wp_region_held_drew (S := fun w' => Rc2 w' G6 0 ((some ⟨gp, 0, none⟩), vn7, vc7) ∧ Rc3 w' G7 0 vn7 (xa, pn, xc) ∧ Rc3 w' G9 0 u2 (ya, m, yc)) (by kernel_rfl) ?hS80 (fun hHeld => ?_)
   case hS80 => exact (HF.out _ (Below.refl _ _).drew).1
   have hbx0 : Below W13.heap.size W13 W13.drew := (Below.refl _ _).drew
   generalize W13.drew = x0 at *
   refine tk (i := 0) (v := ?_) rfl (Or.inl ⟨by rfl, ?hy81⟩) ?ty81
   case hy81 => (intro w5 hSw; (try dsimp only at hSw); go_simp; all_goals with_reducible rfl)
   simp only [Act.put, J1, J2, J4, J5, J6]
   refine tk (i := 1) (v := ?_) rfl (Or.inl ⟨by rfl, ?hy82⟩) ?ty82
   case hy82 => (intro w5 hSw; obtain ⟨⟨f0, f1, -⟩, ⟨g0, g1, g2, -⟩, ⟨h0, h1, h2, -⟩⟩ := hSw; dsimp only [slW] at f1 g2 h2; go_simp; all_goals with_reducible rfl)
   simp only [Act.put, J1, J2, J3, J4, J5, J6]
   refine tk (i := 2) (v := .bool true) rfl (Or.inl ⟨by rfl, ?hy83⟩) ?ty83
   case hy83 => (intro w5 hSw; (try dsimp only at hSw); go_simp; first | (simp; done) | omega | (simp; omega) | (all_goals with_reducible rfl))
   simp only [Act.put, J1, J2, J3, J4, J5, J6]
   refine tk (i := 3) (v := ?_) rfl (Or.inl ⟨by rfl, ?hy84⟩) ?ty84
   case hy84 => (intro w5 hSw; (try dsimp only at hSw); go_simp; all_goals with_reducible rfl)
   simp only [Act.put, J1, J2, J3, J4, J5, J6]
   refine tk (i := 4) (v := ?_) rfl (Or.inl ⟨by rfl, ?hy85⟩) ?ty85
   case hy85 => (intro w5 hSw; (try dsimp only at hSw); go_simp; all_goals with_reducible rfl)
   simp only [Act.put, J1, J2, J3, J4, J5, J6]
   refine tk (i := 5) (v := ?_) rfl (Or.inl ⟨by rfl, ?hy86⟩) ?ty86
   case hy86 => (intro w5 hSw; obtain ⟨⟨f0, f1, -⟩, ⟨g0, g1, g2, -⟩, ⟨h0, h1, h2, -⟩⟩ := hSw; dsimp only [slW] at f1 g2 h2; go_simp; all_goals with_reducible rfl)
   simp only [Act.put, J1, J2, J3, J4, J5, J6]
   refine tk (i := 6) (v := ?_) rfl (Or.inl ⟨by rfl, ?hy87⟩) ?ty87
   case hy87 => (intro w5 hSw; (try dsimp only at hSw); go_simp; all_goals with_reducible rfl)
   simp only [Act.put, J1, J2, J3, J4, J5, J6]
   refine wpAnyH_ready (rs := [7]) (by kernel_rfl) (by simp) ?_
   refine AllReadyH.cons rfl (fun K hK => ?_) AllReadyH.nil
   go_simp
   refine (sameOps_any ls ls (xa, pn, xc) (pa, pn, pc) x0 (HF.out _ hbx0).2.2.1 (HF.out _ hbx0).2.1).mono ?_
   rintro e x1 ⟨rfl, hbx1'⟩
   rw [smL_refl]
   have hbx1 := hbx0.trans (hbx1'.mono hbx0.size)
   refine hK.out _ _ (HF.out _ hbx1).1 (fun hHeld => ?_)
   clear hK K
   refine tk (i := 8) (v := ?_) rfl (Or.inl ⟨by rfl, ?hy88⟩) ?ty88
   case hy88 => (intro w5 hSw; (try dsimp only at hSw); go_simp; all_goals with_reducible rfl)
   simp only [Act.put, J1, J2, J3, J4, J5, J6]
   refine tk (i := 9) (v := ?_) rfl (Or.inl ⟨by rfl, ?hy89⟩) ?ty89
   case hy89 => (intro w5 hSw; (try dsimp only at hSw); go_simp; all_goals with_reducible rfl)
   simp only [Act.put, J1, J2, J3, J4, J5, J6]
   refine tk (i := 10) (v := ?_) rfl (Or.inl ⟨by rfl, ?hy90⟩) ?ty90
   case hy90 => (intro w5 hSw; (try dsimp only at hSw); go_simp; all_goals with_reducible rfl)
   simp only [Act.put, J1, J2, J3, J4, J5, J6]
   refine tk (i := 11) (v := ?_) rfl (Or.inl ⟨by rfl, ?hy91⟩) ?ty91
   case hy91 => (intro w5 hSw; obtain ⟨⟨f0, f1, -⟩, ⟨g0, g1, g2, -⟩, ⟨h0, h1, h2, -⟩⟩ := hSw; dsimp only [slW] at f1 g2 h2; go_simp; all_goals with_reducible rfl)
   simp only [Act.put, J1, J2, J3, J4, J5, J6]
   refine tk (i := 12) (v := ?_) rfl (Or.inl ⟨by rfl, ?hy92⟩) ?ty92
   case hy92 => (intro w5 hSw; (try dsimp only at hSw); go_simp; all_goals with_reducible rfl)
   simp only [Act.put, J1, J2, J3, J4, J5, J6]
   refine tk (i := 13) (v := ?_) rfl (Or.inl ⟨by rfl, ?hy93⟩) ?ty93
   case hy93 => (intro w5 hSw; obtain ⟨⟨f0, f1, -⟩, ⟨g0, g1, g2, -⟩, ⟨h0, h1, h2, -⟩⟩ := hSw; dsimp only [slW] at f1 g2 h2; go_simp; all_goals with_reducible rfl)
   simp only [Act.put, J1, J2, J3, J4, J5, J6]
   refine tk (i := 14) (v := ?_) rfl (Or.inl ⟨by rfl, ?hy94⟩) ?ty94
   case hy94 => (intro w5 hSw; (try dsimp only at hSw); go_simp; all_goals with_reducible rfl)
   simp only [Act.put, J1, J2, J3, J4, J5, J6]
   refine tk (i := 15) (v := .bool true) rfl (Or.inl ⟨by rfl, ?hy95⟩) ?ty95
   case hy95 => (intro w5 hSw; (try dsimp only at hSw); go_simp; first | (simp; done) | omega | (simp; omega) | (all_goals with_reducible rfl))
   simp only [Act.put, J1, J2, J3, J4, J5, J6]
   refine tk (i := 16) (v := ?_) rfl (Or.inl ⟨by rfl, ?hy96⟩) ?ty96
   case hy96 => (intro w5 hSw; (try dsimp only at hSw); go_simp; all_goals with_reducible rfl)
   simp only [Act.put, J1, J2, J3, J4, J5, J6]
   refine tk (i := 17) (v := ?_) rfl (Or.inl ⟨by rfl, ?hy97⟩) ?ty97
   case hy97 => (intro w5 hSw; (try dsimp only at hSw); go_simp; all_goals with_reducible rfl)
   simp only [Act.put, J1, J2, J3, J4, J5, J6]
   refine tk (i := 18) (v := ?_) rfl (Or.inl ⟨by rfl, ?hy98⟩) ?ty98
   case hy98 => (intro w5 hSw; (try dsimp only at hSw); go_simp; all_goals with_reducible rfl)
   simp only [Act.put, J1, J2, J3, J4, J5, J6]
   refine tk (i := 19) (v := ?_) rfl (Or.inl ⟨by rfl, ?hy99⟩) ?ty99
   case hy99 => (intro w5 hSw; (try dsimp only at hSw); go_simp; all_goals with_reducible rfl)
   simp only [Act.put, J1, J2, J3, J4, J5, J6]
   refine tk (i := 20) (v := ?_) rfl (Or.inl ⟨by rfl, ?hy100⟩) ?ty100
   case hy100 => (intro w5 hSw; (try dsimp only at hSw); go_simp; all_goals with_reducible rfl)
   simp only [Act.put, J1, J2, J3, J4, J5, J6]
   refine tk (i := 21) (v := .bool true) rfl (Or.inl ⟨by rfl, ?hy101⟩) ?ty101
   case hy101 => (intro w5 hSw; (try dsimp only at hSw); go_simp; first | (simp; done) | omega | (simp; omega) | (all_goals with_reducible rfl))
   simp only [Act.put, J1, J2, J3, J4, J5, J6]
   refine tk (i := 22) (v := ?_) rfl (Or.inl ⟨by rfl, ?hy102⟩) ?ty102
   case hy102 => (intro w5 hSw; (try dsimp only at hSw); go_simp; all_goals with_reducible rfl)
   simp only [Act.put, J1, J2, J3, J4, J5, J6]
   refine tk (i := 23) (v := ?_) rfl (Or.inl ⟨by rfl, ?hy103⟩) ?ty103
   case hy103 => (intro w5 hSw; (try dsimp only at hSw); go_simp; all_goals with_reducible rfl)
   simp only [Act.put, J1, J2, J3, J4, J5, J6]
   refine tk (i := 24) (v := ?_) rfl (Or.inl ⟨by rfl, ?hy104⟩) ?ty104
   case hy104 => (intro w5 hSw; (try dsimp only at hSw); go_simp; all_goals with_reducible rfl)
   simp only [Act.put, J1, J2, J3, J4, J5, J6]
   refine tk (i := 25) (v := ?_) rfl (Or.inl ⟨by rfl, ?hy105⟩) ?ty105
   case hy105 => (intro w5 hSw; obtain ⟨⟨f0, f1, -⟩, ⟨g0, g1, g2, -⟩, ⟨h0, h1, h2, -⟩⟩ := hSw; dsimp only [slW] at f1 g2 h2; go_simp; all_goals with_reducible rfl)
   simp only [Act.put, J1, J2, J3, J4, J5, J6]
   refine tk (i := 26) (v := ?_) rfl (Or.inl ⟨by rfl, ?hy106⟩) ?ty106
   case hy106 => (intro w5 hSw; (try dsimp only at hSw); go_simp; all_goals with_reducible rfl)
   simp only [Act.put, J1, J2, J3, J4, J5, J6]
   refine tk (i := 27) (v := ?_) rfl (Or.inl ⟨by rfl, ?hy107⟩) ?ty107
   case hy107 => (intro w5 hSw; (try dsimp only at hSw); go_simp; all_goals with_reducible rfl)
   simp only [Act.put, J1, J2, J3, J4, J5, J6]
   refine tk (i := 28) (v := ?_) rfl (Or.inl ⟨by rfl, ?hy108⟩) ?ty108
   case hy108 => (intro w5 hSw; (try dsimp only at hSw); go_simp; all_goals with_reducible rfl)
   simp only [Act.put, J1, J2, J3, J4, J5, J6]
   refine wpAnyH_ready (rs := [29]) (by kernel_rfl) (by simp) ?_
   refine AllReadyH.cons rfl (fun K hK => ?_) AllReadyH.nil
   go_simp
   refine (sameOps_any (ls.take m) (ls.take m) (ya, m, yc) (pa, m, pc) x1 (HF.out _ hbx1).2.2.2.1 (isOs_take (HF.out _ hbx1).2.1 (by omega))).mono ?_
   rintro e x2 ⟨rfl, hbx2'⟩
   rw [smL_refl]
   have hbx2 := hbx1.trans (hbx2'.mono hbx1.size)
   refine hK.out _ _ (HF.out _ hbx2).1 (fun hHeld => ?_)
   clear hK K
   refine tk (i := 30) (v := ?_) rfl (Or.inl ⟨by rfl, ?hy109⟩) ?ty109
   case hy109 => (intro w5 hSw; (try dsimp only at hSw); go_simp; all_goals with_reducible rfl)
   simp only [Act.put, J1, J2, J3, J4, J5, J6]
   refine tk (i := 31) (v := ?_) rfl (Or.inl ⟨by rfl, ?hy110⟩) ?ty110
   case hy110 => (intro w5 hSw; (try dsimp only at hSw); go_simp; all_goals with_reducible rfl)
   simp only [Act.put, J1, J2, J3, J4, J5, J6]
   refine tk (i := 32) (v := ?_) rfl (Or.inl ⟨by rfl, ?hy111⟩) ?ty111
   case hy111 => (intro w5 hSw; (try dsimp only at hSw); go_simp; all_goals with_reducible rfl)
   simp only [Act.put, J1, J2, J3, J4, J5, J6]
   refine tk (i := 33) (v := ?_) rfl (Or.inl ⟨by rfl, ?hy112⟩) ?ty112
   case hy112 => (intro w5 hSw; obtain ⟨⟨f0, f1, -⟩, ⟨g0, g1, g2, -⟩, ⟨h0, h1, h2, -⟩⟩ := hSw; dsimp only [slW] at f1 g2 h2; go_simp; all_goals with_reducible rfl)
   simp only [Act.put, J1, J2, J3, J4, J5, J6]
   refine tk (i := 34) (v := ?_) rfl (Or.inl ⟨by rfl, ?hy113⟩) ?ty113
   case hy113 => (intro w5 hSw; (try dsimp only at hSw); go_simp; all_goals with_reducible rfl)
   simp only [Act.put, J1, J2, J3, J4, J5, J6]
   refine tk (i := 35) (v := .bool true) rfl (Or.inl ⟨by rfl, ?hy114⟩) ?ty114
   case hy114 => (intro w5 hSw; (try dsimp only at hSw); go_simp; first | (simp; done) | omega | (simp; omega) | (all_goals with_reducible rfl))
   simp only [Act.put, J1, J2, J3, J4, J5, J6]
   refine tk (i := 36) (v := ?_) rfl (Or.inl ⟨by rfl, ?hy115⟩) ?ty115
   case hy115 => (intro w5 hSw; (try dsimp only at hSw); go_simp; all_goals with_reducible rfl)
   simp only [Act.put, J1, J2, J3, J4, J5, J6]
   refine tk (i := 37) (v := ?_) rfl (Or.inl ⟨by rfl, ?hy116⟩) ?ty116
   case hy116 => (intro w5 hSw; (try dsimp only at hSw); go_simp; all_goals with_reducible rfl)
   simp only [Act.put, J1, J2, J3, J4, J5, J6]
   refine wpAnyH_done (by kernel_rfl) ?_ _
   have hBe := (HF.out _ hbx2).2.2.2.2
   clear hHeld
   go_wp2
   go_ret
   exact ⟨rfl, hBe⟩
end Go.Proofs.YtdcgihcjiiemdaaDoor
