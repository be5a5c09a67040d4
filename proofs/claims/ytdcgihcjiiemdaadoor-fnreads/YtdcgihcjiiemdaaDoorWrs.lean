/- The walk of the law FnReads: it returns true, whatever the input; the condition: the table kindHas lies in its variable. -/
import Derived.Test.YtdcgihcjiiemdaaDoorDro
import Derived.Test.YtdcgihcjiiemdaaDoorDpkToOss
import Derived.Test.YtdcgihcjiiemdaaDoorSmo
import Derived.Test.YtdcgihcjiiemdaaDoorOrmToDrl5
import Derived.Test.YtdcgihcjiiemdaaDoorDrw2ToAppI
import Derived.Test.YtdcgihcjiiemdaaDoorMemFToEwp
import Derived.Test.YtdcgihcjiiemdaaDoorBmbToBxs
namespace Go.Proofs.YtdcgihcjiiemdaaDoor
open Go.RowKit
set_option linter.unusedVariables false

theorem fldO0 (a b c d e f g h i j : Value) (w : World) : (Instr.field 29 (.agg #[a, b, c, d, e, f, g, h, i, j]) 0).run Tryd.prog w = .ok a w := by
  simp [Instr.field, asAgg, go_sem]
/-- Values put into slots one behind the other. -/
def putAll (a : Act) : List Nat → List Value → Act
  | s :: ss, v :: vs => putAll (a.put (some s) v) ss vs
  | _, _ => a
/-- The ways of a piece of code meet: whatever it put into its slots, the last of them tells no. -/
theorem wp_meet {P : Program} {c : Code} {Q : Exit → Act → World → Prop} {a : Act} {w : World} (ss : List Nat) (R : World → Prop)
    (h1 : c.wp P (fun ex a' w' => ex = .normal ∧ R w' ∧ (ss.map fun s => a'.tmps.getD s undef).getLast? = some (.bool false) ∧ a' = putAll a ss (ss.map fun s => a'.tmps.getD s undef)) a w)
    (h2 : ∀ (vs : List Value) (w' : World), vs.length = ss.length → vs.getLast? = some (.bool false) → R w' → Q .normal (putAll a ss vs) w') : c.wp P Q a w :=
  Code.wp_mono (fun e a' w' ⟨he, hR, hf, ha⟩ => by subst he; have h := h2 _ w' (by simp) hf hR; rw [← ha] at h; exact h) h1
theorem rd_new {w : World} {g n : Nat} {l : List Nat} (h : Rd w (some ⟨g, 0, none⟩) l) (hl : l.length = n) : ∀ j, j < n → w.cell? ((⟨g, 0, none⟩ : Addr).add j) = some (.int .u8 (nth l j : Int)) := fun j hj => by
  obtain ⟨b', off', e, -, hc⟩ := h.at_ (by omega)
  cases e
  rw [Go.WideShapes.add_plain]
  exact hc j (by omega)
theorem smO_self (o : OpR) : smO o o = true := by
  have : smU o.u o.u = true := by simp [smU, eqH]
  simp [smO, this]
theorem smL_one (o : OpR) : smL [o] [o] = true := by simp [smL, eqH, smO_self]
/-- What rpV tells of any bytes. -/
theorem rpV_cs (d : List Nat) : ((rpV d).1 = 5 ∧ (rpV d).2.1 = 0) ∨ ((rpV d).1 = 0 ∧ ofV (rpV d).2.2 = 0 ∧ (rpV d).2.1 = (pkO (rpV d).2.2).length ∧ pkO (rpV d).2.2 <+: d) := by
  rcases rpV_or d with h | ⟨h, h1, h2⟩
  · left; rw [h]; exact ⟨rfl, rfl⟩
  · right; rw [h]; exact ⟨rfl, h1, rfl, h2⟩
theorem rd_preJ {w : World} {g : Nat} {l d : List Nat} (h : Rd w (some ⟨g, 0, none⟩) d) (hp : l <+: d) : Rd w (some ⟨g, 0, none⟩) l := by
  obtain ⟨r, rfl⟩ := hp
  rcases h with h | ⟨b, off, e, hb, hc⟩
  · left; exact (List.append_eq_nil_iff.1 h).1
  · exact .inr ⟨b, off, e, hb, fun i hi => by
      rw [hc i (by rw [List.length_append]; omega)]
      congr 3
      unfold nth
      rw [List.getD_eq_getElem?_getD, List.getD_eq_getElem?_getD, List.getElem?_append_left hi]⟩
theorem isOs_one {lo g : Nat} {w' : World} {o : OpR} {p : SlO} (hs : IsOp lo w' p o) (hq : Qo w' g (opQ o p)) (hg : lo ≤ g) : IsOs lo w' (some ⟨g, 0, none⟩, 1, 1) [o] := by
  refine ⟨rfl, Nat.le_refl _, (show 1 ≤ maxLen by decide), .inr ⟨g, 0, rfl, hg, hq.lt, fun i hi => ?_⟩⟩
  obtain rfl : i = 0 := by simpa using hi
  obtain ⟨c0, c1, c2, c3, c4, c5, c6, c7⟩ := hq
  exact ⟨p, ⟨c0, c1, c2, c3, c4, c5, c6, c7⟩, hs⟩

set_option maxHeartbeats 12800000 in
set_option maxRecDepth 100000 in
theorem walkReads (a : Option Addr) (n cap : Nat) (l : List Nat) (w : World) (hl : l.length = n) (hr : Rd w a l) (hB : IsB l) (hT : TabH8 w) :
    Calls Tryd.prog 3 #[.slice a n cap] w fun e w' => e = .returned (.bool true) ∧ Below w.heap.size w w' := by
  by_cases hbig : 1048576 < n
  · go_enter Tryd.func3, Tryd.ntmps3
    go_wp2_with fail
    refine (lwBig_any a n cap w).mono ?_
    rintro e w1 ⟨rfl, rfl⟩
    rw [decide_eq_true (by omega)]
    go_wp2
    go_ret
    exact ⟨rfl, Below.refl _ _⟩
  have hn : n ≤ 1048576 := by omega
  have HTA : Hid (∀ W, Below w.heap.size w W → Rd W a l ∧ TabH8 W) := fun W hb => ⟨hr.below hb, hT.below hb⟩
  go_enter Tryd.func3, Tryd.ntmps3
  go_wp2_with fail
  refine (lwBig_any a n cap w).mono ?_
  rintro e w1 ⟨rfl, rfl⟩
  rw [decide_eq_false (by omega)]
  go_wp2_with fail
  refine (drawReadOp_any a n cap l w hl hr hB hn).mono ?_
  rintro e w1 ⟨g, N, cN, d, rfl, hdl, hnc, hcm, hN8, hBd, hrd, hglt, hb1⟩
  clear hr hT hbig
  have HIR : Hid (∀ W, Below w1.heap.size w1 W → Calls Tryd.prog 7 #[.slice (some ⟨g, 0, none⟩) N cN] W fun e w' => OrEnd (rpV d) W e w') := fun W hb => readOp_any _ _ _ d W hdl hnc hcm (hrd.below hb) hBd (HTA.out W (hb1.trans (hb.mono hb1.size))).2
  have HSR : Hid (∀ W, Below w1.heap.size w1 W → Calls Tryd.prog 8 #[.slice (some ⟨g, 0, none⟩) N cN] W fun e w' => OrEnd (rpV d) W e w') := fun W hb => by
    rw [← rpM_eq]; exact specReadOp_of HL9_any _ _ _ d W hdl hnc hcm (by omega) (hrd.below hb) hBd
  have HRD : Hid (∀ W, Below w1.heap.size w1 W → Rd W (some ⟨g, 0, none⟩) d) := fun W hb => hrd.below hb
  have HDL : Hid (d.length = N) := hdl
  have HCS : Hid (((rpV d).1 = 5 ∧ (rpV d).2.1 = 0) ∨ ((rpV d).1 = 0 ∧ ofV (rpV d).2.2 = 0 ∧ (rpV d).2.1 = (pkO (rpV d).2.2).length ∧ pkO (rpV d).2.2 <+: d)) := rpV_cs d
  clear hrd hglt hdl
  generalize rpV d = rv at *
  obtain ⟨c, u, ⟨ok, ox, ot, ou, om, of0, od, ob⟩⟩ := rv
  dsimp only at HIR HSR HCS
  go_wp2_with fail
  refine (HIR.out w1 (Below.refl _ _)).mono ?_
  rintro e w2 ⟨⟨⟨pa, pn, pc⟩, qa, qn, qc⟩, rfl, hop, -, -, hb2⟩
  dsimp only [orV, slW] at hop ⊢
  obtain ⟨W3, hW3⟩ : ∃ W3, w2.alloc (.cells #[.int .i64 c, .int .i64 (u : Int), .int .i64 ok, .string ox, .string ot, .slice pa pn pc, .int .i64 om, .int .i64 of0, .int .i64 od, .slice qa qn qc] 29) = W3 := ⟨_, rfl⟩
  have b3 : Below w2.heap.size w2 W3 := by rw [← hW3]; exact (Below.refl _ _).alloc (Nat.le_refl _) _
  have t3 : Tc W3 w2.heap.size c u ⟨ok, ox, ot, ou, om, of0, od, ob⟩ ((pa, pn, pc), (qa, qn, qc)) := by rw [← hW3]; exact Tc.new _ _ _ ⟨ok, ox, ot, ou, om, of0, od, ob⟩ ((pa, pn, pc), (qa, qn, qc)) _
  have hB3 : Below w1.heap.size w1 W3 := hb2.trans (b3.mono hb2.size)
  have HTc : Hid (∀ W, Below W3.heap.size W3 W → Tc W w2.heap.size c u ⟨ok, ox, ot, ou, om, of0, od, ob⟩ ((pa, pn, pc), (qa, qn, qc)) ∧ IsOp w1.heap.size W ((pa, pn, pc), (qa, qn, qc)) ⟨ok, ox, ot, ou, om, of0, od, ob⟩) := fun W hb => ⟨t3.below hb t3.lt, (hop.below b3).below hb⟩
  clear hop hb2 b3 t3
  go_wp2_with fail
  clear hW3
  generalize w2.heap.size = G at *
  refine wp_meet [17, 18, 19, 20, 21, 22, 23, 24, 25, 26, 27, 28, 29, 30, 31, 32, 33, 34, 35, 36, 37, 38, 39, 40, 41, 42, 43, 44, 45, 46, 47, 48, 49, 50, 51] (fun W => Below w1.heap.size w1 W) ?hm17 (fun vs W hlv hfv hBW => ?_)
  case hm17 =>
    rcases HCS.out with ⟨rfl, rfl⟩ | ⟨rfl, hof, hul, hpre⟩
    · have fO := fldO0
      refine wp_region_held_drew (S := fun w' => Tc w' G 5 0 ⟨ok, ox, ot, ou, om, of0, od, ob⟩ ((pa, pn, pc), (qa, qn, qc))) (by kernel_rfl) ?hS1 (fun hHeld => ?_)
      case hS1 => exact (HTc.out _ (Below.refl _ _).drew).1
      have hbx0 : Below W3.heap.size W3 W3.drew := (Below.refl _ _).drew
      generalize W3.drew = x0 at *
      refine tk (i := 0) (v := ?_) rfl (Or.inl ⟨by rfl, ?hy2⟩) ?ty2 (hQ := fun _ _ _ h => absurd h.1 (fun e => by cases e))
      case hy2 => (intro w5 hSw; obtain ⟨e0, e1, e2, e3, e4, e5, e6, e7, e8, e9⟩ := hSw; go_simp; all_goals with_reducible rfl)
      simp only [Act.put, J1, J2, J4, J5, J6]
      refine tk (i := 1) (v := ?_) rfl (Or.inl ⟨by rfl, ?hy3⟩) ?ty3 (hQ := fun _ _ _ h => absurd h.1 (fun e => by cases e))
      case hy3 => (intro w5 hSw; obtain ⟨e0, e1, e2, e3, e4, e5, e6, e7, e8, e9⟩ := hSw; go_simp; all_goals with_reducible rfl)
      simp only [Act.put, J1, J2, J3, J4, J5, J6]
      refine tk (i := 2) (v := ?_) rfl (Or.inl ⟨by rfl, ?hy4⟩) ?ty4 (hQ := fun _ _ _ h => absurd h.1 (fun e => by cases e))
      case hy4 => (intro w5 hSw; obtain ⟨e0, e1, e2, e3, e4, e5, e6, e7, e8, e9⟩ := hSw; go_simp; all_goals with_reducible rfl)
      simp only [Act.put, J1, J2, J3, J4, J5, J6]
      refine wpAnyH_ready (rs := [3]) (by kernel_rfl) (by simp) ?_
      refine AllReadyH.cons rfl (fun K hK => ?_) AllReadyH.nil
      go_simp
      refine (HSR.out x0 (hB3.trans (hbx0.mono hB3.size))).mono ?_
      rintro e x1 ⟨⟨⟨p1a, p1n, p1c⟩, q1a, q1n, q1c⟩, rfl, -, -, -, hbx1'⟩
      dsimp only [orV, slW]
      have hbx1 := hbx0.trans (hbx1'.mono hbx0.size)
      refine hK.out _ _ (HTc.out _ hbx1).1 (fun hHeld => ?_)
      clear hK K
      refine tk (i := 4) (v := ?_) rfl (Or.inl ⟨by rfl, ?hy5⟩) ?ty5 (hQ := fun _ _ _ h => absurd h.1 (fun e => by cases e))
      case hy5 => (intro w5 hSw; (try dsimp only at hSw); go_simp; all_goals with_reducible rfl)
      simp only [Act.put, J1, J2, J3, J4, J5, J6]
      refine tk (i := 5) (v := .bool false) rfl (Or.inl ⟨by rfl, ?hy6⟩) ?ty6 (hQ := fun _ _ _ h => absurd h.1 (fun e => by cases e))
      case hy6 => (intro w5 hSw; (try dsimp only at hSw); go_simp; first | (simp; done) | omega | (simp; omega) | (all_goals with_reducible rfl))
      simp only [Act.put, J1, J2, J3, J4, J5, J6]
      refine tk (i := 6) (v := ?_) rfl (Or.inl ⟨by rfl, ?hy7⟩) ?ty7 (hQ := fun _ _ _ h => absurd h.1 (fun e => by cases e))
      case hy7 => (intro w5 hSw; (try dsimp only at hSw); go_simp; all_goals with_reducible rfl)
      simp only [Act.put, J1, J2, J3, J4, J5, J6]
      refine tk (i := 7) (v := ?_) rfl (Or.inl ⟨by rfl, ?hy8⟩) ?ty8 (hQ := fun _ _ _ h => absurd h.1 (fun e => by cases e))
      case hy8 => (intro w5 hSw; obtain ⟨e0, e1, e2, e3, e4, e5, e6, e7, e8, e9⟩ := hSw; go_simp; all_goals with_reducible rfl)
      simp only [Act.put, J1, J2, J3, J4, J5, J6]
      refine tk (i := 8) (v := ?_) rfl (Or.inl ⟨by rfl, ?hy9⟩) ?ty9 (hQ := fun _ _ _ h => absurd h.1 (fun e => by cases e))
      case hy9 => (intro w5 hSw; obtain ⟨e0, e1, e2, e3, e4, e5, e6, e7, e8, e9⟩ := hSw; go_simp; all_goals with_reducible rfl)
      simp only [Act.put, J1, J2, J3, J4, J5, J6]
      refine tk (i := 9) (v := .bool false) rfl (Or.inl ⟨by rfl, ?hy10⟩) ?ty10 (hQ := fun _ _ _ h => absurd h.1 (fun e => by cases e))
      case hy10 => (intro w5 hSw; (try dsimp only at hSw); go_simp; first | (simp; done) | omega | (simp; omega) | (all_goals with_reducible rfl))
      simp only [Act.put, J1, J2, J3, J4, J5, J6]
      refine tk (i := 10) (v := ?_) rfl (Or.inl ⟨by rfl, ?hy11⟩) ?ty11 (hQ := fun _ _ _ h => absurd h.1 (fun e => by cases e))
      case hy11 => (intro w5 hSw; (try dsimp only at hSw); go_simp; all_goals with_reducible rfl)
      simp only [Act.put, J1, J2, J3, J4, J5, J6]
      refine tk (i := 11) (v := undef) rfl (Or.inr ⟨by rfl, rfl⟩) ?_ (hQ := fun _ _ _ h => absurd h.1 (fun e => by cases e))
      simp only [Act.put, J1, J2, J3, J4, J5, J6]
      refine tk (i := 12) (v := undef) rfl (Or.inr ⟨by rfl, rfl⟩) ?_ (hQ := fun _ _ _ h => absurd h.1 (fun e => by cases e))
      simp only [Act.put, J1, J2, J3, J4, J5, J6]
      refine tk (i := 13) (v := undef) rfl (Or.inr ⟨by rfl, rfl⟩) ?_ (hQ := fun _ _ _ h => absurd h.1 (fun e => by cases e))
      simp only [Act.put, J1, J2, J3, J4, J5, J6]
      refine tk (i := 14) (v := undef) rfl (Or.inr ⟨by rfl, rfl⟩) ?_ (hQ := fun _ _ _ h => absurd h.1 (fun e => by cases e))
      simp only [Act.put, J1, J2, J3, J4, J5, J6]
      refine tk (i := 15) (v := undef) rfl (Or.inr ⟨by rfl, rfl⟩) ?_ (hQ := fun _ _ _ h => absurd h.1 (fun e => by cases e))
      simp only [Act.put, J1, J2, J3, J4, J5, J6]
      refine tk (i := 16) (v := undef) rfl (Or.inr ⟨by rfl, rfl⟩) ?_ (hQ := fun _ _ _ h => absurd h.1 (fun e => by cases e))
      simp only [Act.put, J1, J2, J3, J4, J5, J6]
      refine tk (i := 17) (v := undef) rfl (Or.inr ⟨by rfl, rfl⟩) ?_ (hQ := fun _ _ _ h => absurd h.1 (fun e => by cases e))
      simp only [Act.put, J1, J2, J3, J4, J5, J6]
      refine tk (i := 18) (v := undef) rfl (Or.inr ⟨by rfl, rfl⟩) ?_ (hQ := fun _ _ _ h => absurd h.1 (fun e => by cases e))
      simp only [Act.put, J1, J2, J3, J4, J5, J6]
      refine tk (i := 19) (v := undef) rfl (Or.inr ⟨by rfl, rfl⟩) ?_ (hQ := fun _ _ _ h => absurd h.1 (fun e => by cases e))
      simp only [Act.put, J1, J2, J3, J4, J5, J6]
      refine tk (i := 20) (v := undef) rfl (Or.inr ⟨by rfl, rfl⟩) ?_ (hQ := fun _ _ _ h => absurd h.1 (fun e => by cases e))
      simp only [Act.put, J1, J2, J3, J4, J5, J6]
      refine tk (i := 21) (v := undef) rfl (Or.inr ⟨by rfl, rfl⟩) ?_ (hQ := fun _ _ _ h => absurd h.1 (fun e => by cases e))
      simp only [Act.put, J1, J2, J3, J4, J5, J6]
      refine tk (i := 22) (v := undef) rfl (Or.inr ⟨by rfl, rfl⟩) ?_ (hQ := fun _ _ _ h => absurd h.1 (fun e => by cases e))
      simp only [Act.put, J1, J2, J3, J4, J5, J6]
      refine tk (i := 23) (v := undef) rfl (Or.inr ⟨by rfl, rfl⟩) ?_ (hQ := fun _ _ _ h => absurd h.1 (fun e => by cases e))
      simp only [Act.put, J1, J2, J3, J4, J5, J6]
      refine tk (i := 24) (v := undef) rfl (Or.inr ⟨by rfl, rfl⟩) ?_ (hQ := fun _ _ _ h => absurd h.1 (fun e => by cases e))
      simp only [Act.put, J1, J2, J3, J4, J5, J6]
      refine tk (i := 25) (v := undef) rfl (Or.inr ⟨by rfl, rfl⟩) ?_ (hQ := fun _ _ _ h => absurd h.1 (fun e => by cases e))
      simp only [Act.put, J1, J2, J3, J4, J5, J6]
      refine tk (i := 26) (v := undef) rfl (Or.inr ⟨by rfl, rfl⟩) ?_ (hQ := fun _ _ _ h => absurd h.1 (fun e => by cases e))
      simp only [Act.put, J1, J2, J3, J4, J5, J6]
      refine tk (i := 27) (v := undef) rfl (Or.inr ⟨by rfl, rfl⟩) ?_ (hQ := fun _ _ _ h => absurd h.1 (fun e => by cases e))
      simp only [Act.put, J1, J2, J3, J4, J5, J6]
      refine tk (i := 28) (v := undef) rfl (Or.inr ⟨by rfl, rfl⟩) ?_ (hQ := fun _ _ _ h => absurd h.1 (fun e => by cases e))
      simp only [Act.put, J1, J2, J3, J4, J5, J6]
      refine tk (i := 29) (v := undef) rfl (Or.inr ⟨by rfl, rfl⟩) ?_ (hQ := fun _ _ _ h => absurd h.1 (fun e => by cases e))
      simp only [Act.put, J1, J2, J3, J4, J5, J6]
      refine tk (i := 30) (v := undef) rfl (Or.inr ⟨by rfl, rfl⟩) ?_ (hQ := fun _ _ _ h => absurd h.1 (fun e => by cases e))
      simp only [Act.put, J1, J2, J3, J4, J5, J6]
      refine tk (i := 31) (v := undef) rfl (Or.inr ⟨by rfl, rfl⟩) ?_ (hQ := fun _ _ _ h => absurd h.1 (fun e => by cases e))
      simp only [Act.put, J1, J2, J3, J4, J5, J6]
      refine tk (i := 32) (v := undef) rfl (Or.inr ⟨by rfl, rfl⟩) ?_ (hQ := fun _ _ _ h => absurd h.1 (fun e => by cases e))
      simp only [Act.put, J1, J2, J3, J4, J5, J6]
      refine tk (i := 33) (v := ?_) rfl (Or.inl ⟨by rfl, ?hy12⟩) ?ty12 (hQ := fun _ _ _ h => absurd h.1 (fun e => by cases e))
      case hy12 => (intro w5 hSw; (try dsimp only at hSw); go_simp; all_goals with_reducible rfl)
      simp only [Act.put, J1, J2, J3, J4, J5, J6]
      refine tk (i := 34) (v := ?_) rfl (Or.inl ⟨by rfl, ?hy13⟩) ?ty13 (hQ := fun _ _ _ h => absurd h.1 (fun e => by cases e))
      case hy13 => (intro w5 hSw; (try dsimp only at hSw); go_simp; all_goals with_reducible rfl)
      simp only [Act.put, J1, J2, J3, J4, J5, J6]
      refine wpAnyH_done (by kernel_rfl) ?_ _
      clear hHeld
      refine ⟨rfl, hB3.trans (hbx1.mono hB3.size), by first | kernel_rfl | rfl, by first | kernel_rfl | rfl⟩
    · have fO := fldO0
      have fB := fldB1
      have HPK : Hid (∀ W, Below W3.heap.size W3 W → Calls Tryd.prog 10 #[.agg #[.int .i64 ok, .string ox, .string ot, .slice pa pn pc, .int .i64 om, .int .i64 of0, .int .i64 od, .slice qa qn qc]] W fun e w' => ∃ v, e = .returned (.agg #[.int .i64 0, v]) ∧ Gr w' W.heap.size v (pkO ⟨ok, ox, ot, ou, om, of0, od, ob⟩) ∧ Below W.heap.size W w') := fun W hb => by
        have hk := okJ hof
        refine (packOp_any ⟨ok, ox, ot, ou, om, of0, od, ob⟩ ((pa, pn, pc), (qa, qn, qc)) W (HTc.out W hb).2 (HTA.out W (hb1.trans ((hB3.trans (hb.mono hB3.size)).mono hb1.size))).2 (by have := hk.x; omega) (by have := hk.t; omega)).mono ?_
        rintro e w' ⟨v, rfl, hg, hb'⟩
        have e1 : pkV ⟨ok, ox, ot, ou, om, of0, od, ob⟩ = (0, pkO ⟨ok, ox, ot, ou, om, of0, od, ob⟩) := by unfold pkV; rw [if_pos hof]
        rw [e1] at hg ⊢
        dsimp only at hg ⊢
        refine ⟨v, rfl, hg.resolve_left (fun h => ?_), hb'⟩
        have h1 := pkO_len ⟨ok, ox, ot, ou, om, of0, od, ob⟩
        have h2 := congrArg List.length h.2
        rw [h1, List.length_nil] at h2
        omega
      have hu2 : ¬ (u : Int) < 2 := by rw [hul, pkO_len]; omega
      have huN : ¬ (N : Int) < (u : Int) := by have := hpre.length_le; have := HDL.out; omega
      have huN2 : (u : Int) ≤ (cN : Int) := by omega
      have HPL : Hid ((pkO ⟨ok, ox, ot, ou, om, of0, od, ob⟩).length = u) := hul.symm
      have HPR : Hid (pkO ⟨ok, ox, ot, ou, om, of0, od, ob⟩ <+: d) := hpre
      clear hul hpre hof HCS
      generalize pkO ⟨ok, ox, ot, ou, om, of0, od, ob⟩ = PK at *
      refine wp_region_held_drew (S := fun w' => Tc w' G 0 u ⟨ok, ox, ot, ou, om, of0, od, ob⟩ ((pa, pn, pc), (qa, qn, qc))) (by kernel_rfl) ?hS14 (fun hHeld => ?_)
      case hS14 => exact (HTc.out _ (Below.refl _ _).drew).1
      have hbx0 : Below W3.heap.size W3 W3.drew := (Below.refl _ _).drew
      generalize W3.drew = x0 at *
      refine tk (i := 0) (v := ?_) rfl (Or.inl ⟨by rfl, ?hy15⟩) ?ty15 (hQ := fun _ _ _ h => absurd h.1 (fun e => by cases e))
      case hy15 => (intro w5 hSw; obtain ⟨e0, e1, e2, e3, e4, e5, e6, e7, e8, e9⟩ := hSw; go_simp; all_goals with_reducible rfl)
      simp only [Act.put, J1, J2, J4, J5, J6]
      refine tk (i := 1) (v := ?_) rfl (Or.inl ⟨by rfl, ?hy16⟩) ?ty16 (hQ := fun _ _ _ h => absurd h.1 (fun e => by cases e))
      case hy16 => (intro w5 hSw; obtain ⟨e0, e1, e2, e3, e4, e5, e6, e7, e8, e9⟩ := hSw; go_simp; all_goals with_reducible rfl)
      simp only [Act.put, J1, J2, J3, J4, J5, J6]
      refine tk (i := 2) (v := ?_) rfl (Or.inl ⟨by rfl, ?hy17⟩) ?ty17 (hQ := fun _ _ _ h => absurd h.1 (fun e => by cases e))
      case hy17 => (intro w5 hSw; obtain ⟨e0, e1, e2, e3, e4, e5, e6, e7, e8, e9⟩ := hSw; go_simp; all_goals with_reducible rfl)
      simp only [Act.put, J1, J2, J3, J4, J5, J6]
      refine wpAnyH_ready (rs := [3]) (by kernel_rfl) (by simp) ?_
      refine AllReadyH.cons rfl (fun K hK => ?_) AllReadyH.nil
      go_simp
      refine (HSR.out x0 (hB3.trans (hbx0.mono hB3.size))).mono ?_
      rintro e x1 ⟨⟨⟨p1a, p1n, p1c⟩, q1a, q1n, q1c⟩, rfl, -, -, -, hbx1'⟩
      dsimp only [orV, slW]
      have hbx1 := hbx0.trans (hbx1'.mono hbx0.size)
      refine hK.out _ _ (HTc.out _ hbx1).1 (fun hHeld => ?_)
      clear hK K
      refine tk (i := 4) (v := ?_) rfl (Or.inl ⟨by rfl, ?hy18⟩) ?ty18 (hQ := fun _ _ _ h => absurd h.1 (fun e => by cases e))
      case hy18 => (intro w5 hSw; (try dsimp only at hSw); go_simp; all_goals with_reducible rfl)
      simp only [Act.put, J1, J2, J3, J4, J5, J6]
      refine tk (i := 5) (v := .bool false) rfl (Or.inl ⟨by rfl, ?hy19⟩) ?ty19 (hQ := fun _ _ _ h => absurd h.1 (fun e => by cases e))
      case hy19 => (intro w5 hSw; (try dsimp only at hSw); go_simp; first | (simp; done) | omega | (simp; omega) | (all_goals with_reducible rfl))
      simp only [Act.put, J1, J2, J3, J4, J5, J6]
      refine tk (i := 6) (v := ?_) rfl (Or.inl ⟨by rfl, ?hy20⟩) ?ty20 (hQ := fun _ _ _ h => absurd h.1 (fun e => by cases e))
      case hy20 => (intro w5 hSw; (try dsimp only at hSw); go_simp; all_goals with_reducible rfl)
      simp only [Act.put, J1, J2, J3, J4, J5, J6]
      refine tk (i := 7) (v := ?_) rfl (Or.inl ⟨by rfl, ?hy21⟩) ?ty21 (hQ := fun _ _ _ h => absurd h.1 (fun e => by cases e))
      case hy21 => (intro w5 hSw; obtain ⟨e0, e1, e2, e3, e4, e5, e6, e7, e8, e9⟩ := hSw; go_simp; all_goals with_reducible rfl)
      simp only [Act.put, J1, J2, J3, J4, J5, J6]
      refine tk (i := 8) (v := ?_) rfl (Or.inl ⟨by rfl, ?hy22⟩) ?ty22 (hQ := fun _ _ _ h => absurd h.1 (fun e => by cases e))
      case hy22 => (intro w5 hSw; obtain ⟨e0, e1, e2, e3, e4, e5, e6, e7, e8, e9⟩ := hSw; go_simp; all_goals with_reducible rfl)
      simp only [Act.put, J1, J2, J3, J4, J5, J6]
      refine tk (i := 9) (v := .bool true) rfl (Or.inl ⟨by rfl, ?hy23⟩) ?ty23 (hQ := fun _ _ _ h => absurd h.1 (fun e => by cases e))
      case hy23 => (intro w5 hSw; (try dsimp only at hSw); go_simp; first | (simp; done) | omega | (simp; omega) | (all_goals with_reducible rfl))
      simp only [Act.put, J1, J2, J3, J4, J5, J6]
      refine tk (i := 10) (v := ?_) rfl (Or.inl ⟨by rfl, ?hy24⟩) ?ty24 (hQ := fun _ _ _ h => absurd h.1 (fun e => by cases e))
      case hy24 => (intro w5 hSw; (try dsimp only at hSw); go_simp; all_goals with_reducible rfl)
      simp only [Act.put, J1, J2, J3, J4, J5, J6]
      refine tk (i := 11) (v := ?_) rfl (Or.inl ⟨by rfl, ?hy25⟩) ?ty25 (hQ := fun _ _ _ h => absurd h.1 (fun e => by cases e))
      case hy25 => (intro w5 hSw; obtain ⟨e0, e1, e2, e3, e4, e5, e6, e7, e8, e9⟩ := hSw; go_simp; all_goals with_reducible rfl)
      simp only [Act.put, J1, J2, J3, J4, J5, J6]
      refine tk (i := 12) (v := ?_) rfl (Or.inl ⟨by rfl, ?hy26⟩) ?ty26 (hQ := fun _ _ _ h => absurd h.1 (fun e => by cases e))
      case hy26 => (intro w5 hSw; obtain ⟨e0, e1, e2, e3, e4, e5, e6, e7, e8, e9⟩ := hSw; go_simp; all_goals with_reducible rfl)
      simp only [Act.put, J1, J2, J3, J4, J5, J6]
      refine tk (i := 13) (v := .bool false) rfl (Or.inl ⟨by rfl, ?hy27⟩) ?ty27 (hQ := fun _ _ _ h => absurd h.1 (fun e => by cases e))
      case hy27 => (intro w5 hSw; (try dsimp only at hSw); go_simp; first | (simp; done) | omega | (simp; omega) | (all_goals with_reducible rfl))
      simp only [Act.put, J1, J2, J3, J4, J5, J6]
      refine tk (i := 14) (v := ?_) rfl (Or.inl ⟨by rfl, ?hy28⟩) ?ty28 (hQ := fun _ _ _ h => absurd h.1 (fun e => by cases e))
      case hy28 => (intro w5 hSw; (try dsimp only at hSw); go_simp; all_goals with_reducible rfl)
      simp only [Act.put, J1, J2, J3, J4, J5, J6]
      refine tk (i := 15) (v := ?_) rfl (Or.inl ⟨by rfl, ?hy29⟩) ?ty29 (hQ := fun _ _ _ h => absurd h.1 (fun e => by cases e))
      case hy29 => (intro w5 hSw; obtain ⟨e0, e1, e2, e3, e4, e5, e6, e7, e8, e9⟩ := hSw; go_simp; all_goals with_reducible rfl)
      simp only [Act.put, J1, J2, J3, J4, J5, J6]
      refine tk (i := 16) (v := ?_) rfl (Or.inl ⟨by rfl, ?hy30⟩) ?ty30 (hQ := fun _ _ _ h => absurd h.1 (fun e => by cases e))
      case hy30 => (intro w5 hSw; obtain ⟨e0, e1, e2, e3, e4, e5, e6, e7, e8, e9⟩ := hSw; go_simp; all_goals with_reducible rfl)
      simp only [Act.put, J1, J2, J3, J4, J5, J6]
      refine tk (i := 17) (v := ?_) rfl (Or.inl ⟨by rfl, ?hy31⟩) ?ty31 (hQ := fun _ _ _ h => absurd h.1 (fun e => by cases e))
      case hy31 => (intro w5 hSw; (try dsimp only at hSw); go_simp; all_goals with_reducible rfl)
      simp only [Act.put, J1, J2, J3, J4, J5, J6]
      refine tk (i := 18) (v := ?_) rfl (Or.inl ⟨by rfl, ?hy32⟩) ?ty32 (hQ := fun _ _ _ h => absurd h.1 (fun e => by cases e))
      case hy32 => (intro w5 hSw; (try dsimp only at hSw); go_simp; all_goals with_reducible rfl)
      simp only [Act.put, J1, J2, J3, J4, J5, J6]
      refine tk (i := 19) (v := .bool false) rfl (Or.inl ⟨by rfl, ?hy33⟩) ?ty33 (hQ := fun _ _ _ h => absurd h.1 (fun e => by cases e))
      case hy33 => (intro w5 hSw; (try dsimp only at hSw); go_simp; first | (simp; done) | omega | (simp; omega) | (all_goals with_reducible rfl))
      simp only [Act.put, J1, J2, J3, J4, J5, J6]
      refine tk (i := 20) (v := ?_) rfl (Or.inl ⟨by rfl, ?hy34⟩) ?ty34 (hQ := fun _ _ _ h => absurd h.1 (fun e => by cases e))
      case hy34 => (intro w5 hSw; (try dsimp only at hSw); go_simp; all_goals with_reducible rfl)
      simp only [Act.put, J1, J2, J3, J4, J5, J6]
      refine tk (i := 21) (v := ?_) rfl (Or.inl ⟨by rfl, ?hy35⟩) ?ty35 (hQ := fun _ _ _ h => absurd h.1 (fun e => by cases e))
      case hy35 => (intro w5 hSw; (try dsimp only at hSw); go_simp; all_goals with_reducible rfl)
      simp only [Act.put, J1, J2, J3, J4, J5, J6]
      refine tk (i := 22) (v := ?_) rfl (Or.inl ⟨by rfl, ?hy36⟩) ?ty36 (hQ := fun _ _ _ h => absurd h.1 (fun e => by cases e))
      case hy36 => (intro w5 hSw; (try dsimp only at hSw); go_simp; all_goals with_reducible rfl)
      simp only [Act.put, J1, J2, J3, J4, J5, J6]
      refine tk (i := 23) (v := .agg #[.int .i64 ok, .string ox, .string ot, .slice pa pn pc, .int .i64 om, .int .i64 of0, .int .i64 od, .slice qa qn qc]) rfl (Or.inl ⟨by rfl, ?hy37⟩) ?ty37 (hQ := fun _ _ _ h => absurd h.1 (fun e => by cases e))
      case hy37 => (intro w5 hSw; obtain ⟨e0, e1, e2, e3, e4, e5, e6, e7, e8, e9⟩ := hSw; (try dsimp only at e2 e3 e4 e5 e6 e7 e8 e9); go_simp; first | (simp; done) | omega | (simp; omega) | (all_goals with_reducible rfl))
      simp only [Act.put, J1, J2, J3, J4, J5, J6]
      refine tk (i := 26) (v := ?_) rfl (Or.inl ⟨by rfl, ?hy38⟩) ?ty38 (hQ := fun _ _ _ h => absurd h.1 (fun e => by cases e))
      case hy38 => (intro w5 hSw; (try dsimp only at hSw); go_simp; all_goals with_reducible rfl)
      simp only [Act.put, J1, J2, J3, J4, J5, J6]
      refine tk (i := 27) (v := ?_) rfl (Or.inl ⟨by rfl, ?hy39⟩) ?ty39 (hQ := fun _ _ _ h => absurd h.1 (fun e => by cases e))
      case hy39 => (intro w5 hSw; obtain ⟨e0, e1, e2, e3, e4, e5, e6, e7, e8, e9⟩ := hSw; go_simp; all_goals with_reducible rfl)
      simp only [Act.put, J1, J2, J3, J4, J5, J6]
      refine tk (i := 28) (v := ?_) rfl (Or.inl ⟨by rfl, ?hy40⟩) ?ty40 (hQ := fun _ _ _ h => absurd h.1 (fun e => by cases e))
      case hy40 => (intro w5 hSw; obtain ⟨e0, e1, e2, e3, e4, e5, e6, e7, e8, e9⟩ := hSw; go_simp; all_goals with_reducible rfl)
      simp only [Act.put, J1, J2, J3, J4, J5, J6]
      refine tk (i := 29) (v := ?_) rfl (Or.inl ⟨by rfl, ?hy41⟩) ?ty41 (hQ := fun _ _ _ h => absurd h.1 (fun e => by cases e))
      case hy41 => (intro w5 hSw; (try dsimp only at hSw); go_simp; all_goals with_reducible rfl)
      simp only [Act.put, J1, J2, J3, J4, J5, J6]
      refine wpAnyH_ready (rs := [24]) (by kernel_rfl) (by simp) ?_
      refine AllReadyH.cons rfl (fun K hK => ?_) AllReadyH.nil
      go_simp
      refine (HPK.out x1 hbx1).mono ?_
      rintro e x2 ⟨v2, rfl, hg2, hbx2'⟩
      have hbx2 := hbx1.trans (hbx2'.mono hbx1.size)
      obtain ⟨gp, cp, rfl, -, -, hcv2⟩ := hg2
      rw [show PK.length = u from HPL.out] at hcv2 ⊢
      refine hK.out _ _ (HTc.out _ hbx2).1 (fun hHeld => ?_)
      clear hK K
      refine tk (i := 25) (v := ?_) rfl (Or.inl ⟨by rfl, ?hy42⟩) ?ty42 (hQ := fun _ _ _ h => absurd h.1 (fun e => by cases e))
      case hy42 => (intro w5 hSw; (try dsimp only at hSw); go_simp; all_goals with_reducible rfl)
      simp only [Act.put, J1, J2, J3, J4, J5, J6]
      refine wpAnyH_ready (rs := [30]) (by kernel_rfl) (by simp) ?_
      refine AllReadyH.cons rfl (fun K hK => ?_) AllReadyH.nil
      go_simp
      refine (lwSame_any (some ⟨gp, 0, none⟩) (some ⟨g, 0, none⟩) u cp cN PK x2 HPL.out hcv2.rd (rd_preJ (HRD.out _ (hB3.trans (hbx2.mono hB3.size))) HPR.out)).mono ?_
      rintro e x3 ⟨rfl, rfl⟩
      refine hK.out _ _ (HTc.out _ hbx2).1 (fun hHeld => ?_)
      clear hK K
      refine tk (i := 31) (v := ?_) rfl (Or.inl ⟨by rfl, ?hy43⟩) ?ty43 (hQ := fun _ _ _ h => absurd h.1 (fun e => by cases e))
      case hy43 => (intro w5 hSw; (try dsimp only at hSw); go_simp; all_goals with_reducible rfl)
      simp only [Act.put, J1, J2, J3, J4, J5, J6]
      refine tk (i := 32) (v := ?_) rfl (Or.inl ⟨by rfl, ?hy44⟩) ?ty44 (hQ := fun _ _ _ h => absurd h.1 (fun e => by cases e))
      case hy44 => (intro w5 hSw; (try dsimp only at hSw); go_simp; all_goals with_reducible rfl)
      simp only [Act.put, J1, J2, J3, J4, J5, J6]
      refine tk (i := 33) (v := ?_) rfl (Or.inl ⟨by rfl, ?hy45⟩) ?ty45 (hQ := fun _ _ _ h => absurd h.1 (fun e => by cases e))
      case hy45 => (intro w5 hSw; (try dsimp only at hSw); go_simp; all_goals with_reducible rfl)
      simp only [Act.put, J1, J2, J3, J4, J5, J6]
      refine tk (i := 34) (v := ?_) rfl (Or.inl ⟨by rfl, ?hy46⟩) ?ty46 (hQ := fun _ _ _ h => absurd h.1 (fun e => by cases e))
      case hy46 => (intro w5 hSw; (try dsimp only at hSw); go_simp; all_goals with_reducible rfl)
      simp only [Act.put, J1, J2, J3, J4, J5, J6]
      refine wpAnyH_done (by kernel_rfl) ?_ _
      clear hHeld
      refine ⟨rfl, hB3.trans (hbx2.mono hB3.size), by first | kernel_rfl | rfl, by first | kernel_rfl | rfl⟩
  obtain - | ⟨m0, vs⟩ := vs
  · simp at hlv
  obtain - | ⟨m1, vs⟩ := vs
  · simp at hlv
  obtain - | ⟨m2, vs⟩ := vs
  · simp at hlv
  obtain - | ⟨m3, vs⟩ := vs
  · simp at hlv
  obtain - | ⟨m4, vs⟩ := vs
  · simp at hlv
  obtain - | ⟨m5, vs⟩ := vs
  · simp at hlv
  obtain - | ⟨m6, vs⟩ := vs
  · simp at hlv
  obtain - | ⟨m7, vs⟩ := vs
  · simp at hlv
  obtain - | ⟨m8, vs⟩ := vs
  · simp at hlv
  obtain - | ⟨m9, vs⟩ := vs
  · simp at hlv
  obtain - | ⟨m10, vs⟩ := vs
  · simp at hlv
  obtain - | ⟨m11, vs⟩ := vs
  · simp at hlv
  obtain - | ⟨m12, vs⟩ := vs
  · simp at hlv
  obtain - | ⟨m13, vs⟩ := vs
  · simp at hlv
  obtain - | ⟨m14, vs⟩ := vs
  · simp at hlv
  obtain - | ⟨m15, vs⟩ := vs
  · simp at hlv
  obtain - | ⟨m16, vs⟩ := vs
  · simp at hlv
  obtain - | ⟨m17, vs⟩ := vs
  · simp at hlv
  obtain - | ⟨m18, vs⟩ := vs
  · simp at hlv
  obtain - | ⟨m19, vs⟩ := vs
  · simp at hlv
  obtain - | ⟨m20, vs⟩ := vs
  · simp at hlv
  obtain - | ⟨m21, vs⟩ := vs
  · simp at hlv
  obtain - | ⟨m22, vs⟩ := vs
  · simp at hlv
  obtain - | ⟨m23, vs⟩ := vs
  · simp at hlv
  obtain - | ⟨m24, vs⟩ := vs
  · simp at hlv
  obtain - | ⟨m25, vs⟩ := vs
  · simp at hlv
  obtain - | ⟨m26, vs⟩ := vs
  · simp at hlv
  obtain - | ⟨m27, vs⟩ := vs
  · simp at hlv
  obtain - | ⟨m28, vs⟩ := vs
  · simp at hlv
  obtain - | ⟨m29, vs⟩ := vs
  · simp at hlv
  obtain - | ⟨m30, vs⟩ := vs
  · simp at hlv
  obtain - | ⟨m31, vs⟩ := vs
  · simp at hlv
  obtain - | ⟨m32, vs⟩ := vs
  · simp at hlv
  obtain - | ⟨m33, vs⟩ := vs
  · simp at hlv
  obtain - | ⟨m34, vs⟩ := vs
  · simp at hlv
  obtain - | ⟨y, vs⟩ := vs
  rotate_left
  · simp at hlv
  have hfv : m34 = .bool false := by simpa using hfv
  subst hfv
  clear hlv
  simp only [putAll, Act.put, List.setIfInBounds_toArray, List.set_cons_zero, List.set_cons_succ]
  clear HIR HSR HCS HTc hB3
  go_wp2_with fail
  refine (drawPackOp_any a n cap l W hl (HTA.out W (hb1.trans (hBW.mono hb1.size))).1 hB hn).mono ?_
  rintro e w5 ⟨⟨jk, jx, jt, ju, jm, jf, jd, jb⟩, ⟨⟨ra, rn, rc⟩, sa, sn, sc⟩, rfl, hI, hx, ht, hu, hd, hb5⟩
  have hB5 := hBW.trans (hb5.mono hBW.size)
  dsimp only [opX, slW]
  obtain ⟨W6, hW6⟩ : ∃ W6, w5.alloc (.cells #[.int .i64 jk, .string jx, .string jt, .slice ra rn rc, .int .i64 jm, .int .i64 jf, .int .i64 jd, .slice sa sn sc] 27) = W6 := ⟨_, rfl⟩
  have b6 : Below w5.heap.size w5 W6 := by rw [← hW6]; exact (Below.refl _ _).alloc (Nat.le_refl _) _
  have q6 : Qo W6 w5.heap.size (opQ ⟨jk, jx, jt, ju, jm, jf, jd, jb⟩ ((ra, rn, rc), (sa, sn, sc))) := by rw [← hW6]; exact Qo.new _ _ _ _ _ _ _ _ _ _
  have hB6 : Below w1.heap.size w1 W6 := hB5.trans (b6.mono hB5.size)
  have HQo : Hid (∀ W', Below W6.heap.size W6 W' → Qo W' w5.heap.size (opQ ⟨jk, jx, jt, ju, jm, jf, jd, jb⟩ ((ra, rn, rc), (sa, sn, sc))) ∧ IsOp W.heap.size W' ((ra, rn, rc), (sa, sn, sc)) ⟨jk, jx, jt, ju, jm, jf, jd, jb⟩) := fun W' hb => ⟨q6.below hb q6.lt, ((hI.low (by omega)).below b6).below hb⟩
  have hWG : W.heap.size ≤ w5.heap.size := hb5.size
  obtain ⟨z0, z1, z2, z3, z4, z5, z6, z7⟩ := q6
  dsimp only [slW] at z0 z1 z2 z3 z4 z5 z6 z7
  clear hI hb5 b6 hB5 hBW
  have HP := packOp_any ⟨jk, jx, jt, ju, jm, jf, jd, jb⟩ ((ra, rn, rc), (sa, sn, sc)) W6 (HQo.out _ (Below.refl _ _)).2 (HTA.out W6 (hb1.trans (hB6.mono hb1.size))).2 (by dsimp only at hx ⊢; omega) (by dsimp only at ht ⊢; omega)
  have HSP : Hid (∀ W', Below W6.heap.size W6 W' → Calls Tryd.prog 12 #[.agg #[.int .i64 jk, .string jx, .string jt, .slice ra rn rc, .int .i64 jm, .int .i64 jf, .int .i64 jd, .slice sa sn sc]] W' fun e w' => PkEnd (pkV ⟨jk, jx, jt, ju, jm, jf, jd, jb⟩) W' e w') := fun W' hb => specPackOp_any ⟨jk, jx, jt, ju, jm, jf, jd, jb⟩ ((ra, rn, rc), (sa, sn, sc)) W' (HQo.out _ hb).2 (by dsimp only at hx ⊢; omega) (by dsimp only at ht ⊢; omega)
  have HPV : Hid (pkV ⟨jk, jx, jt, ju, jm, jf, jd, jb⟩ = if ofV ⟨jk, jx, jt, ju, jm, jf, jd, jb⟩ = 0 then (0, pkO ⟨jk, jx, jt, ju, jm, jf, jd, jb⟩) else (ofV ⟨jk, jx, jt, ju, jm, jf, jd, jb⟩, [])) := rfl
  go_wp2_with fail
  clear hW6 z0 z1 z2 z3 z4 z5 z6 z7
  generalize w5.heap.size = G5 at *
  refine HP.mono ?_
  clear HP
  rintro e w7 ⟨v7, rfl, hg7, hb7⟩
  by_cases hof : ofV ⟨jk, jx, jt, ju, jm, jf, jd, jb⟩ = 0
  rotate_left
  · have hpv : pkV ⟨jk, jx, jt, ju, jm, jf, jd, jb⟩ = (ofV ⟨jk, jx, jt, ju, jm, jf, jd, jb⟩, []) := by rw [HPV.out, if_neg hof]
    rw [hpv] at hg7 HSP ⊢
    dsimp only at hg7 ⊢
    generalize ofV ⟨jk, jx, jt, ju, jm, jf, jd, jb⟩ = f at *
    have hfb : (f != 0) = true := by simp [hof]
    obtain ⟨va, vn, vc, rfl⟩ : ∃ va vn vc, v7 = .slice va vn vc := by
      rcases hg7 with ⟨h, -⟩ | ⟨gv, cv, h, -⟩
      · exact ⟨_, _, _, h⟩
      · exact ⟨_, _, _, h⟩
    have fB := fldB0
    obtain ⟨W8, hW8⟩ : ∃ W8, w7.alloc (.cells #[.int .i64 f, .slice va vn vc] 33) = W8 := ⟨_, rfl⟩
    have b8 : Below w7.heap.size w7 W8 := by rw [← hW8]; exact (Below.refl _ _).alloc (Nat.le_refl _) _
    have hc8 : W8.cell? ⟨w7.heap.size, 0, none⟩ = some (.int .i64 f) := by rw [← hW8]; simp
    have hlt8 : w7.heap.size < W8.heap.size := by rw [← hW8]; simp
    have hB68 : Below W6.heap.size W6 W8 := hb7.trans (b8.mono hb7.size)
    have HS10 : Hid (∀ W', Below W8.heap.size W8 W' → Qo W' G5 (opQ ⟨jk, jx, jt, ju, jm, jf, jd, jb⟩ ((ra, rn, rc), (sa, sn, sc))) ∧ W'.cell? ⟨w7.heap.size, 0, none⟩ = some (.int .i64 f)) := fun W' hb => ⟨(HQo.out W' (hB68.trans (hb.mono hB68.size))).1, (hb.cell (p := ⟨w7.heap.size, 0, none⟩) hlt8).trans hc8⟩
    have hb7' := b8
    clear hg7 hof hpv
    go_wp2_with fail
    clear hW8 hc8 b8
    generalize w7.heap.size = G6 at *
    refine wp_region_held_drew (S := fun w' => Qo w' G5 (opQ ⟨jk, jx, jt, ju, jm, jf, jd, jb⟩ ((ra, rn, rc), (sa, sn, sc))) ∧ w'.cell? ⟨G6, 0, none⟩ = some (.int .i64 f)) (by kernel_rfl) ?hS47 (fun hHeld => ?_)
    case hS47 => exact HS10.out _ (Below.refl _ _).drew
    have hbx0 : Below W8.heap.size W8 W8.drew := (Below.refl _ _).drew
    generalize W8.drew = x0 at *
    refine tk (i := 0) (v := .agg #[.int .i64 jk, .string jx, .string jt, .slice ra rn rc, .int .i64 jm, .int .i64 jf, .int .i64 jd, .slice sa sn sc]) rfl (Or.inl ⟨by rfl, ?hy48⟩) ?ty48
    case hy48 => (intro w5 hSw; obtain ⟨⟨e0, e1, e2, e3, e4, e5, e6, e7⟩, ec⟩ := hSw; dsimp only [slW] at e0 e1 e2 e3 e4 e5 e6 e7; go_simp; first | (simp; done) | omega | (simp; omega) | (all_goals with_reducible rfl))
    simp only [Act.put, J1, J2, J4, J5, J6]
    refine tk (i := 3) (v := ?_) rfl (Or.inl ⟨by rfl, ?hy49⟩) ?ty49
    case hy49 => (intro w5 hSw; obtain ⟨⟨e0, e1, e2, e3, e4, e5, e6, e7⟩, ec⟩ := hSw; dsimp only [slW] at e0 e1 e2 e3 e4 e5 e6 e7; go_simp; all_goals with_reducible rfl)
    simp only [Act.put, J1, J2, J3, J4, J5, J6]
    refine tk (i := 4) (v := ?_) rfl (Or.inl ⟨by rfl, ?hy50⟩) ?ty50
    case hy50 => (intro w5 hSw; obtain ⟨⟨e0, e1, e2, e3, e4, e5, e6, e7⟩, ec⟩ := hSw; dsimp only [slW] at e0 e1 e2 e3 e4 e5 e6 e7; go_simp; all_goals with_reducible rfl)
    simp only [Act.put, J1, J2, J3, J4, J5, J6]
    refine wpAnyH_ready (rs := [1]) (by kernel_rfl) (by simp) ?_
    refine AllReadyH.cons rfl (fun K hK => ?_) AllReadyH.nil
    go_simp
    refine (HSP.out x0 (hB68.trans (hbx0.mono hB68.size))).mono ?_
    rintro e x1 ⟨v1, rfl, -, hbx1'⟩
    have hbx1 := hbx0.trans (hbx1'.mono hbx0.size)
    refine hK.out _ _ (HS10.out _ hbx1) (fun hHeld => ?_)
    clear hK K
    refine tk (i := 2) (v := ?_) rfl (Or.inl ⟨by rfl, ?hy51⟩) ?ty51
    case hy51 => (intro w5 hSw; (try dsimp only at hSw); go_simp; all_goals with_reducible rfl)
    simp only [Act.put, J1, J2, J3, J4, J5, J6]
    refine tk (i := 5) (v := .bool true) rfl (Or.inl ⟨by rfl, ?hy52⟩) ?ty52
    case hy52 => (intro w5 hSw; (try dsimp only at hSw); go_simp; first | (simp; done) | omega | (simp; omega) | (all_goals with_reducible rfl))
    simp only [Act.put, J1, J2, J3, J4, J5, J6]
    refine tk (i := 6) (v := ?_) rfl (Or.inl ⟨by rfl, ?hy53⟩) ?ty53
    case hy53 => (intro w5 hSw; (try dsimp only at hSw); go_simp; all_goals with_reducible rfl)
    simp only [Act.put, J1, J2, J3, J4, J5, J6]
    refine wpAnyH_done (by kernel_rfl) ?_ _
    have hBe := hb1.trans ((hB6.trans ((hB68.trans (hbx1.mono hB68.size)).mono hB6.size)).mono hb1.size)
    clear hHeld
    go_wp2
    go_ret
    exact ⟨rfl, hBe⟩
  · have hpv : pkV ⟨jk, jx, jt, ju, jm, jf, jd, jb⟩ = (0, pkO ⟨jk, jx, jt, ju, jm, jf, jd, jb⟩) := by rw [HPV.out, if_pos hof]
    rw [hpv] at hg7 ⊢
    dsimp only at hg7 ⊢
    have hOK : OkJ ⟨jk, jx, jt, ju, jm, jf, jd, jb⟩ := okJ hof
    have hBP : IsB (pkO ⟨jk, jx, jt, ju, jm, jf, jd, jb⟩) := pkO_isB hOK (HQo.out _ (Below.refl _ _)).2.2.2.2.2.1
    have HAP : Hid (rpV (pkO ⟨jk, jx, jt, ju, jm, jf, jd, jb⟩ ++ d) = (0, (pkO ⟨jk, jx, jt, ju, jm, jf, jd, jb⟩).length, ⟨jk, jx, jt, ju, jm, jf, jd, jb⟩)) := rpV_app hof d
    have HCT : Hid (∀ k, k < (pkO ⟨jk, jx, jt, ju, jm, jf, jd, jb⟩).length → rpV ((pkO ⟨jk, jx, jt, ju, jm, jf, jd, jb⟩).take k) = (5, 0, opZ)) := fun k hk => rpV_cut hof hk
    have HST : Hid (∀ i y, 2 ≤ i → i < (pkO ⟨jk, jx, jt, ju, jm, jf, jd, jb⟩).length → y < 256 → nth (pkO ⟨jk, jx, jt, ju, jm, jf, jd, jb⟩) i ≠ y → rpV ((pkO ⟨jk, jx, jt, ju, jm, jf, jd, jb⟩).set i y) = (5, 0, opZ)) := fun i y h1 h2 h3 h4 => rpV_set hof hBP h1 h2 h3 h4
    have hpl : 14 ≤ (pkO ⟨jk, jx, jt, ju, jm, jf, jd, jb⟩).length ∧ (pkO ⟨jk, jx, jt, ju, jm, jf, jd, jb⟩).length ≤ 644 := by
      have h1 := hOK.x; have h2 := hOK.t; have h3 := hOK.u; have h4 := hOK.b
      rw [pkO_len]
      dsimp only at h1 h2 h3 h4 ⊢
      omega
    have hgr7 := hg7.resolve_left (fun h => by have := hpl.1; rw [h.2] at this; simp at this)
    clear hg7 HSP HPV hpv hOK hof
    generalize pkO ⟨jk, jx, jt, ju, jm, jf, jd, jb⟩ = PK at *
    obtain ⟨P, hP⟩ : ∃ P, PK.length = P := ⟨_, rfl⟩
    rw [hP] at hpl HAP HCT HST
    obtain ⟨gp, cp, rfl, hgpB, hcpm, hcvp⟩ := hgr7
    rw [hP] at hcvp ⊢
    have HPL : Hid (PK.length = P) := hP
    clear hP
    obtain ⟨W8, hW8⟩ : ∃ W8, w7.alloc (.cells #[.int .i64 0, .slice (some ⟨gp, 0, none⟩) P cp] 33) = W8 := ⟨_, rfl⟩
    have b8 : Below w7.heap.size w7 W8 := by rw [← hW8]; exact (Below.refl _ _).alloc (Nat.le_refl _) _
    have hc80 : W8.cell? ⟨w7.heap.size, 0, none⟩ = some (.int .i64 0) := by rw [← hW8]; simp
    have hc81 : W8.cell? ⟨w7.heap.size, 1, none⟩ = some (.slice (some ⟨gp, 0, none⟩) P cp) := by rw [← hW8]; simp
    have hlt8 : w7.heap.size < W8.heap.size := by rw [← hW8]; simp
    have hB68 : Below W6.heap.size W6 W8 := hb7.trans (b8.mono hb7.size)
    have hB18 : Below w1.heap.size w1 W8 := hB6.trans (hB68.mono hB6.size)
    have HK8 : Hid (∀ W', Below W8.heap.size W8 W' → W'.cell? ⟨w7.heap.size, 1, none⟩ = some (.slice (some ⟨gp, 0, none⟩) P cp) ∧ Cv W' gp P cp PK ∧ (Qo W' G5 (opQ ⟨jk, jx, jt, ju, jm, jf, jd, jb⟩ ((ra, rn, rc), (sa, sn, sc))) ∧ IsOp W.heap.size W' ((ra, rn, rc), (sa, sn, sc)) ⟨jk, jx, jt, ju, jm, jf, jd, jb⟩)) := fun W' hb => ⟨(hb.cell (p := ⟨w7.heap.size, 1, none⟩) hlt8).trans hc81, (hcvp.below b8 hcvp.2.2.1).below hb (Nat.lt_of_lt_of_le hcvp.2.2.1 b8.size), HQo.out W' (hB68.trans (hb.mono hB68.size))⟩
    have hWG5 : W.heap.size ≤ G5 := hWG
    clear hcvp b8 HQo hb7 hgpB
    have hP12 : ¬ (P : Int) < 12 := by omega
    have hown9 : Own (W8.alloc (.cells #[] 5)) W8.heap.size (.slice (some ⟨W8.heap.size, 0, none⟩) 0 0) [] := Own.lit W8 _ (Nat.le_refl _) #[] [] rfl (by decide)
    have b9 : Below W8.heap.size W8 (W8.alloc (.cells #[] 5)) := (Below.refl _ _).alloc (Nat.le_refl _) _
    obtain ⟨k81, kcv, -⟩ := HK8.out _ b9
    have hnewP := rd_new kcv.rd HPL.out
    have HNB : Hid (∀ W' : World, Below W8.heap.size W8 W' → ∀ j, j < N → W'.cell? ((⟨g, 0, none⟩ : Addr).add j) = some (.int .u8 (nth d j : Int))) := fun W' hb => rd_new (HRD.out W' (hB18.trans (hb.mono hB18.size))) HDL.out
    go_wp2_with (first | (at_builtin; refine wpList_app rfl _ _ rfl W8.heap.size _ [] rfl hown9 ⟨gp, 0, none⟩ P cp PK rfl HPL.out hnewP (by simp; omega) b9.size ?_; intro v10 w10 hown10 hb10; have b10 := b9.trans hb10; rw [List.nil_append] at hown10; obtain ⟨k81', -⟩ := HK8.out _ b10) | (at_builtin; refine wpList_app rfl _ _ rfl W8.heap.size _ PK rfl hown10 ⟨g, 0, none⟩ N cN d rfl HDL.out (HNB.out w10 b10) (by rw [HPL.out]; omega) b10.size ?_; intro v11 w11 hown11 hb11))
    have hg11 := Gr.own hown11 (by rw [List.length_append, HPL.out]; omega)
    have b11 := b10.trans hb11
    have hBA : IsB (PK ++ d) := fun z hz => by
      rcases List.mem_append.1 hz with h | h
      · exact hBP z h
      · exact hBd z h
    clear hown9 b9 k81 kcv hnewP hown10 hb10 b10 k81' HNB hown11 hb11
    obtain ⟨g11, c11, rfl, -, hcm11, hcv11⟩ := hg11
    have HR11 := readOp_any (some ⟨g11, 0, none⟩) _ c11 (PK ++ d) w11 rfl hcv11.2.1 hcm11 hcv11.rd hBA (HTA.out w11 (hb1.trans ((hB18.trans (b11.mono hB18.size)).mono hb1.size))).2
    rw [HAP.out] at HR11
    refine HR11.mono ?_
    clear HR11 hcv11 HAP
    rintro e w12 ⟨⟨⟨da, dn, dc⟩, ea, en, ec⟩, rfl, hop, -, -, hb12⟩
    have b12 : Below W8.heap.size W8 w12 := b11.trans (hb12.mono b11.size)
    dsimp only [orV, slW] at hop ⊢
    obtain ⟨W13, hW13⟩ : ∃ W13, w12.alloc (.cells #[.int .i64 0, .int .i64 (P : Int), .int .i64 jk, .string jx, .string jt, .slice da dn dc, .int .i64 jm, .int .i64 jf, .int .i64 jd, .slice ea en ec] 29) = W13 := ⟨_, rfl⟩
    have b13' : Below w12.heap.size w12 W13 := by rw [← hW13]; exact (Below.refl _ _).alloc (Nat.le_refl _) _
    have t13 : Tc W13 w12.heap.size 0 P ⟨jk, jx, jt, ju, jm, jf, jd, jb⟩ ((da, dn, dc), (ea, en, ec)) := by rw [← hW13]; exact Tc.new _ _ _ ⟨jk, jx, jt, ju, jm, jf, jd, jb⟩ ((da, dn, dc), (ea, en, ec)) _
    have b13 : Below W8.heap.size W8 W13 := b12.trans (b13'.mono b12.size)
    have HF : Hid (∀ Y, Below W13.heap.size W13 Y → Tc Y w12.heap.size 0 P ⟨jk, jx, jt, ju, jm, jf, jd, jb⟩ ((da, dn, dc), (ea, en, ec)) ∧ IsOp w11.heap.size Y ((da, dn, dc), (ea, en, ec)) ⟨jk, jx, jt, ju, jm, jf, jd, jb⟩ ∧ (Y.cell? ⟨w7.heap.size, 1, none⟩ = some (.slice (some ⟨gp, 0, none⟩) P cp) ∧ Cv Y gp P cp PK ∧ (Qo Y G5 (opQ ⟨jk, jx, jt, ju, jm, jf, jd, jb⟩ ((ra, rn, rc), (sa, sn, sc))) ∧ IsOp W.heap.size Y ((ra, rn, rc), (sa, sn, sc)) ⟨jk, jx, jt, ju, jm, jf, jd, jb⟩))) := fun Y hb => ⟨t13.below hb t13.lt, (hop.below b13').below hb, HK8.out Y (b13.trans (hb.mono b13.size))⟩
    have HL3 := fun W' (h : Below W13.heap.size W13 W') => lwAt_any a n cap 3 ((P : Int) - 2) l W' hl (HTA.out W' (hb1.trans ((hB18.trans ((b13.trans (h.mono b13.size)).mono hB18.size)).mono hb1.size))).1 hB hn (by omega) (by omega) (by omega)
    have HL4 := fun W' (h : Below W13.heap.size W13 W') => lwAt_any a n cap 4 255 l W' hl (HTA.out W' (hb1.trans ((hB18.trans ((b13.trans (h.mono b13.size)).mono hB18.size)).mono hb1.size))).1 hB hn (by omega) (by omega) (by omega)
    have HTY : Hid (∀ Y, Below W13.heap.size W13 Y → TabH8 Y ∧ Below w.heap.size w Y) := fun Y h => ⟨(HTA.out Y (hb1.trans ((hB18.trans ((b13.trans (h.mono b13.size)).mono hB18.size)).mono hb1.size))).2, hb1.trans ((hB18.trans ((b13.trans (h.mono b13.size)).mono hB18.size)).mono hb1.size)⟩
    have hG7 : w7.heap.size < W13.heap.size := Nat.lt_of_lt_of_le hlt8 b13.size
    clear hop hb12 t13 b12 b11 HK8 hc80 hc81 hB68 hlt8
    go_wp2_with fail
    clear hW13
    generalize w12.heap.size = G8 at *
    refine (HL3 W13 (Below.refl _ _)).mono ?_
    clear HL3
    rintro e w14 ⟨r14, rfl, q0, q1, hb14⟩
    obtain ⟨z, rfl⟩ := Int.eq_ofNat_of_zero_le q0
    have hz : z + 2 < P := by omega
    have hz' : (2 : Int) + (z : Int) < (P : Int) := by omega
    have hown9 : Own (w14.alloc (.cells #[] 5)) w14.heap.size (.slice (some ⟨w14.heap.size, 0, none⟩) 0 0) [] := Own.lit w14 _ (Nat.le_refl _) #[] [] rfl (by decide)
    have b9 : Below w14.heap.size w14 (w14.alloc (.cells #[] 5)) := (Below.refl _ _).alloc (Nat.le_refl _) _
    obtain ⟨-, -, k81, kcv, -⟩ := HF.out _ (hb14.trans (b9.mono hb14.size))
    have hnewP := rd_new kcv.rd HPL.out
    clear q0 q1
    go_wp2_with (at_builtin; refine wpList_app rfl _ _ rfl w14.heap.size _ [] rfl hown9 ⟨gp, 0, none⟩ P cp PK rfl HPL.out hnewP (by simp; omega) b9.size ?_; intro v16 w16 hown16 hb16; have b16 := b9.trans hb16; rw [List.nil_append] at hown16)
    have hgx := Gr.own hown16 (by rw [HPL.out]; omega)
    obtain ⟨gx, cx, rfl, hgxB, hcmx, hcvx⟩ := hgx
    rw [HPL.out] at hcvx ⊢
    have hB16 : Below W13.heap.size W13 w16 := hb14.trans (b16.mono hb14.size)
    have hz14 : W13.heap.size ≤ w14.heap.size := hb14.size
    clear hown9 b9 k81 kcv hnewP hown16 hb16 hb14 b16
    obtain ⟨t, ht⟩ : ∃ t : Nat, (2 : Int) + (z : Int) = (t : Int) := ⟨2 + z, by omega⟩
    have ht2 : 2 ≤ t ∧ t < P := by omega
    have ht3 : (t : Int) < (P : Int) := by omega
    rw [ht]
    clear hz hz' ht
    refine wp_region_held_drew (S := fun _ => True) (by kernel_rfl) ?hS54 (fun hHeld => ?_)
    case hS54 => exact trivial
    have hbx0 : Below W13.heap.size W13 w16.drew := hB16.trans ((Below.refl _ _).drew.mono hB16.size)
    have hcx0 : Cv w16.drew gx P cx PK := hcvx.below (Below.refl _ _).drew hcvx.2.2.1
    clear hB16 hcvx
    generalize w16.drew = x0 at *
    refine tk (i := 0) (v := ?_) rfl (Or.inl ⟨by rfl, ?hy55⟩) ?ty55
    case hy55 => (intro w5 hSw; (try dsimp only at hSw); go_simp; all_goals with_reducible rfl)
    simp only [Act.put, J1, J2, J4, J5, J6]
    refine tk (i := 1) (v := ?_) rfl (Or.inl ⟨by rfl, ?hy56⟩) ?ty56
    case hy56 => (intro w5 hSw; (try dsimp only at hSw); go_simp; all_goals with_reducible rfl)
    simp only [Act.put, J1, J2, J3, J4, J5, J6]
    refine tk (i := 2) (v := ?_) rfl (Or.inl ⟨by rfl, ?hy57⟩) ?ty57
    case hy57 => (intro w5 hSw; (try dsimp only at hSw); go_simp; all_goals with_reducible rfl)
    simp only [Act.put, J1, J2, J3, J4, J5, J6]
    refine tk (i := 3) (v := ?_) rfl (Or.inl ⟨by rfl, ?hy58⟩) ?ty58
    case hy58 => (intro w5 hSw; (try dsimp only at hSw); go_simp; all_goals with_reducible rfl)
    simp only [Act.put, J1, J2, J3, J4, J5, J6]
    refine tk (i := 6) (v := ?_) rfl (Or.inl ⟨by rfl, ?hy59⟩) ?ty59
    case hy59 => (intro w5 hSw; (try dsimp only at hSw); go_simp; all_goals with_reducible rfl)
    simp only [Act.put, J1, J2, J3, J4, J5, J6]
    refine tk (i := 4) (v := ?_) rfl (Or.inl ⟨by rfl, ?hy60⟩) ?ty60
    case hy60 => (intro w5 hSw; (try dsimp only at hSw); go_simp; all_goals with_reducible rfl)
    simp only [Act.put, J1, J2, J3, J4, J5, J6]
    refine wpAnyH_ready (rs := [5, 7]) (by kernel_rfl) (by simp) ?_
    refine AllReadyH.cons rfl (fun K hK => ?_) (AllReadyH.cons rfl (fun K hK => ?_) AllReadyH.nil)
    · have hcl := hcx0.2.2.2.1 t ht2.2
      go_simp
      refine hK.out _ _ trivial (fun hHeld => ?_)
      clear hK K
      refine wpAnyH_ready (rs := [7]) (by kernel_rfl) (by simp) ?_
      refine AllReadyH.cons rfl (fun K hK => ?_) AllReadyH.nil
      go_simp
      refine (HL4 x0 hbx0).mono ?_
      rintro e x1 ⟨r17, rfl, q0, q1, hb17⟩
      refine hK.out _ _ trivial (fun hHeld => ?_)
      clear hK K
      obtain ⟨y, rfl⟩ := Int.eq_ofNat_of_zero_le q0
      have hy : y < 255 := by omega
      have hbx1 := hbx0.trans (hb17.mono hbx0.size)
      have hcx1 : Cv x1 gx P cx PK := hcx0.below hb17 hcx0.2.2.1
      clear hb17 q0 q1 hbx0
      refine tk (i := 8) (v := .int .i64 ((y + 1 : Nat) : Int)) rfl (Or.inl ⟨by rfl, ?hy61⟩) ?ty61
      case hy61 => (intro w5 hSw; (try dsimp only at hSw); go_simp; rw [IntKind.wrap_i64]; omega)
      simp only [Act.put, J1, J2, J3, J4, J5, J6]
      refine tk (i := 9) (v := .int .u8 ((y + 1 : Nat) : Int)) rfl (Or.inl ⟨by rfl, ?hy62⟩) ?ty62
      case hy62 => (intro w5 hSw; (try dsimp only at hSw); go_simp; rw [IntKind.wrap_u8]; omega)
      simp only [Act.put, J1, J2, J3, J4, J5, J6]
      have HX8 : Hid (bits .xor .u8 (nth PK t : Int) ((y : Int) + 1) = ((nth PK t ^^^ (y + 1) : Nat) : Int)) := xor_u8 (nth PK t) (y + 1) (hBP _ (nth_mem8 (by rw [HPL.out]; exact ht2.2))) (by omega)
      refine tk (i := 10) (v := .int .u8 ((nth PK t ^^^ (y + 1) : Nat) : Int)) rfl (Or.inl ⟨by rfl, ?hy63⟩) ?ty63
      case hy63 => (intro w5 hSw; (try dsimp only at hSw); go_simp; exact HX8.out)
      simp only [Act.put, J1, J2, J3, J4, J5, J6]
      refine tk (i := 11) (v := ?_) rfl (Or.inl ⟨by rfl, ?hy64⟩) ?ty64
      case hy64 => (intro w5 hSw; (try dsimp only at hSw); go_simp; all_goals with_reducible rfl)
      simp only [Act.put, J1, J2, J3, J4, J5, J6]
      refine wpAnyH_ready (rs := [12]) (by kernel_rfl) (by simp) ?_
      refine AllReadyH.cons rfl (fun K hK => ?_) AllReadyH.nil
      have hfz := (hcx1.2.2.2.2 t (by have := hcx1.2.1; omega)).2
      have hcl2 := hcx1.2.2.2.1 t ht2.2
      go_simp
      refine hK.out _ _ trivial (fun hHeld => ?_)
      clear hK K hfz hcl2
      refine wpAnyH_done (by kernel_rfl) ?_ _
      have hy8 : nth PK t ^^^ (y + 1) < 256 := xor_lt8 (hBP _ (nth_mem8 (by rw [HPL.out]; exact ht2.2))) (by omega)
      have hne : nth PK t ≠ nth PK t ^^^ (y + 1) := xor_ne (by omega)
      have hcy := hcx1.put (y := nth PK t ^^^ (y + 1)) ht2.2
      have hbY : Below W13.heap.size W13 (x1.setCell ⟨gx, t, none⟩ (.int .u8 ((nth PK t ^^^ (y + 1) : Nat) : Int))) := hbx1.setCell (show W13.heap.size ≤ gx by omega) _
      have hRX := HST.out t _ ht2.1 ht2.2 hy8 hne
      have hBX := isB_set (j := t) hBP hy8
      have hLX : (PK.set t (nth PK t ^^^ (y + 1))).length = P := by rw [List.length_set]; exact HPL.out
      clear hcx1 hbx1 hcx0 HL4 HST hy hy8 hne HX8
      generalize PK.set t (nth PK t ^^^ (y + 1)) = XX at *
      generalize x1.setCell ⟨gx, t, none⟩ (.int .u8 ((nth PK t ^^^ (y + 1) : Nat) : Int)) = Y at *
      clear hHeld x1
      obtain ⟨t8, hop8, k81, kcv, q5, hop5⟩ := HF.out Y hbY
      have hg8 : G8 < Y.heap.size := t8.lt
      have hg5 : G5 < Y.heap.size := q5.lt
      have hg6 : w7.heap.size < Y.heap.size := Nat.lt_of_lt_of_le hG7 hbY.size
      have HF2 : Hid (Tc Y G8 0 P ⟨jk, jx, jt, ju, jm, jf, jd, jb⟩ ((da, dn, dc), (ea, en, ec)) ∧ IsOp w11.heap.size Y ((da, dn, dc), (ea, en, ec)) ⟨jk, jx, jt, ju, jm, jf, jd, jb⟩ ∧ Qo Y G5 (opQ ⟨jk, jx, jt, ju, jm, jf, jd, jb⟩ ((ra, rn, rc), (sa, sn, sc))) ∧ IsOp W.heap.size Y ((ra, rn, rc), (sa, sn, sc)) ⟨jk, jx, jt, ju, jm, jf, jd, jb⟩) := ⟨t8, hop8, q5, hop5⟩
      obtain ⟨y0, y1, y2, y3, y4, y5, y6, y7, y8, y9⟩ := t8
      obtain ⟨z0, z1, z2, z3, z4, z5, z6, z7⟩ := q5
      dsimp only [slW] at y0 y1 y2 y3 y4 y5 y6 y7 y8 y9 z0 z1 z2 z3 z4 z5 z6 z7
      have fO := fldO0
      clear hop8 hop5
      obtain ⟨Pm, rfl⟩ : ∃ Pm, P = Pm + 1 := ⟨P - 1, by omega⟩
      have hRT := HCT.out Pm (by omega)
      have hpc : Pm ≤ cp := by have := kcv.2.1; omega
      have hpc' : (Pm : Int) ≤ (cp : Int) := by omega
      have HLT : Hid ((PK.take Pm).length = Pm) := by show _ = _; rw [List.length_take, HPL.out]; omega
      go_wp2_with fail
      have hA2 : Below Y.heap.size Y ((Y.alloc (.cells #[.int .i64 jk, .string jx, .string jt, .slice da dn dc, .int .i64 jm, .int .i64 jf, .int .i64 jd, .slice ea en ec] 27)).alloc (.cells #[.int .i64 jk, .string jx, .string jt, .slice ra rn rc, .int .i64 jm, .int .i64 jf, .int .i64 jd, .slice sa sn sc] 27)) := ((Below.refl _ _).alloc (Nat.le_refl _) _).alloc (by simp) _
      have hS1 : Qo ((Y.alloc (.cells #[.int .i64 jk, .string jx, .string jt, .slice da dn dc, .int .i64 jm, .int .i64 jf, .int .i64 jd, .slice ea en ec] 27)).alloc (.cells #[.int .i64 jk, .string jx, .string jt, .slice ra rn rc, .int .i64 jm, .int .i64 jf, .int .i64 jd, .slice sa sn sc] 27)) Y.heap.size (opQ ⟨jk, jx, jt, ju, jm, jf, jd, jb⟩ ((da, dn, dc), (ea, en, ec))) := (Qo.new Y _ _ _ _ _ _ _ _ _).below ((Below.refl _ _).alloc (Nat.le_refl _) _) (by simp)
      have hS2 : Qo ((Y.alloc (.cells #[.int .i64 jk, .string jx, .string jt, .slice da dn dc, .int .i64 jm, .int .i64 jf, .int .i64 jd, .slice ea en ec] 27)).alloc (.cells #[.int .i64 jk, .string jx, .string jt, .slice ra rn rc, .int .i64 jm, .int .i64 jf, .int .i64 jd, .slice sa sn sc] 27)) (Y.heap.size + 1) (opQ ⟨jk, jx, jt, ju, jm, jf, jd, jb⟩ ((ra, rn, rc), (sa, sn, sc))) := by
        have h := Qo.new (Y.alloc (.cells #[.int .i64 jk, .string jx, .string jt, .slice da dn dc, .int .i64 jm, .int .i64 jf, .int .i64 jd, .slice ea en ec] 27)) (.int .i64 jk) (.string jx) (.string jt) (.slice ra rn rc) (.int .i64 jm) (.int .i64 jf) (.int .i64 jd) (.slice sa sn sc) 27
        rw [show (Y.alloc (.cells #[.int .i64 jk, .string jx, .string jt, .slice da dn dc, .int .i64 jm, .int .i64 jf, .int .i64 jd, .slice ea en ec] 27)).heap.size = Y.heap.size + 1 by simp] at h
        exact h
      have HSM := sameOps_any [⟨jk, jx, jt, ju, jm, jf, jd, jb⟩] [⟨jk, jx, jt, ju, jm, jf, jd, jb⟩] (some ⟨Y.heap.size, 0, none⟩, 1, 1) (some ⟨Y.heap.size + 1, 0, none⟩, 1, 1) _ (isOs_one ((HF2.out.2.1.low (Nat.zero_le _)).below hA2) hS1 (Nat.zero_le _)) (isOs_one ((HF2.out.2.2.2.low (Nat.zero_le _)).below hA2) hS2 (Nat.zero_le _))
      rw [smL_one] at HSM
      clear hS1 hS2 y0 y1 y2 y3 y4 y5 y6 y7 y8 y9 z0 z1 z2 z3 z4 z5 z6 z7
      generalize (Y.alloc (.cells #[.int .i64 jk, .string jx, .string jt, .slice da dn dc, .int .i64 jm, .int .i64 jf, .int .i64 jd, .slice ea en ec] 27)).alloc (.cells #[.int .i64 jk, .string jx, .string jt, .slice ra rn rc, .int .i64 jm, .int .i64 jf, .int .i64 jd, .slice sa sn sc] 27) = Y2 at *
      refine HSM.mono ?_
      clear HSM
      rintro e Y3 ⟨rfl, hb3⟩
      have hB3' := hA2.trans (hb3.mono hA2.size)
      have hbY3 := hbY.trans (hB3'.mono hbY.size)
      have HRX := readOp_any (some ⟨gx, 0, none⟩) (Pm + 1) cx XX Y3 hLX hcy.2.1 hcmx (hcy.rd.below hB3') hBX (HTY.out Y3 hbY3).1
      rw [hRX] at HRX
      clear hA2 hb3
      go_wp2_with fail
      refine HRX.mono ?_
      clear HRX
      rintro e Y4 ⟨⟨⟨fa, fn, fc⟩, ha, hn', hc⟩, rfl, -, -, -, hb4⟩
      have hbY4 := hbY3.trans (hb4.mono hbY3.size)
      obtain ⟨-, -, k84, kcv4, -⟩ := HF.out Y4 hbY4
      have HRY := readOp_any (some ⟨gp, 0, none⟩) Pm cp (PK.take Pm) Y4 HLT.out hpc hcpm (kcv4.take (by omega)) (fun q hq => hBP q (List.mem_of_mem_take hq)) (HTY.out Y4 hbY4).1
      rw [hRT] at HRY
      dsimp only [orV, opZ, slW]
      clear hcy hB3' hb4 kcv hLX hBX
      go_wp2_with fail
      refine HRY.mono ?_
      clear HRY
      rintro e Y5 ⟨⟨⟨ia, in', ic⟩, ja, jn, jc⟩, rfl, -, -, -, hb5⟩
      dsimp only [orV, opZ, slW]
      have hBE : Below w.heap.size w Y5 := (HTY.out Y4 hbY4).2.trans (hb5.mono (HTY.out Y4 hbY4).2.size)
      go_wp2
      go_ret
      exact ⟨rfl, hBE⟩
    · go_simp
      refine (HL4 x0 hbx0).mono ?_
      rintro e x1 ⟨r17, rfl, q0, q1, hb17⟩
      refine hK.out _ _ trivial (fun hHeld => ?_)
      clear hK K
      obtain ⟨y, rfl⟩ := Int.eq_ofNat_of_zero_le q0
      have hy : y < 255 := by omega
      have hbx1 := hbx0.trans (hb17.mono hbx0.size)
      have hcx1 : Cv x1 gx P cx PK := hcx0.below hb17 hcx0.2.2.1
      clear hb17 q0 q1 hbx0
      refine tk (i := 8) (v := .int .i64 ((y + 1 : Nat) : Int)) rfl (Or.inl ⟨by rfl, ?hy65⟩) ?ty65
      case hy65 => (intro w5 hSw; (try dsimp only at hSw); go_simp; rw [IntKind.wrap_i64]; omega)
      simp only [Act.put, J1, J2, J3, J4, J5, J6]
      refine tk (i := 9) (v := .int .u8 ((y + 1 : Nat) : Int)) rfl (Or.inl ⟨by rfl, ?hy66⟩) ?ty66
      case hy66 => (intro w5 hSw; (try dsimp only at hSw); go_simp; rw [IntKind.wrap_u8]; omega)
      simp only [Act.put, J1, J2, J3, J4, J5, J6]
      refine wpAnyH_ready (rs := [5]) (by kernel_rfl) (by simp) ?_
      refine AllReadyH.cons rfl (fun K hK => ?_) AllReadyH.nil
      have hcl := hcx1.2.2.2.1 t ht2.2
      go_simp
      refine hK.out _ _ trivial (fun hHeld => ?_)
      clear hK K hcl
      have HX8 : Hid (bits .xor .u8 (nth PK t : Int) ((y : Int) + 1) = ((nth PK t ^^^ (y + 1) : Nat) : Int)) := xor_u8 (nth PK t) (y + 1) (hBP _ (nth_mem8 (by rw [HPL.out]; exact ht2.2))) (by omega)
      refine tk (i := 10) (v := .int .u8 ((nth PK t ^^^ (y + 1) : Nat) : Int)) rfl (Or.inl ⟨by rfl, ?hy67⟩) ?ty67
      case hy67 => (intro w5 hSw; (try dsimp only at hSw); go_simp; exact HX8.out)
      simp only [Act.put, J1, J2, J3, J4, J5, J6]
      refine tk (i := 11) (v := ?_) rfl (Or.inl ⟨by rfl, ?hy68⟩) ?ty68
      case hy68 => (intro w5 hSw; (try dsimp only at hSw); go_simp; all_goals with_reducible rfl)
      simp only [Act.put, J1, J2, J3, J4, J5, J6]
      refine wpAnyH_ready (rs := [12]) (by kernel_rfl) (by simp) ?_
      refine AllReadyH.cons rfl (fun K hK => ?_) AllReadyH.nil
      have hfz := (hcx1.2.2.2.2 t (by have := hcx1.2.1; omega)).2
      have hcl2 := hcx1.2.2.2.1 t ht2.2
      go_simp
      refine hK.out _ _ trivial (fun hHeld => ?_)
      clear hK K hfz hcl2
      refine wpAnyH_done (by kernel_rfl) ?_ _
      have hy8 : nth PK t ^^^ (y + 1) < 256 := xor_lt8 (hBP _ (nth_mem8 (by rw [HPL.out]; exact ht2.2))) (by omega)
      have hne : nth PK t ≠ nth PK t ^^^ (y + 1) := xor_ne (by omega)
      have hcy := hcx1.put (y := nth PK t ^^^ (y + 1)) ht2.2
      have hbY : Below W13.heap.size W13 (x1.setCell ⟨gx, t, none⟩ (.int .u8 ((nth PK t ^^^ (y + 1) : Nat) : Int))) := hbx1.setCell (show W13.heap.size ≤ gx by omega) _
      have hRX := HST.out t _ ht2.1 ht2.2 hy8 hne
      have hBX := isB_set (j := t) hBP hy8
      have hLX : (PK.set t (nth PK t ^^^ (y + 1))).length = P := by rw [List.length_set]; exact HPL.out
      clear hcx1 hbx1 hcx0 HL4 HST hy hy8 hne HX8
      generalize PK.set t (nth PK t ^^^ (y + 1)) = XX at *
      generalize x1.setCell ⟨gx, t, none⟩ (.int .u8 ((nth PK t ^^^ (y + 1) : Nat) : Int)) = Y at *
      clear hHeld x1
      obtain ⟨t8, hop8, k81, kcv, q5, hop5⟩ := HF.out Y hbY
      have hg8 : G8 < Y.heap.size := t8.lt
      have hg5 : G5 < Y.heap.size := q5.lt
      have hg6 : w7.heap.size < Y.heap.size := Nat.lt_of_lt_of_le hG7 hbY.size
      have HF2 : Hid (Tc Y G8 0 P ⟨jk, jx, jt, ju, jm, jf, jd, jb⟩ ((da, dn, dc), (ea, en, ec)) ∧ IsOp w11.heap.size Y ((da, dn, dc), (ea, en, ec)) ⟨jk, jx, jt, ju, jm, jf, jd, jb⟩ ∧ Qo Y G5 (opQ ⟨jk, jx, jt, ju, jm, jf, jd, jb⟩ ((ra, rn, rc), (sa, sn, sc))) ∧ IsOp W.heap.size Y ((ra, rn, rc), (sa, sn, sc)) ⟨jk, jx, jt, ju, jm, jf, jd, jb⟩) := ⟨t8, hop8, q5, hop5⟩
      obtain ⟨y0, y1, y2, y3, y4, y5, y6, y7, y8, y9⟩ := t8
      obtain ⟨z0, z1, z2, z3, z4, z5, z6, z7⟩ := q5
      dsimp only [slW] at y0 y1 y2 y3 y4 y5 y6 y7 y8 y9 z0 z1 z2 z3 z4 z5 z6 z7
      have fO := fldO0
      clear hop8 hop5
      obtain ⟨Pm, rfl⟩ : ∃ Pm, P = Pm + 1 := ⟨P - 1, by omega⟩
      have hRT := HCT.out Pm (by omega)
      have hpc : Pm ≤ cp := by have := kcv.2.1; omega
      have hpc' : (Pm : Int) ≤ (cp : Int) := by omega
      have HLT : Hid ((PK.take Pm).length = Pm) := by show _ = _; rw [List.length_take, HPL.out]; omega
      go_wp2_with fail
      have hA2 : Below Y.heap.size Y ((Y.alloc (.cells #[.int .i64 jk, .string jx, .string jt, .slice da dn dc, .int .i64 jm, .int .i64 jf, .int .i64 jd, .slice ea en ec] 27)).alloc (.cells #[.int .i64 jk, .string jx, .string jt, .slice ra rn rc, .int .i64 jm, .int .i64 jf, .int .i64 jd, .slice sa sn sc] 27)) := ((Below.refl _ _).alloc (Nat.le_refl _) _).alloc (by simp) _
      have hS1 : Qo ((Y.alloc (.cells #[.int .i64 jk, .string jx, .string jt, .slice da dn dc, .int .i64 jm, .int .i64 jf, .int .i64 jd, .slice ea en ec] 27)).alloc (.cells #[.int .i64 jk, .string jx, .string jt, .slice ra rn rc, .int .i64 jm, .int .i64 jf, .int .i64 jd, .slice sa sn sc] 27)) Y.heap.size (opQ ⟨jk, jx, jt, ju, jm, jf, jd, jb⟩ ((da, dn, dc), (ea, en, ec))) := (Qo.new Y _ _ _ _ _ _ _ _ _).below ((Below.refl _ _).alloc (Nat.le_refl _) _) (by simp)
      have hS2 : Qo ((Y.alloc (.cells #[.int .i64 jk, .string jx, .string jt, .slice da dn dc, .int .i64 jm, .int .i64 jf, .int .i64 jd, .slice ea en ec] 27)).alloc (.cells #[.int .i64 jk, .string jx, .string jt, .slice ra rn rc, .int .i64 jm, .int .i64 jf, .int .i64 jd, .slice sa sn sc] 27)) (Y.heap.size + 1) (opQ ⟨jk, jx, jt, ju, jm, jf, jd, jb⟩ ((ra, rn, rc), (sa, sn, sc))) := by
        have h := Qo.new (Y.alloc (.cells #[.int .i64 jk, .string jx, .string jt, .slice da dn dc, .int .i64 jm, .int .i64 jf, .int .i64 jd, .slice ea en ec] 27)) (.int .i64 jk) (.string jx) (.string jt) (.slice ra rn rc) (.int .i64 jm) (.int .i64 jf) (.int .i64 jd) (.slice sa sn sc) 27
        rw [show (Y.alloc (.cells #[.int .i64 jk, .string jx, .string jt, .slice da dn dc, .int .i64 jm, .int .i64 jf, .int .i64 jd, .slice ea en ec] 27)).heap.size = Y.heap.size + 1 by simp] at h
        exact h
      have HSM := sameOps_any [⟨jk, jx, jt, ju, jm, jf, jd, jb⟩] [⟨jk, jx, jt, ju, jm, jf, jd, jb⟩] (some ⟨Y.heap.size, 0, none⟩, 1, 1) (some ⟨Y.heap.size + 1, 0, none⟩, 1, 1) _ (isOs_one ((HF2.out.2.1.low (Nat.zero_le _)).below hA2) hS1 (Nat.zero_le _)) (isOs_one ((HF2.out.2.2.2.low (Nat.zero_le _)).below hA2) hS2 (Nat.zero_le _))
      rw [smL_one] at HSM
      clear hS1 hS2 y0 y1 y2 y3 y4 y5 y6 y7 y8 y9 z0 z1 z2 z3 z4 z5 z6 z7
      generalize (Y.alloc (.cells #[.int .i64 jk, .string jx, .string jt, .slice da dn dc, .int .i64 jm, .int .i64 jf, .int .i64 jd, .slice ea en ec] 27)).alloc (.cells #[.int .i64 jk, .string jx, .string jt, .slice ra rn rc, .int .i64 jm, .int .i64 jf, .int .i64 jd, .slice sa sn sc] 27) = Y2 at *
      refine HSM.mono ?_
      clear HSM
      rintro e Y3 ⟨rfl, hb3⟩
      have hB3' := hA2.trans (hb3.mono hA2.size)
      have hbY3 := hbY.trans (hB3'.mono hbY.size)
      have HRX := readOp_any (some ⟨gx, 0, none⟩) (Pm + 1) cx XX Y3 hLX hcy.2.1 hcmx (hcy.rd.below hB3') hBX (HTY.out Y3 hbY3).1
      rw [hRX] at HRX
      clear hA2 hb3
      go_wp2_with fail
      refine HRX.mono ?_
      clear HRX
      rintro e Y4 ⟨⟨⟨fa, fn, fc⟩, ha, hn', hc⟩, rfl, -, -, -, hb4⟩
      have hbY4 := hbY3.trans (hb4.mono hbY3.size)
      obtain ⟨-, -, k84, kcv4, -⟩ := HF.out Y4 hbY4
      have HRY := readOp_any (some ⟨gp, 0, none⟩) Pm cp (PK.take Pm) Y4 HLT.out hpc hcpm (kcv4.take (by omega)) (fun q hq => hBP q (List.mem_of_mem_take hq)) (HTY.out Y4 hbY4).1
      rw [hRT] at HRY
      dsimp only [orV, opZ, slW]
      clear hcy hB3' hb4 kcv hLX hBX
      go_wp2_with fail
      refine HRY.mono ?_
      clear HRY
      rintro e Y5 ⟨⟨⟨ia, in', ic⟩, ja, jn, jc⟩, rfl, -, -, -, hb5⟩
      dsimp only [orV, opZ, slW]
      have hBE : Below w.heap.size w Y5 := (HTY.out Y4 hbY4).2.trans (hb5.mono (HTY.out Y4 hbY4).2.size)
      go_wp2
      go_ret
      exact ⟨rfl, hBE⟩
end Go.Proofs.YtdcgihcjiiemdaaDoor
