/- The laws' marks of ops in a row of the call's own; no conditions beyond those that each fact names. -/
import Derived.Test.YthiieeblpefcpaaDoorJrh
namespace Go.Proofs.YthiieeblpefcpaaDoor
open Go.RowKit
set_option linter.unusedVariables false

/-- Where a slice of an op lies, or a block that nothing lies in. -/
theorem InS.pick {k m b z : Nat} {s : SlQ} {w : World} (h : InS k m s) (hw : WrQ k w s) (hb : b < k ∨ m ≤ b) (hm : m ≤ z) (hbz : b < z) : ∃ g, ((s.2.1 = 0 ∧ g = z) ∨ (s.1 = some ⟨g, 0, none⟩ ∧ k ≤ g ∧ g < m)) ∧ g ≠ b ∧ (∀ i, i < s.2.1 → (w.cell? ⟨g, i, none⟩).isSome = true ∧ w.frozen? ⟨g, i, none⟩ = false) := by
  rcases h with h | ⟨g, e, h1, h2⟩
  · exact ⟨z, .inl ⟨h, rfl⟩, by omega, fun i hi => by omega⟩
  · refine ⟨g, .inr ⟨e, h1, h2⟩, by omega, ?_⟩
    rcases hw with h | ⟨g', e', -, -, h⟩
    · exact fun i hi => by omega
    · rw [e] at e'; cases e'; exact h
theorem MkQ.mk1 {B g : Nat} {w x y : World} (h : MkQ B w.heap.size w x) (hm : MkJ g (g + 1) x y) (hl : B ≤ g) : MkQ B w.heap.size w y :=
  ⟨h.1.trans (hm.1.mono hl), fun p h1 h2 => by omega, fun p h1 h2 => hm.2.2.1 p (h.2.2.1 p h1 h2), fun p h1 => (hm.2.2.2 p).trans (h.2.2.2 p h1)⟩
theorem wr_at {B g n : Nat} {w x : World} (h : MkQ B w.heap.size w x) (d : ∀ i, i < n → (w.cell? ⟨g, i, none⟩).isSome = true ∧ w.frozen? ⟨g, i, none⟩ = false) : ∀ i, i < n → (x.cell? ⟨g, i, none⟩).isSome = true ∧ x.frozen? ⟨g, i, none⟩ = false := fun i hi => by
  obtain ⟨u, hu⟩ := Option.isSome_iff_exists.1 (d i hi).1
  have hlt : g < w.heap.size := World.block_lt_of_cell? w ⟨g, i, none⟩ hu
  exact ⟨h.2.2.1 ⟨g, i, none⟩ hlt (d i hi).1, (h.2.2.2 ⟨g, i, none⟩ hlt).trans (d i hi).2⟩
theorem MkJ.one {g : Nat} {w w' : World} (h : MkJ g (g + 1) w w') (x : Addr) (hx : x.block ≠ g) : w'.cell? x = w.cell? x := by
  rcases Nat.lt_or_ge x.block g with h' | h'
  · exact h.1.cell h'
  · exact h.2.1 x (by omega)
theorem HdJ.keep {w w' : World} {b k j : Nat} {o : OpR} {p : SlO} (h : HdJ w b o k j p) (hr : ∀ f, j * 8 ≤ f → f < (j + 1) * 8 → w'.cell? ⟨b, f, none⟩ = w.cell? ⟨b, f, none⟩) {lo hi : Nat} (hs : hi ≤ w'.heap.size) (h1 : InS lo hi p.1) (h2 : InS lo hi p.2) (hk : ∀ g f, lo ≤ g → g < hi → w'.cell? ⟨g, f, none⟩ = w.cell? ⟨g, f, none⟩) : HdJ w' b o k j p := by
  obtain ⟨c0, c1, c2, c3, c4, c5, c6, c7, hu, hd, n1, n2⟩ := h
  refine ⟨(hr _ (by omega) (by omega)).trans c0, (hr _ (by omega) (by omega)).trans c1, (hr _ (by omega) (by omega)).trans c2, (hr _ (by omega) (by omega)).trans c3, (hr _ (by omega) (by omega)).trans c4, (hr _ (by omega) (by omega)).trans c5, (hr _ (by omega) (by omega)).trans c6, (hr _ (by omega) (by omega)).trans c7, ?_, ?_, n1, n2⟩
  · rcases hu with hu | ⟨g, off, e, hlt, hc⟩
    · exact .inl hu
    · rcases h1 with h1 | ⟨g', e', a1, a2⟩
      · left; rw [h1]; rfl
      · rw [e] at e'; cases e'
        exact .inr ⟨g, 0, e, by omega, fun i hi => (hk g _ a1 a2).trans (hc i hi)⟩
  · rcases hd with hd | ⟨g, off, e, hlt, hc⟩
    · exact .inl hd
    · rcases h2 with h2 | ⟨g', e', a1, a2⟩
      · left; rw [h2]; rfl
      · rw [e] at e'; cases e'
        exact .inr ⟨g, 0, e, by omega, fun i hi => (hk g _ a1 a2).trans (hc i hi)⟩
/-- Ops one behind the other: where each lies. -/
theorem OpsIn.two {w : World} {own : Option Nat} : ∀ {ps : List SlO} {os : List OpR} {lo hi : Nat}, OpsIn w own lo hi ps os → ∃ A M : Nat → Nat, (∀ i, i < os.length → ∃ p, ps[i]? = some p ∧ lo ≤ A i ∧ M i ≤ hi ∧ OpIn w own (A i) (M i) p (nthO os i)) ∧ ∀ i j, i < j → j < os.length → M i ≤ A j
  | [], [], _, _, _ => ⟨fun _ => 0, fun _ => 0, fun i hi => by simp at hi, fun i j _ hj => by simp at hj⟩
  | p :: ps, o :: os, _, _, ⟨k, m, h0, h1, h2⟩ => by
    obtain ⟨A, M, hA, hM⟩ := OpsIn.two h2
    refine ⟨fun i => match i with | 0 => k | i + 1 => A i, fun i => match i with | 0 => m | i + 1 => M i, fun i hi => ?_, fun i j hij hj => ?_⟩
    · cases i with
      | zero => exact ⟨p, rfl, h0, h2.le.1, h1⟩
      | succ i =>
        obtain ⟨p', e, g0, g1, g2⟩ := hA i (by simpa using hi)
        exact ⟨p', by simpa using e, Nat.le_trans h0 (Nat.le_trans h1.le g0), g1, g2⟩
    · cases j with
      | zero => omega
      | succ j =>
        cases i with
        | zero =>
          obtain ⟨p', e, g0, -⟩ := hA j (by simpa using hj)
          exact g0
        | succ i => exact hM i j (by omega) (by simpa using hj)
  | [], _ :: _, _, _, h => h.elim
  | _ :: _, [], _, _, h => h.elim

/-- A row of ops, cell by cell. -/
def RwC (w : World) (B hi : Nat) (a : Option Addr) (n : Nat) (l : List OpR) : Prop := ∃ (b : Nat) (A M : Nat → Nat), (n = 0 ∨ a = some ⟨b, 0, none⟩) ∧ (n = 0 ∨ B ≤ b) ∧ (n = 0 ∨ b < w.heap.size) ∧ Hid (n = 0 ∨ ∀ i, w.frozen? ⟨b, i, none⟩ = false) ∧ Hid (∀ i, i < n → ∃ p : SlO, Qp w b (i * 8) (opQ (nthO l i) p) ∧ OpIn w (some b) (A i) (M i) p (nthO l i) ∧ B ≤ A i) ∧ Hid (∀ i j, i < j → j < n → M i ≤ A j) ∧ Hid ((n = 0 ∨ b < hi) ∧ ∀ i, i < n → M i ≤ hi)
theorem RwO.rc {w : World} {B n cap : Nat} {a : Option Addr} {l : List OpR} (h : RwO w B (.slice a n cap) l) (hl : l.length = n) : RwC w B w.heap.size a n l := by
  obtain ⟨ps, hps, ho, hi⟩ := h
  obtain ⟨A, M, hA, hM⟩ := hi.two
  rw [hl] at hA hM
  have hzl : (List.zipWith opQ l ps).length = n := by rw [List.length_zipWith, hps, Nat.min_self, hl]
  have ho' : w.ownsRow B 38 8 (.slice a n cap) n (oc (List.zipWith opQ l ps)) := by have := ho; unfold OwnO at this; rw [hzl] at this; exact this
  rcases id ho'.2 with ⟨h', h0⟩ | ⟨g, cap', cur, h', hB, hg, _⟩
  · exact ⟨0, A, M, .inl h0, .inl h0, .inl h0, .inl h0, fun i hi => by omega, fun i j h1 h2 => by omega, .inl h0, fun i hi => by omega⟩
  · injection h' with e1 e2 e3
    subst e1
    refine ⟨g, A, M, .inr rfl, .inr hB, .inr (World.ownsRow.lt ho' g rfl).2, .inr (fun i => ho'.frozenAt i), fun i hi' => ?_, hM, .inr (World.ownsRow.lt ho' g rfl).2, fun i hi' => by obtain ⟨p, -, -, h, -⟩ := hA i hi'; exact h⟩
    obtain ⟨p, hp', hk', -, hin⟩ := hA i hi'
    have hc := ownO_cells ho' i (by rw [hzl]; exact hi')
    rw [nthOc_zip (by rw [hl]; exact hi') hp'] at hc
    exact ⟨p, hc.2, hin, hk'⟩
theorem RwC.keep {w w' : World} {B hi n : Nat} {a : Option Addr} {l : List OpR} (h : RwC w B hi a n l) (hs : w.heap.size ≤ w'.heap.size) (hc : ∀ g i, B ≤ g → g < w.heap.size → w'.cell? ⟨g, i, none⟩ = w.cell? ⟨g, i, none⟩ ∧ w'.frozen? ⟨g, i, none⟩ = w.frozen? ⟨g, i, none⟩) : RwC w' B hi a n l := by
  obtain ⟨b, A, M, ha, hB, hbw, HZ, HH, HM, HHI⟩ := h
  refine ⟨b, A, M, ha, hB, hbw.imp id (fun h => Nat.lt_of_lt_of_le h hs), ?_, fun i hi => ?_, HM, HHI⟩
  · rcases Nat.eq_zero_or_pos n with h | h
    · exact .inl h
    · exact .inr (fun i => ((hc b i (hB.resolve_left (by omega)) (hbw.resolve_left (by omega))).2).trans (HZ.out.resolve_left (by omega) i))
  · obtain ⟨p, hq, hin, hBA⟩ := HH.out i hi
    have hBb := hB.resolve_left (by omega)
    have hbl := hbw.resolve_left (by omega)
    obtain ⟨c0, c1, c2, c3, c4, c5, c6, c7⟩ := hq
    have e : ∀ f, w'.cell? ⟨b, f, none⟩ = w.cell? ⟨b, f, none⟩ := fun f => (hc b f hBb hbl).1
    refine ⟨p, ⟨(e _).trans c0, (e _).trans c1, (e _).trans c2, (e _).trans c3, (e _).trans c4, (e _).trans c5, (e _).trans c6, (e _).trans c7⟩, hin.kept hs (fun g h1 h2 h3 => ?_) (fun g e => .inl e), hBA⟩
    have := hin.hi_le
    exact ⟨by omega, fun i => hc g i (by omega) (by omega)⟩
/-- How the marks of a row end. -/
def MkE (B hi n : Nat) (a : Option Addr) (l : List OpR) (w : World) (e : Ending) (w' : World) : Prop := e = .returned (.int .i64 (kJ l : Int)) ∧ MkQ B w.heap.size w w' ∧ (∀ g f, hi ≤ g → g < w.heap.size → w'.cell? ⟨g, f, none⟩ = w.cell? ⟨g, f, none⟩) ∧ ∃ b, (n = 0 ∨ a = some ⟨b, 0, none⟩) ∧ (n = 0 ∨ b < w'.heap.size) ∧ ∀ j, j < n → ∃ p, HdJ w' b (nthO l j) (kJ (l.take j)) j p

set_option maxHeartbeats 1600000 in
set_option maxRecDepth 100000 in
theorem markOpS_hd (a : Option Addr) (n cap B hi : Nat) (l : List OpR) (w : World) (h : RwC w B hi a n l) (hl : l.length = n) (hn : n ≤ 8000) (hk : ∀ j, j ≤ n → 1 ≤ kJ (l.take j) ∧ kJ (l.take j) ≤ 500000) :
    Calls Tryd.prog 41 #[.slice a n cap, .int .i64 1] w fun e w' => MkE B hi n a l w e w' := by
  have HL : Hid (l.length = n) := hl
  have HK : Hid (∀ j, j ≤ n → 1 ≤ kJ (l.take j) ∧ kJ (l.take j) ≤ 500000) := hk
  obtain ⟨b, A, M, ha, hB, hbw, HZ, HH, HM, HHI⟩ := h
  clear hl hk
  go_enter Tryd.func41, Tryd.ntmps41
  go_wp2
  go_loopw [1, 5] (fun q i wr => ∃ j : Nat, j ≤ n ∧ i = .int .i64 j ∧ q = .int .i64 ((kJ (l.take j) : Nat) : Int) ∧ MkQ B w.heap.size w wr ∧ (∀ i, i < j → ∃ p, HdJ wr b (nthO l i) (kJ (l.take i)) i p ∧ OpIn w (some b) (A i) (M i) p (nthO l i)) ∧ (∀ g f, g < w.heap.size → (∀ i, i < j → g < A i ∨ M i ≤ g) → (g = b → j * 8 ≤ f) → wr.cell? ⟨g, f, none⟩ = w.cell? ⟨g, f, none⟩)) (fun _ i _ => n - (intOf i).toNat)
  case atStart => exact ⟨0, Nat.zero_le _, rfl, rfl, MkQ.refl _ _ _, fun i hi => absurd hi (Nat.not_lt_zero _), fun _ _ _ _ _ => rfl⟩
  case round =>
    obtain ⟨j, hj, rfl, rfl, hmk, hall, hce⟩ := hrel
    by_cases hjn : j < n
    · obtain rfl : a = some ⟨b, 0, none⟩ := ha.resolve_left (by omega)
      have hBb : B ≤ b := hB.resolve_left (by omega)
      have hblt : b < w.heap.size := hbw.resolve_left (by omega)
      have hfz := HZ.out.resolve_left (by omega)
      have hji : (j : Int) < (n : Int) := by omega
      obtain ⟨p, hq, hin, hBA⟩ := HH.out j hjn
      have HSN : Hid (kJ (l.take (j + 1)) = kJ (l.take j) + 6 + p.1.2.1 + p.2.2.1) := by show _ = _; rw [kJ_snoc l j (by rw [HL.out]; exact hjn), hin.op.1.1, hin.op.2.1]
      obtain ⟨hk1, hk2⟩ := HK.out j hj
      have hk3 := (HK.out (j + 1) hjn).2
      rw [HSN.out] at hk3
      obtain ⟨c0, c1, c2, c3, c4, c5, c6, c7⟩ := hq
      dsimp only at c0 c1 c2 c3 c4 c5 c6 c7
      have hob := hin.off b rfl
      obtain ⟨g1, p1, q1, d1⟩ := hin.in1.pick hin.wr1 hob hin.hi_le hblt
      obtain ⟨g2, p2, q2, d2⟩ := hin.in2.pick hin.wr2 hob hin.hi_le hblt
      have hg12 : p.1.2.1 = 0 ∨ g1 ≠ g2 := by
        rcases p1 with h | h
        · exact .inl h.1
        · right
          rcases p2 with h' | h'
          · have := hin.hi_le; omega
          · exact hin.sp _ _ h.1 h'.1
      have hBw : B ≤ w.heap.size := by omega
      have hBg1 : B ≤ g1 := by rcases p1 with h | h <;> omega
      have hBg2 : B ≤ g2 := by rcases p2 with h | h <;> omega
      have HP1 : Hid ((A j ≤ g1 ∧ g1 < M j) ∨ g1 = w.heap.size) := p1.symm.imp (fun h => h.2) (fun h => h.2)
      have HP2 : Hid ((A j ≤ g2 ∧ g2 < M j) ∨ g2 = w.heap.size) := p2.symm.imp (fun h => h.2) (fun h => h.2)
      have HSM : Hid (∀ x, MkQ B w.heap.size w x → ∀ i, i < 8 → (x.cell? ⟨b, j * 8 + i, none⟩).isSome = true ∧ x.frozen? ⟨b, j * 8 + i, none⟩ = false) := fun x hx i hi => by
        refine ⟨hx.2.2.1 ⟨b, j * 8 + i, none⟩ hblt ?_, (hx.2.2.2 ⟨b, j * 8 + i, none⟩ hblt).trans (hfz _)⟩
        obtain rfl | rfl | rfl | rfl | rfl | rfl | rfl | rfl : i = 0 ∨ i = 1 ∨ i = 2 ∨ i = 3 ∨ i = 4 ∨ i = 5 ∨ i = 6 ∨ i = 7 := by omega
        · rw [Nat.add_zero, c0]; rfl
        · rw [c1]; rfl
        · rw [c2]; rfl
        · rw [c3]; rfl
        · rw [c4]; rfl
        · rw [c5]; rfl
        · rw [c6]; rfl
        · rw [c7]; rfl
      have HWC : Hid (∀ f, j * 8 ≤ f → wr.cell? ⟨b, f, none⟩ = w.cell? ⟨b, f, none⟩) := fun f hf => hce b f hblt (fun i hi => by obtain ⟨p', -, h⟩ := hall i hi; exact h.off b rfl) (fun _ => hf)
      have k3 := (HWC.out (j * 8 + 3) (by omega)).trans c3
      have k7 := (HWC.out (j * 8 + 7) (by omega)).trans c7
      have HK3 : Hid (_) := k3
      have HK7 : Hid (_) := k7
      have HAL : Hid (∀ i, i < j → ∃ p, HdJ wr b (nthO l i) (kJ (l.take i)) i p ∧ OpIn w (some b) (A i) (M i) p (nthO l i)) := hall
      have HCE : Hid (∀ g f, g < w.heap.size → (∀ i, i < j → g < A i ∨ M i ≤ g) → (g = b → j * 8 ≤ f) → wr.cell? ⟨g, f, none⟩ = w.cell? ⟨g, f, none⟩) := hce
      have HIN : Hid (OpIn w (some b) (A j) (M j) p (nthO l j)) := hin
      clear c0 c1 c2 c3 c4 c5 c6 c7 hall hce hin hob
      obtain ⟨⟨ua, un, uc⟩, ⟨ba, bn, bc'⟩⟩ := p
      dsimp only [slW] at HSN hk3 p1 p2 d1 d2 hg12 k3 k7
      have HD1 : Hid (∀ i, i < un → (w.cell? ⟨g1, i, none⟩).isSome = true ∧ w.frozen? ⟨g1, i, none⟩ = false) := d1
      have HD2 : Hid (∀ i, i < bn → (w.cell? ⟨g2, i, none⟩).isSome = true ∧ w.frozen? ⟨g2, i, none⟩ = false) := d2
      have HG1 : Hid (un = 0 ∨ ua = some ⟨g1, 0, none⟩) := p1.imp (fun h => h.1) (fun h => h.1)
      have HG2 : Hid (bn = 0 ∨ ba = some ⟨g2, 0, none⟩) := p2.imp (fun h => h.1) (fun h => h.1)
      clear d1 d2 p1 p2
      have HKJ : Hid (kJ (l.take j) = kJ (l.take j)) := rfl
      generalize hkk : kJ (l.take j) = k at *
      have HKK : Hid (kJ (l.take j) = k) := hkk
      clear hkk HKJ
      obtain ⟨s0, f0⟩ := HSM.out wr hmk 0 (by omega)
      obtain ⟨u0, s0⟩ := Option.isSome_iff_exists.1 s0
      rw [Nat.add_zero] at s0 f0
      have m1 := hmk.set (i := j * 8) (.int .i64 (k : Int)) hBb hblt
      have T1 := markText_eq (k + 1) (wr.setCell ⟨b, j * 8, none⟩ (.int .i64 (k : Int))) (by omega) (by omega)
      rw [show ((k + 1 : Nat) : Int) = (k : Int) + 1 by omega] at T1
      go_wp2_with fail
      refine T1.mono ?_
      rintro e w1 ⟨rfl, b1⟩
      have m2 := m1.grow b1 hBw
      have H1 : Hid (∀ q : Addr, q.block < w.heap.size → w1.cell? q = (wr.setCell ⟨b, j * 8, none⟩ (.int .i64 (k : Int))).cell? q) := fun q hq => b1.cell (Nat.lt_of_lt_of_le hq m1.1.size)
      have HS0 : Hid ((wr.setCell ⟨b, j * 8, none⟩ (.int .i64 (k : Int))).cell? ⟨b, j * 8, none⟩ = some (.int .i64 (k : Int))) := World.cell?_setCell_same _ _ _ s0
      clear T1 s0 f0 m1 b1
      obtain ⟨s1, f1⟩ := HSM.out w1 m2 1 (by omega)
      obtain ⟨u1, s1⟩ := Option.isSome_iff_exists.1 s1
      have m3 := m2.set (i := j * 8 + 1) (.string (mtJ (k + 1))) hBb hblt
      have T2 := markText_eq (k + 2) (w1.setCell ⟨b, j * 8 + 1, none⟩ (.string (mtJ (k + 1)))) (by omega) (by omega)
      rw [show ((k + 2 : Nat) : Int) = (k : Int) + 1 + 1 by omega] at T2
      go_wp2_with fail
      refine T2.mono ?_
      rintro e w2 ⟨rfl, b2⟩
      have m4 := m3.grow b2 hBw
      have H2 : Hid (∀ q : Addr, q.block < w.heap.size → w2.cell? q = (w1.setCell ⟨b, j * 8 + 1, none⟩ (.string (mtJ (k + 1)))).cell? q) := fun q hq => b2.cell (Nat.lt_of_lt_of_le hq m3.1.size)
      have HS1 : Hid ((w1.setCell ⟨b, j * 8 + 1, none⟩ (.string (mtJ (k + 1)))).cell? ⟨b, j * 8 + 1, none⟩ = some (.string (mtJ (k + 1)))) := World.cell?_setCell_same _ _ _ s1
      clear T2 s1 f1 m2 m3 b2
      obtain ⟨s2, f2⟩ := HSM.out w2 m4 2 (by omega)
      obtain ⟨u2, s2⟩ := Option.isSome_iff_exists.1 s2
      have m5 := m4.set (i := j * 8 + 2) (.string (mtJ (k + 2))) hBb hblt
      have HS2 : Hid ((w2.setCell ⟨b, j * 8 + 2, none⟩ (.string (mtJ (k + 2)))).cell? ⟨b, j * 8 + 2, none⟩ = some (.string (mtJ (k + 2)))) := World.cell?_setCell_same _ _ _ s2
      have hd3 : (w2.setCell ⟨b, j * 8 + 2, none⟩ (.string (mtJ (k + 2)))).cell? ⟨b, j * 8 + 3, none⟩ = some (.slice ua un uc) := by
        rw [World.cell?_setCell_other _ _ _ _ (fun e => by injection e; omega), H2.out ⟨b, j * 8 + 3, none⟩ hblt, World.cell?_setCell_other _ _ _ _ (fun e => by injection e; omega), H1.out ⟨b, j * 8 + 3, none⟩ hblt, World.cell?_setCell_other _ _ _ _ (fun e => by injection e; omega)]; exact k3
      have T3 := markInt64S_mg ua g1 un uc (k + 3) g1 (g1 + 1) _ HG1.out (Nat.le_refl _) (Nat.lt_succ_self _) (wr_at m5 HD1.out) (by omega) (by omega)
      rw [show ((k + 3 : Nat) : Int) = (k : Int) + 1 + 1 + 1 by omega] at T3
      go_wp2_with fail
      refine T3.mono ?_
      rintro e w3 ⟨rfl, mj3, hv3⟩
      have m6 := m5.mk1 mj3 hBg1
      have H3 : Hid (∀ q : Addr, q.block ≠ g1 → w3.cell? q = (w2.setCell ⟨b, j * 8 + 2, none⟩ (.string (mtJ (k + 2)))).cell? q) := fun q hq => mj3.one q hq
      have HV3 : Hid (∀ i, i < un → w3.cell? ⟨g1, i, none⟩ = some (.int .i64 ((k + 3 + i : Nat) : Int))) := hv3
      clear T3 s2 f2 m4 m5 mj3 hv3 hd3 k3
      obtain ⟨kq, hkq⟩ : ∃ kq, k + 3 + un = kq := ⟨_, rfl⟩
      rw [hkq]
      obtain ⟨s4, f4⟩ := HSM.out w3 m6 4 (by omega)
      obtain ⟨u4, s4⟩ := Option.isSome_iff_exists.1 s4
      obtain ⟨s5, f5⟩ := HSM.out w3 m6 5 (by omega)
      obtain ⟨u5, s5⟩ := Option.isSome_iff_exists.1 s5
      obtain ⟨s6, f6⟩ := HSM.out w3 m6 6 (by omega)
      obtain ⟨u6, s6⟩ := Option.isSome_iff_exists.1 s6
      have m7 := ((m6.set (i := j * 8 + 4) (.int .i64 (kq : Int)) hBb hblt).set (i := j * 8 + 5) (.int .i64 ((kq : Int) + 1)) hBb hblt).set (i := j * 8 + 6) (.int .i64 ((kq : Int) + 1 + 1)) hBb hblt
      have HS4 : Hid ((((w3.setCell ⟨b, j * 8 + 4, none⟩ (.int .i64 (kq : Int))).setCell ⟨b, j * 8 + 5, none⟩ (.int .i64 ((kq : Int) + 1))).setCell ⟨b, j * 8 + 6, none⟩ (.int .i64 ((kq : Int) + 1 + 1))).cell? ⟨b, j * 8 + 4, none⟩ = some (.int .i64 (kq : Int)) ∧ (((w3.setCell ⟨b, j * 8 + 4, none⟩ (.int .i64 (kq : Int))).setCell ⟨b, j * 8 + 5, none⟩ (.int .i64 ((kq : Int) + 1))).setCell ⟨b, j * 8 + 6, none⟩ (.int .i64 ((kq : Int) + 1 + 1))).cell? ⟨b, j * 8 + 5, none⟩ = some (.int .i64 ((kq : Int) + 1)) ∧ (((w3.setCell ⟨b, j * 8 + 4, none⟩ (.int .i64 (kq : Int))).setCell ⟨b, j * 8 + 5, none⟩ (.int .i64 ((kq : Int) + 1))).setCell ⟨b, j * 8 + 6, none⟩ (.int .i64 ((kq : Int) + 1 + 1))).cell? ⟨b, j * 8 + 6, none⟩ = some (.int .i64 ((kq : Int) + 1 + 1))) := ⟨by rw [World.cell?_setCell_other _ _ _ _ (fun e => by injection e; omega), World.cell?_setCell_other _ _ _ _ (fun e => by injection e; omega)]; exact World.cell?_setCell_same _ _ _ s4, by rw [World.cell?_setCell_other _ _ _ _ (fun e => by injection e; omega)]; exact World.cell?_setCell_same _ _ _ (show _ = some u5 by rw [World.cell?_setCell_other _ _ _ _ (fun e => by injection e; omega)]; exact s5), World.cell?_setCell_same _ _ _ (show _ = some u6 by rw [World.cell?_setCell_other _ _ _ _ (fun e => by injection e; omega), World.cell?_setCell_other _ _ _ _ (fun e => by injection e; omega)]; exact s6)⟩
      have hd7 : (((w3.setCell ⟨b, j * 8 + 4, none⟩ (.int .i64 (kq : Int))).setCell ⟨b, j * 8 + 5, none⟩ (.int .i64 ((kq : Int) + 1))).setCell ⟨b, j * 8 + 6, none⟩ (.int .i64 ((kq : Int) + 1 + 1))).cell? ⟨b, j * 8 + 7, none⟩ = some (.slice ba bn bc') := by
        rw [World.cell?_setCell_other _ _ _ _ (fun e => by injection e; omega), World.cell?_setCell_other _ _ _ _ (fun e => by injection e; omega), World.cell?_setCell_other _ _ _ _ (fun e => by injection e; omega), H3.out ⟨b, j * 8 + 7, none⟩ (fun e => q1 e.symm), World.cell?_setCell_other _ _ _ _ (fun e => by injection e; omega), H2.out ⟨b, j * 8 + 7, none⟩ hblt, World.cell?_setCell_other _ _ _ _ (fun e => by injection e; omega), H1.out ⟨b, j * 8 + 7, none⟩ hblt, World.cell?_setCell_other _ _ _ _ (fun e => by injection e; omega)]; exact k7
      have T4 := markByteS_mg ba g2 bn bc' (kq + 3) g2 (g2 + 1) _ HG2.out (Nat.le_refl _) (Nat.lt_succ_self _) (wr_at m7 HD2.out) (by omega) (by omega)
      rw [show ((kq + 3 : Nat) : Int) = (kq : Int) + 1 + 1 + 1 by omega] at T4
      go_wp2_with fail
      refine T4.mono ?_
      rintro e w4 ⟨rfl, mj4, hv4⟩
      have m8 := m7.mk1 mj4 hBg2
      have H4 : Hid (∀ q : Addr, q.block ≠ g2 → w4.cell? q = (((w3.setCell ⟨b, j * 8 + 4, none⟩ (.int .i64 (kq : Int))).setCell ⟨b, j * 8 + 5, none⟩ (.int .i64 ((kq : Int) + 1))).setCell ⟨b, j * 8 + 6, none⟩ (.int .i64 ((kq : Int) + 1 + 1))).cell? q) := fun q hq => mj4.one q hq
      have HV4 : Hid (∀ i, i < bn → w4.cell? ⟨g2, i, none⟩ = some (.int .u8 (((kq + 3 + i) % 256 : Nat) : Int))) := hv4
      clear T4 s4 s5 s6 f4 f5 f6 m6 m7 mj4 hv4 hd7 k7
      have HFR : Hid (∀ g f, g < w.heap.size → g ≠ g1 → g ≠ g2 → (g = b → f < j * 8 ∨ f = j * 8 + 3 ∨ f = j * 8 + 7 ∨ (j + 1) * 8 ≤ f) → w4.cell? ⟨g, f, none⟩ = wr.cell? ⟨g, f, none⟩) := fun g f h1 h2 h3 h4 => by
        rw [H4.out ⟨g, f, none⟩ h3, World.cell?_setCell_other _ _ _ _ (fun e => by injection e; omega), World.cell?_setCell_other _ _ _ _ (fun e => by injection e; omega), World.cell?_setCell_other _ _ _ _ (fun e => by injection e; omega), H3.out ⟨g, f, none⟩ h2, World.cell?_setCell_other _ _ _ _ (fun e => by injection e; omega), H2.out ⟨g, f, none⟩ h1, World.cell?_setCell_other _ _ _ _ (fun e => by injection e; omega), H1.out ⟨g, f, none⟩ h1, World.cell?_setCell_other _ _ _ _ (fun e => by injection e; omega)]
      have HNEW : Hid (HdJ w4 b (nthO l j) k j ((ua, un, uc), (ba, bn, bc'))) := by
        have e4 : ∀ f, w4.cell? ⟨b, f, none⟩ = _ := fun f => H4.out ⟨b, f, none⟩ (fun e => q2 e.symm)
        have e3 : ∀ f, w3.cell? ⟨b, f, none⟩ = _ := fun f => H3.out ⟨b, f, none⟩ (fun e => q1 e.symm)
        refine ⟨?_, ?_, ?_, ?_, ?_, ?_, ?_, ?_, ?_, ?_, HIN.out.op.1.1.symm, HIN.out.op.2.1.symm⟩
        · rw [e4, World.cell?_setCell_other _ _ _ _ (fun e => by injection e; omega), World.cell?_setCell_other _ _ _ _ (fun e => by injection e; omega), World.cell?_setCell_other _ _ _ _ (fun e => by injection e; omega), e3, World.cell?_setCell_other _ _ _ _ (fun e => by injection e; omega), H2.out ⟨b, j * 8, none⟩ hblt, World.cell?_setCell_other _ _ _ _ (fun e => by injection e; omega), H1.out ⟨b, j * 8, none⟩ hblt]; exact HS0.out
        · rw [e4, World.cell?_setCell_other _ _ _ _ (fun e => by injection e; omega), World.cell?_setCell_other _ _ _ _ (fun e => by injection e; omega), World.cell?_setCell_other _ _ _ _ (fun e => by injection e; omega), e3, World.cell?_setCell_other _ _ _ _ (fun e => by injection e; omega), H2.out ⟨b, j * 8 + 1, none⟩ hblt]; exact HS1.out
        · rw [e4, World.cell?_setCell_other _ _ _ _ (fun e => by injection e; omega), World.cell?_setCell_other _ _ _ _ (fun e => by injection e; omega), World.cell?_setCell_other _ _ _ _ (fun e => by injection e; omega), e3]; exact HS2.out
        · exact (HFR.out b (j * 8 + 3) hblt (fun e => q1 e.symm) (fun e => q2 e.symm) (fun _ => by omega)).trans HK3.out
        · show _ = some (Value.int .i64 ((k + 3 + un : Nat) : Int)); rw [hkq, e4]; exact HS4.out.1
        · show _ = some (Value.int .i64 (((k + 3 + un : Nat) : Int) + 1)); rw [hkq, e4]; exact HS4.out.2.1
        · show _ = some (Value.int .i64 (((k + 3 + un : Nat) : Int) + 1 + 1)); rw [hkq, e4]; exact HS4.out.2.2
        · exact (HFR.out b (j * 8 + 7) hblt (fun e => q1 e.symm) (fun e => q2 e.symm) (fun _ => by omega)).trans HK7.out
        · show RdI w4 ua (marksI un (k + 3))
          rcases Nat.eq_zero_or_pos un with h | h
          · left; rw [h]; rfl
          · have hc : ∀ i, i < un → w4.cell? ⟨g1, i, none⟩ = some (.int .i64 ((k + 3 + i : Nat) : Int)) := fun i hi => by
              rw [H4.out ⟨g1, i, none⟩ (hg12.resolve_left (by omega)), World.cell?_setCell_other _ _ _ _ (fun e => by injection e; omega), World.cell?_setCell_other _ _ _ _ (fun e => by injection e; omega), World.cell?_setCell_other _ _ _ _ (fun e => by injection e; omega)]; exact HV3.out i hi
            refine .inr ⟨g1, 0, HG1.out.resolve_left (by omega), World.block_lt_of_cell? w4 ⟨g1, 0, none⟩ (hc 0 h), fun i hi => ?_⟩
            rw [marksI_len] at hi
            rw [Nat.zero_add, marksI_nth hi]
            exact hc i hi
        · show Rd w4 ba (marks bn (k + 3 + un + 3))
          rw [hkq]
          rcases Nat.eq_zero_or_pos bn with h | h
          · left; rw [h]; rfl
          · refine .inr ⟨g2, 0, HG2.out.resolve_left (by omega), World.block_lt_of_cell? w4 ⟨g2, 0, none⟩ (HV4.out 0 h), fun i hi => ?_⟩
            rw [marks_len] at hi
            rw [Nat.zero_add, marks_nth hi]
            exact HV4.out i hi
      have HALL2 : Hid (∀ i, i < j + 1 → ∃ p, HdJ w4 b (nthO l i) (kJ (l.take i)) i p ∧ OpIn w (some b) (A i) (M i) p (nthO l i)) := fun i hi => by
        rcases Nat.lt_or_ge i j with h' | h'
        · obtain ⟨p', hh, hin'⟩ := HAL.out i h'
          have hmm := HM.out i j h' hjn
          have hw4 : w.heap.size ≤ w4.heap.size := m8.1.size
          have hhl := hin'.hi_le
          refine ⟨p', hh.keep (fun f h1 h2 => HFR.out b f hblt (fun e => q1 e.symm) (fun e => q2 e.symm) (fun _ => by omega)) (by omega) hin'.in1 hin'.in2 (fun g f h1 h2 => HFR.out g f (by omega) (by rcases HP1.out with h | h <;> omega) (by rcases HP2.out with h | h <;> omega) (fun e => ?_)), hin'⟩
          have := hin'.off b rfl
          omega
        · obtain rfl : i = j := by omega
          rw [HKK.out]
          exact ⟨_, HNEW.out, HIN.out⟩
      have HCE2 : Hid (∀ g f, g < w.heap.size → (∀ i, i < j + 1 → g < A i ∨ M i ≤ g) → (g = b → (j + 1) * 8 ≤ f) → w4.cell? ⟨g, f, none⟩ = w.cell? ⟨g, f, none⟩) := fun g f h1 h2 h3 => by
        have hj2 := h2 j (Nat.lt_succ_self _)
        exact (HFR.out g f h1 (by rcases HP1.out with h | h <;> omega) (by rcases HP2.out with h | h <;> omega) (fun e => by have := h3 e; omega)).trans (HCE.out g f h1 (fun i hi => h2 i (by omega)) (fun e => by have := h3 e; omega))
      obtain ⟨kr, hkr⟩ : ∃ kr, kq + 3 + bn = kr := ⟨_, rfl⟩
      have HKR : Hid (kJ (l.take (j + 1)) = kr) := by show _ = _; rw [HSN.out]; omega
      rw [hkr]
      clear H1 H2 H3 H4 HFR HNEW HAL HCE HS0 HS1 HS2 HS4 HV3 HV4 HIN HD1 HD2 HG1 HG2 HSM HWC hkr hkq
      go_wp2
      go_roundw
      case rel => exact ⟨j + 1, by omega, by go_num, by rw [HKR.out], m8, HALL2.out, HCE2.out⟩
      case measure => simp [intOf]; omega
    · have hji : ¬ (j : Int) < (n : Int) := by omega
      have HE : Hid (MkE B hi n a l w (.returned (.int .i64 (kJ (l.take j) : Int))) wr) := by
        refine ⟨by rw [List.take_of_length_le (by rw [HL.out]; omega)], hmk, fun g f h1 h2 => hce g f h2 (fun i hi => .inr (Nat.le_trans (HHI.out.2 i (by omega)) h1)) (fun e => by rcases HHI.out.1 with h | h <;> omega), b, ha, hbw.imp id (fun h => Nat.lt_of_lt_of_le h hmk.1.size), fun i hi => ?_⟩
        obtain ⟨p, h, -⟩ := hall i (by omega)
        exact ⟨p, h⟩
      clear hce hall hmk
      go_wp2
      go_ret
      exact HE.out
end Go.Proofs.YthiieeblpefcpaaDoor
