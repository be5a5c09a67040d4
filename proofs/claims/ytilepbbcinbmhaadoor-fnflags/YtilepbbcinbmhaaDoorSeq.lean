/- SequenceOf, on both sides; no conditions beyond those that each fact names. -/
import Derived.Test.YtilepbbcinbmhaaDoorBxhToIxf
namespace Go.Proofs.YtilepbbcinbmhaaDoor
open Go.RowKit

/-- The message of a Uid. -/
def uidB (l : List Msg) (u : Int) (k : Nat) : Bool := decide ((nthM l k).u = u)
/-- What SequenceOf answers. -/
def sqV (b : Bx) (u : Int) : Int × Int := if bfV b = 0 then (if ixG b.m.length (uidB b.m u) < 0 then (4, 0) else (0, ixG b.m.length (uidB b.m u) + 1)) else (bfV b, 0)

theorem isUid_any (U : Nat) (u : Int) (m : Msg) (q : SlQ) (w : World) (hU : w.cell? ⟨U, 0, none⟩ = some (.int .i64 u)) :
    Calls Tryd.prog 39 #[msX m q, .pointer (some ⟨U, 0, none⟩)] w fun e w' => e = .returned (.bool (decide (m.u = u))) ∧ Below w.heap.size w w' := by
  have hb0 : Below w.heap.size w (w.alloc (.cells #[.int .i64 m.u, .int .i64 m.f, .int .i64 m.d, slW q] 44)) := (Below.refl _ _).alloc (Nat.le_refl _) _
  have hU' := (hb0.cell (World.block_lt_of_cell? w _ hU)).trans hU
  obtain ⟨mu, mf, md, mb⟩ := m
  dsimp only at *
  by_cases h : mu = u
  · have HM : Hid (decide (mu = u) = true) := decide_eq_true h
    generalize decide (mu = u) = r at *
    subst h
    go_enter Tryd.func39, Tryd.ntmps39
    go_wp2
    go_ret
    rw [HM.out]
    exact ⟨rfl, hb0⟩
  · have HM : Hid (decide (mu = u) = false) := decide_eq_false h
    have h' : (mu == u) = false := by simpa using h
    generalize decide (mu = u) = r at *
    go_enter Tryd.func39, Tryd.ntmps39
    go_wp2
    go_ret
    rw [HM.out]
    exact ⟨rfl, hb0⟩

set_option maxHeartbeats 1600000 in
set_option maxRecDepth 100000 in
theorem l7Uid_any (l : List Msg) (s : SlQ) (u : Int) (g0 o : Nat) {lo : Nat} (w : World) (hs : IsMs lo w s l) (c3 : w.cell? ⟨g0, o + 3, none⟩ = some (slW s)) :
    Calls Tryd.prog 41 #[.pointer (some ⟨g0, o, none⟩), .int .i64 u] w fun e w' => e = .returned (.int .i64 (ixG l.length (uidB l u))) ∧ Below w.heap.size w w' := by
  obtain ⟨a, n, cap⟩ := s
  obtain ⟨hl, hnc, hcm, hr⟩ := hs
  dsimp only [slW] at *
  unfold maxLen at hcm
  rw [hl]
  have hg0 := World.block_lt_of_cell? w _ c3
  go_enter Tryd.func41, Tryd.ntmps41
  go_wp2
  go_loopw [5] (fun i wr => ∃ k : Nat, k ≤ n ∧ i = .int .i64 k ∧ (∀ j, j < k → uidB l u j = false) ∧ Below w.heap.size w wr) (fun i _ => n - (intOf i).toNat)
  case atStart => exact ⟨0, Nat.zero_le _, rfl, fun j hj => absurd hj (Nat.not_lt_zero _), Below.refl _ _⟩
  case round =>
    obtain ⟨k, hk, rfl, hall, hbel⟩ := hrel
    have d3 := (hbel.cell hg0).trans c3
    by_cases hkn : k < n
    · have hki : (k : Int) < (n : Int) := by omega
      obtain ⟨g, off, rfl, -, hglt, hcell⟩ := (hr.below hbel).at_ (by omega)
      obtain ⟨q, ⟨c0, -, -, -⟩, -⟩ := hcell k (by omega)
      have HY : Hid ((nthM l k).u = u → ixG n (uidB l u) = (k : Int)) := fun h => ixG_at hkn (decide_eq_true h) hall
      have HN : Hid ((nthM l k).u ≠ u → ∀ j, j < k + 1 → uidB l u j = false) := fun h j hj => by
        rcases Nat.lt_or_ge j k with h' | h'
        · exact hall j h'
        · obtain rfl : j = k := by omega
          exact decide_eq_false h
      clear hall hcell
      generalize (nthM l k).u = yu at *
      by_cases h : yu = u
      · have HM : Hid (ixG n (uidB l u) = (k : Int)) := HY.out h
        clear HY HN
        subst h
        go_wp2
        go_ret
        rw [HM.out]
        exact ⟨rfl, hbel⟩
      · have HM : Hid (_) := HN.out h
        have h' : (yu == u) = false := by simpa using h
        clear HY HN
        go_wp2
        go_roundw
        case rel => exact ⟨k + 1, by omega, by go_num, HM.out, hbel⟩
        case measure => simp [intOf]; omega
    · have hki : ¬ (k : Int) < (n : Int) := by omega
      have HM : Hid (ixG n (uidB l u) = -1) := ixG_no (fun i hi => hall i (by omega))
      clear hall
      go_wp2
      go_ret
      rw [HM.out]
      exact ⟨rfl, hbel⟩

/-- What a result of two numbers needs at its end. -/
theorem int_end {w w1 : World} {R : Nat} (hR : w.heap.size ≤ R) (hb : Below w.heap.size w w1) (c t : Value) : Below w.heap.size w ((w1.setCell ⟨R, 0, none⟩ c).setCell ⟨R, 1, none⟩ t) := (hb.setCell (by simpa using hR) _).setCell (by simpa using hR) _

/-- Two cells of a block. -/
def Dc (w : World) (g : Nat) (q : Value × Value) : Prop := w.cell? ⟨g, 0, none⟩ = some q.1 ∧ w.cell? ⟨g, 1, none⟩ = some q.2
theorem Dc.below {C : Nat} {w w' : World} {g : Nat} {q : Value × Value} (h : Dc w g q) (hb : Below C w w') (hg : g < C) : Dc w' g q :=
  ⟨(hb.cell (p := ⟨g, 0, none⟩) hg).trans h.1, (hb.cell (p := ⟨g, 1, none⟩) hg).trans h.2⟩
theorem Dc.new (w : World) (c0 c1 : Value) (t : TypeId) : Dc (w.alloc (.cells #[c0, c1] t)) w.heap.size (c0, c1) := ⟨by simp, by simp⟩
theorem Dc.lt {w : World} {g : Nat} {q : Value × Value} (h : Dc w g q) : g < w.heap.size := World.block_lt_of_cell? w ⟨g, 0, none⟩ h.1

set_option maxHeartbeats 1600000 in
set_option maxRecDepth 100000 in
theorem sequenceOf_any (m : Bx) (s : SlQ) (u : Int) {lo : Nat} (w : World) (hs : IsMs lo w s m.m) (hn : m.n.size ≤ 1048576) :
    Calls Tryd.prog 14 #[bxX m s, .int .i64 u] w fun e w' => e = .returned (.agg #[.int .i64 (sqV m u).1, .int .i64 (sqV m u).2]) ∧ Below w.heap.size w w' := by
  obtain ⟨W, hW⟩ : ∃ W, ((w.alloc (.cells #[.string m.n, .int .i64 m.v, .int .i64 m.x, slW s] 39)).alloc (.cells #[.int .i64 u] 2)).alloc (.cells #[.int .i64 0, .int .i64 0] 26) = W := ⟨_, rfl⟩
  have hbA : Below w.heap.size w (w.alloc (.cells #[.string m.n, .int .i64 m.v, .int .i64 m.x, slW s] 39)) := (Below.refl _ _).alloc (Nat.le_refl _) _
  have hbB : Below (w.heap.size + 1) (w.alloc (.cells #[.string m.n, .int .i64 m.v, .int .i64 m.x, slW s] 39)) ((w.alloc (.cells #[.string m.n, .int .i64 m.v, .int .i64 m.x, slW s] 39)).alloc (.cells #[.int .i64 u] 2)) := (Below.refl _ _).alloc (by simp) _
  have hbC : Below (w.heap.size + 1 + 1) ((w.alloc (.cells #[.string m.n, .int .i64 m.v, .int .i64 m.x, slW s] 39)).alloc (.cells #[.int .i64 u] 2)) W := by rw [← hW]; exact (Below.refl _ _).alloc (by simp) _
  have hbW : Below w.heap.size w W := hbA.trans ((hbB.trans (hbC.mono (by omega))).mono (by omega))
  have hQ := ((Qc.new w (.string m.n) (.int .i64 m.v) (.int .i64 m.x) (slW s) 39).below hbB (by omega)).below hbC (by omega)
  have hU : W.cell? ⟨w.heap.size + 1, 0, none⟩ = some (.int .i64 u) := by rw [hbC.cell (by simp)]; simp
  have hsz : W.heap.size = w.heap.size + 1 + 1 + 1 := by rw [← hW]; simp
  have hR := fun (wr : World) (hb : Below (w.heap.size + 1 + 1 + 1) W wr) => res_block (w := (w.alloc (.cells #[.string m.n, .int .i64 m.v, .int .i64 m.x, slW s] 39)).alloc (.cells #[.int .i64 u] 2)) hW (by simpa using hb)
  simp only [World.size_alloc] at hR
  have HRB : Hid (_) := hR
  clear hR
  have hsW := hs.below hbW
  have HV0 : Hid (bfV m ≠ 0 → sqV m u = (bfV m, 0)) := fun h => if_neg h
  have HVN : Hid (bfV m = 0 → ixG m.m.length (uidB m.m u) < 0 → sqV m u = (4, 0)) := fun h h' => (if_pos h).trans (if_pos h')
  have HVY : Hid (bfV m = 0 → ¬ ixG m.m.length (uidB m.m u) < 0 → sqV m u = (0, ixG m.m.length (uidB m.m u) + 1)) := fun h h' => (if_pos h).trans (if_neg h')
  have HIX : Hid (ixG m.m.length (uidB m.m u) ≤ 9223372036854775806) := by
    rcases ixG_cases m.m.length (uidB m.m u) with ⟨h, -⟩ | ⟨k, hk, h, -⟩
    · show _ ≤ _
      rw [h]; omega
    · show _ ≤ _
      have h1 := hs.1
      have h2 := hs.2.1
      have h3 := hs.2.2.1
      unfold maxLen at h3
      rw [h]; omega
  have HCB := boxFault_any m s W hsW hn
  have HCI : Hid (∀ w1, Below W.heap.size W w1 → Calls Tryd.prog _ #[slW s, .func (.func 39) #[] #[.pointer (some ⟨w.heap.size + 1, 0, none⟩)]] w1 _) := fun w1 hb => indexMsg_any 39 (.pointer (some ⟨w.heap.size + 1, 0, none⟩)) s m.m (uidB m.m u) w1 (hsW.below hb) (fun _ _ => by kernel_rfl) (fun k _ q w' hb' => isUid_any (w.heap.size + 1) u (nthM m.m k) q w' ((hb'.cell (p := ⟨w.heap.size + 1, 0, none⟩) (by have := hb.size; show _ + 1 < _; omega)).trans ((hb.cell (p := ⟨w.heap.size + 1, 0, none⟩) (by show _ + 1 < _; omega)).trans hU)))
  generalize sqV m u = r at *
  generalize ixG m.m.length (uidB m.m u) = ix at *
  generalize bfV m = c at *
  obtain ⟨nm, v, x, l⟩ := m
  dsimp only at *
  obtain ⟨c0, c1, c2, c3⟩ := id hQ
  dsimp only at c0 c1 c2 c3
  go_enter Tryd.func14, Tryd.ntmps14
  go_wp2_with fail
  refine HCB.mono ?_
  rintro e w1 ⟨rfl, hb1⟩
  have hbw := hbW.trans (hb1.mono hbW.size)
  obtain ⟨a0, a1, z0, z1⟩ := HRB.out w1 (by rw [← hsz]; exact hb1)
  have hQ1 := hQ.below hb1 (by omega)
  clear HCB c0 c1 c2 c3
  obtain ⟨c0, c1, c2, c3⟩ := hQ1
  dsimp only at c0 c1 c2 c3
  by_cases hc : c = 0
  · subst hc
    go_wp2_with fail
    refine (HCI.out w1 hb1).mono ?_
    rintro e w2 ⟨rfl, hb2⟩
    have hb12 := hb1.trans (hb2.mono hb1.size)
    have hbw2 := hbW.trans (hb12.mono hbW.size)
    clear a0 a1 z0 z1
    obtain ⟨a0, a1, z0, z1⟩ := HRB.out w2 (by rw [← hsz]; exact hb12)
    clear HCI
    by_cases hi : ix < 0
    · have HM : Hid (r = (4, 0)) := HVN.out (by trivial) hi
      obtain ⟨k0, k1⟩ := res_cells a0 a1 (.int .i64 4) (.int .i64 0)
      have HE : Hid (_) := int_end (R := w.heap.size + 1 + 1) (by omega) hbw2 (.int .i64 4) (.int .i64 0)
      clear HV0 HVN HVY
      go_wp2
      refine bodyPost_ret (v := .agg #[.int .i64 4, .int .i64 0]) (by simp [results, Tryd.results14, go_sem, k0, k1]) rfl ?_
      rw [HM.out]
      exact ⟨rfl, HE.out⟩
    · have HM : Hid (r = (0, ix + 1)) := HVY.out (by trivial) (by omega)
      have hle : ix ≤ 9223372036854775806 := HIX.out
      obtain ⟨k0, k1⟩ := res_cells a0 a1 (.int .i64 0) (.int .i64 (ix + 1))
      have HE : Hid (_) := int_end (R := w.heap.size + 1 + 1) (by omega) hbw2 (.int .i64 0) (.int .i64 (ix + 1))
      clear HV0 HVN HVY HIX
      go_wp2
      refine bodyPost_ret (v := .agg #[.int .i64 0, .int .i64 (ix + 1)]) (by simp [results, Tryd.results14, go_sem, k0, k1]) rfl ?_
      rw [HM.out]
      exact ⟨rfl, HE.out⟩
  · have HM : Hid (r = (c, 0)) := HV0.out hc
    obtain ⟨k0, k1⟩ := res_cells a0 a1 (.int .i64 c) (.int .i64 0)
    have HE : Hid (_) := int_end (R := w.heap.size + 1 + 1) (by omega) hbw (.int .i64 c) (.int .i64 0)
    clear HV0 HVN HVY HCI
    go_wp2
    refine bodyPost_ret (v := .agg #[.int .i64 c, .int .i64 0]) (by simp [results, Tryd.results14, go_sem, k0, k1]) rfl ?_
    rw [HM.out]
    exact ⟨rfl, HE.out⟩

set_option maxHeartbeats 1600000 in
set_option maxRecDepth 100000 in
theorem specSequenceOf_any (m : Bx) (s : SlQ) (u : Int) {lo : Nat} (w : World) (hs : IsMs lo w s m.m) (hn : m.n.size ≤ 1048576) :
    Calls Tryd.prog 15 #[bxX m s, .int .i64 u] w fun e w' => e = .returned (.agg #[.int .i64 (sqV m u).1, .int .i64 (sqV m u).2]) ∧ Below w.heap.size w w' := by
  obtain ⟨W, hW⟩ : ∃ W, ((w.alloc (.cells #[.string m.n, .int .i64 m.v, .int .i64 m.x, slW s] 39))).alloc (.cells #[.int .i64 0, .int .i64 0] 26) = W := ⟨_, rfl⟩
  have hbA : Below w.heap.size w (w.alloc (.cells #[.string m.n, .int .i64 m.v, .int .i64 m.x, slW s] 39)) := (Below.refl _ _).alloc (Nat.le_refl _) _
  have hbC : Below (w.heap.size + 1) (w.alloc (.cells #[.string m.n, .int .i64 m.v, .int .i64 m.x, slW s] 39)) W := by rw [← hW]; exact (Below.refl _ _).alloc (by simp) _
  have hbW : Below w.heap.size w W := hbA.trans (hbC.mono (by omega))
  have hQ := (Qc.new w (.string m.n) (.int .i64 m.v) (.int .i64 m.x) (slW s) 39).below hbC (by omega)
  have hsz : W.heap.size = w.heap.size + 1 + 1 := by rw [← hW]; simp
  have hR := fun (wr : World) (hb : Below (w.heap.size + 1 + 1) W wr) => res_block (w := (w.alloc (.cells #[.string m.n, .int .i64 m.v, .int .i64 m.x, slW s] 39))) hW (by simpa using hb)
  simp only [World.size_alloc] at hR
  have HRB : Hid (_) := hR
  clear hR
  have hsW := hs.below hbW
  have HV0 : Hid (bfV m ≠ 0 → sqV m u = (bfV m, 0)) := fun h => if_neg h
  have HVN : Hid (bfV m = 0 → ixG m.m.length (uidB m.m u) < 0 → sqV m u = (4, 0)) := fun h h' => (if_pos h).trans (if_pos h')
  have HVY : Hid (bfV m = 0 → ¬ ixG m.m.length (uidB m.m u) < 0 → sqV m u = (0, ixG m.m.length (uidB m.m u) + 1)) := fun h h' => (if_pos h).trans (if_neg h')
  have HIX : Hid (ixG m.m.length (uidB m.m u) ≤ 9223372036854775806) := by
    rcases ixG_cases m.m.length (uidB m.m u) with ⟨h, -⟩ | ⟨k, hk, h, -⟩
    · show _ ≤ _
      rw [h]; omega
    · show _ ≤ _
      have h1 := hs.1
      have h2 := hs.2.1
      have h3 := hs.2.2.1
      unfold maxLen at h3
      rw [h]; omega
  have HCB := l7Box_any m s w.heap.size 0 W hsW hn hQ.1 hQ.2.1 hQ.2.2.1 hQ.2.2.2
  have HCI : Hid (∀ w1, Below W.heap.size W w1 → Calls Tryd.prog _ #[.pointer (some ⟨w.heap.size, 0, none⟩), .int .i64 u] w1 _) := fun w1 hb => l7Uid_any m.m s u w.heap.size 0 w1 (hsW.below hb) ((hQ.below hb (by omega)).2.2.2)
  generalize sqV m u = r at *
  generalize ixG m.m.length (uidB m.m u) = ix at *
  generalize bfV m = c at *
  obtain ⟨nm, v, x, l⟩ := m
  dsimp only at *
  obtain ⟨c0, c1, c2, c3⟩ := id hQ
  dsimp only at c0 c1 c2 c3
  go_enter Tryd.func15, Tryd.ntmps15
  go_wp2_with fail
  refine HCB.mono ?_
  rintro e w1 ⟨rfl, hb1⟩
  have hbw := hbW.trans (hb1.mono hbW.size)
  obtain ⟨a0, a1, z0, z1⟩ := HRB.out w1 (by rw [← hsz]; exact hb1)
  have hQ1 := hQ.below hb1 (by omega)
  clear HCB c0 c1 c2 c3
  obtain ⟨c0, c1, c2, c3⟩ := hQ1
  dsimp only at c0 c1 c2 c3
  by_cases hc : c = 0
  · subst hc
    go_wp2_with fail
    refine (HCI.out w1 hb1).mono ?_
    rintro e w2 ⟨rfl, hb2⟩
    have hb12 := hb1.trans (hb2.mono hb1.size)
    have hbw2 := hbW.trans (hb12.mono hbW.size)
    clear a0 a1 z0 z1
    obtain ⟨a0, a1, z0, z1⟩ := HRB.out w2 (by rw [← hsz]; exact hb12)
    clear HCI
    by_cases hi : ix < 0
    · have HM : Hid (r = (4, 0)) := HVN.out (by trivial) hi
      obtain ⟨k0, k1⟩ := res_cells a0 a1 (.int .i64 4) (.int .i64 0)
      have HE : Hid (_) := int_end (R := w.heap.size + 1) (by omega) hbw2 (.int .i64 4) (.int .i64 0)
      clear HV0 HVN HVY
      go_wp2
      refine bodyPost_ret (v := .agg #[.int .i64 4, .int .i64 0]) (by simp [results, Tryd.results15, go_sem, k0, k1]) rfl ?_
      rw [HM.out]
      exact ⟨rfl, HE.out⟩
    · have HM : Hid (r = (0, ix + 1)) := HVY.out (by trivial) (by omega)
      have hle : ix ≤ 9223372036854775806 := HIX.out
      obtain ⟨k0, k1⟩ := res_cells a0 a1 (.int .i64 0) (.int .i64 (ix + 1))
      have HE : Hid (_) := int_end (R := w.heap.size + 1) (by omega) hbw2 (.int .i64 0) (.int .i64 (ix + 1))
      clear HV0 HVN HVY HIX
      go_wp2
      refine bodyPost_ret (v := .agg #[.int .i64 0, .int .i64 (ix + 1)]) (by simp [results, Tryd.results15, go_sem, k0, k1]) rfl ?_
      rw [HM.out]
      exact ⟨rfl, HE.out⟩
  · have HM : Hid (r = (c, 0)) := HV0.out hc
    obtain ⟨k0, k1⟩ := res_cells a0 a1 (.int .i64 c) (.int .i64 0)
    have HE : Hid (_) := int_end (R := w.heap.size + 1) (by omega) hbw (.int .i64 c) (.int .i64 0)
    clear HV0 HVN HVY HCI
    go_wp2
    refine bodyPost_ret (v := .agg #[.int .i64 c, .int .i64 0]) (by simp [results, Tryd.results15, go_sem, k0, k1]) rfl ?_
    rw [HM.out]
    exact ⟨rfl, HE.out⟩

end Go.Proofs.YtilepbbcinbmhaaDoor
