/- The fault of a store: the model; a mailbox by its name, on both sides; no conditions beyond those that each fact names. -/
import Derived.Test.YtilepbbcinbmhaaDoorStd
namespace Go.Proofs.YtilepbbcinbmhaaDoor
open Go.RowKit

theorem fldSh (x y : Value) (w : World) : (Instr.field 67 (.agg #[x, y]) 1).run Tryd.prog w = .ok y w := by
  simp [Instr.field, asAgg, go_sem]
/-- The mailbox of a name. -/
def nmX (l : List Bx) (nm : ByteArray) (k : Nat) : Bool := decide ((nthX l k).n = nm)
/-- What BoxOf answers. -/
def boV (v : Int) (l : List Bx) (nm : ByteArray) : Int × Int := if stV v l = 0 then (if ixG l.length (nmX l nm) < 0 then (4, 0) else (0, ixG l.length (nmX l nm))) else (stV v l, 0)

set_option maxHeartbeats 800000 in
set_option maxRecDepth 100000 in
theorem isNamed_any (U : Nat) (nm : ByteArray) (m : Bx) (q : SlQ) (w : World) (hU : w.cell? ⟨U, 0, none⟩ = some (.string nm)) :
    Calls Tryd.prog 61 #[bxX m q, .pointer (some ⟨U, 0, none⟩)] w fun e w' => e = .returned (.bool (decide (m.n = nm))) ∧ Below w.heap.size w w' := by
  have hb0 : Below w.heap.size w (w.alloc (.cells #[.string m.n, .int .i64 m.v, .int .i64 m.x, slW q] 39)) := (Below.refl _ _).alloc (Nat.le_refl _) _
  have hU' := (hb0.cell (World.block_lt_of_cell? w _ hU)).trans hU
  obtain ⟨mn, mv, mx, mm⟩ := m
  dsimp only at *
  by_cases h : mn = nm
  · have HM : Hid (decide (mn = nm) = true) := decide_eq_true h
    generalize decide (mn = nm) = r at *
    subst h
    go_enter Tryd.func61, Tryd.ntmps61
    go_wp2
    go_ret
    rw [HM.out]
    exact ⟨rfl, hb0⟩
  · have HM : Hid (decide (mn = nm) = false) := decide_eq_false h
    have hl' : (mn.toList == nm.toList) = false := by simpa using toList_ne h
    generalize decide (mn = nm) = r at *
    go_enter Tryd.func61, Tryd.ntmps61
    go_wp2
    go_ret
    rw [HM.out]
    exact ⟨rfl, hb0⟩

set_option maxHeartbeats 800000 in
set_option maxRecDepth 100000 in
theorem placeOf_any (s : SlQ) (l : List Bx) (nm : ByteArray) {lo : Nat} (w : World) (hs : IsXs lo w s l) :
    Calls Tryd.prog 34 #[slW s, .string nm] w fun e w' => e = .returned (.int .i64 (ixG l.length (nmX l nm))) ∧ Below w.heap.size w w' := by
  have hb0 : Below w.heap.size w (w.alloc (.cells #[.string nm] 9)) := (Below.refl _ _).alloc (Nat.le_refl _) _
  have hU : (w.alloc (.cells #[.string nm] 9)).cell? ⟨w.heap.size, 0, none⟩ = some (.string nm) := by simp
  have hUl : w.heap.size < (w.alloc (.cells #[.string nm] 9)).heap.size := by simp
  have HC := indexBox_any 61 (.pointer (some ⟨w.heap.size, 0, none⟩)) s l (nmX l nm) _ (hs.below hb0) (fun _ _ => by kernel_rfl) (fun k _ q w' hb' => isNamed_any w.heap.size nm (nthX l k) q w' ((hb'.cell (p := ⟨w.heap.size, 0, none⟩) hUl).trans hU))
  generalize ixG l.length (nmX l nm) = r at *
  go_enter Tryd.func34, Tryd.ntmps34
  go_wp2_with fail
  refine HC.mono ?_
  rintro e w1 ⟨rfl, hb1⟩
  have hbw := hb0.trans (hb1.mono hb0.size)
  clear HC hb0 hb1
  go_wp2
  go_ret
  exact ⟨rfl, hbw⟩

set_option maxHeartbeats 1600000 in
set_option maxRecDepth 100000 in
theorem l7At_any (v : Int) (l : List Bx) (s : SlQ) (nm : ByteArray) (g0 : Nat) {lo : Nat} (w : World) (hs : IsXs lo w s l) (hD : Dc w g0 (.int .i64 v, slW s)) :
    Calls Tryd.prog 36 #[.pointer (some ⟨g0, 0, none⟩), .string nm] w fun e w' => e = .returned (.int .i64 (ixG l.length (nmX l nm))) ∧ Below w.heap.size w w' := by
  obtain ⟨a, n, cap⟩ := s
  obtain ⟨hl, hnc, hcm, hr⟩ := hs
  dsimp only [slW] at *
  unfold maxLen at hcm
  rw [hl]
  go_enter Tryd.func36, Tryd.ntmps36
  go_wp2
  go_loopw [5] (fun i wr => ∃ k : Nat, k ≤ n ∧ i = .int .i64 k ∧ (∀ j, j < k → nmX l nm j = false) ∧ Below w.heap.size w wr) (fun i _ => n - (intOf i).toNat)
  case atStart => exact ⟨0, Nat.zero_le _, rfl, fun j hj => absurd hj (Nat.not_lt_zero _), Below.refl _ _⟩
  case round =>
    obtain ⟨k, hk, rfl, hall, hbel⟩ := hrel
    obtain ⟨d0, d1⟩ := hD.below hbel hD.lt
    dsimp only at d0 d1
    by_cases hkn : k < n
    · have hki : (k : Int) < (n : Int) := by omega
      obtain ⟨g, off, rfl, -, hglt, hcell⟩ := (hr.below hbel).at_ (by omega)
      obtain ⟨q, ⟨c0, -, -, -⟩, -⟩ := hcell k (by omega)
      have HY : Hid ((nthX l k).n = nm → ixG n (nmX l nm) = (k : Int)) := fun h => ixG_at hkn (decide_eq_true h) hall
      have HN : Hid ((nthX l k).n ≠ nm → ∀ j, j < k + 1 → nmX l nm j = false) := fun h j hj => by
        rcases Nat.lt_or_ge j k with h' | h'
        · exact hall j h'
        · obtain rfl : j = k := by omega
          exact decide_eq_false h
      clear hall hcell
      generalize (nthX l k).n = yn at *
      by_cases h : yn = nm
      · have HM : Hid (ixG n (nmX l nm) = (k : Int)) := HY.out h
        clear HY HN
        subst h
        go_wp2
        go_ret
        rw [HM.out]
        exact ⟨rfl, hbel⟩
      · have HM : Hid (_) := HN.out h
        have h' : (yn.toList == nm.toList) = false := by simpa using toList_ne h
        clear HY HN
        go_wp2
        go_roundw
        case rel => exact ⟨k + 1, by omega, by go_num, HM.out, hbel⟩
        case measure => simp [intOf]; omega
    · have hki : ¬ (k : Int) < (n : Int) := by omega
      have HM : Hid (ixG n (nmX l nm) = -1) := ixG_no (fun i hi => hall i (by omega))
      clear hall
      go_wp2
      go_ret
      rw [HM.out]
      exact ⟨rfl, hbel⟩

set_option maxHeartbeats 1600000 in
set_option maxRecDepth 100000 in
theorem boxOf_any (v : Int) (s : SlQ) (l : List Bx) (nm : ByteArray) {lo : Nat} (w : World) (hs : IsXs lo w s l) (hf : FtXs l) :
    Calls Tryd.prog 11 #[.agg #[.int .i64 v, slW s], .string nm] w fun e w' => e = .returned (.agg #[.int .i64 (boV v l nm).1, .int .i64 (boV v l nm).2]) ∧ Below w.heap.size w w' := by
  obtain ⟨W, hW⟩ : ∃ W, (w.alloc (.cells #[.int .i64 v, slW s] 33)).alloc (.cells #[.int .i64 0, .int .i64 0] 26) = W := ⟨_, rfl⟩
  have hbA : Below w.heap.size w (w.alloc (.cells #[.int .i64 v, slW s] 33)) := (Below.refl _ _).alloc (Nat.le_refl _) _
  have hbC : Below (w.heap.size + 1) (w.alloc (.cells #[.int .i64 v, slW s] 33)) W := by rw [← hW]; exact (Below.refl _ _).alloc (by simp) _
  have hbW : Below w.heap.size w W := hbA.trans (hbC.mono (by omega))
  have hQ := (Dc.new w (.int .i64 v) (slW s) 33).below hbC (by omega)
  have hsz : W.heap.size = w.heap.size + 1 + 1 := by rw [← hW]; simp
  have hR := fun (wr : World) (hb : Below (w.heap.size + 1 + 1) W wr) => res_block (w := (w.alloc (.cells #[.int .i64 v, slW s] 33))) hW (by simpa using hb)
  simp only [World.size_alloc] at hR
  have HRB : Hid (_) := hR
  clear hR
  have hsW := hs.below hbW
  have HV0 : Hid (stV v l ≠ 0 → boV v l nm = (stV v l, 0)) := fun h => if_neg h
  have HVN : Hid (stV v l = 0 → ixG l.length (nmX l nm) < 0 → boV v l nm = (4, 0)) := fun h h' => (if_pos h).trans (if_pos h')
  have HVY : Hid (stV v l = 0 → 0 ≤ ixG l.length (nmX l nm) → boV v l nm = (0, ixG l.length (nmX l nm))) := fun h h' => (if_pos h).trans (if_neg (by omega))
  have HCB := storeFault_any v s l W hsW hf
  have HCI : Hid (∀ w1, Below W.heap.size W w1 → Calls Tryd.prog _ #[slW s, .string nm] w1 _) := fun w1 hb => placeOf_any s l nm w1 (hsW.below hb)
  generalize boV v l nm = r at *
  generalize ixG l.length (nmX l nm) = ix at *
  generalize stV v l = c at *
  obtain ⟨c0, c1⟩ := id hQ
  dsimp only at c0 c1
  go_enter Tryd.func11, Tryd.ntmps11
  go_wp2_with fail
  refine HCB.mono ?_
  rintro e w1 ⟨rfl, hb1⟩
  have hbw := hbW.trans (hb1.mono hbW.size)
  obtain ⟨a0, a1, z0, z1⟩ := HRB.out w1 (by rw [← hsz]; exact hb1)
  have hQ1 := hQ.below hb1 (by omega)
  clear HCB c0 c1
  obtain ⟨c0, c1⟩ := hQ1
  dsimp only at c0 c1
  by_cases hc : c = 0
  · subst hc
    go_wp2_with fail
    refine (shelfOf_any v s w1).mono ?_
    rintro e w1' ⟨rfl, hb1'⟩
    have hb1 := hb1.trans (hb1'.mono hb1.size)
    have hFld := fldSh (.int .i64 v) (slW s) w1'
    go_wp2_with fail
    refine (HCI.out w1' hb1).mono ?_
    rintro e w2 ⟨rfl, hb2⟩
    have hb12 := hb1.trans (hb2.mono hb1.size)
    have hbw2 := hbW.trans (hb12.mono hbW.size)
    clear a0 a1 z0 z1
    obtain ⟨a0, a1, z0, z1⟩ := HRB.out w2 (by rw [← hsz]; exact hb12)
    clear HCI
    by_cases hi : ix < 0
    · have HM : Hid (r = (4, 0)) := HVN.out (by trivial) hi
      obtain ⟨k0, k1⟩ := res_cells a0 a1 (.int .i64 4) (.int .i64 0)
      have HE : Hid (_) := int_end (R := w.heap.size + 1) (by omega) hbw2 (.int .i64 4) (.int .i64 0)
      clear HV0 HVN HVY
      go_wp2
      refine bodyPost_ret (v := .agg #[.int .i64 4, .int .i64 0]) (by simp [results, Tryd.results11, go_sem, k0, k1]) rfl ?_
      rw [HM.out]
      exact ⟨rfl, HE.out⟩
    · have HM : Hid (r = (0, ix)) := HVY.out (by trivial) (by omega)
      obtain ⟨k0, k1⟩ := res_cells a0 a1 (.int .i64 0) (.int .i64 ix)
      have HE : Hid (_) := int_end (R := w.heap.size + 1) (by omega) hbw2 (.int .i64 0) (.int .i64 ix)
      clear HV0 HVN HVY
      go_wp2
      refine bodyPost_ret (v := .agg #[.int .i64 0, .int .i64 ix]) (by simp [results, Tryd.results11, go_sem, k0, k1]) rfl ?_
      rw [HM.out]
      exact ⟨rfl, HE.out⟩
  · have HM : Hid (r = (c, 0)) := HV0.out hc
    obtain ⟨k0, k1⟩ := res_cells a0 a1 (.int .i64 c) (.int .i64 0)
    have HE : Hid (_) := int_end (R := w.heap.size + 1) (by omega) hbw (.int .i64 c) (.int .i64 0)
    clear HV0 HVN HVY HCI
    go_wp2
    refine bodyPost_ret (v := .agg #[.int .i64 c, .int .i64 0]) (by simp [results, Tryd.results11, go_sem, k0, k1]) rfl ?_
    rw [HM.out]
    exact ⟨rfl, HE.out⟩

set_option maxHeartbeats 1600000 in
set_option maxRecDepth 100000 in
theorem specBoxOf_any (v : Int) (s : SlQ) (l : List Bx) (nm : ByteArray) {lo : Nat} (w : World) (hs : IsXs lo w s l) (hf : FtXs l) :
    Calls Tryd.prog 12 #[.agg #[.int .i64 v, slW s], .string nm] w fun e w' => e = .returned (.agg #[.int .i64 (boV v l nm).1, .int .i64 (boV v l nm).2]) ∧ Below w.heap.size w w' := by
  obtain ⟨W, hW⟩ : ∃ W, (w.alloc (.cells #[.int .i64 v, slW s] 33)).alloc (.cells #[.int .i64 0, .int .i64 0] 26) = W := ⟨_, rfl⟩
  have hbA : Below w.heap.size w (w.alloc (.cells #[.int .i64 v, slW s] 33)) := (Below.refl _ _).alloc (Nat.le_refl _) _
  have hbC : Below (w.heap.size + 1) (w.alloc (.cells #[.int .i64 v, slW s] 33)) W := by rw [← hW]; exact (Below.refl _ _).alloc (by simp) _
  have hbW : Below w.heap.size w W := hbA.trans (hbC.mono (by omega))
  have hQ := (Dc.new w (.int .i64 v) (slW s) 33).below hbC (by omega)
  have hsz : W.heap.size = w.heap.size + 1 + 1 := by rw [← hW]; simp
  have hR := fun (wr : World) (hb : Below (w.heap.size + 1 + 1) W wr) => res_block (w := (w.alloc (.cells #[.int .i64 v, slW s] 33))) hW (by simpa using hb)
  simp only [World.size_alloc] at hR
  have HRB : Hid (_) := hR
  clear hR
  have hsW := hs.below hbW
  have HV0 : Hid (stV v l ≠ 0 → boV v l nm = (stV v l, 0)) := fun h => if_neg h
  have HVN : Hid (stV v l = 0 → ixG l.length (nmX l nm) < 0 → boV v l nm = (4, 0)) := fun h h' => (if_pos h).trans (if_pos h')
  have HVY : Hid (stV v l = 0 → 0 ≤ ixG l.length (nmX l nm) → boV v l nm = (0, ixG l.length (nmX l nm))) := fun h h' => (if_pos h).trans (if_neg (by omega))
  have HCB := l7Fault_any v s l w.heap.size W hsW hf hQ
  have HCI : Hid (∀ w1, Below W.heap.size W w1 → Calls Tryd.prog _ #[.pointer (some ⟨w.heap.size, 0, none⟩), .string nm] w1 _) := fun w1 hb => l7At_any v l s nm w.heap.size w1 (hsW.below hb) (hQ.below hb (by omega))
  generalize boV v l nm = r at *
  generalize ixG l.length (nmX l nm) = ix at *
  generalize stV v l = c at *
  obtain ⟨c0, c1⟩ := id hQ
  dsimp only at c0 c1
  go_enter Tryd.func12, Tryd.ntmps12
  go_wp2_with fail
  refine HCB.mono ?_
  rintro e w1 ⟨rfl, hb1⟩
  have hbw := hbW.trans (hb1.mono hbW.size)
  obtain ⟨a0, a1, z0, z1⟩ := HRB.out w1 (by rw [← hsz]; exact hb1)
  have hQ1 := hQ.below hb1 (by omega)
  clear HCB c0 c1
  obtain ⟨c0, c1⟩ := hQ1
  dsimp only at c0 c1
  by_cases hc : c = 0
  · subst hc
    go_wp2_with fail
    refine (HCI.out w1 hb1).mono ?_
    rintro e w2 ⟨rfl, hb2⟩
    have hb12 := hb1.trans (hb2.mono hb1.size)
    have hbw2 := hbW.trans (hb12.mono hbW.size)
    clear a0 a1 z0 z1
    obtain ⟨a0, a1, z0, z1⟩ := HRB.out w2 (by rw [← hsz]; exact hb12)
    clear HCI
    by_cases hi : ix < 0
    · have HM : Hid (r = (4, 0)) := HVN.out (by trivial) hi
      obtain ⟨k0, k1⟩ := res_cells a0 a1 (.int .i64 4) (.int .i64 0)
      have HE : Hid (_) := int_end (R := w.heap.size + 1) (by omega) hbw2 (.int .i64 4) (.int .i64 0)
      clear HV0 HVN HVY
      go_wp2
      refine bodyPost_ret (v := .agg #[.int .i64 4, .int .i64 0]) (by simp [results, Tryd.results12, go_sem, k0, k1]) rfl ?_
      rw [HM.out]
      exact ⟨rfl, HE.out⟩
    · have HM : Hid (r = (0, ix)) := HVY.out (by trivial) (by omega)
      obtain ⟨k0, k1⟩ := res_cells a0 a1 (.int .i64 0) (.int .i64 ix)
      have HE : Hid (_) := int_end (R := w.heap.size + 1) (by omega) hbw2 (.int .i64 0) (.int .i64 ix)
      clear HV0 HVN HVY
      go_wp2
      refine bodyPost_ret (v := .agg #[.int .i64 0, .int .i64 ix]) (by simp [results, Tryd.results12, go_sem, k0, k1]) rfl ?_
      rw [HM.out]
      exact ⟨rfl, HE.out⟩
  · have HM : Hid (r = (c, 0)) := HV0.out hc
    obtain ⟨k0, k1⟩ := res_cells a0 a1 (.int .i64 c) (.int .i64 0)
    have HE : Hid (_) := int_end (R := w.heap.size + 1) (by omega) hbw (.int .i64 c) (.int .i64 0)
    clear HV0 HVN HVY HCI
    go_wp2
    refine bodyPost_ret (v := .agg #[.int .i64 c, .int .i64 0]) (by simp [results, Tryd.results12, go_sem, k0, k1]) rfl ?_
    rw [HM.out]
    exact ⟨rfl, HE.out⟩

end Go.Proofs.YtilepbbcinbmhaaDoor
