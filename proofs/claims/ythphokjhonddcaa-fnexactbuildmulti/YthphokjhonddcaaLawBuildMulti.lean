/- BuildMulti answers as the model at every text and every list of slices of bytes, writes into none of them, and its answer is new memory: the law returns true, whatever the input; no conditions. -/
import Derived.Test.YthphokjhonddcaaRows
import Derived.Test.YthphokjhonddcaaBmw
import Derived.WalkKit
import Derived.ProofKit
import Derived.OpenShut
import Derived.ShutString
import Derived.ChangeOld
import Derived.Below
namespace Go.Proofs.Ythphokjhonddcaa.fnExactBuildMulti
open Go.ChangeShapes Go.WideShapes Go.ChangeAt Go.RowKit
open Go.ChangeMaps (open_string shut_string)
set_option linter.unusedVariables false

theorem own : ownKnob Try.prog.godebug = none := by kernel_rfl
theorem laidOut : laidOutB Try.prog = true := by kernel_rfl

/-! ### THE WALK -/
set_option maxHeartbeats 1600000 in
set_option maxRecDepth 100000 in
theorem walk (s0 : ByteArray) (a1 : Option Addr) (len1 cap1 : Nat) (z1 : List SlP) (y1 : List (List Nat)) (w : World) (w0 : s0.size ≤ maxLen) (w1 : IsBs w a1 len1 cap1 z1 y1) :
    Calls Try.prog 3 #[.string s0, .slice a1 len1 cap1] w fun e w' => e = .returned (.bool true) ∧ Below w.heap.size w w' := by
  obtain ⟨mk, rfl, hBm⟩ := str_surj s0
  by_cases hlen : (1048576 : Int) < ((str mk).size : Int)
  · have hw0 := w0
    unfold maxLen at hw0
    go_enter Try.func3, Try.ntmps3
    go_wp2
    go_ret
    exact ⟨rfl, Below.refl _ _⟩
  have hm0 : mk.length ≤ 1048576 := by rw [← str_size]; omega
  have hw0 := w0
  unfold maxLen at hw0
  have hI := w1
  obtain ⟨hl, -, -, hr, hrs, -⟩ := w1
  have HSZ := szByteSS_bs a1 len1 cap1 z1 y1 w hI
  have HSP : Hid (∀ (a : Option Addr) (n cap : Nat) (l : List SlP) (w : World), l.length = n → RdL w a l → RdLs w l y1 → FitB y1 → n ≤ 1048576 → Calls Try.prog _ #[.string (str mk), .slice a n cap] w fun e w' => BmEnd (bmV mk y1) w e w') := fun a n cap l w h1 h2 h3 h4 h5 => specBuildMulti_any mk _ a n cap l y1 w rfl hBm hm0 h1 h2 h3 h4 h5
  have HIM : Hid (∀ (a : Option Addr) (n cap : Nat) (l : List SlP) (w : World), l.length = n → RdL w a l → RdLs w l y1 → FitB y1 → n ≤ 1048576 → Calls Try.prog _ #[.string (str mk), .slice a n cap] w fun e w' => BmEnd (bmV mk y1) w e w') := fun a n cap l w h1 h2 h3 h4 h5 => buildMulti_any mk _ a n cap l y1 w rfl hBm hm0 h1 h2 h3 h4 h5
  have HT400 : Hid ((bmV mk y1).2.length ≤ 1048576) := bmV_le mk y1
  generalize bmV mk y1 = rv at *
  obtain ⟨c, t⟩ := rv
  dsimp only at HT400
  generalize str mk = sm at *
  clear hI
  go_enter Try.func3, Try.ntmps3
  go_wp2_with fail
  refine HSZ.mono ?_
  rintro e w1 ⟨r, rfl, hcase, hb1⟩
  clear HSZ
  rcases hcase with rfl | ⟨r0, hn, hf, hsum⟩
  · go_wp2
    go_ret
    exact ⟨rfl, hb1⟩
  · have hneg : ¬ r < 0 := by omega
    have hT : t.length ≤ 1048576 := HT400.out
    have HF : Hid (FitB y1) := hf
    have HSUM : Hid (∀ k, k ≤ len1 → sumB y1 k ≤ 1048576) := hsum
    have HRA : Hid (∀ w', Below w.heap.size w w' → RdL w' a1 z1 ∧ RdLs w' z1 y1) := fun w' hb => ⟨hr.below hb, hrs.below hb⟩
    clear hf hsum hr hrs
    go_wp2_with fail
    refine (toByteSS_bs a1 len1 cap1 z1 y1 w1 hl (HRA.out w1 hb1).1 (HRA.out w1 hb1).2 HF.out hn).mono ?_
    rintro e w2 ⟨l2, rfl, hl2, hs2, hr2, hrs2, -, hb2⟩
    have hB2 : Below w.heap.size w w2 := hb1.trans (hb2.mono hb1.size)
    clear hb1 hb2
    go_wp2_with fail
    refine (HSP.out _ len1 len1 l2 w2 hl2 hr2 hrs2 HF.out hn).mono ?_
    rintro e w3 ⟨v3, rfl, hg3, hb3⟩
    have hB3 : Below w.heap.size w w3 := hB2.trans (hb3.mono hB2.size)
    clear hr2 hrs2 hl2 hs2 hb3 hB2 HSP
    obtain ⟨a3, cp3, rfl, hrd3, hlt3⟩ := hg3.form2
    dsimp only at hrd3 hlt3
    clear hg3
    have hb3' : Below w3.heap.size w3 (w3.alloc (.cells #[.int .i64 c, .slice a3 t.length cp3] 26)) := (Below.refl _ _).alloc (Nat.le_refl _) _
    have hY0 : (w3.alloc (.cells #[.int .i64 c, .slice a3 t.length cp3] 26)).cell? ⟨w3.heap.size, 0, none⟩ = some (.int .i64 c) := by simp
    have hY1 : (w3.alloc (.cells #[.int .i64 c, .slice a3 t.length cp3] 26)).cell? ⟨w3.heap.size, 1, none⟩ = some (.slice a3 t.length cp3) := by simp
    have hYs : (w3.alloc (.cells #[.int .i64 c, .slice a3 t.length cp3] 26)).heap.size = w3.heap.size + 1 := by simp
    have hrd3' := hrd3.below hb3'
    have hB3' : Below w.heap.size w _ := hB3.trans (hb3'.mono hB3.size)
    have hwz : w.heap.size ≤ w3.heap.size := hB3.size
    go_wp2_with fail
    generalize (w3.alloc (.cells #[.int .i64 c, .slice a3 t.length cp3] 26)) = W3 at *
    generalize w3.heap.size = g3 at *
    clear hb3' hrd3 hB3
    refine (toByteSS_bs a1 len1 cap1 z1 y1 W3 hl (HRA.out W3 hB3').1 (HRA.out W3 hB3').2 HF.out hn).mono ?_
    rintro e w4 ⟨l4, rfl, hl4, hs4, hr4, hrs4, hwr4, hb4⟩
    have hB4 : Below w.heap.size w w4 := hB3'.trans (hb4.mono hB3'.size)
    have HK4 : Hid (∀ w', Below w4.heap.size w4 w' → (w'.cell? ⟨g3, 0, none⟩ = some (.int .i64 c) ∧ w'.cell? ⟨g3, 1, none⟩ = some (.slice a3 t.length cp3)) ∧ Rd w' a3 t) := fun w' hb => by
      have hz : W3.heap.size ≤ w4.heap.size := hb4.size
      have hbb : Below W3.heap.size W3 w' := hb4.trans (hb.mono hz)
      exact ⟨⟨(hbb.cell (p := ⟨g3, 0, none⟩) (by show g3 < _; omega)).trans hY0, (hbb.cell (p := ⟨g3, 1, none⟩) (by show g3 < _; omega)).trans hY1⟩, hrd3'.below hbb⟩
    have HK4' : Hid (∀ w', Below W3.heap.size W3 w' → (w'.cell? ⟨g3, 0, none⟩ = some (.int .i64 c) ∧ w'.cell? ⟨g3, 1, none⟩ = some (.slice a3 t.length cp3)) ∧ Rd w' a3 t) := fun w' hbb => ⟨⟨(hbb.cell (p := ⟨g3, 0, none⟩) (by show g3 < _; omega)).trans hY0, (hbb.cell (p := ⟨g3, 1, none⟩) (by show g3 < _; omega)).trans hY1⟩, hrd3'.below hbb⟩
    have HB34 : Hid (Below W3.heap.size W3 w4) := hb4
    have HYS : Hid (W3.heap.size = g3 + 1) := hYs
    clear hYs hY0 hY1 hrd3' hB3' hb4
    go_wp2_with fail
    refine (HIM.out _ len1 len1 l4 w4 hl4 hr4 hrs4 HF.out hn).mono ?_
    rintro e w5 ⟨v5, rfl, hg5, hb5⟩
    have hB5 : Below w.heap.size w w5 := hB4.trans (hb5.mono hB4.size)
    have hr5 := hr4.below hb5
    have hrs5 := hrs4.below hb5
    have HWR5 : Hid (∀ i, i < len1 → WrS (W3.heap.size + 1) w4.heap.size w5 (nthL l4 i)) := fun i hi => (hwr4 i hi).below hb5
    have HB45 : Hid (Below w4.heap.size w4 w5) := hb5
    have hz45 : w4.heap.size ≤ w5.heap.size := hb5.size
    clear hr4 hrs4 hwr4 hb5 hB4
    obtain ⟨a5, cp5, rfl, hrd5, hlt5⟩ := hg5.form2
    dsimp only at hrd5 hlt5
    have HG5 : Hid (∃ g5, (t.length = 0 ∨ a5 = some ⟨g5, 0, none⟩) ∧ W3.heap.size ≤ g5 ∧ g5 < w5.heap.size ∧ (t.length = 0 ∨ w4.heap.size ≤ g5) ∧ ∀ i, i < t.length → (w5.cell? ⟨g5, i, none⟩).isSome = true ∧ w5.frozen? ⟨g5, i, none⟩ = false) := by
      rcases hg5 with ⟨e1, e2⟩ | ⟨g5, cp', e1, e2, -, -, -, e3, -, e4⟩
      · dsimp only at e2
        exact ⟨W3.heap.size, .inl (by rw [e2]; rfl), Nat.le_refl _, by omega, .inl (by rw [e2]; rfl), fun i hi => by rw [e2] at hi; exact absurd hi (Nat.not_lt_zero _)⟩
      · cases e1
        exact ⟨g5, .inr rfl, by omega, e3, .inr (by omega), fun i hi => e4 i (by have := hlt5; omega)⟩
    clear hg5
    have hb5' : Below w5.heap.size w5 (w5.alloc (.cells #[.int .i64 c, .slice a5 t.length cp5] 26)) := (Below.refl _ _).alloc (Nat.le_refl _) _
    have hX0 : (w5.alloc (.cells #[.int .i64 c, .slice a5 t.length cp5] 26)).cell? ⟨w5.heap.size, 0, none⟩ = some (.int .i64 c) := by simp
    have hX1 : (w5.alloc (.cells #[.int .i64 c, .slice a5 t.length cp5] 26)).cell? ⟨w5.heap.size, 1, none⟩ = some (.slice a5 t.length cp5) := by simp
    have hXs : (w5.alloc (.cells #[.int .i64 c, .slice a5 t.length cp5] 26)).heap.size = w5.heap.size + 1 := by simp
    obtain ⟨⟨y0, y1'⟩, hrY⟩ := HK4.out _ (HB45.out.trans (hb5'.mono hz45))
    have hrX := hrd5.below hb5'
    have hB5' : Below w.heap.size w _ := hB5.trans (hb5'.mono hB5.size)
    have hr5' := hr5.below hb5'
    have hrs5' := hrs5.below hb5'
    have HWR5' : Hid (∀ i, i < len1 → WrS (W3.heap.size + 1) w4.heap.size (w5.alloc (.cells #[.int .i64 c, .slice a5 t.length cp5] 26)) (nthL l4 i)) := fun i hi => (HWR5.out i hi).below hb5'
    have HG5' : Hid (∃ g5, (t.length = 0 ∨ a5 = some ⟨g5, 0, none⟩) ∧ W3.heap.size ≤ g5 ∧ g5 < w5.heap.size ∧ (t.length = 0 ∨ w4.heap.size ≤ g5) ∧ ∀ i, i < t.length → ((w5.alloc (.cells #[.int .i64 c, .slice a5 t.length cp5] 26)).cell? ⟨g5, i, none⟩).isSome = true ∧ (w5.alloc (.cells #[.int .i64 c, .slice a5 t.length cp5] 26)).frozen? ⟨g5, i, none⟩ = false) := by
      obtain ⟨g5, q1, q2, q3, q4, q5⟩ := HG5.out
      exact ⟨g5, q1, q2, q3, q4, fun i hi => ⟨by rw [hb5'.cell (p := ⟨g5, i, none⟩) q3]; exact (q5 i hi).1, (hb5'.frozen (p := ⟨g5, i, none⟩) q3).trans (q5 i hi).2⟩⟩
    have HB35 : Hid (Below W3.heap.size W3 (w5.alloc (.cells #[.int .i64 c, .slice a5 t.length cp5] 26))) := HB34.out.trans ((HB45.out.trans (hb5'.mono hz45)).mono HB34.out.size)
    have hz34 : W3.heap.size < w4.heap.size := hs4
    have HXS0 : Hid (_) := hXs
    clear hXs
    clear hb5' hrd5 hr5 hrs5 HWR5 HG5 hB5 HK4 HB34 HB45
    go_wp2_with fail
    generalize (w5.alloc (.cells #[.int .i64 c, .slice a5 t.length cp5] 26)) = W5 at *
    generalize w5.heap.size = g8 at *
    refine (eqBytesResult_same c a5 a3 t.length cp5 cp3 t W5 rfl hrX hrY hT).mono ?_
    rintro e w6 ⟨rfl, hb6⟩
    have hB6 : Below w.heap.size w w6 := hB5'.trans (hb6.mono hB5'.size)
    have HALL : Hid (∀ w', Below W5.heap.size W5 w' → (Below w.heap.size w w' ∧ Below W3.heap.size W3 w') ∧ (w'.cell? ⟨g8, 0, none⟩ = some (.int .i64 c) ∧ w'.cell? ⟨g8, 1, none⟩ = some (.slice a5 t.length cp5)) ∧ Rd w' a5 t ∧ (RdL w' (some ⟨W3.heap.size, 0, none⟩) l4 ∧ RdLs w' l4 y1) ∧ (∀ i, i < len1 → WrS (W3.heap.size + 1) w4.heap.size w' (nthL l4 i)) ∧ ∃ g5, (t.length = 0 ∨ a5 = some ⟨g5, 0, none⟩) ∧ W3.heap.size ≤ g5 ∧ g5 < g8 ∧ (t.length = 0 ∨ w4.heap.size ≤ g5) ∧ ∀ i, i < t.length → (w'.cell? ⟨g5, i, none⟩).isSome = true ∧ w'.frozen? ⟨g5, i, none⟩ = false) := fun w' hb => by
      have hx : g8 < W5.heap.size := by have := HXS0.out; omega
      obtain ⟨g5, q1, q2, q3, q4, q5⟩ := HG5'.out
      refine ⟨⟨hB5'.trans (hb.mono hB5'.size), HB35.out.trans (hb.mono HB35.out.size)⟩, ⟨(hb.cell (p := ⟨g8, 0, none⟩) hx).trans hX0, (hb.cell (p := ⟨g8, 1, none⟩) hx).trans hX1⟩, hrX.below hb, ⟨hr5'.below hb, hrs5'.below hb⟩, fun i hi => (HWR5'.out i hi).below hb, g5, q1, q2, q3, q4, fun i hi => ?_⟩
      have hg : g5 < W5.heap.size := by omega
      exact ⟨by rw [hb.cell (p := ⟨g5, i, none⟩) hg]; exact (q5 i hi).1, (hb.frozen (p := ⟨g5, i, none⟩) hg).trans (q5 i hi).2⟩
    have HB6 : Hid (Below W5.heap.size W5 w6) := hb6
    clear hX0 hX1 hrX hrY y0 y1' hr5' hrs5' HWR5' HG5' HB35 hB5' hb6
    go_wp2_with fail
    refine (toByteSS_bs a1 len1 cap1 z1 y1 w6 hl (HRA.out w6 hB6).1 (HRA.out w6 hB6).2 HF.out hn).mono ?_
    rintro e w7 ⟨l7, rfl, hl7, -, hr7, hrs7, -, hb7⟩
    have HB7 : Hid (Below W5.heap.size W5 w7) := HB6.out.trans (hb7.mono HB6.out.size)
    clear hb7 HB6 hB6
    go_wp2_with fail
    refine (eqByteSS_bs (some ⟨W3.heap.size, 0, none⟩) (some ⟨w6.heap.size, 0, none⟩) len1 len1 len1 l4 l7 y1 w7 hl4 hl7 (HALL.out w7 HB7.out).2.2.2.1.1 hr7 (HALL.out w7 HB7.out).2.2.2.1.2 hrs7 HF.out hn).mono ?_
    rintro e w8 ⟨rfl, hb8⟩
    have HB8 : Hid (Below W5.heap.size W5 w8) := HB7.out.trans (hb8.mono HB7.out.size)
    clear hr7 hrs7 hl7 hb8 HB7
    obtain ⟨⟨hB8, hB38⟩, ⟨x0, x1⟩, hrX8, ⟨hr8, hrs8⟩, hwr8, g5, hg1, hg2, hg3, hg4, hw8⟩ := HALL.out w8 HB8.out
    have HSUM8 : Hid (∀ k, k ≤ len1 → ((l4.take k).map fun s => s.2.1).sum ≤ 1048576) := fun k hk => by rw [hrs8.sum k]; exact HSUM.out k hk
    have HWR8 : Hid (∀ i, i < len1 → WrS (W3.heap.size + 1) w4.heap.size w8 (nthL l4 i) ∧ (nthL l4 i).2.1 ≤ 1048576) := fun i hi => ⟨hwr8 i hi, by rw [(hrs8.2 i (by omega)).1]; exact (HF.out i (by rw [← hrs8.1]; omega)).2⟩
    have hgz : g8 < w8.heap.size := World.block_lt_of_cell? w8 ⟨g8, 0, none⟩ x0
    clear HALL hrs8 hwr8 HSUM
    go_wp2_with fail
    refine (markByteSS_mk W3.heap.size len1 len1 (W3.heap.size + 1) w4.heap.size l4 w8 hl4 (by omega) hr8 HWR8.out hn HSUM8.out).mono ?_
    rintro e w9 ⟨kk, rfl, hm9⟩
    have hB9 : Below w.heap.size w w9 := hB8.trans (hm9.1.mono (by have := HYS.out; omega))
    have hB39 : Below W3.heap.size W3 w9 := hB38.trans (hm9.1.mono (by omega))
    have x0' : w9.cell? ⟨g8, 0, none⟩ = some (.int .i64 c) := (hm9.2.1 ⟨g8, 0, none⟩ (by show w4.heap.size ≤ g8; omega)).trans x0
    have x1' : w9.cell? ⟨g8, 1, none⟩ = some (.slice a5 t.length cp5) := (hm9.2.1 ⟨g8, 1, none⟩ (by show w4.heap.size ≤ g8; omega)).trans x1
    have hrX9 : Rd w9 a5 t := by
      rcases hrX8 with h | ⟨b, off, e, hlt, hc⟩
      · exact .inl h
      · rcases hg1 with h0 | h0
        · exact .inl (List.length_eq_zero_iff.1 h0)
        · rw [h0] at e
          cases e
          rcases hg4 with h0' | h0'
          · exact .inl (List.length_eq_zero_iff.1 h0')
          · refine .inr ⟨g5, 0, h0, Nat.lt_of_lt_of_le hlt hm9.1.size, fun i hi => (hm9.2.1 _ ?_).trans (hc i hi)⟩
            exact h0'
    have HW9 : Hid (∀ i, i < t.length → (w9.cell? ⟨g5, i, none⟩).isSome = true ∧ w9.frozen? ⟨g5, i, none⟩ = false) := fun i hi => ⟨hm9.2.2.1 _ (hw8 i hi).1, (hm9.2.2.2 _).trans (hw8 i hi).2⟩
    have hgz9 : g8 < w9.heap.size := World.block_lt_of_cell? w9 ⟨g8, 0, none⟩ x0'
    obtain ⟨⟨y0, y1'⟩, hrY9⟩ := HK4'.out w9 hB39
    have hkk : ¬ (kk : Int) < 0 := by omega
    clear hm9 hB8 hB38 x0 x1 hrX8 hr8 hw8 HWR8 HSUM8 HB8 hgz
    go_wp2_with fail
    refine (eqBytesResult_same c a5 a3 t.length cp5 cp3 t w9 rfl hrX9 hrY9 hT).mono ?_
    rintro e w10 ⟨rfl, hb10⟩
    have hB10 : Below w.heap.size w w10 := hB9.trans (hb10.mono hB9.size)
    have hB310 : Below W3.heap.size W3 w10 := hB39.trans (hb10.mono hB39.size)
    have x0 := (hb10.cell (p := ⟨g8, 0, none⟩) hgz9).trans x0'
    have x1 := (hb10.cell (p := ⟨g8, 1, none⟩) hgz9).trans x1'
    have hg59 : g5 < w9.heap.size := by omega
    have HW10 : Hid (∀ i, i < t.length → (w10.cell? ⟨g5, i, none⟩).isSome = true ∧ w10.frozen? ⟨g5, i, none⟩ = false) := fun i hi => ⟨by rw [hb10.cell (p := ⟨g5, i, none⟩) hg59]; exact (HW9.out i hi).1, (hb10.frozen (p := ⟨g5, i, none⟩) hg59).trans (HW9.out i hi).2⟩
    have hgz10 : g8 < w10.heap.size := Nat.lt_of_lt_of_le hgz9 hb10.size
    clear hb10 x0' x1' y0 y1' hrX9 hrY9 HW9 hB9 hB39
    go_wp2_with fail
    refine (markBytesResult_mk c a5 g5 t.length cp5 w10 hg1 (by omega) HW10.out hT).mono ?_
    rintro e w11 ⟨rfl, hb11, hoth, hmk11⟩
    have hwg : w.heap.size ≤ g5 := by have := HYS.out; omega
    have hB11 : Below w.heap.size w w11 := hB10.trans (hb11.mono hwg)
    have hB311 : Below W3.heap.size W3 w11 := hB310.trans (hb11.mono hg2)
    have x0' := (hoth ⟨g8, 0, none⟩ hgz10 (by show g8 ≠ g5; omega)).trans x0
    have x1' := (hoth ⟨g8, 1, none⟩ hgz10 (by show g8 ≠ g5; omega)).trans x1
    have hgz11 : g8 < w11.heap.size := World.block_lt_of_cell? w11 ⟨g8, 0, none⟩ x0'
    have hpos : ¬ (((1 + t.length : Nat) : Int)) < 0 := by omega
    clear hb11 hoth x0 x1 HW10 hB10 hB310 hgz10
    go_wp2_with fail
    refine (heldBytesResult_any c a5 t.length cp5 w11 hmk11 hT).mono ?_
    rintro e w12 ⟨rfl, hb12⟩
    have hB12 : Below w.heap.size w w12 := hB11.trans (hb12.mono hB11.size)
    have HB12 : Hid (Below w11.heap.size w11 w12) := hb12
    have HX : Hid (∀ w', Below w11.heap.size w11 w' → (w'.cell? ⟨g8, 0, none⟩ = some (.int .i64 c) ∧ w'.cell? ⟨g8, 1, none⟩ = some (.slice a5 t.length cp5)) ∧ Rd w' a5 (marks t.length 1) ∧ Below W3.heap.size W3 w') := fun w' hb => ⟨⟨(hb.cell (p := ⟨g8, 0, none⟩) hgz11).trans x0', (hb.cell (p := ⟨g8, 1, none⟩) hgz11).trans x1'⟩, hmk11.below hb, hB311.trans (hb.mono hB311.size)⟩
    clear hb12 x0' x1' hB11 hB311 hmk11
    go_wp2_with fail
    refine (toByteSS_bs a1 len1 cap1 z1 y1 w12 hl (HRA.out w12 hB12).1 (HRA.out w12 hB12).2 HF.out hn).mono ?_
    rintro e w13 ⟨l13, rfl, hl13, -, hr13, hrs13, -, hb13⟩
    have hB13 : Below w.heap.size w w13 := hB12.trans (hb13.mono hB12.size)
    have HB13 : Hid (Below w11.heap.size w11 w13) := HB12.out.trans (hb13.mono HB12.out.size)
    clear hb13 hB12 HB12
    go_wp2_with fail
    refine (HIM.out _ len1 len1 l13 w13 hl13 hr13 hrs13 HF.out hn).mono ?_
    rintro e w14 ⟨v14, rfl, hg14, hb14⟩
    have hB14 : Below w.heap.size w w14 := hB13.trans (hb14.mono hB13.size)
    have HB14 : Hid (Below w11.heap.size w11 w14) := HB13.out.trans (hb14.mono HB13.out.size)
    obtain ⟨a14, cp14, rfl, hrd14, -⟩ := hg14.form2
    dsimp only at hrd14
    clear hr13 hrs13 hl13 hg14 hb14 hB13 HB13
    have hb15 : Below w14.heap.size w14 (w14.alloc (.cells #[.int .i64 c, .slice a14 t.length cp14] 26)) := (Below.refl _ _).alloc (Nat.le_refl _) _
    have z0 : (w14.alloc (.cells #[.int .i64 c, .slice a14 t.length cp14] 26)).cell? ⟨w14.heap.size, 0, none⟩ = some (.int .i64 c) := by simp
    have z1' : (w14.alloc (.cells #[.int .i64 c, .slice a14 t.length cp14] 26)).cell? ⟨w14.heap.size, 1, none⟩ = some (.slice a14 t.length cp14) := by simp
    have hB15 : Below w.heap.size w _ := hB14.trans (hb15.mono hB14.size)
    have HB15 : Hid (Below w11.heap.size w11 (w14.alloc (.cells #[.int .i64 c, .slice a14 t.length cp14] 26))) := HB14.out.trans (hb15.mono HB14.out.size)
    have hrd15 := hrd14.below hb15
    obtain ⟨⟨y0, y1'⟩, hrY15⟩ := HK4'.out _ (HX.out _ HB15.out).2.2
    clear hb15 hrd14 hB14 HB14
    go_wp2_with fail
    generalize (w14.alloc (.cells #[.int .i64 c, .slice a14 t.length cp14] 26)) = W15 at *
    refine (eqBytesResult_same c a14 a3 t.length cp14 cp3 t W15 rfl hrd15 hrY15 hT).mono ?_
    rintro e w16 ⟨rfl, hb16⟩
    have hB16 : Below w.heap.size w w16 := hB15.trans (hb16.mono hB15.size)
    have HB16 : Hid (Below w11.heap.size w11 w16) := HB15.out.trans (hb16.mono HB15.out.size)
    obtain ⟨⟨x0, x1⟩, hmk16, -⟩ := HX.out _ HB16.out
    clear hb16 z0 z1' y0 y1' hrd15 hrY15 hB15 HB15
    go_wp2_with fail
    refine (heldBytesResult_any c a5 t.length cp5 w16 hmk16 hT).mono ?_
    rintro e w17 ⟨rfl, hb17⟩
    have hB17 : Below w.heap.size w w17 := hB16.trans (hb17.mono hB16.size)
    clear hb17 x0 x1 hmk16 HX
    go_wp2
    go_ret
    exact ⟨rfl, hB17⟩

/-! ### THE ROW's STEP -/
set_option maxRecDepth 100000 in
theorem lifted (os : Os) (started : os.Started) (H : Type) (enc : TypeId × Value → H) :
    ReturnsInHanded {} Try.checked os 3 .any (Rows.fnExactBuildMultiSpec.pre6 enc Try.prog Try.f3 Rows.fnExactBuildMultiRow.domain false) (Rows.fnExactBuildMultiSpec.post enc Try.prog Try.f3 false true false false) := by
  refine returnsInHanded_of_change (C := Try.checked) own started (by kernel_rfl) Try.func3
    (ChangeSpec.witness6 (enc := enc) (C := Try.checked) false ⟨#[], #[.string ByteArray.empty, .slice none 0 0], []⟩ 8 (by kernel_rfl) (by kernel_rfl) (by kernel_rfl) (by kernel_rfl)) ?_
  intro W base args ds gs before hval0 hW hcnd _
  have hval : ∀ (j : Nat) t v, Try.f3.params[j]? = some t → args[j]? = some v → Value.okWide Try.prog W .any base t v := hval0
  have hW' := hW
  obtain ⟨p, q, hA0, hV, rfl, hfz, hnd⟩ := hW
  have hA : DataW.TrodAll enc Try.prog W 0 (fun _ => true) true Try.f3.params.toList args.toList ds p := hA0
  rw [Try.params3] at hA hval
  obtain ⟨v0, vs0, d0, ds0, p0, q0, hargs, rfl, rfl, h0, r0⟩ := trodAll_cons hA
  obtain ⟨v1, vs1, d1, ds1, p1, q1, rfl, rfl, rfl, h1, r1⟩ := trodAll_cons r0
  obtain ⟨rfl, rfl, rfl⟩ := trodAll_nil r1
  obtain rfl : args = #[v0, v1] := by cases args; simp_all
  obtain ⟨rfl, rfl⟩ := trodVars_none hV
  obtain ⟨s0, rfl, rfl, rfl, w0⟩ := open_string Try.underlying9 (hval 0 9 v0 rfl rfl) h0
  obtain ⟨a1, len1, cap1, rfl⟩ := okWide_slice Try.underlying22 (hval 1 22 v1 rfl rfl)
  have k1 := h1
  have lt1 : ∀ x ∈ p1, x.block < W.heap.size := by obtain ⟨m, hm⟩ := k1; exact DataW.trod_lt m _ _ _ hm
  obtain ⟨z1, y1, w1⟩ : ∃ zs ys, IsBs W a1 len1 cap1 zs ys := by
    obtain ⟨fuel, hf⟩ := h1
    exact open_bss Try.underlying22 Try.underlying24 Try.underlying5 (by kernel_rfl) (by kernel_rfl) hf
  clear hA0 hval0
  refine (walk s0 a1 len1 cap1 z1 y1 W w0 w1).mono fun e W' ⟨he, bel⟩ => ?_
  subst he
  exact ⟨_, rfl, _, _, _, [], _, [], hW', trodAll_mk1 (shut_bool Try.underlying4 _), (trodAll_cons_mk (shut_string Try.underlying9 w0) (trodAll_cons_mk (Below.trod laidOut (by kernel_rfl) (of_decide_eq_true (by kernel_rfl)) k1 bel lt1) trodAll_mk0)), rfl, bel.frame _, fun h => by cases h⟩

theorem over : Rows.fnExactBuildMultiRow.holds Try.pinned (OpenSpec.ofChange Rows.fnExactBuildMultiSpec) :=
  OpenClaim.holds_of_wide 3 Try.f3 rfl rfl rfl rfl rfl rfl rfl ⟨rfl, rfl, rfl, rfl, rfl⟩ rfl rfl rfl rfl rfl (by kernel_rfl) Try.func3 (by kernel_rfl)
    (of_decide_eq_true (by kernel_rfl)) (by unfold Func.isWrapper; first | (rw [if_pos (by decide +kernel)]; kernel_rfl) | (rw [if_neg (by decide +kernel)]; exact ⟨rfl, rfl⟩))
    (fun os started H enc _ => lifted os started H enc)
end Go.Proofs.Ythphokjhonddcaa.fnExactBuildMulti

namespace Go.Proofs.Ythphokjhonddcaa
theorem fnExactBuildMulti_holds : Rows.FnExactBuildMultiSaid := fnExactBuildMulti.over
end Go.Proofs.Ythphokjhonddcaa
