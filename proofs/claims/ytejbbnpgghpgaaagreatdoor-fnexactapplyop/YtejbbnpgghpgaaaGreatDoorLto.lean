/- An op that the law turns lies in memory of its own; its marks; whether two results are the same; no conditions beyond those that each fact names. -/
import Derived.Test.YtejbbnpgghpgaaaGreatDoorStwToLst
import Derived.Test.YtejbbnpgghpgaaaGreatDoorBxhToLsz
import Derived.Test.YtejbbnpgghpgaaaGreatDoorLtc
namespace Go.Proofs.YtejbbnpgghpgaaaGreatDoor
open Go.RowKit
set_option linter.unusedVariables false

theorem toIl_ow (s : SlQ) (l : List Int) {lo : Nat} (w : World) (hs : IsIl lo w s l) (hn : l.length ≤ 1048576) :
    Calls Tryz.prog 60 #[slW s] w fun e w' => ∃ s', e = .returned (slW s') ∧ IsIl w.heap.size w' s' l ∧ OwZ 2 w' s' l ∧ (∀ g ∈ blkS s', w.heap.size ≤ g) ∧ Below w.heap.size w w' :=
  (toInt64S_any s.1 s.2.1 s.2.2 l w hs.1 hs.2.2.2.1 (by rw [← hs.1]; exact hn)).mono fun _ _ ⟨he, ho, hb⟩ => ⟨(some ⟨w.heap.size, 0, none⟩, s.2.1, s.2.1), he, ⟨hs.1, Nat.le_refl _, by dsimp only; rw [← hs.1]; unfold maxLen; omega, RdI.own ho, fun x hx => by cases hx; exact Nat.le_refl _⟩, by unfold OwZ; rw [hs.1]; exact row_low ho (Nat.zero_le _), fun g hg => by simp [blkS] at hg; omega, hb⟩
theorem toSl_ow (s : SlQ) (l : List Nat) {lo : Nat} (w : World) (hs : IsSl lo w s l) (hn : l.length ≤ 1048576) :
    Calls Tryz.prog 61 #[slW s] w fun e w' => ∃ s', e = .returned (slW s') ∧ IsSl w.heap.size w' s' l ∧ OwB w' s' l ∧ (∀ g ∈ blkS s', w.heap.size ≤ g) ∧ Below w.heap.size w w' :=
  (toByteS_any s.1 s.2.1 s.2.2 l w hs.1 hs.2.2.2.2.1 (by rw [← hs.1]; exact hn)).mono fun _ _ ⟨he, ho, hb⟩ => ⟨(some ⟨w.heap.size, 0, none⟩, s.2.1, s.2.1), he, ⟨hs.1, Nat.le_refl _, by dsimp only; rw [← hs.1]; unfold maxLen; omega, hs.2.2.2.1, Rd.own ho, fun x hx => by cases hx; exact Nat.le_refl _⟩, ⟨by unfold Own; rw [hs.1]; exact row_low ho (Nat.zero_le _), hs.2.2.2.1⟩, fun g hg => by simp [blkS] at hg; omega, hb⟩

set_option maxHeartbeats 1600000 in
set_option maxRecDepth 100000 in
theorem toOp_ow (o : OpR) (p : SlO) {lo : Nat} (w : World) (hs : IsOp lo w p o) (hf : FtO o) :
    Calls Tryz.prog 16 #[opX o p] w fun e w' => ∃ p', e = .returned (opX o p') ∧ IsOp w.heap.size w' p' o ∧ OwZ 2 w' p'.1 o.u ∧ OwB w' p'.2 o.b ∧ (∀ g ∈ blkS p'.1 ++ blkS p'.2, w.heap.size ≤ g) ∧ (∀ g ∈ blkS p'.1, g ∉ blkS p'.2) ∧ Below w.heap.size w w' := by
  have hbW : Below w.heap.size w (((w.alloc (.cells #[.int .i64 o.k, .string o.x, .string o.t, slW p.1, .int .i64 o.m, .int .i64 o.f, .int .i64 o.d, slW p.2] 28)).alloc (.cells #[.int .i64 0, .string ⟨#[]⟩, .string ⟨#[]⟩, .slice none 0 0, .int .i64 0, .int .i64 0, .int .i64 0, .slice none 0 0] 38)).alloc (.cells #[.int .i64 o.k, .string o.x, .string o.t, .slice none 0 0, .int .i64 0, .int .i64 0, .int .i64 0, .slice none 0 0] 38)) :=
    (((Below.refl _ _).alloc (Nat.le_refl _) _).alloc (by simp) _).alloc (by simp; omega) _
  have hsz : (((w.alloc (.cells #[.int .i64 o.k, .string o.x, .string o.t, slW p.1, .int .i64 o.m, .int .i64 o.f, .int .i64 o.d, slW p.2] 28)).alloc (.cells #[.int .i64 0, .string ⟨#[]⟩, .string ⟨#[]⟩, .slice none 0 0, .int .i64 0, .int .i64 0, .int .i64 0, .slice none 0 0] 38)).alloc (.cells #[.int .i64 o.k, .string o.x, .string o.t, .slice none 0 0, .int .i64 0, .int .i64 0, .int .i64 0, .slice none 0 0] 38)).heap.size = w.heap.size + 3 := by simp
  have hA : Qo (((w.alloc (.cells #[.int .i64 o.k, .string o.x, .string o.t, slW p.1, .int .i64 o.m, .int .i64 o.f, .int .i64 o.d, slW p.2] 28)).alloc (.cells #[.int .i64 0, .string ⟨#[]⟩, .string ⟨#[]⟩, .slice none 0 0, .int .i64 0, .int .i64 0, .int .i64 0, .slice none 0 0] 38)).alloc (.cells #[.int .i64 o.k, .string o.x, .string o.t, .slice none 0 0, .int .i64 0, .int .i64 0, .int .i64 0, .slice none 0 0] 38)) w.heap.size ⟨.int .i64 o.k, .string o.x, .string o.t, slW p.1, .int .i64 o.m, .int .i64 o.f, .int .i64 o.d, slW p.2⟩ := ((Qo.new w _ _ _ _ _ _ _ _ _).below ((Below.refl _ _).alloc (Nat.le_refl _) _) (by simp)).below ((Below.refl _ _).alloc (Nat.le_refl _) _) (by simp; omega)
  have hR : Qo (((w.alloc (.cells #[.int .i64 o.k, .string o.x, .string o.t, slW p.1, .int .i64 o.m, .int .i64 o.f, .int .i64 o.d, slW p.2] 28)).alloc (.cells #[.int .i64 0, .string ⟨#[]⟩, .string ⟨#[]⟩, .slice none 0 0, .int .i64 0, .int .i64 0, .int .i64 0, .slice none 0 0] 38)).alloc (.cells #[.int .i64 o.k, .string o.x, .string o.t, .slice none 0 0, .int .i64 0, .int .i64 0, .int .i64 0, .slice none 0 0] 38)) (w.heap.size + 1) ⟨.int .i64 0, .string ⟨#[]⟩, .string ⟨#[]⟩, .slice none 0 0, .int .i64 0, .int .i64 0, .int .i64 0, .slice none 0 0⟩ := by
    have h := (Qo.new (w.alloc (.cells #[.int .i64 o.k, .string o.x, .string o.t, slW p.1, .int .i64 o.m, .int .i64 o.f, .int .i64 o.d, slW p.2] 28)) (.int .i64 0) (.string ⟨#[]⟩) (.string ⟨#[]⟩) (.slice none 0 0) (.int .i64 0) (.int .i64 0) (.int .i64 0) (.slice none 0 0) 38).below ((Below.refl _ _).alloc (Nat.le_refl _) (.cells #[.int .i64 o.k, .string o.x, .string o.t, .slice none 0 0, .int .i64 0, .int .i64 0, .int .i64 0, .slice none 0 0] 38)) (by simp)
    simpa using h
  have hO : Qo (((w.alloc (.cells #[.int .i64 o.k, .string o.x, .string o.t, slW p.1, .int .i64 o.m, .int .i64 o.f, .int .i64 o.d, slW p.2] 28)).alloc (.cells #[.int .i64 0, .string ⟨#[]⟩, .string ⟨#[]⟩, .slice none 0 0, .int .i64 0, .int .i64 0, .int .i64 0, .slice none 0 0] 38)).alloc (.cells #[.int .i64 o.k, .string o.x, .string o.t, .slice none 0 0, .int .i64 0, .int .i64 0, .int .i64 0, .slice none 0 0] 38)) (w.heap.size + 1 + 1) ⟨.int .i64 o.k, .string o.x, .string o.t, .slice none 0 0, .int .i64 0, .int .i64 0, .int .i64 0, .slice none 0 0⟩ := by
    have h := (Qo.new ((w.alloc (.cells #[.int .i64 o.k, .string o.x, .string o.t, slW p.1, .int .i64 o.m, .int .i64 o.f, .int .i64 o.d, slW p.2] 28)).alloc (.cells #[.int .i64 0, .string ⟨#[]⟩, .string ⟨#[]⟩, .slice none 0 0, .int .i64 0, .int .i64 0, .int .i64 0, .slice none 0 0] 38)) (.int .i64 o.k) (.string o.x) (.string o.t) (.slice none 0 0) (.int .i64 0) (.int .i64 0) (.int .i64 0) (.slice none 0 0) 38)
    simpa using h
  have fR : Fo (((w.alloc (.cells #[.int .i64 o.k, .string o.x, .string o.t, slW p.1, .int .i64 o.m, .int .i64 o.f, .int .i64 o.d, slW p.2] 28)).alloc (.cells #[.int .i64 0, .string ⟨#[]⟩, .string ⟨#[]⟩, .slice none 0 0, .int .i64 0, .int .i64 0, .int .i64 0, .slice none 0 0] 38)).alloc (.cells #[.int .i64 o.k, .string o.x, .string o.t, .slice none 0 0, .int .i64 0, .int .i64 0, .int .i64 0, .slice none 0 0] 38)) (w.heap.size + 1) := by
    have h := (Fo.new (w.alloc (.cells #[.int .i64 o.k, .string o.x, .string o.t, slW p.1, .int .i64 o.m, .int .i64 o.f, .int .i64 o.d, slW p.2] 28)) (.int .i64 0) (.string ⟨#[]⟩) (.string ⟨#[]⟩) (.slice none 0 0) (.int .i64 0) (.int .i64 0) (.int .i64 0) (.slice none 0 0) 38).below ((Below.refl _ _).alloc (Nat.le_refl _) (.cells #[.int .i64 o.k, .string o.x, .string o.t, .slice none 0 0, .int .i64 0, .int .i64 0, .int .i64 0, .slice none 0 0] 38)) (by simp)
    simpa using h
  have fO : Fo (((w.alloc (.cells #[.int .i64 o.k, .string o.x, .string o.t, slW p.1, .int .i64 o.m, .int .i64 o.f, .int .i64 o.d, slW p.2] 28)).alloc (.cells #[.int .i64 0, .string ⟨#[]⟩, .string ⟨#[]⟩, .slice none 0 0, .int .i64 0, .int .i64 0, .int .i64 0, .slice none 0 0] 38)).alloc (.cells #[.int .i64 o.k, .string o.x, .string o.t, .slice none 0 0, .int .i64 0, .int .i64 0, .int .i64 0, .slice none 0 0] 38)) (w.heap.size + 1 + 1) := by
    have h := (Fo.new ((w.alloc (.cells #[.int .i64 o.k, .string o.x, .string o.t, slW p.1, .int .i64 o.m, .int .i64 o.f, .int .i64 o.d, slW p.2] 28)).alloc (.cells #[.int .i64 0, .string ⟨#[]⟩, .string ⟨#[]⟩, .slice none 0 0, .int .i64 0, .int .i64 0, .int .i64 0, .slice none 0 0] 38)) (.int .i64 o.k) (.string o.x) (.string o.t) (.slice none 0 0) (.int .i64 0) (.int .i64 0) (.int .i64 0) (.slice none 0 0) 38)
    simpa using h
  have HC := toIl_ow p.1 o.u _ (hs.1.below hbW) hf.2.2.1
  go_enter Tryz.func16, Tryz.ntmps16
  go_wp2_with fail
  generalize ((w.alloc (.cells #[.int .i64 o.k, .string o.x, .string o.t, slW p.1, .int .i64 o.m, .int .i64 o.f, .int .i64 o.d, slW p.2] 28)).alloc (.cells #[.int .i64 0, .string ⟨#[]⟩, .string ⟨#[]⟩, .slice none 0 0, .int .i64 0, .int .i64 0, .int .i64 0, .slice none 0 0] 38)).alloc (.cells #[.int .i64 o.k, .string o.x, .string o.t, .slice none 0 0, .int .i64 0, .int .i64 0, .int .i64 0, .slice none 0 0] 38) = W at *
  refine HC.mono ?_
  rintro e w1 ⟨s1, rfl, hI1, hZ1, hG1, hb1⟩
  rw [hsz] at hI1 hG1
  have hA1 := hA.below hb1 (by omega)
  have hR1 := hR.below hb1 (by omega)
  have hO1 := hO.below hb1 (by omega)
  have fR1 := fR.below hb1 (by omega)
  have fO1 := fO.below hb1 (by omega)
  have hz1 : w.heap.size + 3 ≤ w1.heap.size := by rw [← hsz]; exact hb1.size
  have hB1 : Below w.heap.size w w1 := hbW.trans (hb1.mono (by omega))
  clear HC hA hR hO fR fO hb1 hsz hbW W
  have hO2 := (((hO1.put3 (slW s1)).put4 (.int .i64 o.m)).put5 (.int .i64 o.f)).put6 (.int .i64 o.d)
  have fO2 := (((fO1.set ⟨w.heap.size + 1 + 1, 3, none⟩ (slW s1)).set ⟨w.heap.size + 1 + 1, 4, none⟩ (.int .i64 o.m)).set ⟨w.heap.size + 1 + 1, 5, none⟩ (.int .i64 o.f)).set ⟨w.heap.size + 1 + 1, 6, none⟩ (.int .i64 o.d)
  have hR2 := (((hR1.far (w.heap.size + 1 + 1) 3 (slW s1) (by omega)).far (w.heap.size + 1 + 1) 4 (.int .i64 o.m) (by omega)).far (w.heap.size + 1 + 1) 5 (.int .i64 o.f) (by omega)).far (w.heap.size + 1 + 1) 6 (.int .i64 o.d) (by omega)
  have fR2 := (((fR1.set ⟨w.heap.size + 1 + 1, 3, none⟩ (slW s1)).set ⟨w.heap.size + 1 + 1, 4, none⟩ (.int .i64 o.m)).set ⟨w.heap.size + 1 + 1, 5, none⟩ (.int .i64 o.f)).set ⟨w.heap.size + 1 + 1, 6, none⟩ (.int .i64 o.d)
  have hB2 : Below w.heap.size w ((((w1.setCell ⟨w.heap.size + 1 + 1, 3, none⟩ (slW s1)).setCell ⟨w.heap.size + 1 + 1, 4, none⟩ (.int .i64 o.m)).setCell ⟨w.heap.size + 1 + 1, 5, none⟩ (.int .i64 o.f)).setCell ⟨w.heap.size + 1 + 1, 6, none⟩ (.int .i64 o.d)) := (((hB1.setCell (by simp; omega) _).setCell (by simp; omega) _).setCell (by simp; omega) _).setCell (by simp; omega) _
  have hI2 := hI1.near ((((Near.set (j := 3) (slW s1) (show w.heap.size + 1 + 1 < w.heap.size + 3 by omega)).trans (Near.set (g := w.heap.size + 1 + 1) (j := 4) (.int .i64 o.m) (by omega))).trans (Near.set (g := w.heap.size + 1 + 1) (j := 5) (.int .i64 o.f) (by omega))).trans (Near.set (g := w.heap.size + 1 + 1) (j := 6) (.int .i64 o.d) (by omega)))
  have HZ : Hid (OwZ 2 ((((w1.setCell ⟨w.heap.size + 1 + 1, 3, none⟩ (slW s1)).setCell ⟨w.heap.size + 1 + 1, 4, none⟩ (.int .i64 o.m)).setCell ⟨w.heap.size + 1 + 1, 5, none⟩ (.int .i64 o.f)).setCell ⟨w.heap.size + 1 + 1, 6, none⟩ (.int .i64 o.d)) s1 o.u) := hZ1.keep fun g hg => by
    have hg3 : w.heap.size + 3 ≤ g := hG1 g hg
    rw [Below.heap_setCell _ _ _ _ (show g ≠ w.heap.size + 1 + 1 by omega), Below.heap_setCell _ _ _ _ (show g ≠ w.heap.size + 1 + 1 by omega), Below.heap_setCell _ _ _ _ (show g ≠ w.heap.size + 1 + 1 by omega), Below.heap_setCell _ _ _ _ (show g ≠ w.heap.size + 1 + 1 by omega)]
  clear hZ1
  have hz2 : w.heap.size + 3 ≤ ((((w1.setCell ⟨w.heap.size + 1 + 1, 3, none⟩ (slW s1)).setCell ⟨w.heap.size + 1 + 1, 4, none⟩ (.int .i64 o.m)).setCell ⟨w.heap.size + 1 + 1, 5, none⟩ (.int .i64 o.f)).setCell ⟨w.heap.size + 1 + 1, 6, none⟩ (.int .i64 o.d)).heap.size := by simpa using hz1
  obtain ⟨a0, a1, a2, a3, a4, a5, a6, a7⟩ := hA1
  obtain ⟨o0, o1, o2, o3, o4, o5, o6, o7⟩ := hO1
  obtain ⟨f0, f1, f2, f3, f4, f5, f6, f7⟩ := fO1
  dsimp only at a0 a1 a2 a3 a4 a5 a6 a7 o0 o1 o2 o3 o4 o5 o6 o7
  clear hR1 fR1 hI1 hB1 hz1
  have HK : Hid (_) := And.intro hO2 (And.intro fO2 (And.intro hR2 (And.intro fR2 (And.intro hB2 (And.intro hI2 hz2)))))
  clear hO2 fO2 hR2 fR2 hB2 hI2 hz2
  go_wp2_with fail
  obtain ⟨hO2, fO2, hR2, fR2, hB2, hI2, hz2⟩ := HK.out
  clear HK a0 a1 a2 a3 a4 a5 a6 a7 o0 o1 o2 o3 o4 o5 o6 o7 f0 f1 f2 f3 f4 f5 f6 f7
  generalize ((((w1.setCell ⟨w.heap.size + 1 + 1, 3, none⟩ (slW s1)).setCell ⟨w.heap.size + 1 + 1, 4, none⟩ (.int .i64 o.m)).setCell ⟨w.heap.size + 1 + 1, 5, none⟩ (.int .i64 o.f)).setCell ⟨w.heap.size + 1 + 1, 6, none⟩ (.int .i64 o.d)) = W2 at *
  refine (toSl_ow p.2 o.b W2 (hs.2.below hB2) hf.2.2.2).mono ?_
  rintro e w3 ⟨s3, rfl, hI3, hB3', hG3, hb3⟩
  have HZ3 : Hid (OwZ 2 w3 s1 o.u ∧ OwB w3 s3 o.b ∧ (∀ g ∈ blkS s1, w.heap.size + 3 ≤ g) ∧ (∀ g ∈ blkS s3, w.heap.size + 3 ≤ g) ∧ ∀ g ∈ blkS s1, g ∉ blkS s3) := ⟨HZ.out.below hb3 (Nat.le_refl _), hB3', hG1, fun g hg => Nat.le_trans hz2 (hG3 g hg), fun g hg hc => by
    have h1 := HZ.out.lt g hg
    have h2 := hG3 g hc
    omega⟩
  clear HZ hB3' hG3 hG1
  have hz3 : w.heap.size + 3 ≤ w3.heap.size := Nat.le_trans hz2 hb3.size
  have hR3 := hR2.below hb3 hR2.lt
  have hO3 := hO2.below hb3 hO2.lt
  have fR3 := fR2.below hb3 hR2.lt
  have fO3 := fO2.below hb3 hO2.lt
  have hB3 : Below w.heap.size w w3 := hB2.trans (hb3.mono hB2.size)
  have hI3' := hI3.low (lo' := w.heap.size + 3) hz2
  have hI2' := hI2.below hb3
  clear hI2 hI3 hb3 hz2 hR2 fR2 hB2 hO2 fO2 W2
  have hO4 := hO3.put7 (slW s3)
  have hR4 := hR3.far (w.heap.size + 1 + 1) 7 (slW s3) (by omega)
  have hR5 := (((((((hR4.put0 (.int .i64 o.k)).put1 (.string o.x)).put2 (.string o.t)).put3 (slW s1)).put4 (.int .i64 o.m)).put5 (.int .i64 o.f)).put6 (.int .i64 o.d)).put7 (slW s3)
  obtain ⟨q0, q1, q2, q3, q4, q5, q6, q7⟩ := hR5
  obtain ⟨o0, o1, o2, o3, o4, o5, o6, o7⟩ := hO3
  obtain ⟨f0, f1, f2, f3, f4, f5, f6, f7⟩ := fO3
  obtain ⟨r0, r1, r2, r3, r4, r5, r6, r7⟩ := hR3
  obtain ⟨y0, y1, y2, y3, y4, y5, y6, y7⟩ := fR3
  obtain ⟨k0, k1, k2, k3, k4, k5, k6, k7⟩ := hO4
  dsimp only at q0 q1 q2 q3 q4 q5 q6 q7 o0 o1 o2 o3 o4 o5 o6 o7 r0 r1 r2 r3 r4 r5 r6 r7 k0 k1 k2 k3 k4 k5 k6 k7
  have HS : Hid (IsIl (w.heap.size + 3) w3 s1 o.u ∧ IsSl (w.heap.size + 3) w3 s3 o.b) := ⟨hI2', hI3'⟩
  have hg1 : w.heap.size + 1 + 1 ≠ w.heap.size + 1 := by omega
  clear hI2' hI3' hs hR4
  go_wp2
  refine bodyPost_ret (v := .agg #[.int .i64 o.k, .string o.x, .string o.t, slW s1, .int .i64 o.m, .int .i64 o.f, .int .i64 o.d, slW s3]) (by simp [results, Tryz.results16, go_sem, q0, q1, q2, q3, q4, q5, q6, q7]) rfl ?_
  have hN : Near (w.heap.size + 3) w3 (((((((((w3.setCell ⟨w.heap.size + 1 + 1, 7, none⟩ (slW s3)).setCell ⟨w.heap.size + 1, 0, none⟩ (.int .i64 o.k)).setCell ⟨w.heap.size + 1, 1, none⟩ (.string o.x)).setCell ⟨w.heap.size + 1, 2, none⟩ (.string o.t)).setCell ⟨w.heap.size + 1, 3, none⟩ (slW s1)).setCell ⟨w.heap.size + 1, 4, none⟩ (.int .i64 o.m)).setCell ⟨w.heap.size + 1, 5, none⟩ (.int .i64 o.f)).setCell ⟨w.heap.size + 1, 6, none⟩ (.int .i64 o.d)).setCell ⟨w.heap.size + 1, 7, none⟩ (slW s3)) :=
    ((((((((Near.set _ (by omega)).trans (Near.set _ (by omega))).trans (Near.set _ (by omega))).trans (Near.set _ (by omega))).trans (Near.set _ (by omega))).trans (Near.set _ (by omega))).trans (Near.set _ (by omega))).trans (Near.set _ (by omega))).trans (Near.set _ (by omega))
  obtain ⟨hZ3, hB3', hG1, hG3, hdj⟩ := HZ3.out
  have hfar : ∀ (u0 u1 u2 u3 u4 u5 u6 u7 u8 : Value) (g : Nat), w.heap.size + 3 ≤ g → (((((((((w3.setCell ⟨w.heap.size + 1 + 1, 7, none⟩ u8).setCell ⟨w.heap.size + 1, 0, none⟩ u0).setCell ⟨w.heap.size + 1, 1, none⟩ u1).setCell ⟨w.heap.size + 1, 2, none⟩ u2).setCell ⟨w.heap.size + 1, 3, none⟩ u3).setCell ⟨w.heap.size + 1, 4, none⟩ u4).setCell ⟨w.heap.size + 1, 5, none⟩ u5).setCell ⟨w.heap.size + 1, 6, none⟩ u6).setCell ⟨w.heap.size + 1, 7, none⟩ u7).heap[g]? = w3.heap[g]? := fun u0 u1 u2 u3 u4 u5 u6 u7 u8 g hg => by
    have e1 : g ≠ w.heap.size + 1 := by omega
    have e2 : g ≠ w.heap.size + 1 + 1 := by omega
    rw [Below.heap_setCell _ _ _ _ e1, Below.heap_setCell _ _ _ _ e1, Below.heap_setCell _ _ _ _ e1, Below.heap_setCell _ _ _ _ e1, Below.heap_setCell _ _ _ _ e1, Below.heap_setCell _ _ _ _ e1, Below.heap_setCell _ _ _ _ e1, Below.heap_setCell _ _ _ _ e1, Below.heap_setCell _ _ _ _ e2]
  refine ⟨(s1, s3), rfl, ⟨(HS.out.1.near hN).low (by omega), (HS.out.2.near hN).low (by omega)⟩, hZ3.keep (fun g hg => hfar _ _ _ _ _ _ _ _ _ g (hG1 g hg)), hB3'.keep (fun g hg => hfar _ _ _ _ _ _ _ _ _ g (hG3 g hg)), (fun g hg => by
    rcases List.mem_append.1 hg with h | h
    · have := hG1 g h; omega
    · have := hG3 g h; omega), hdj, ?_⟩
  exact ((((((((hB3.setCell (by simp; omega) _).setCell (by simp) _).setCell (by simp) _).setCell (by simp) _).setCell (by simp) _).setCell (by simp) _).setCell (by simp) _).setCell (by simp) _).setCell (by simp) _

end Go.Proofs.YtejbbnpgghpgaaaGreatDoor
