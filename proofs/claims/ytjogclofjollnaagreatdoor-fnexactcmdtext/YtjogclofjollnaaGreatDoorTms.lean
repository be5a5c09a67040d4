/- Terms: the laws' helpers: a term's size, a copy, whether two are the same; no conditions beyond those that each fact names. -/
import Derived.Test.YtjogclofjollnaaGreatDoorTmo
import Derived.Test.YtjogclofjollnaaGreatDoorTmuToRgS
namespace Go.Proofs.YtjogclofjollnaaGreatDoor
open Go.RowKit
def FtU (o : TmR) : Prop := o.c.length ≤ 1048576 ∧ o.y.length ≤ 1048576
theorem szYl_any (s : SlQ) (left : Int) (w : World) (h0 : 0 ≤ left) (h1 : left ≤ 1048576) (hn : s.2.1 ≤ maxLen) :
  Calls Tryz.prog 10 #[slW s, .int .i64 left] w fun e w' => SzQ left (s.2.1 ≤ 1048576) w e w' := by
 obtain ⟨a, n, cap⟩ := s
 dsimp only at *
 unfold maxLen at hn
 by_cases c1 : left - (n : Int) < 0
 ·go_enter Tryz.func10, Tryz.ntmps10
  go_wp2
  go_ret
  exact ⟨-1, rfl, .inl rfl, by go_grown⟩
 ·go_enter Tryz.func10, Tryz.ntmps10
  go_wp2
  go_ret
  exact ⟨left - (n : Int), rfl, .inr ⟨by omega, by omega, by omega⟩, by go_grown⟩
theorem toYl_any (s : SlQ) (l : List YgP) {lo : Nat} (w : World) (hs : IsYl lo w s l) (hn : l.length ≤ 1048576) :
  Calls Tryz.prog 16 #[slW s] w fun e w' => ∃ s', e = .returned (slW s') ∧ IsYl w.heap.size w' s' l ∧ Below w.heap.size w w' :=
 (toRangeS_any s.1 s.2.1 s.2.2 l w hs.1 hs.2.2.2.1 (by rw [← hs.1]; exact hn)).mono fun _ _ ⟨he, ho, hb⟩ => ⟨(some ⟨w.heap.size, 0, none⟩, s.2.1, s.2.1), he, ⟨hs.1, Nat.le_refl _, by dsimp only; rw [← hs.1]; unfold maxLen; omega, RdY.own (by have h := ho; unfold OwnY at h; rw [hs.1] at h; exact h), fun x hx => by cases hx; exact Nat.le_refl _⟩, hb⟩
theorem eqYl_same (s s' : SlQ) (l : List YgP) {lo lo' : Nat} (w : World) (hs : IsYl lo w s l) (hs' : IsYl lo' w s' l) (hn : l.length ≤ 1048576) :
  Calls Tryz.prog 22 #[slW s, slW s'] w fun e w' => e = .returned (.bool true) ∧ Below w.heap.size w w' := by
 have he : s'.2.1 = s.2.1 := by rw [← hs.1, ← hs'.1]
 have := eqRangeS_same s.1 s'.1 s.2.1 s.2.2 s'.2.2 l w hs.1 hs.2.2.2.1 hs'.2.2.2.1 (by rw [← hs.1]; exact hn)
 unfold slW
 rw [he]
 exact this
set_option maxHeartbeats 1600000 in
set_option maxRecDepth 100000 in
theorem szTerm_ft (o : TmR) (p : SlT) (left : Int) {lo : Nat} (w : World) (h0 : 0 ≤ left) (h1 : left ≤ 1048576) (hs : IsTm lo w p o) :
  Calls Tryz.prog 26 #[tmX o p, .int .i64 left] w fun e w' => SzQ left (FtU o) w e w' := by
 have hb0 : Below w.heap.size w (w.alloc (.cells #[.int .i64 o.k, .int .i64 o.n, slW p.1, slW p.2, .int .i64 o.l, .int .i64 o.r] 62)) := (Below.refl _ _).alloc (Nat.le_refl _) _
 have hu := hs.1.1
 have hbl := hs.2.1
 have hm1 : p.1.2.1 ≤ maxLen := Nat.le_trans hs.1.2.1 hs.1.2.2.1
 have hm2 : p.2.2.1 ≤ maxLen := Nat.le_trans hs.2.2.1 hs.2.2.2.1
 have hZ0 := Qu.new w (.int .i64 o.k) (.int .i64 o.n) (slW p.1) (slW p.2) (.int .i64 o.l) (.int .i64 o.r) 62
 have HC := szInt64S_any p.1 left (w.alloc (.cells #[.int .i64 o.k, .int .i64 o.n, slW p.1, slW p.2, .int .i64 o.l, .int .i64 o.r] 62)) (by omega) (by omega) hm1
 go_enter Tryz.func26, Tryz.ntmps26
 go_wp2_with fail
 refine HC.mono ?_
 rintro e w1 ⟨r, rfl, hcase, hb1⟩
 have hbw := hb0.trans (hb1.mono hb0.size)
 have hZ1 := hZ0.below hb1 hZ0.lt
 clear HC hb0 hb1 hZ0
 rcases hcase with rfl | ⟨q0, q1, q2⟩
 ·go_wp2
  go_ret
  exact ⟨-1, rfl, .inl rfl, hbw⟩
 ·have hneg : ¬ r < 0 := by omega
  obtain ⟨e0, e1, e2, e3, e4, e5⟩ := hZ1
  dsimp only at e0 e1 e2 e3 e4 e5
  have HC := szYl_any p.2 r w1 q0 (by omega) hm2
  have q1' : Hid (r ≤ left ∧ p.1.2.1 ≤ 1048576) := ⟨by omega, q2⟩
  clear q1 q2
  go_wp2_with fail
  refine HC.mono ?_
  rintro e w2 ⟨r', rfl, hcase, hb2⟩
  have hbw2 := hbw.trans (hb2.mono hbw.size)
  clear HC hb2 hbw
  rcases hcase with rfl | ⟨y0, y1, y2⟩
  ·go_wp2
   go_ret
   exact ⟨-1, rfl, .inl rfl, hbw2⟩
  ·have hneg' : ¬ r' < 0 := by omega
   have HF : Hid (r' ≤ left ∧ FtU o) := by
    have h := q1'.out
    exact ⟨by omega, by omega, by omega⟩
   clear y1 y2 q1'
   go_wp2
   go_ret
   exact ⟨r', rfl, .inr ⟨y0, HF.out⟩, hbw2⟩
set_option maxHeartbeats 1600000 in
set_option maxRecDepth 100000 in
theorem toTerm_ft (o : TmR) (p : SlT) {lo : Nat} (w : World) (hs : IsTm lo w p o) (hf : FtU o) :
  Calls Tryz.prog 39 #[tmX o p] w fun e w' => ∃ p', e = .returned (tmX o p') ∧ IsTm w.heap.size w' p' o ∧ Below w.heap.size w w' := by
 have hbW : Below w.heap.size w (((w.alloc (.cells #[.int .i64 o.k, .int .i64 o.n, slW p.1, slW p.2, .int .i64 o.l, .int .i64 o.r] 62)).alloc (.cells #[.int .i64 0, .int .i64 0, .slice none 0 0, .slice none 0 0, .int .i64 0, .int .i64 0] 74)).alloc (.cells #[.int .i64 o.k, .int .i64 o.n, .slice none 0 0, .slice none 0 0, .int .i64 0, .int .i64 0] 74)) :=
  (((Below.refl _ _).alloc (Nat.le_refl _) _).alloc (by simp) _).alloc (by simp; omega) _
 have hsz : (((w.alloc (.cells #[.int .i64 o.k, .int .i64 o.n, slW p.1, slW p.2, .int .i64 o.l, .int .i64 o.r] 62)).alloc (.cells #[.int .i64 0, .int .i64 0, .slice none 0 0, .slice none 0 0, .int .i64 0, .int .i64 0] 74)).alloc (.cells #[.int .i64 o.k, .int .i64 o.n, .slice none 0 0, .slice none 0 0, .int .i64 0, .int .i64 0] 74)).heap.size = w.heap.size + 3 := by simp
 have hA : Qu (((w.alloc (.cells #[.int .i64 o.k, .int .i64 o.n, slW p.1, slW p.2, .int .i64 o.l, .int .i64 o.r] 62)).alloc (.cells #[.int .i64 0, .int .i64 0, .slice none 0 0, .slice none 0 0, .int .i64 0, .int .i64 0] 74)).alloc (.cells #[.int .i64 o.k, .int .i64 o.n, .slice none 0 0, .slice none 0 0, .int .i64 0, .int .i64 0] 74)) w.heap.size ⟨.int .i64 o.k, .int .i64 o.n, slW p.1, slW p.2, .int .i64 o.l, .int .i64 o.r⟩ := ((Qu.new w _ _ _ _ _ _ _).below ((Below.refl _ _).alloc (Nat.le_refl _) _) (by simp)).below ((Below.refl _ _).alloc (Nat.le_refl _) _) (by simp; omega)
 have hR : Qu (((w.alloc (.cells #[.int .i64 o.k, .int .i64 o.n, slW p.1, slW p.2, .int .i64 o.l, .int .i64 o.r] 62)).alloc (.cells #[.int .i64 0, .int .i64 0, .slice none 0 0, .slice none 0 0, .int .i64 0, .int .i64 0] 74)).alloc (.cells #[.int .i64 o.k, .int .i64 o.n, .slice none 0 0, .slice none 0 0, .int .i64 0, .int .i64 0] 74)) (w.heap.size + 1) ⟨.int .i64 0, .int .i64 0, .slice none 0 0, .slice none 0 0, .int .i64 0, .int .i64 0⟩ := by
  have h := (Qu.new (w.alloc (.cells #[.int .i64 o.k, .int .i64 o.n, slW p.1, slW p.2, .int .i64 o.l, .int .i64 o.r] 62)) (.int .i64 0) (.int .i64 0) (.slice none 0 0) (.slice none 0 0) (.int .i64 0) (.int .i64 0) 74).below ((Below.refl _ _).alloc (Nat.le_refl _) (.cells #[.int .i64 o.k, .int .i64 o.n, .slice none 0 0, .slice none 0 0, .int .i64 0, .int .i64 0] 74)) (by simp)
  simpa using h
 have hO : Qu (((w.alloc (.cells #[.int .i64 o.k, .int .i64 o.n, slW p.1, slW p.2, .int .i64 o.l, .int .i64 o.r] 62)).alloc (.cells #[.int .i64 0, .int .i64 0, .slice none 0 0, .slice none 0 0, .int .i64 0, .int .i64 0] 74)).alloc (.cells #[.int .i64 o.k, .int .i64 o.n, .slice none 0 0, .slice none 0 0, .int .i64 0, .int .i64 0] 74)) (w.heap.size + 1 + 1) ⟨.int .i64 o.k, .int .i64 o.n, .slice none 0 0, .slice none 0 0, .int .i64 0, .int .i64 0⟩ := by
  have h := (Qu.new ((w.alloc (.cells #[.int .i64 o.k, .int .i64 o.n, slW p.1, slW p.2, .int .i64 o.l, .int .i64 o.r] 62)).alloc (.cells #[.int .i64 0, .int .i64 0, .slice none 0 0, .slice none 0 0, .int .i64 0, .int .i64 0] 74)) (.int .i64 o.k) (.int .i64 o.n) (.slice none 0 0) (.slice none 0 0) (.int .i64 0) (.int .i64 0) 74)
  simpa using h
 have fR : Fu (((w.alloc (.cells #[.int .i64 o.k, .int .i64 o.n, slW p.1, slW p.2, .int .i64 o.l, .int .i64 o.r] 62)).alloc (.cells #[.int .i64 0, .int .i64 0, .slice none 0 0, .slice none 0 0, .int .i64 0, .int .i64 0] 74)).alloc (.cells #[.int .i64 o.k, .int .i64 o.n, .slice none 0 0, .slice none 0 0, .int .i64 0, .int .i64 0] 74)) (w.heap.size + 1) := by
  have h := (Fu.new (w.alloc (.cells #[.int .i64 o.k, .int .i64 o.n, slW p.1, slW p.2, .int .i64 o.l, .int .i64 o.r] 62)) (.int .i64 0) (.int .i64 0) (.slice none 0 0) (.slice none 0 0) (.int .i64 0) (.int .i64 0) 74).below ((Below.refl _ _).alloc (Nat.le_refl _) (.cells #[.int .i64 o.k, .int .i64 o.n, .slice none 0 0, .slice none 0 0, .int .i64 0, .int .i64 0] 74)) (by simp)
  simpa using h
 have fO : Fu (((w.alloc (.cells #[.int .i64 o.k, .int .i64 o.n, slW p.1, slW p.2, .int .i64 o.l, .int .i64 o.r] 62)).alloc (.cells #[.int .i64 0, .int .i64 0, .slice none 0 0, .slice none 0 0, .int .i64 0, .int .i64 0] 74)).alloc (.cells #[.int .i64 o.k, .int .i64 o.n, .slice none 0 0, .slice none 0 0, .int .i64 0, .int .i64 0] 74)) (w.heap.size + 1 + 1) := by
  have h := (Fu.new ((w.alloc (.cells #[.int .i64 o.k, .int .i64 o.n, slW p.1, slW p.2, .int .i64 o.l, .int .i64 o.r] 62)).alloc (.cells #[.int .i64 0, .int .i64 0, .slice none 0 0, .slice none 0 0, .int .i64 0, .int .i64 0] 74)) (.int .i64 o.k) (.int .i64 o.n) (.slice none 0 0) (.slice none 0 0) (.int .i64 0) (.int .i64 0) 74)
  simpa using h
 have HC := toIl_any p.1 o.c _ (hs.1.below hbW) hf.1
 go_enter Tryz.func39, Tryz.ntmps39
 go_wp2_with fail
 generalize ((w.alloc (.cells #[.int .i64 o.k, .int .i64 o.n, slW p.1, slW p.2, .int .i64 o.l, .int .i64 o.r] 62)).alloc (.cells #[.int .i64 0, .int .i64 0, .slice none 0 0, .slice none 0 0, .int .i64 0, .int .i64 0] 74)).alloc (.cells #[.int .i64 o.k, .int .i64 o.n, .slice none 0 0, .slice none 0 0, .int .i64 0, .int .i64 0] 74) = W at *
 refine HC.mono ?_
 rintro e w1 ⟨s1, rfl, hI1, hb1⟩
 rw [hsz] at hI1
 have hA1 := hA.below hb1 (by omega)
 have hR1 := hR.below hb1 (by omega)
 have hO1 := hO.below hb1 (by omega)
 have fR1 := fR.below hb1 (by omega)
 have fO1 := fO.below hb1 (by omega)
 have hz1 : w.heap.size + 3 ≤ w1.heap.size := by rw [← hsz]; exact hb1.size
 have hB1 : Below w.heap.size w w1 := hbW.trans (hb1.mono (by omega))
 clear HC hA hR hO fR fO hb1 hsz hbW W
 have hO2 := hO1.put2 (slW s1)
 have fO2 := fO1.set ⟨w.heap.size + 1 + 1, 2, none⟩ (slW s1)
 have hR2 := hR1.far (w.heap.size + 1 + 1) 2 (slW s1) (by omega)
 have fR2 := fR1.set ⟨w.heap.size + 1 + 1, 2, none⟩ (slW s1)
 have hB2 : Below w.heap.size w (w1.setCell ⟨w.heap.size + 1 + 1, 2, none⟩ (slW s1)) := hB1.setCell (by simp; omega) _
 have hI2 := hI1.near (Near.set (j := 2) (slW s1) (show w.heap.size + 1 + 1 < w.heap.size + 3 by omega))
 have hz2 : w.heap.size + 3 ≤ (w1.setCell ⟨w.heap.size + 1 + 1, 2, none⟩ (slW s1)).heap.size := by simpa using hz1
 obtain ⟨a0, a1, a2, a3, a4, a5⟩ := hA1
 obtain ⟨o0, o1, o2, o3, o4, o5⟩ := hO1
 obtain ⟨f0, f1, f2, f3, f4, f5⟩ := fO1
 dsimp only at a0 a1 a2 a3 a4 a5 o0 o1 o2 o3 o4 o5
 clear hR1 fR1 hI1 hB1 hz1
 have HK : Hid (_) := And.intro hO2 (And.intro fO2 (And.intro hR2 (And.intro fR2 (And.intro hB2 (And.intro hI2 hz2)))))
 have hA2 : Qu (w1.setCell ⟨w.heap.size + 1 + 1, 2, none⟩ (slW s1)) w.heap.size ⟨.int .i64 o.k, .int .i64 o.n, slW p.1, slW p.2, .int .i64 o.l, .int .i64 o.r⟩ := Qu.far (q := ⟨.int .i64 o.k, .int .i64 o.n, slW p.1, slW p.2, .int .i64 o.l, .int .i64 o.r⟩) ⟨a0, a1, a2, a3, a4, a5⟩ (w.heap.size + 1 + 1) 2 (slW s1) (by omega)
 clear hO2 fO2 hR2 fR2 hB2 hI2 hz2
 go_wp2_with fail
 obtain ⟨hO2, fO2, hR2, fR2, hB2, hI2, hz2⟩ := HK.out
 clear HK a0 a1 a2 a3 a4 a5 o0 o1 o2 o3 o4 o5 f0 f1 f2 f3 f4 f5
 generalize w1.setCell ⟨w.heap.size + 1 + 1, 2, none⟩ (slW s1) = W2 at *
 refine (toYl_any p.2 o.y W2 (hs.2.below hB2) hf.2).mono ?_
 rintro e w3 ⟨s3, rfl, hI3, hb3⟩
 have hz3 : w.heap.size + 3 ≤ w3.heap.size := Nat.le_trans hz2 hb3.size
 have hA3 := hA2.below hb3 hA2.lt
 have hR3 := hR2.below hb3 hR2.lt
 have hO3 := hO2.below hb3 hO2.lt
 have fR3 := fR2.below hb3 hR2.lt
 have fO3 := fO2.below hb3 hO2.lt
 have hB3 : Below w.heap.size w w3 := hB2.trans (hb3.mono hB2.size)
 have hI3' := hI3.low (lo' := w.heap.size + 3) hz2
 have hI2' := hI2.below hb3
 clear hI2 hI3 hb3 hz2 hR2 fR2 hB2 hO2 fO2 hA2 W2
 have hO4 := ((hO3.put3 (slW s3)).put4 (.int .i64 o.l)).put5 (.int .i64 o.r)
 have hR4 := ((hR3.far (w.heap.size + 1 + 1) 3 (slW s3) (by omega)).far (w.heap.size + 1 + 1) 4 (.int .i64 o.l) (by omega)).far (w.heap.size + 1 + 1) 5 (.int .i64 o.r) (by omega)
 have hR5 := (((((hR4.put0 (.int .i64 o.k)).put1 (.int .i64 o.n)).put2 (slW s1)).put3 (slW s3)).put4 (.int .i64 o.l)).put5 (.int .i64 o.r)
 obtain ⟨a0, a1, a2, a3, a4, a5⟩ := hA3
 obtain ⟨q0, q1, q2, q3, q4, q5⟩ := hR5
 obtain ⟨o0, o1, o2, o3, o4, o5⟩ := hO3
 obtain ⟨f0, f1, f2, f3, f4, f5⟩ := fO3
 obtain ⟨r0, r1, r2, r3, r4, r5⟩ := hR3
 obtain ⟨y0, y1, y2, y3, y4, y5⟩ := fR3
 obtain ⟨k0, k1, k2, k3, k4, k5⟩ := hO4
 dsimp only at a0 a1 a2 a3 a4 a5 q0 q1 q2 q3 q4 q5 o0 o1 o2 o3 o4 o5 r0 r1 r2 r3 r4 r5 k0 k1 k2 k3 k4 k5
 have HS : Hid (IsIl (w.heap.size + 3) w3 s1 o.c ∧ IsYl (w.heap.size + 3) w3 s3 o.y) := ⟨hI2', hI3'⟩
 have hg1 : w.heap.size + 1 + 1 ≠ w.heap.size + 1 := by omega
 clear hI2' hI3' hs hR4
 go_wp2
 refine bodyPost_ret (v := .agg #[.int .i64 o.k, .int .i64 o.n, slW s1, slW s3, .int .i64 o.l, .int .i64 o.r]) (by simp [results, Tryz.results39, go_sem, q0, q1, q2, q3, q4, q5]) rfl ?_
 have hN : Near (w.heap.size + 3) w3 (((((((((w3.setCell ⟨w.heap.size + 1 + 1, 3, none⟩ (slW s3)).setCell ⟨w.heap.size + 1 + 1, 4, none⟩ (.int .i64 o.l)).setCell ⟨w.heap.size + 1 + 1, 5, none⟩ (.int .i64 o.r)).setCell ⟨w.heap.size + 1, 0, none⟩ (.int .i64 o.k)).setCell ⟨w.heap.size + 1, 1, none⟩ (.int .i64 o.n)).setCell ⟨w.heap.size + 1, 2, none⟩ (slW s1)).setCell ⟨w.heap.size + 1, 3, none⟩ (slW s3)).setCell ⟨w.heap.size + 1, 4, none⟩ (.int .i64 o.l)).setCell ⟨w.heap.size + 1, 5, none⟩ (.int .i64 o.r)) :=
  (((((((((Near.set _ (by omega)).trans (Near.set _ (by omega))).trans (Near.set _ (by omega))).trans (Near.set _ (by omega))).trans (Near.set _ (by omega))).trans (Near.set _ (by omega))).trans (Near.set _ (by omega))).trans (Near.set _ (by omega))).trans (Near.set _ (by omega)))
 refine ⟨(s1, s3), rfl, ⟨(HS.out.1.near hN).low (by omega), (HS.out.2.near hN).low (by omega)⟩, ?_⟩
 exact (((((((((hB3.setCell (by simp; try omega) _).setCell (by simp; try omega) _).setCell (by simp; try omega) _).setCell (by simp; try omega) _).setCell (by simp; try omega) _).setCell (by simp; try omega) _).setCell (by simp; try omega) _).setCell (by simp; try omega) _).setCell (by simp; try omega) _)
set_option maxHeartbeats 1600000 in
set_option maxRecDepth 100000 in
theorem eqTerm_ft (o : TmR) (p q : SlT) {lo lo' : Nat} (w : World) (hs : IsTm lo w p o) (hs' : IsTm lo' w q o) (hf : FtU o) :
  Calls Tryz.prog 45 #[tmX o p, tmX o q] w fun e w' => e = .returned (.bool true) ∧ Below w.heap.size w w' := by
 have hbW : Below w.heap.size w ((w.alloc (.cells #[.int .i64 o.k, .int .i64 o.n, slW p.1, slW p.2, .int .i64 o.l, .int .i64 o.r] 74)).alloc (.cells #[.int .i64 o.k, .int .i64 o.n, slW q.1, slW q.2, .int .i64 o.l, .int .i64 o.r] 74)) :=
  ((Below.refl _ _).alloc (Nat.le_refl _) _).alloc (by simp) _
 have hA := (Qu.new w (.int .i64 o.k) (.int .i64 o.n) (slW p.1) (slW p.2) (.int .i64 o.l) (.int .i64 o.r) 74).below ((Below.refl _ _).alloc (Nat.le_refl _) (.cells #[.int .i64 o.k, .int .i64 o.n, slW q.1, slW q.2, .int .i64 o.l, .int .i64 o.r] 74)) (by simp)
 have hC : Qu ((w.alloc (.cells #[.int .i64 o.k, .int .i64 o.n, slW p.1, slW p.2, .int .i64 o.l, .int .i64 o.r] 74)).alloc (.cells #[.int .i64 o.k, .int .i64 o.n, slW q.1, slW q.2, .int .i64 o.l, .int .i64 o.r] 74)) (w.heap.size + 1) ⟨.int .i64 o.k, .int .i64 o.n, slW q.1, slW q.2, .int .i64 o.l, .int .i64 o.r⟩ := by
  have h := Qu.new (w.alloc (.cells #[.int .i64 o.k, .int .i64 o.n, slW p.1, slW p.2, .int .i64 o.l, .int .i64 o.r] 74)) (.int .i64 o.k) (.int .i64 o.n) (slW q.1) (slW q.2) (.int .i64 o.l) (.int .i64 o.r) 74
  simpa using h
 have HC := eqIl_same p.1 q.1 o.c _ (hs.1.below hbW) (hs'.1.below hbW) hf.1
 have hs2 := hs.2.below hbW
 have hs2' := hs'.2.below hbW
 go_enter Tryz.func45, Tryz.ntmps45
 go_wp2_with fail
 generalize (w.alloc (.cells #[.int .i64 o.k, .int .i64 o.n, slW p.1, slW p.2, .int .i64 o.l, .int .i64 o.r] 74)).alloc (.cells #[.int .i64 o.k, .int .i64 o.n, slW q.1, slW q.2, .int .i64 o.l, .int .i64 o.r] 74) = W at *
 refine HC.mono ?_
 rintro e w1 ⟨rfl, hb1⟩
 have hbw := hbW.trans (hb1.mono hbW.size)
 have hA1 := hA.below hb1 hA.lt
 have hC1 := hC.below hb1 hC.lt
 have HC2 := eqYl_same p.2 q.2 o.y _ (hs2.below hb1) (hs2'.below hb1) hf.2
 obtain ⟨a0, a1, a2, a3, a4, a5⟩ := hA1
 obtain ⟨c0, c1, c2, c3, c4, c5⟩ := hC1
 dsimp only at a0 a1 a2 a3 a4 a5 c0 c1 c2 c3 c4 c5
 clear HC hb1 hbW hA hC W hs hs' hs2 hs2'
 go_wp2_with fail
 refine HC2.mono ?_
 rintro e w2 ⟨rfl, hb2⟩
 have hbw2 := hbw.trans (hb2.mono hbw.size)
 have hA2 : Qu w2 w.heap.size ⟨.int .i64 o.k, .int .i64 o.n, slW p.1, slW p.2, .int .i64 o.l, .int .i64 o.r⟩ := Qu.below (q := ⟨.int .i64 o.k, .int .i64 o.n, slW p.1, slW p.2, .int .i64 o.l, .int .i64 o.r⟩) ⟨a0, a1, a2, a3, a4, a5⟩ hb2 (World.block_lt_of_cell? w1 ⟨w.heap.size, 0, none⟩ a0)
 have hC2 : Qu w2 (w.heap.size + 1) ⟨.int .i64 o.k, .int .i64 o.n, slW q.1, slW q.2, .int .i64 o.l, .int .i64 o.r⟩ := Qu.below (q := ⟨.int .i64 o.k, .int .i64 o.n, slW q.1, slW q.2, .int .i64 o.l, .int .i64 o.r⟩) ⟨c0, c1, c2, c3, c4, c5⟩ hb2 (World.block_lt_of_cell? w1 ⟨w.heap.size + 1, 0, none⟩ c0)
 clear HC2 hb2 hbw a0 a1 a2 a3 a4 a5 c0 c1 c2 c3 c4 c5
 obtain ⟨a0, a1, a2, a3, a4, a5⟩ := hA2
 obtain ⟨c0, c1, c2, c3, c4, c5⟩ := hC2
 dsimp only at a0 a1 a2 a3 a4 a5 c0 c1 c2 c3 c4 c5
 go_wp2
 go_ret
 exact ⟨rfl, hbw2⟩
end Go.Proofs.YtjogclofjollnaaGreatDoor
