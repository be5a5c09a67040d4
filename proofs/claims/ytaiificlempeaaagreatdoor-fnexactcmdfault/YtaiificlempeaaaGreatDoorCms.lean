/- Commands: the laws' helpers: a command's size, a copy, whether two are the same; no conditions beyond those that each fact names. -/
import Derived.Test.YtaiificlempeaaaGreatDoorCmo
import Derived.Test.YtaiificlempeaaaGreatDoorTmt
namespace Go.Proofs.YtaiificlempeaaaGreatDoor
open Go.RowKit

/-- What the laws let through. -/
def FtC (o : CmR) : Prop := o.t.size ≤ 1048576 ∧ o.n.size ≤ 1048576 ∧ o.y.length ≤ 1048576 ∧ o.b.length ≤ 1048576 ∧ o.p.length ≤ 1048576 ∧ FtUs o.u
set_option maxHeartbeats 1600000 in
set_option maxRecDepth 100000 in
theorem szCmd_ft (o : CmR) (p : SlC) (left : Int) {lo : Nat} (w : World) (h0 : 0 ≤ left) (h1 : left ≤ 1048576) (hs : IsCm lo w p o) (hok : OkC o) :
    Calls Tryz.prog 4 #[cmX o p, .int .i64 left] w fun e w' => SzQ left (FtC o) w e w' := by
  have hb0 : Below w.heap.size w (w.alloc (.cells #[.string o.t, .int .i64 o.k, .string o.n, slW p.1, .int .i64 o.m, .int .i64 o.f, .int .i64 o.d, slW p.2.1, .int .i64 o.h, slW p.2.2.1, .int .i64 o.e, .bool o.r, slW p.2.2.2, .int .i64 o.c] 27)) := (Below.refl _ _).alloc (Nat.le_refl _) _
  obtain ⟨hok1, hok2⟩ := hok
  unfold maxLen at hok1 hok2
  have hm1 : p.1.2.1 ≤ maxLen := Nat.le_trans hs.1.2.1 hs.1.2.2.1
  have hm2 : p.2.1.2.1 ≤ maxLen := Nat.le_trans hs.2.1.2.1 hs.2.1.2.2.1
  have hm3 : p.2.2.1.2.1 ≤ maxLen := Nat.le_trans hs.2.2.1.2.1 hs.2.2.1.2.2.1
  have hl1 := hs.1.1
  have hl2 := hs.2.1.1
  have hl3 := hs.2.2.1.1
  have hT := hs.2.2.2
  clear hs
  by_cases c1 : left - (o.t.size : Int) < 0
  · go_enter Tryz.func4, Tryz.ntmps4
    go_wp2
    go_ret
    exact ⟨-1, rfl, .inl rfl, hb0⟩
  by_cases c2 : left - (o.t.size : Int) - (o.n.size : Int) < 0
  · go_enter Tryz.func4, Tryz.ntmps4
    go_wp2
    go_ret
    exact ⟨-1, rfl, .inl rfl, hb0⟩
  have hZ0 := Qm.new w (.string o.t) (.int .i64 o.k) (.string o.n) (slW p.1) (.int .i64 o.m) (.int .i64 o.f) (.int .i64 o.d) (slW p.2.1) (.int .i64 o.h) (slW p.2.2.1) (.int .i64 o.e) (.bool o.r) (slW p.2.2.2) (.int .i64 o.c) 27
  have HC := szYl_any p.1 (left - (o.t.size : Int) - (o.n.size : Int)) (w.alloc (.cells #[.string o.t, .int .i64 o.k, .string o.n, slW p.1, .int .i64 o.m, .int .i64 o.f, .int .i64 o.d, slW p.2.1, .int .i64 o.h, slW p.2.2.1, .int .i64 o.e, .bool o.r, slW p.2.2.2, .int .i64 o.c] 27)) (by omega) (by omega) hm1
  have hT0 := hT.below hb0
  clear hT
  go_enter Tryz.func4, Tryz.ntmps4
  go_wp2_with fail
  refine HC.mono ?_
  rintro e w1 ⟨r, rfl, hcase, hb1⟩
  have hbw := hb0.trans (hb1.mono hb0.size)
  have hZ1 := hZ0.below hb1 hZ0.lt
  have hT1 := hT0.below hb1
  clear HC hb0 hb1 hZ0 hT0
  rcases hcase with rfl | ⟨q0, q1, q2⟩
  · go_wp2
    go_ret
    exact ⟨-1, rfl, .inl rfl, hbw⟩
  have hneg : ¬ r < 0 := by omega
  have K1 : Hid (r ≤ left ∧ o.t.size ≤ 1048576 ∧ o.n.size ≤ 1048576 ∧ p.1.2.1 ≤ 1048576) := ⟨by omega, by omega, by omega, q2⟩
  have g1 : r ≤ 1048576 := by omega
  have HC := szByteS_any p.2.1 r w1 q0 g1 hm2
  have HZ : Hid (_) := And.intro hZ1 True.intro
  obtain ⟨e0, e1, e2, e3, e4, e5, e6, e7, e8, e9, e10, e11, e12, e13⟩ := hZ1
  dsimp only at e0 e1 e2 e3 e4 e5 e6 e7 e8 e9 e10 e11 e12 e13
  clear q1 q2 c1 c2 hneg
  have hneg : ¬ r < 0 := by omega
  go_wp2_with fail
  refine HC.mono ?_
  rintro e w2 ⟨r2, rfl, hcase, hb2⟩
  have hbw2 := hbw.trans (hb2.mono hbw.size)
  have hZ1 := HZ.out.1
  have hZ2 := hZ1.below hb2 hZ1.lt
  have hT2 := hT1.below hb2
  clear HC hb2 hbw hT1 HZ hZ1 e0 e1 e2 e3 e4 e5 e6 e7 e8 e9 e10 e11 e12 e13
  rcases hcase with rfl | ⟨q3, q4, q5⟩
  · go_wp2
    go_ret
    exact ⟨-1, rfl, .inl rfl, hbw2⟩
  have hneg2 : ¬ r2 < 0 := by omega
  have K2 : Hid (r2 ≤ left ∧ p.2.1.2.1 ≤ 1048576) := ⟨by have := K1.out.1; omega, q5⟩
  have g2 : r2 ≤ 1048576 := by omega
  have HC := szInt64S_any p.2.2.1 r2 w2 q3 g2 hm3
  have HZ : Hid (_) := And.intro hZ2 True.intro
  obtain ⟨e0, e1, e2, e3, e4, e5, e6, e7, e8, e9, e10, e11, e12, e13⟩ := hZ2
  dsimp only at e0 e1 e2 e3 e4 e5 e6 e7 e8 e9 e10 e11 e12 e13
  clear q4 q5 hneg q0 g1
  go_wp2_with fail
  refine HC.mono ?_
  rintro e w3 ⟨r3, rfl, hcase, hb3⟩
  have hbw3 := hbw2.trans (hb3.mono hbw2.size)
  have hZ2 := HZ.out.1
  have hZ3 := hZ2.below hb3 hZ2.lt
  have hT3 := hT2.below hb3
  clear HC hb3 hbw2 hT2 HZ hZ2 e0 e1 e2 e3 e4 e5 e6 e7 e8 e9 e10 e11 e12 e13
  rcases hcase with rfl | ⟨q6, q7, q8⟩
  · go_wp2
    go_ret
    exact ⟨-1, rfl, .inl rfl, hbw3⟩
  have hneg3 : ¬ r3 < 0 := by omega
  have K3 : Hid (r3 ≤ left ∧ p.2.2.1.2.1 ≤ 1048576) := ⟨by have := K2.out.1; omega, q8⟩
  have g3 : r3 ≤ 1048576 := by omega
  have HC := szTermS_ft p.2.2.2 o.u r3 w3 q6 g3 hT3
  obtain ⟨e0, e1, e2, e3, e4, e5, e6, e7, e8, e9, e10, e11, e12, e13⟩ := hZ3
  dsimp only at e0 e1 e2 e3 e4 e5 e6 e7 e8 e9 e10 e11 e12 e13
  clear q7 q8 hneg2 q3 g2
  go_wp2_with fail
  refine HC.mono ?_
  rintro e w4 ⟨r4, rfl, hcase, hb4⟩
  have hbw4 := hbw3.trans (hb4.mono hbw3.size)
  clear HC hb4 hbw3 hT3 e0 e1 e2 e3 e4 e5 e6 e7 e8 e9 e10 e11 e12 e13
  rcases hcase with rfl | ⟨q9, q10, q11⟩
  · go_wp2
    go_ret
    exact ⟨-1, rfl, .inl rfl, hbw4⟩
  have hneg4 : ¬ r4 < 0 := by omega
  have HF : Hid (r4 ≤ left ∧ FtC o) := by
    obtain ⟨a0, a1, a2, a3⟩ := K1.out
    obtain ⟨b0, b1⟩ := K2.out
    obtain ⟨d0, d1⟩ := K3.out
    exact ⟨by omega, a1, a2, by omega, by omega, by omega, q11⟩
  clear q10 q11 hneg3
  go_wp2
  go_ret
  exact ⟨r4, rfl, .inr ⟨q9, HF.out⟩, hbw4⟩
end Go.Proofs.YtaiificlempeaaaGreatDoor
