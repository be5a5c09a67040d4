/- The fault of an op, in plain words: which of its things its kind has, its names, its numbers; with no program in it · Ops: the laws' helpers: an op's size, a copy, whether two are the same; no conditions beyond those that each fact names. -/
import Derived.Test.YtejbbnpgghpgaaaGreatDoorOpo
import Derived.Test.YtejbbnpgghpgaaaGreatDoorSmnToBxf
import Derived.Test.YtejbbnpgghpgaaaGreatDoorMsbToBxs
import Derived.Test.YtejbbnpgghpgaaaGreatDoorBytIToStw
namespace Go.Proofs.YtejbbnpgghpgaaaGreatDoor
open Go.RowKit
def h0B (o : OpR) : Bool := decide (o.t.size ≠ 0)
def h1B (o : OpR) : Bool := decide (o.u.length ≠ 0)
def h2B (o : OpR) : Bool := decide (o.m ≠ 0)
def h3B (o : OpR) : Bool := decide (o.f ≠ 0)
def h4B (o : OpR) : Bool := decide (o.d ≠ 0)
def h5B (o : OpR) : Bool := decide (o.b.length ≠ 0)
def cpK (k : Int) : Bool := decide (k = 5 ∨ k = 6)
def fmK (k : Int) (p0 p1 p2 p3 p4 p5 : Bool) : Bool :=
  (cpK k || !p0) && (cpK k || decide (k = 4) || !p1) && (decide (k = 4) || !p2) && (decide (k = 3) || !p4 && !p5) && (decide (k = 3) || decide (k = 4) || !p3)
def fmV (o : OpR) : Bool := bt o.k 1 7 && fmK o.k (h0B o) (h1B o) (h2B o) (h3B o) (h4B o) (h5B o)
def riU (a : Int) : List Int → Bool
  | [] => true
  | x :: l => bt x (a + 1) 999 && riU x l
def rgV (o : OpR) : Bool := riU 0 o.u && (!decide (o.k = 4) || bt o.m 1 3) && bt o.f 0 15 && bt o.d 0 9999
def ofV (o : OpR) : Int :=
  if fmV o = true then
    if bnOk (txB o.x) = true ∧ (cpK o.k = true → bnOk (txB o.t) = true) then
      if 6 < o.u.length then 2 else if rgV o = true then (if 400 < o.b.length then 2 else 0) else 3
    else 5
  else 1
def khZ : List Int := [0, 0, 0, 56, 14, 3, 3, 0]
def b2i (p : Bool) (n : Int) : Int := if p then n else 0
def bitZ (p0 p1 p2 p3 p4 p5 : Bool) : Int := b2i p0 1 + b2i p1 2 + b2i p2 4 + b2i p3 8 + b2i p4 16 + b2i p5 32
def bitUp (l : List Bool) : Nat → Int
  | 0 => 0
  | k + 1 => bitUp l k + b2i (l.getD k false) (2 ^ k)
theorem bitUp_all (p0 p1 p2 p3 p4 p5 : Bool) : bitUp [p0, p1, p2, p3, p4, p5] 6 = bitZ p0 p1 p2 p3 p4 p5 := by
  revert p0 p1 p2 p3 p4 p5; decide
end Go.Proofs.YtejbbnpgghpgaaaGreatDoor
namespace Go.Proofs.YtejbbnpgghpgaaaGreatDoor
open Go.RowKit
def FtO (o : OpR) : Prop := o.x.size ≤ 1048576 ∧ o.t.size ≤ 1048576 ∧ o.u.length ≤ 1048576 ∧ o.b.length ≤ 1048576
def OkO (o : OpR) : Prop := o.x.size ≤ maxLen ∧ o.t.size ≤ maxLen
theorem szInt64S_any (s : SlQ) (left : Int) (w : World) (h0 : 0 ≤ left) (h1 : left ≤ 1048576) (hn : s.2.1 ≤ maxLen) :
    Calls Tryz.prog 53 #[slW s, .int .i64 left] w fun e w' => SzQ left (s.2.1 ≤ 1048576) w e w' := by
  obtain ⟨a, n, cap⟩ := s
  dsimp only at *
  unfold maxLen at hn
  by_cases c1 : left - (n : Int) < 0
  · go_enter Tryz.func53, Tryz.ntmps53
    go_wp2
    go_ret
    exact ⟨-1, rfl, .inl rfl, by go_grown⟩
  · go_enter Tryz.func53, Tryz.ntmps53
    go_wp2
    go_ret
    exact ⟨left - (n : Int), rfl, .inr ⟨by omega, by omega, by omega⟩, by go_grown⟩
theorem toIl_any (s : SlQ) (l : List Int) {lo : Nat} (w : World) (hs : IsIl lo w s l) (hn : l.length ≤ 1048576) :
    Calls Tryz.prog 60 #[slW s] w fun e w' => ∃ s', e = .returned (slW s') ∧ IsIl w.heap.size w' s' l ∧ Below w.heap.size w w' :=
  (toInt64S_any s.1 s.2.1 s.2.2 l w hs.1 hs.2.2.2.1 (by rw [← hs.1]; exact hn)).mono fun _ _ ⟨he, ho, hb⟩ => ⟨(some ⟨w.heap.size, 0, none⟩, s.2.1, s.2.1), he, ⟨hs.1, Nat.le_refl _, by dsimp only; rw [← hs.1]; unfold maxLen; omega, RdI.own ho, fun x hx => by cases hx; exact Nat.le_refl _⟩, hb⟩
theorem toSl_any (s : SlQ) (l : List Nat) {lo : Nat} (w : World) (hs : IsSl lo w s l) (hn : l.length ≤ 1048576) :
    Calls Tryz.prog 61 #[slW s] w fun e w' => ∃ s', e = .returned (slW s') ∧ IsSl w.heap.size w' s' l ∧ Below w.heap.size w w' :=
  (toByteS_any s.1 s.2.1 s.2.2 l w hs.1 hs.2.2.2.2.1 (by rw [← hs.1]; exact hn)).mono fun _ _ ⟨he, ho, hb⟩ => ⟨(some ⟨w.heap.size, 0, none⟩, s.2.1, s.2.1), he, ⟨hs.1, Nat.le_refl _, by dsimp only; rw [← hs.1]; unfold maxLen; omega, hs.2.2.2.1, Rd.own ho, fun x hx => by cases hx; exact Nat.le_refl _⟩, hb⟩
theorem eqIl_same (s s' : SlQ) (l : List Int) {lo lo' : Nat} (w : World) (hs : IsIl lo w s l) (hs' : IsIl lo' w s' l) (hn : l.length ≤ 1048576) :
    Calls Tryz.prog 66 #[slW s, slW s'] w fun e w' => e = .returned (.bool true) ∧ Below w.heap.size w w' := by
  have he : s'.2.1 = s.2.1 := by rw [← hs.1, ← hs'.1]
  have := eqInt64S_same s.1 s'.1 s.2.1 s.2.2 s'.2.2 l w hs.1 hs.2.2.2.1 hs'.2.2.2.1 (by rw [← hs.1]; exact hn)
  unfold slW
  rw [he]
  exact this
theorem eqSl_same (s s' : SlQ) (l : List Nat) {lo lo' : Nat} (w : World) (hs : IsSl lo w s l) (hs' : IsSl lo' w s' l) (hn : l.length ≤ 1048576) :
    Calls Tryz.prog 68 #[slW s, slW s'] w fun e w' => e = .returned (.bool true) ∧ Below w.heap.size w w' := by
  have he : s'.2.1 = s.2.1 := by rw [← hs.1, ← hs'.1]
  have := eqByteS_same s.1 s'.1 s.2.1 s.2.2 s'.2.2 l w hs.1 hs.2.2.2.2.1 hs'.2.2.2.2.1 (by rw [← hs.1]; exact hn)
  unfold slW
  rw [he]
  exact this
set_option maxHeartbeats 1600000 in
set_option maxRecDepth 100000 in
theorem szOp_ft (o : OpR) (p : SlO) (left : Int) {lo : Nat} (w : World) (h0 : 0 ≤ left) (h1 : left ≤ 1048576) (hs : IsOp lo w p o) (hok : OkO o) :
    Calls Tryz.prog 13 #[opX o p, .int .i64 left] w fun e w' => SzQ left (FtO o) w e w' := by
  have hb0 : Below w.heap.size w (w.alloc (.cells #[.int .i64 o.k, .string o.x, .string o.t, slW p.1, .int .i64 o.m, .int .i64 o.f, .int .i64 o.d, slW p.2] 28)) := (Below.refl _ _).alloc (Nat.le_refl _) _
  obtain ⟨hok1, hok2⟩ := hok
  unfold maxLen at hok1 hok2
  have hu := hs.1.1
  have hbl := hs.2.1
  have hm1 : p.1.2.1 ≤ maxLen := Nat.le_trans hs.1.2.1 hs.1.2.2.1
  have hm2 : p.2.2.1 ≤ maxLen := Nat.le_trans hs.2.2.1 hs.2.2.2.1
  by_cases c1 : left - (o.x.size : Int) < 0
  · go_enter Tryz.func13, Tryz.ntmps13
    go_wp2
    go_ret
    exact ⟨-1, rfl, .inl rfl, hb0⟩
  by_cases c2 : left - (o.x.size : Int) - (o.t.size : Int) < 0
  · go_enter Tryz.func13, Tryz.ntmps13
    go_wp2
    go_ret
    exact ⟨-1, rfl, .inl rfl, hb0⟩
  have hZ0 := Qo.new w (.int .i64 o.k) (.string o.x) (.string o.t) (slW p.1) (.int .i64 o.m) (.int .i64 o.f) (.int .i64 o.d) (slW p.2) 28
  have HC := szInt64S_any p.1 (left - (o.x.size : Int) - (o.t.size : Int)) (w.alloc (.cells #[.int .i64 o.k, .string o.x, .string o.t, slW p.1, .int .i64 o.m, .int .i64 o.f, .int .i64 o.d, slW p.2] 28)) (by omega) (by omega) hm1
  go_enter Tryz.func13, Tryz.ntmps13
  go_wp2_with fail
  refine HC.mono ?_
  rintro e w1 ⟨r, rfl, hcase, hb1⟩
  have hbw := hb0.trans (hb1.mono hb0.size)
  have hZ1 := hZ0.below hb1 hZ0.lt
  clear HC hb0 hb1 hZ0
  rcases hcase with rfl | ⟨q0, q1, q2⟩
  · go_wp2
    go_ret
    exact ⟨-1, rfl, .inl rfl, hbw⟩
  · have hneg : ¬ r < 0 := by omega
    obtain ⟨e0, e1, e2, e3, e4, e5, e6, e7⟩ := hZ1
    dsimp only at e0 e1 e2 e3 e4 e5 e6 e7
    have HC := szByteS_any p.2 r w1 q0 (by omega) hm2
    have q1' : Hid (r ≤ left ∧ p.1.2.1 ≤ 1048576) := ⟨by omega, q2⟩
    clear q1 q2
    go_wp2_with fail
    refine HC.mono ?_
    rintro e w2 ⟨r', rfl, hcase, hb2⟩
    have hbw2 := hbw.trans (hb2.mono hbw.size)
    clear HC hb2 hbw
    rcases hcase with rfl | ⟨y0, y1, y2⟩
    · go_wp2
      go_ret
      exact ⟨-1, rfl, .inl rfl, hbw2⟩
    · have hneg' : ¬ r' < 0 := by omega
      have HF : Hid (r' ≤ left ∧ FtO o) := by
        have h := q1'.out
        exact ⟨by omega, by omega, by omega, by omega, by omega⟩
      clear y1 y2 q1'
      go_wp2
      go_ret
      exact ⟨r', rfl, .inr ⟨y0, HF.out⟩, hbw2⟩
set_option maxHeartbeats 1600000 in
set_option maxRecDepth 100000 in
theorem toOp_ft (o : OpR) (p : SlO) {lo : Nat} (w : World) (hs : IsOp lo w p o) (hf : FtO o) :
    Calls Tryz.prog 16 #[opX o p] w fun e w' => ∃ p', e = .returned (opX o p') ∧ IsOp w.heap.size w' p' o ∧ Below w.heap.size w w' := by
  have hbW : Below w.heap.size w (((w.alloc (.cells #[.int .i64 o.k, .string o.x, .string o.t, slW p.1, .int .i64 o.m, .int .i64 o.f, .int .i64 o.d, slW p.2] 28)).alloc (.cells #[.int .i64 0, .string ⟨#[]⟩, .string ⟨#[]⟩, .slice none 0 0, .int .i64 0, .int .i64 0, .int .i64 0, .slice none 0 0] 38)).alloc (.cells #[.int .i64 o.k, .string o.x, .string o.t, .slice none 0 0, .int .i64 0, .int .i64 0, .int .i64 0, .slice none 0 0] 38)) :=
    (((Below.refl _ _).alloc (Nat.le_refl _) _).alloc (by simp) _).alloc (by simp; omega) _
  have hsz : (((w.alloc (.cells #[.int .i64 o.k, .string o.x, .string o.t, slW p.1, .int .i64 o.m, .int .i64 o.f, .int .i64 o.d, slW p.2] 28)).alloc (.cells #[.int .i64 0, .string ⟨#[]⟩, .string ⟨#[]⟩, .slice none 0 0, .int .i64 0, .int .i64 0, .int .i64 0, .slice none 0 0] 38)).alloc (.cells #[.int .i64 o.k, .string o.x, .string o.t, .slice none 0 0, .int .i64 0, .int .i64 0, .int .i64 0, .slice none 0 0] 38)).heap.size = w.heap.size + 3 := by simp
  have hA : Qo (((w.alloc (.cells #[.int .i64 o.k, .string o.x, .string o.t, slW p.1, .int .i64 o.m, .int .i64 o.f, .int .i64 o.d, slW p.2] 28)).alloc (.cells #[.int .i64 0, .string ⟨#[]⟩, .string ⟨#[]⟩, .slice none 0 0, .int .i64 0, .int .i64 0, .int .i64 0, .slice none 0 0] 38)).alloc (.cells #[.int .i64 o.k, .string o.x, .string o.t, .slice none 0 0, .int .i64 0, .int .i64 0, .int .i64 0, .slice none 0 0] 38)) w.heap.size ⟨.int .i64 o.k, .string o.x, .string o.t, slW p.1, .int .i64 o.m, .int .i64 o.f, .int .i64 o.d, slW p.2⟩ := ((Qo.new w _ _ _ _ _ _ _ _ _).below ((Below.refl _ _).alloc (Nat.le_refl _) _) (by simp)).below ((Below.refl _ _).alloc (Nat.le_refl _) _) (by simp; omega)
  have hR : Qo (((w.alloc (.cells #[.int .i64 o.k, .string o.x, .string o.t, slW p.1, .int .i64 o.m, .int .i64 o.f, .int .i64 o.d, slW p.2] 28)).alloc (.cells #[.int .i64 0, .string ⟨#[]⟩, .string ⟨#[]⟩, .slice none 0 0, .int .i64 0, .int .i64 0, .int .i64 0, .slice none 0 0] 38)).alloc (.cells #[.int .i64 o.k, .string o.x, .string o.t, .slice none 0 0, .int .i64 0, .int .i64 0, .int .i64 0, .slice none 0 0] 38)) (w.heap.size + 1) ⟨.int .i64 0, .string ⟨#[]⟩, .string ⟨#[]⟩, .slice none 0 0, .int .i64 0, .int .i64 0, .int .i64 0, .slice none 0 0⟩ := by
    have h := (Qo.new (w.alloc (.cells #[.int .i64 o.k, .string o.x, .string o.t, slW p.1, .int .i64 o.m, .int .i64 o.f, .int .i64 o.d, slW p.2] 28)) (.int .i64 0) (.string ⟨#[]⟩) (.string ⟨#[]⟩) (.slice none 0 0) (.int .i64 0) (.int .i64 0) (.int .i64 0) (.slice none 0 0) 38).below ((Below.refl _ _).alloc (Nat.le_refl _) (.cells #[.int .i64 o.k, .string o.x, .string o.t, .slice none 0 0, .int .i64 0, .int .i64 0, .int .i64 0, .slice none 0 0] 38)) (by simp)
    simpa using h
  have hO : Qo (((w.alloc (.cells #[.int .i64 o.k, .string o.x, .string o.t, slW p.1, .int .i64 o.m, .int .i64 o.f, .int .i64 o.d, slW p.2] 28)).alloc (.cells #[.int .i64 0, .string ⟨#[]⟩, .string ⟨#[]⟩, .slice none 0 0, .int .i64 0, .int .i64 0, .int .i64 0, .slice none 0 0] 38)).alloc (.cells #[.int .i64 o.k, .string o.x, .string o.t, .slice none 0 0, .int .i64 0, .int .i64 0, .int .i64 0, .slice none 0 0] 38)) (w.heap.size + 1 + 1) ⟨.int .i64 o.k, .string o.x, .string o.t, .slice none 0 0, .int .i64 0, .int .i64 0, .int .i64 0, .slice none 0 0⟩ := by
    have h := (Qo.new ((w.alloc (.cells #[.int .i64 o.k, .string o.x, .string o.t, slW p.1, .int .i64 o.m, .int .i64 o.f, .int .i64 o.d, slW p.2] 28)).alloc (.cells #[.int .i64 0, .string ⟨#[]⟩, .string ⟨#[]⟩, .slice none 0 0, .int .i64 0, .int .i64 0, .int .i64 0, .slice none 0 0] 38)) (.int .i64 o.k) (.string o.x) (.string o.t) (.slice none 0 0) (.int .i64 0) (.int .i64 0) (.int .i64 0) (.slice none 0 0) 38)
    simpa using h
  have fR : Fo (((w.alloc (.cells #[.int .i64 o.k, .string o.x, .string o.t, slW p.1, .int .i64 o.m, .int .i64 o.f, .int .i64 o.d, slW p.2] 28)).alloc (.cells #[.int .i64 0, .string ⟨#[]⟩, .string ⟨#[]⟩, .slice none 0 0, .int .i64 0, .int .i64 0, .int .i64 0, .slice none 0 0] 38)).alloc (.cells #[.int .i64 o.k, .string o.x, .string o.t, .slice none 0 0, .int .i64 0, .int .i64 0, .int .i64 0, .slice none 0 0] 38)) (w.heap.size + 1) := by
    have h := (Fo.new (w.alloc (.cells #[.int .i64 o.k, .string o.x, .string o.t, slW p.1, .int .i64 o.m, .int .i64 o.f, .int .i64 o.d, slW p.2] 28)) (.int .i64 0) (.string ⟨#[]⟩) (.string ⟨#[]⟩) (.slice none 0 0) (.int .i64 0) (.int .i64 0) (.int .i64 0) (.slice none 0 0) 38).below ((Below.refl _ _).alloc (Nat.le_refl _) (.cells #[.int .i64 o.k, .string o.x, .string o.t, .slice none 0 0, .int .i64 0, .int .i64 0, .int .i64 0, .slice none 0 0] 38)) (by simp)
    simpa using h
  have fO : Fo (((w.alloc (.cells #[.int .i64 o.k, .string o.x, .string o.t, slW p.1, .int .i64 o.m, .int .i64 o.f, .int .i64 o.d, slW p.2] 28)).alloc (.cells #[.int .i64 0, .string ⟨#[]⟩, .string ⟨#[]⟩, .slice none 0 0, .int .i64 0, .int .i64 0, .int .i64 0, .slice none 0 0] 38)).alloc (.cells #[.int .i64 o.k, .string o.x, .string o.t, .slice none 0 0, .int .i64 0, .int .i64 0, .int .i64 0, .slice none 0 0] 38)) (w.heap.size + 1 + 1) := by
    have h := (Fo.new ((w.alloc (.cells #[.int .i64 o.k, .string o.x, .string o.t, slW p.1, .int .i64 o.m, .int .i64 o.f, .int .i64 o.d, slW p.2] 28)).alloc (.cells #[.int .i64 0, .string ⟨#[]⟩, .string ⟨#[]⟩, .slice none 0 0, .int .i64 0, .int .i64 0, .int .i64 0, .slice none 0 0] 38)) (.int .i64 o.k) (.string o.x) (.string o.t) (.slice none 0 0) (.int .i64 0) (.int .i64 0) (.int .i64 0) (.slice none 0 0) 38)
    simpa using h
  have HC := toIl_any p.1 o.u _ (hs.1.below hbW) hf.2.2.1
  go_enter Tryz.func16, Tryz.ntmps16
  go_wp2_with fail
  generalize ((w.alloc (.cells #[.int .i64 o.k, .string o.x, .string o.t, slW p.1, .int .i64 o.m, .int .i64 o.f, .int .i64 o.d, slW p.2] 28)).alloc (.cells #[.int .i64 0, .string ⟨#[]⟩, .string ⟨#[]⟩, .slice none 0 0, .int .i64 0, .int .i64 0, .int .i64 0, .slice none 0 0] 38)).alloc (.cells #[.int .i64 o.k, .string o.x, .string o.t, .slice none 0 0, .int .i64 0, .int .i64 0, .int .i64 0, .slice none 0 0] 38) = W at *
  refine HC.mono ?_
  rintro e w1 ⟨s1, rfl, hI1, hb1⟩
  rw [hsz] at hI1
  have hA1 := hA.below hb1 (by omega)
  have hR1 := hR.below hb1 (by omega)
  have hO1 := hO.below hb1 (by omega)
  have fR1 := fR.below hb1 (by omega)
  have fO1 := fO.below hb1 (by omega)
  have hz1 : w.heap.size + 3 ≤ w1.heap.size := by rw [← hsz]; exact hb1.size
  have hB1 : Below w.heap.size w w1 := hbW.trans (hb1.mono (by omega))
  clear HC hA hR hO fR fO hb1 hsz hbW W
  have hO2 := (((hO1.put3 (slW s1)).put4 (.int .i64 o.m)).put5 (.int .i64 o.f)).put6 (.int .i64 o.d)
  have fO2 := (((fO1.set ⟨w.heap.size + 1 + 1, 3, none⟩ (slW s1)).set ⟨w.heap.size + 1 + 1, 4, none⟩ (.int .i64 o.m)).set ⟨w.heap.size + 1 + 1, 5, none⟩ (.int .i64 o.f)).set ⟨w.heap.size + 1 + 1, 6, none⟩ (.int .i64 o.d)
  have hR2 := (((hR1.far (w.heap.size + 1 + 1) 3 (slW s1) (by omega)).far (w.heap.size + 1 + 1) 4 (.int .i64 o.m) (by omega)).far (w.heap.size + 1 + 1) 5 (.int .i64 o.f) (by omega)).far (w.heap.size + 1 + 1) 6 (.int .i64 o.d) (by omega)
  have fR2 := (((fR1.set ⟨w.heap.size + 1 + 1, 3, none⟩ (slW s1)).set ⟨w.heap.size + 1 + 1, 4, none⟩ (.int .i64 o.m)).set ⟨w.heap.size + 1 + 1, 5, none⟩ (.int .i64 o.f)).set ⟨w.heap.size + 1 + 1, 6, none⟩ (.int .i64 o.d)
  have hB2 : Below w.heap.size w ((((w1.setCell ⟨w.heap.size + 1 + 1, 3, none⟩ (slW s1)).setCell ⟨w.heap.size + 1 + 1, 4, none⟩ (.int .i64 o.m)).setCell ⟨w.heap.size + 1 + 1, 5, none⟩ (.int .i64 o.f)).setCell ⟨w.heap.size + 1 + 1, 6, none⟩ (.int .i64 o.d)) := (((hB1.setCell (by simp; omega) _).setCell (by simp; omega) _).setCell (by simp; omega) _).setCell (by simp; omega) _
  have hI2 := hI1.near ((((Near.set (j := 3) (slW s1) (show w.heap.size + 1 + 1 < w.heap.size + 3 by omega)).trans (Near.set (g := w.heap.size + 1 + 1) (j := 4) (.int .i64 o.m) (by omega))).trans (Near.set (g := w.heap.size + 1 + 1) (j := 5) (.int .i64 o.f) (by omega))).trans (Near.set (g := w.heap.size + 1 + 1) (j := 6) (.int .i64 o.d) (by omega)))
  have hz2 : w.heap.size + 3 ≤ ((((w1.setCell ⟨w.heap.size + 1 + 1, 3, none⟩ (slW s1)).setCell ⟨w.heap.size + 1 + 1, 4, none⟩ (.int .i64 o.m)).setCell ⟨w.heap.size + 1 + 1, 5, none⟩ (.int .i64 o.f)).setCell ⟨w.heap.size + 1 + 1, 6, none⟩ (.int .i64 o.d)).heap.size := by simpa using hz1
  obtain ⟨a0, a1, a2, a3, a4, a5, a6, a7⟩ := hA1
  obtain ⟨o0, o1, o2, o3, o4, o5, o6, o7⟩ := hO1
  obtain ⟨f0, f1, f2, f3, f4, f5, f6, f7⟩ := fO1
  dsimp only at a0 a1 a2 a3 a4 a5 a6 a7 o0 o1 o2 o3 o4 o5 o6 o7
  clear hR1 fR1 hI1 hB1 hz1
  have HK : Hid (_) := And.intro hO2 (And.intro fO2 (And.intro hR2 (And.intro fR2 (And.intro hB2 (And.intro hI2 hz2)))))
  clear hO2 fO2 hR2 fR2 hB2 hI2 hz2
  go_wp2_with fail
  obtain ⟨hO2, fO2, hR2, fR2, hB2, hI2, hz2⟩ := HK.out
  clear HK a0 a1 a2 a3 a4 a5 a6 a7 o0 o1 o2 o3 o4 o5 o6 o7 f0 f1 f2 f3 f4 f5 f6 f7
  generalize ((((w1.setCell ⟨w.heap.size + 1 + 1, 3, none⟩ (slW s1)).setCell ⟨w.heap.size + 1 + 1, 4, none⟩ (.int .i64 o.m)).setCell ⟨w.heap.size + 1 + 1, 5, none⟩ (.int .i64 o.f)).setCell ⟨w.heap.size + 1 + 1, 6, none⟩ (.int .i64 o.d)) = W2 at *
  refine (toSl_any p.2 o.b W2 (hs.2.below hB2) hf.2.2.2).mono ?_
  rintro e w3 ⟨s3, rfl, hI3, hb3⟩
  have hz3 : w.heap.size + 3 ≤ w3.heap.size := Nat.le_trans hz2 hb3.size
  have hR3 := hR2.below hb3 hR2.lt
  have hO3 := hO2.below hb3 hO2.lt
  have fR3 := fR2.below hb3 hR2.lt
  have fO3 := fO2.below hb3 hO2.lt
  have hB3 : Below w.heap.size w w3 := hB2.trans (hb3.mono hB2.size)
  have hI3' := hI3.low (lo' := w.heap.size + 3) hz2
  have hI2' := hI2.below hb3
  clear hI2 hI3 hb3 hz2 hR2 fR2 hB2 hO2 fO2 W2
  have hO4 := hO3.put7 (slW s3)
  have hR4 := hR3.far (w.heap.size + 1 + 1) 7 (slW s3) (by omega)
  have hR5 := (((((((hR4.put0 (.int .i64 o.k)).put1 (.string o.x)).put2 (.string o.t)).put3 (slW s1)).put4 (.int .i64 o.m)).put5 (.int .i64 o.f)).put6 (.int .i64 o.d)).put7 (slW s3)
  obtain ⟨q0, q1, q2, q3, q4, q5, q6, q7⟩ := hR5
  obtain ⟨o0, o1, o2, o3, o4, o5, o6, o7⟩ := hO3
  obtain ⟨f0, f1, f2, f3, f4, f5, f6, f7⟩ := fO3
  obtain ⟨r0, r1, r2, r3, r4, r5, r6, r7⟩ := hR3
  obtain ⟨y0, y1, y2, y3, y4, y5, y6, y7⟩ := fR3
  obtain ⟨k0, k1, k2, k3, k4, k5, k6, k7⟩ := hO4
  dsimp only at q0 q1 q2 q3 q4 q5 q6 q7 o0 o1 o2 o3 o4 o5 o6 o7 r0 r1 r2 r3 r4 r5 r6 r7 k0 k1 k2 k3 k4 k5 k6 k7
  have HS : Hid (IsIl (w.heap.size + 3) w3 s1 o.u ∧ IsSl (w.heap.size + 3) w3 s3 o.b) := ⟨hI2', hI3'⟩
  have hg1 : w.heap.size + 1 + 1 ≠ w.heap.size + 1 := by omega
  clear hI2' hI3' hs hR4
  go_wp2
  refine bodyPost_ret (v := .agg #[.int .i64 o.k, .string o.x, .string o.t, slW s1, .int .i64 o.m, .int .i64 o.f, .int .i64 o.d, slW s3]) (by simp [results, Tryz.results16, go_sem, q0, q1, q2, q3, q4, q5, q6, q7]) rfl ?_
  have hN : Near (w.heap.size + 3) w3 (((((((((w3.setCell ⟨w.heap.size + 1 + 1, 7, none⟩ (slW s3)).setCell ⟨w.heap.size + 1, 0, none⟩ (.int .i64 o.k)).setCell ⟨w.heap.size + 1, 1, none⟩ (.string o.x)).setCell ⟨w.heap.size + 1, 2, none⟩ (.string o.t)).setCell ⟨w.heap.size + 1, 3, none⟩ (slW s1)).setCell ⟨w.heap.size + 1, 4, none⟩ (.int .i64 o.m)).setCell ⟨w.heap.size + 1, 5, none⟩ (.int .i64 o.f)).setCell ⟨w.heap.size + 1, 6, none⟩ (.int .i64 o.d)).setCell ⟨w.heap.size + 1, 7, none⟩ (slW s3)) :=
    ((((((((Near.set _ (by omega)).trans (Near.set _ (by omega))).trans (Near.set _ (by omega))).trans (Near.set _ (by omega))).trans (Near.set _ (by omega))).trans (Near.set _ (by omega))).trans (Near.set _ (by omega))).trans (Near.set _ (by omega))).trans (Near.set _ (by omega))
  refine ⟨(s1, s3), rfl, ⟨(HS.out.1.near hN).low (by omega), (HS.out.2.near hN).low (by omega)⟩, ?_⟩
  exact ((((((((hB3.setCell (by simp; omega) _).setCell (by simp) _).setCell (by simp) _).setCell (by simp) _).setCell (by simp) _).setCell (by simp) _).setCell (by simp) _).setCell (by simp) _).setCell (by simp) _
set_option maxHeartbeats 1600000 in
set_option maxRecDepth 100000 in
theorem eqOp_ft (o : OpR) (p q : SlO) {lo lo' : Nat} (w : World) (hs : IsOp lo w p o) (hs' : IsOp lo' w q o) (hf : FtO o) :
    Calls Tryz.prog 20 #[opX o p, opX o q] w fun e w' => e = .returned (.bool true) ∧ Below w.heap.size w w' := by
  have hbW : Below w.heap.size w ((w.alloc (.cells #[.int .i64 o.k, .string o.x, .string o.t, slW p.1, .int .i64 o.m, .int .i64 o.f, .int .i64 o.d, slW p.2] 38)).alloc (.cells #[.int .i64 o.k, .string o.x, .string o.t, slW q.1, .int .i64 o.m, .int .i64 o.f, .int .i64 o.d, slW q.2] 38)) :=
    ((Below.refl _ _).alloc (Nat.le_refl _) _).alloc (by simp) _
  have hA := (Qo.new w (.int .i64 o.k) (.string o.x) (.string o.t) (slW p.1) (.int .i64 o.m) (.int .i64 o.f) (.int .i64 o.d) (slW p.2) 38).below ((Below.refl _ _).alloc (Nat.le_refl _) (.cells #[.int .i64 o.k, .string o.x, .string o.t, slW q.1, .int .i64 o.m, .int .i64 o.f, .int .i64 o.d, slW q.2] 38)) (by simp)
  have hC : Qo ((w.alloc (.cells #[.int .i64 o.k, .string o.x, .string o.t, slW p.1, .int .i64 o.m, .int .i64 o.f, .int .i64 o.d, slW p.2] 38)).alloc (.cells #[.int .i64 o.k, .string o.x, .string o.t, slW q.1, .int .i64 o.m, .int .i64 o.f, .int .i64 o.d, slW q.2] 38)) (w.heap.size + 1) ⟨.int .i64 o.k, .string o.x, .string o.t, slW q.1, .int .i64 o.m, .int .i64 o.f, .int .i64 o.d, slW q.2⟩ := by
    have h := Qo.new (w.alloc (.cells #[.int .i64 o.k, .string o.x, .string o.t, slW p.1, .int .i64 o.m, .int .i64 o.f, .int .i64 o.d, slW p.2] 38)) (.int .i64 o.k) (.string o.x) (.string o.t) (slW q.1) (.int .i64 o.m) (.int .i64 o.f) (.int .i64 o.d) (slW q.2) 38
    simpa using h
  have HC := eqIl_same p.1 q.1 o.u _ (hs.1.below hbW) (hs'.1.below hbW) hf.2.2.1
  have hs2 := hs.2.below hbW
  have hs2' := hs'.2.below hbW
  go_enter Tryz.func20, Tryz.ntmps20
  go_wp2_with fail
  generalize (w.alloc (.cells #[.int .i64 o.k, .string o.x, .string o.t, slW p.1, .int .i64 o.m, .int .i64 o.f, .int .i64 o.d, slW p.2] 38)).alloc (.cells #[.int .i64 o.k, .string o.x, .string o.t, slW q.1, .int .i64 o.m, .int .i64 o.f, .int .i64 o.d, slW q.2] 38) = W at *
  refine HC.mono ?_
  rintro e w1 ⟨rfl, hb1⟩
  have hbw := hbW.trans (hb1.mono hbW.size)
  have hA1 := hA.below hb1 hA.lt
  have hC1 := hC.below hb1 hC.lt
  have HC2 := eqSl_same p.2 q.2 o.b _ (hs2.below hb1) (hs2'.below hb1) hf.2.2.2
  obtain ⟨a0, a1, a2, a3, a4, a5, a6, a7⟩ := hA1
  obtain ⟨c0, c1, c2, c3, c4, c5, c6, c7⟩ := hC1
  dsimp only at a0 a1 a2 a3 a4 a5 a6 a7 c0 c1 c2 c3 c4 c5 c6 c7
  clear HC hb1 hbW hA hC W hs hs' hs2 hs2'
  go_wp2_with fail
  refine HC2.mono ?_
  rintro e w2 ⟨rfl, hb2⟩
  have hbw2 := hbw.trans (hb2.mono hbw.size)
  clear HC2 hb2 hbw
  go_wp2
  go_ret
  exact ⟨rfl, hbw2⟩
end Go.Proofs.YtejbbnpgghpgaaaGreatDoor
