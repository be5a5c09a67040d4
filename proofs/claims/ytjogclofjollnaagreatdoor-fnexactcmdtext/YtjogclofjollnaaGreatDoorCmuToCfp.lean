/- Commands: the laws' holding of one against its copy; no conditions beyond those that each fact names · What a command of a kind has: plain functions and closed facts on bits · What a command has and what its kind may have: the program's toldIn and mayBeTold; no conditions beyond those that each fact names. -/
import Derived.Test.YtjogclofjollnaaGreatDoorTmtToCms
import Derived.Test.YtjogclofjollnaaGreatDoorCmo
import Derived.Test.YtjogclofjollnaaGreatDoorTmuToRgS
namespace Go.Proofs.YtjogclofjollnaaGreatDoor
open Go.RowKit
set_option maxHeartbeats 1600000 in
set_option maxRecDepth 100000 in
theorem eqCmd_ft (o : CmR) (p q : SlC) {lo lo' : Nat} (w : World) (hs : IsCm lo w p o) (hs' : IsCm lo' w q o) (hf : FtC o) :
  Calls Tryz.prog 9 #[cmX o p, cmX o q] w fun e w' => e = .returned (.bool true) ∧ Below w.heap.size w w' := by
 have hbW : Below w.heap.size w ((w.alloc (.cells #[.string o.t, .int .i64 o.k, .string o.n, slW p.1, .int .i64 o.m, .int .i64 o.f, .int .i64 o.d, slW p.2.1, .int .i64 o.h, slW p.2.2.1, .int .i64 o.e, .bool o.r, slW p.2.2.2, .int .i64 o.c] 35)).alloc (.cells #[.string o.t, .int .i64 o.k, .string o.n, slW q.1, .int .i64 o.m, .int .i64 o.f, .int .i64 o.d, slW q.2.1, .int .i64 o.h, slW q.2.2.1, .int .i64 o.e, .bool o.r, slW q.2.2.2, .int .i64 o.c] 35)) := ((Below.refl _ _).alloc (Nat.le_refl _) _).alloc (by simp) _
 have hA := (Qm.new w (.string o.t) (.int .i64 o.k) (.string o.n) (slW p.1) (.int .i64 o.m) (.int .i64 o.f) (.int .i64 o.d) (slW p.2.1) (.int .i64 o.h) (slW p.2.2.1) (.int .i64 o.e) (.bool o.r) (slW p.2.2.2) (.int .i64 o.c) 35).below ((Below.refl _ _).alloc (Nat.le_refl _) (.cells #[.string o.t, .int .i64 o.k, .string o.n, slW q.1, .int .i64 o.m, .int .i64 o.f, .int .i64 o.d, slW q.2.1, .int .i64 o.h, slW q.2.2.1, .int .i64 o.e, .bool o.r, slW q.2.2.2, .int .i64 o.c] 35)) (by simp)
 have hC : Qm ((w.alloc (.cells #[.string o.t, .int .i64 o.k, .string o.n, slW p.1, .int .i64 o.m, .int .i64 o.f, .int .i64 o.d, slW p.2.1, .int .i64 o.h, slW p.2.2.1, .int .i64 o.e, .bool o.r, slW p.2.2.2, .int .i64 o.c] 35)).alloc (.cells #[.string o.t, .int .i64 o.k, .string o.n, slW q.1, .int .i64 o.m, .int .i64 o.f, .int .i64 o.d, slW q.2.1, .int .i64 o.h, slW q.2.2.1, .int .i64 o.e, .bool o.r, slW q.2.2.2, .int .i64 o.c] 35)) (w.heap.size + 1) ⟨.string o.t, .int .i64 o.k, .string o.n, slW q.1, .int .i64 o.m, .int .i64 o.f, .int .i64 o.d, slW q.2.1, .int .i64 o.h, slW q.2.2.1, .int .i64 o.e, .bool o.r, slW q.2.2.2, .int .i64 o.c⟩ := by
  have h := Qm.new (w.alloc (.cells #[.string o.t, .int .i64 o.k, .string o.n, slW p.1, .int .i64 o.m, .int .i64 o.f, .int .i64 o.d, slW p.2.1, .int .i64 o.h, slW p.2.2.1, .int .i64 o.e, .bool o.r, slW p.2.2.2, .int .i64 o.c] 35)) (.string o.t) (.int .i64 o.k) (.string o.n) (slW q.1) (.int .i64 o.m) (.int .i64 o.f) (.int .i64 o.d) (slW q.2.1) (.int .i64 o.h) (slW q.2.2.1) (.int .i64 o.e) (.bool o.r) (slW q.2.2.2) (.int .i64 o.c) 35
  simpa using h
 have hsB := hs.below hbW
 have hsB' := hs'.below hbW
 obtain ⟨-, -, hf1, hf2, hf3, hf4⟩ := hf
 have HC := eqYl_same p.1 q.1 o.y _ hsB.1 hsB'.1 hf1
 clear hs hs'
 go_enter Tryz.func9, Tryz.ntmps9
 go_wp2_with fail
 generalize (w.alloc (.cells #[.string o.t, .int .i64 o.k, .string o.n, slW p.1, .int .i64 o.m, .int .i64 o.f, .int .i64 o.d, slW p.2.1, .int .i64 o.h, slW p.2.2.1, .int .i64 o.e, .bool o.r, slW p.2.2.2, .int .i64 o.c] 35)).alloc (.cells #[.string o.t, .int .i64 o.k, .string o.n, slW q.1, .int .i64 o.m, .int .i64 o.f, .int .i64 o.d, slW q.2.1, .int .i64 o.h, slW q.2.2.1, .int .i64 o.e, .bool o.r, slW q.2.2.2, .int .i64 o.c] 35) = W at *
 refine HC.mono ?_
 rintro e w1 ⟨rfl, hb⟩
 have hB1 := hbW.trans (hb.mono hbW.size)
 have hA1 := hA.below hb hA.lt
 have hC1 := hC.below hb hC.lt
 have h1 := hsB.below hb
 have h1' := hsB'.below hb
 clear HC hb hbW hA hC W hsB hsB'
 have HC := eqSl_same p.2.1 q.2.1 o.b _ h1.2.1 h1'.2.1 hf2
 have HK : Hid (_) := And.intro hA1 hC1
 obtain ⟨a0, a1, a2, a3, a4, a5, a6, a7, a8, a9, a10, a11, a12, a13⟩ := hA1
 obtain ⟨c0, c1, c2, c3, c4, c5, c6, c7, c8, c9, c10, c11, c12, c13⟩ := hC1
 dsimp only at a0 c0 a1 c1 a2 c2 a3 c3 a4 c4 a5 c5 a6 c6 a7 c7 a8 c8 a9 c9 a10 c10 a11 c11 a12 c12 a13 c13
 go_wp2_with fail
 obtain ⟨hA1, hC1⟩ := HK.out
 clear HK a0 c0 a1 c1 a2 c2 a3 c3 a4 c4 a5 c5 a6 c6 a7 c7 a8 c8 a9 c9 a10 c10 a11 c11 a12 c12 a13 c13
 refine HC.mono ?_
 rintro e w2 ⟨rfl, hb⟩
 have hB2 := hB1.trans (hb.mono hB1.size)
 have hA2 := hA1.below hb hA1.lt
 have hC2 := hC1.below hb hC1.lt
 have h2 := h1.below hb
 have h2' := h1'.below hb
 clear HC hb hB1 hA1 hC1 h1 h1'
 have HC := eqIl_same p.2.2.1 q.2.2.1 o.p _ h2.2.2.1 h2'.2.2.1 hf3
 have HK : Hid (_) := And.intro hA2 hC2
 obtain ⟨a0, a1, a2, a3, a4, a5, a6, a7, a8, a9, a10, a11, a12, a13⟩ := hA2
 obtain ⟨c0, c1, c2, c3, c4, c5, c6, c7, c8, c9, c10, c11, c12, c13⟩ := hC2
 dsimp only at a0 c0 a1 c1 a2 c2 a3 c3 a4 c4 a5 c5 a6 c6 a7 c7 a8 c8 a9 c9 a10 c10 a11 c11 a12 c12 a13 c13
 go_wp2_with fail
 obtain ⟨hA2, hC2⟩ := HK.out
 clear HK a0 c0 a1 c1 a2 c2 a3 c3 a4 c4 a5 c5 a6 c6 a7 c7 a8 c8 a9 c9 a10 c10 a11 c11 a12 c12 a13 c13
 refine HC.mono ?_
 rintro e w3 ⟨rfl, hb⟩
 have hB3 := hB2.trans (hb.mono hB2.size)
 have hA3 := hA2.below hb hA2.lt
 have hC3 := hC2.below hb hC2.lt
 have h3 := h2.below hb
 have h3' := h2'.below hb
 clear HC hb hB2 hA2 hC2 h2 h2'
 have HC := eqTermS_ft p.2.2.2 q.2.2.2 o.u _ h3.2.2.2 h3'.2.2.2 hf4
 have HK : Hid (_) := And.intro hA3 hC3
 obtain ⟨a0, a1, a2, a3, a4, a5, a6, a7, a8, a9, a10, a11, a12, a13⟩ := hA3
 obtain ⟨c0, c1, c2, c3, c4, c5, c6, c7, c8, c9, c10, c11, c12, c13⟩ := hC3
 dsimp only at a0 c0 a1 c1 a2 c2 a3 c3 a4 c4 a5 c5 a6 c6 a7 c7 a8 c8 a9 c9 a10 c10 a11 c11 a12 c12 a13 c13
 go_wp2_with fail
 obtain ⟨hA3, hC3⟩ := HK.out
 clear HK a0 c0 a1 c1 a2 c2 a3 c3 a4 c4 a5 c5 a6 c6 a7 c7 a8 c8 a9 c9 a10 c10 a11 c11 a12 c12 a13 c13
 refine HC.mono ?_
 rintro e w4 ⟨rfl, hb⟩
 have hB4 := hB3.trans (hb.mono hB3.size)
 have hA4 := hA3.below hb hA3.lt
 have hC4 := hC3.below hb hC3.lt
 have h4 := h3.below hb
 have h4' := h3'.below hb
 clear HC hb hB3 hA3 hC3 h3 h3'
 obtain ⟨a0, a1, a2, a3, a4, a5, a6, a7, a8, a9, a10, a11, a12, a13⟩ := hA4
 obtain ⟨c0, c1, c2, c3, c4, c5, c6, c7, c8, c9, c10, c11, c12, c13⟩ := hC4
 dsimp only at a0 c0 a1 c1 a2 c2 a3 c3 a4 c4 a5 c5 a6 c6 a7 c7 a8 c8 a9 c9 a10 c10 a11 c11 a12 c12 a13 c13
 go_wp2
 go_ret
 exact ⟨rfl, hB4⟩
end Go.Proofs.YtjogclofjollnaaGreatDoor
namespace Go.Proofs.YtjogclofjollnaaGreatDoor
open Go.RowKit
def nmK (k : Int) : Bool := decide (k = 2 ∨ k = 3 ∨ k = 4 ∨ k = 6 ∨ k = 8 ∨ k = 9)
def rgK (k : Int) : Bool := decide (k = 7 ∨ k = 8 ∨ k = 9 ∨ k = 11)
def tmK (k : Int) : Bool := decide (k = 12 ∨ k = 13)
def ktZ : List Int := [0, 0, 1, 1, 1, 0, 57, 14, 3, 3, 0, 66, 1024, 1792, 2048]
def ktK (k : Nat) : Int := ktZ.getD k 0
def bUp (l : List Bool) : Nat → Nat
 | 0 => 0
 | k + 1 => bUp l k + (if l.getD k false then 2 ^ k else 0)
def myK (k : Nat) (pt : Bool) : Int := if k = 11 then (if pt then 194 else 66) else ktK k
def fmK (k : Nat) (pt n y m f d b h p e r u c : Bool) : Bool :=
 (nmK k || !n) && ((rgK k || !y) && ((decide (k = 7) || (!m && (decide (k = 6) || !f))) && ((decide (k = 6) || (!d && !b)) && ((decide (k = 11) || !h) && ((pt || !p) && ((decide (k = 13) || (!e && !r)) && ((tmK k || !u) && (decide (k = 14) || !c))))))))
theorem bUp_lt (l : List Bool) : ∀ k, bUp l k < 2 ^ k
 | 0 => Nat.one_pos
 | k + 1 => by
  have := bUp_lt l k
  unfold bUp
  rw [Nat.pow_succ]
  split <;> omega
theorem or_step : ∀ j : Nat, j < 12 → ∀ v : Nat, v < 2 ^ j → Go.bits BinOp.or IntKind.i64 (v : Int) (wrap64 ((2 : Int) ^ j)) = ((v + 2 ^ j : Nat) : Int) := by decide +kernel
theorem bUp_or (l : List Bool) (j : Nat) (hj : j < 12) (h : l.getD j false = true) : Go.bits BinOp.or IntKind.i64 (bUp l j : Int) (wrap64 ((2 : Int) ^ j)) = ((bUp l (j + 1) : Nat) : Int) := by
 rw [or_step j hj _ (bUp_lt l j)]
 show _ = ((bUp l j + (if l.getD j false then 2 ^ j else 0) : Nat) : Int)
 rw [h]; rfl
theorem bUp_no (l : List Bool) (j : Nat) (h : l.getD j false = false) : bUp l j = bUp l (j + 1) := by
 show _ = bUp l j + (if l.getD j false then 2 ^ j else 0)
 rw [h]; simp
theorem tells_1 : ∀ k : Nat, k < 15 → Go.bits BinOp.and IntKind.i64 (ktK k) 1 = if nmK k then 1 else 0 := by decide +kernel
theorem tells_2 : ∀ k : Nat, k < 15 → Go.bits BinOp.and IntKind.i64 (ktK k) 2 = if rgK k then 2 else 0 := by decide +kernel
theorem tells_1024 : ∀ k : Nat, k < 15 → Go.bits BinOp.and IntKind.i64 (ktK k) 1024 = if tmK k then 1024 else 0 := by decide +kernel
theorem or_128 : Go.bits BinOp.or IntKind.i64 (ktK 11) 128 = 194 := by decide +kernel
end Go.Proofs.YtjogclofjollnaaGreatDoor
namespace Go.Proofs.YtjogclofjollnaaGreatDoor
open Go.RowKit
def t0B (o : CmR) : Bool := decide (o.n.size ≠ 0)
def t1B (o : CmR) : Bool := decide (o.y.length ≠ 0)
def t2B (o : CmR) : Bool := decide (o.m ≠ 0)
def t3B (o : CmR) : Bool := decide (o.f ≠ 0)
def t4B (o : CmR) : Bool := decide (o.d ≠ 0)
def t5B (o : CmR) : Bool := decide (o.b.length ≠ 0)
def t6B (o : CmR) : Bool := decide (o.h ≠ 0)
def t7B (o : CmR) : Bool := decide (o.p.length ≠ 0)
def t8B (o : CmR) : Bool := decide (o.e ≠ 0)
def t9B (o : CmR) : Bool := o.r
def t10B (o : CmR) : Bool := decide (o.u.length ≠ 0)
def t11B (o : CmR) : Bool := decide (o.c ≠ 0)
def tbC (o : CmR) : List Bool := [t0B o, t1B o, t2B o, t3B o, t4B o, t5B o, t6B o, t7B o, t8B o, t9B o, t10B o, t11B o]
theorem isEmpC (t : ByteArray) : (!t.toList.isEmpty) = decide (t.size ≠ 0) := by
 rw [ByteArray.toList_eq]
 obtain ⟨⟨l⟩⟩ := t
 cases l
 ·rfl
 ·exact (decide_eq_true (Nat.succ_ne_zero _)).symm
theorem ixC (l : List Bool) (j : Nat) (hj : j < 12) (w : World) : (Instr.index 131 (.agg #[.bool (l.getD 0 false), .bool (l.getD 1 false), .bool (l.getD 2 false), .bool (l.getD 3 false), .bool (l.getD 4 false), .bool (l.getD 5 false), .bool (l.getD 6 false), .bool (l.getD 7 false), .bool (l.getD 8 false), .bool (l.getD 9 false), .bool (l.getD 10 false), .bool (l.getD 11 false)]) (.int .i64 (j : Int))).run Tryz.prog w = .ok (.bool (l.getD j false)) w := by
 obtain rfl | rfl | rfl | rfl | rfl | rfl | rfl | rfl | rfl | rfl | rfl | rfl : j = 0 ∨ j = 1 ∨ j = 2 ∨ j = 3 ∨ j = 4 ∨ j = 5 ∨ j = 6 ∨ j = 7 ∨ j = 8 ∨ j = 9 ∨ j = 10 ∨ j = 11 := by omega
 all_goals simp [Instr.index, go_sem]
set_option maxHeartbeats 1600000 in
set_option maxRecDepth 100000 in
theorem toldIn_any (o : CmR) (p : SlC) {lo : Nat} (w : World) (hs : IsCm lo w p o) :
  Calls Tryz.prog 66 #[cmX o p] w fun e w' => e = .returned (.int .i64 (bUp (tbC o) 12 : Int)) ∧ Below w.heap.size w w' := by
 have hl1 := hs.1.1
 have hl2 := hs.2.1.1
 have hl3 := hs.2.2.1.1
 have hl4 := hs.2.2.2.1
 clear hs
 obtain ⟨⟨a1, n1, c1⟩, ⟨a2, n2, c2⟩, ⟨a3, n3, c3⟩, ⟨a4, n4, c4⟩⟩ := p
 obtain ⟨xt, xk, xn, xy, xm, xf, xd, xb, xh, xp, xe, xr, xu, xc⟩ := o
 dsimp only at hl1 hl2 hl3 hl4
 have HE : Hid ((!xn.toList.isEmpty) = t0B ⟨xt, xk, xn, xy, xm, xf, xd, xb, xh, xp, xe, xr, xu, xc⟩ ∧ decide (0 < n1) = t1B ⟨xt, xk, xn, xy, xm, xf, xd, xb, xh, xp, xe, xr, xu, xc⟩ ∧ (xm != 0) = t2B ⟨xt, xk, xn, xy, xm, xf, xd, xb, xh, xp, xe, xr, xu, xc⟩ ∧ (xf != 0) = t3B ⟨xt, xk, xn, xy, xm, xf, xd, xb, xh, xp, xe, xr, xu, xc⟩ ∧ (xd != 0) = t4B ⟨xt, xk, xn, xy, xm, xf, xd, xb, xh, xp, xe, xr, xu, xc⟩ ∧ decide (0 < n2) = t5B ⟨xt, xk, xn, xy, xm, xf, xd, xb, xh, xp, xe, xr, xu, xc⟩ ∧ (xh != 0) = t6B ⟨xt, xk, xn, xy, xm, xf, xd, xb, xh, xp, xe, xr, xu, xc⟩ ∧ decide (0 < n3) = t7B ⟨xt, xk, xn, xy, xm, xf, xd, xb, xh, xp, xe, xr, xu, xc⟩ ∧ (xe != 0) = t8B ⟨xt, xk, xn, xy, xm, xf, xd, xb, xh, xp, xe, xr, xu, xc⟩ ∧ decide (0 < n4) = t10B ⟨xt, xk, xn, xy, xm, xf, xd, xb, xh, xp, xe, xr, xu, xc⟩ ∧ (xc != 0) = t11B ⟨xt, xk, xn, xy, xm, xf, xd, xb, xh, xp, xe, xr, xu, xc⟩) := ⟨(by unfold t0B; exact isEmpC xn), (by unfold t1B; rw [hl1]; simp [Nat.pos_iff_ne_zero]), (by unfold t2B; simp [bne, BEq.beq]), (by unfold t3B; simp [bne, BEq.beq]), (by unfold t4B; simp [bne, BEq.beq]), (by unfold t5B; rw [hl2]; simp [Nat.pos_iff_ne_zero]), (by unfold t6B; simp [bne, BEq.beq]), (by unfold t7B; rw [hl3]; simp [Nat.pos_iff_ne_zero]), (by unfold t8B; simp [bne, BEq.beq]), (by unfold t10B; rw [hl4]; simp [Nat.pos_iff_ne_zero]), (by unfold t11B; simp [bne, BEq.beq])⟩
 have H9 : t9B ⟨xt, xk, xn, xy, xm, xf, xd, xb, xh, xp, xe, xr, xu, xc⟩ = xr := rfl
 unfold tbC
 generalize t0B ⟨xt, xk, xn, xy, xm, xf, xd, xb, xh, xp, xe, xr, xu, xc⟩ = p0 at *
 generalize t1B ⟨xt, xk, xn, xy, xm, xf, xd, xb, xh, xp, xe, xr, xu, xc⟩ = p1 at *
 generalize t2B ⟨xt, xk, xn, xy, xm, xf, xd, xb, xh, xp, xe, xr, xu, xc⟩ = p2 at *
 generalize t3B ⟨xt, xk, xn, xy, xm, xf, xd, xb, xh, xp, xe, xr, xu, xc⟩ = p3 at *
 generalize t4B ⟨xt, xk, xn, xy, xm, xf, xd, xb, xh, xp, xe, xr, xu, xc⟩ = p4 at *
 generalize t5B ⟨xt, xk, xn, xy, xm, xf, xd, xb, xh, xp, xe, xr, xu, xc⟩ = p5 at *
 generalize t6B ⟨xt, xk, xn, xy, xm, xf, xd, xb, xh, xp, xe, xr, xu, xc⟩ = p6 at *
 generalize t7B ⟨xt, xk, xn, xy, xm, xf, xd, xb, xh, xp, xe, xr, xu, xc⟩ = p7 at *
 generalize t8B ⟨xt, xk, xn, xy, xm, xf, xd, xb, xh, xp, xe, xr, xu, xc⟩ = p8 at *
 rw [H9]
 generalize t10B ⟨xt, xk, xn, xy, xm, xf, xd, xb, xh, xp, xe, xr, xu, xc⟩ = p10 at *
 generalize t11B ⟨xt, xk, xn, xy, xm, xf, xd, xb, xh, xp, xe, xr, xu, xc⟩ = p11 at *
 have HO : Hid (∀ j : Nat, j < 12 → ([p0, p1, p2, p3, p4, p5, p6, p7, p8, xr, p10, p11]).getD j false = true → Go.bits BinOp.or IntKind.i64 (bUp [p0, p1, p2, p3, p4, p5, p6, p7, p8, xr, p10, p11] j : Int) (wrap64 ((2 : Int) ^ j)) = ((bUp [p0, p1, p2, p3, p4, p5, p6, p7, p8, xr, p10, p11] (j + 1) : Nat) : Int)) := fun j hj h => bUp_or _ j hj h
 have HN : Hid (∀ j : Nat, j < 12 → ([p0, p1, p2, p3, p4, p5, p6, p7, p8, xr, p10, p11]).getD j false = false → bUp [p0, p1, p2, p3, p4, p5, p6, p7, p8, xr, p10, p11] j = bUp [p0, p1, p2, p3, p4, p5, p6, p7, p8, xr, p10, p11] (j + 1)) := fun j _ h => bUp_no _ j h
 have HX : Hid (∀ j : Nat, j < 12 → ∀ w : World, (Instr.index 131 (.agg #[.bool p0, .bool p1, .bool p2, .bool p3, .bool p4, .bool p5, .bool p6, .bool p7, .bool p8, .bool xr, .bool p10, .bool p11]) (.int .i64 (j : Int))).run Tryz.prog w = .ok (.bool (([p0, p1, p2, p3, p4, p5, p6, p7, p8, xr, p10, p11]).getD j false)) w) := fun j hj w => ixC [p0, p1, p2, p3, p4, p5, p6, p7, p8, xr, p10, p11] j hj w
 have HZ : Hid (bUp [p0, p1, p2, p3, p4, p5, p6, p7, p8, xr, p10, p11] 0 = 0) := rfl
 generalize [p0, p1, p2, p3, p4, p5, p6, p7, p8, xr, p10, p11] = pl at *
 have hb0 : Below w.heap.size w (w.alloc (.cells #[.string xt, .int .i64 xk, .string xn, slW (a1, n1, c1), .int .i64 xm, .int .i64 xf, .int .i64 xd, slW (a2, n2, c2), .int .i64 xh, slW (a3, n3, c3), .int .i64 xe, .bool xr, slW (a4, n4, c4), .int .i64 xc] 35)) := (Below.refl _ _).alloc (Nat.le_refl _) _
 generalize hR : bUp pl 12 = r at *
 clear H9
 go_enter Tryz.func66, Tryz.ntmps66
 go_wp2
 obtain ⟨E0, E1, E2, E3, E4, E5, E6, E7, E8, E10, E11⟩ := HE.out
 rw [E0, E1, E2, E3, E4, E5, E6, E7, E8, E10, E11]
 clear E0 E1 E2 E3 E4 E5 E6 E7 E8 E10 E11 HE hl1 hl2 hl3 hl4
 generalize (w.alloc (.cells #[.string xt, .int .i64 xk, .string xn, slW (a1, n1, c1), .int .i64 xm, .int .i64 xf, .int .i64 xd, slW (a2, n2, c2), .int .i64 xh, slW (a3, n3, c3), .int .i64 xe, .bool xr, slW (a4, n4, c4), .int .i64 xc] 35)) = W at *
 go_loopw [3, 46, 4, 5] (fun q i _ _ wr => ∃ k : Nat, k ≤ 12 ∧ i = .int .i64 k ∧ q = .int .i64 (bUp pl k : Int) ∧ Below w.heap.size w wr) (fun _ i _ _ _ => 12 - (intOf i).toNat)
 case atStart => exact ⟨0, Nat.zero_le _, rfl, by rw [HZ.out]; rfl, hb0⟩
 case round =>
  obtain ⟨k, hk, rfl, rfl, hbel⟩ := hrel
  by_cases hk6 : k < 12
  ·have hki : (k : Int) < 12 := by omega
   have hIx := HX.out k hk6 wr
   have h1 := HO.out k hk6
   have h2 := HN.out k hk6
   clear HX HO HN HZ
   generalize pl.getD k false = b at *
   cases b with
   | true =>
    have h1 := h1 rfl
    clear h2
    generalize hq : (bUp pl k : Int) = q at *
    generalize hq' : ((bUp pl (k + 1) : Nat) : Int) = q' at *
    have HQ : Hid (((bUp pl (k + 1) : Nat) : Int) = q') := hq'
    clear hq hq'
    go_wp2
    go_roundw
    case rel => exact ⟨k + 1, by omega, by go_num, by rw [HQ.out], hbel⟩
    case measure => simp [intOf]; omega
   | false =>
    have HQ : Hid (bUp pl k = bUp pl (k + 1)) := h2 rfl
    clear h1 h2
    go_wp2
    go_roundw
    case rel => exact ⟨k + 1, by omega, by go_num, by rw [HQ.out], hbel⟩
    case measure => simp [intOf]; omega
  ·obtain rfl : k = 12 := by omega
   have HQ : Hid (bUp pl 12 = r) := hR
   clear hR
   go_wp2
   go_ret
   exact ⟨by rw [HQ.out]; rfl, hbel⟩
def ptK (h : Int) : Bool := bt h 3 5
def fmC (o : CmR) : Bool := (bt o.k 1 14 && ((nmK o.k || !decide (o.n.size ≠ 0)) && (rgK o.k || !decide (o.y.length ≠ 0))) && ((decide (o.k = 7) || (!decide (o.m ≠ 0) && (decide (o.k = 6) || !decide (o.f ≠ 0)))) && (((decide (o.k = 6) || (!decide (o.d ≠ 0) && !decide (o.b.length ≠ 0))) && (decide (o.k = 11) || !decide (o.h ≠ 0))) && (((ptK o.h || !decide (o.p.length ≠ 0)) && (decide (o.k = 13) || (!decide (o.e ≠ 0) && !o.r))) && ((tmK o.k || !decide (o.u.length ≠ 0)) && (decide (o.k = 14) || !decide (o.c ≠ 0)))))))
def TabN (w : World) : Prop := ∀ v, v < 15 → w.cell? ⟨1, v, none⟩ = some (.int .i64 (ktK v))
theorem TabN.below {w w' : World} (h : TabN w) (hb : Below w.heap.size w w') : TabN w' := fun v hv =>
 (hb.cell (p := ⟨1, v, none⟩) (World.block_lt_of_cell? w ⟨1, 0, none⟩ (h 0 (by decide)))).trans (h v hv)
set_option maxHeartbeats 1600000 in
set_option maxRecDepth 100000 in
theorem hasPath_any (h : Int) (w : World) : Calls Tryz.prog 94 #[.int .i64 h] w fun e w' => e = .returned (.bool (ptK h)) ∧ w = w' := by
 go_enter Tryz.func94, Tryz.ntmps94
 go_wp2_with fail
 refine (isBetween_bt _ _ _ _).mono ?_
 rintro e w1 ⟨rfl, rfl⟩
 go_wp2
 go_ret
 exact ⟨rfl, rfl⟩
set_option maxHeartbeats 1600000 in
set_option maxRecDepth 100000 in
theorem mayBeTold_any (o : CmR) (p : SlC) (k : Nat) (w : World) (hk : o.k = (k : Int)) (hk0 : k < 15) (hT : TabN w) :
  Calls Tryz.prog 67 #[cmX o p] w fun e w' => e = .returned (.int .i64 (myK k (ptK o.h))) ∧ Below w.heap.size w w' := by
 obtain ⟨xt, xk, xn, xy, xm, xf, xd, xb, xh, xp, xe, xr, xu, xc⟩ := o
 dsimp only at hk
 subst hk
 have hb0 : Below w.heap.size w (w.alloc (.cells #[.string xt, .int .i64 (k : Int), .string xn, slW p.1, .int .i64 xm, .int .i64 xf, .int .i64 xd, slW p.2.1, .int .i64 xh, slW p.2.2.1, .int .i64 xe, .bool xr, slW p.2.2.2, .int .i64 xc] 35)) := (Below.refl _ _).alloc (Nat.le_refl _) _
 have hc := (hT.below hb0) k hk0
 have h128 := or_128
 clear hT
 by_cases h11 : k = 11
 ·subst h11
  rw [show ((11 : Nat) : Int) = 11 from rfl] at *
  have HV : Hid (myK 11 (ptK xh) = if ptK xh then 194 else 66) := if_pos rfl
  have HC := hasPath_any xh (w.alloc (.cells #[.string xt, .int .i64 11, .string xn, slW p.1, .int .i64 xm, .int .i64 xf, .int .i64 xd, slW p.2.1, .int .i64 xh, slW p.2.2.1, .int .i64 xe, .bool xr, slW p.2.2.2, .int .i64 xc] 35))
  generalize ptK xh = b at *
  have h66 : ktK 11 = 66 := rfl
  generalize ktK 11 = t11 at *
  go_enter Tryz.func67, Tryz.ntmps67
  go_wp2_with fail
  refine HC.mono ?_
  rintro e w1 ⟨rfl, rfl⟩
  cases b with
  | true =>
   rw [if_pos rfl] at HV
   clear h66
   go_wp2
   go_ret
   exact ⟨by rw [HV.out]; rfl, hb0⟩
  | false =>
   rw [if_neg (by simp)] at HV
   go_wp2
   go_ret
   exact ⟨by rw [HV.out]; rw [← h66]; rfl, hb0⟩
 ·have HV : Hid (myK k (ptK xh) = ktK k) := if_neg h11
  have h11' : ¬ (k : Int) = 11 := by omega
  have hki : (k : Int) < 15 := by omega
  clear h128
  generalize ktK k = t at *
  go_enter Tryz.func67, Tryz.ntmps67
  go_wp2
  go_ret
  exact ⟨by rw [HV.out]; rfl, hb0⟩
end Go.Proofs.YtjogclofjollnaaGreatDoor
