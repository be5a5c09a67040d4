/- Commands: the laws' holding of one against its copy; no conditions beyond those that each fact names · What a command of a kind has: plain functions and closed facts on bits. -/
import Derived.Test.YtaiificlempeaaaGreatDoorCms
import Derived.Test.YtaiificlempeaaaGreatDoorCmo
import Derived.Test.YtaiificlempeaaaGreatDoorCmiToMsa
namespace Go.Proofs.YtaiificlempeaaaGreatDoor
open Go.RowKit

set_option maxHeartbeats 1600000 in
set_option maxRecDepth 100000 in
theorem eqCmd_ft (o : CmR) (p q : SlC) {lo lo' : Nat} (w : World) (hs : IsCm lo w p o) (hs' : IsCm lo' w q o) (hf : FtC o) :
    Calls Tryz.prog 8 #[cmX o p, cmX o q] w fun e w' => e = .returned (.bool true) ∧ Below w.heap.size w w' := by
  have hbW : Below w.heap.size w ((w.alloc (.cells #[.string o.t, .int .i64 o.k, .string o.n, slW p.1, .int .i64 o.m, .int .i64 o.f, .int .i64 o.d, slW p.2.1, .int .i64 o.h, slW p.2.2.1, .int .i64 o.e, .bool o.r, slW p.2.2.2, .int .i64 o.c] 33)).alloc (.cells #[.string o.t, .int .i64 o.k, .string o.n, slW q.1, .int .i64 o.m, .int .i64 o.f, .int .i64 o.d, slW q.2.1, .int .i64 o.h, slW q.2.2.1, .int .i64 o.e, .bool o.r, slW q.2.2.2, .int .i64 o.c] 33)) := ((Below.refl _ _).alloc (Nat.le_refl _) _).alloc (by simp) _
  have hA := (Qm.new w (.string o.t) (.int .i64 o.k) (.string o.n) (slW p.1) (.int .i64 o.m) (.int .i64 o.f) (.int .i64 o.d) (slW p.2.1) (.int .i64 o.h) (slW p.2.2.1) (.int .i64 o.e) (.bool o.r) (slW p.2.2.2) (.int .i64 o.c) 33).below ((Below.refl _ _).alloc (Nat.le_refl _) (.cells #[.string o.t, .int .i64 o.k, .string o.n, slW q.1, .int .i64 o.m, .int .i64 o.f, .int .i64 o.d, slW q.2.1, .int .i64 o.h, slW q.2.2.1, .int .i64 o.e, .bool o.r, slW q.2.2.2, .int .i64 o.c] 33)) (by simp)
  have hC : Qm ((w.alloc (.cells #[.string o.t, .int .i64 o.k, .string o.n, slW p.1, .int .i64 o.m, .int .i64 o.f, .int .i64 o.d, slW p.2.1, .int .i64 o.h, slW p.2.2.1, .int .i64 o.e, .bool o.r, slW p.2.2.2, .int .i64 o.c] 33)).alloc (.cells #[.string o.t, .int .i64 o.k, .string o.n, slW q.1, .int .i64 o.m, .int .i64 o.f, .int .i64 o.d, slW q.2.1, .int .i64 o.h, slW q.2.2.1, .int .i64 o.e, .bool o.r, slW q.2.2.2, .int .i64 o.c] 33)) (w.heap.size + 1) ⟨.string o.t, .int .i64 o.k, .string o.n, slW q.1, .int .i64 o.m, .int .i64 o.f, .int .i64 o.d, slW q.2.1, .int .i64 o.h, slW q.2.2.1, .int .i64 o.e, .bool o.r, slW q.2.2.2, .int .i64 o.c⟩ := by
    have h := Qm.new (w.alloc (.cells #[.string o.t, .int .i64 o.k, .string o.n, slW p.1, .int .i64 o.m, .int .i64 o.f, .int .i64 o.d, slW p.2.1, .int .i64 o.h, slW p.2.2.1, .int .i64 o.e, .bool o.r, slW p.2.2.2, .int .i64 o.c] 33)) (.string o.t) (.int .i64 o.k) (.string o.n) (slW q.1) (.int .i64 o.m) (.int .i64 o.f) (.int .i64 o.d) (slW q.2.1) (.int .i64 o.h) (slW q.2.2.1) (.int .i64 o.e) (.bool o.r) (slW q.2.2.2) (.int .i64 o.c) 33
    simpa using h
  have hsB := hs.below hbW
  have hsB' := hs'.below hbW
  obtain ⟨-, -, hf1, hf2, hf3, hf4⟩ := hf
  have HC := eqYl_same p.1 q.1 o.y _ hsB.1 hsB'.1 hf1
  clear hs hs'
  go_enter Tryz.func8, Tryz.ntmps8
  go_wp2_with fail
  generalize (w.alloc (.cells #[.string o.t, .int .i64 o.k, .string o.n, slW p.1, .int .i64 o.m, .int .i64 o.f, .int .i64 o.d, slW p.2.1, .int .i64 o.h, slW p.2.2.1, .int .i64 o.e, .bool o.r, slW p.2.2.2, .int .i64 o.c] 33)).alloc (.cells #[.string o.t, .int .i64 o.k, .string o.n, slW q.1, .int .i64 o.m, .int .i64 o.f, .int .i64 o.d, slW q.2.1, .int .i64 o.h, slW q.2.2.1, .int .i64 o.e, .bool o.r, slW q.2.2.2, .int .i64 o.c] 33) = W at *
  refine HC.mono ?_
  rintro e w1 ⟨rfl, hb⟩
  have hB1 := hbW.trans (hb.mono hbW.size)
  have hA1 := hA.below hb hA.lt
  have hC1 := hC.below hb hC.lt
  have h1 := hsB.below hb
  have h1' := hsB'.below hb
  clear HC hb hbW hA hC W hsB hsB'

  have HC := eqSl_same p.2.1 q.2.1 o.b _ h1.2.1 h1'.2.1 hf2
  have HK : Hid (_) := And.intro hA1 hC1
  obtain ⟨a0, a1, a2, a3, a4, a5, a6, a7, a8, a9, a10, a11, a12, a13⟩ := hA1
  obtain ⟨c0, c1, c2, c3, c4, c5, c6, c7, c8, c9, c10, c11, c12, c13⟩ := hC1
  dsimp only at a0 c0 a1 c1 a2 c2 a3 c3 a4 c4 a5 c5 a6 c6 a7 c7 a8 c8 a9 c9 a10 c10 a11 c11 a12 c12 a13 c13
  go_wp2_with fail
  obtain ⟨hA1, hC1⟩ := HK.out
  clear HK a0 c0 a1 c1 a2 c2 a3 c3 a4 c4 a5 c5 a6 c6 a7 c7 a8 c8 a9 c9 a10 c10 a11 c11 a12 c12 a13 c13
  refine HC.mono ?_
  rintro e w2 ⟨rfl, hb⟩
  have hB2 := hB1.trans (hb.mono hB1.size)
  have hA2 := hA1.below hb hA1.lt
  have hC2 := hC1.below hb hC1.lt
  have h2 := h1.below hb
  have h2' := h1'.below hb
  clear HC hb hB1 hA1 hC1 h1 h1'

  have HC := eqIl_same p.2.2.1 q.2.2.1 o.p _ h2.2.2.1 h2'.2.2.1 hf3
  have HK : Hid (_) := And.intro hA2 hC2
  obtain ⟨a0, a1, a2, a3, a4, a5, a6, a7, a8, a9, a10, a11, a12, a13⟩ := hA2
  obtain ⟨c0, c1, c2, c3, c4, c5, c6, c7, c8, c9, c10, c11, c12, c13⟩ := hC2
  dsimp only at a0 c0 a1 c1 a2 c2 a3 c3 a4 c4 a5 c5 a6 c6 a7 c7 a8 c8 a9 c9 a10 c10 a11 c11 a12 c12 a13 c13
  go_wp2_with fail
  obtain ⟨hA2, hC2⟩ := HK.out
  clear HK a0 c0 a1 c1 a2 c2 a3 c3 a4 c4 a5 c5 a6 c6 a7 c7 a8 c8 a9 c9 a10 c10 a11 c11 a12 c12 a13 c13
  refine HC.mono ?_
  rintro e w3 ⟨rfl, hb⟩
  have hB3 := hB2.trans (hb.mono hB2.size)
  have hA3 := hA2.below hb hA2.lt
  have hC3 := hC2.below hb hC2.lt
  have h3 := h2.below hb
  have h3' := h2'.below hb
  clear HC hb hB2 hA2 hC2 h2 h2'

  have HC := eqTermS_ft p.2.2.2 q.2.2.2 o.u _ h3.2.2.2 h3'.2.2.2 hf4
  have HK : Hid (_) := And.intro hA3 hC3
  obtain ⟨a0, a1, a2, a3, a4, a5, a6, a7, a8, a9, a10, a11, a12, a13⟩ := hA3
  obtain ⟨c0, c1, c2, c3, c4, c5, c6, c7, c8, c9, c10, c11, c12, c13⟩ := hC3
  dsimp only at a0 c0 a1 c1 a2 c2 a3 c3 a4 c4 a5 c5 a6 c6 a7 c7 a8 c8 a9 c9 a10 c10 a11 c11 a12 c12 a13 c13
  go_wp2_with fail
  obtain ⟨hA3, hC3⟩ := HK.out
  clear HK a0 c0 a1 c1 a2 c2 a3 c3 a4 c4 a5 c5 a6 c6 a7 c7 a8 c8 a9 c9 a10 c10 a11 c11 a12 c12 a13 c13
  refine HC.mono ?_
  rintro e w4 ⟨rfl, hb⟩
  have hB4 := hB3.trans (hb.mono hB3.size)
  have hA4 := hA3.below hb hA3.lt
  have hC4 := hC3.below hb hC3.lt
  have h4 := h3.below hb
  have h4' := h3'.below hb
  clear HC hb hB3 hA3 hC3 h3 h3'

  obtain ⟨a0, a1, a2, a3, a4, a5, a6, a7, a8, a9, a10, a11, a12, a13⟩ := hA4
  obtain ⟨c0, c1, c2, c3, c4, c5, c6, c7, c8, c9, c10, c11, c12, c13⟩ := hC4
  dsimp only at a0 c0 a1 c1 a2 c2 a3 c3 a4 c4 a5 c5 a6 c6 a7 c7 a8 c8 a9 c9 a10 c10 a11 c11 a12 c12 a13 c13
  go_wp2
  go_ret
  exact ⟨rfl, hB4⟩
end Go.Proofs.YtaiificlempeaaaGreatDoor

namespace Go.Proofs.YtaiificlempeaaaGreatDoor
open Go.RowKit

def nmK (k : Int) : Bool := decide (k = 2 ∨ k = 3 ∨ k = 4 ∨ k = 6 ∨ k = 8 ∨ k = 9)
def rgK (k : Int) : Bool := decide (k = 7 ∨ k = 8 ∨ k = 9 ∨ k = 11)
def tmK (k : Int) : Bool := decide (k = 12 ∨ k = 13)
/-- The table of what each kind has. -/
def ktZ : List Int := [0, 0, 1, 1, 1, 0, 57, 14, 3, 3, 0, 66, 1024, 1792, 2048]
def ktK (k : Nat) : Int := ktZ.getD k 0
def bUp (l : List Bool) : Nat → Nat
  | 0 => 0
  | k + 1 => bUp l k + (if l.getD k false then 2 ^ k else 0)
/-- What may be told: of a fetch, where it may have one, a path. -/
def myK (k : Nat) (pt : Bool) : Int := if k = 11 then (if pt then 194 else 66) else ktK k
/-- Nothing is told that the kind has not. -/
def fmK (k : Nat) (pt n y m f d b h p e r u c : Bool) : Bool :=
  (nmK k || !n) && ((rgK k || !y) && ((decide (k = 7) || (!m && (decide (k = 6) || !f))) && ((decide (k = 6) || (!d && !b)) && ((decide (k = 11) || !h) && ((pt || !p) && ((decide (k = 13) || (!e && !r)) && ((tmK k || !u) && (decide (k = 14) || !c))))))))
theorem bUp_lt (l : List Bool) : ∀ k, bUp l k < 2 ^ k
  | 0 => Nat.one_pos
  | k + 1 => by
    have := bUp_lt l k
    unfold bUp
    rw [Nat.pow_succ]
    split <;> omega
theorem or_step : ∀ j : Nat, j < 12 → ∀ v : Nat, v < 2 ^ j → Go.bits BinOp.or IntKind.i64 (v : Int) (wrap64 ((2 : Int) ^ j)) = ((v + 2 ^ j : Nat) : Int) := by decide +kernel
theorem bUp_or (l : List Bool) (j : Nat) (hj : j < 12) (h : l.getD j false = true) : Go.bits BinOp.or IntKind.i64 (bUp l j : Int) (wrap64 ((2 : Int) ^ j)) = ((bUp l (j + 1) : Nat) : Int) := by
  rw [or_step j hj _ (bUp_lt l j)]
  show _ = ((bUp l j + (if l.getD j false then 2 ^ j else 0) : Nat) : Int)
  rw [h]; rfl
theorem bUp_no (l : List Bool) (j : Nat) (h : l.getD j false = false) : bUp l j = bUp l (j + 1) := by
  show _ = bUp l j + (if l.getD j false then 2 ^ j else 0)
  rw [h]; simp
theorem tells_1 : ∀ k : Nat, k < 15 → Go.bits BinOp.and IntKind.i64 (ktK k) 1 = if nmK k then 1 else 0 := by decide +kernel
theorem tells_2 : ∀ k : Nat, k < 15 → Go.bits BinOp.and IntKind.i64 (ktK k) 2 = if rgK k then 2 else 0 := by decide +kernel
theorem tells_1024 : ∀ k : Nat, k < 15 → Go.bits BinOp.and IntKind.i64 (ktK k) 1024 = if tmK k then 1024 else 0 := by decide +kernel
theorem or_128 : Go.bits BinOp.or IntKind.i64 (ktK 11) 128 = 194 := by decide +kernel
end Go.Proofs.YtaiificlempeaaaGreatDoor
