/- The fault of an op, in plain words: which of its things its kind has, its names, its numbers; with no program in it. -/
import Derived.Test.YtlmbieclgkpofaaDoorOpo
import Derived.Test.YtlmbieclgkpofaaDoorSmn
namespace Go.Proofs.YtlmbieclgkpofaaDoor
open Go.RowKit

/-- Whether there is a To, Uids, a mode, flags, a date, bytes. -/
def h0B (o : OpR) : Bool := decide (o.t.size ≠ 0)
def h1B (o : OpR) : Bool := decide (o.u.length ≠ 0)
def h2B (o : OpR) : Bool := decide (o.m ≠ 0)
def h3B (o : OpR) : Bool := decide (o.f ≠ 0)
def h4B (o : OpR) : Bool := decide (o.d ≠ 0)
def h5B (o : OpR) : Bool := decide (o.b.length ≠ 0)
/-- Whether a kind is a copy or a move. -/
def cpK (k : Int) : Bool := decide (k = 5 ∨ k = 6)
/-- The form, of a kind from 1 to 7. -/
def fmK (k : Int) (p0 p1 p2 p3 p4 p5 : Bool) : Bool :=
  (cpK k || !p0) && (cpK k || decide (k = 4) || !p1) && (decide (k = 4) || !p2) && (decide (k = 3) || !p4 && !p5) && (decide (k = 3) || decide (k = 4) || !p3)
def fmV (o : OpR) : Bool := bt o.k 1 7 && fmK o.k (h0B o) (h1B o) (h2B o) (h3B o) (h4B o) (h5B o)
/-- Uids that rise, from 1 to 999. -/
def riU (a : Int) : List Int → Bool
  | [] => true
  | x :: l => bt x (a + 1) 999 && riU x l
/-- The numbers. -/
def rgV (o : OpR) : Bool := riU 0 o.u && (!decide (o.k = 4) || bt o.m 1 3) && bt o.f 0 15 && bt o.d 0 9999
/-- THE FAULT OF AN OP. -/
def ofV (o : OpR) : Int :=
  if fmV o = true then
    if bnOk (txB o.x) = true ∧ (cpK o.k = true → bnOk (txB o.t) = true) then
      if 6 < o.u.length then 2 else if rgV o = true then (if 400 < o.b.length then 2 else 0) else 3
    else 5
  else 1

/-- What an op of each kind has, bit by bit. -/
def khZ : List Int := [0, 0, 0, 56, 14, 3, 3, 0]
def b2i (p : Bool) (n : Int) : Int := if p then n else 0
def bitZ (p0 p1 p2 p3 p4 p5 : Bool) : Int := b2i p0 1 + b2i p1 2 + b2i p2 4 + b2i p3 8 + b2i p4 16 + b2i p5 32
def bitUp (l : List Bool) : Nat → Int
  | 0 => 0
  | k + 1 => bitUp l k + b2i (l.getD k false) (2 ^ k)
theorem bitUp_all (p0 p1 p2 p3 p4 p5 : Bool) : bitUp [p0, p1, p2, p3, p4, p5] 6 = bitZ p0 p1 p2 p3 p4 p5 := by
  revert p0 p1 p2 p3 p4 p5; decide
end Go.Proofs.YtlmbieclgkpofaaDoor
