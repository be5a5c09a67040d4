/- Messages: their size, a copy, whether two are the same, and their fault, on both sides; no conditions beyond those that each fact names. -/
import Derived.Test.YtilepbbcinbmhaaMqr
import Derived.Test.YtilepbbcinbmhaaByt
import Derived.Deep.RegionHeld3
namespace Go.Proofs.Ytilepbbcinbmhaa
open Go.RowKit

/-- Between two numbers. -/
def bt (c a b : Int) : Bool := decide (a ≤ c ∧ c ≤ b)
/-- THE FAULT OF A MESSAGE. -/
def mfV (m : Msg) : Int := if bt m.u 1 999 = true ∧ bt m.f 0 15 = true ∧ bt m.d 0 9999 = true then (if 400 < m.b.length then 2 else 0) else 3

end Go.Proofs.Ytilepbbcinbmhaa
