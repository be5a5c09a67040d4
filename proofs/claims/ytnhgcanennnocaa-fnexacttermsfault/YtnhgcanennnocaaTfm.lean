/- The fault of terms, in plain words: what a term's kind has, its bounds, where its parts stand; no program in it. -/
import Derived.Test.YtnhgcanennnocaaTmo
import Derived.Test.YtnhgcanennnocaaYft
import Derived.Test.YtnhgcanennnocaaChs0
namespace Go.Proofs.Ytnhgcanennnocaa
open Go.RowKit

/-- It has characters. -/
def hcK (k : Int) : Bool := decide (k = 6) || decide (k = 7)
/-- It is of two. -/
def twK (k : Int) : Bool := decide (k = 10) || decide (k = 11)
/-- It is of a kind, and has nothing that its kind has not. -/
def fmT (o : TmR) : Bool := bty o.k 1 11 && ((bty o.k 2 5 || decide (o.n = 0)) && ((hcK o.k || decide (o.c = [])) && ((decide (o.k = 8) || decide (o.y = [])) && ((twK o.k || decide (o.r = 0)) && (decide (9 ≤ o.k) || decide (o.l = 0))))))
/-- One flag. -/
def ofB (n : Int) : Bool := decide (n = 1) || (decide (n = 2) || (decide (n = 4) || decide (n = 8)))
/-- A character that is looked for. -/
def lkC (c : Int) : Bool := chr c && (decide (32 < c) && decide (c ≠ 127))
def cdB (c : List Int) : Bool := bty (c.length : Int) 1 20 && c.all lkC
/-- Its number, its characters are as its kind asks. -/
def bdT (o : TmR) : Bool := if o.k = 2 then ofB o.n else if o.k = 3 ∨ o.k = 4 then bty o.n 0 9999 else if o.k = 5 then bty o.n 0 400 else if o.k = 6 ∨ o.k = 7 then cdB o.c else true
def vlT (o : TmR) : Int := if o.k = 8 then rfV o.y else if bdT o then 0 else 3
/-- Its own fault. -/
def owF (o : TmR) : Int := if fmT o then vlT o else 1
/-- The places of what it is of. -/
def plT (o : TmR) : List Int := if o.k = 9 then [o.l] else if twK o.k then [o.l, o.r] else []
end Go.Proofs.Ytnhgcanennnocaa
