/- When two commands are the same: a plain function. -/
import Derived.Test.YtaiificlempeaaaCmo
import Derived.Test.YtaiificlempeaaaTme
namespace Go.Proofs.Ytaiificlempeaaa
open Go.RowKit
set_option linter.unusedVariables false

/-- TWO COMMANDS ARE THE SAME. -/
def smC (a b : CmR) : Bool := (decide (a.t = b.t) && (decide (a.k = b.k) && (decide (a.n = b.n) && (smY a.y b.y && (decide (a.m = b.m) && (decide (a.f = b.f) && (decide (a.d = b.d) && (decide (str a.b = str b.b) && (decide (a.h = b.h) && (smU a.p b.p && (decide (a.e = b.e) && (decide (a.r = b.r) && (smTs a.u b.u && decide (a.c = b.c))))))))))))))
end Go.Proofs.Ytaiificlempeaaa
