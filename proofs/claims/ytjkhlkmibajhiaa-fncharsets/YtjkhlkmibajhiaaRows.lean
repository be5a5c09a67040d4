/-
  No cell of these rows narrows 'for every input' (looked for: loops, veiled, ifaces, maps, wideKeys, modest, calm, conditions, laid).
  DERIVED. THE GIVEN ROWS OF THIS SEAT. 8 by the template 'for every input the law returns true; each argument reads behind the call as it read before'; 0 by the template 'total and deterministic' (their statements: YtjkhlkmibajhiaaTotals.lean).
  GIVEN WITH THE SEED: the statements are not yours to turn. If you find one false, say at which input.
  Laid BY PROGRAM, IN A SANDBOX (cutbox-rows.mjs): the forced cells as the released guide's own fill.sh prints them over the translation e3f6b290a8c5a57a… (all of the seat's roots in one cut). By AI agents, Wed Nov 11 2026. No macro, syntax, notation, axiom, sorry.
-/
import Derived.Test.YtjkhlkmibajhiaaChecked
import GoSem.Claim
import GoSem.ClaimJoined
import GoSem.ClaimMapViews
import Derived.JoinedTies
import Derived.KernelRfl
namespace Go.Proofs.Ytjkhlkmibajhiaa
/- THE CELL 'sum', in the pinned program and in every row, IS THE sha256 OF THE DUMP (.gsa) THAT YtjkhlkmibajhiaaProg.lean LOADS. Nothing in Lean hashes anything: it is a label: what it is worth is what the hold of that sum in a sandbox is worth. -/
noncomputable def Try.pinned : Pinned := { name := "ytjkhlkmibajhiaa", sum := "e3f6b290a8c5a57a2bf7cf9c3eae6d81ee582a3df1fc820a592ff2f27b92fe7c", checked := Try.checked }
namespace Rows
def none {H : Type} : Left H := { results := [], args := [] }

/-- 'laws.FnCharsets': WHATEVER THE INPUT: true; the input reads as it did. -/
def fnCharsetsSpec : ChangeSpec := { name := "fnCharsets", fn := fun _ => fun
  | [d] => { results := [.lit (.bool true)], args := [d] }
  | _ => none }
def fnCharsetsRow : OpenClaim := { program := "ytjkhlkmibajhiaa", sum := "e3f6b290a8c5a57a2bf7cf9c3eae6d81ee582a3df1fc820a592ff2f27b92fe7c", func := "loop.example/g00447/laws.FnCharsets", spec := "fnCharsets", unfollowed := true, recurses := true, apart := false }
def FnCharsetsSaid : Prop := fnCharsetsRow.holds Try.pinned (OpenSpec.ofChange fnCharsetsSpec)

/-- ITS FALSE NEIGHBOUR: 'it returns false'. Refute it at one input. -/
def fnCharsetsWrong : ChangeSpec := { name := "fnCharsets", fn := fun _ => fun
  | [d] => { results := [.lit (.bool false)], args := [d] }
  | _ => none }
def FnCharsetsWrongFalsely : Prop := fnCharsetsRow.holds Try.pinned (OpenSpec.ofChange fnCharsetsWrong)

/-- 'laws.FnMaps': WHATEVER THE INPUT: true; the input reads as it did. -/
def fnMapsSpec : ChangeSpec := { name := "fnMaps", fn := fun _ => fun
  | [d] => { results := [.lit (.bool true)], args := [d] }
  | _ => none }
def fnMapsRow : OpenClaim := { program := "ytjkhlkmibajhiaa", sum := "e3f6b290a8c5a57a2bf7cf9c3eae6d81ee582a3df1fc820a592ff2f27b92fe7c", func := "loop.example/g00447/laws.FnMaps", spec := "fnMaps", unfollowed := true, recurses := true, apart := false }
def FnMapsSaid : Prop := fnMapsRow.holds Try.pinned (OpenSpec.ofChange fnMapsSpec)

/-- ITS FALSE NEIGHBOUR: 'it returns false'. Refute it at one input. -/
def fnMapsWrong : ChangeSpec := { name := "fnMaps", fn := fun _ => fun
  | [d] => { results := [.lit (.bool false)], args := [d] }
  | _ => none }
def FnMapsWrongFalsely : Prop := fnMapsRow.holds Try.pinned (OpenSpec.ofChange fnMapsWrong)

/-- 'laws.FnOrders': WHATEVER THE INPUT: true; the input reads as it did. -/
def fnOrdersSpec : ChangeSpec := { name := "fnOrders", fn := fun _ => fun
  | [d] => { results := [.lit (.bool true)], args := [d] }
  | _ => none }
def fnOrdersRow : OpenClaim := { program := "ytjkhlkmibajhiaa", sum := "e3f6b290a8c5a57a2bf7cf9c3eae6d81ee582a3df1fc820a592ff2f27b92fe7c", func := "loop.example/g00447/laws.FnOrders", spec := "fnOrders", unfollowed := true, recurses := true, apart := false }
def FnOrdersSaid : Prop := fnOrdersRow.holds Try.pinned (OpenSpec.ofChange fnOrdersSpec)

/-- ITS FALSE NEIGHBOUR: 'it returns false'. Refute it at one input. -/
def fnOrdersWrong : ChangeSpec := { name := "fnOrders", fn := fun _ => fun
  | [d] => { results := [.lit (.bool false)], args := [d] }
  | _ => none }
def FnOrdersWrongFalsely : Prop := fnOrdersRow.holds Try.pinned (OpenSpec.ofChange fnOrdersWrong)

/-- 'laws.FnInside': WHATEVER THE INPUT: true; the input reads as it did. -/
def fnInsideSpec : ChangeSpec := { name := "fnInside", fn := fun _ => fun
  | [d] => { results := [.lit (.bool true)], args := [d] }
  | _ => none }
def fnInsideRow : OpenClaim := { program := "ytjkhlkmibajhiaa", sum := "e3f6b290a8c5a57a2bf7cf9c3eae6d81ee582a3df1fc820a592ff2f27b92fe7c", func := "loop.example/g00447/laws.FnInside", spec := "fnInside", unfollowed := true, recurses := true, apart := false }
def FnInsideSaid : Prop := fnInsideRow.holds Try.pinned (OpenSpec.ofChange fnInsideSpec)

/-- ITS FALSE NEIGHBOUR: 'it returns false'. Refute it at one input. -/
def fnInsideWrong : ChangeSpec := { name := "fnInside", fn := fun _ => fun
  | [d] => { results := [.lit (.bool false)], args := [d] }
  | _ => none }
def FnInsideWrongFalsely : Prop := fnInsideRow.holds Try.pinned (OpenSpec.ofChange fnInsideWrong)

/-- 'laws.FnExactMapChar': WHATEVER THE INPUT: true; the input reads as it did. -/
def fnExactMapCharSpec : ChangeSpec := { name := "fnExactMapChar", fn := fun _ => fun
  | [d1, d2] => { results := [.lit (.bool true)], args := [d1, d2] }
  | _ => none }
def fnExactMapCharRow : OpenClaim := { program := "ytjkhlkmibajhiaa", sum := "e3f6b290a8c5a57a2bf7cf9c3eae6d81ee582a3df1fc820a592ff2f27b92fe7c", func := "loop.example/g00447/laws.FnExactMapChar", spec := "fnExactMapChar", apart := false }
def FnExactMapCharSaid : Prop := fnExactMapCharRow.holds Try.pinned (OpenSpec.ofChange fnExactMapCharSpec)

/-- ITS FALSE NEIGHBOUR: 'it returns false'. Refute it at one input. -/
def fnExactMapCharWrong : ChangeSpec := { name := "fnExactMapChar", fn := fun _ => fun
  | [d1, d2] => { results := [.lit (.bool false)], args := [d1, d2] }
  | _ => none }
def FnExactMapCharWrongFalsely : Prop := fnExactMapCharRow.holds Try.pinned (OpenSpec.ofChange fnExactMapCharWrong)

/-- 'laws.FnExactMapCodes': WHATEVER THE INPUT: true; the input reads as it did. -/
def fnExactMapCodesSpec : ChangeSpec := { name := "fnExactMapCodes", fn := fun _ => fun
  | [d1, d2] => { results := [.lit (.bool true)], args := [d1, d2] }
  | _ => none }
def fnExactMapCodesRow : OpenClaim := { program := "ytjkhlkmibajhiaa", sum := "e3f6b290a8c5a57a2bf7cf9c3eae6d81ee582a3df1fc820a592ff2f27b92fe7c", func := "loop.example/g00447/laws.FnExactMapCodes", spec := "fnExactMapCodes", unfollowed := true, recurses := true, apart := false }
def FnExactMapCodesSaid : Prop := fnExactMapCodesRow.holds Try.pinned (OpenSpec.ofChange fnExactMapCodesSpec)

/-- ITS FALSE NEIGHBOUR: 'it returns false'. Refute it at one input. -/
def fnExactMapCodesWrong : ChangeSpec := { name := "fnExactMapCodes", fn := fun _ => fun
  | [d1, d2] => { results := [.lit (.bool false)], args := [d1, d2] }
  | _ => none }
def FnExactMapCodesWrongFalsely : Prop := fnExactMapCodesRow.holds Try.pinned (OpenSpec.ofChange fnExactMapCodesWrong)

/-- 'laws.FnExactCompareCodes': WHATEVER THE INPUT: true; the input reads as it did. -/
def fnExactCompareCodesSpec : ChangeSpec := { name := "fnExactCompareCodes", fn := fun _ => fun
  | [d1, d2, d3] => { results := [.lit (.bool true)], args := [d1, d2, d3] }
  | _ => none }
def fnExactCompareCodesRow : OpenClaim := { program := "ytjkhlkmibajhiaa", sum := "e3f6b290a8c5a57a2bf7cf9c3eae6d81ee582a3df1fc820a592ff2f27b92fe7c", func := "loop.example/g00447/laws.FnExactCompareCodes", spec := "fnExactCompareCodes", unfollowed := true, recurses := true, apart := false }
def FnExactCompareCodesSaid : Prop := fnExactCompareCodesRow.holds Try.pinned (OpenSpec.ofChange fnExactCompareCodesSpec)

/-- ITS FALSE NEIGHBOUR: 'it returns false'. Refute it at one input. -/
def fnExactCompareCodesWrong : ChangeSpec := { name := "fnExactCompareCodes", fn := fun _ => fun
  | [d1, d2, d3] => { results := [.lit (.bool false)], args := [d1, d2, d3] }
  | _ => none }
def FnExactCompareCodesWrongFalsely : Prop := fnExactCompareCodesRow.holds Try.pinned (OpenSpec.ofChange fnExactCompareCodesWrong)

/-- 'laws.FnExactHasCodes': WHATEVER THE INPUT: true; the input reads as it did. -/
def fnExactHasCodesSpec : ChangeSpec := { name := "fnExactHasCodes", fn := fun _ => fun
  | [d1, d2, d3] => { results := [.lit (.bool true)], args := [d1, d2, d3] }
  | _ => none }
def fnExactHasCodesRow : OpenClaim := { program := "ytjkhlkmibajhiaa", sum := "e3f6b290a8c5a57a2bf7cf9c3eae6d81ee582a3df1fc820a592ff2f27b92fe7c", func := "loop.example/g00447/laws.FnExactHasCodes", spec := "fnExactHasCodes", unfollowed := true, recurses := true, apart := false }
def FnExactHasCodesSaid : Prop := fnExactHasCodesRow.holds Try.pinned (OpenSpec.ofChange fnExactHasCodesSpec)

/-- ITS FALSE NEIGHBOUR: 'it returns false'. Refute it at one input. -/
def fnExactHasCodesWrong : ChangeSpec := { name := "fnExactHasCodes", fn := fun _ => fun
  | [d1, d2, d3] => { results := [.lit (.bool false)], args := [d1, d2, d3] }
  | _ => none }
def FnExactHasCodesWrongFalsely : Prop := fnExactHasCodesRow.holds Try.pinned (OpenSpec.ofChange fnExactHasCodesWrong)

/- THE SECOND FORM. 'bulk': how many values and letters a reading holds, each counted each time it is reached (what is shared counts as often as it is met; a slice's spare places count too). A statement '..UptoSaid' is the law's where the arguments, and the package variables that the reading takes, are together of bulk at most 1048576: NARROWER than '..Said'. Prove '..Said' where nothing that the law and all that it calls make is longer than what came in: it says more and counts as full. Else prove '..UptoSaid'. A law counts once. -/
mutual
def uptoBulk {H : Type} : DataW H → Nat
  | .lit (.string bytes) => bytes.length + 1
  | .lit _ => 1
  | .nil => 1
  | .ptr d => uptoBulk d + 1
  | .slice elems spare => uptoBulkAll elems + uptoBulkAll spare + 1
  | .agg parts => uptoBulkAll parts + 1
  | .iface _ d => uptoBulk d + 1
  | .map entries => uptoBulkEntries entries + 1
  | .held _ => 1
def uptoBulkAll {H : Type} : List (DataW H) → Nat
  | [] => 0
  | d :: r => uptoBulk d + uptoBulkAll r
def uptoBulkEntries {H : Type} : List (Lit × DataW H) → Nat
  | [] => 0
  | x :: r => uptoBulkEntry x + uptoBulkEntries r
def uptoBulkEntry {H : Type} : Lit × DataW H → Nat
  | (.string bytes, d) => bytes.length + uptoBulk d + 1
  | (_, d) => uptoBulk d + 1
 end
def uptoSmall : (H : Type) → List (DataW H) → Bool := fun _ ds => decide (uptoBulkAll ds ≤ 1048576)
def OpenSpec.upto (s : _root_.Go.ChangeSpec) : _root_.Go.OpenSpec := { _root_.Go.OpenSpec.ofChange s with cond := some uptoSmall }

/-- 'laws.FnCharsets', WHERE WHAT IT READS IS OF BULK AT MOST 1048576: true; the input reads as it did. -/
def fnCharsetsUptoRow : OpenClaim := { program := "ytjkhlkmibajhiaa", sum := "e3f6b290a8c5a57a2bf7cf9c3eae6d81ee582a3df1fc820a592ff2f27b92fe7c", func := "loop.example/g00447/laws.FnCharsets", spec := "fnCharsets", unfollowed := true, recurses := true, apart := false, narrowed := true }
def FnCharsetsUptoSaid : Prop := fnCharsetsUptoRow.holds Try.pinned (OpenSpec.upto fnCharsetsSpec)

/-- 'laws.FnMaps', WHERE WHAT IT READS IS OF BULK AT MOST 1048576: true; the input reads as it did. -/
def fnMapsUptoRow : OpenClaim := { program := "ytjkhlkmibajhiaa", sum := "e3f6b290a8c5a57a2bf7cf9c3eae6d81ee582a3df1fc820a592ff2f27b92fe7c", func := "loop.example/g00447/laws.FnMaps", spec := "fnMaps", unfollowed := true, recurses := true, apart := false, narrowed := true }
def FnMapsUptoSaid : Prop := fnMapsUptoRow.holds Try.pinned (OpenSpec.upto fnMapsSpec)

/-- 'laws.FnOrders', WHERE WHAT IT READS IS OF BULK AT MOST 1048576: true; the input reads as it did. -/
def fnOrdersUptoRow : OpenClaim := { program := "ytjkhlkmibajhiaa", sum := "e3f6b290a8c5a57a2bf7cf9c3eae6d81ee582a3df1fc820a592ff2f27b92fe7c", func := "loop.example/g00447/laws.FnOrders", spec := "fnOrders", unfollowed := true, recurses := true, apart := false, narrowed := true }
def FnOrdersUptoSaid : Prop := fnOrdersUptoRow.holds Try.pinned (OpenSpec.upto fnOrdersSpec)

/-- 'laws.FnInside', WHERE WHAT IT READS IS OF BULK AT MOST 1048576: true; the input reads as it did. -/
def fnInsideUptoRow : OpenClaim := { program := "ytjkhlkmibajhiaa", sum := "e3f6b290a8c5a57a2bf7cf9c3eae6d81ee582a3df1fc820a592ff2f27b92fe7c", func := "loop.example/g00447/laws.FnInside", spec := "fnInside", unfollowed := true, recurses := true, apart := false, narrowed := true }
def FnInsideUptoSaid : Prop := fnInsideUptoRow.holds Try.pinned (OpenSpec.upto fnInsideSpec)

/-- 'laws.FnExactMapChar', WHERE WHAT IT READS IS OF BULK AT MOST 1048576: true; the input reads as it did. -/
def fnExactMapCharUptoRow : OpenClaim := { program := "ytjkhlkmibajhiaa", sum := "e3f6b290a8c5a57a2bf7cf9c3eae6d81ee582a3df1fc820a592ff2f27b92fe7c", func := "loop.example/g00447/laws.FnExactMapChar", spec := "fnExactMapChar", apart := false, narrowed := true }
def FnExactMapCharUptoSaid : Prop := fnExactMapCharUptoRow.holds Try.pinned (OpenSpec.upto fnExactMapCharSpec)

/-- 'laws.FnExactMapCodes', WHERE WHAT IT READS IS OF BULK AT MOST 1048576: true; the input reads as it did. -/
def fnExactMapCodesUptoRow : OpenClaim := { program := "ytjkhlkmibajhiaa", sum := "e3f6b290a8c5a57a2bf7cf9c3eae6d81ee582a3df1fc820a592ff2f27b92fe7c", func := "loop.example/g00447/laws.FnExactMapCodes", spec := "fnExactMapCodes", unfollowed := true, recurses := true, apart := false, narrowed := true }
def FnExactMapCodesUptoSaid : Prop := fnExactMapCodesUptoRow.holds Try.pinned (OpenSpec.upto fnExactMapCodesSpec)

/-- 'laws.FnExactCompareCodes', WHERE WHAT IT READS IS OF BULK AT MOST 1048576: true; the input reads as it did. -/
def fnExactCompareCodesUptoRow : OpenClaim := { program := "ytjkhlkmibajhiaa", sum := "e3f6b290a8c5a57a2bf7cf9c3eae6d81ee582a3df1fc820a592ff2f27b92fe7c", func := "loop.example/g00447/laws.FnExactCompareCodes", spec := "fnExactCompareCodes", unfollowed := true, recurses := true, apart := false, narrowed := true }
def FnExactCompareCodesUptoSaid : Prop := fnExactCompareCodesUptoRow.holds Try.pinned (OpenSpec.upto fnExactCompareCodesSpec)

/-- 'laws.FnExactHasCodes', WHERE WHAT IT READS IS OF BULK AT MOST 1048576: true; the input reads as it did. -/
def fnExactHasCodesUptoRow : OpenClaim := { program := "ytjkhlkmibajhiaa", sum := "e3f6b290a8c5a57a2bf7cf9c3eae6d81ee582a3df1fc820a592ff2f27b92fe7c", func := "loop.example/g00447/laws.FnExactHasCodes", spec := "fnExactHasCodes", unfollowed := true, recurses := true, apart := false, narrowed := true }
def FnExactHasCodesUptoSaid : Prop := fnExactHasCodesUptoRow.holds Try.pinned (OpenSpec.upto fnExactHasCodesSpec)

end Rows
end Go.Proofs.Ytjkhlkmibajhiaa
