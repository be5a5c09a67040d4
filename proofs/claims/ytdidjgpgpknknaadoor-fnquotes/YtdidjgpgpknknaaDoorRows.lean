/-
  NARROWER THAN 'FOR EVERY INPUT', by the rows' own cells (each row's printed sentence says how): FnBases: laid · FnQuotes: laid · FnExactEncodeBase: laid · FnExactDecodeBase: laid · FnExactEncodeQuoted: laid · FnExactDecodeQuoted: laid · FnExactBaseDigit: laid.
  DERIVED. THE GIVEN ROWS OF THIS SEAT. 7 by the template 'for every input the law returns true; each argument reads behind the call as it read before'; 0 by the template 'total and deterministic' (their statements: YtdidjgpgpknknaaDoorTotals.lean).
  GIVEN WITH THE SEED: the statements are not yours to turn. If you find one false, say at which input.
  Laid BY PROGRAM, IN A SANDBOX (cutbox-rows.mjs): the forced cells as the released guide's own fill.sh prints them over the translation 61489379dbc8054e… (all of the seat's roots in one cut). By AI agents, Wed Nov 11 2026. No macro, syntax, notation, axiom, sorry.
-/
import Derived.Test.YtdidjgpgpknknaaDoorChecked
import GoSem.Claim
import GoSem.ClaimJoined
import GoSem.ClaimMapViews
import Derived.JoinedTies
import Derived.KernelRfl
namespace Go.Proofs.YtdidjgpgpknknaaDoor
/- THE CELL 'sum', in the pinned program and in every row, IS THE sha256 OF THE DUMP (.gsa) THAT YtdidjgpgpknknaaDoorProg.lean LOADS. Nothing in Lean hashes anything: it is a label: what it is worth is what the hold of that sum in a sandbox is worth. -/
noncomputable def Tryd.pinned : Pinned := { name := "ytdidjgpgpknknaadoor", sum := "61489379dbc8054ea50804dbcc28b92ab5ca648916516ed09f9da09fb56fc598", checked := Tryd.checked }
namespace Rows
def none {H : Type} : Left H := { results := [], args := [] }

/- WHAT THE LISTED PACKAGE-LEVEL VARIABLES READ AS WHEN THE CALL BEGINS. Each datum BY PROGRAM (the guide's laid-datum.mjs) off the statement by which the dump's own 'gosem.cut.vars' lays the variable. In a bare row this is a premise. The card (YtdidjgpgpknknaaDoorCards.lean) ties it to the program's text. -/
def laid_loop_example_g00447_impl_baseDigits {H : Type} : DataW H := .agg [.lit (.int .u8 65), .lit (.int .u8 66), .lit (.int .u8 67), .lit (.int .u8 68), .lit (.int .u8 69), .lit (.int .u8 70), .lit (.int .u8 71), .lit (.int .u8 72), .lit (.int .u8 73), .lit (.int .u8 74), .lit (.int .u8 75), .lit (.int .u8 76), .lit (.int .u8 77), .lit (.int .u8 78), .lit (.int .u8 79), .lit (.int .u8 80), .lit (.int .u8 81), .lit (.int .u8 82), .lit (.int .u8 83), .lit (.int .u8 84), .lit (.int .u8 85), .lit (.int .u8 86), .lit (.int .u8 87), .lit (.int .u8 88), .lit (.int .u8 89), .lit (.int .u8 90), .lit (.int .u8 97), .lit (.int .u8 98), .lit (.int .u8 99), .lit (.int .u8 100), .lit (.int .u8 101), .lit (.int .u8 102), .lit (.int .u8 103), .lit (.int .u8 104), .lit (.int .u8 105), .lit (.int .u8 106), .lit (.int .u8 107), .lit (.int .u8 108), .lit (.int .u8 109), .lit (.int .u8 110), .lit (.int .u8 111), .lit (.int .u8 112), .lit (.int .u8 113), .lit (.int .u8 114), .lit (.int .u8 115), .lit (.int .u8 116), .lit (.int .u8 117), .lit (.int .u8 118), .lit (.int .u8 119), .lit (.int .u8 120), .lit (.int .u8 121), .lit (.int .u8 122), .lit (.int .u8 48), .lit (.int .u8 49), .lit (.int .u8 50), .lit (.int .u8 51), .lit (.int .u8 52), .lit (.int .u8 53), .lit (.int .u8 54), .lit (.int .u8 55), .lit (.int .u8 56), .lit (.int .u8 57), .lit (.int .u8 43), .lit (.int .u8 47)]
def laid_loop_example_g00447_impl_hexDigits {H : Type} : DataW H := .agg [.lit (.int .u8 48), .lit (.int .u8 49), .lit (.int .u8 50), .lit (.int .u8 51), .lit (.int .u8 52), .lit (.int .u8 53), .lit (.int .u8 54), .lit (.int .u8 55), .lit (.int .u8 56), .lit (.int .u8 57), .lit (.int .u8 65), .lit (.int .u8 66), .lit (.int .u8 67), .lit (.int .u8 68), .lit (.int .u8 69), .lit (.int .u8 70)]

/-- 'laws.FnBases': WHATEVER THE INPUT: true; the input reads as it did. -/
def fnBasesSpec : ChangeSpec := { name := "fnBases", vars := ["loop.example/g00447/impl.baseDigits"], fn := fun _ => fun
  | [d, g1] => { results := [.lit (.bool true)], args := [d], vars := [g1] }
  | _ => none }
def fnBasesRow : OpenClaim := { program := "ytdidjgpgpknknaadoor", sum := "61489379dbc8054ea50804dbcc28b92ab5ca648916516ed09f9da09fb56fc598", func := "loop.example/g00447/laws.FnBases", spec := "fnBases", named := ["loop.example/g00447/impl.baseDigits"], apart := false, laid := [("loop.example/g00447/impl.baseDigits", laid_loop_example_g00447_impl_baseDigits)] }
def FnBasesSaid : Prop := fnBasesRow.holds Tryd.pinned (OpenSpec.ofChange fnBasesSpec)

/-- ITS FALSE NEIGHBOUR: 'it returns false'. Refute it at one input. -/
def fnBasesWrong : ChangeSpec := { name := "fnBases", vars := ["loop.example/g00447/impl.baseDigits"], fn := fun _ => fun
  | [d, g1] => { results := [.lit (.bool false)], args := [d], vars := [g1] }
  | _ => none }
def FnBasesWrongFalsely : Prop := fnBasesRow.holds Tryd.pinned (OpenSpec.ofChange fnBasesWrong)

/-- 'laws.FnQuotes': WHATEVER THE INPUT: true; the input reads as it did. -/
def fnQuotesSpec : ChangeSpec := { name := "fnQuotes", vars := ["loop.example/g00447/impl.hexDigits"], fn := fun _ => fun
  | [d, g1] => { results := [.lit (.bool true)], args := [d], vars := [g1] }
  | _ => none }
def fnQuotesRow : OpenClaim := { program := "ytdidjgpgpknknaadoor", sum := "61489379dbc8054ea50804dbcc28b92ab5ca648916516ed09f9da09fb56fc598", func := "loop.example/g00447/laws.FnQuotes", spec := "fnQuotes", named := ["loop.example/g00447/impl.hexDigits"], apart := false, laid := [("loop.example/g00447/impl.hexDigits", laid_loop_example_g00447_impl_hexDigits)] }
def FnQuotesSaid : Prop := fnQuotesRow.holds Tryd.pinned (OpenSpec.ofChange fnQuotesSpec)

/-- ITS FALSE NEIGHBOUR: 'it returns false'. Refute it at one input. -/
def fnQuotesWrong : ChangeSpec := { name := "fnQuotes", vars := ["loop.example/g00447/impl.hexDigits"], fn := fun _ => fun
  | [d, g1] => { results := [.lit (.bool false)], args := [d], vars := [g1] }
  | _ => none }
def FnQuotesWrongFalsely : Prop := fnQuotesRow.holds Tryd.pinned (OpenSpec.ofChange fnQuotesWrong)

/-- 'laws.FnExactEncodeBase': WHATEVER THE INPUT: true; the input reads as it did. -/
def fnExactEncodeBaseSpec : ChangeSpec := { name := "fnExactEncodeBase", vars := ["loop.example/g00447/impl.baseDigits"], fn := fun _ => fun
  | [d, g1] => { results := [.lit (.bool true)], args := [d], vars := [g1] }
  | _ => none }
def fnExactEncodeBaseRow : OpenClaim := { program := "ytdidjgpgpknknaadoor", sum := "61489379dbc8054ea50804dbcc28b92ab5ca648916516ed09f9da09fb56fc598", func := "loop.example/g00447/laws.FnExactEncodeBase", spec := "fnExactEncodeBase", named := ["loop.example/g00447/impl.baseDigits"], apart := false, laid := [("loop.example/g00447/impl.baseDigits", laid_loop_example_g00447_impl_baseDigits)] }
def FnExactEncodeBaseSaid : Prop := fnExactEncodeBaseRow.holds Tryd.pinned (OpenSpec.ofChange fnExactEncodeBaseSpec)

/-- ITS FALSE NEIGHBOUR: 'it returns false'. Refute it at one input. -/
def fnExactEncodeBaseWrong : ChangeSpec := { name := "fnExactEncodeBase", vars := ["loop.example/g00447/impl.baseDigits"], fn := fun _ => fun
  | [d, g1] => { results := [.lit (.bool false)], args := [d], vars := [g1] }
  | _ => none }
def FnExactEncodeBaseWrongFalsely : Prop := fnExactEncodeBaseRow.holds Tryd.pinned (OpenSpec.ofChange fnExactEncodeBaseWrong)

/-- 'laws.FnExactDecodeBase': WHATEVER THE INPUT: true; the input reads as it did. -/
def fnExactDecodeBaseSpec : ChangeSpec := { name := "fnExactDecodeBase", vars := ["loop.example/g00447/impl.baseDigits"], fn := fun _ => fun
  | [d, g1] => { results := [.lit (.bool true)], args := [d], vars := [g1] }
  | _ => none }
def fnExactDecodeBaseRow : OpenClaim := { program := "ytdidjgpgpknknaadoor", sum := "61489379dbc8054ea50804dbcc28b92ab5ca648916516ed09f9da09fb56fc598", func := "loop.example/g00447/laws.FnExactDecodeBase", spec := "fnExactDecodeBase", named := ["loop.example/g00447/impl.baseDigits"], apart := false, laid := [("loop.example/g00447/impl.baseDigits", laid_loop_example_g00447_impl_baseDigits)] }
def FnExactDecodeBaseSaid : Prop := fnExactDecodeBaseRow.holds Tryd.pinned (OpenSpec.ofChange fnExactDecodeBaseSpec)

/-- ITS FALSE NEIGHBOUR: 'it returns false'. Refute it at one input. -/
def fnExactDecodeBaseWrong : ChangeSpec := { name := "fnExactDecodeBase", vars := ["loop.example/g00447/impl.baseDigits"], fn := fun _ => fun
  | [d, g1] => { results := [.lit (.bool false)], args := [d], vars := [g1] }
  | _ => none }
def FnExactDecodeBaseWrongFalsely : Prop := fnExactDecodeBaseRow.holds Tryd.pinned (OpenSpec.ofChange fnExactDecodeBaseWrong)

/-- 'laws.FnExactEncodeQuoted': WHATEVER THE INPUT: true; the input reads as it did. -/
def fnExactEncodeQuotedSpec : ChangeSpec := { name := "fnExactEncodeQuoted", vars := ["loop.example/g00447/impl.hexDigits"], fn := fun _ => fun
  | [d, g1] => { results := [.lit (.bool true)], args := [d], vars := [g1] }
  | _ => none }
def fnExactEncodeQuotedRow : OpenClaim := { program := "ytdidjgpgpknknaadoor", sum := "61489379dbc8054ea50804dbcc28b92ab5ca648916516ed09f9da09fb56fc598", func := "loop.example/g00447/laws.FnExactEncodeQuoted", spec := "fnExactEncodeQuoted", named := ["loop.example/g00447/impl.hexDigits"], apart := false, laid := [("loop.example/g00447/impl.hexDigits", laid_loop_example_g00447_impl_hexDigits)] }
def FnExactEncodeQuotedSaid : Prop := fnExactEncodeQuotedRow.holds Tryd.pinned (OpenSpec.ofChange fnExactEncodeQuotedSpec)

/-- ITS FALSE NEIGHBOUR: 'it returns false'. Refute it at one input. -/
def fnExactEncodeQuotedWrong : ChangeSpec := { name := "fnExactEncodeQuoted", vars := ["loop.example/g00447/impl.hexDigits"], fn := fun _ => fun
  | [d, g1] => { results := [.lit (.bool false)], args := [d], vars := [g1] }
  | _ => none }
def FnExactEncodeQuotedWrongFalsely : Prop := fnExactEncodeQuotedRow.holds Tryd.pinned (OpenSpec.ofChange fnExactEncodeQuotedWrong)

/-- 'laws.FnExactDecodeQuoted': WHATEVER THE INPUT: true; the input reads as it did. -/
def fnExactDecodeQuotedSpec : ChangeSpec := { name := "fnExactDecodeQuoted", vars := ["loop.example/g00447/impl.hexDigits"], fn := fun _ => fun
  | [d, g1] => { results := [.lit (.bool true)], args := [d], vars := [g1] }
  | _ => none }
def fnExactDecodeQuotedRow : OpenClaim := { program := "ytdidjgpgpknknaadoor", sum := "61489379dbc8054ea50804dbcc28b92ab5ca648916516ed09f9da09fb56fc598", func := "loop.example/g00447/laws.FnExactDecodeQuoted", spec := "fnExactDecodeQuoted", named := ["loop.example/g00447/impl.hexDigits"], apart := false, laid := [("loop.example/g00447/impl.hexDigits", laid_loop_example_g00447_impl_hexDigits)] }
def FnExactDecodeQuotedSaid : Prop := fnExactDecodeQuotedRow.holds Tryd.pinned (OpenSpec.ofChange fnExactDecodeQuotedSpec)

/-- ITS FALSE NEIGHBOUR: 'it returns false'. Refute it at one input. -/
def fnExactDecodeQuotedWrong : ChangeSpec := { name := "fnExactDecodeQuoted", vars := ["loop.example/g00447/impl.hexDigits"], fn := fun _ => fun
  | [d, g1] => { results := [.lit (.bool false)], args := [d], vars := [g1] }
  | _ => none }
def FnExactDecodeQuotedWrongFalsely : Prop := fnExactDecodeQuotedRow.holds Tryd.pinned (OpenSpec.ofChange fnExactDecodeQuotedWrong)

/-- 'laws.FnExactBaseDigit': WHATEVER THE INPUT: true; the input reads as it did. -/
def fnExactBaseDigitSpec : ChangeSpec := { name := "fnExactBaseDigit", vars := ["loop.example/g00447/impl.baseDigits"], fn := fun _ => fun
  | [d, g1] => { results := [.lit (.bool true)], args := [d], vars := [g1] }
  | _ => none }
def fnExactBaseDigitRow : OpenClaim := { program := "ytdidjgpgpknknaadoor", sum := "61489379dbc8054ea50804dbcc28b92ab5ca648916516ed09f9da09fb56fc598", func := "loop.example/g00447/laws.FnExactBaseDigit", spec := "fnExactBaseDigit", named := ["loop.example/g00447/impl.baseDigits"], apart := false, laid := [("loop.example/g00447/impl.baseDigits", laid_loop_example_g00447_impl_baseDigits)] }
def FnExactBaseDigitSaid : Prop := fnExactBaseDigitRow.holds Tryd.pinned (OpenSpec.ofChange fnExactBaseDigitSpec)

/-- ITS FALSE NEIGHBOUR: 'it returns false'. Refute it at one input. -/
def fnExactBaseDigitWrong : ChangeSpec := { name := "fnExactBaseDigit", vars := ["loop.example/g00447/impl.baseDigits"], fn := fun _ => fun
  | [d, g1] => { results := [.lit (.bool false)], args := [d], vars := [g1] }
  | _ => none }
def FnExactBaseDigitWrongFalsely : Prop := fnExactBaseDigitRow.holds Tryd.pinned (OpenSpec.ofChange fnExactBaseDigitWrong)

/- THE SECOND FORM. 'bulk': how many values and letters a reading holds, each counted each time it is reached (what is shared counts as often as it is met; a slice's spare places count too). A statement '..UptoSaid' is the law's where the arguments, and the package variables that the reading takes, are together of bulk at most 1048576: NARROWER than '..Said'. Prove '..Said' where nothing that the law and all that it calls make is longer than what came in: it says more and counts as full. Else prove '..UptoSaid'. A law counts once. -/
mutual
def uptoBulk {H : Type} : DataW H → Nat
  | .lit (.string bytes) => bytes.length + 1
  | .lit _ => 1
  | .nil => 1
  | .ptr d => uptoBulk d + 1
  | .slice elems spare => uptoBulkAll elems + uptoBulkAll spare + 1
  | .agg parts => uptoBulkAll parts + 1
  | .iface _ d => uptoBulk d + 1
  | .map entries => uptoBulkEntries entries + 1
  | .held _ => 1
def uptoBulkAll {H : Type} : List (DataW H) → Nat
  | [] => 0
  | d :: r => uptoBulk d + uptoBulkAll r
def uptoBulkEntries {H : Type} : List (Lit × DataW H) → Nat
  | [] => 0
  | x :: r => uptoBulkEntry x + uptoBulkEntries r
def uptoBulkEntry {H : Type} : Lit × DataW H → Nat
  | (.string bytes, d) => bytes.length + uptoBulk d + 1
  | (_, d) => uptoBulk d + 1
 end
def uptoSmall : (H : Type) → List (DataW H) → Bool := fun _ ds => decide (uptoBulkAll ds ≤ 1048576)
def OpenSpec.upto (s : _root_.Go.ChangeSpec) : _root_.Go.OpenSpec := { _root_.Go.OpenSpec.ofChange s with cond := some uptoSmall }

/-- 'laws.FnBases', WHERE WHAT IT READS IS OF BULK AT MOST 1048576: true; the input reads as it did. -/
def fnBasesUptoRow : OpenClaim := { program := "ytdidjgpgpknknaadoor", sum := "61489379dbc8054ea50804dbcc28b92ab5ca648916516ed09f9da09fb56fc598", func := "loop.example/g00447/laws.FnBases", spec := "fnBases", named := ["loop.example/g00447/impl.baseDigits"], apart := false, laid := [("loop.example/g00447/impl.baseDigits", laid_loop_example_g00447_impl_baseDigits)], narrowed := true }
def FnBasesUptoSaid : Prop := fnBasesUptoRow.holds Tryd.pinned (OpenSpec.upto fnBasesSpec)

/-- 'laws.FnQuotes', WHERE WHAT IT READS IS OF BULK AT MOST 1048576: true; the input reads as it did. -/
def fnQuotesUptoRow : OpenClaim := { program := "ytdidjgpgpknknaadoor", sum := "61489379dbc8054ea50804dbcc28b92ab5ca648916516ed09f9da09fb56fc598", func := "loop.example/g00447/laws.FnQuotes", spec := "fnQuotes", named := ["loop.example/g00447/impl.hexDigits"], apart := false, laid := [("loop.example/g00447/impl.hexDigits", laid_loop_example_g00447_impl_hexDigits)], narrowed := true }
def FnQuotesUptoSaid : Prop := fnQuotesUptoRow.holds Tryd.pinned (OpenSpec.upto fnQuotesSpec)

/-- 'laws.FnExactEncodeBase', WHERE WHAT IT READS IS OF BULK AT MOST 1048576: true; the input reads as it did. -/
def fnExactEncodeBaseUptoRow : OpenClaim := { program := "ytdidjgpgpknknaadoor", sum := "61489379dbc8054ea50804dbcc28b92ab5ca648916516ed09f9da09fb56fc598", func := "loop.example/g00447/laws.FnExactEncodeBase", spec := "fnExactEncodeBase", named := ["loop.example/g00447/impl.baseDigits"], apart := false, laid := [("loop.example/g00447/impl.baseDigits", laid_loop_example_g00447_impl_baseDigits)], narrowed := true }
def FnExactEncodeBaseUptoSaid : Prop := fnExactEncodeBaseUptoRow.holds Tryd.pinned (OpenSpec.upto fnExactEncodeBaseSpec)

/-- 'laws.FnExactDecodeBase', WHERE WHAT IT READS IS OF BULK AT MOST 1048576: true; the input reads as it did. -/
def fnExactDecodeBaseUptoRow : OpenClaim := { program := "ytdidjgpgpknknaadoor", sum := "61489379dbc8054ea50804dbcc28b92ab5ca648916516ed09f9da09fb56fc598", func := "loop.example/g00447/laws.FnExactDecodeBase", spec := "fnExactDecodeBase", named := ["loop.example/g00447/impl.baseDigits"], apart := false, laid := [("loop.example/g00447/impl.baseDigits", laid_loop_example_g00447_impl_baseDigits)], narrowed := true }
def FnExactDecodeBaseUptoSaid : Prop := fnExactDecodeBaseUptoRow.holds Tryd.pinned (OpenSpec.upto fnExactDecodeBaseSpec)

/-- 'laws.FnExactEncodeQuoted', WHERE WHAT IT READS IS OF BULK AT MOST 1048576: true; the input reads as it did. -/
def fnExactEncodeQuotedUptoRow : OpenClaim := { program := "ytdidjgpgpknknaadoor", sum := "61489379dbc8054ea50804dbcc28b92ab5ca648916516ed09f9da09fb56fc598", func := "loop.example/g00447/laws.FnExactEncodeQuoted", spec := "fnExactEncodeQuoted", named := ["loop.example/g00447/impl.hexDigits"], apart := false, laid := [("loop.example/g00447/impl.hexDigits", laid_loop_example_g00447_impl_hexDigits)], narrowed := true }
def FnExactEncodeQuotedUptoSaid : Prop := fnExactEncodeQuotedUptoRow.holds Tryd.pinned (OpenSpec.upto fnExactEncodeQuotedSpec)

/-- 'laws.FnExactDecodeQuoted', WHERE WHAT IT READS IS OF BULK AT MOST 1048576: true; the input reads as it did. -/
def fnExactDecodeQuotedUptoRow : OpenClaim := { program := "ytdidjgpgpknknaadoor", sum := "61489379dbc8054ea50804dbcc28b92ab5ca648916516ed09f9da09fb56fc598", func := "loop.example/g00447/laws.FnExactDecodeQuoted", spec := "fnExactDecodeQuoted", named := ["loop.example/g00447/impl.hexDigits"], apart := false, laid := [("loop.example/g00447/impl.hexDigits", laid_loop_example_g00447_impl_hexDigits)], narrowed := true }
def FnExactDecodeQuotedUptoSaid : Prop := fnExactDecodeQuotedUptoRow.holds Tryd.pinned (OpenSpec.upto fnExactDecodeQuotedSpec)

/-- 'laws.FnExactBaseDigit', WHERE WHAT IT READS IS OF BULK AT MOST 1048576: true; the input reads as it did. -/
def fnExactBaseDigitUptoRow : OpenClaim := { program := "ytdidjgpgpknknaadoor", sum := "61489379dbc8054ea50804dbcc28b92ab5ca648916516ed09f9da09fb56fc598", func := "loop.example/g00447/laws.FnExactBaseDigit", spec := "fnExactBaseDigit", named := ["loop.example/g00447/impl.baseDigits"], apart := false, laid := [("loop.example/g00447/impl.baseDigits", laid_loop_example_g00447_impl_baseDigits)], narrowed := true }
def FnExactBaseDigitUptoSaid : Prop := fnExactBaseDigitUptoRow.holds Tryd.pinned (OpenSpec.upto fnExactBaseDigitSpec)

end Rows
end Go.Proofs.YtdidjgpgpknknaaDoor
