/-
  NARROWER THAN 'FOR EVERY INPUT', by the rows' own cells (each row's printed sentence says how): FnBuilds: laid · FnExactParseParts: laid · FnExactPartAt: laid.
  DERIVED. THE GIVEN ROWS OF THIS SEAT. 3 by the template 'for every input the law returns true; each argument reads behind the call as it read before'; 0 by the template 'total and deterministic' (their statements: YtkjnhcnbbojajaaDoorTotals.lean).
  GIVEN WITH THE SEED: the statements are not yours to turn. If you find one false, say at which input.
  Laid BY PROGRAM, IN A SANDBOX (cutbox-rows.mjs): the forced cells as the released guide's own fill.sh prints them over the translation e6b1575c848edb6b… (all of the seat's roots in one cut). By AI agents, Wed Nov 11 2026. No macro, syntax, notation, axiom, sorry.
-/
import Derived.Test.YtkjnhcnbbojajaaDoorChecked
import GoSem.PinnedTables
import GoSem.Claim
import GoSem.ClaimJoined
import GoSem.ClaimMapViews
import Derived.JoinedTies
import Derived.KernelRfl
namespace Go.Proofs.YtkjnhcnbbojajaaDoor
/- THE CELL 'sum', in the pinned program and in every row, IS THE sha256 OF THE DUMP (.gsa) THAT YtkjnhcnbbojajaaDoorProg.lean LOADS. Nothing in Lean hashes anything: it is a label: what it is worth is what the hold of that sum in a sandbox is worth. -/
noncomputable def Tryd.pinned : Pinned := { name := "ytkjnhcnbbojajaadoor", sum := "e6b1575c848edb6b5e789d5f51174f1c0795d1c6deaca6b1ecf3702abb486017", checked := Tryd.checked }
namespace Rows
def none {H : Type} : Left H := { results := [], args := [] }

/- WHAT THE LISTED PACKAGE-LEVEL VARIABLES READ AS WHEN THE CALL BEGINS. Each datum BY PROGRAM (the guide's laid-datum.mjs) off the statement by which the dump's own 'gosem.cut.vars' lays the variable. In a bare row this is a premise. The card (YtkjnhcnbbojajaaDoorCards.lean) ties it to the program's text. -/
def laid_unicode_utf8_acceptRanges {H : Type} : DataW H := .agg [.agg [.lit (.int .u8 128), .lit (.int .u8 191)], .agg [.lit (.int .u8 160), .lit (.int .u8 191)], .agg [.lit (.int .u8 128), .lit (.int .u8 159)], .agg [.lit (.int .u8 144), .lit (.int .u8 191)], .agg [.lit (.int .u8 128), .lit (.int .u8 143)], .agg [.lit (.int .u8 0), .lit (.int .u8 0)], .agg [.lit (.int .u8 0), .lit (.int .u8 0)], .agg [.lit (.int .u8 0), .lit (.int .u8 0)], .agg [.lit (.int .u8 0), .lit (.int .u8 0)], .agg [.lit (.int .u8 0), .lit (.int .u8 0)], .agg [.lit (.int .u8 0), .lit (.int .u8 0)], .agg [.lit (.int .u8 0), .lit (.int .u8 0)], .agg [.lit (.int .u8 0), .lit (.int .u8 0)], .agg [.lit (.int .u8 0), .lit (.int .u8 0)], .agg [.lit (.int .u8 0), .lit (.int .u8 0)], .agg [.lit (.int .u8 0), .lit (.int .u8 0)]]
def laid_loop_example_g00447_impl_charsetNames {H : Type} : DataW H := .agg [.lit (.string [117, 115, 45, 97, 115, 99, 105, 105]), .lit (.string [105, 115, 111, 45, 56, 56, 53, 57, 45, 49]), .lit (.string [105, 115, 111, 45, 56, 56, 53, 57, 45, 53]), .lit (.string [117, 116, 102, 45, 56]), .lit (.string [117, 116, 102, 45, 49, 54])]
/-- One of Go's own tables, pinned by name: the form's constant. -/
def laid_unicode_utf8_first : DataW Unit := Go.Pinned.utf8First

/-- 'laws.FnBuilds': WHATEVER THE INPUT: true; the input reads as it did. -/
def fnBuildsSpec : ChangeSpec := { name := "fnBuilds", vars := ["loop.example/g00447/impl.charsetNames"], fn := fun _ => fun
  | [d, g1] => { results := [.lit (.bool true)], args := [d], vars := [g1] }
  | _ => none }
def fnBuildsRow : OpenClaim := { program := "ytkjnhcnbbojajaadoor", sum := "e6b1575c848edb6b5e789d5f51174f1c0795d1c6deaca6b1ecf3702abb486017", func := "loop.example/g00447/laws.FnBuilds", spec := "fnBuilds", inPlace := ["internal/bytealg.IndexByte", "internal/bytealg.IndexByteString", "internal/bytealg.IndexString"], unfollowed := true, recurses := true, named := ["internal/bytealg.MaxLen", "unicode/utf8.first", "unicode/utf8.acceptRanges", "loop.example/g00447/impl.charsetNames"], apart := false, laid := [("unicode/utf8.acceptRanges", laid_unicode_utf8_acceptRanges), ("loop.example/g00447/impl.charsetNames", laid_loop_example_g00447_impl_charsetNames), ("unicode/utf8.first", laid_unicode_utf8_first)] }
def FnBuildsSaid : Prop := fnBuildsRow.holds Tryd.pinned (OpenSpec.ofChange fnBuildsSpec)

/-- ITS FALSE NEIGHBOUR: 'it returns false'. Refute it at one input. -/
def fnBuildsWrong : ChangeSpec := { name := "fnBuilds", vars := ["loop.example/g00447/impl.charsetNames"], fn := fun _ => fun
  | [d, g1] => { results := [.lit (.bool false)], args := [d], vars := [g1] }
  | _ => none }
def FnBuildsWrongFalsely : Prop := fnBuildsRow.holds Tryd.pinned (OpenSpec.ofChange fnBuildsWrong)

/-- 'laws.FnExactParseParts': WHATEVER THE INPUT: true; the input reads as it did. -/
def fnExactParsePartsSpec : ChangeSpec := { name := "fnExactParseParts", vars := ["loop.example/g00447/impl.charsetNames"], fn := fun _ => fun
  | [d, g1] => { results := [.lit (.bool true)], args := [d], vars := [g1] }
  | _ => none }
def fnExactParsePartsRow : OpenClaim := { program := "ytkjnhcnbbojajaadoor", sum := "e6b1575c848edb6b5e789d5f51174f1c0795d1c6deaca6b1ecf3702abb486017", func := "loop.example/g00447/laws.FnExactParseParts", spec := "fnExactParseParts", inPlace := ["internal/bytealg.IndexByte", "internal/bytealg.IndexByteString", "internal/bytealg.IndexString"], unfollowed := true, recurses := true, named := ["internal/bytealg.MaxLen", "unicode/utf8.first", "unicode/utf8.acceptRanges", "loop.example/g00447/impl.charsetNames"], apart := false, laid := [("unicode/utf8.acceptRanges", laid_unicode_utf8_acceptRanges), ("loop.example/g00447/impl.charsetNames", laid_loop_example_g00447_impl_charsetNames), ("unicode/utf8.first", laid_unicode_utf8_first)] }
def FnExactParsePartsSaid : Prop := fnExactParsePartsRow.holds Tryd.pinned (OpenSpec.ofChange fnExactParsePartsSpec)

/-- ITS FALSE NEIGHBOUR: 'it returns false'. Refute it at one input. -/
def fnExactParsePartsWrong : ChangeSpec := { name := "fnExactParseParts", vars := ["loop.example/g00447/impl.charsetNames"], fn := fun _ => fun
  | [d, g1] => { results := [.lit (.bool false)], args := [d], vars := [g1] }
  | _ => none }
def FnExactParsePartsWrongFalsely : Prop := fnExactParsePartsRow.holds Tryd.pinned (OpenSpec.ofChange fnExactParsePartsWrong)

/-- 'laws.FnExactPartAt': WHATEVER THE INPUT: true; the input reads as it did. -/
def fnExactPartAtSpec : ChangeSpec := { name := "fnExactPartAt", vars := ["loop.example/g00447/impl.charsetNames"], fn := fun _ => fun
  | [d1, d2, g1] => { results := [.lit (.bool true)], args := [d1, d2], vars := [g1] }
  | _ => none }
def fnExactPartAtRow : OpenClaim := { program := "ytkjnhcnbbojajaadoor", sum := "e6b1575c848edb6b5e789d5f51174f1c0795d1c6deaca6b1ecf3702abb486017", func := "loop.example/g00447/laws.FnExactPartAt", spec := "fnExactPartAt", inPlace := ["internal/bytealg.IndexByte", "internal/bytealg.IndexByteString", "internal/bytealg.IndexString"], unfollowed := true, recurses := true, named := ["internal/bytealg.MaxLen", "unicode/utf8.first", "unicode/utf8.acceptRanges", "loop.example/g00447/impl.charsetNames"], apart := false, laid := [("unicode/utf8.acceptRanges", laid_unicode_utf8_acceptRanges), ("loop.example/g00447/impl.charsetNames", laid_loop_example_g00447_impl_charsetNames), ("unicode/utf8.first", laid_unicode_utf8_first)] }
def FnExactPartAtSaid : Prop := fnExactPartAtRow.holds Tryd.pinned (OpenSpec.ofChange fnExactPartAtSpec)

/-- ITS FALSE NEIGHBOUR: 'it returns false'. Refute it at one input. -/
def fnExactPartAtWrong : ChangeSpec := { name := "fnExactPartAt", vars := ["loop.example/g00447/impl.charsetNames"], fn := fun _ => fun
  | [d1, d2, g1] => { results := [.lit (.bool false)], args := [d1, d2], vars := [g1] }
  | _ => none }
def FnExactPartAtWrongFalsely : Prop := fnExactPartAtRow.holds Tryd.pinned (OpenSpec.ofChange fnExactPartAtWrong)

/- THE SECOND FORM. 'bulk': how many values and letters a reading holds, each counted each time it is reached (what is shared counts as often as it is met; a slice's spare places count too). A statement '..UptoSaid' is the law's where the arguments, and the package variables that the reading takes, are together of bulk at most 1048576: NARROWER than '..Said'. Prove '..Said' where nothing that the law and all that it calls make is longer than what came in: it says more and counts as full. Else prove '..UptoSaid'. A law counts once. -/
mutual
def uptoBulk {H : Type} : DataW H → Nat
  | .lit (.string bytes) => bytes.length + 1
  | .lit _ => 1
  | .nil => 1
  | .ptr d => uptoBulk d + 1
  | .slice elems spare => uptoBulkAll elems + uptoBulkAll spare + 1
  | .agg parts => uptoBulkAll parts + 1
  | .iface _ d => uptoBulk d + 1
  | .map entries => uptoBulkEntries entries + 1
  | .held _ => 1
def uptoBulkAll {H : Type} : List (DataW H) → Nat
  | [] => 0
  | d :: r => uptoBulk d + uptoBulkAll r
def uptoBulkEntries {H : Type} : List (Lit × DataW H) → Nat
  | [] => 0
  | x :: r => uptoBulkEntry x + uptoBulkEntries r
def uptoBulkEntry {H : Type} : Lit × DataW H → Nat
  | (.string bytes, d) => bytes.length + uptoBulk d + 1
  | (_, d) => uptoBulk d + 1
 end
def uptoSmall : (H : Type) → List (DataW H) → Bool := fun _ ds => decide (uptoBulkAll ds ≤ 1048576)
def OpenSpec.upto (s : _root_.Go.ChangeSpec) : _root_.Go.OpenSpec := { _root_.Go.OpenSpec.ofChange s with cond := some uptoSmall }

/-- 'laws.FnBuilds', WHERE WHAT IT READS IS OF BULK AT MOST 1048576: true; the input reads as it did. -/
def fnBuildsUptoRow : OpenClaim := { program := "ytkjnhcnbbojajaadoor", sum := "e6b1575c848edb6b5e789d5f51174f1c0795d1c6deaca6b1ecf3702abb486017", func := "loop.example/g00447/laws.FnBuilds", spec := "fnBuilds", inPlace := ["internal/bytealg.IndexByte", "internal/bytealg.IndexByteString", "internal/bytealg.IndexString"], unfollowed := true, recurses := true, named := ["internal/bytealg.MaxLen", "unicode/utf8.first", "unicode/utf8.acceptRanges", "loop.example/g00447/impl.charsetNames"], apart := false, laid := [("unicode/utf8.acceptRanges", laid_unicode_utf8_acceptRanges), ("loop.example/g00447/impl.charsetNames", laid_loop_example_g00447_impl_charsetNames), ("unicode/utf8.first", laid_unicode_utf8_first)], narrowed := true }
def FnBuildsUptoSaid : Prop := fnBuildsUptoRow.holds Tryd.pinned (OpenSpec.upto fnBuildsSpec)

/-- 'laws.FnExactParseParts', WHERE WHAT IT READS IS OF BULK AT MOST 1048576: true; the input reads as it did. -/
def fnExactParsePartsUptoRow : OpenClaim := { program := "ytkjnhcnbbojajaadoor", sum := "e6b1575c848edb6b5e789d5f51174f1c0795d1c6deaca6b1ecf3702abb486017", func := "loop.example/g00447/laws.FnExactParseParts", spec := "fnExactParseParts", inPlace := ["internal/bytealg.IndexByte", "internal/bytealg.IndexByteString", "internal/bytealg.IndexString"], unfollowed := true, recurses := true, named := ["internal/bytealg.MaxLen", "unicode/utf8.first", "unicode/utf8.acceptRanges", "loop.example/g00447/impl.charsetNames"], apart := false, laid := [("unicode/utf8.acceptRanges", laid_unicode_utf8_acceptRanges), ("loop.example/g00447/impl.charsetNames", laid_loop_example_g00447_impl_charsetNames), ("unicode/utf8.first", laid_unicode_utf8_first)], narrowed := true }
def FnExactParsePartsUptoSaid : Prop := fnExactParsePartsUptoRow.holds Tryd.pinned (OpenSpec.upto fnExactParsePartsSpec)

/-- 'laws.FnExactPartAt', WHERE WHAT IT READS IS OF BULK AT MOST 1048576: true; the input reads as it did. -/
def fnExactPartAtUptoRow : OpenClaim := { program := "ytkjnhcnbbojajaadoor", sum := "e6b1575c848edb6b5e789d5f51174f1c0795d1c6deaca6b1ecf3702abb486017", func := "loop.example/g00447/laws.FnExactPartAt", spec := "fnExactPartAt", inPlace := ["internal/bytealg.IndexByte", "internal/bytealg.IndexByteString", "internal/bytealg.IndexString"], unfollowed := true, recurses := true, named := ["internal/bytealg.MaxLen", "unicode/utf8.first", "unicode/utf8.acceptRanges", "loop.example/g00447/impl.charsetNames"], apart := false, laid := [("unicode/utf8.acceptRanges", laid_unicode_utf8_acceptRanges), ("loop.example/g00447/impl.charsetNames", laid_loop_example_g00447_impl_charsetNames), ("unicode/utf8.first", laid_unicode_utf8_first)], narrowed := true }
def FnExactPartAtUptoSaid : Prop := fnExactPartAtUptoRow.holds Tryd.pinned (OpenSpec.upto fnExactPartAtSpec)

end Rows
end Go.Proofs.YtkjnhcnbbojajaaDoor
