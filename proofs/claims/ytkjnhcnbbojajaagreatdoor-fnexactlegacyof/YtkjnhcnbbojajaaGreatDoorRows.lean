/-
  NARROWER THAN 'FOR EVERY INPUT', by the rows' own cells (each row's printed sentence says how): FnNested: laid · FnExactPathOf: laid · FnExactBodyOf: laid · FnDecodes: laid · FnConverts: laid · FnSlices: laid · FnLegacies: laid · FnExactPartBytes: laid · FnExactPartCodes: laid · FnExactConvertPart: laid · FnExactSubjectOf: laid · FnExactPreviewOf: laid · FnExactLegacyOf: laid.
  DERIVED. THE GIVEN ROWS OF THIS SEAT. 13 by the template 'for every input the law returns true; each argument reads behind the call as it read before'; 0 by the template 'total and deterministic' (their statements: YtkjnhcnbbojajaaGreatDoorTotals.lean).
  GIVEN WITH THE SEED: the statements are not yours to turn. If you find one false, say at which input.
  Laid BY PROGRAM, IN A SANDBOX (cutbox-rows.mjs): the forced cells as the released guide's own fill.sh prints them over the translation f2032ae5093cb328… (all of the seat's roots in one cut). By AI agents, Wed Nov 11 2026. No macro, syntax, notation, axiom, sorry.
-/
import Derived.Test.YtkjnhcnbbojajaaGreatDoorChecked
import GoSem.PinnedTables
import GoSem.Claim
import GoSem.ClaimJoined
import GoSem.ClaimMapViews
import Derived.JoinedTies
import Derived.KernelRfl
namespace Go.Proofs.YtkjnhcnbbojajaaGreatDoor
/- THE CELL 'sum', in the pinned program and in every row, IS THE sha256 OF THE DUMP (.gsa) THAT YtkjnhcnbbojajaaGreatDoorProg.lean LOADS. Nothing in Lean hashes anything: it is a label: what it is worth is what the hold of that sum in a sandbox is worth. -/
noncomputable def Tryz.pinned : Pinned := { name := "ytkjnhcnbbojajaagreatdoor", sum := "f2032ae5093cb32833066b53c772073eb63ff2521f4549e48420ce89944590d7", checked := Tryz.checked }
namespace Rows
def none {H : Type} : Left H := { results := [], args := [] }

/- WHAT THE LISTED PACKAGE-LEVEL VARIABLES READ AS WHEN THE CALL BEGINS. Each datum BY PROGRAM (the guide's laid-datum.mjs) off the statement by which the dump's own 'gosem.cut.vars' lays the variable. In a bare row this is a premise. The card (YtkjnhcnbbojajaaGreatDoorCards.lean) ties it to the program's text. -/
def laid_unicode_utf8_acceptRanges {H : Type} : DataW H := .agg [.agg [.lit (.int .u8 128), .lit (.int .u8 191)], .agg [.lit (.int .u8 160), .lit (.int .u8 191)], .agg [.lit (.int .u8 128), .lit (.int .u8 159)], .agg [.lit (.int .u8 144), .lit (.int .u8 191)], .agg [.lit (.int .u8 128), .lit (.int .u8 143)], .agg [.lit (.int .u8 0), .lit (.int .u8 0)], .agg [.lit (.int .u8 0), .lit (.int .u8 0)], .agg [.lit (.int .u8 0), .lit (.int .u8 0)], .agg [.lit (.int .u8 0), .lit (.int .u8 0)], .agg [.lit (.int .u8 0), .lit (.int .u8 0)], .agg [.lit (.int .u8 0), .lit (.int .u8 0)], .agg [.lit (.int .u8 0), .lit (.int .u8 0)], .agg [.lit (.int .u8 0), .lit (.int .u8 0)], .agg [.lit (.int .u8 0), .lit (.int .u8 0)], .agg [.lit (.int .u8 0), .lit (.int .u8 0)], .agg [.lit (.int .u8 0), .lit (.int .u8 0)]]
def laid_loop_example_g00447_impl_charsetNames {H : Type} : DataW H := .agg [.lit (.string [117, 115, 45, 97, 115, 99, 105, 105]), .lit (.string [105, 115, 111, 45, 56, 56, 53, 57, 45, 49]), .lit (.string [105, 115, 111, 45, 56, 56, 53, 57, 45, 53]), .lit (.string [117, 116, 102, 45, 56]), .lit (.string [117, 116, 102, 45, 49, 54])]
/-- One of Go's own tables, pinned by name: the form's constant. -/
def laid_unicode_utf8_first : DataW Unit := Go.Pinned.utf8First
def laid_loop_example_g00447_impl_baseDigits {H : Type} : DataW H := .agg [.lit (.int .u8 65), .lit (.int .u8 66), .lit (.int .u8 67), .lit (.int .u8 68), .lit (.int .u8 69), .lit (.int .u8 70), .lit (.int .u8 71), .lit (.int .u8 72), .lit (.int .u8 73), .lit (.int .u8 74), .lit (.int .u8 75), .lit (.int .u8 76), .lit (.int .u8 77), .lit (.int .u8 78), .lit (.int .u8 79), .lit (.int .u8 80), .lit (.int .u8 81), .lit (.int .u8 82), .lit (.int .u8 83), .lit (.int .u8 84), .lit (.int .u8 85), .lit (.int .u8 86), .lit (.int .u8 87), .lit (.int .u8 88), .lit (.int .u8 89), .lit (.int .u8 90), .lit (.int .u8 97), .lit (.int .u8 98), .lit (.int .u8 99), .lit (.int .u8 100), .lit (.int .u8 101), .lit (.int .u8 102), .lit (.int .u8 103), .lit (.int .u8 104), .lit (.int .u8 105), .lit (.int .u8 106), .lit (.int .u8 107), .lit (.int .u8 108), .lit (.int .u8 109), .lit (.int .u8 110), .lit (.int .u8 111), .lit (.int .u8 112), .lit (.int .u8 113), .lit (.int .u8 114), .lit (.int .u8 115), .lit (.int .u8 116), .lit (.int .u8 117), .lit (.int .u8 118), .lit (.int .u8 119), .lit (.int .u8 120), .lit (.int .u8 121), .lit (.int .u8 122), .lit (.int .u8 48), .lit (.int .u8 49), .lit (.int .u8 50), .lit (.int .u8 51), .lit (.int .u8 52), .lit (.int .u8 53), .lit (.int .u8 54), .lit (.int .u8 55), .lit (.int .u8 56), .lit (.int .u8 57), .lit (.int .u8 43), .lit (.int .u8 47)]
def laid_loop_example_g00447_impl_hexDigits {H : Type} : DataW H := .agg [.lit (.int .u8 48), .lit (.int .u8 49), .lit (.int .u8 50), .lit (.int .u8 51), .lit (.int .u8 52), .lit (.int .u8 53), .lit (.int .u8 54), .lit (.int .u8 55), .lit (.int .u8 56), .lit (.int .u8 57), .lit (.int .u8 65), .lit (.int .u8 66), .lit (.int .u8 67), .lit (.int .u8 68), .lit (.int .u8 69), .lit (.int .u8 70)]

/-- 'laws.FnNested': WHATEVER THE INPUT: true; the input reads as it did. -/
def fnNestedSpec : ChangeSpec := { name := "fnNested", vars := ["loop.example/g00447/impl.charsetNames"], fn := fun _ => fun
  | [d, g1] => { results := [.lit (.bool true)], args := [d], vars := [g1] }
  | _ => none }
def fnNestedRow : OpenClaim := { program := "ytkjnhcnbbojajaagreatdoor", sum := "f2032ae5093cb32833066b53c772073eb63ff2521f4549e48420ce89944590d7", func := "loop.example/g00447/laws.FnNested", spec := "fnNested", inPlace := ["internal/bytealg.IndexByte", "internal/bytealg.IndexByteString", "internal/bytealg.IndexString"], unfollowed := true, recurses := true, named := ["internal/bytealg.MaxLen", "unicode/utf8.first", "unicode/utf8.acceptRanges", "loop.example/g00447/impl.charsetNames"], apart := false, laid := [("unicode/utf8.acceptRanges", laid_unicode_utf8_acceptRanges), ("loop.example/g00447/impl.charsetNames", laid_loop_example_g00447_impl_charsetNames), ("unicode/utf8.first", laid_unicode_utf8_first)] }
def FnNestedSaid : Prop := fnNestedRow.holds Tryz.pinned (OpenSpec.ofChange fnNestedSpec)

/-- ITS FALSE NEIGHBOUR: 'it returns false'. Refute it at one input. -/
def fnNestedWrong : ChangeSpec := { name := "fnNested", vars := ["loop.example/g00447/impl.charsetNames"], fn := fun _ => fun
  | [d, g1] => { results := [.lit (.bool false)], args := [d], vars := [g1] }
  | _ => none }
def FnNestedWrongFalsely : Prop := fnNestedRow.holds Tryz.pinned (OpenSpec.ofChange fnNestedWrong)

/-- 'laws.FnExactPathOf': WHATEVER THE INPUT: true; the input reads as it did. -/
def fnExactPathOfSpec : ChangeSpec := { name := "fnExactPathOf", vars := ["loop.example/g00447/impl.charsetNames"], fn := fun _ => fun
  | [d1, d2, g1] => { results := [.lit (.bool true)], args := [d1, d2], vars := [g1] }
  | _ => none }
def fnExactPathOfRow : OpenClaim := { program := "ytkjnhcnbbojajaagreatdoor", sum := "f2032ae5093cb32833066b53c772073eb63ff2521f4549e48420ce89944590d7", func := "loop.example/g00447/laws.FnExactPathOf", spec := "fnExactPathOf", inPlace := ["internal/bytealg.IndexByte", "internal/bytealg.IndexByteString", "internal/bytealg.IndexString"], unfollowed := true, recurses := true, named := ["internal/bytealg.MaxLen", "unicode/utf8.first", "unicode/utf8.acceptRanges", "loop.example/g00447/impl.charsetNames"], apart := false, laid := [("unicode/utf8.acceptRanges", laid_unicode_utf8_acceptRanges), ("loop.example/g00447/impl.charsetNames", laid_loop_example_g00447_impl_charsetNames), ("unicode/utf8.first", laid_unicode_utf8_first)] }
def FnExactPathOfSaid : Prop := fnExactPathOfRow.holds Tryz.pinned (OpenSpec.ofChange fnExactPathOfSpec)

/-- ITS FALSE NEIGHBOUR: 'it returns false'. Refute it at one input. -/
def fnExactPathOfWrong : ChangeSpec := { name := "fnExactPathOf", vars := ["loop.example/g00447/impl.charsetNames"], fn := fun _ => fun
  | [d1, d2, g1] => { results := [.lit (.bool false)], args := [d1, d2], vars := [g1] }
  | _ => none }
def FnExactPathOfWrongFalsely : Prop := fnExactPathOfRow.holds Tryz.pinned (OpenSpec.ofChange fnExactPathOfWrong)

/-- 'laws.FnExactBodyOf': WHATEVER THE INPUT: true; the input reads as it did. -/
def fnExactBodyOfSpec : ChangeSpec := { name := "fnExactBodyOf", vars := ["loop.example/g00447/impl.charsetNames"], fn := fun _ => fun
  | [d1, d2, g1] => { results := [.lit (.bool true)], args := [d1, d2], vars := [g1] }
  | _ => none }
def fnExactBodyOfRow : OpenClaim := { program := "ytkjnhcnbbojajaagreatdoor", sum := "f2032ae5093cb32833066b53c772073eb63ff2521f4549e48420ce89944590d7", func := "loop.example/g00447/laws.FnExactBodyOf", spec := "fnExactBodyOf", inPlace := ["internal/bytealg.IndexByte", "internal/bytealg.IndexByteString", "internal/bytealg.IndexString"], unfollowed := true, recurses := true, named := ["internal/bytealg.MaxLen", "unicode/utf8.first", "unicode/utf8.acceptRanges", "loop.example/g00447/impl.charsetNames"], apart := false, laid := [("unicode/utf8.acceptRanges", laid_unicode_utf8_acceptRanges), ("loop.example/g00447/impl.charsetNames", laid_loop_example_g00447_impl_charsetNames), ("unicode/utf8.first", laid_unicode_utf8_first)] }
def FnExactBodyOfSaid : Prop := fnExactBodyOfRow.holds Tryz.pinned (OpenSpec.ofChange fnExactBodyOfSpec)

/-- ITS FALSE NEIGHBOUR: 'it returns false'. Refute it at one input. -/
def fnExactBodyOfWrong : ChangeSpec := { name := "fnExactBodyOf", vars := ["loop.example/g00447/impl.charsetNames"], fn := fun _ => fun
  | [d1, d2, g1] => { results := [.lit (.bool false)], args := [d1, d2], vars := [g1] }
  | _ => none }
def FnExactBodyOfWrongFalsely : Prop := fnExactBodyOfRow.holds Tryz.pinned (OpenSpec.ofChange fnExactBodyOfWrong)

/-- 'laws.FnDecodes': WHATEVER THE INPUT: true; the input reads as it did. -/
def fnDecodesSpec : ChangeSpec := { name := "fnDecodes", vars := ["loop.example/g00447/impl.baseDigits", "loop.example/g00447/impl.hexDigits", "loop.example/g00447/impl.charsetNames"], fn := fun _ => fun
  | [d, g1, g2, g3] => { results := [.lit (.bool true)], args := [d], vars := [g1, g2, g3] }
  | _ => none }
def fnDecodesRow : OpenClaim := { program := "ytkjnhcnbbojajaagreatdoor", sum := "f2032ae5093cb32833066b53c772073eb63ff2521f4549e48420ce89944590d7", func := "loop.example/g00447/laws.FnDecodes", spec := "fnDecodes", inPlace := ["internal/bytealg.IndexByte", "internal/bytealg.IndexByteString", "internal/bytealg.IndexString", "internal/bytealg.CountString", "internal/abi.NoEscape", "internal/bytealg.MakeNoZero"], unfollowed := true, recurses := true, named := ["loop.example/g00447/impl.baseDigits", "loop.example/g00447/impl.hexDigits", "internal/bytealg.MaxLen", "unicode/utf8.first", "unicode/utf8.acceptRanges", "loop.example/g00447/impl.charsetNames"], apart := false, laid := [("unicode/utf8.acceptRanges", laid_unicode_utf8_acceptRanges), ("loop.example/g00447/impl.baseDigits", laid_loop_example_g00447_impl_baseDigits), ("loop.example/g00447/impl.hexDigits", laid_loop_example_g00447_impl_hexDigits), ("loop.example/g00447/impl.charsetNames", laid_loop_example_g00447_impl_charsetNames), ("unicode/utf8.first", laid_unicode_utf8_first)] }
def FnDecodesSaid : Prop := fnDecodesRow.holds Tryz.pinned (OpenSpec.ofChange fnDecodesSpec)

/-- ITS FALSE NEIGHBOUR: 'it returns false'. Refute it at one input. -/
def fnDecodesWrong : ChangeSpec := { name := "fnDecodes", vars := ["loop.example/g00447/impl.baseDigits", "loop.example/g00447/impl.hexDigits", "loop.example/g00447/impl.charsetNames"], fn := fun _ => fun
  | [d, g1, g2, g3] => { results := [.lit (.bool false)], args := [d], vars := [g1, g2, g3] }
  | _ => none }
def FnDecodesWrongFalsely : Prop := fnDecodesRow.holds Tryz.pinned (OpenSpec.ofChange fnDecodesWrong)

/-- 'laws.FnConverts': WHATEVER THE INPUT: true; the input reads as it did. -/
def fnConvertsSpec : ChangeSpec := { name := "fnConverts", vars := ["loop.example/g00447/impl.charsetNames", "loop.example/g00447/impl.baseDigits", "loop.example/g00447/impl.hexDigits"], fn := fun _ => fun
  | [d, g1, g2, g3] => { results := [.lit (.bool true)], args := [d], vars := [g1, g2, g3] }
  | _ => none }
def fnConvertsRow : OpenClaim := { program := "ytkjnhcnbbojajaagreatdoor", sum := "f2032ae5093cb32833066b53c772073eb63ff2521f4549e48420ce89944590d7", func := "loop.example/g00447/laws.FnConverts", spec := "fnConverts", inPlace := ["internal/bytealg.IndexByte", "internal/bytealg.IndexByteString", "internal/bytealg.IndexString", "internal/bytealg.CountString", "internal/abi.NoEscape", "internal/bytealg.MakeNoZero"], unfollowed := true, recurses := true, named := ["internal/bytealg.MaxLen", "unicode/utf8.first", "unicode/utf8.acceptRanges", "loop.example/g00447/impl.charsetNames", "loop.example/g00447/impl.baseDigits", "loop.example/g00447/impl.hexDigits"], apart := false, laid := [("unicode/utf8.acceptRanges", laid_unicode_utf8_acceptRanges), ("loop.example/g00447/impl.baseDigits", laid_loop_example_g00447_impl_baseDigits), ("loop.example/g00447/impl.hexDigits", laid_loop_example_g00447_impl_hexDigits), ("loop.example/g00447/impl.charsetNames", laid_loop_example_g00447_impl_charsetNames), ("unicode/utf8.first", laid_unicode_utf8_first)] }
def FnConvertsSaid : Prop := fnConvertsRow.holds Tryz.pinned (OpenSpec.ofChange fnConvertsSpec)

/-- ITS FALSE NEIGHBOUR: 'it returns false'. Refute it at one input. -/
def fnConvertsWrong : ChangeSpec := { name := "fnConverts", vars := ["loop.example/g00447/impl.charsetNames", "loop.example/g00447/impl.baseDigits", "loop.example/g00447/impl.hexDigits"], fn := fun _ => fun
  | [d, g1, g2, g3] => { results := [.lit (.bool false)], args := [d], vars := [g1, g2, g3] }
  | _ => none }
def FnConvertsWrongFalsely : Prop := fnConvertsRow.holds Tryz.pinned (OpenSpec.ofChange fnConvertsWrong)

/-- 'laws.FnSlices': WHATEVER THE INPUT: true; the input reads as it did. -/
def fnSlicesSpec : ChangeSpec := { name := "fnSlices", vars := ["loop.example/g00447/impl.charsetNames", "loop.example/g00447/impl.baseDigits", "loop.example/g00447/impl.hexDigits"], fn := fun _ => fun
  | [d, g1, g2, g3] => { results := [.lit (.bool true)], args := [d], vars := [g1, g2, g3] }
  | _ => none }
def fnSlicesRow : OpenClaim := { program := "ytkjnhcnbbojajaagreatdoor", sum := "f2032ae5093cb32833066b53c772073eb63ff2521f4549e48420ce89944590d7", func := "loop.example/g00447/laws.FnSlices", spec := "fnSlices", inPlace := ["internal/bytealg.IndexByte", "internal/bytealg.IndexByteString", "internal/bytealg.IndexString", "internal/bytealg.CountString", "internal/abi.NoEscape", "internal/bytealg.MakeNoZero"], unfollowed := true, recurses := true, named := ["internal/bytealg.MaxLen", "unicode/utf8.first", "unicode/utf8.acceptRanges", "loop.example/g00447/impl.charsetNames", "loop.example/g00447/impl.baseDigits", "loop.example/g00447/impl.hexDigits"], apart := false, laid := [("unicode/utf8.acceptRanges", laid_unicode_utf8_acceptRanges), ("loop.example/g00447/impl.baseDigits", laid_loop_example_g00447_impl_baseDigits), ("loop.example/g00447/impl.hexDigits", laid_loop_example_g00447_impl_hexDigits), ("loop.example/g00447/impl.charsetNames", laid_loop_example_g00447_impl_charsetNames), ("unicode/utf8.first", laid_unicode_utf8_first)] }
def FnSlicesSaid : Prop := fnSlicesRow.holds Tryz.pinned (OpenSpec.ofChange fnSlicesSpec)

/-- ITS FALSE NEIGHBOUR: 'it returns false'. Refute it at one input. -/
def fnSlicesWrong : ChangeSpec := { name := "fnSlices", vars := ["loop.example/g00447/impl.charsetNames", "loop.example/g00447/impl.baseDigits", "loop.example/g00447/impl.hexDigits"], fn := fun _ => fun
  | [d, g1, g2, g3] => { results := [.lit (.bool false)], args := [d], vars := [g1, g2, g3] }
  | _ => none }
def FnSlicesWrongFalsely : Prop := fnSlicesRow.holds Tryz.pinned (OpenSpec.ofChange fnSlicesWrong)

/-- 'laws.FnLegacies': WHATEVER THE INPUT: true; the input reads as it did. -/
def fnLegaciesSpec : ChangeSpec := { name := "fnLegacies", vars := ["loop.example/g00447/impl.charsetNames", "loop.example/g00447/impl.baseDigits", "loop.example/g00447/impl.hexDigits"], fn := fun _ => fun
  | [d, g1, g2, g3] => { results := [.lit (.bool true)], args := [d], vars := [g1, g2, g3] }
  | _ => none }
def fnLegaciesRow : OpenClaim := { program := "ytkjnhcnbbojajaagreatdoor", sum := "f2032ae5093cb32833066b53c772073eb63ff2521f4549e48420ce89944590d7", func := "loop.example/g00447/laws.FnLegacies", spec := "fnLegacies", inPlace := ["internal/bytealg.IndexByte", "internal/bytealg.IndexByteString", "internal/bytealg.IndexString", "internal/bytealg.CountString", "internal/abi.NoEscape", "internal/bytealg.MakeNoZero"], unfollowed := true, recurses := true, named := ["internal/bytealg.MaxLen", "unicode/utf8.first", "unicode/utf8.acceptRanges", "loop.example/g00447/impl.charsetNames", "loop.example/g00447/impl.baseDigits", "loop.example/g00447/impl.hexDigits"], apart := false, laid := [("unicode/utf8.acceptRanges", laid_unicode_utf8_acceptRanges), ("loop.example/g00447/impl.baseDigits", laid_loop_example_g00447_impl_baseDigits), ("loop.example/g00447/impl.hexDigits", laid_loop_example_g00447_impl_hexDigits), ("loop.example/g00447/impl.charsetNames", laid_loop_example_g00447_impl_charsetNames), ("unicode/utf8.first", laid_unicode_utf8_first)] }
def FnLegaciesSaid : Prop := fnLegaciesRow.holds Tryz.pinned (OpenSpec.ofChange fnLegaciesSpec)

/-- ITS FALSE NEIGHBOUR: 'it returns false'. Refute it at one input. -/
def fnLegaciesWrong : ChangeSpec := { name := "fnLegacies", vars := ["loop.example/g00447/impl.charsetNames", "loop.example/g00447/impl.baseDigits", "loop.example/g00447/impl.hexDigits"], fn := fun _ => fun
  | [d, g1, g2, g3] => { results := [.lit (.bool false)], args := [d], vars := [g1, g2, g3] }
  | _ => none }
def FnLegaciesWrongFalsely : Prop := fnLegaciesRow.holds Tryz.pinned (OpenSpec.ofChange fnLegaciesWrong)

/-- 'laws.FnExactPartBytes': WHATEVER THE INPUT: true; the input reads as it did. -/
def fnExactPartBytesSpec : ChangeSpec := { name := "fnExactPartBytes", vars := ["loop.example/g00447/impl.charsetNames", "loop.example/g00447/impl.baseDigits", "loop.example/g00447/impl.hexDigits"], fn := fun _ => fun
  | [d1, d2, g1, g2, g3] => { results := [.lit (.bool true)], args := [d1, d2], vars := [g1, g2, g3] }
  | _ => none }
def fnExactPartBytesRow : OpenClaim := { program := "ytkjnhcnbbojajaagreatdoor", sum := "f2032ae5093cb32833066b53c772073eb63ff2521f4549e48420ce89944590d7", func := "loop.example/g00447/laws.FnExactPartBytes", spec := "fnExactPartBytes", inPlace := ["internal/bytealg.IndexByte", "internal/bytealg.IndexByteString", "internal/bytealg.IndexString", "internal/bytealg.CountString", "internal/abi.NoEscape", "internal/bytealg.MakeNoZero"], unfollowed := true, recurses := true, named := ["internal/bytealg.MaxLen", "unicode/utf8.first", "unicode/utf8.acceptRanges", "loop.example/g00447/impl.charsetNames", "loop.example/g00447/impl.baseDigits", "loop.example/g00447/impl.hexDigits"], apart := false, laid := [("unicode/utf8.acceptRanges", laid_unicode_utf8_acceptRanges), ("loop.example/g00447/impl.baseDigits", laid_loop_example_g00447_impl_baseDigits), ("loop.example/g00447/impl.hexDigits", laid_loop_example_g00447_impl_hexDigits), ("loop.example/g00447/impl.charsetNames", laid_loop_example_g00447_impl_charsetNames), ("unicode/utf8.first", laid_unicode_utf8_first)] }
def FnExactPartBytesSaid : Prop := fnExactPartBytesRow.holds Tryz.pinned (OpenSpec.ofChange fnExactPartBytesSpec)

/-- ITS FALSE NEIGHBOUR: 'it returns false'. Refute it at one input. -/
def fnExactPartBytesWrong : ChangeSpec := { name := "fnExactPartBytes", vars := ["loop.example/g00447/impl.charsetNames", "loop.example/g00447/impl.baseDigits", "loop.example/g00447/impl.hexDigits"], fn := fun _ => fun
  | [d1, d2, g1, g2, g3] => { results := [.lit (.bool false)], args := [d1, d2], vars := [g1, g2, g3] }
  | _ => none }
def FnExactPartBytesWrongFalsely : Prop := fnExactPartBytesRow.holds Tryz.pinned (OpenSpec.ofChange fnExactPartBytesWrong)

/-- 'laws.FnExactPartCodes': WHATEVER THE INPUT: true; the input reads as it did. -/
def fnExactPartCodesSpec : ChangeSpec := { name := "fnExactPartCodes", vars := ["loop.example/g00447/impl.charsetNames", "loop.example/g00447/impl.baseDigits", "loop.example/g00447/impl.hexDigits"], fn := fun _ => fun
  | [d1, d2, g1, g2, g3] => { results := [.lit (.bool true)], args := [d1, d2], vars := [g1, g2, g3] }
  | _ => none }
def fnExactPartCodesRow : OpenClaim := { program := "ytkjnhcnbbojajaagreatdoor", sum := "f2032ae5093cb32833066b53c772073eb63ff2521f4549e48420ce89944590d7", func := "loop.example/g00447/laws.FnExactPartCodes", spec := "fnExactPartCodes", inPlace := ["internal/bytealg.IndexByte", "internal/bytealg.IndexByteString", "internal/bytealg.IndexString", "internal/bytealg.CountString", "internal/abi.NoEscape", "internal/bytealg.MakeNoZero"], unfollowed := true, recurses := true, named := ["internal/bytealg.MaxLen", "unicode/utf8.first", "unicode/utf8.acceptRanges", "loop.example/g00447/impl.charsetNames", "loop.example/g00447/impl.baseDigits", "loop.example/g00447/impl.hexDigits"], apart := false, laid := [("unicode/utf8.acceptRanges", laid_unicode_utf8_acceptRanges), ("loop.example/g00447/impl.baseDigits", laid_loop_example_g00447_impl_baseDigits), ("loop.example/g00447/impl.hexDigits", laid_loop_example_g00447_impl_hexDigits), ("loop.example/g00447/impl.charsetNames", laid_loop_example_g00447_impl_charsetNames), ("unicode/utf8.first", laid_unicode_utf8_first)] }
def FnExactPartCodesSaid : Prop := fnExactPartCodesRow.holds Tryz.pinned (OpenSpec.ofChange fnExactPartCodesSpec)

/-- ITS FALSE NEIGHBOUR: 'it returns false'. Refute it at one input. -/
def fnExactPartCodesWrong : ChangeSpec := { name := "fnExactPartCodes", vars := ["loop.example/g00447/impl.charsetNames", "loop.example/g00447/impl.baseDigits", "loop.example/g00447/impl.hexDigits"], fn := fun _ => fun
  | [d1, d2, g1, g2, g3] => { results := [.lit (.bool false)], args := [d1, d2], vars := [g1, g2, g3] }
  | _ => none }
def FnExactPartCodesWrongFalsely : Prop := fnExactPartCodesRow.holds Tryz.pinned (OpenSpec.ofChange fnExactPartCodesWrong)

/-- 'laws.FnExactConvertPart': WHATEVER THE INPUT: true; the input reads as it did. -/
def fnExactConvertPartSpec : ChangeSpec := { name := "fnExactConvertPart", vars := ["loop.example/g00447/impl.charsetNames", "loop.example/g00447/impl.baseDigits", "loop.example/g00447/impl.hexDigits"], fn := fun _ => fun
  | [d1, d2, d3, g1, g2, g3] => { results := [.lit (.bool true)], args := [d1, d2, d3], vars := [g1, g2, g3] }
  | _ => none }
def fnExactConvertPartRow : OpenClaim := { program := "ytkjnhcnbbojajaagreatdoor", sum := "f2032ae5093cb32833066b53c772073eb63ff2521f4549e48420ce89944590d7", func := "loop.example/g00447/laws.FnExactConvertPart", spec := "fnExactConvertPart", inPlace := ["internal/bytealg.IndexByte", "internal/bytealg.IndexByteString", "internal/bytealg.IndexString", "internal/bytealg.CountString", "internal/abi.NoEscape", "internal/bytealg.MakeNoZero"], unfollowed := true, recurses := true, named := ["internal/bytealg.MaxLen", "unicode/utf8.first", "unicode/utf8.acceptRanges", "loop.example/g00447/impl.charsetNames", "loop.example/g00447/impl.baseDigits", "loop.example/g00447/impl.hexDigits"], apart := false, laid := [("unicode/utf8.acceptRanges", laid_unicode_utf8_acceptRanges), ("loop.example/g00447/impl.baseDigits", laid_loop_example_g00447_impl_baseDigits), ("loop.example/g00447/impl.hexDigits", laid_loop_example_g00447_impl_hexDigits), ("loop.example/g00447/impl.charsetNames", laid_loop_example_g00447_impl_charsetNames), ("unicode/utf8.first", laid_unicode_utf8_first)] }
def FnExactConvertPartSaid : Prop := fnExactConvertPartRow.holds Tryz.pinned (OpenSpec.ofChange fnExactConvertPartSpec)

/-- ITS FALSE NEIGHBOUR: 'it returns false'. Refute it at one input. -/
def fnExactConvertPartWrong : ChangeSpec := { name := "fnExactConvertPart", vars := ["loop.example/g00447/impl.charsetNames", "loop.example/g00447/impl.baseDigits", "loop.example/g00447/impl.hexDigits"], fn := fun _ => fun
  | [d1, d2, d3, g1, g2, g3] => { results := [.lit (.bool false)], args := [d1, d2, d3], vars := [g1, g2, g3] }
  | _ => none }
def FnExactConvertPartWrongFalsely : Prop := fnExactConvertPartRow.holds Tryz.pinned (OpenSpec.ofChange fnExactConvertPartWrong)

/-- 'laws.FnExactSubjectOf': WHATEVER THE INPUT: true; the input reads as it did. -/
def fnExactSubjectOfSpec : ChangeSpec := { name := "fnExactSubjectOf", vars := ["loop.example/g00447/impl.charsetNames", "loop.example/g00447/impl.baseDigits", "loop.example/g00447/impl.hexDigits"], fn := fun _ => fun
  | [d, g1, g2, g3] => { results := [.lit (.bool true)], args := [d], vars := [g1, g2, g3] }
  | _ => none }
def fnExactSubjectOfRow : OpenClaim := { program := "ytkjnhcnbbojajaagreatdoor", sum := "f2032ae5093cb32833066b53c772073eb63ff2521f4549e48420ce89944590d7", func := "loop.example/g00447/laws.FnExactSubjectOf", spec := "fnExactSubjectOf", inPlace := ["internal/bytealg.IndexByte", "internal/bytealg.IndexByteString", "internal/bytealg.IndexString", "internal/bytealg.CountString", "internal/abi.NoEscape", "internal/bytealg.MakeNoZero"], unfollowed := true, recurses := true, named := ["internal/bytealg.MaxLen", "unicode/utf8.first", "unicode/utf8.acceptRanges", "loop.example/g00447/impl.charsetNames", "loop.example/g00447/impl.baseDigits", "loop.example/g00447/impl.hexDigits"], apart := false, laid := [("unicode/utf8.acceptRanges", laid_unicode_utf8_acceptRanges), ("loop.example/g00447/impl.baseDigits", laid_loop_example_g00447_impl_baseDigits), ("loop.example/g00447/impl.hexDigits", laid_loop_example_g00447_impl_hexDigits), ("loop.example/g00447/impl.charsetNames", laid_loop_example_g00447_impl_charsetNames), ("unicode/utf8.first", laid_unicode_utf8_first)] }
def FnExactSubjectOfSaid : Prop := fnExactSubjectOfRow.holds Tryz.pinned (OpenSpec.ofChange fnExactSubjectOfSpec)

/-- ITS FALSE NEIGHBOUR: 'it returns false'. Refute it at one input. -/
def fnExactSubjectOfWrong : ChangeSpec := { name := "fnExactSubjectOf", vars := ["loop.example/g00447/impl.charsetNames", "loop.example/g00447/impl.baseDigits", "loop.example/g00447/impl.hexDigits"], fn := fun _ => fun
  | [d, g1, g2, g3] => { results := [.lit (.bool false)], args := [d], vars := [g1, g2, g3] }
  | _ => none }
def FnExactSubjectOfWrongFalsely : Prop := fnExactSubjectOfRow.holds Tryz.pinned (OpenSpec.ofChange fnExactSubjectOfWrong)

/-- 'laws.FnExactPreviewOf': WHATEVER THE INPUT: true; the input reads as it did. -/
def fnExactPreviewOfSpec : ChangeSpec := { name := "fnExactPreviewOf", vars := ["loop.example/g00447/impl.charsetNames", "loop.example/g00447/impl.baseDigits", "loop.example/g00447/impl.hexDigits"], fn := fun _ => fun
  | [d, g1, g2, g3] => { results := [.lit (.bool true)], args := [d], vars := [g1, g2, g3] }
  | _ => none }
def fnExactPreviewOfRow : OpenClaim := { program := "ytkjnhcnbbojajaagreatdoor", sum := "f2032ae5093cb32833066b53c772073eb63ff2521f4549e48420ce89944590d7", func := "loop.example/g00447/laws.FnExactPreviewOf", spec := "fnExactPreviewOf", inPlace := ["internal/bytealg.IndexByte", "internal/bytealg.IndexByteString", "internal/bytealg.IndexString", "internal/bytealg.CountString", "internal/abi.NoEscape", "internal/bytealg.MakeNoZero"], unfollowed := true, recurses := true, named := ["internal/bytealg.MaxLen", "unicode/utf8.first", "unicode/utf8.acceptRanges", "loop.example/g00447/impl.charsetNames", "loop.example/g00447/impl.baseDigits", "loop.example/g00447/impl.hexDigits"], apart := false, laid := [("unicode/utf8.acceptRanges", laid_unicode_utf8_acceptRanges), ("loop.example/g00447/impl.baseDigits", laid_loop_example_g00447_impl_baseDigits), ("loop.example/g00447/impl.hexDigits", laid_loop_example_g00447_impl_hexDigits), ("loop.example/g00447/impl.charsetNames", laid_loop_example_g00447_impl_charsetNames), ("unicode/utf8.first", laid_unicode_utf8_first)] }
def FnExactPreviewOfSaid : Prop := fnExactPreviewOfRow.holds Tryz.pinned (OpenSpec.ofChange fnExactPreviewOfSpec)

/-- ITS FALSE NEIGHBOUR: 'it returns false'. Refute it at one input. -/
def fnExactPreviewOfWrong : ChangeSpec := { name := "fnExactPreviewOf", vars := ["loop.example/g00447/impl.charsetNames", "loop.example/g00447/impl.baseDigits", "loop.example/g00447/impl.hexDigits"], fn := fun _ => fun
  | [d, g1, g2, g3] => { results := [.lit (.bool false)], args := [d], vars := [g1, g2, g3] }
  | _ => none }
def FnExactPreviewOfWrongFalsely : Prop := fnExactPreviewOfRow.holds Tryz.pinned (OpenSpec.ofChange fnExactPreviewOfWrong)

/-- 'laws.FnExactLegacyOf': WHATEVER THE INPUT: true; the input reads as it did. -/
def fnExactLegacyOfSpec : ChangeSpec := { name := "fnExactLegacyOf", vars := ["loop.example/g00447/impl.charsetNames", "loop.example/g00447/impl.baseDigits", "loop.example/g00447/impl.hexDigits"], fn := fun _ => fun
  | [d, g1, g2, g3] => { results := [.lit (.bool true)], args := [d], vars := [g1, g2, g3] }
  | _ => none }
def fnExactLegacyOfRow : OpenClaim := { program := "ytkjnhcnbbojajaagreatdoor", sum := "f2032ae5093cb32833066b53c772073eb63ff2521f4549e48420ce89944590d7", func := "loop.example/g00447/laws.FnExactLegacyOf", spec := "fnExactLegacyOf", inPlace := ["internal/bytealg.IndexByte", "internal/bytealg.IndexByteString", "internal/bytealg.IndexString", "internal/bytealg.CountString", "internal/abi.NoEscape", "internal/bytealg.MakeNoZero"], unfollowed := true, recurses := true, named := ["internal/bytealg.MaxLen", "unicode/utf8.first", "unicode/utf8.acceptRanges", "loop.example/g00447/impl.charsetNames", "loop.example/g00447/impl.baseDigits", "loop.example/g00447/impl.hexDigits"], apart := false, laid := [("unicode/utf8.acceptRanges", laid_unicode_utf8_acceptRanges), ("loop.example/g00447/impl.baseDigits", laid_loop_example_g00447_impl_baseDigits), ("loop.example/g00447/impl.hexDigits", laid_loop_example_g00447_impl_hexDigits), ("loop.example/g00447/impl.charsetNames", laid_loop_example_g00447_impl_charsetNames), ("unicode/utf8.first", laid_unicode_utf8_first)] }
def FnExactLegacyOfSaid : Prop := fnExactLegacyOfRow.holds Tryz.pinned (OpenSpec.ofChange fnExactLegacyOfSpec)

/-- ITS FALSE NEIGHBOUR: 'it returns false'. Refute it at one input. -/
def fnExactLegacyOfWrong : ChangeSpec := { name := "fnExactLegacyOf", vars := ["loop.example/g00447/impl.charsetNames", "loop.example/g00447/impl.baseDigits", "loop.example/g00447/impl.hexDigits"], fn := fun _ => fun
  | [d, g1, g2, g3] => { results := [.lit (.bool false)], args := [d], vars := [g1, g2, g3] }
  | _ => none }
def FnExactLegacyOfWrongFalsely : Prop := fnExactLegacyOfRow.holds Tryz.pinned (OpenSpec.ofChange fnExactLegacyOfWrong)

/- THE SECOND FORM. 'bulk': how many values and letters a reading holds, each counted each time it is reached (what is shared counts as often as it is met; a slice's spare places count too). A statement '..UptoSaid' is the law's where the arguments, and the package variables that the reading takes, are together of bulk at most 1048576: NARROWER than '..Said'. Prove '..Said' where nothing that the law and all that it calls make is longer than what came in: it says more and counts as full. Else prove '..UptoSaid'. A law counts once. -/
mutual
def uptoBulk {H : Type} : DataW H → Nat
  | .lit (.string bytes) => bytes.length + 1
  | .lit _ => 1
  | .nil => 1
  | .ptr d => uptoBulk d + 1
  | .slice elems spare => uptoBulkAll elems + uptoBulkAll spare + 1
  | .agg parts => uptoBulkAll parts + 1
  | .iface _ d => uptoBulk d + 1
  | .map entries => uptoBulkEntries entries + 1
  | .held _ => 1
def uptoBulkAll {H : Type} : List (DataW H) → Nat
  | [] => 0
  | d :: r => uptoBulk d + uptoBulkAll r
def uptoBulkEntries {H : Type} : List (Lit × DataW H) → Nat
  | [] => 0
  | x :: r => uptoBulkEntry x + uptoBulkEntries r
def uptoBulkEntry {H : Type} : Lit × DataW H → Nat
  | (.string bytes, d) => bytes.length + uptoBulk d + 1
  | (_, d) => uptoBulk d + 1
 end
def uptoSmall : (H : Type) → List (DataW H) → Bool := fun _ ds => decide (uptoBulkAll ds ≤ 1048576)
def OpenSpec.upto (s : _root_.Go.ChangeSpec) : _root_.Go.OpenSpec := { _root_.Go.OpenSpec.ofChange s with cond := some uptoSmall }

/-- 'laws.FnNested', WHERE WHAT IT READS IS OF BULK AT MOST 1048576: true; the input reads as it did. -/
def fnNestedUptoRow : OpenClaim := { program := "ytkjnhcnbbojajaagreatdoor", sum := "f2032ae5093cb32833066b53c772073eb63ff2521f4549e48420ce89944590d7", func := "loop.example/g00447/laws.FnNested", spec := "fnNested", inPlace := ["internal/bytealg.IndexByte", "internal/bytealg.IndexByteString", "internal/bytealg.IndexString"], unfollowed := true, recurses := true, named := ["internal/bytealg.MaxLen", "unicode/utf8.first", "unicode/utf8.acceptRanges", "loop.example/g00447/impl.charsetNames"], apart := false, laid := [("unicode/utf8.acceptRanges", laid_unicode_utf8_acceptRanges), ("loop.example/g00447/impl.charsetNames", laid_loop_example_g00447_impl_charsetNames), ("unicode/utf8.first", laid_unicode_utf8_first)], narrowed := true }
def FnNestedUptoSaid : Prop := fnNestedUptoRow.holds Tryz.pinned (OpenSpec.upto fnNestedSpec)

/-- 'laws.FnExactPathOf', WHERE WHAT IT READS IS OF BULK AT MOST 1048576: true; the input reads as it did. -/
def fnExactPathOfUptoRow : OpenClaim := { program := "ytkjnhcnbbojajaagreatdoor", sum := "f2032ae5093cb32833066b53c772073eb63ff2521f4549e48420ce89944590d7", func := "loop.example/g00447/laws.FnExactPathOf", spec := "fnExactPathOf", inPlace := ["internal/bytealg.IndexByte", "internal/bytealg.IndexByteString", "internal/bytealg.IndexString"], unfollowed := true, recurses := true, named := ["internal/bytealg.MaxLen", "unicode/utf8.first", "unicode/utf8.acceptRanges", "loop.example/g00447/impl.charsetNames"], apart := false, laid := [("unicode/utf8.acceptRanges", laid_unicode_utf8_acceptRanges), ("loop.example/g00447/impl.charsetNames", laid_loop_example_g00447_impl_charsetNames), ("unicode/utf8.first", laid_unicode_utf8_first)], narrowed := true }
def FnExactPathOfUptoSaid : Prop := fnExactPathOfUptoRow.holds Tryz.pinned (OpenSpec.upto fnExactPathOfSpec)

/-- 'laws.FnExactBodyOf', WHERE WHAT IT READS IS OF BULK AT MOST 1048576: true; the input reads as it did. -/
def fnExactBodyOfUptoRow : OpenClaim := { program := "ytkjnhcnbbojajaagreatdoor", sum := "f2032ae5093cb32833066b53c772073eb63ff2521f4549e48420ce89944590d7", func := "loop.example/g00447/laws.FnExactBodyOf", spec := "fnExactBodyOf", inPlace := ["internal/bytealg.IndexByte", "internal/bytealg.IndexByteString", "internal/bytealg.IndexString"], unfollowed := true, recurses := true, named := ["internal/bytealg.MaxLen", "unicode/utf8.first", "unicode/utf8.acceptRanges", "loop.example/g00447/impl.charsetNames"], apart := false, laid := [("unicode/utf8.acceptRanges", laid_unicode_utf8_acceptRanges), ("loop.example/g00447/impl.charsetNames", laid_loop_example_g00447_impl_charsetNames), ("unicode/utf8.first", laid_unicode_utf8_first)], narrowed := true }
def FnExactBodyOfUptoSaid : Prop := fnExactBodyOfUptoRow.holds Tryz.pinned (OpenSpec.upto fnExactBodyOfSpec)

/-- 'laws.FnDecodes', WHERE WHAT IT READS IS OF BULK AT MOST 1048576: true; the input reads as it did. -/
def fnDecodesUptoRow : OpenClaim := { program := "ytkjnhcnbbojajaagreatdoor", sum := "f2032ae5093cb32833066b53c772073eb63ff2521f4549e48420ce89944590d7", func := "loop.example/g00447/laws.FnDecodes", spec := "fnDecodes", inPlace := ["internal/bytealg.IndexByte", "internal/bytealg.IndexByteString", "internal/bytealg.IndexString", "internal/bytealg.CountString", "internal/abi.NoEscape", "internal/bytealg.MakeNoZero"], unfollowed := true, recurses := true, named := ["loop.example/g00447/impl.baseDigits", "loop.example/g00447/impl.hexDigits", "internal/bytealg.MaxLen", "unicode/utf8.first", "unicode/utf8.acceptRanges", "loop.example/g00447/impl.charsetNames"], apart := false, laid := [("unicode/utf8.acceptRanges", laid_unicode_utf8_acceptRanges), ("loop.example/g00447/impl.baseDigits", laid_loop_example_g00447_impl_baseDigits), ("loop.example/g00447/impl.hexDigits", laid_loop_example_g00447_impl_hexDigits), ("loop.example/g00447/impl.charsetNames", laid_loop_example_g00447_impl_charsetNames), ("unicode/utf8.first", laid_unicode_utf8_first)], narrowed := true }
def FnDecodesUptoSaid : Prop := fnDecodesUptoRow.holds Tryz.pinned (OpenSpec.upto fnDecodesSpec)

/-- 'laws.FnConverts', WHERE WHAT IT READS IS OF BULK AT MOST 1048576: true; the input reads as it did. -/
def fnConvertsUptoRow : OpenClaim := { program := "ytkjnhcnbbojajaagreatdoor", sum := "f2032ae5093cb32833066b53c772073eb63ff2521f4549e48420ce89944590d7", func := "loop.example/g00447/laws.FnConverts", spec := "fnConverts", inPlace := ["internal/bytealg.IndexByte", "internal/bytealg.IndexByteString", "internal/bytealg.IndexString", "internal/bytealg.CountString", "internal/abi.NoEscape", "internal/bytealg.MakeNoZero"], unfollowed := true, recurses := true, named := ["internal/bytealg.MaxLen", "unicode/utf8.first", "unicode/utf8.acceptRanges", "loop.example/g00447/impl.charsetNames", "loop.example/g00447/impl.baseDigits", "loop.example/g00447/impl.hexDigits"], apart := false, laid := [("unicode/utf8.acceptRanges", laid_unicode_utf8_acceptRanges), ("loop.example/g00447/impl.baseDigits", laid_loop_example_g00447_impl_baseDigits), ("loop.example/g00447/impl.hexDigits", laid_loop_example_g00447_impl_hexDigits), ("loop.example/g00447/impl.charsetNames", laid_loop_example_g00447_impl_charsetNames), ("unicode/utf8.first", laid_unicode_utf8_first)], narrowed := true }
def FnConvertsUptoSaid : Prop := fnConvertsUptoRow.holds Tryz.pinned (OpenSpec.upto fnConvertsSpec)

/-- 'laws.FnSlices', WHERE WHAT IT READS IS OF BULK AT MOST 1048576: true; the input reads as it did. -/
def fnSlicesUptoRow : OpenClaim := { program := "ytkjnhcnbbojajaagreatdoor", sum := "f2032ae5093cb32833066b53c772073eb63ff2521f4549e48420ce89944590d7", func := "loop.example/g00447/laws.FnSlices", spec := "fnSlices", inPlace := ["internal/bytealg.IndexByte", "internal/bytealg.IndexByteString", "internal/bytealg.IndexString", "internal/bytealg.CountString", "internal/abi.NoEscape", "internal/bytealg.MakeNoZero"], unfollowed := true, recurses := true, named := ["internal/bytealg.MaxLen", "unicode/utf8.first", "unicode/utf8.acceptRanges", "loop.example/g00447/impl.charsetNames", "loop.example/g00447/impl.baseDigits", "loop.example/g00447/impl.hexDigits"], apart := false, laid := [("unicode/utf8.acceptRanges", laid_unicode_utf8_acceptRanges), ("loop.example/g00447/impl.baseDigits", laid_loop_example_g00447_impl_baseDigits), ("loop.example/g00447/impl.hexDigits", laid_loop_example_g00447_impl_hexDigits), ("loop.example/g00447/impl.charsetNames", laid_loop_example_g00447_impl_charsetNames), ("unicode/utf8.first", laid_unicode_utf8_first)], narrowed := true }
def FnSlicesUptoSaid : Prop := fnSlicesUptoRow.holds Tryz.pinned (OpenSpec.upto fnSlicesSpec)

/-- 'laws.FnLegacies', WHERE WHAT IT READS IS OF BULK AT MOST 1048576: true; the input reads as it did. -/
def fnLegaciesUptoRow : OpenClaim := { program := "ytkjnhcnbbojajaagreatdoor", sum := "f2032ae5093cb32833066b53c772073eb63ff2521f4549e48420ce89944590d7", func := "loop.example/g00447/laws.FnLegacies", spec := "fnLegacies", inPlace := ["internal/bytealg.IndexByte", "internal/bytealg.IndexByteString", "internal/bytealg.IndexString", "internal/bytealg.CountString", "internal/abi.NoEscape", "internal/bytealg.MakeNoZero"], unfollowed := true, recurses := true, named := ["internal/bytealg.MaxLen", "unicode/utf8.first", "unicode/utf8.acceptRanges", "loop.example/g00447/impl.charsetNames", "loop.example/g00447/impl.baseDigits", "loop.example/g00447/impl.hexDigits"], apart := false, laid := [("unicode/utf8.acceptRanges", laid_unicode_utf8_acceptRanges), ("loop.example/g00447/impl.baseDigits", laid_loop_example_g00447_impl_baseDigits), ("loop.example/g00447/impl.hexDigits", laid_loop_example_g00447_impl_hexDigits), ("loop.example/g00447/impl.charsetNames", laid_loop_example_g00447_impl_charsetNames), ("unicode/utf8.first", laid_unicode_utf8_first)], narrowed := true }
def FnLegaciesUptoSaid : Prop := fnLegaciesUptoRow.holds Tryz.pinned (OpenSpec.upto fnLegaciesSpec)

/-- 'laws.FnExactPartBytes', WHERE WHAT IT READS IS OF BULK AT MOST 1048576: true; the input reads as it did. -/
def fnExactPartBytesUptoRow : OpenClaim := { program := "ytkjnhcnbbojajaagreatdoor", sum := "f2032ae5093cb32833066b53c772073eb63ff2521f4549e48420ce89944590d7", func := "loop.example/g00447/laws.FnExactPartBytes", spec := "fnExactPartBytes", inPlace := ["internal/bytealg.IndexByte", "internal/bytealg.IndexByteString", "internal/bytealg.IndexString", "internal/bytealg.CountString", "internal/abi.NoEscape", "internal/bytealg.MakeNoZero"], unfollowed := true, recurses := true, named := ["internal/bytealg.MaxLen", "unicode/utf8.first", "unicode/utf8.acceptRanges", "loop.example/g00447/impl.charsetNames", "loop.example/g00447/impl.baseDigits", "loop.example/g00447/impl.hexDigits"], apart := false, laid := [("unicode/utf8.acceptRanges", laid_unicode_utf8_acceptRanges), ("loop.example/g00447/impl.baseDigits", laid_loop_example_g00447_impl_baseDigits), ("loop.example/g00447/impl.hexDigits", laid_loop_example_g00447_impl_hexDigits), ("loop.example/g00447/impl.charsetNames", laid_loop_example_g00447_impl_charsetNames), ("unicode/utf8.first", laid_unicode_utf8_first)], narrowed := true }
def FnExactPartBytesUptoSaid : Prop := fnExactPartBytesUptoRow.holds Tryz.pinned (OpenSpec.upto fnExactPartBytesSpec)

/-- 'laws.FnExactPartCodes', WHERE WHAT IT READS IS OF BULK AT MOST 1048576: true; the input reads as it did. -/
def fnExactPartCodesUptoRow : OpenClaim := { program := "ytkjnhcnbbojajaagreatdoor", sum := "f2032ae5093cb32833066b53c772073eb63ff2521f4549e48420ce89944590d7", func := "loop.example/g00447/laws.FnExactPartCodes", spec := "fnExactPartCodes", inPlace := ["internal/bytealg.IndexByte", "internal/bytealg.IndexByteString", "internal/bytealg.IndexString", "internal/bytealg.CountString", "internal/abi.NoEscape", "internal/bytealg.MakeNoZero"], unfollowed := true, recurses := true, named := ["internal/bytealg.MaxLen", "unicode/utf8.first", "unicode/utf8.acceptRanges", "loop.example/g00447/impl.charsetNames", "loop.example/g00447/impl.baseDigits", "loop.example/g00447/impl.hexDigits"], apart := false, laid := [("unicode/utf8.acceptRanges", laid_unicode_utf8_acceptRanges), ("loop.example/g00447/impl.baseDigits", laid_loop_example_g00447_impl_baseDigits), ("loop.example/g00447/impl.hexDigits", laid_loop_example_g00447_impl_hexDigits), ("loop.example/g00447/impl.charsetNames", laid_loop_example_g00447_impl_charsetNames), ("unicode/utf8.first", laid_unicode_utf8_first)], narrowed := true }
def FnExactPartCodesUptoSaid : Prop := fnExactPartCodesUptoRow.holds Tryz.pinned (OpenSpec.upto fnExactPartCodesSpec)

/-- 'laws.FnExactConvertPart', WHERE WHAT IT READS IS OF BULK AT MOST 1048576: true; the input reads as it did. -/
def fnExactConvertPartUptoRow : OpenClaim := { program := "ytkjnhcnbbojajaagreatdoor", sum := "f2032ae5093cb32833066b53c772073eb63ff2521f4549e48420ce89944590d7", func := "loop.example/g00447/laws.FnExactConvertPart", spec := "fnExactConvertPart", inPlace := ["internal/bytealg.IndexByte", "internal/bytealg.IndexByteString", "internal/bytealg.IndexString", "internal/bytealg.CountString", "internal/abi.NoEscape", "internal/bytealg.MakeNoZero"], unfollowed := true, recurses := true, named := ["internal/bytealg.MaxLen", "unicode/utf8.first", "unicode/utf8.acceptRanges", "loop.example/g00447/impl.charsetNames", "loop.example/g00447/impl.baseDigits", "loop.example/g00447/impl.hexDigits"], apart := false, laid := [("unicode/utf8.acceptRanges", laid_unicode_utf8_acceptRanges), ("loop.example/g00447/impl.baseDigits", laid_loop_example_g00447_impl_baseDigits), ("loop.example/g00447/impl.hexDigits", laid_loop_example_g00447_impl_hexDigits), ("loop.example/g00447/impl.charsetNames", laid_loop_example_g00447_impl_charsetNames), ("unicode/utf8.first", laid_unicode_utf8_first)], narrowed := true }
def FnExactConvertPartUptoSaid : Prop := fnExactConvertPartUptoRow.holds Tryz.pinned (OpenSpec.upto fnExactConvertPartSpec)

/-- 'laws.FnExactSubjectOf', WHERE WHAT IT READS IS OF BULK AT MOST 1048576: true; the input reads as it did. -/
def fnExactSubjectOfUptoRow : OpenClaim := { program := "ytkjnhcnbbojajaagreatdoor", sum := "f2032ae5093cb32833066b53c772073eb63ff2521f4549e48420ce89944590d7", func := "loop.example/g00447/laws.FnExactSubjectOf", spec := "fnExactSubjectOf", inPlace := ["internal/bytealg.IndexByte", "internal/bytealg.IndexByteString", "internal/bytealg.IndexString", "internal/bytealg.CountString", "internal/abi.NoEscape", "internal/bytealg.MakeNoZero"], unfollowed := true, recurses := true, named := ["internal/bytealg.MaxLen", "unicode/utf8.first", "unicode/utf8.acceptRanges", "loop.example/g00447/impl.charsetNames", "loop.example/g00447/impl.baseDigits", "loop.example/g00447/impl.hexDigits"], apart := false, laid := [("unicode/utf8.acceptRanges", laid_unicode_utf8_acceptRanges), ("loop.example/g00447/impl.baseDigits", laid_loop_example_g00447_impl_baseDigits), ("loop.example/g00447/impl.hexDigits", laid_loop_example_g00447_impl_hexDigits), ("loop.example/g00447/impl.charsetNames", laid_loop_example_g00447_impl_charsetNames), ("unicode/utf8.first", laid_unicode_utf8_first)], narrowed := true }
def FnExactSubjectOfUptoSaid : Prop := fnExactSubjectOfUptoRow.holds Tryz.pinned (OpenSpec.upto fnExactSubjectOfSpec)

/-- 'laws.FnExactPreviewOf', WHERE WHAT IT READS IS OF BULK AT MOST 1048576: true; the input reads as it did. -/
def fnExactPreviewOfUptoRow : OpenClaim := { program := "ytkjnhcnbbojajaagreatdoor", sum := "f2032ae5093cb32833066b53c772073eb63ff2521f4549e48420ce89944590d7", func := "loop.example/g00447/laws.FnExactPreviewOf", spec := "fnExactPreviewOf", inPlace := ["internal/bytealg.IndexByte", "internal/bytealg.IndexByteString", "internal/bytealg.IndexString", "internal/bytealg.CountString", "internal/abi.NoEscape", "internal/bytealg.MakeNoZero"], unfollowed := true, recurses := true, named := ["internal/bytealg.MaxLen", "unicode/utf8.first", "unicode/utf8.acceptRanges", "loop.example/g00447/impl.charsetNames", "loop.example/g00447/impl.baseDigits", "loop.example/g00447/impl.hexDigits"], apart := false, laid := [("unicode/utf8.acceptRanges", laid_unicode_utf8_acceptRanges), ("loop.example/g00447/impl.baseDigits", laid_loop_example_g00447_impl_baseDigits), ("loop.example/g00447/impl.hexDigits", laid_loop_example_g00447_impl_hexDigits), ("loop.example/g00447/impl.charsetNames", laid_loop_example_g00447_impl_charsetNames), ("unicode/utf8.first", laid_unicode_utf8_first)], narrowed := true }
def FnExactPreviewOfUptoSaid : Prop := fnExactPreviewOfUptoRow.holds Tryz.pinned (OpenSpec.upto fnExactPreviewOfSpec)

/-- 'laws.FnExactLegacyOf', WHERE WHAT IT READS IS OF BULK AT MOST 1048576: true; the input reads as it did. -/
def fnExactLegacyOfUptoRow : OpenClaim := { program := "ytkjnhcnbbojajaagreatdoor", sum := "f2032ae5093cb32833066b53c772073eb63ff2521f4549e48420ce89944590d7", func := "loop.example/g00447/laws.FnExactLegacyOf", spec := "fnExactLegacyOf", inPlace := ["internal/bytealg.IndexByte", "internal/bytealg.IndexByteString", "internal/bytealg.IndexString", "internal/bytealg.CountString", "internal/abi.NoEscape", "internal/bytealg.MakeNoZero"], unfollowed := true, recurses := true, named := ["internal/bytealg.MaxLen", "unicode/utf8.first", "unicode/utf8.acceptRanges", "loop.example/g00447/impl.charsetNames", "loop.example/g00447/impl.baseDigits", "loop.example/g00447/impl.hexDigits"], apart := false, laid := [("unicode/utf8.acceptRanges", laid_unicode_utf8_acceptRanges), ("loop.example/g00447/impl.baseDigits", laid_loop_example_g00447_impl_baseDigits), ("loop.example/g00447/impl.hexDigits", laid_loop_example_g00447_impl_hexDigits), ("loop.example/g00447/impl.charsetNames", laid_loop_example_g00447_impl_charsetNames), ("unicode/utf8.first", laid_unicode_utf8_first)], narrowed := true }
def FnExactLegacyOfUptoSaid : Prop := fnExactLegacyOfUptoRow.holds Tryz.pinned (OpenSpec.upto fnExactLegacyOfSpec)

end Rows
end Go.Proofs.YtkjnhcnbbojajaaGreatDoor
