/-
  NARROWER THAN 'FOR EVERY INPUT', by the rows' own cells (each row's printed sentence says how): FnTerms: laid · FnMatches: laid · FnFinds: laid · FnExactTermsText: laid · FnExactParseTerms: laid · FnExactDoesMatch: laid · FnExactSearchBox: laid.
  DERIVED. THE GIVEN ROWS OF THIS SEAT. 7 by the template 'for every input the law returns true; each argument reads behind the call as it read before'; 0 by the template 'total and deterministic' (their statements: YthmimalplpjghaaGreatDoorTotals.lean).
  GIVEN WITH THE SEED: the statements are not yours to turn. If you find one false, say at which input.
  Laid BY PROGRAM, IN A SANDBOX (cutbox-rows.mjs): the forced cells as the released guide's own fill.sh prints them over the translation ca1f0532f59f9a4c… (all of the seat's roots in one cut). By AI agents, Wed Nov 11 2026. No macro, syntax, notation, axiom, sorry.
-/
import Derived.Test.YthmimalplpjghaaGreatDoorChecked
import GoSem.PinnedTables
import GoSem.Claim
import GoSem.ClaimJoined
import GoSem.ClaimMapViews
import Derived.JoinedTies
import Derived.KernelRfl
namespace Go.Proofs.YthmimalplpjghaaGreatDoor
/- THE CELL 'sum', in the pinned program and in every row, IS THE sha256 OF THE DUMP (.gsa) THAT YthmimalplpjghaaGreatDoorProg.lean LOADS. Nothing in Lean hashes anything: it is a label: what it is worth is what the hold of that sum in a sandbox is worth. -/
noncomputable def Tryz.pinned : Pinned := { name := "ythmimalplpjghaagreatdoor", sum := "ca1f0532f59f9a4c0ddeef8bc35c9a84fbbf80eedbcb737681fff9429ac63aa2", checked := Tryz.checked }
namespace Rows
def none {H : Type} : Left H := { results := [], args := [] }

/- WHAT THE LISTED PACKAGE-LEVEL VARIABLES READ AS WHEN THE CALL BEGINS. Each datum BY PROGRAM (the guide's laid-datum.mjs) off the statement by which the dump's own 'gosem.cut.vars' lays the variable. In a bare row this is a premise. The card (YthmimalplpjghaaGreatDoorCards.lean) ties it to the program's text. -/
def laid_math_bits_deBruijn32tab {H : Type} : DataW H := .agg [.lit (.int .u8 0), .lit (.int .u8 1), .lit (.int .u8 28), .lit (.int .u8 2), .lit (.int .u8 29), .lit (.int .u8 14), .lit (.int .u8 24), .lit (.int .u8 3), .lit (.int .u8 30), .lit (.int .u8 22), .lit (.int .u8 20), .lit (.int .u8 15), .lit (.int .u8 25), .lit (.int .u8 17), .lit (.int .u8 4), .lit (.int .u8 8), .lit (.int .u8 31), .lit (.int .u8 27), .lit (.int .u8 13), .lit (.int .u8 23), .lit (.int .u8 21), .lit (.int .u8 19), .lit (.int .u8 16), .lit (.int .u8 7), .lit (.int .u8 26), .lit (.int .u8 12), .lit (.int .u8 18), .lit (.int .u8 6), .lit (.int .u8 11), .lit (.int .u8 5), .lit (.int .u8 10), .lit (.int .u8 9)]
def laid_math_bits_deBruijn64tab {H : Type} : DataW H := .agg [.lit (.int .u8 0), .lit (.int .u8 1), .lit (.int .u8 56), .lit (.int .u8 2), .lit (.int .u8 57), .lit (.int .u8 49), .lit (.int .u8 28), .lit (.int .u8 3), .lit (.int .u8 61), .lit (.int .u8 58), .lit (.int .u8 42), .lit (.int .u8 50), .lit (.int .u8 38), .lit (.int .u8 29), .lit (.int .u8 17), .lit (.int .u8 4), .lit (.int .u8 62), .lit (.int .u8 47), .lit (.int .u8 59), .lit (.int .u8 36), .lit (.int .u8 45), .lit (.int .u8 43), .lit (.int .u8 51), .lit (.int .u8 22), .lit (.int .u8 53), .lit (.int .u8 39), .lit (.int .u8 33), .lit (.int .u8 30), .lit (.int .u8 24), .lit (.int .u8 18), .lit (.int .u8 12), .lit (.int .u8 5), .lit (.int .u8 63), .lit (.int .u8 55), .lit (.int .u8 48), .lit (.int .u8 27), .lit (.int .u8 60), .lit (.int .u8 41), .lit (.int .u8 37), .lit (.int .u8 16), .lit (.int .u8 46), .lit (.int .u8 35), .lit (.int .u8 44), .lit (.int .u8 21), .lit (.int .u8 52), .lit (.int .u8 32), .lit (.int .u8 23), .lit (.int .u8 11), .lit (.int .u8 54), .lit (.int .u8 26), .lit (.int .u8 40), .lit (.int .u8 15), .lit (.int .u8 34), .lit (.int .u8 20), .lit (.int .u8 31), .lit (.int .u8 10), .lit (.int .u8 25), .lit (.int .u8 14), .lit (.int .u8 19), .lit (.int .u8 9), .lit (.int .u8 13), .lit (.int .u8 8), .lit (.int .u8 7), .lit (.int .u8 6)]
def laid_internal_strconv_uint64pow10 {H : Type} : DataW H := .agg [.lit (.int .u64 1), .lit (.int .u64 10), .lit (.int .u64 100), .lit (.int .u64 1000), .lit (.int .u64 10000), .lit (.int .u64 100000), .lit (.int .u64 1000000), .lit (.int .u64 10000000), .lit (.int .u64 100000000), .lit (.int .u64 1000000000), .lit (.int .u64 10000000000), .lit (.int .u64 100000000000), .lit (.int .u64 1000000000000), .lit (.int .u64 10000000000000), .lit (.int .u64 100000000000000), .lit (.int .u64 1000000000000000), .lit (.int .u64 10000000000000000), .lit (.int .u64 100000000000000000), .lit (.int .u64 1000000000000000000), .lit (.int .u64 10000000000000000000)]
def laid_unicode_utf8_acceptRanges {H : Type} : DataW H := .agg [.agg [.lit (.int .u8 128), .lit (.int .u8 191)], .agg [.lit (.int .u8 160), .lit (.int .u8 191)], .agg [.lit (.int .u8 128), .lit (.int .u8 159)], .agg [.lit (.int .u8 144), .lit (.int .u8 191)], .agg [.lit (.int .u8 128), .lit (.int .u8 143)], .agg [.lit (.int .u8 0), .lit (.int .u8 0)], .agg [.lit (.int .u8 0), .lit (.int .u8 0)], .agg [.lit (.int .u8 0), .lit (.int .u8 0)], .agg [.lit (.int .u8 0), .lit (.int .u8 0)], .agg [.lit (.int .u8 0), .lit (.int .u8 0)], .agg [.lit (.int .u8 0), .lit (.int .u8 0)], .agg [.lit (.int .u8 0), .lit (.int .u8 0)], .agg [.lit (.int .u8 0), .lit (.int .u8 0)], .agg [.lit (.int .u8 0), .lit (.int .u8 0)], .agg [.lit (.int .u8 0), .lit (.int .u8 0)], .agg [.lit (.int .u8 0), .lit (.int .u8 0)]]
def laid_strconv_ErrRange {H : Type} : DataW H := .iface "*errors.errorString" (.ptr (.agg [.lit (.string [118, 97, 108, 117, 101, 32, 111, 117, 116, 32, 111, 102, 32, 114, 97, 110, 103, 101])]))
def laid_strconv_ErrSyntax {H : Type} : DataW H := .iface "*errors.errorString" (.ptr (.agg [.lit (.string [105, 110, 118, 97, 108, 105, 100, 32, 115, 121, 110, 116, 97, 120])]))
def laid_loop_example_g00447_impl_flagWords {H : Type} : DataW H := .agg [.lit (.string [115, 101, 101, 110]), .lit (.string [97, 110, 115, 119, 101, 114, 101, 100]), .lit (.string [102, 108, 97, 103, 103, 101, 100]), .lit (.string [100, 101, 108, 101, 116, 101, 100])]
def laid_loop_example_g00447_impl_termWords {H : Type} : DataW H := .agg [.lit (.string []), .lit (.string [97, 108, 108]), .lit (.string [102, 108, 97, 103]), .lit (.string [115, 105, 110, 99, 101]), .lit (.string [98, 101, 102, 111, 114, 101]), .lit (.string [108, 97, 114, 103, 101, 114]), .lit (.string [115, 117, 98, 106, 101, 99, 116]), .lit (.string [98, 111, 100, 121]), .lit (.string [117, 105, 100]), .lit (.string [110, 111, 116]), .lit (.string [97, 110, 100]), .lit (.string [111, 114])]
/-- One of Go's own tables, pinned by name: the form's constant. -/
def laid_unicode_utf8_first : DataW Unit := Go.Pinned.utf8First
def laid_loop_example_g00447_impl_baseDigits {H : Type} : DataW H := .agg [.lit (.int .u8 65), .lit (.int .u8 66), .lit (.int .u8 67), .lit (.int .u8 68), .lit (.int .u8 69), .lit (.int .u8 70), .lit (.int .u8 71), .lit (.int .u8 72), .lit (.int .u8 73), .lit (.int .u8 74), .lit (.int .u8 75), .lit (.int .u8 76), .lit (.int .u8 77), .lit (.int .u8 78), .lit (.int .u8 79), .lit (.int .u8 80), .lit (.int .u8 81), .lit (.int .u8 82), .lit (.int .u8 83), .lit (.int .u8 84), .lit (.int .u8 85), .lit (.int .u8 86), .lit (.int .u8 87), .lit (.int .u8 88), .lit (.int .u8 89), .lit (.int .u8 90), .lit (.int .u8 97), .lit (.int .u8 98), .lit (.int .u8 99), .lit (.int .u8 100), .lit (.int .u8 101), .lit (.int .u8 102), .lit (.int .u8 103), .lit (.int .u8 104), .lit (.int .u8 105), .lit (.int .u8 106), .lit (.int .u8 107), .lit (.int .u8 108), .lit (.int .u8 109), .lit (.int .u8 110), .lit (.int .u8 111), .lit (.int .u8 112), .lit (.int .u8 113), .lit (.int .u8 114), .lit (.int .u8 115), .lit (.int .u8 116), .lit (.int .u8 117), .lit (.int .u8 118), .lit (.int .u8 119), .lit (.int .u8 120), .lit (.int .u8 121), .lit (.int .u8 122), .lit (.int .u8 48), .lit (.int .u8 49), .lit (.int .u8 50), .lit (.int .u8 51), .lit (.int .u8 52), .lit (.int .u8 53), .lit (.int .u8 54), .lit (.int .u8 55), .lit (.int .u8 56), .lit (.int .u8 57), .lit (.int .u8 43), .lit (.int .u8 47)]
def laid_loop_example_g00447_impl_hexDigits {H : Type} : DataW H := .agg [.lit (.int .u8 48), .lit (.int .u8 49), .lit (.int .u8 50), .lit (.int .u8 51), .lit (.int .u8 52), .lit (.int .u8 53), .lit (.int .u8 54), .lit (.int .u8 55), .lit (.int .u8 56), .lit (.int .u8 57), .lit (.int .u8 65), .lit (.int .u8 66), .lit (.int .u8 67), .lit (.int .u8 68), .lit (.int .u8 69), .lit (.int .u8 70)]
def laid_loop_example_g00447_impl_charsetNames {H : Type} : DataW H := .agg [.lit (.string [117, 115, 45, 97, 115, 99, 105, 105]), .lit (.string [105, 115, 111, 45, 56, 56, 53, 57, 45, 49]), .lit (.string [105, 115, 111, 45, 56, 56, 53, 57, 45, 53]), .lit (.string [117, 116, 102, 45, 56]), .lit (.string [117, 116, 102, 45, 49, 54])]

/-- 'laws.FnTerms': WHATEVER THE INPUT: true; the input reads as it did. -/
def fnTermsSpec : ChangeSpec := { name := "fnTerms", vars := ["loop.example/g00447/impl.termWords", "loop.example/g00447/impl.flagWords"], fn := fun _ => fun
  | [d, g1, g2] => { results := [.lit (.bool true)], args := [d], vars := [g1, g2] }
  | _ => none }
def fnTermsRow : OpenClaim := { program := "ythmimalplpjghaagreatdoor", sum := "ca1f0532f59f9a4c0ddeef8bc35c9a84fbbf80eedbcb737681fff9429ac63aa2", func := "loop.example/g00447/laws.FnTerms", spec := "fnTerms", inPlace := ["internal/bytealg.CountString", "internal/bytealg.IndexByteString", "internal/bytealg.IndexString", "internal/abi.NoEscape", "internal/bytealg.MakeNoZero"], unfollowed := true, recurses := true, named := ["unicode/utf8.first", "unicode/utf8.acceptRanges", "internal/bytealg.MaxLen", "loop.example/g00447/impl.termWords", "loop.example/g00447/impl.flagWords", "strconv.ErrSyntax", "strconv.ErrRange", "internal/strconv.uint64pow10", "math/bits.deBruijn32tab", "math/bits.deBruijn64tab"], apart := false, laid := [("math/bits.deBruijn32tab", laid_math_bits_deBruijn32tab), ("math/bits.deBruijn64tab", laid_math_bits_deBruijn64tab), ("internal/strconv.uint64pow10", laid_internal_strconv_uint64pow10), ("unicode/utf8.acceptRanges", laid_unicode_utf8_acceptRanges), ("strconv.ErrRange", laid_strconv_ErrRange), ("strconv.ErrSyntax", laid_strconv_ErrSyntax), ("loop.example/g00447/impl.flagWords", laid_loop_example_g00447_impl_flagWords), ("loop.example/g00447/impl.termWords", laid_loop_example_g00447_impl_termWords), ("unicode/utf8.first", laid_unicode_utf8_first)] }
def FnTermsSaid : Prop := fnTermsRow.holds Tryz.pinned (OpenSpec.ofChange fnTermsSpec)

/-- ITS FALSE NEIGHBOUR: 'it returns false'. Refute it at one input. -/
def fnTermsWrong : ChangeSpec := { name := "fnTerms", vars := ["loop.example/g00447/impl.termWords", "loop.example/g00447/impl.flagWords"], fn := fun _ => fun
  | [d, g1, g2] => { results := [.lit (.bool false)], args := [d], vars := [g1, g2] }
  | _ => none }
def FnTermsWrongFalsely : Prop := fnTermsRow.holds Tryz.pinned (OpenSpec.ofChange fnTermsWrong)

/-- 'laws.FnMatches': WHATEVER THE INPUT: true; the input reads as it did. -/
def fnMatchesSpec : ChangeSpec := { name := "fnMatches", vars := ["loop.example/g00447/impl.charsetNames", "loop.example/g00447/impl.baseDigits", "loop.example/g00447/impl.hexDigits"], fn := fun _ => fun
  | [d, g1, g2, g3] => { results := [.lit (.bool true)], args := [d], vars := [g1, g2, g3] }
  | _ => none }
def fnMatchesRow : OpenClaim := { program := "ythmimalplpjghaagreatdoor", sum := "ca1f0532f59f9a4c0ddeef8bc35c9a84fbbf80eedbcb737681fff9429ac63aa2", func := "loop.example/g00447/laws.FnMatches", spec := "fnMatches", inPlace := ["internal/bytealg.IndexByte", "internal/bytealg.IndexByteString", "internal/bytealg.IndexString", "internal/bytealg.CountString", "internal/abi.NoEscape", "internal/bytealg.MakeNoZero"], unfollowed := true, recurses := true, named := ["internal/bytealg.MaxLen", "unicode/utf8.first", "unicode/utf8.acceptRanges", "loop.example/g00447/impl.charsetNames", "loop.example/g00447/impl.baseDigits", "loop.example/g00447/impl.hexDigits"], apart := false, laid := [("unicode/utf8.acceptRanges", laid_unicode_utf8_acceptRanges), ("loop.example/g00447/impl.baseDigits", laid_loop_example_g00447_impl_baseDigits), ("loop.example/g00447/impl.hexDigits", laid_loop_example_g00447_impl_hexDigits), ("loop.example/g00447/impl.charsetNames", laid_loop_example_g00447_impl_charsetNames), ("unicode/utf8.first", laid_unicode_utf8_first)] }
def FnMatchesSaid : Prop := fnMatchesRow.holds Tryz.pinned (OpenSpec.ofChange fnMatchesSpec)

/-- ITS FALSE NEIGHBOUR: 'it returns false'. Refute it at one input. -/
def fnMatchesWrong : ChangeSpec := { name := "fnMatches", vars := ["loop.example/g00447/impl.charsetNames", "loop.example/g00447/impl.baseDigits", "loop.example/g00447/impl.hexDigits"], fn := fun _ => fun
  | [d, g1, g2, g3] => { results := [.lit (.bool false)], args := [d], vars := [g1, g2, g3] }
  | _ => none }
def FnMatchesWrongFalsely : Prop := fnMatchesRow.holds Tryz.pinned (OpenSpec.ofChange fnMatchesWrong)

/-- 'laws.FnFinds': WHATEVER THE INPUT: true; the input reads as it did. -/
def fnFindsSpec : ChangeSpec := { name := "fnFinds", vars := ["loop.example/g00447/impl.charsetNames", "loop.example/g00447/impl.baseDigits", "loop.example/g00447/impl.hexDigits"], fn := fun _ => fun
  | [d, g1, g2, g3] => { results := [.lit (.bool true)], args := [d], vars := [g1, g2, g3] }
  | _ => none }
def fnFindsRow : OpenClaim := { program := "ythmimalplpjghaagreatdoor", sum := "ca1f0532f59f9a4c0ddeef8bc35c9a84fbbf80eedbcb737681fff9429ac63aa2", func := "loop.example/g00447/laws.FnFinds", spec := "fnFinds", inPlace := ["internal/bytealg.IndexByte", "internal/bytealg.IndexByteString", "internal/bytealg.IndexString", "internal/bytealg.CountString", "internal/abi.NoEscape", "internal/bytealg.MakeNoZero"], unfollowed := true, recurses := true, named := ["internal/bytealg.MaxLen", "unicode/utf8.first", "unicode/utf8.acceptRanges", "loop.example/g00447/impl.charsetNames", "loop.example/g00447/impl.baseDigits", "loop.example/g00447/impl.hexDigits"], apart := false, laid := [("unicode/utf8.acceptRanges", laid_unicode_utf8_acceptRanges), ("loop.example/g00447/impl.baseDigits", laid_loop_example_g00447_impl_baseDigits), ("loop.example/g00447/impl.hexDigits", laid_loop_example_g00447_impl_hexDigits), ("loop.example/g00447/impl.charsetNames", laid_loop_example_g00447_impl_charsetNames), ("unicode/utf8.first", laid_unicode_utf8_first)] }
def FnFindsSaid : Prop := fnFindsRow.holds Tryz.pinned (OpenSpec.ofChange fnFindsSpec)

/-- ITS FALSE NEIGHBOUR: 'it returns false'. Refute it at one input. -/
def fnFindsWrong : ChangeSpec := { name := "fnFinds", vars := ["loop.example/g00447/impl.charsetNames", "loop.example/g00447/impl.baseDigits", "loop.example/g00447/impl.hexDigits"], fn := fun _ => fun
  | [d, g1, g2, g3] => { results := [.lit (.bool false)], args := [d], vars := [g1, g2, g3] }
  | _ => none }
def FnFindsWrongFalsely : Prop := fnFindsRow.holds Tryz.pinned (OpenSpec.ofChange fnFindsWrong)

/-- 'laws.FnExactTermsText': WHATEVER THE INPUT: true; the input reads as it did. -/
def fnExactTermsTextSpec : ChangeSpec := { name := "fnExactTermsText", vars := ["loop.example/g00447/impl.flagWords", "loop.example/g00447/impl.termWords"], fn := fun _ => fun
  | [d, g1, g2] => { results := [.lit (.bool true)], args := [d], vars := [g1, g2] }
  | _ => none }
def fnExactTermsTextRow : OpenClaim := { program := "ythmimalplpjghaagreatdoor", sum := "ca1f0532f59f9a4c0ddeef8bc35c9a84fbbf80eedbcb737681fff9429ac63aa2", func := "loop.example/g00447/laws.FnExactTermsText", spec := "fnExactTermsText", inPlace := ["internal/abi.NoEscape", "internal/bytealg.MakeNoZero"], unfollowed := true, recurses := true, named := ["loop.example/g00447/impl.flagWords", "loop.example/g00447/impl.termWords", "internal/strconv.uint64pow10", "math/bits.deBruijn32tab", "math/bits.deBruijn64tab"], apart := false, laid := [("math/bits.deBruijn32tab", laid_math_bits_deBruijn32tab), ("math/bits.deBruijn64tab", laid_math_bits_deBruijn64tab), ("internal/strconv.uint64pow10", laid_internal_strconv_uint64pow10), ("loop.example/g00447/impl.flagWords", laid_loop_example_g00447_impl_flagWords), ("loop.example/g00447/impl.termWords", laid_loop_example_g00447_impl_termWords)] }
def FnExactTermsTextSaid : Prop := fnExactTermsTextRow.holds Tryz.pinned (OpenSpec.ofChange fnExactTermsTextSpec)

/-- ITS FALSE NEIGHBOUR: 'it returns false'. Refute it at one input. -/
def fnExactTermsTextWrong : ChangeSpec := { name := "fnExactTermsText", vars := ["loop.example/g00447/impl.flagWords", "loop.example/g00447/impl.termWords"], fn := fun _ => fun
  | [d, g1, g2] => { results := [.lit (.bool false)], args := [d], vars := [g1, g2] }
  | _ => none }
def FnExactTermsTextWrongFalsely : Prop := fnExactTermsTextRow.holds Tryz.pinned (OpenSpec.ofChange fnExactTermsTextWrong)

/-- 'laws.FnExactParseTerms': WHATEVER THE INPUT: true; the input reads as it did. -/
def fnExactParseTermsSpec : ChangeSpec := { name := "fnExactParseTerms", vars := ["loop.example/g00447/impl.termWords", "loop.example/g00447/impl.flagWords"], fn := fun _ => fun
  | [d, g1, g2] => { results := [.lit (.bool true)], args := [d], vars := [g1, g2] }
  | _ => none }
def fnExactParseTermsRow : OpenClaim := { program := "ythmimalplpjghaagreatdoor", sum := "ca1f0532f59f9a4c0ddeef8bc35c9a84fbbf80eedbcb737681fff9429ac63aa2", func := "loop.example/g00447/laws.FnExactParseTerms", spec := "fnExactParseTerms", inPlace := ["internal/bytealg.CountString", "internal/bytealg.IndexByteString", "internal/bytealg.IndexString", "internal/abi.NoEscape", "internal/bytealg.MakeNoZero"], unfollowed := true, recurses := true, named := ["unicode/utf8.first", "unicode/utf8.acceptRanges", "internal/bytealg.MaxLen", "loop.example/g00447/impl.termWords", "loop.example/g00447/impl.flagWords", "strconv.ErrSyntax", "strconv.ErrRange", "internal/strconv.uint64pow10", "math/bits.deBruijn32tab", "math/bits.deBruijn64tab"], apart := false, laid := [("math/bits.deBruijn32tab", laid_math_bits_deBruijn32tab), ("math/bits.deBruijn64tab", laid_math_bits_deBruijn64tab), ("internal/strconv.uint64pow10", laid_internal_strconv_uint64pow10), ("unicode/utf8.acceptRanges", laid_unicode_utf8_acceptRanges), ("strconv.ErrRange", laid_strconv_ErrRange), ("strconv.ErrSyntax", laid_strconv_ErrSyntax), ("loop.example/g00447/impl.flagWords", laid_loop_example_g00447_impl_flagWords), ("loop.example/g00447/impl.termWords", laid_loop_example_g00447_impl_termWords), ("unicode/utf8.first", laid_unicode_utf8_first)] }
def FnExactParseTermsSaid : Prop := fnExactParseTermsRow.holds Tryz.pinned (OpenSpec.ofChange fnExactParseTermsSpec)

/-- ITS FALSE NEIGHBOUR: 'it returns false'. Refute it at one input. -/
def fnExactParseTermsWrong : ChangeSpec := { name := "fnExactParseTerms", vars := ["loop.example/g00447/impl.termWords", "loop.example/g00447/impl.flagWords"], fn := fun _ => fun
  | [d, g1, g2] => { results := [.lit (.bool false)], args := [d], vars := [g1, g2] }
  | _ => none }
def FnExactParseTermsWrongFalsely : Prop := fnExactParseTermsRow.holds Tryz.pinned (OpenSpec.ofChange fnExactParseTermsWrong)

/-- 'laws.FnExactDoesMatch': WHATEVER THE INPUT: true; the input reads as it did. -/
def fnExactDoesMatchSpec : ChangeSpec := { name := "fnExactDoesMatch", vars := ["loop.example/g00447/impl.charsetNames", "loop.example/g00447/impl.baseDigits", "loop.example/g00447/impl.hexDigits"], fn := fun _ => fun
  | [d1, d2, d3, d4, g1, g2, g3] => { results := [.lit (.bool true)], args := [d1, d2, d3, d4], vars := [g1, g2, g3] }
  | _ => none }
def fnExactDoesMatchRow : OpenClaim := { program := "ythmimalplpjghaagreatdoor", sum := "ca1f0532f59f9a4c0ddeef8bc35c9a84fbbf80eedbcb737681fff9429ac63aa2", func := "loop.example/g00447/laws.FnExactDoesMatch", spec := "fnExactDoesMatch", inPlace := ["internal/bytealg.IndexByte", "internal/bytealg.IndexByteString", "internal/bytealg.IndexString", "internal/bytealg.CountString", "internal/abi.NoEscape", "internal/bytealg.MakeNoZero"], unfollowed := true, recurses := true, named := ["internal/bytealg.MaxLen", "unicode/utf8.first", "unicode/utf8.acceptRanges", "loop.example/g00447/impl.charsetNames", "loop.example/g00447/impl.baseDigits", "loop.example/g00447/impl.hexDigits"], apart := false, laid := [("unicode/utf8.acceptRanges", laid_unicode_utf8_acceptRanges), ("loop.example/g00447/impl.baseDigits", laid_loop_example_g00447_impl_baseDigits), ("loop.example/g00447/impl.hexDigits", laid_loop_example_g00447_impl_hexDigits), ("loop.example/g00447/impl.charsetNames", laid_loop_example_g00447_impl_charsetNames), ("unicode/utf8.first", laid_unicode_utf8_first)] }
def FnExactDoesMatchSaid : Prop := fnExactDoesMatchRow.holds Tryz.pinned (OpenSpec.ofChange fnExactDoesMatchSpec)

/-- ITS FALSE NEIGHBOUR: 'it returns false'. Refute it at one input. -/
def fnExactDoesMatchWrong : ChangeSpec := { name := "fnExactDoesMatch", vars := ["loop.example/g00447/impl.charsetNames", "loop.example/g00447/impl.baseDigits", "loop.example/g00447/impl.hexDigits"], fn := fun _ => fun
  | [d1, d2, d3, d4, g1, g2, g3] => { results := [.lit (.bool false)], args := [d1, d2, d3, d4], vars := [g1, g2, g3] }
  | _ => none }
def FnExactDoesMatchWrongFalsely : Prop := fnExactDoesMatchRow.holds Tryz.pinned (OpenSpec.ofChange fnExactDoesMatchWrong)

/-- 'laws.FnExactSearchBox': WHATEVER THE INPUT: true; the input reads as it did. -/
def fnExactSearchBoxSpec : ChangeSpec := { name := "fnExactSearchBox", vars := ["loop.example/g00447/impl.charsetNames", "loop.example/g00447/impl.baseDigits", "loop.example/g00447/impl.hexDigits"], fn := fun _ => fun
  | [d1, d2, d3, g1, g2, g3] => { results := [.lit (.bool true)], args := [d1, d2, d3], vars := [g1, g2, g3] }
  | _ => none }
def fnExactSearchBoxRow : OpenClaim := { program := "ythmimalplpjghaagreatdoor", sum := "ca1f0532f59f9a4c0ddeef8bc35c9a84fbbf80eedbcb737681fff9429ac63aa2", func := "loop.example/g00447/laws.FnExactSearchBox", spec := "fnExactSearchBox", inPlace := ["internal/bytealg.IndexByte", "internal/bytealg.IndexByteString", "internal/bytealg.IndexString", "internal/bytealg.CountString", "internal/abi.NoEscape", "internal/bytealg.MakeNoZero"], unfollowed := true, recurses := true, named := ["internal/bytealg.MaxLen", "unicode/utf8.first", "unicode/utf8.acceptRanges", "loop.example/g00447/impl.charsetNames", "loop.example/g00447/impl.baseDigits", "loop.example/g00447/impl.hexDigits"], apart := false, laid := [("unicode/utf8.acceptRanges", laid_unicode_utf8_acceptRanges), ("loop.example/g00447/impl.baseDigits", laid_loop_example_g00447_impl_baseDigits), ("loop.example/g00447/impl.hexDigits", laid_loop_example_g00447_impl_hexDigits), ("loop.example/g00447/impl.charsetNames", laid_loop_example_g00447_impl_charsetNames), ("unicode/utf8.first", laid_unicode_utf8_first)] }
def FnExactSearchBoxSaid : Prop := fnExactSearchBoxRow.holds Tryz.pinned (OpenSpec.ofChange fnExactSearchBoxSpec)

/-- ITS FALSE NEIGHBOUR: 'it returns false'. Refute it at one input. -/
def fnExactSearchBoxWrong : ChangeSpec := { name := "fnExactSearchBox", vars := ["loop.example/g00447/impl.charsetNames", "loop.example/g00447/impl.baseDigits", "loop.example/g00447/impl.hexDigits"], fn := fun _ => fun
  | [d1, d2, d3, g1, g2, g3] => { results := [.lit (.bool false)], args := [d1, d2, d3], vars := [g1, g2, g3] }
  | _ => none }
def FnExactSearchBoxWrongFalsely : Prop := fnExactSearchBoxRow.holds Tryz.pinned (OpenSpec.ofChange fnExactSearchBoxWrong)

/- THE SECOND FORM. 'bulk': how many values and letters a reading holds, each counted each time it is reached (what is shared counts as often as it is met; a slice's spare places count too). A statement '..UptoSaid' is the law's where the arguments, and the package variables that the reading takes, are together of bulk at most 1048576: NARROWER than '..Said'. Prove '..Said' where nothing that the law and all that it calls make is longer than what came in: it says more and counts as full. Else prove '..UptoSaid'. A law counts once. -/
mutual
def uptoBulk {H : Type} : DataW H → Nat
  | .lit (.string bytes) => bytes.length + 1
  | .lit _ => 1
  | .nil => 1
  | .ptr d => uptoBulk d + 1
  | .slice elems spare => uptoBulkAll elems + uptoBulkAll spare + 1
  | .agg parts => uptoBulkAll parts + 1
  | .iface _ d => uptoBulk d + 1
  | .map entries => uptoBulkEntries entries + 1
  | .held _ => 1
def uptoBulkAll {H : Type} : List (DataW H) → Nat
  | [] => 0
  | d :: r => uptoBulk d + uptoBulkAll r
def uptoBulkEntries {H : Type} : List (Lit × DataW H) → Nat
  | [] => 0
  | x :: r => uptoBulkEntry x + uptoBulkEntries r
def uptoBulkEntry {H : Type} : Lit × DataW H → Nat
  | (.string bytes, d) => bytes.length + uptoBulk d + 1
  | (_, d) => uptoBulk d + 1
 end
def uptoSmall : (H : Type) → List (DataW H) → Bool := fun _ ds => decide (uptoBulkAll ds ≤ 1048576)
def OpenSpec.upto (s : _root_.Go.ChangeSpec) : _root_.Go.OpenSpec := { _root_.Go.OpenSpec.ofChange s with cond := some uptoSmall }

/-- 'laws.FnTerms', WHERE WHAT IT READS IS OF BULK AT MOST 1048576: true; the input reads as it did. -/
def fnTermsUptoRow : OpenClaim := { program := "ythmimalplpjghaagreatdoor", sum := "ca1f0532f59f9a4c0ddeef8bc35c9a84fbbf80eedbcb737681fff9429ac63aa2", func := "loop.example/g00447/laws.FnTerms", spec := "fnTerms", inPlace := ["internal/bytealg.CountString", "internal/bytealg.IndexByteString", "internal/bytealg.IndexString", "internal/abi.NoEscape", "internal/bytealg.MakeNoZero"], unfollowed := true, recurses := true, named := ["unicode/utf8.first", "unicode/utf8.acceptRanges", "internal/bytealg.MaxLen", "loop.example/g00447/impl.termWords", "loop.example/g00447/impl.flagWords", "strconv.ErrSyntax", "strconv.ErrRange", "internal/strconv.uint64pow10", "math/bits.deBruijn32tab", "math/bits.deBruijn64tab"], apart := false, laid := [("math/bits.deBruijn32tab", laid_math_bits_deBruijn32tab), ("math/bits.deBruijn64tab", laid_math_bits_deBruijn64tab), ("internal/strconv.uint64pow10", laid_internal_strconv_uint64pow10), ("unicode/utf8.acceptRanges", laid_unicode_utf8_acceptRanges), ("strconv.ErrRange", laid_strconv_ErrRange), ("strconv.ErrSyntax", laid_strconv_ErrSyntax), ("loop.example/g00447/impl.flagWords", laid_loop_example_g00447_impl_flagWords), ("loop.example/g00447/impl.termWords", laid_loop_example_g00447_impl_termWords), ("unicode/utf8.first", laid_unicode_utf8_first)], narrowed := true }
def FnTermsUptoSaid : Prop := fnTermsUptoRow.holds Tryz.pinned (OpenSpec.upto fnTermsSpec)

/-- 'laws.FnMatches', WHERE WHAT IT READS IS OF BULK AT MOST 1048576: true; the input reads as it did. -/
def fnMatchesUptoRow : OpenClaim := { program := "ythmimalplpjghaagreatdoor", sum := "ca1f0532f59f9a4c0ddeef8bc35c9a84fbbf80eedbcb737681fff9429ac63aa2", func := "loop.example/g00447/laws.FnMatches", spec := "fnMatches", inPlace := ["internal/bytealg.IndexByte", "internal/bytealg.IndexByteString", "internal/bytealg.IndexString", "internal/bytealg.CountString", "internal/abi.NoEscape", "internal/bytealg.MakeNoZero"], unfollowed := true, recurses := true, named := ["internal/bytealg.MaxLen", "unicode/utf8.first", "unicode/utf8.acceptRanges", "loop.example/g00447/impl.charsetNames", "loop.example/g00447/impl.baseDigits", "loop.example/g00447/impl.hexDigits"], apart := false, laid := [("unicode/utf8.acceptRanges", laid_unicode_utf8_acceptRanges), ("loop.example/g00447/impl.baseDigits", laid_loop_example_g00447_impl_baseDigits), ("loop.example/g00447/impl.hexDigits", laid_loop_example_g00447_impl_hexDigits), ("loop.example/g00447/impl.charsetNames", laid_loop_example_g00447_impl_charsetNames), ("unicode/utf8.first", laid_unicode_utf8_first)], narrowed := true }
def FnMatchesUptoSaid : Prop := fnMatchesUptoRow.holds Tryz.pinned (OpenSpec.upto fnMatchesSpec)

/-- 'laws.FnFinds', WHERE WHAT IT READS IS OF BULK AT MOST 1048576: true; the input reads as it did. -/
def fnFindsUptoRow : OpenClaim := { program := "ythmimalplpjghaagreatdoor", sum := "ca1f0532f59f9a4c0ddeef8bc35c9a84fbbf80eedbcb737681fff9429ac63aa2", func := "loop.example/g00447/laws.FnFinds", spec := "fnFinds", inPlace := ["internal/bytealg.IndexByte", "internal/bytealg.IndexByteString", "internal/bytealg.IndexString", "internal/bytealg.CountString", "internal/abi.NoEscape", "internal/bytealg.MakeNoZero"], unfollowed := true, recurses := true, named := ["internal/bytealg.MaxLen", "unicode/utf8.first", "unicode/utf8.acceptRanges", "loop.example/g00447/impl.charsetNames", "loop.example/g00447/impl.baseDigits", "loop.example/g00447/impl.hexDigits"], apart := false, laid := [("unicode/utf8.acceptRanges", laid_unicode_utf8_acceptRanges), ("loop.example/g00447/impl.baseDigits", laid_loop_example_g00447_impl_baseDigits), ("loop.example/g00447/impl.hexDigits", laid_loop_example_g00447_impl_hexDigits), ("loop.example/g00447/impl.charsetNames", laid_loop_example_g00447_impl_charsetNames), ("unicode/utf8.first", laid_unicode_utf8_first)], narrowed := true }
def FnFindsUptoSaid : Prop := fnFindsUptoRow.holds Tryz.pinned (OpenSpec.upto fnFindsSpec)

/-- 'laws.FnExactTermsText', WHERE WHAT IT READS IS OF BULK AT MOST 1048576: true; the input reads as it did. -/
def fnExactTermsTextUptoRow : OpenClaim := { program := "ythmimalplpjghaagreatdoor", sum := "ca1f0532f59f9a4c0ddeef8bc35c9a84fbbf80eedbcb737681fff9429ac63aa2", func := "loop.example/g00447/laws.FnExactTermsText", spec := "fnExactTermsText", inPlace := ["internal/abi.NoEscape", "internal/bytealg.MakeNoZero"], unfollowed := true, recurses := true, named := ["loop.example/g00447/impl.flagWords", "loop.example/g00447/impl.termWords", "internal/strconv.uint64pow10", "math/bits.deBruijn32tab", "math/bits.deBruijn64tab"], apart := false, laid := [("math/bits.deBruijn32tab", laid_math_bits_deBruijn32tab), ("math/bits.deBruijn64tab", laid_math_bits_deBruijn64tab), ("internal/strconv.uint64pow10", laid_internal_strconv_uint64pow10), ("loop.example/g00447/impl.flagWords", laid_loop_example_g00447_impl_flagWords), ("loop.example/g00447/impl.termWords", laid_loop_example_g00447_impl_termWords)], narrowed := true }
def FnExactTermsTextUptoSaid : Prop := fnExactTermsTextUptoRow.holds Tryz.pinned (OpenSpec.upto fnExactTermsTextSpec)

/-- 'laws.FnExactParseTerms', WHERE WHAT IT READS IS OF BULK AT MOST 1048576: true; the input reads as it did. -/
def fnExactParseTermsUptoRow : OpenClaim := { program := "ythmimalplpjghaagreatdoor", sum := "ca1f0532f59f9a4c0ddeef8bc35c9a84fbbf80eedbcb737681fff9429ac63aa2", func := "loop.example/g00447/laws.FnExactParseTerms", spec := "fnExactParseTerms", inPlace := ["internal/bytealg.CountString", "internal/bytealg.IndexByteString", "internal/bytealg.IndexString", "internal/abi.NoEscape", "internal/bytealg.MakeNoZero"], unfollowed := true, recurses := true, named := ["unicode/utf8.first", "unicode/utf8.acceptRanges", "internal/bytealg.MaxLen", "loop.example/g00447/impl.termWords", "loop.example/g00447/impl.flagWords", "strconv.ErrSyntax", "strconv.ErrRange", "internal/strconv.uint64pow10", "math/bits.deBruijn32tab", "math/bits.deBruijn64tab"], apart := false, laid := [("math/bits.deBruijn32tab", laid_math_bits_deBruijn32tab), ("math/bits.deBruijn64tab", laid_math_bits_deBruijn64tab), ("internal/strconv.uint64pow10", laid_internal_strconv_uint64pow10), ("unicode/utf8.acceptRanges", laid_unicode_utf8_acceptRanges), ("strconv.ErrRange", laid_strconv_ErrRange), ("strconv.ErrSyntax", laid_strconv_ErrSyntax), ("loop.example/g00447/impl.flagWords", laid_loop_example_g00447_impl_flagWords), ("loop.example/g00447/impl.termWords", laid_loop_example_g00447_impl_termWords), ("unicode/utf8.first", laid_unicode_utf8_first)], narrowed := true }
def FnExactParseTermsUptoSaid : Prop := fnExactParseTermsUptoRow.holds Tryz.pinned (OpenSpec.upto fnExactParseTermsSpec)

/-- 'laws.FnExactDoesMatch', WHERE WHAT IT READS IS OF BULK AT MOST 1048576: true; the input reads as it did. -/
def fnExactDoesMatchUptoRow : OpenClaim := { program := "ythmimalplpjghaagreatdoor", sum := "ca1f0532f59f9a4c0ddeef8bc35c9a84fbbf80eedbcb737681fff9429ac63aa2", func := "loop.example/g00447/laws.FnExactDoesMatch", spec := "fnExactDoesMatch", inPlace := ["internal/bytealg.IndexByte", "internal/bytealg.IndexByteString", "internal/bytealg.IndexString", "internal/bytealg.CountString", "internal/abi.NoEscape", "internal/bytealg.MakeNoZero"], unfollowed := true, recurses := true, named := ["internal/bytealg.MaxLen", "unicode/utf8.first", "unicode/utf8.acceptRanges", "loop.example/g00447/impl.charsetNames", "loop.example/g00447/impl.baseDigits", "loop.example/g00447/impl.hexDigits"], apart := false, laid := [("unicode/utf8.acceptRanges", laid_unicode_utf8_acceptRanges), ("loop.example/g00447/impl.baseDigits", laid_loop_example_g00447_impl_baseDigits), ("loop.example/g00447/impl.hexDigits", laid_loop_example_g00447_impl_hexDigits), ("loop.example/g00447/impl.charsetNames", laid_loop_example_g00447_impl_charsetNames), ("unicode/utf8.first", laid_unicode_utf8_first)], narrowed := true }
def FnExactDoesMatchUptoSaid : Prop := fnExactDoesMatchUptoRow.holds Tryz.pinned (OpenSpec.upto fnExactDoesMatchSpec)

/-- 'laws.FnExactSearchBox', WHERE WHAT IT READS IS OF BULK AT MOST 1048576: true; the input reads as it did. -/
def fnExactSearchBoxUptoRow : OpenClaim := { program := "ythmimalplpjghaagreatdoor", sum := "ca1f0532f59f9a4c0ddeef8bc35c9a84fbbf80eedbcb737681fff9429ac63aa2", func := "loop.example/g00447/laws.FnExactSearchBox", spec := "fnExactSearchBox", inPlace := ["internal/bytealg.IndexByte", "internal/bytealg.IndexByteString", "internal/bytealg.IndexString", "internal/bytealg.CountString", "internal/abi.NoEscape", "internal/bytealg.MakeNoZero"], unfollowed := true, recurses := true, named := ["internal/bytealg.MaxLen", "unicode/utf8.first", "unicode/utf8.acceptRanges", "loop.example/g00447/impl.charsetNames", "loop.example/g00447/impl.baseDigits", "loop.example/g00447/impl.hexDigits"], apart := false, laid := [("unicode/utf8.acceptRanges", laid_unicode_utf8_acceptRanges), ("loop.example/g00447/impl.baseDigits", laid_loop_example_g00447_impl_baseDigits), ("loop.example/g00447/impl.hexDigits", laid_loop_example_g00447_impl_hexDigits), ("loop.example/g00447/impl.charsetNames", laid_loop_example_g00447_impl_charsetNames), ("unicode/utf8.first", laid_unicode_utf8_first)], narrowed := true }
def FnExactSearchBoxUptoSaid : Prop := fnExactSearchBoxUptoRow.holds Tryz.pinned (OpenSpec.upto fnExactSearchBoxSpec)

end Rows
end Go.Proofs.YthmimalplpjghaaGreatDoor
