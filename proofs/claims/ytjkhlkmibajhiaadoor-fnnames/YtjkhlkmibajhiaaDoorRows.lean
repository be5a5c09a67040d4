/-
  NARROWER THAN 'FOR EVERY INPUT', by the rows' own cells (each row's printed sentence says how): FnExactCharsetOf: laid · FnExactCharsetName: laid · FnNames: laid · FnExactComparatorOf: laid.
  DERIVED. THE GIVEN ROWS OF THIS SEAT. 4 by the template 'for every input the law returns true; each argument reads behind the call as it read before'; 0 by the template 'total and deterministic' (their statements: YtjkhlkmibajhiaaDoorTotals.lean).
  GIVEN WITH THE SEED: the statements are not yours to turn. If you find one false, say at which input.
  Laid BY PROGRAM, IN A SANDBOX (cutbox-rows.mjs): the forced cells as the released guide's own fill.sh prints them over the translation e841b9c43de9f4b5… (all of the seat's roots in one cut). By AI agents, Wed Nov 11 2026. No macro, syntax, notation, axiom, sorry.
-/
import Derived.Test.YtjkhlkmibajhiaaDoorChecked
import GoSem.Claim
import GoSem.ClaimJoined
import GoSem.ClaimMapViews
import Derived.JoinedTies
import Derived.KernelRfl
namespace Go.Proofs.YtjkhlkmibajhiaaDoor
/- THE CELL 'sum', in the pinned program and in every row, IS THE sha256 OF THE DUMP (.gsa) THAT YtjkhlkmibajhiaaDoorProg.lean LOADS. Nothing in Lean hashes anything: it is a label: what it is worth is what the hold of that sum in a sandbox is worth. -/
noncomputable def Tryd.pinned : Pinned := { name := "ytjkhlkmibajhiaadoor", sum := "e841b9c43de9f4b5e8267e8b9ee9b59a31dfb19d53a3aaf3297a38530ad13470", checked := Tryd.checked }
namespace Rows
def none {H : Type} : Left H := { results := [], args := [] }

/- WHAT THE LISTED PACKAGE-LEVEL VARIABLES READ AS WHEN THE CALL BEGINS. Each datum BY PROGRAM (the guide's laid-datum.mjs) off the statement by which the dump's own 'gosem.cut.vars' lays the variable. In a bare row this is a premise. The card (YtjkhlkmibajhiaaDoorCards.lean) ties it to the program's text. -/
def laid_loop_example_g00447_impl_charsetNames {H : Type} : DataW H := .agg [.lit (.string [117, 115, 45, 97, 115, 99, 105, 105]), .lit (.string [105, 115, 111, 45, 56, 56, 53, 57, 45, 49]), .lit (.string [105, 115, 111, 45, 56, 56, 53, 57, 45, 53]), .lit (.string [117, 116, 102, 45, 56]), .lit (.string [117, 116, 102, 45, 49, 54])]
def laid_loop_example_g00447_impl_comparatorNames {H : Type} : DataW H := .agg [.lit (.string [105, 59, 111, 99, 116, 101, 116]), .lit (.string [105, 59, 97, 115, 99, 105, 105, 45, 99, 97, 115, 101, 109, 97, 112]), .lit (.string [105, 59, 117, 110, 105, 99, 111, 100, 101, 45, 99, 97, 115, 101, 109, 97, 112])]

/-- 'laws.FnExactCharsetOf': WHATEVER THE INPUT: true; the input reads as it did. -/
def fnExactCharsetOfSpec : ChangeSpec := { name := "fnExactCharsetOf", vars := ["loop.example/g00447/impl.charsetNames"], fn := fun _ => fun
  | [d, g1] => { results := [.lit (.bool true)], args := [d], vars := [g1] }
  | _ => none }
def fnExactCharsetOfRow : OpenClaim := { program := "ytjkhlkmibajhiaadoor", sum := "e841b9c43de9f4b5e8267e8b9ee9b59a31dfb19d53a3aaf3297a38530ad13470", func := "loop.example/g00447/laws.FnExactCharsetOf", spec := "fnExactCharsetOf", named := ["loop.example/g00447/impl.charsetNames"], apart := false, laid := [("loop.example/g00447/impl.charsetNames", laid_loop_example_g00447_impl_charsetNames)] }
def FnExactCharsetOfSaid : Prop := fnExactCharsetOfRow.holds Tryd.pinned (OpenSpec.ofChange fnExactCharsetOfSpec)

/-- ITS FALSE NEIGHBOUR: 'it returns false'. Refute it at one input. -/
def fnExactCharsetOfWrong : ChangeSpec := { name := "fnExactCharsetOf", vars := ["loop.example/g00447/impl.charsetNames"], fn := fun _ => fun
  | [d, g1] => { results := [.lit (.bool false)], args := [d], vars := [g1] }
  | _ => none }
def FnExactCharsetOfWrongFalsely : Prop := fnExactCharsetOfRow.holds Tryd.pinned (OpenSpec.ofChange fnExactCharsetOfWrong)

/-- 'laws.FnExactCharsetName': WHATEVER THE INPUT: true; the input reads as it did. -/
def fnExactCharsetNameSpec : ChangeSpec := { name := "fnExactCharsetName", vars := ["loop.example/g00447/impl.charsetNames"], fn := fun _ => fun
  | [d, g1] => { results := [.lit (.bool true)], args := [d], vars := [g1] }
  | _ => none }
def fnExactCharsetNameRow : OpenClaim := { program := "ytjkhlkmibajhiaadoor", sum := "e841b9c43de9f4b5e8267e8b9ee9b59a31dfb19d53a3aaf3297a38530ad13470", func := "loop.example/g00447/laws.FnExactCharsetName", spec := "fnExactCharsetName", named := ["loop.example/g00447/impl.charsetNames"], apart := false, laid := [("loop.example/g00447/impl.charsetNames", laid_loop_example_g00447_impl_charsetNames)] }
def FnExactCharsetNameSaid : Prop := fnExactCharsetNameRow.holds Tryd.pinned (OpenSpec.ofChange fnExactCharsetNameSpec)

/-- ITS FALSE NEIGHBOUR: 'it returns false'. Refute it at one input. -/
def fnExactCharsetNameWrong : ChangeSpec := { name := "fnExactCharsetName", vars := ["loop.example/g00447/impl.charsetNames"], fn := fun _ => fun
  | [d, g1] => { results := [.lit (.bool false)], args := [d], vars := [g1] }
  | _ => none }
def FnExactCharsetNameWrongFalsely : Prop := fnExactCharsetNameRow.holds Tryd.pinned (OpenSpec.ofChange fnExactCharsetNameWrong)

/-- 'laws.FnNames': WHATEVER THE INPUT: true; the input reads as it did. -/
def fnNamesSpec : ChangeSpec := { name := "fnNames", vars := ["loop.example/g00447/impl.charsetNames", "loop.example/g00447/impl.comparatorNames"], fn := fun _ => fun
  | [d, g1, g2] => { results := [.lit (.bool true)], args := [d], vars := [g1, g2] }
  | _ => none }
def fnNamesRow : OpenClaim := { program := "ytjkhlkmibajhiaadoor", sum := "e841b9c43de9f4b5e8267e8b9ee9b59a31dfb19d53a3aaf3297a38530ad13470", func := "loop.example/g00447/laws.FnNames", spec := "fnNames", named := ["loop.example/g00447/impl.charsetNames", "loop.example/g00447/impl.comparatorNames"], apart := false, laid := [("loop.example/g00447/impl.charsetNames", laid_loop_example_g00447_impl_charsetNames), ("loop.example/g00447/impl.comparatorNames", laid_loop_example_g00447_impl_comparatorNames)] }
def FnNamesSaid : Prop := fnNamesRow.holds Tryd.pinned (OpenSpec.ofChange fnNamesSpec)

/-- ITS FALSE NEIGHBOUR: 'it returns false'. Refute it at one input. -/
def fnNamesWrong : ChangeSpec := { name := "fnNames", vars := ["loop.example/g00447/impl.charsetNames", "loop.example/g00447/impl.comparatorNames"], fn := fun _ => fun
  | [d, g1, g2] => { results := [.lit (.bool false)], args := [d], vars := [g1, g2] }
  | _ => none }
def FnNamesWrongFalsely : Prop := fnNamesRow.holds Tryd.pinned (OpenSpec.ofChange fnNamesWrong)

/-- 'laws.FnExactComparatorOf': WHATEVER THE INPUT: true; the input reads as it did. -/
def fnExactComparatorOfSpec : ChangeSpec := { name := "fnExactComparatorOf", vars := ["loop.example/g00447/impl.comparatorNames"], fn := fun _ => fun
  | [d, g1] => { results := [.lit (.bool true)], args := [d], vars := [g1] }
  | _ => none }
def fnExactComparatorOfRow : OpenClaim := { program := "ytjkhlkmibajhiaadoor", sum := "e841b9c43de9f4b5e8267e8b9ee9b59a31dfb19d53a3aaf3297a38530ad13470", func := "loop.example/g00447/laws.FnExactComparatorOf", spec := "fnExactComparatorOf", named := ["loop.example/g00447/impl.comparatorNames"], apart := false, laid := [("loop.example/g00447/impl.comparatorNames", laid_loop_example_g00447_impl_comparatorNames)] }
def FnExactComparatorOfSaid : Prop := fnExactComparatorOfRow.holds Tryd.pinned (OpenSpec.ofChange fnExactComparatorOfSpec)

/-- ITS FALSE NEIGHBOUR: 'it returns false'. Refute it at one input. -/
def fnExactComparatorOfWrong : ChangeSpec := { name := "fnExactComparatorOf", vars := ["loop.example/g00447/impl.comparatorNames"], fn := fun _ => fun
  | [d, g1] => { results := [.lit (.bool false)], args := [d], vars := [g1] }
  | _ => none }
def FnExactComparatorOfWrongFalsely : Prop := fnExactComparatorOfRow.holds Tryd.pinned (OpenSpec.ofChange fnExactComparatorOfWrong)

/- THE SECOND FORM. 'bulk': how many values and letters a reading holds, each counted each time it is reached (what is shared counts as often as it is met; a slice's spare places count too). A statement '..UptoSaid' is the law's where the arguments, and the package variables that the reading takes, are together of bulk at most 1048576: NARROWER than '..Said'. Prove '..Said' where nothing that the law and all that it calls make is longer than what came in: it says more and counts as full. Else prove '..UptoSaid'. A law counts once. -/
mutual
def uptoBulk {H : Type} : DataW H → Nat
  | .lit (.string bytes) => bytes.length + 1
  | .lit _ => 1
  | .nil => 1
  | .ptr d => uptoBulk d + 1
  | .slice elems spare => uptoBulkAll elems + uptoBulkAll spare + 1
  | .agg parts => uptoBulkAll parts + 1
  | .iface _ d => uptoBulk d + 1
  | .map entries => uptoBulkEntries entries + 1
  | .held _ => 1
def uptoBulkAll {H : Type} : List (DataW H) → Nat
  | [] => 0
  | d :: r => uptoBulk d + uptoBulkAll r
def uptoBulkEntries {H : Type} : List (Lit × DataW H) → Nat
  | [] => 0
  | x :: r => uptoBulkEntry x + uptoBulkEntries r
def uptoBulkEntry {H : Type} : Lit × DataW H → Nat
  | (.string bytes, d) => bytes.length + uptoBulk d + 1
  | (_, d) => uptoBulk d + 1
 end
def uptoSmall : (H : Type) → List (DataW H) → Bool := fun _ ds => decide (uptoBulkAll ds ≤ 1048576)
def OpenSpec.upto (s : _root_.Go.ChangeSpec) : _root_.Go.OpenSpec := { _root_.Go.OpenSpec.ofChange s with cond := some uptoSmall }

/-- 'laws.FnExactCharsetOf', WHERE WHAT IT READS IS OF BULK AT MOST 1048576: true; the input reads as it did. -/
def fnExactCharsetOfUptoRow : OpenClaim := { program := "ytjkhlkmibajhiaadoor", sum := "e841b9c43de9f4b5e8267e8b9ee9b59a31dfb19d53a3aaf3297a38530ad13470", func := "loop.example/g00447/laws.FnExactCharsetOf", spec := "fnExactCharsetOf", named := ["loop.example/g00447/impl.charsetNames"], apart := false, laid := [("loop.example/g00447/impl.charsetNames", laid_loop_example_g00447_impl_charsetNames)], narrowed := true }
def FnExactCharsetOfUptoSaid : Prop := fnExactCharsetOfUptoRow.holds Tryd.pinned (OpenSpec.upto fnExactCharsetOfSpec)

/-- 'laws.FnExactCharsetName', WHERE WHAT IT READS IS OF BULK AT MOST 1048576: true; the input reads as it did. -/
def fnExactCharsetNameUptoRow : OpenClaim := { program := "ytjkhlkmibajhiaadoor", sum := "e841b9c43de9f4b5e8267e8b9ee9b59a31dfb19d53a3aaf3297a38530ad13470", func := "loop.example/g00447/laws.FnExactCharsetName", spec := "fnExactCharsetName", named := ["loop.example/g00447/impl.charsetNames"], apart := false, laid := [("loop.example/g00447/impl.charsetNames", laid_loop_example_g00447_impl_charsetNames)], narrowed := true }
def FnExactCharsetNameUptoSaid : Prop := fnExactCharsetNameUptoRow.holds Tryd.pinned (OpenSpec.upto fnExactCharsetNameSpec)

/-- 'laws.FnNames', WHERE WHAT IT READS IS OF BULK AT MOST 1048576: true; the input reads as it did. -/
def fnNamesUptoRow : OpenClaim := { program := "ytjkhlkmibajhiaadoor", sum := "e841b9c43de9f4b5e8267e8b9ee9b59a31dfb19d53a3aaf3297a38530ad13470", func := "loop.example/g00447/laws.FnNames", spec := "fnNames", named := ["loop.example/g00447/impl.charsetNames", "loop.example/g00447/impl.comparatorNames"], apart := false, laid := [("loop.example/g00447/impl.charsetNames", laid_loop_example_g00447_impl_charsetNames), ("loop.example/g00447/impl.comparatorNames", laid_loop_example_g00447_impl_comparatorNames)], narrowed := true }
def FnNamesUptoSaid : Prop := fnNamesUptoRow.holds Tryd.pinned (OpenSpec.upto fnNamesSpec)

/-- 'laws.FnExactComparatorOf', WHERE WHAT IT READS IS OF BULK AT MOST 1048576: true; the input reads as it did. -/
def fnExactComparatorOfUptoRow : OpenClaim := { program := "ytjkhlkmibajhiaadoor", sum := "e841b9c43de9f4b5e8267e8b9ee9b59a31dfb19d53a3aaf3297a38530ad13470", func := "loop.example/g00447/laws.FnExactComparatorOf", spec := "fnExactComparatorOf", named := ["loop.example/g00447/impl.comparatorNames"], apart := false, laid := [("loop.example/g00447/impl.comparatorNames", laid_loop_example_g00447_impl_comparatorNames)], narrowed := true }
def FnExactComparatorOfUptoSaid : Prop := fnExactComparatorOfUptoRow.holds Tryd.pinned (OpenSpec.upto fnExactComparatorOfSpec)

end Rows
end Go.Proofs.YtjkhlkmibajhiaaDoor
