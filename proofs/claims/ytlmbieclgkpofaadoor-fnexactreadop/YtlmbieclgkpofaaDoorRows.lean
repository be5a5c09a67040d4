/-
  NARROWER THAN 'FOR EVERY INPUT', by the rows' own cells (each row's printed sentence says how): FnExactOpFault: laid · FnExactPackOp: laid · FnExactReadOp: laid · FnExactPackOps: laid · FnExactReadJournal: laid.
  DERIVED. THE GIVEN ROWS OF THIS SEAT. 5 by the template 'for every input the law returns true; each argument reads behind the call as it read before'; 0 by the template 'total and deterministic' (their statements: YtlmbieclgkpofaaDoorTotals.lean).
  GIVEN WITH THE SEED: the statements are not yours to turn. If you find one false, say at which input.
  Laid BY PROGRAM, IN A SANDBOX (cutbox-rows.mjs): the forced cells as the released guide's own fill.sh prints them over the translation 34e5e059739610a8… (all of the seat's roots in one cut). By AI agents, Wed Nov 11 2026. No macro, syntax, notation, axiom, sorry.
-/
import Derived.Test.YtlmbieclgkpofaaDoorChecked
import GoSem.Claim
import GoSem.ClaimJoined
import GoSem.ClaimMapViews
import Derived.JoinedTies
import Derived.KernelRfl
namespace Go.Proofs.YtlmbieclgkpofaaDoor
/- THE CELL 'sum', in the pinned program and in every row, IS THE sha256 OF THE DUMP (.gsa) THAT YtlmbieclgkpofaaDoorProg.lean LOADS. Nothing in Lean hashes anything: it is a label: what it is worth is what the hold of that sum in a sandbox is worth. -/
noncomputable def Tryd.pinned : Pinned := { name := "ytlmbieclgkpofaadoor", sum := "34e5e059739610a80534feb21cfb4b0a470433166f75988114eff3d88069ac19", checked := Tryd.checked }
namespace Rows
def none {H : Type} : Left H := { results := [], args := [] }

/- WHAT THE LISTED PACKAGE-LEVEL VARIABLES READ AS WHEN THE CALL BEGINS. Each datum BY PROGRAM (the guide's laid-datum.mjs) off the statement by which the dump's own 'gosem.cut.vars' lays the variable. In a bare row this is a premise. The card (YtlmbieclgkpofaaDoorCards.lean) ties it to the program's text. -/
def laid_loop_example_g00447_impl_kindHas {H : Type} : DataW H := .agg [.lit (.int .i64 0), .lit (.int .i64 0), .lit (.int .i64 0), .lit (.int .i64 56), .lit (.int .i64 14), .lit (.int .i64 3), .lit (.int .i64 3), .lit (.int .i64 0)]

/-- 'laws.FnExactOpFault': WHATEVER THE INPUT: true; the input reads as it did. -/
def fnExactOpFaultSpec : ChangeSpec := { name := "fnExactOpFault", vars := ["loop.example/g00447/impl.kindHas"], fn := fun _ => fun
  | [d, g1] => { results := [.lit (.bool true)], args := [d], vars := [g1] }
  | _ => none }
def fnExactOpFaultRow : OpenClaim := { program := "ytlmbieclgkpofaadoor", sum := "34e5e059739610a80534feb21cfb4b0a470433166f75988114eff3d88069ac19", func := "loop.example/g00447/laws.FnExactOpFault", spec := "fnExactOpFault", unfollowed := true, recurses := true, named := ["loop.example/g00447/impl.kindHas"], apart := false, laid := [("loop.example/g00447/impl.kindHas", laid_loop_example_g00447_impl_kindHas)] }
def FnExactOpFaultSaid : Prop := fnExactOpFaultRow.holds Tryd.pinned (OpenSpec.ofChange fnExactOpFaultSpec)

/-- ITS FALSE NEIGHBOUR: 'it returns false'. Refute it at one input. -/
def fnExactOpFaultWrong : ChangeSpec := { name := "fnExactOpFault", vars := ["loop.example/g00447/impl.kindHas"], fn := fun _ => fun
  | [d, g1] => { results := [.lit (.bool false)], args := [d], vars := [g1] }
  | _ => none }
def FnExactOpFaultWrongFalsely : Prop := fnExactOpFaultRow.holds Tryd.pinned (OpenSpec.ofChange fnExactOpFaultWrong)

/-- 'laws.FnExactPackOp': WHATEVER THE INPUT: true; the input reads as it did. -/
def fnExactPackOpSpec : ChangeSpec := { name := "fnExactPackOp", vars := ["loop.example/g00447/impl.kindHas"], fn := fun _ => fun
  | [d, g1] => { results := [.lit (.bool true)], args := [d], vars := [g1] }
  | _ => none }
def fnExactPackOpRow : OpenClaim := { program := "ytlmbieclgkpofaadoor", sum := "34e5e059739610a80534feb21cfb4b0a470433166f75988114eff3d88069ac19", func := "loop.example/g00447/laws.FnExactPackOp", spec := "fnExactPackOp", unfollowed := true, recurses := true, named := ["loop.example/g00447/impl.kindHas"], apart := false, laid := [("loop.example/g00447/impl.kindHas", laid_loop_example_g00447_impl_kindHas)] }
def FnExactPackOpSaid : Prop := fnExactPackOpRow.holds Tryd.pinned (OpenSpec.ofChange fnExactPackOpSpec)

/-- ITS FALSE NEIGHBOUR: 'it returns false'. Refute it at one input. -/
def fnExactPackOpWrong : ChangeSpec := { name := "fnExactPackOp", vars := ["loop.example/g00447/impl.kindHas"], fn := fun _ => fun
  | [d, g1] => { results := [.lit (.bool false)], args := [d], vars := [g1] }
  | _ => none }
def FnExactPackOpWrongFalsely : Prop := fnExactPackOpRow.holds Tryd.pinned (OpenSpec.ofChange fnExactPackOpWrong)

/-- 'laws.FnExactReadOp': WHATEVER THE INPUT: true; the input reads as it did. -/
def fnExactReadOpSpec : ChangeSpec := { name := "fnExactReadOp", vars := ["loop.example/g00447/impl.kindHas"], fn := fun _ => fun
  | [d, g1] => { results := [.lit (.bool true)], args := [d], vars := [g1] }
  | _ => none }
def fnExactReadOpRow : OpenClaim := { program := "ytlmbieclgkpofaadoor", sum := "34e5e059739610a80534feb21cfb4b0a470433166f75988114eff3d88069ac19", func := "loop.example/g00447/laws.FnExactReadOp", spec := "fnExactReadOp", unfollowed := true, recurses := true, named := ["loop.example/g00447/impl.kindHas"], apart := false, laid := [("loop.example/g00447/impl.kindHas", laid_loop_example_g00447_impl_kindHas)] }
def FnExactReadOpSaid : Prop := fnExactReadOpRow.holds Tryd.pinned (OpenSpec.ofChange fnExactReadOpSpec)

/-- ITS FALSE NEIGHBOUR: 'it returns false'. Refute it at one input. -/
def fnExactReadOpWrong : ChangeSpec := { name := "fnExactReadOp", vars := ["loop.example/g00447/impl.kindHas"], fn := fun _ => fun
  | [d, g1] => { results := [.lit (.bool false)], args := [d], vars := [g1] }
  | _ => none }
def FnExactReadOpWrongFalsely : Prop := fnExactReadOpRow.holds Tryd.pinned (OpenSpec.ofChange fnExactReadOpWrong)

/-- 'laws.FnExactPackOps': WHATEVER THE INPUT: true; the input reads as it did. -/
def fnExactPackOpsSpec : ChangeSpec := { name := "fnExactPackOps", vars := ["loop.example/g00447/impl.kindHas"], fn := fun _ => fun
  | [d, g1] => { results := [.lit (.bool true)], args := [d], vars := [g1] }
  | _ => none }
def fnExactPackOpsRow : OpenClaim := { program := "ytlmbieclgkpofaadoor", sum := "34e5e059739610a80534feb21cfb4b0a470433166f75988114eff3d88069ac19", func := "loop.example/g00447/laws.FnExactPackOps", spec := "fnExactPackOps", unfollowed := true, recurses := true, named := ["loop.example/g00447/impl.kindHas"], apart := false, laid := [("loop.example/g00447/impl.kindHas", laid_loop_example_g00447_impl_kindHas)] }
def FnExactPackOpsSaid : Prop := fnExactPackOpsRow.holds Tryd.pinned (OpenSpec.ofChange fnExactPackOpsSpec)

/-- ITS FALSE NEIGHBOUR: 'it returns false'. Refute it at one input. -/
def fnExactPackOpsWrong : ChangeSpec := { name := "fnExactPackOps", vars := ["loop.example/g00447/impl.kindHas"], fn := fun _ => fun
  | [d, g1] => { results := [.lit (.bool false)], args := [d], vars := [g1] }
  | _ => none }
def FnExactPackOpsWrongFalsely : Prop := fnExactPackOpsRow.holds Tryd.pinned (OpenSpec.ofChange fnExactPackOpsWrong)

/-- 'laws.FnExactReadJournal': WHATEVER THE INPUT: true; the input reads as it did. -/
def fnExactReadJournalSpec : ChangeSpec := { name := "fnExactReadJournal", vars := ["loop.example/g00447/impl.kindHas"], fn := fun _ => fun
  | [d, g1] => { results := [.lit (.bool true)], args := [d], vars := [g1] }
  | _ => none }
def fnExactReadJournalRow : OpenClaim := { program := "ytlmbieclgkpofaadoor", sum := "34e5e059739610a80534feb21cfb4b0a470433166f75988114eff3d88069ac19", func := "loop.example/g00447/laws.FnExactReadJournal", spec := "fnExactReadJournal", unfollowed := true, recurses := true, named := ["loop.example/g00447/impl.kindHas"], apart := false, laid := [("loop.example/g00447/impl.kindHas", laid_loop_example_g00447_impl_kindHas)] }
def FnExactReadJournalSaid : Prop := fnExactReadJournalRow.holds Tryd.pinned (OpenSpec.ofChange fnExactReadJournalSpec)

/-- ITS FALSE NEIGHBOUR: 'it returns false'. Refute it at one input. -/
def fnExactReadJournalWrong : ChangeSpec := { name := "fnExactReadJournal", vars := ["loop.example/g00447/impl.kindHas"], fn := fun _ => fun
  | [d, g1] => { results := [.lit (.bool false)], args := [d], vars := [g1] }
  | _ => none }
def FnExactReadJournalWrongFalsely : Prop := fnExactReadJournalRow.holds Tryd.pinned (OpenSpec.ofChange fnExactReadJournalWrong)

/- THE SECOND FORM. 'bulk': how many values and letters a reading holds, each counted each time it is reached (what is shared counts as often as it is met; a slice's spare places count too). A statement '..UptoSaid' is the law's where the arguments, and the package variables that the reading takes, are together of bulk at most 1048576: NARROWER than '..Said'. Prove '..Said' where nothing that the law and all that it calls make is longer than what came in: it says more and counts as full. Else prove '..UptoSaid'. A law counts once. -/
mutual
def uptoBulk {H : Type} : DataW H → Nat
  | .lit (.string bytes) => bytes.length + 1
  | .lit _ => 1
  | .nil => 1
  | .ptr d => uptoBulk d + 1
  | .slice elems spare => uptoBulkAll elems + uptoBulkAll spare + 1
  | .agg parts => uptoBulkAll parts + 1
  | .iface _ d => uptoBulk d + 1
  | .map entries => uptoBulkEntries entries + 1
  | .held _ => 1
def uptoBulkAll {H : Type} : List (DataW H) → Nat
  | [] => 0
  | d :: r => uptoBulk d + uptoBulkAll r
def uptoBulkEntries {H : Type} : List (Lit × DataW H) → Nat
  | [] => 0
  | x :: r => uptoBulkEntry x + uptoBulkEntries r
def uptoBulkEntry {H : Type} : Lit × DataW H → Nat
  | (.string bytes, d) => bytes.length + uptoBulk d + 1
  | (_, d) => uptoBulk d + 1
 end
def uptoSmall : (H : Type) → List (DataW H) → Bool := fun _ ds => decide (uptoBulkAll ds ≤ 1048576)
def OpenSpec.upto (s : _root_.Go.ChangeSpec) : _root_.Go.OpenSpec := { _root_.Go.OpenSpec.ofChange s with cond := some uptoSmall }

/-- 'laws.FnExactOpFault', WHERE WHAT IT READS IS OF BULK AT MOST 1048576: true; the input reads as it did. -/
def fnExactOpFaultUptoRow : OpenClaim := { program := "ytlmbieclgkpofaadoor", sum := "34e5e059739610a80534feb21cfb4b0a470433166f75988114eff3d88069ac19", func := "loop.example/g00447/laws.FnExactOpFault", spec := "fnExactOpFault", unfollowed := true, recurses := true, named := ["loop.example/g00447/impl.kindHas"], apart := false, laid := [("loop.example/g00447/impl.kindHas", laid_loop_example_g00447_impl_kindHas)], narrowed := true }
def FnExactOpFaultUptoSaid : Prop := fnExactOpFaultUptoRow.holds Tryd.pinned (OpenSpec.upto fnExactOpFaultSpec)

/-- 'laws.FnExactPackOp', WHERE WHAT IT READS IS OF BULK AT MOST 1048576: true; the input reads as it did. -/
def fnExactPackOpUptoRow : OpenClaim := { program := "ytlmbieclgkpofaadoor", sum := "34e5e059739610a80534feb21cfb4b0a470433166f75988114eff3d88069ac19", func := "loop.example/g00447/laws.FnExactPackOp", spec := "fnExactPackOp", unfollowed := true, recurses := true, named := ["loop.example/g00447/impl.kindHas"], apart := false, laid := [("loop.example/g00447/impl.kindHas", laid_loop_example_g00447_impl_kindHas)], narrowed := true }
def FnExactPackOpUptoSaid : Prop := fnExactPackOpUptoRow.holds Tryd.pinned (OpenSpec.upto fnExactPackOpSpec)

/-- 'laws.FnExactReadOp', WHERE WHAT IT READS IS OF BULK AT MOST 1048576: true; the input reads as it did. -/
def fnExactReadOpUptoRow : OpenClaim := { program := "ytlmbieclgkpofaadoor", sum := "34e5e059739610a80534feb21cfb4b0a470433166f75988114eff3d88069ac19", func := "loop.example/g00447/laws.FnExactReadOp", spec := "fnExactReadOp", unfollowed := true, recurses := true, named := ["loop.example/g00447/impl.kindHas"], apart := false, laid := [("loop.example/g00447/impl.kindHas", laid_loop_example_g00447_impl_kindHas)], narrowed := true }
def FnExactReadOpUptoSaid : Prop := fnExactReadOpUptoRow.holds Tryd.pinned (OpenSpec.upto fnExactReadOpSpec)

/-- 'laws.FnExactPackOps', WHERE WHAT IT READS IS OF BULK AT MOST 1048576: true; the input reads as it did. -/
def fnExactPackOpsUptoRow : OpenClaim := { program := "ytlmbieclgkpofaadoor", sum := "34e5e059739610a80534feb21cfb4b0a470433166f75988114eff3d88069ac19", func := "loop.example/g00447/laws.FnExactPackOps", spec := "fnExactPackOps", unfollowed := true, recurses := true, named := ["loop.example/g00447/impl.kindHas"], apart := false, laid := [("loop.example/g00447/impl.kindHas", laid_loop_example_g00447_impl_kindHas)], narrowed := true }
def FnExactPackOpsUptoSaid : Prop := fnExactPackOpsUptoRow.holds Tryd.pinned (OpenSpec.upto fnExactPackOpsSpec)

/-- 'laws.FnExactReadJournal', WHERE WHAT IT READS IS OF BULK AT MOST 1048576: true; the input reads as it did. -/
def fnExactReadJournalUptoRow : OpenClaim := { program := "ytlmbieclgkpofaadoor", sum := "34e5e059739610a80534feb21cfb4b0a470433166f75988114eff3d88069ac19", func := "loop.example/g00447/laws.FnExactReadJournal", spec := "fnExactReadJournal", unfollowed := true, recurses := true, named := ["loop.example/g00447/impl.kindHas"], apart := false, laid := [("loop.example/g00447/impl.kindHas", laid_loop_example_g00447_impl_kindHas)], narrowed := true }
def FnExactReadJournalUptoSaid : Prop := fnExactReadJournalUptoRow.holds Tryd.pinned (OpenSpec.upto fnExactReadJournalSpec)

end Rows
end Go.Proofs.YtlmbieclgkpofaaDoor
