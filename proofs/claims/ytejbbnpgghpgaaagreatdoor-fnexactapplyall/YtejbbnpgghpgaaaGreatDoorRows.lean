/-
  NARROWER THAN 'FOR EVERY INPUT', by the rows' own cells (each row's printed sentence says how): FnExactApplyOp: laid · FnExactApplyAll: laid · FnExactVaultFault: laid · FnExactDoVault: laid · FnExactWriteVault: laid · FnExactFlushVault: laid · FnExactCrashVault: laid · FnExactRecoverVault: laid · FnExactTidyVault: laid.
  DERIVED. THE GIVEN ROWS OF THIS SEAT. 9 by the template 'for every input the law returns true; each argument reads behind the call as it read before'; 0 by the template 'total and deterministic' (their statements: YtejbbnpgghpgaaaGreatDoorTotals.lean).
  GIVEN WITH THE SEED: the statements are not yours to turn. If you find one false, say at which input.
  Laid BY PROGRAM, IN A SANDBOX (cutbox-rows.mjs): the forced cells as the released guide's own fill.sh prints them over the translation 1e95503929c21c20… (all of the seat's roots in one cut). By AI agents, Wed Nov 11 2026. No macro, syntax, notation, axiom, sorry.
-/
import Derived.Test.YtejbbnpgghpgaaaGreatDoorChecked
import GoSem.Claim
import GoSem.ClaimJoined
import GoSem.ClaimMapViews
import Derived.JoinedTies
import Derived.KernelRfl
namespace Go.Proofs.YtejbbnpgghpgaaaGreatDoor
/- THE CELL 'sum', in the pinned program and in every row, IS THE sha256 OF THE DUMP (.gsa) THAT YtejbbnpgghpgaaaGreatDoorProg.lean LOADS. Nothing in Lean hashes anything: it is a label: what it is worth is what the hold of that sum in a sandbox is worth. -/
noncomputable def Tryz.pinned : Pinned := { name := "ytejbbnpgghpgaaagreatdoor", sum := "1e95503929c21c205f3a3f3102cc05f80f6cde7aec5bd342537900373bff0d70", checked := Tryz.checked }
namespace Rows
def none {H : Type} : Left H := { results := [], args := [] }

/- WHAT THE LISTED PACKAGE-LEVEL VARIABLES READ AS WHEN THE CALL BEGINS. Each datum BY PROGRAM (the guide's laid-datum.mjs) off the statement by which the dump's own 'gosem.cut.vars' lays the variable. In a bare row this is a premise. The card (YtejbbnpgghpgaaaGreatDoorCards.lean) ties it to the program's text. -/
def laid_loop_example_g00447_impl_kindHas {H : Type} : DataW H := .agg [.lit (.int .i64 0), .lit (.int .i64 0), .lit (.int .i64 0), .lit (.int .i64 56), .lit (.int .i64 14), .lit (.int .i64 3), .lit (.int .i64 3), .lit (.int .i64 0)]

/-- 'laws.FnExactApplyOp': WHATEVER THE INPUT: true; the input reads as it did. -/
def fnExactApplyOpSpec : ChangeSpec := { name := "fnExactApplyOp", vars := ["loop.example/g00447/impl.kindHas"], fn := fun _ => fun
  | [d1, d2, g1] => { results := [.lit (.bool true)], args := [d1, d2], vars := [g1] }
  | _ => none }
def fnExactApplyOpRow : OpenClaim := { program := "ytejbbnpgghpgaaagreatdoor", sum := "1e95503929c21c205f3a3f3102cc05f80f6cde7aec5bd342537900373bff0d70", func := "loop.example/g00447/laws.FnExactApplyOp", spec := "fnExactApplyOp", unfollowed := true, recurses := true, named := ["loop.example/g00447/impl.kindHas"], apart := false, laid := [("loop.example/g00447/impl.kindHas", laid_loop_example_g00447_impl_kindHas)] }
def FnExactApplyOpSaid : Prop := fnExactApplyOpRow.holds Tryz.pinned (OpenSpec.ofChange fnExactApplyOpSpec)

/-- ITS FALSE NEIGHBOUR: 'it returns false'. Refute it at one input. -/
def fnExactApplyOpWrong : ChangeSpec := { name := "fnExactApplyOp", vars := ["loop.example/g00447/impl.kindHas"], fn := fun _ => fun
  | [d1, d2, g1] => { results := [.lit (.bool false)], args := [d1, d2], vars := [g1] }
  | _ => none }
def FnExactApplyOpWrongFalsely : Prop := fnExactApplyOpRow.holds Tryz.pinned (OpenSpec.ofChange fnExactApplyOpWrong)

/-- 'laws.FnExactApplyAll': WHATEVER THE INPUT: true; the input reads as it did. -/
def fnExactApplyAllSpec : ChangeSpec := { name := "fnExactApplyAll", vars := ["loop.example/g00447/impl.kindHas"], fn := fun _ => fun
  | [d1, d2, g1] => { results := [.lit (.bool true)], args := [d1, d2], vars := [g1] }
  | _ => none }
def fnExactApplyAllRow : OpenClaim := { program := "ytejbbnpgghpgaaagreatdoor", sum := "1e95503929c21c205f3a3f3102cc05f80f6cde7aec5bd342537900373bff0d70", func := "loop.example/g00447/laws.FnExactApplyAll", spec := "fnExactApplyAll", unfollowed := true, recurses := true, named := ["loop.example/g00447/impl.kindHas"], apart := false, laid := [("loop.example/g00447/impl.kindHas", laid_loop_example_g00447_impl_kindHas)] }
def FnExactApplyAllSaid : Prop := fnExactApplyAllRow.holds Tryz.pinned (OpenSpec.ofChange fnExactApplyAllSpec)

/-- ITS FALSE NEIGHBOUR: 'it returns false'. Refute it at one input. -/
def fnExactApplyAllWrong : ChangeSpec := { name := "fnExactApplyAll", vars := ["loop.example/g00447/impl.kindHas"], fn := fun _ => fun
  | [d1, d2, g1] => { results := [.lit (.bool false)], args := [d1, d2], vars := [g1] }
  | _ => none }
def FnExactApplyAllWrongFalsely : Prop := fnExactApplyAllRow.holds Tryz.pinned (OpenSpec.ofChange fnExactApplyAllWrong)

/-- 'laws.FnExactVaultFault': WHATEVER THE INPUT: true; the input reads as it did. -/
def fnExactVaultFaultSpec : ChangeSpec := { name := "fnExactVaultFault", vars := ["loop.example/g00447/impl.kindHas"], fn := fun _ => fun
  | [d, g1] => { results := [.lit (.bool true)], args := [d], vars := [g1] }
  | _ => none }
def fnExactVaultFaultRow : OpenClaim := { program := "ytejbbnpgghpgaaagreatdoor", sum := "1e95503929c21c205f3a3f3102cc05f80f6cde7aec5bd342537900373bff0d70", func := "loop.example/g00447/laws.FnExactVaultFault", spec := "fnExactVaultFault", unfollowed := true, recurses := true, named := ["loop.example/g00447/impl.kindHas"], apart := false, laid := [("loop.example/g00447/impl.kindHas", laid_loop_example_g00447_impl_kindHas)] }
def FnExactVaultFaultSaid : Prop := fnExactVaultFaultRow.holds Tryz.pinned (OpenSpec.ofChange fnExactVaultFaultSpec)

/-- ITS FALSE NEIGHBOUR: 'it returns false'. Refute it at one input. -/
def fnExactVaultFaultWrong : ChangeSpec := { name := "fnExactVaultFault", vars := ["loop.example/g00447/impl.kindHas"], fn := fun _ => fun
  | [d, g1] => { results := [.lit (.bool false)], args := [d], vars := [g1] }
  | _ => none }
def FnExactVaultFaultWrongFalsely : Prop := fnExactVaultFaultRow.holds Tryz.pinned (OpenSpec.ofChange fnExactVaultFaultWrong)

/-- 'laws.FnExactDoVault': WHATEVER THE INPUT: true; the input reads as it did. -/
def fnExactDoVaultSpec : ChangeSpec := { name := "fnExactDoVault", vars := ["loop.example/g00447/impl.kindHas"], fn := fun _ => fun
  | [d1, d2, g1] => { results := [.lit (.bool true)], args := [d1, d2], vars := [g1] }
  | _ => none }
def fnExactDoVaultRow : OpenClaim := { program := "ytejbbnpgghpgaaagreatdoor", sum := "1e95503929c21c205f3a3f3102cc05f80f6cde7aec5bd342537900373bff0d70", func := "loop.example/g00447/laws.FnExactDoVault", spec := "fnExactDoVault", unfollowed := true, recurses := true, named := ["loop.example/g00447/impl.kindHas"], apart := false, laid := [("loop.example/g00447/impl.kindHas", laid_loop_example_g00447_impl_kindHas)] }
def FnExactDoVaultSaid : Prop := fnExactDoVaultRow.holds Tryz.pinned (OpenSpec.ofChange fnExactDoVaultSpec)

/-- ITS FALSE NEIGHBOUR: 'it returns false'. Refute it at one input. -/
def fnExactDoVaultWrong : ChangeSpec := { name := "fnExactDoVault", vars := ["loop.example/g00447/impl.kindHas"], fn := fun _ => fun
  | [d1, d2, g1] => { results := [.lit (.bool false)], args := [d1, d2], vars := [g1] }
  | _ => none }
def FnExactDoVaultWrongFalsely : Prop := fnExactDoVaultRow.holds Tryz.pinned (OpenSpec.ofChange fnExactDoVaultWrong)

/-- 'laws.FnExactWriteVault': WHATEVER THE INPUT: true; the input reads as it did. -/
def fnExactWriteVaultSpec : ChangeSpec := { name := "fnExactWriteVault", vars := ["loop.example/g00447/impl.kindHas"], fn := fun _ => fun
  | [d1, d2, g1] => { results := [.lit (.bool true)], args := [d1, d2], vars := [g1] }
  | _ => none }
def fnExactWriteVaultRow : OpenClaim := { program := "ytejbbnpgghpgaaagreatdoor", sum := "1e95503929c21c205f3a3f3102cc05f80f6cde7aec5bd342537900373bff0d70", func := "loop.example/g00447/laws.FnExactWriteVault", spec := "fnExactWriteVault", unfollowed := true, recurses := true, named := ["loop.example/g00447/impl.kindHas"], apart := false, laid := [("loop.example/g00447/impl.kindHas", laid_loop_example_g00447_impl_kindHas)] }
def FnExactWriteVaultSaid : Prop := fnExactWriteVaultRow.holds Tryz.pinned (OpenSpec.ofChange fnExactWriteVaultSpec)

/-- ITS FALSE NEIGHBOUR: 'it returns false'. Refute it at one input. -/
def fnExactWriteVaultWrong : ChangeSpec := { name := "fnExactWriteVault", vars := ["loop.example/g00447/impl.kindHas"], fn := fun _ => fun
  | [d1, d2, g1] => { results := [.lit (.bool false)], args := [d1, d2], vars := [g1] }
  | _ => none }
def FnExactWriteVaultWrongFalsely : Prop := fnExactWriteVaultRow.holds Tryz.pinned (OpenSpec.ofChange fnExactWriteVaultWrong)

/-- 'laws.FnExactFlushVault': WHATEVER THE INPUT: true; the input reads as it did. -/
def fnExactFlushVaultSpec : ChangeSpec := { name := "fnExactFlushVault", vars := ["loop.example/g00447/impl.kindHas"], fn := fun _ => fun
  | [d, g1] => { results := [.lit (.bool true)], args := [d], vars := [g1] }
  | _ => none }
def fnExactFlushVaultRow : OpenClaim := { program := "ytejbbnpgghpgaaagreatdoor", sum := "1e95503929c21c205f3a3f3102cc05f80f6cde7aec5bd342537900373bff0d70", func := "loop.example/g00447/laws.FnExactFlushVault", spec := "fnExactFlushVault", unfollowed := true, recurses := true, named := ["loop.example/g00447/impl.kindHas"], apart := false, laid := [("loop.example/g00447/impl.kindHas", laid_loop_example_g00447_impl_kindHas)] }
def FnExactFlushVaultSaid : Prop := fnExactFlushVaultRow.holds Tryz.pinned (OpenSpec.ofChange fnExactFlushVaultSpec)

/-- ITS FALSE NEIGHBOUR: 'it returns false'. Refute it at one input. -/
def fnExactFlushVaultWrong : ChangeSpec := { name := "fnExactFlushVault", vars := ["loop.example/g00447/impl.kindHas"], fn := fun _ => fun
  | [d, g1] => { results := [.lit (.bool false)], args := [d], vars := [g1] }
  | _ => none }
def FnExactFlushVaultWrongFalsely : Prop := fnExactFlushVaultRow.holds Tryz.pinned (OpenSpec.ofChange fnExactFlushVaultWrong)

/-- 'laws.FnExactCrashVault': WHATEVER THE INPUT: true; the input reads as it did. -/
def fnExactCrashVaultSpec : ChangeSpec := { name := "fnExactCrashVault", vars := ["loop.example/g00447/impl.kindHas"], fn := fun _ => fun
  | [d1, d2, g1] => { results := [.lit (.bool true)], args := [d1, d2], vars := [g1] }
  | _ => none }
def fnExactCrashVaultRow : OpenClaim := { program := "ytejbbnpgghpgaaagreatdoor", sum := "1e95503929c21c205f3a3f3102cc05f80f6cde7aec5bd342537900373bff0d70", func := "loop.example/g00447/laws.FnExactCrashVault", spec := "fnExactCrashVault", unfollowed := true, recurses := true, named := ["loop.example/g00447/impl.kindHas"], apart := false, laid := [("loop.example/g00447/impl.kindHas", laid_loop_example_g00447_impl_kindHas)] }
def FnExactCrashVaultSaid : Prop := fnExactCrashVaultRow.holds Tryz.pinned (OpenSpec.ofChange fnExactCrashVaultSpec)

/-- ITS FALSE NEIGHBOUR: 'it returns false'. Refute it at one input. -/
def fnExactCrashVaultWrong : ChangeSpec := { name := "fnExactCrashVault", vars := ["loop.example/g00447/impl.kindHas"], fn := fun _ => fun
  | [d1, d2, g1] => { results := [.lit (.bool false)], args := [d1, d2], vars := [g1] }
  | _ => none }
def FnExactCrashVaultWrongFalsely : Prop := fnExactCrashVaultRow.holds Tryz.pinned (OpenSpec.ofChange fnExactCrashVaultWrong)

/-- 'laws.FnExactRecoverVault': WHATEVER THE INPUT: true; the input reads as it did. -/
def fnExactRecoverVaultSpec : ChangeSpec := { name := "fnExactRecoverVault", vars := ["loop.example/g00447/impl.kindHas"], fn := fun _ => fun
  | [d, g1] => { results := [.lit (.bool true)], args := [d], vars := [g1] }
  | _ => none }
def fnExactRecoverVaultRow : OpenClaim := { program := "ytejbbnpgghpgaaagreatdoor", sum := "1e95503929c21c205f3a3f3102cc05f80f6cde7aec5bd342537900373bff0d70", func := "loop.example/g00447/laws.FnExactRecoverVault", spec := "fnExactRecoverVault", unfollowed := true, recurses := true, named := ["loop.example/g00447/impl.kindHas"], apart := false, laid := [("loop.example/g00447/impl.kindHas", laid_loop_example_g00447_impl_kindHas)] }
def FnExactRecoverVaultSaid : Prop := fnExactRecoverVaultRow.holds Tryz.pinned (OpenSpec.ofChange fnExactRecoverVaultSpec)

/-- ITS FALSE NEIGHBOUR: 'it returns false'. Refute it at one input. -/
def fnExactRecoverVaultWrong : ChangeSpec := { name := "fnExactRecoverVault", vars := ["loop.example/g00447/impl.kindHas"], fn := fun _ => fun
  | [d, g1] => { results := [.lit (.bool false)], args := [d], vars := [g1] }
  | _ => none }
def FnExactRecoverVaultWrongFalsely : Prop := fnExactRecoverVaultRow.holds Tryz.pinned (OpenSpec.ofChange fnExactRecoverVaultWrong)

/-- 'laws.FnExactTidyVault': WHATEVER THE INPUT: true; the input reads as it did. -/
def fnExactTidyVaultSpec : ChangeSpec := { name := "fnExactTidyVault", vars := ["loop.example/g00447/impl.kindHas"], fn := fun _ => fun
  | [d, g1] => { results := [.lit (.bool true)], args := [d], vars := [g1] }
  | _ => none }
def fnExactTidyVaultRow : OpenClaim := { program := "ytejbbnpgghpgaaagreatdoor", sum := "1e95503929c21c205f3a3f3102cc05f80f6cde7aec5bd342537900373bff0d70", func := "loop.example/g00447/laws.FnExactTidyVault", spec := "fnExactTidyVault", unfollowed := true, recurses := true, named := ["loop.example/g00447/impl.kindHas"], apart := false, laid := [("loop.example/g00447/impl.kindHas", laid_loop_example_g00447_impl_kindHas)] }
def FnExactTidyVaultSaid : Prop := fnExactTidyVaultRow.holds Tryz.pinned (OpenSpec.ofChange fnExactTidyVaultSpec)

/-- ITS FALSE NEIGHBOUR: 'it returns false'. Refute it at one input. -/
def fnExactTidyVaultWrong : ChangeSpec := { name := "fnExactTidyVault", vars := ["loop.example/g00447/impl.kindHas"], fn := fun _ => fun
  | [d, g1] => { results := [.lit (.bool false)], args := [d], vars := [g1] }
  | _ => none }
def FnExactTidyVaultWrongFalsely : Prop := fnExactTidyVaultRow.holds Tryz.pinned (OpenSpec.ofChange fnExactTidyVaultWrong)

/- THE SECOND FORM. 'bulk': how many values and letters a reading holds, each counted each time it is reached (what is shared counts as often as it is met; a slice's spare places count too). A statement '..UptoSaid' is the law's where the arguments, and the package variables that the reading takes, are together of bulk at most 1048576: NARROWER than '..Said'. Prove '..Said' where nothing that the law and all that it calls make is longer than what came in: it says more and counts as full. Else prove '..UptoSaid'. A law counts once. -/
mutual
def uptoBulk {H : Type} : DataW H → Nat
  | .lit (.string bytes) => bytes.length + 1
  | .lit _ => 1
  | .nil => 1
  | .ptr d => uptoBulk d + 1
  | .slice elems spare => uptoBulkAll elems + uptoBulkAll spare + 1
  | .agg parts => uptoBulkAll parts + 1
  | .iface _ d => uptoBulk d + 1
  | .map entries => uptoBulkEntries entries + 1
  | .held _ => 1
def uptoBulkAll {H : Type} : List (DataW H) → Nat
  | [] => 0
  | d :: r => uptoBulk d + uptoBulkAll r
def uptoBulkEntries {H : Type} : List (Lit × DataW H) → Nat
  | [] => 0
  | x :: r => uptoBulkEntry x + uptoBulkEntries r
def uptoBulkEntry {H : Type} : Lit × DataW H → Nat
  | (.string bytes, d) => bytes.length + uptoBulk d + 1
  | (_, d) => uptoBulk d + 1
 end
def uptoSmall : (H : Type) → List (DataW H) → Bool := fun _ ds => decide (uptoBulkAll ds ≤ 1048576)
def OpenSpec.upto (s : _root_.Go.ChangeSpec) : _root_.Go.OpenSpec := { _root_.Go.OpenSpec.ofChange s with cond := some uptoSmall }

/-- 'laws.FnExactApplyOp', WHERE WHAT IT READS IS OF BULK AT MOST 1048576: true; the input reads as it did. -/
def fnExactApplyOpUptoRow : OpenClaim := { program := "ytejbbnpgghpgaaagreatdoor", sum := "1e95503929c21c205f3a3f3102cc05f80f6cde7aec5bd342537900373bff0d70", func := "loop.example/g00447/laws.FnExactApplyOp", spec := "fnExactApplyOp", unfollowed := true, recurses := true, named := ["loop.example/g00447/impl.kindHas"], apart := false, laid := [("loop.example/g00447/impl.kindHas", laid_loop_example_g00447_impl_kindHas)], narrowed := true }
def FnExactApplyOpUptoSaid : Prop := fnExactApplyOpUptoRow.holds Tryz.pinned (OpenSpec.upto fnExactApplyOpSpec)

/-- 'laws.FnExactApplyAll', WHERE WHAT IT READS IS OF BULK AT MOST 1048576: true; the input reads as it did. -/
def fnExactApplyAllUptoRow : OpenClaim := { program := "ytejbbnpgghpgaaagreatdoor", sum := "1e95503929c21c205f3a3f3102cc05f80f6cde7aec5bd342537900373bff0d70", func := "loop.example/g00447/laws.FnExactApplyAll", spec := "fnExactApplyAll", unfollowed := true, recurses := true, named := ["loop.example/g00447/impl.kindHas"], apart := false, laid := [("loop.example/g00447/impl.kindHas", laid_loop_example_g00447_impl_kindHas)], narrowed := true }
def FnExactApplyAllUptoSaid : Prop := fnExactApplyAllUptoRow.holds Tryz.pinned (OpenSpec.upto fnExactApplyAllSpec)

/-- 'laws.FnExactVaultFault', WHERE WHAT IT READS IS OF BULK AT MOST 1048576: true; the input reads as it did. -/
def fnExactVaultFaultUptoRow : OpenClaim := { program := "ytejbbnpgghpgaaagreatdoor", sum := "1e95503929c21c205f3a3f3102cc05f80f6cde7aec5bd342537900373bff0d70", func := "loop.example/g00447/laws.FnExactVaultFault", spec := "fnExactVaultFault", unfollowed := true, recurses := true, named := ["loop.example/g00447/impl.kindHas"], apart := false, laid := [("loop.example/g00447/impl.kindHas", laid_loop_example_g00447_impl_kindHas)], narrowed := true }
def FnExactVaultFaultUptoSaid : Prop := fnExactVaultFaultUptoRow.holds Tryz.pinned (OpenSpec.upto fnExactVaultFaultSpec)

/-- 'laws.FnExactDoVault', WHERE WHAT IT READS IS OF BULK AT MOST 1048576: true; the input reads as it did. -/
def fnExactDoVaultUptoRow : OpenClaim := { program := "ytejbbnpgghpgaaagreatdoor", sum := "1e95503929c21c205f3a3f3102cc05f80f6cde7aec5bd342537900373bff0d70", func := "loop.example/g00447/laws.FnExactDoVault", spec := "fnExactDoVault", unfollowed := true, recurses := true, named := ["loop.example/g00447/impl.kindHas"], apart := false, laid := [("loop.example/g00447/impl.kindHas", laid_loop_example_g00447_impl_kindHas)], narrowed := true }
def FnExactDoVaultUptoSaid : Prop := fnExactDoVaultUptoRow.holds Tryz.pinned (OpenSpec.upto fnExactDoVaultSpec)

/-- 'laws.FnExactWriteVault', WHERE WHAT IT READS IS OF BULK AT MOST 1048576: true; the input reads as it did. -/
def fnExactWriteVaultUptoRow : OpenClaim := { program := "ytejbbnpgghpgaaagreatdoor", sum := "1e95503929c21c205f3a3f3102cc05f80f6cde7aec5bd342537900373bff0d70", func := "loop.example/g00447/laws.FnExactWriteVault", spec := "fnExactWriteVault", unfollowed := true, recurses := true, named := ["loop.example/g00447/impl.kindHas"], apart := false, laid := [("loop.example/g00447/impl.kindHas", laid_loop_example_g00447_impl_kindHas)], narrowed := true }
def FnExactWriteVaultUptoSaid : Prop := fnExactWriteVaultUptoRow.holds Tryz.pinned (OpenSpec.upto fnExactWriteVaultSpec)

/-- 'laws.FnExactFlushVault', WHERE WHAT IT READS IS OF BULK AT MOST 1048576: true; the input reads as it did. -/
def fnExactFlushVaultUptoRow : OpenClaim := { program := "ytejbbnpgghpgaaagreatdoor", sum := "1e95503929c21c205f3a3f3102cc05f80f6cde7aec5bd342537900373bff0d70", func := "loop.example/g00447/laws.FnExactFlushVault", spec := "fnExactFlushVault", unfollowed := true, recurses := true, named := ["loop.example/g00447/impl.kindHas"], apart := false, laid := [("loop.example/g00447/impl.kindHas", laid_loop_example_g00447_impl_kindHas)], narrowed := true }
def FnExactFlushVaultUptoSaid : Prop := fnExactFlushVaultUptoRow.holds Tryz.pinned (OpenSpec.upto fnExactFlushVaultSpec)

/-- 'laws.FnExactCrashVault', WHERE WHAT IT READS IS OF BULK AT MOST 1048576: true; the input reads as it did. -/
def fnExactCrashVaultUptoRow : OpenClaim := { program := "ytejbbnpgghpgaaagreatdoor", sum := "1e95503929c21c205f3a3f3102cc05f80f6cde7aec5bd342537900373bff0d70", func := "loop.example/g00447/laws.FnExactCrashVault", spec := "fnExactCrashVault", unfollowed := true, recurses := true, named := ["loop.example/g00447/impl.kindHas"], apart := false, laid := [("loop.example/g00447/impl.kindHas", laid_loop_example_g00447_impl_kindHas)], narrowed := true }
def FnExactCrashVaultUptoSaid : Prop := fnExactCrashVaultUptoRow.holds Tryz.pinned (OpenSpec.upto fnExactCrashVaultSpec)

/-- 'laws.FnExactRecoverVault', WHERE WHAT IT READS IS OF BULK AT MOST 1048576: true; the input reads as it did. -/
def fnExactRecoverVaultUptoRow : OpenClaim := { program := "ytejbbnpgghpgaaagreatdoor", sum := "1e95503929c21c205f3a3f3102cc05f80f6cde7aec5bd342537900373bff0d70", func := "loop.example/g00447/laws.FnExactRecoverVault", spec := "fnExactRecoverVault", unfollowed := true, recurses := true, named := ["loop.example/g00447/impl.kindHas"], apart := false, laid := [("loop.example/g00447/impl.kindHas", laid_loop_example_g00447_impl_kindHas)], narrowed := true }
def FnExactRecoverVaultUptoSaid : Prop := fnExactRecoverVaultUptoRow.holds Tryz.pinned (OpenSpec.upto fnExactRecoverVaultSpec)

/-- 'laws.FnExactTidyVault', WHERE WHAT IT READS IS OF BULK AT MOST 1048576: true; the input reads as it did. -/
def fnExactTidyVaultUptoRow : OpenClaim := { program := "ytejbbnpgghpgaaagreatdoor", sum := "1e95503929c21c205f3a3f3102cc05f80f6cde7aec5bd342537900373bff0d70", func := "loop.example/g00447/laws.FnExactTidyVault", spec := "fnExactTidyVault", unfollowed := true, recurses := true, named := ["loop.example/g00447/impl.kindHas"], apart := false, laid := [("loop.example/g00447/impl.kindHas", laid_loop_example_g00447_impl_kindHas)], narrowed := true }
def FnExactTidyVaultUptoSaid : Prop := fnExactTidyVaultUptoRow.holds Tryz.pinned (OpenSpec.upto fnExactTidyVaultSpec)

end Rows
end Go.Proofs.YtejbbnpgghpgaaaGreatDoor
