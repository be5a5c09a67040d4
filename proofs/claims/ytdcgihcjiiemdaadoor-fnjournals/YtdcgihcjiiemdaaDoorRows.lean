/-
  NARROWER THAN 'FOR EVERY INPUT', by the rows' own cells (each row's printed sentence says how): FnReads: laid · FnJournals: laid.
  DERIVED. THE GIVEN ROWS OF THIS SEAT. 2 by the template 'for every input the law returns true; each argument reads behind the call as it read before'; 0 by the template 'total and deterministic' (their statements: YtdcgihcjiiemdaaDoorTotals.lean).
  GIVEN WITH THE SEED: the statements are not yours to turn. If you find one false, say at which input.
  Laid BY PROGRAM, IN A SANDBOX (cutbox-rows.mjs): the forced cells as the released guide's own fill.sh prints them over the translation cf3faffa5cd93564… (all of the seat's roots in one cut). By AI agents, Wed Nov 11 2026. No macro, syntax, notation, axiom, sorry.
-/
import Derived.Test.YtdcgihcjiiemdaaDoorChecked
import GoSem.Claim
import GoSem.ClaimJoined
import GoSem.ClaimMapViews
import Derived.JoinedTies
import Derived.KernelRfl
namespace Go.Proofs.YtdcgihcjiiemdaaDoor
/- THE CELL 'sum', in the pinned program and in every row, IS THE sha256 OF THE DUMP (.gsa) THAT YtdcgihcjiiemdaaDoorProg.lean LOADS. Nothing in Lean hashes anything: it is a label: what it is worth is what the hold of that sum in a sandbox is worth. -/
noncomputable def Tryd.pinned : Pinned := { name := "ytdcgihcjiiemdaadoor", sum := "cf3faffa5cd9356438e2a5553323761618f8967eea3b3e85c8a655c852b36e6b", checked := Tryd.checked }
namespace Rows
def none {H : Type} : Left H := { results := [], args := [] }

/- WHAT THE LISTED PACKAGE-LEVEL VARIABLES READ AS WHEN THE CALL BEGINS. Each datum BY PROGRAM (the guide's laid-datum.mjs) off the statement by which the dump's own 'gosem.cut.vars' lays the variable. In a bare row this is a premise. The card (YtdcgihcjiiemdaaDoorCards.lean) ties it to the program's text. -/
def laid_loop_example_g00447_impl_kindHas {H : Type} : DataW H := .agg [.lit (.int .i64 0), .lit (.int .i64 0), .lit (.int .i64 0), .lit (.int .i64 56), .lit (.int .i64 14), .lit (.int .i64 3), .lit (.int .i64 3), .lit (.int .i64 0)]

/-- 'laws.FnReads': WHATEVER THE INPUT: true; the input reads as it did. -/
def fnReadsSpec : ChangeSpec := { name := "fnReads", vars := ["loop.example/g00447/impl.kindHas"], fn := fun _ => fun
  | [d, g1] => { results := [.lit (.bool true)], args := [d], vars := [g1] }
  | _ => none }
def fnReadsRow : OpenClaim := { program := "ytdcgihcjiiemdaadoor", sum := "cf3faffa5cd9356438e2a5553323761618f8967eea3b3e85c8a655c852b36e6b", func := "loop.example/g00447/laws.FnReads", spec := "fnReads", unfollowed := true, recurses := true, named := ["loop.example/g00447/impl.kindHas"], apart := false, laid := [("loop.example/g00447/impl.kindHas", laid_loop_example_g00447_impl_kindHas)] }
def FnReadsSaid : Prop := fnReadsRow.holds Tryd.pinned (OpenSpec.ofChange fnReadsSpec)

/-- ITS FALSE NEIGHBOUR: 'it returns false'. Refute it at one input. -/
def fnReadsWrong : ChangeSpec := { name := "fnReads", vars := ["loop.example/g00447/impl.kindHas"], fn := fun _ => fun
  | [d, g1] => { results := [.lit (.bool false)], args := [d], vars := [g1] }
  | _ => none }
def FnReadsWrongFalsely : Prop := fnReadsRow.holds Tryd.pinned (OpenSpec.ofChange fnReadsWrong)

/-- 'laws.FnJournals': WHATEVER THE INPUT: true; the input reads as it did. -/
def fnJournalsSpec : ChangeSpec := { name := "fnJournals", vars := ["loop.example/g00447/impl.kindHas"], fn := fun _ => fun
  | [d, g1] => { results := [.lit (.bool true)], args := [d], vars := [g1] }
  | _ => none }
def fnJournalsRow : OpenClaim := { program := "ytdcgihcjiiemdaadoor", sum := "cf3faffa5cd9356438e2a5553323761618f8967eea3b3e85c8a655c852b36e6b", func := "loop.example/g00447/laws.FnJournals", spec := "fnJournals", unfollowed := true, recurses := true, named := ["loop.example/g00447/impl.kindHas"], apart := false, laid := [("loop.example/g00447/impl.kindHas", laid_loop_example_g00447_impl_kindHas)] }
def FnJournalsSaid : Prop := fnJournalsRow.holds Tryd.pinned (OpenSpec.ofChange fnJournalsSpec)

/-- ITS FALSE NEIGHBOUR: 'it returns false'. Refute it at one input. -/
def fnJournalsWrong : ChangeSpec := { name := "fnJournals", vars := ["loop.example/g00447/impl.kindHas"], fn := fun _ => fun
  | [d, g1] => { results := [.lit (.bool false)], args := [d], vars := [g1] }
  | _ => none }
def FnJournalsWrongFalsely : Prop := fnJournalsRow.holds Tryd.pinned (OpenSpec.ofChange fnJournalsWrong)

/- THE SECOND FORM. 'bulk': how many values and letters a reading holds, each counted each time it is reached (what is shared counts as often as it is met; a slice's spare places count too). A statement '..UptoSaid' is the law's where the arguments, and the package variables that the reading takes, are together of bulk at most 1048576: NARROWER than '..Said'. Prove '..Said' where nothing that the law and all that it calls make is longer than what came in: it says more and counts as full. Else prove '..UptoSaid'. A law counts once. -/
mutual
def uptoBulk {H : Type} : DataW H → Nat
  | .lit (.string bytes) => bytes.length + 1
  | .lit _ => 1
  | .nil => 1
  | .ptr d => uptoBulk d + 1
  | .slice elems spare => uptoBulkAll elems + uptoBulkAll spare + 1
  | .agg parts => uptoBulkAll parts + 1
  | .iface _ d => uptoBulk d + 1
  | .map entries => uptoBulkEntries entries + 1
  | .held _ => 1
def uptoBulkAll {H : Type} : List (DataW H) → Nat
  | [] => 0
  | d :: r => uptoBulk d + uptoBulkAll r
def uptoBulkEntries {H : Type} : List (Lit × DataW H) → Nat
  | [] => 0
  | x :: r => uptoBulkEntry x + uptoBulkEntries r
def uptoBulkEntry {H : Type} : Lit × DataW H → Nat
  | (.string bytes, d) => bytes.length + uptoBulk d + 1
  | (_, d) => uptoBulk d + 1
 end
def uptoSmall : (H : Type) → List (DataW H) → Bool := fun _ ds => decide (uptoBulkAll ds ≤ 1048576)
def OpenSpec.upto (s : _root_.Go.ChangeSpec) : _root_.Go.OpenSpec := { _root_.Go.OpenSpec.ofChange s with cond := some uptoSmall }

/-- 'laws.FnReads', WHERE WHAT IT READS IS OF BULK AT MOST 1048576: true; the input reads as it did. -/
def fnReadsUptoRow : OpenClaim := { program := "ytdcgihcjiiemdaadoor", sum := "cf3faffa5cd9356438e2a5553323761618f8967eea3b3e85c8a655c852b36e6b", func := "loop.example/g00447/laws.FnReads", spec := "fnReads", unfollowed := true, recurses := true, named := ["loop.example/g00447/impl.kindHas"], apart := false, laid := [("loop.example/g00447/impl.kindHas", laid_loop_example_g00447_impl_kindHas)], narrowed := true }
def FnReadsUptoSaid : Prop := fnReadsUptoRow.holds Tryd.pinned (OpenSpec.upto fnReadsSpec)

/-- 'laws.FnJournals', WHERE WHAT IT READS IS OF BULK AT MOST 1048576: true; the input reads as it did. -/
def fnJournalsUptoRow : OpenClaim := { program := "ytdcgihcjiiemdaadoor", sum := "cf3faffa5cd9356438e2a5553323761618f8967eea3b3e85c8a655c852b36e6b", func := "loop.example/g00447/laws.FnJournals", spec := "fnJournals", unfollowed := true, recurses := true, named := ["loop.example/g00447/impl.kindHas"], apart := false, laid := [("loop.example/g00447/impl.kindHas", laid_loop_example_g00447_impl_kindHas)], narrowed := true }
def FnJournalsUptoSaid : Prop := fnJournalsUptoRow.holds Tryd.pinned (OpenSpec.upto fnJournalsSpec)

end Rows
end Go.Proofs.YtdcgihcjiiemdaaDoor
