/-
  No cell of these rows narrows 'for every input' (looked for: loops, veiled, ifaces, maps, wideKeys, modest, calm, conditions, laid).
  DERIVED. THE GIVEN ROWS OF THIS SEAT. 5 by the template 'for every input the law returns true; each argument reads behind the call as it read before'; 0 by the template 'total and deterministic' (their statements: YtcpdkganbgfpcaaTotals.lean).
  GIVEN WITH THE SEED: the statements are not yours to turn. If you find one false, say at which input.
  Laid BY PROGRAM, IN A SANDBOX (cutbox-rows.mjs): the forced cells as the released guide's own fill.sh prints them over the translation 03ba4bda6e18130d… (all of the seat's roots in one cut). By AI agents, Wed Nov 11 2026. No macro, syntax, notation, axiom, sorry.
-/
import Derived.Test.YtcpdkganbgfpcaaChecked
import GoSem.Claim
import GoSem.ClaimJoined
import GoSem.ClaimMapViews
import Derived.JoinedTies
import Derived.KernelRfl
namespace Go.Proofs.Ytcpdkganbgfpcaa
/- THE CELL 'sum', in the pinned program and in every row, IS THE sha256 OF THE DUMP (.gsa) THAT YtcpdkganbgfpcaaProg.lean LOADS. Nothing in Lean hashes anything: it is a label: what it is worth is what the hold of that sum in a sandbox is worth. -/
noncomputable def Try.pinned : Pinned := { name := "ytcpdkganbgfpcaa", sum := "03ba4bda6e18130dd8dc87437b6abf46d84212015a0db3a7a69629a242d75962", checked := Try.checked }
namespace Rows
def none {H : Type} : Left H := { results := [], args := [] }

/-- 'laws.FnExpands': WHATEVER THE INPUT: true; the input reads as it did. -/
def fnExpandsSpec : ChangeSpec := { name := "fnExpands", fn := fun _ => fun
  | [d] => { results := [.lit (.bool true)], args := [d] }
  | _ => none }
def fnExpandsRow : OpenClaim := { program := "ytcpdkganbgfpcaa", sum := "03ba4bda6e18130dd8dc87437b6abf46d84212015a0db3a7a69629a242d75962", func := "loop.example/g00447/laws.FnExpands", spec := "fnExpands", apart := false }
def FnExpandsSaid : Prop := fnExpandsRow.holds Try.pinned (OpenSpec.ofChange fnExpandsSpec)

/-- ITS FALSE NEIGHBOUR: 'it returns false'. Refute it at one input. -/
def fnExpandsWrong : ChangeSpec := { name := "fnExpands", fn := fun _ => fun
  | [d] => { results := [.lit (.bool false)], args := [d] }
  | _ => none }
def FnExpandsWrongFalsely : Prop := fnExpandsRow.holds Try.pinned (OpenSpec.ofChange fnExpandsWrong)

/-- 'laws.FnExactRangesFault': WHATEVER THE INPUT: true; the input reads as it did. -/
def fnExactRangesFaultSpec : ChangeSpec := { name := "fnExactRangesFault", fn := fun _ => fun
  | [d] => { results := [.lit (.bool true)], args := [d] }
  | _ => none }
def fnExactRangesFaultRow : OpenClaim := { program := "ytcpdkganbgfpcaa", sum := "03ba4bda6e18130dd8dc87437b6abf46d84212015a0db3a7a69629a242d75962", func := "loop.example/g00447/laws.FnExactRangesFault", spec := "fnExactRangesFault", apart := false }
def FnExactRangesFaultSaid : Prop := fnExactRangesFaultRow.holds Try.pinned (OpenSpec.ofChange fnExactRangesFaultSpec)

/-- ITS FALSE NEIGHBOUR: 'it returns false'. Refute it at one input. -/
def fnExactRangesFaultWrong : ChangeSpec := { name := "fnExactRangesFault", fn := fun _ => fun
  | [d] => { results := [.lit (.bool false)], args := [d] }
  | _ => none }
def FnExactRangesFaultWrongFalsely : Prop := fnExactRangesFaultRow.holds Try.pinned (OpenSpec.ofChange fnExactRangesFaultWrong)

/-- 'laws.FnExactExpandSet': WHATEVER THE INPUT: true; the input reads as it did. -/
def fnExactExpandSetSpec : ChangeSpec := { name := "fnExactExpandSet", fn := fun _ => fun
  | [d1, d2] => { results := [.lit (.bool true)], args := [d1, d2] }
  | _ => none }
def fnExactExpandSetRow : OpenClaim := { program := "ytcpdkganbgfpcaa", sum := "03ba4bda6e18130dd8dc87437b6abf46d84212015a0db3a7a69629a242d75962", func := "loop.example/g00447/laws.FnExactExpandSet", spec := "fnExactExpandSet", apart := false }
def FnExactExpandSetSaid : Prop := fnExactExpandSetRow.holds Try.pinned (OpenSpec.ofChange fnExactExpandSetSpec)

/-- ITS FALSE NEIGHBOUR: 'it returns false'. Refute it at one input. -/
def fnExactExpandSetWrong : ChangeSpec := { name := "fnExactExpandSet", fn := fun _ => fun
  | [d1, d2] => { results := [.lit (.bool false)], args := [d1, d2] }
  | _ => none }
def FnExactExpandSetWrongFalsely : Prop := fnExactExpandSetRow.holds Try.pinned (OpenSpec.ofChange fnExactExpandSetWrong)

/-- 'laws.FnExactSetOf': WHATEVER THE INPUT: true; the input reads as it did. -/
def fnExactSetOfSpec : ChangeSpec := { name := "fnExactSetOf", fn := fun _ => fun
  | [d] => { results := [.lit (.bool true)], args := [d] }
  | _ => none }
def fnExactSetOfRow : OpenClaim := { program := "ytcpdkganbgfpcaa", sum := "03ba4bda6e18130dd8dc87437b6abf46d84212015a0db3a7a69629a242d75962", func := "loop.example/g00447/laws.FnExactSetOf", spec := "fnExactSetOf", apart := false }
def FnExactSetOfSaid : Prop := fnExactSetOfRow.holds Try.pinned (OpenSpec.ofChange fnExactSetOfSpec)

/-- ITS FALSE NEIGHBOUR: 'it returns false'. Refute it at one input. -/
def fnExactSetOfWrong : ChangeSpec := { name := "fnExactSetOf", fn := fun _ => fun
  | [d] => { results := [.lit (.bool false)], args := [d] }
  | _ => none }
def FnExactSetOfWrongFalsely : Prop := fnExactSetOfRow.holds Try.pinned (OpenSpec.ofChange fnExactSetOfWrong)

/-- 'laws.FnExactInSet': WHATEVER THE INPUT: true; the input reads as it did. -/
def fnExactInSetSpec : ChangeSpec := { name := "fnExactInSet", fn := fun _ => fun
  | [d1, d2, d3] => { results := [.lit (.bool true)], args := [d1, d2, d3] }
  | _ => none }
def fnExactInSetRow : OpenClaim := { program := "ytcpdkganbgfpcaa", sum := "03ba4bda6e18130dd8dc87437b6abf46d84212015a0db3a7a69629a242d75962", func := "loop.example/g00447/laws.FnExactInSet", spec := "fnExactInSet", apart := false }
def FnExactInSetSaid : Prop := fnExactInSetRow.holds Try.pinned (OpenSpec.ofChange fnExactInSetSpec)

/-- ITS FALSE NEIGHBOUR: 'it returns false'. Refute it at one input. -/
def fnExactInSetWrong : ChangeSpec := { name := "fnExactInSet", fn := fun _ => fun
  | [d1, d2, d3] => { results := [.lit (.bool false)], args := [d1, d2, d3] }
  | _ => none }
def FnExactInSetWrongFalsely : Prop := fnExactInSetRow.holds Try.pinned (OpenSpec.ofChange fnExactInSetWrong)

/- THE SECOND FORM. 'bulk': how many values and letters a reading holds, each counted each time it is reached (what is shared counts as often as it is met; a slice's spare places count too). A statement '..UptoSaid' is the law's where the arguments, and the package variables that the reading takes, are together of bulk at most 1048576: NARROWER than '..Said'. Prove '..Said' where nothing that the law and all that it calls make is longer than what came in: it says more and counts as full. Else prove '..UptoSaid'. A law counts once. -/
mutual
def uptoBulk {H : Type} : DataW H → Nat
  | .lit (.string bytes) => bytes.length + 1
  | .lit _ => 1
  | .nil => 1
  | .ptr d => uptoBulk d + 1
  | .slice elems spare => uptoBulkAll elems + uptoBulkAll spare + 1
  | .agg parts => uptoBulkAll parts + 1
  | .iface _ d => uptoBulk d + 1
  | .map entries => uptoBulkEntries entries + 1
  | .held _ => 1
def uptoBulkAll {H : Type} : List (DataW H) → Nat
  | [] => 0
  | d :: r => uptoBulk d + uptoBulkAll r
def uptoBulkEntries {H : Type} : List (Lit × DataW H) → Nat
  | [] => 0
  | x :: r => uptoBulkEntry x + uptoBulkEntries r
def uptoBulkEntry {H : Type} : Lit × DataW H → Nat
  | (.string bytes, d) => bytes.length + uptoBulk d + 1
  | (_, d) => uptoBulk d + 1
 end
def uptoSmall : (H : Type) → List (DataW H) → Bool := fun _ ds => decide (uptoBulkAll ds ≤ 1048576)
def OpenSpec.upto (s : _root_.Go.ChangeSpec) : _root_.Go.OpenSpec := { _root_.Go.OpenSpec.ofChange s with cond := some uptoSmall }

/-- 'laws.FnExpands', WHERE WHAT IT READS IS OF BULK AT MOST 1048576: true; the input reads as it did. -/
def fnExpandsUptoRow : OpenClaim := { program := "ytcpdkganbgfpcaa", sum := "03ba4bda6e18130dd8dc87437b6abf46d84212015a0db3a7a69629a242d75962", func := "loop.example/g00447/laws.FnExpands", spec := "fnExpands", apart := false, narrowed := true }
def FnExpandsUptoSaid : Prop := fnExpandsUptoRow.holds Try.pinned (OpenSpec.upto fnExpandsSpec)

/-- 'laws.FnExactRangesFault', WHERE WHAT IT READS IS OF BULK AT MOST 1048576: true; the input reads as it did. -/
def fnExactRangesFaultUptoRow : OpenClaim := { program := "ytcpdkganbgfpcaa", sum := "03ba4bda6e18130dd8dc87437b6abf46d84212015a0db3a7a69629a242d75962", func := "loop.example/g00447/laws.FnExactRangesFault", spec := "fnExactRangesFault", apart := false, narrowed := true }
def FnExactRangesFaultUptoSaid : Prop := fnExactRangesFaultUptoRow.holds Try.pinned (OpenSpec.upto fnExactRangesFaultSpec)

/-- 'laws.FnExactExpandSet', WHERE WHAT IT READS IS OF BULK AT MOST 1048576: true; the input reads as it did. -/
def fnExactExpandSetUptoRow : OpenClaim := { program := "ytcpdkganbgfpcaa", sum := "03ba4bda6e18130dd8dc87437b6abf46d84212015a0db3a7a69629a242d75962", func := "loop.example/g00447/laws.FnExactExpandSet", spec := "fnExactExpandSet", apart := false, narrowed := true }
def FnExactExpandSetUptoSaid : Prop := fnExactExpandSetUptoRow.holds Try.pinned (OpenSpec.upto fnExactExpandSetSpec)

/-- 'laws.FnExactSetOf', WHERE WHAT IT READS IS OF BULK AT MOST 1048576: true; the input reads as it did. -/
def fnExactSetOfUptoRow : OpenClaim := { program := "ytcpdkganbgfpcaa", sum := "03ba4bda6e18130dd8dc87437b6abf46d84212015a0db3a7a69629a242d75962", func := "loop.example/g00447/laws.FnExactSetOf", spec := "fnExactSetOf", apart := false, narrowed := true }
def FnExactSetOfUptoSaid : Prop := fnExactSetOfUptoRow.holds Try.pinned (OpenSpec.upto fnExactSetOfSpec)

/-- 'laws.FnExactInSet', WHERE WHAT IT READS IS OF BULK AT MOST 1048576: true; the input reads as it did. -/
def fnExactInSetUptoRow : OpenClaim := { program := "ytcpdkganbgfpcaa", sum := "03ba4bda6e18130dd8dc87437b6abf46d84212015a0db3a7a69629a242d75962", func := "loop.example/g00447/laws.FnExactInSet", spec := "fnExactInSet", apart := false, narrowed := true }
def FnExactInSetUptoSaid : Prop := fnExactInSetUptoRow.holds Try.pinned (OpenSpec.upto fnExactInSetSpec)

end Rows
end Go.Proofs.Ytcpdkganbgfpcaa
