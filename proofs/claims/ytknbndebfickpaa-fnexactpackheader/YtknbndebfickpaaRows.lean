/-
  No cell of these rows narrows 'for every input' (looked for: loops, veiled, ifaces, maps, wideKeys, modest, calm, conditions, laid).
  DERIVED. THE GIVEN ROWS OF THIS SEAT. 5 by the template 'for every input the law returns true; each argument reads behind the call as it read before'; 0 by the template 'total and deterministic' (their statements: YtknbndebfickpaaTotals.lean).
  GIVEN WITH THE SEED: the statements are not yours to turn. If you find one false, say at which input.
  Laid BY PROGRAM, IN A SANDBOX (cutbox-rows.mjs): the forced cells as the released guide's own fill.sh prints them over the translation 33f38f76d5583b4a… (all of the seat's roots in one cut). By AI agents, Wed Nov 11 2026. No macro, syntax, notation, axiom, sorry.
-/
import Derived.Test.YtknbndebfickpaaChecked
import GoSem.Claim
import GoSem.ClaimJoined
import GoSem.ClaimMapViews
import Derived.JoinedTies
import Derived.KernelRfl
namespace Go.Proofs.Ytknbndebfickpaa
/- THE CELL 'sum', in the pinned program and in every row, IS THE sha256 OF THE DUMP (.gsa) THAT YtknbndebfickpaaProg.lean LOADS. Nothing in Lean hashes anything: it is a label: what it is worth is what the hold of that sum in a sandbox is worth. -/
noncomputable def Try.pinned : Pinned := { name := "ytknbndebfickpaa", sum := "33f38f76d5583b4ac5781b6761c94726975169570dfbc462b8f7366f3c6914e6", checked := Try.checked }
namespace Rows
def none {H : Type} : Left H := { results := [], args := [] }

/-- 'laws.FnHeaders': WHATEVER THE INPUT: true; the input reads as it did. -/
def fnHeadersSpec : ChangeSpec := { name := "fnHeaders", fn := fun _ => fun
  | [d] => { results := [.lit (.bool true)], args := [d] }
  | _ => none }
def fnHeadersRow : OpenClaim := { program := "ytknbndebfickpaa", sum := "33f38f76d5583b4ac5781b6761c94726975169570dfbc462b8f7366f3c6914e6", func := "loop.example/g00447/laws.FnHeaders", spec := "fnHeaders", inPlace := ["internal/bytealg.IndexByte", "internal/bytealg.IndexByteString", "internal/bytealg.IndexString"], unfollowed := true, recurses := true, named := ["internal/bytealg.MaxLen"], apart := false }
def FnHeadersSaid : Prop := fnHeadersRow.holds Try.pinned (OpenSpec.ofChange fnHeadersSpec)

/-- ITS FALSE NEIGHBOUR: 'it returns false'. Refute it at one input. -/
def fnHeadersWrong : ChangeSpec := { name := "fnHeaders", fn := fun _ => fun
  | [d] => { results := [.lit (.bool false)], args := [d] }
  | _ => none }
def FnHeadersWrongFalsely : Prop := fnHeadersRow.holds Try.pinned (OpenSpec.ofChange fnHeadersWrong)

/-- 'laws.FnExactFieldsFault': WHATEVER THE INPUT: true; the input reads as it did. -/
def fnExactFieldsFaultSpec : ChangeSpec := { name := "fnExactFieldsFault", fn := fun _ => fun
  | [d] => { results := [.lit (.bool true)], args := [d] }
  | _ => none }
def fnExactFieldsFaultRow : OpenClaim := { program := "ytknbndebfickpaa", sum := "33f38f76d5583b4ac5781b6761c94726975169570dfbc462b8f7366f3c6914e6", func := "loop.example/g00447/laws.FnExactFieldsFault", spec := "fnExactFieldsFault", unfollowed := true, recurses := true, apart := false }
def FnExactFieldsFaultSaid : Prop := fnExactFieldsFaultRow.holds Try.pinned (OpenSpec.ofChange fnExactFieldsFaultSpec)

/-- ITS FALSE NEIGHBOUR: 'it returns false'. Refute it at one input. -/
def fnExactFieldsFaultWrong : ChangeSpec := { name := "fnExactFieldsFault", fn := fun _ => fun
  | [d] => { results := [.lit (.bool false)], args := [d] }
  | _ => none }
def FnExactFieldsFaultWrongFalsely : Prop := fnExactFieldsFaultRow.holds Try.pinned (OpenSpec.ofChange fnExactFieldsFaultWrong)

/-- 'laws.FnExactPackHeader': WHATEVER THE INPUT: true; the input reads as it did. -/
def fnExactPackHeaderSpec : ChangeSpec := { name := "fnExactPackHeader", fn := fun _ => fun
  | [d] => { results := [.lit (.bool true)], args := [d] }
  | _ => none }
def fnExactPackHeaderRow : OpenClaim := { program := "ytknbndebfickpaa", sum := "33f38f76d5583b4ac5781b6761c94726975169570dfbc462b8f7366f3c6914e6", func := "loop.example/g00447/laws.FnExactPackHeader", spec := "fnExactPackHeader", unfollowed := true, recurses := true, apart := false }
def FnExactPackHeaderSaid : Prop := fnExactPackHeaderRow.holds Try.pinned (OpenSpec.ofChange fnExactPackHeaderSpec)

/-- ITS FALSE NEIGHBOUR: 'it returns false'. Refute it at one input. -/
def fnExactPackHeaderWrong : ChangeSpec := { name := "fnExactPackHeader", fn := fun _ => fun
  | [d] => { results := [.lit (.bool false)], args := [d] }
  | _ => none }
def FnExactPackHeaderWrongFalsely : Prop := fnExactPackHeaderRow.holds Try.pinned (OpenSpec.ofChange fnExactPackHeaderWrong)

/-- 'laws.FnExactParseHeader': WHATEVER THE INPUT: true; the input reads as it did. -/
def fnExactParseHeaderSpec : ChangeSpec := { name := "fnExactParseHeader", fn := fun _ => fun
  | [d] => { results := [.lit (.bool true)], args := [d] }
  | _ => none }
def fnExactParseHeaderRow : OpenClaim := { program := "ytknbndebfickpaa", sum := "33f38f76d5583b4ac5781b6761c94726975169570dfbc462b8f7366f3c6914e6", func := "loop.example/g00447/laws.FnExactParseHeader", spec := "fnExactParseHeader", inPlace := ["internal/bytealg.IndexByte", "internal/bytealg.IndexByteString", "internal/bytealg.IndexString"], unfollowed := true, recurses := true, named := ["internal/bytealg.MaxLen"], apart := false }
def FnExactParseHeaderSaid : Prop := fnExactParseHeaderRow.holds Try.pinned (OpenSpec.ofChange fnExactParseHeaderSpec)

/-- ITS FALSE NEIGHBOUR: 'it returns false'. Refute it at one input. -/
def fnExactParseHeaderWrong : ChangeSpec := { name := "fnExactParseHeader", fn := fun _ => fun
  | [d] => { results := [.lit (.bool false)], args := [d] }
  | _ => none }
def FnExactParseHeaderWrongFalsely : Prop := fnExactParseHeaderRow.holds Try.pinned (OpenSpec.ofChange fnExactParseHeaderWrong)

/-- 'laws.FnExactFieldOf': WHATEVER THE INPUT: true; the input reads as it did. -/
def fnExactFieldOfSpec : ChangeSpec := { name := "fnExactFieldOf", fn := fun _ => fun
  | [d1, d2] => { results := [.lit (.bool true)], args := [d1, d2] }
  | _ => none }
def fnExactFieldOfRow : OpenClaim := { program := "ytknbndebfickpaa", sum := "33f38f76d5583b4ac5781b6761c94726975169570dfbc462b8f7366f3c6914e6", func := "loop.example/g00447/laws.FnExactFieldOf", spec := "fnExactFieldOf", unfollowed := true, recurses := true, apart := false }
def FnExactFieldOfSaid : Prop := fnExactFieldOfRow.holds Try.pinned (OpenSpec.ofChange fnExactFieldOfSpec)

/-- ITS FALSE NEIGHBOUR: 'it returns false'. Refute it at one input. -/
def fnExactFieldOfWrong : ChangeSpec := { name := "fnExactFieldOf", fn := fun _ => fun
  | [d1, d2] => { results := [.lit (.bool false)], args := [d1, d2] }
  | _ => none }
def FnExactFieldOfWrongFalsely : Prop := fnExactFieldOfRow.holds Try.pinned (OpenSpec.ofChange fnExactFieldOfWrong)

/- THE SECOND FORM. 'bulk': how many values and letters a reading holds, each counted each time it is reached (what is shared counts as often as it is met; a slice's spare places count too). A statement '..UptoSaid' is the law's where the arguments, and the package variables that the reading takes, are together of bulk at most 1048576: NARROWER than '..Said'. Prove '..Said' where nothing that the law and all that it calls make is longer than what came in: it says more and counts as full. Else prove '..UptoSaid'. A law counts once. -/
mutual
def uptoBulk {H : Type} : DataW H → Nat
  | .lit (.string bytes) => bytes.length + 1
  | .lit _ => 1
  | .nil => 1
  | .ptr d => uptoBulk d + 1
  | .slice elems spare => uptoBulkAll elems + uptoBulkAll spare + 1
  | .agg parts => uptoBulkAll parts + 1
  | .iface _ d => uptoBulk d + 1
  | .map entries => uptoBulkEntries entries + 1
  | .held _ => 1
def uptoBulkAll {H : Type} : List (DataW H) → Nat
  | [] => 0
  | d :: r => uptoBulk d + uptoBulkAll r
def uptoBulkEntries {H : Type} : List (Lit × DataW H) → Nat
  | [] => 0
  | x :: r => uptoBulkEntry x + uptoBulkEntries r
def uptoBulkEntry {H : Type} : Lit × DataW H → Nat
  | (.string bytes, d) => bytes.length + uptoBulk d + 1
  | (_, d) => uptoBulk d + 1
 end
def uptoSmall : (H : Type) → List (DataW H) → Bool := fun _ ds => decide (uptoBulkAll ds ≤ 1048576)
def OpenSpec.upto (s : _root_.Go.ChangeSpec) : _root_.Go.OpenSpec := { _root_.Go.OpenSpec.ofChange s with cond := some uptoSmall }

/-- 'laws.FnHeaders', WHERE WHAT IT READS IS OF BULK AT MOST 1048576: true; the input reads as it did. -/
def fnHeadersUptoRow : OpenClaim := { program := "ytknbndebfickpaa", sum := "33f38f76d5583b4ac5781b6761c94726975169570dfbc462b8f7366f3c6914e6", func := "loop.example/g00447/laws.FnHeaders", spec := "fnHeaders", inPlace := ["internal/bytealg.IndexByte", "internal/bytealg.IndexByteString", "internal/bytealg.IndexString"], unfollowed := true, recurses := true, named := ["internal/bytealg.MaxLen"], apart := false, narrowed := true }
def FnHeadersUptoSaid : Prop := fnHeadersUptoRow.holds Try.pinned (OpenSpec.upto fnHeadersSpec)

/-- 'laws.FnExactFieldsFault', WHERE WHAT IT READS IS OF BULK AT MOST 1048576: true; the input reads as it did. -/
def fnExactFieldsFaultUptoRow : OpenClaim := { program := "ytknbndebfickpaa", sum := "33f38f76d5583b4ac5781b6761c94726975169570dfbc462b8f7366f3c6914e6", func := "loop.example/g00447/laws.FnExactFieldsFault", spec := "fnExactFieldsFault", unfollowed := true, recurses := true, apart := false, narrowed := true }
def FnExactFieldsFaultUptoSaid : Prop := fnExactFieldsFaultUptoRow.holds Try.pinned (OpenSpec.upto fnExactFieldsFaultSpec)

/-- 'laws.FnExactPackHeader', WHERE WHAT IT READS IS OF BULK AT MOST 1048576: true; the input reads as it did. -/
def fnExactPackHeaderUptoRow : OpenClaim := { program := "ytknbndebfickpaa", sum := "33f38f76d5583b4ac5781b6761c94726975169570dfbc462b8f7366f3c6914e6", func := "loop.example/g00447/laws.FnExactPackHeader", spec := "fnExactPackHeader", unfollowed := true, recurses := true, apart := false, narrowed := true }
def FnExactPackHeaderUptoSaid : Prop := fnExactPackHeaderUptoRow.holds Try.pinned (OpenSpec.upto fnExactPackHeaderSpec)

/-- 'laws.FnExactParseHeader', WHERE WHAT IT READS IS OF BULK AT MOST 1048576: true; the input reads as it did. -/
def fnExactParseHeaderUptoRow : OpenClaim := { program := "ytknbndebfickpaa", sum := "33f38f76d5583b4ac5781b6761c94726975169570dfbc462b8f7366f3c6914e6", func := "loop.example/g00447/laws.FnExactParseHeader", spec := "fnExactParseHeader", inPlace := ["internal/bytealg.IndexByte", "internal/bytealg.IndexByteString", "internal/bytealg.IndexString"], unfollowed := true, recurses := true, named := ["internal/bytealg.MaxLen"], apart := false, narrowed := true }
def FnExactParseHeaderUptoSaid : Prop := fnExactParseHeaderUptoRow.holds Try.pinned (OpenSpec.upto fnExactParseHeaderSpec)

/-- 'laws.FnExactFieldOf', WHERE WHAT IT READS IS OF BULK AT MOST 1048576: true; the input reads as it did. -/
def fnExactFieldOfUptoRow : OpenClaim := { program := "ytknbndebfickpaa", sum := "33f38f76d5583b4ac5781b6761c94726975169570dfbc462b8f7366f3c6914e6", func := "loop.example/g00447/laws.FnExactFieldOf", spec := "fnExactFieldOf", unfollowed := true, recurses := true, apart := false, narrowed := true }
def FnExactFieldOfUptoSaid : Prop := fnExactFieldOfUptoRow.holds Try.pinned (OpenSpec.upto fnExactFieldOfSpec)

end Rows
end Go.Proofs.Ytknbndebfickpaa
