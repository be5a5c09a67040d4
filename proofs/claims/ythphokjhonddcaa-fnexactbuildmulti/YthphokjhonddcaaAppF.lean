/- A slice of fields of the call's own, and what an append to it leaves: laws for this program's types. -/
import Derived.Test.YthphokjhonddcaaMemF
import Derived.Test.YthphokjhonddcaaInf
namespace Go.Proofs.Ythphokjhonddcaa
open Go.RowKit

/-- A field as a value. -/
def fv (p : FldP) : Value := .agg #[.string p.1, .string p.2]
def zeroF : Value := .agg #[.string ⟨#[]⟩, .string ⟨#[]⟩]
end Go.Proofs.Ythphokjhonddcaa
