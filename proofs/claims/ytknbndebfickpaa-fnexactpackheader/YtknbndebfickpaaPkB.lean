/- PackHeader, the model's and the program's: one answer. -/
import Derived.Test.YtknbndebfickpaaPkp
namespace Go.Proofs.Ytknbndebfickpaa
open Go.RowKit

theorem pkV_few (l : List FldP) : (pkV l).2.length ≤ 1048576 := by
  unfold pkV
  split
  · split
    · exact Nat.zero_le _
    · simp only; omega
  · exact Nat.zero_le _
theorem bothPack (n : Nat) (s : List FldP) (hl : s.length = n) (hn : n ≤ 1048576) (hfit : Fit s) : ∃ (c : Int) (l : List Nat), l.length ≤ 1048576 ∧
    (∀ a cap w, RdF w a s → Calls Try.prog 15 #[.slice a n cap] w fun e w' => ∃ v, e = .returned (.agg #[.int .i64 c, v]) ∧ Own w' w.heap.size v l ∧ Below w.heap.size w w') ∧
    (∀ a cap w, RdF w a s → Calls Try.prog 14 #[.slice a n cap] w fun e w' => ∃ v, e = .returned (.agg #[.int .i64 c, v]) ∧ Own w' w.heap.size v l ∧ Below w.heap.size w w') :=
  ⟨(pkV s).1, (pkV s).2, pkV_few s, fun a cap w h => specPackHeader_any a n cap s w hl h hn hfit, fun a cap w h => packHeader_any a n cap s w hl h hn hfit⟩
end Go.Proofs.Ytknbndebfickpaa
