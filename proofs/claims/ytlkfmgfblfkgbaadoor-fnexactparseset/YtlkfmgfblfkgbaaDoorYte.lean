/- The model's digits of a number: at every number of at most five digits; no conditions beyond those that each fact names. -/
import Derived.Test.YtlkfmgfblfkgbaaDoorApp
import Derived.Deep.RegionHeld3
import Derived.Handy
namespace Go.Proofs.YtlkfmgfblfkgbaaDoor
open Go.RowKit

theorem str_plusY (a b : List Nat) : str a ++ str b = str (a ++ b) := by
  apply ByteArray.ext
  rw [ByteArray.data_append]
  simp [str]
/-- The digits of a number (of at most d + 1 digits). -/
def dgF : Nat → Nat → List Nat
  | 0, n => [48 + n]
  | d + 1, n => if n < 10 then [48 + n] else dgF d (n / 10) ++ [48 + n % 10]
theorem dgF_len : ∀ d n, (dgF d n).length ≤ d + 1
  | 0, _ => Nat.le_refl _
  | d + 1, n => by
    unfold dgF
    split
    · simp
    · have := dgF_len d (n / 10)
      rw [List.length_append]; simp; omega
theorem dgF_one {d n : Nat} (h : n < 10) : dgF d n = [48 + n] := by
  cases d with
  | zero => rfl
  | succ d => rw [dgF, if_pos h]
/-- A block of one byte that was laid just ahead, as a text. -/
theorem run_one (W : World) (x : Nat) (c : Nat) : (convert 64 9 (.slice (some ⟨W.heap.size, 0, none⟩) 1 c)).run Tryd.prog (W.alloc (.cells #[.int .u8 (x : Int)] 5)) = .ok (.string (str [x])) (W.alloc (.cells #[.int .u8 (x : Int)] 5)) :=
  run_str (n := 1) (cap := c) (l := [x]) rfl (.inr ⟨W.heap.size, 0, rfl, by simp, fun i hi => by
    have : i = 0 := by simp at hi; omega
    subst this; simp [nth]⟩)
theorem run_old {w1 : World} {g : Nat} (hg : g < w1.heap.size) (x : Nat) (hc : w1.cell? ⟨g, 0, none⟩ = some (.int .u8 (x : Int))) (c : Nat) : (convert 64 9 (.slice (some ⟨g, 0, none⟩) 1 c)).run Tryd.prog w1 = .ok (.string (str [x])) w1 :=
  run_str (n := 1) (cap := c) (l := [x]) rfl (.inr ⟨g, 0, rfl, hg, fun i hi => by
    have : i = 0 := by simp at hi; omega
    subst this; simpa [nth] using hc⟩)

end Go.Proofs.YtlkfmgfblfkgbaaDoor
