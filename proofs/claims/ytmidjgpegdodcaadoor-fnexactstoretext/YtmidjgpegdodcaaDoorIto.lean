/- The digits of numbers up to 9999; no program in it. -/
import Derived.Test.YtmidjgpegdodcaaDoorYte
import Derived.Lib.AppendIntMem
namespace Go.Proofs.YtmidjgpegdodcaaDoor
open Go.RowKit
theorem itoa4 : (List.range 10000).all (fun n => Lib.itoa (n : Int) == (dgF 3 n).map UInt8.ofNat) = true := by kernel_rfl
theorem itoa4_str {n : Nat} (h9 : n ≤ 9999) : (⟨(Lib.itoa (n : Int)).toArray⟩ : ByteArray) = str (dgF 3 n) := by
  have := List.all_eq_true.1 itoa4 n (by rw [List.mem_range]; omega)
  rw [beq_iff_eq] at this
  rw [this]; rfl
end Go.Proofs.YtmidjgpegdodcaaDoor
