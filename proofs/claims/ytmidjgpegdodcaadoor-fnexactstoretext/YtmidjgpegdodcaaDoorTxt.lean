/- The laws' helper that holds two answers with a text against each other says true of two that are alike; no conditions. -/
import Derived.Test.YtmidjgpegdodcaaDoorProg
import Derived.Handy
namespace Go.Proofs.YtmidjgpegdodcaaDoor
open Go.RowKit

set_option maxHeartbeats 800000 in
set_option maxRecDepth 100000 in
theorem eqTextResult_txt (c : Int) (s : ByteArray) (w : World) :
    Calls Tryd.prog 8 #[.agg #[.int .i64 c, .string s], .agg #[.int .i64 c, .string s]] w fun e w' => e = .returned (.bool true) ∧ Below w.heap.size w w' := by
  go_enter Tryd.func8, Tryd.ntmps8
  go_wp2
  go_ret
  exact ⟨rfl, by go_grown⟩

end Go.Proofs.YtmidjgpegdodcaaDoor
