/- The laws' helper that holds two answers with a text against each other says true of two that are alike; no conditions. -/
import Derived.Test.YtaiificlempeaaaProg
import Derived.Handy
namespace Go.Proofs.Ytaiificlempeaaa
open Go.RowKit

set_option maxHeartbeats 800000 in
set_option maxRecDepth 100000 in
theorem eqTextResult_txt (c : Int) (s : ByteArray) (w : World) :
    Calls Try.prog 12 #[.agg #[.int .i64 c, .string s], .agg #[.int .i64 c, .string s]] w fun e w' => e = .returned (.bool true) ∧ Below w.heap.size w w' := by
  go_enter Try.func12, Try.ntmps12
  go_wp2
  go_ret
  exact ⟨rfl, by go_grown⟩

end Go.Proofs.Ytaiificlempeaaa
