/- The fault of a mailbox: the model; no conditions beyond those that each fact names. -/
import Derived.Test.YtnnanhjpnilndaaBxg
namespace Go.Proofs.Ytnnanhjpnilndaa
open Go.RowKit

set_option maxHeartbeats 800000 in
set_option maxRecDepth 100000 in
theorem specBoxFault_any (m : Bx) (s : SlQ) {lo : Nat} (w : World) (hs : IsMs lo w s m.m) (hn : m.n.size ≤ 1048576) :
    Calls Try.prog 15 #[bxX m s] w fun e w' => e = .returned (.int .i64 (bfV m)) ∧ Below w.heap.size w w' := by
  have hb0 : Below w.heap.size w (w.alloc (.cells #[.string m.n, .int .i64 m.v, .int .i64 m.x, slW s] 38)) := (Below.refl _ _).alloc (Nat.le_refl _) _
  have HC := l7Box_any m s w.heap.size 0 (w.alloc (.cells #[.string m.n, .int .i64 m.v, .int .i64 m.x, slW s] 38)) (hs.below hb0) hn (by simp) (by simp) (by simp) (by simp)
  generalize bfV m = r at *
  go_enter Try.func15, Try.ntmps15
  go_wp2_with fail
  refine HC.mono ?_
  rintro e w1 ⟨rfl, hb1⟩
  have hbw := hb0.trans (hb1.mono hb0.size)
  clear HC hb0 hb1
  go_wp2
  go_ret
  exact ⟨rfl, hbw⟩
end Go.Proofs.Ytnnanhjpnilndaa
