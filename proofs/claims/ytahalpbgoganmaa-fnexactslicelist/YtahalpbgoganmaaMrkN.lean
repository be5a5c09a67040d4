/- The laws' marks in answers of numbers in a list. -/
import Derived.Test.YtahalpbgoganmaaMrkI
namespace Go.Proofs.Ytahalpbgoganmaa
open Go.RowKit

set_option maxHeartbeats 800000 in
set_option maxRecDepth 100000 in
theorem markIntsResult_any (c : Int) (a : Option Addr) (n cap B : Nat) (l : List Int) (w : World) (hown : OwnI w B (.slice a n cap) l) (hn : n ≤ 1048576) :
    Calls Try.prog 10 #[.agg #[.int .i64 c, .slice a n cap], .int .i64 1] w fun e w' =>
      e = .returned (.int .i64 ((1 + n : Nat) : Int)) ∧ OwnI w' B (.slice a n cap) (marksI n 1) ∧ w.grownBy w' (Value.slice a n cap).ownBlock := by
  go_enter Try.func10, Try.ntmps10
  go_wp2_with fail
  refine (markInt64S_any a n cap 1 B l _ (by exact hown.alloc _) hn (by omega)).mono ?_
  rintro e w1 ⟨rfl, h1, h2⟩
  have h3 := grown_alloc h2
  clear h2
  go_wp2
  go_ret
  exact ⟨rfl, h1, h3⟩


set_option maxHeartbeats 800000 in
set_option maxRecDepth 100000 in
theorem heldIntsResult_any (c : Int) (a : Option Addr) (n cap : Nat) (w : World) (hr : RdI w a (marksI n 1)) (hn : n ≤ 1048576) :
    Calls Try.prog 11 #[.agg #[.int .i64 c, .slice a n cap], .int .i64 1] w fun e w' =>
      e = .returned (.int .i64 ((1 + n : Nat) : Int)) ∧ Below w.heap.size w w' := by
  have hpos : ¬ (((1 + n : Nat) : Int)) < 0 := by omega
  go_enter Try.func11, Try.ntmps11
  go_wp2_with fail
  refine (heldInt64S_any a n cap 1 _ (by exact hr.below ((Below.refl _ _).alloc (Nat.le_refl _) _)) hn (by omega)).mono ?_
  rintro e w1 ⟨rfl, rfl⟩
  go_wp2
  go_ret
  exact ⟨rfl, by go_grown⟩


set_option maxHeartbeats 800000 in
set_option maxRecDepth 100000 in
theorem eqIntsResult_same (c : Int) (a b : Option Addr) (n cap cap' : Nat) (l : List Int) (w : World) (hl : l.length = n) (hr : RdI w a l) (hs : RdI w b l) (hn : n ≤ 1048576) :
    Calls Try.prog 7 #[.agg #[.int .i64 c, .slice a n cap], .agg #[.int .i64 c, .slice b n cap']] w fun e w' => e = .returned (.bool true) ∧ Below w.heap.size w w' := by
  go_enter Try.func7, Try.ntmps7
  go_wp2_with fail
  have hb : Below w.heap.size w ((w.alloc (.cells #[.int .i64 c, .slice a n cap] 24)).alloc (.cells #[.int .i64 c, .slice b n cap'] 24)) := ((Below.refl _ _).alloc (Nat.le_refl _) _).alloc (by simp) _
  refine (eqInt64S_same a b n cap cap' l _ hl (by exact hr.below hb) (by exact hs.below hb) hn).mono ?_
  rintro e w1 ⟨rfl, hb1⟩
  go_wp2
  go_ret
  exact ⟨rfl, hb.trans (hb1.mono (by simp; omega))⟩

end Go.Proofs.Ytahalpbgoganmaa
