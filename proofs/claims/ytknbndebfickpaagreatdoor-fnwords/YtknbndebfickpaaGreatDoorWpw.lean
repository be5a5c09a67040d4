/- DecodeWords: what both answer. -/
import Derived.Test.YtknbndebfickpaaGreatDoorWpv
namespace Go.Proofs.YtknbndebfickpaaGreatDoor
open Go.RowKit

/-- The tables that the program reads. -/
structure Tabs (w : World) : Prop where
  c : TabC w
  b : TabB w
  h : TabH w
  m : MaxI w
theorem Tabs.below {w w' : World} (h : Tabs w) (hb : Below w.heap.size w w') : Tabs w' := ⟨h.c.below hb, h.b.below hb, h.h.below hb, h.m.below hb⟩
theorem bothWords (t : List Nat) (hB : IsB t) (hn : ¬ 1048576 < t.length) : ∃ (c : Int) (l : List Int), l.length ≤ 1048576 ∧
    (∀ w, Calls Tryz.prog 7 #[.string (str t)] w fun e w' => ∃ v, e = .returned (.agg #[.int .i64 c, v]) ∧ OwnI w' w.heap.size v l ∧ Below w.heap.size w w') ∧
    (∀ w, Tabs w → Calls Tryz.prog 6 #[.string (str t)] w fun e w' => ∃ v, e = .returned (.agg #[.int .i64 c, v]) ∧ OwnI w' w.heap.size v l ∧ Below w.heap.size w w') := by
  refine ⟨(dwV t).1, (dwV t).2, ?_, fun w => specDecodeWords_any t _ w rfl hB (by omega), fun w h => decodeWords_any t _ w rfl hB (by omega) h.c h.b h.h h.m⟩
  by_cases h : 400 < t.length
  · rw [dwV_many h]; exact Nat.zero_le _
  · rw [dwV_ok h]
    have := words_few t hB t.length false
    show (wdsM wdV cuV t.length false t).length ≤ _
    omega
end Go.Proofs.YtknbndebfickpaaGreatDoor
