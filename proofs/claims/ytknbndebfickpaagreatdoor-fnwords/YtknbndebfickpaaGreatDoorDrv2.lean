/- DrawEncodeWords: some numbers of memory of the draw's own; sources of at most 1048576 bytes. -/
import Derived.Test.YtknbndebfickpaaGreatDoorDrl2
namespace Go.Proofs.YtknbndebfickpaaGreatDoor
open Go.RowKit

/-- How a draw of numbers ends. -/
def NumAns (w : World) (e : Ending) (w' : World) : Prop := ∃ (v : Value) (out : List Int), e = .returned v ∧ OwnI w' w.heap.size v out ∧ out.length ≤ 403 ∧ Below w.heap.size w w'

set_option maxHeartbeats 1600000 in
set_option maxRecDepth 100000 in
theorem drawEncodeWords_any (a : Option Addr) (n cap : Nat) (l : List Nat) (w : World) (hl : l.length = n) (hr : Rd w a l) (hB : IsB l) (hn : n ≤ 1048576) :
    Calls Tryz.prog 10 #[.slice a n cap] w fun e w' => NumAns w e w' := by
  go_enter Tryz.func10, Tryz.ntmps10
  go_wp2_with fail
  refine (l1Source_any a n cap l _ hl hr hB hn).mono ?_
  rintro e w1 ⟨rfl, hs, hb⟩
  have hlt : w.heap.size < w1.heap.size := (id hs).2.1
  go_wp2_with fail
  refine (l2Bent_any w.heap.size w.heap.size 0 _ hs (by omega)).mono ?_
  rintro e w2 ⟨v, out, rfl, ho, hol, -, hs2, hg2⟩
  have hz2 := hg2.size
  go_wp2_with fail
  refine (l1Chance_any w.heap.size w.heap.size _ 6 _ hs2 (by omega) (by omega) (by omega)).mono ?_
  rintro e w3 ⟨q, rfl, hs3, hg3⟩
  have ho3 := ho.keptG hg3 hlt
  have hg := gthen hg2 hg3
  have hb3 := hb.trans (gbelow hg hlt)
  have hz3 := hg.size
  clear hs hs2 hs3 hg2 hg3 ho hg
  cases q with
  | true =>
    go_wp2_with (at_builtin; refine wpList_app_newI rfl _ _ rfl w1.heap.size _ out rfl ho3 2 2 [61, 63] rfl rfl rfl (by omega) (by omega) ?_; intro v' w4 hown' hb')
    have HF : Hid (NumAns w (.returned v') w4) := ⟨v', _, rfl, hown'.lowG (by omega), by simp; omega, hb3.trans (hb'.mono (by omega))⟩
    clear hown' hb' ho3
    go_wp2
    go_ret
    exact HF.out
  | false =>
    have HF : Hid (NumAns w (.returned v) w3) := ⟨v, out, rfl, ho3.lowG (by omega), by omega, hb3⟩
    clear ho3
    go_wp2
    go_ret
    exact HF.out
end Go.Proofs.YtknbndebfickpaaGreatDoor
