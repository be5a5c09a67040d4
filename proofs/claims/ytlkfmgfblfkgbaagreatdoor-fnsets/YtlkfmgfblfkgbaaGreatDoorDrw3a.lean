/- Bytes that the model draws: at most 401 of them, in memory of the draw's own; nothing that was there is turned; sources of at most 1048576 bytes. -/
import Derived.Test.YtlkfmgfblfkgbaaGreatDoorDrw2
namespace Go.Proofs.YtlkfmgfblfkgbaaGreatDoor
open Go.RowKit

/-- How a draw of bytes ends: a plain word, so that no walk opens it. -/
def LongEnd (b C : Nat) (w : World) (e : Ending) (w' : World) : Prop := ∃ (v : Value) (out : List Nat), e = .returned v ∧ Own w' C v out ∧ IsB out ∧ out.length ≤ 401 ∧ Below b w w'
theorem longEnd {b C : Nat} {w w' : World} {v : Value} {out : List Nat} (h1 : Own w' C v out) (h2 : IsB out) (h3 : out.length ≤ 401) (h4 : Below b w w') : LongEnd b C w (.returned v) w' := ⟨v, out, rfl, h1, h2, h3, h4⟩


theorem lwBig_any (a : Option Addr) (n cap : Nat) (w : World) :
    Calls Tryz.prog 4 #[.slice a n cap] w fun e w' => e = .returned (.bool (decide ((1048576 : Int) < (n : Int)))) ∧ w = w' := by
  go_enter Tryz.func4, Tryz.ntmps4
  go_wp2
  go_ret
  exact ⟨rfl, rfl⟩

end Go.Proofs.YtlkfmgfblfkgbaaGreatDoor
