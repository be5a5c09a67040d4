/- CodesFault, the program's and the model's, at every slice of at most 1048576 numbers: both by one plain function · An answer with bytes of the call's own. -/
import Derived.Test.YthmimalplpjghaaGreatDoorAll
import Derived.Test.YthmimalplpjghaaGreatDoorAppToMrk0
namespace Go.Proofs.YthmimalplpjghaaGreatDoor
open Go.RowKit

/-- The fault of some characters. -/
def flt (l : List Int) : Int := if 400 < l.length then 2 else if l.all chr then 0 else 3
theorem flt_many {l : List Int} (h : 400 < l.length) : flt l = 2 := if_pos h
theorem flt_ok {l : List Int} (h : ¬ 400 < l.length) (ha : l.all chr = true) : flt l = 0 := by unfold flt; rw [if_neg h, if_pos ha]
theorem flt_bad {l : List Int} (h : ¬ 400 < l.length) (ha : l.all chr = false) : flt l = 3 := by unfold flt; rw [if_neg h, ha]; rfl
theorem ret_intB {b b' : Int} {w w' : World} {n : Nat} (h : b = b') (hb : Below n w w') : Ending.returned (Value.int .i64 b) = .returned (.int .i64 b') ∧ Below n w w' := ⟨by rw [h], hb⟩

set_option maxHeartbeats 1600000 in
set_option maxRecDepth 100000 in
theorem codesFault_any (a : Option Addr) (n cap : Nat) (l : List Int) (w : World) (hl : l.length = n) (hr : RdI w a l) (hn : n ≤ 1048576) :
    Calls Tryz.prog 127 #[.slice a n cap] w fun e w' => e = .returned (.int .i64 (flt l)) ∧ Below w.heap.size w w' := by
  by_cases h4 : 400 < n
  · have h4' : (400 : Int) < (n : Int) := by omega
    rw [flt_many (by omega)]
    go_enter Tryz.func127, Tryz.ntmps127
    go_wp2
    go_ret
    exact ret_intB rfl (Below.refl _ _)
  · have h4' : ¬ (400 : Int) < (n : Int) := by omega
    cases ha : l.all chr with
    | true =>
      rw [flt_ok (by omega) ha]
      go_enter Tryz.func127, Tryz.ntmps127
      go_wp2_with (first | (go_at_call 186; refine (areAll_char a n cap l _ hl hr hn).mono ?_; rintro e w' ⟨rfl, hb⟩; rw [ha]))
      go_ret
      exact ret_intB rfl hb
    | false =>
      rw [flt_bad (by omega) ha]
      go_enter Tryz.func127, Tryz.ntmps127
      go_wp2_with (first | (go_at_call 186; refine (areAll_char a n cap l _ hl hr hn).mono ?_; rintro e w' ⟨rfl, hb⟩; rw [ha]))
      go_ret
      exact ret_intB rfl hb

end Go.Proofs.YthmimalplpjghaaGreatDoor

namespace Go.Proofs.YthmimalplpjghaaGreatDoor
open Go.RowKit

theorem Own.lower {w : World} {B C : Nat} {v : Value} {l : List Nat} (h : Own w B v l) (hC : C ≤ B) : Own w C v l := by
  refine ⟨h.1, ?_⟩
  rcases h.2 with h' | ⟨g, cap, cur, h1, h2, h3⟩
  · exact .inl h'
  · exact .inr ⟨g, cap, cur, h1, Nat.le_trans hC h2, h3⟩
theorem Own.kept {w : World} {B : Nat} {v : Value} {l : List Nat} (h : Own w B v l) (p : Addr) (hp : p.block < B) (u : Value) : Own (w.setCell p u) B v l := ownsRow_setCell_below h hp u

/-- An answer with bytes. -/
def BytEnd (r : Int × List Nat) (w : World) (e : Ending) (w' : World) : Prop := ∃ v, e = .returned (.agg #[.int .i64 r.1, v]) ∧ Own w' w.heap.size v r.2 ∧ Below w.heap.size w w'
theorem BytEnd.code {c : Int} {w w1 : World} (hbel : Below w.heap.size w w1) (x y : Value) : BytEnd (c, []) w (.returned (.agg #[.int .i64 c, .slice none 0 0])) ((w1.setCell ⟨w.heap.size, 0, none⟩ x).setCell ⟨w.heap.size, 1, none⟩ y) :=
  ⟨_, rfl, Own.nil _ _, (hbel.setCell (by simp) _).setCell (by simp) _⟩
theorem BytEnd.some {c : Int} {w w1 : World} {v : Value} {l : List Nat} (hbel : Below w.heap.size w w1) (hown : Own w1 (w.heap.size + 1) v l) (x y : Value) : BytEnd (c, l) w (.returned (.agg #[.int .i64 c, v])) ((w1.setCell ⟨w.heap.size, 0, none⟩ x).setCell ⟨w.heap.size, 1, none⟩ y) :=
  ⟨_, rfl, ((hown.kept _ (by simp) _).kept _ (by simp) _).lower (by omega), (hbel.setCell (by simp) _).setCell (by simp) _⟩
end Go.Proofs.YthmimalplpjghaaGreatDoor
