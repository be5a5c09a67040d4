/- What a face answers: seen, or with a code. -/
import Derived.Test.YtkjnhcnbbojajaaMus
namespace Go.Proofs.Ytkjnhcnbbojajaa
open Go.RowKit

theorem seeB_of (G : Nat) (caps : Array Value) (r : Int × List Nat) (w : World) (hG : ∀ (args : Array Value) (w : World), (callFunc G args).run Try.prog w = .ok (.enter G args) w) (hz : r.1 ≠ 0 → r.2 = [])
    (h : Calls Try.prog G caps (w.alloc (.cells #[.int .i64 0] 2)) (SeeB r (w.alloc (.cells #[.int .i64 0] 2)))) :
    Calls Try.prog 31 #[.func (.func G) #[] caps] w fun e w' => ∃ v, e = .returned (.tuple #[v, .int .i64 r.1]) ∧ Own w' w.heap.size v r.2 ∧ Below w.heap.size w w' := by
  by_cases h0 : r.1 = 0
  · rw [h0]
    refine seeB_ok G caps r.2 w hG (h.mono ?_)
    rintro e w' ⟨⟨_, v, rfl, ho⟩ | ⟨h1, _⟩, hb⟩
    · rw [World.size_alloc] at ho hb
      exact ⟨v, rfl, ho, hb⟩
    · exact absurd h0 h1
  · rw [hz h0]
    refine (seeB_bad G caps r.1 w hG (h.mono ?_)).mono ?_
    · rintro e w' ⟨⟨h1, _⟩ | ⟨_, rfl⟩, hb⟩
      · exact absurd h1 h0
      · rw [World.size_alloc] at hb
        exact ⟨rfl, hb⟩
    · rintro e w' ⟨rfl, hb⟩
      exact ⟨_, rfl, Own.nil _ _, hb⟩
theorem BytEnd.at_ {c : Int} {w w1 : World} {v : Value} {l : List Nat} {R : Nat} (hbel : Below w.heap.size w w1) (hR : w.heap.size ≤ R) (hown : Own w1 (R + 1) v l) (x y : Value) : BytEnd (c, l) w (.returned (.agg #[.int .i64 c, v])) ((w1.setCell ⟨R, 0, none⟩ x).setCell ⟨R, 1, none⟩ y) :=
  ⟨v, rfl, row_low (ownsRow_setCell_below (ownsRow_setCell_below hown (by simp) _) (by simp) _) (by omega), (hbel.setCell (p := ⟨R, 0, none⟩) hR _).setCell (p := ⟨R, 1, none⟩) hR _⟩
theorem res_at {wr : World} {sz : Nat} {x0 x1 : Value} (h0 : wr.cell? ⟨sz, 0, none⟩ = some x0) (h1 : wr.cell? ⟨sz, 1, none⟩ = some x1) (c t : Value) :
    ((wr.setCell ⟨sz, 0, none⟩ c).setCell ⟨sz, 1, none⟩ t).cell? ⟨sz, 0, none⟩ = some c ∧ ((wr.setCell ⟨sz, 0, none⟩ c).setCell ⟨sz, 1, none⟩ t).cell? ⟨sz, 1, none⟩ = some t := by
  obtain ⟨q0, q1⟩ := res_cells h0 h1 c t
  exact ⟨by simp [go_sem, q0], q1⟩
theorem new_cell1 {W : World} {s : Nat} (h : W.heap.size = s) (v : Value) (t : TypeId) : (W.alloc (.cells #[v] t)).cell? ⟨s, 0, none⟩ = some v := by subst h; simp
theorem cellB {W : World} {o : Obj} {p : Addr} {v : Value} (h : W.cell? p = some v) : (W.alloc o).cell? p = some v := (((Below.refl _ W).alloc (Nat.le_refl _) o).cell (World.block_lt_of_cell? W _ h)).trans h
end Go.Proofs.Ytkjnhcnbbojajaa
