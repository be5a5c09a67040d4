/- The model's draws of characters: each ends with some numbers, in memory of the draw's own; nothing that was there is turned but the source; sources of at most 1048576 bytes. -/
import Derived.Test.YtknbndebfickpaaDoorDrw3a
import Derived.Test.YtknbndebfickpaaDoorAppI
namespace Go.Proofs.YtknbndebfickpaaDoor
open Go.RowKit

theorem OwnI.keptG {w w' : World} {B b : Nat} {v : Value} {l : List Int} (h : OwnI w B v l) (hg : w.grownBy w' (some b)) (hb : b < B) : OwnI w' B v l := by
  refine World.ownsRow.kept h hg ?_
  cases hv : v.ownBlock with
  | none => exact .inl rfl
  | some k => right; intro e; have := (h.lt k hv).1; simp at e; omega
theorem OwnI.lowG {w : World} {B C : Nat} {v : Value} {l : List Int} (h : OwnI w B v l) (hC : C ≤ B) : OwnI w C v l := by
  refine ⟨h.1, ?_⟩
  rcases h.2 with h' | ⟨g, cap, cur, h1, h2, h3⟩
  · exact .inl h'
  · exact .inr ⟨g, cap, cur, h1, Nat.le_trans hC h2, h3⟩
theorem gthen {w w1 w2 : World} {row : Option Nat} (h : w.grownBy w1 row) (k : w1.grownBy w2 row) : w.grownBy w2 row := ⟨k.os.trans h.os, k.tape.trans h.tape, k.output.trans h.output, Nat.le_trans h.size k.size, fun g hg hne => (k.block g (Nat.lt_of_lt_of_le hg h.size) hne).trans (h.block g hg hne)⟩
theorem glow {w w1 w2 : World} {row : Option Nat} (h : w.grownBy w1 row) (k : Below w.heap.size w1 w2) : w.grownBy w2 row := ⟨k.os.trans h.os, k.tape.trans h.tape, k.output.trans h.output, Nat.le_trans h.size k.size, fun g hg hne => (k.block g hg).trans (h.block g hg hne)⟩
theorem gnew {w w1 : World} {row : Option Nat} (h : w.grownBy w1 row) (o : Obj) : w.grownBy (w1.alloc o) row := gthen h (World.grownBy_alloc _ _ _)
theorem gbelow {w w1 : World} {b : Nat} (h : w.grownBy w1 (some b)) (hb : b < w.heap.size) : Below b w w1 := (Below.refl _ _).grown h (by omega) (by intro k hk; simp at hk; omega)
/-- How a draw of numbers ends: a plain word, so that no walk opens it. -/
def NumsEnd (B b M K : Nat) (V : List Int → Prop) (w : World) (e : Ending) (w' : World) : Prop := ∃ (v : Value) (out : List Int), e = .returned v ∧ OwnI w' w.heap.size v out ∧ out.length ≤ K ∧ V out ∧ Src w' B b M ∧ w.grownBy w' (some b)
theorem numsEnd {B b M K : Nat} {V : List Int → Prop} {w w' : World} {v : Value} {out : List Int} (h1 : OwnI w' w.heap.size v out) (h3 : out.length ≤ K) (h2 : V out) (h5 : Src w' B b M) (h4 : w.grownBy w' (some b)) : NumsEnd B b M K V w (.returned v) w' := ⟨v, out, rfl, h1, h3, h2, h5, h4⟩
def Any (_ : List Int) : Prop := True
/-- The characters that the model draws. -/
def Drawn (l : List Int) : Prop := ∀ x ∈ l, x ∈ [97, 66, 32, 228, 1078, 1046, 8470, 167, 8364, 127, 160, 1037, (0 : Int)]
theorem Drawn.nil : Drawn [] := fun _ h => by simp at h
theorem Drawn.snoc {l : List Int} {x : Int} (h : Drawn l) (hx : x ∈ [97, 66, 32, 228, 1078, 1046, 8470, 167, 8364, 127, 160, (1037 : Int)]) : Drawn (l ++ [x]) := fun y hy => by
  rcases List.mem_append.1 hy with hy | hy
  · exact h y hy
  · rw [List.mem_singleton] at hy
    subst hy
    simp only [List.mem_cons, List.not_mem_nil, or_false] at hx ⊢
    omega
/-- How a draw of one number ends. -/
def OneEnd (B b M : Nat) (w : World) (e : Ending) (w' : World) : Prop := ∃ r : Int, e = .returned (.int .i64 r) ∧ Src w' B b M ∧ w.grownBy w' (some b)

end Go.Proofs.YtknbndebfickpaaDoor
