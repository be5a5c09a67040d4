/- Rows of ops of the call's own: an append that leaves every block but the row's own, and where the row lies then; ops that lie in spans of blocks, one behind the other, beside the row; no conditions beyond those that each fact names. -/
import Derived.Test.YthiieeblpefcpaaDoorOss
import Derived.Test.YthiieeblpefcpaaDoorOsw
import Derived.Maps.AppendAt
namespace Go.Proofs.YthiieeblpefcpaaDoor
open Go.RowKit
set_option linter.unusedVariables false

theorem oc_app (a b : List Oc) : oc (a ++ b) = oc a ++ oc b := by simp [oc]
/-- THE SLICE v IS THE CALL's OWN ROW OF OPS. -/
def OwnO (w : World) (B : Nat) (v : Value) (l : List Oc) : Prop := w.ownsRow B 38 8 v l.length (oc l)
theorem OwnO.nil (w : World) (B : Nat) : OwnO w B (.slice none 0 0) [] := World.ownsRow_nil _ _ _ _
theorem OwnO.form {w : World} {B : Nat} {v : Value} {l : List Oc} (h : OwnO w B v l) : ∃ a cap, v = .slice a l.length cap ∧ l.length ≤ cap ∧ cap ≤ maxLen := by
  rcases h.2 with ⟨h', h0⟩ | ⟨g, cap, cur, h', _, _, h4, h5, _⟩
  · exact ⟨none, 0, by rw [h', h0], by omega, by decide⟩
  · exact ⟨_, cap, h', h4, h5⟩
theorem OwnO.below {w w' : World} {B C : Nat} {v : Value} {l : List Oc} (h : OwnO w B v l) (hb : Below C w w') (hC : w.heap.size ≤ C) : OwnO w' B v l := ownO_below h hb hC
theorem OwnO.set {w : World} {B : Nat} {v : Value} {l : List Oc} (h : OwnO w B v l) (p : Addr) (hp : p.block < B) (u : Value) : OwnO (w.setCell p u) B v l := ownsRow_setCell_below h hp u
theorem wpList_appO {w : World} {ops : Array Oper} {rest : List Oper} {o : Oper} {a : Act} {Q : Exit → Act → World → Prop} (hgd : o.guard = none) (s x : Operand)
    (ho : o.op = .call { callee := .builtin .append, args := #[s, x], argTypes := #[25, 25] })
    (B : Nat) (v : Value) (l : List Oc) (hs : a.eval s = v) (hown : OwnO w B v l) (g : Nat) (q : Oc) (hx : a.eval x = .slice (some ⟨g, 0, none⟩) 1 1) (hq : Qo w g q)
    (h1 : q.c0.oneCell' = true ∧ q.c1.oneCell' = true ∧ q.c2.oneCell' = true ∧ q.c3.oneCell' = true ∧ q.c4.oneCell' = true ∧ q.c5.oneCell' = true ∧ q.c6.oneCell' = true ∧ q.c7.oneCell' = true)
    (hsz : l.length + 1 ≤ 1048576) (hB : B ≤ w.heap.size)
    (h : ∀ v' w1, OwnO w1 B v' (l ++ [q]) → w.grownBy w1 v.ownBlock → (v'.ownBlock = v.ownBlock ∨ v'.ownBlock = some w.heap.size) → wpList Tryd.prog ops Q rest (a.put o.dst v') w1) : wpList Tryd.prog ops Q (o :: rest) a w := by
  obtain ⟨i0, hi, hz0, hz1, hz2⟩ := info_parts infoOp
  obtain ⟨q0, q1, q2, q3, q4, q5, q6, q7⟩ := hq
  refine wpList_append_own_at w hgd s x 25 ho B 38 i0 (.agg #[.int .i64 0, .string ByteArray.empty, .string ByteArray.empty, .slice none 0 0, .int .i64 0, .int .i64 0, .int .i64 0, .slice none 0 0]) 8 112 Tryd.underlying25 hi hz0 hz1 hz2 rfl (by decide) v l.length (oc l) hs hown ⟨g, 0, none⟩ 1 1 (oc [q]) hx rfl ?_ ?_ (by unfold maxLen; omega) (by omega) hB ?_
  · intro j u hj
    rw [Go.WideShapes.add_plain, Nat.zero_add]
    have hjl : j < 8 := by
      rcases Nat.lt_or_ge j 8 with hlt | hge
      · exact hlt
      · rw [List.getElem?_eq_none (by show 8 ≤ j; exact hge)] at hj; cases hj
    obtain rfl | rfl | rfl | rfl | rfl | rfl | rfl | rfl : j = 0 ∨ j = 1 ∨ j = 2 ∨ j = 3 ∨ j = 4 ∨ j = 5 ∨ j = 6 ∨ j = 7 := by omega
    · cases hj; exact q0
    · cases hj; exact q1
    · cases hj; exact q2
    · cases hj; exact q3
    · cases hj; exact q4
    · cases hj; exact q5
    · cases hj; exact q6
    · cases hj; exact q7
  · intro u hu
    have hu' : u ∈ [q.c0, q.c1, q.c2, q.c3, q.c4, q.c5, q.c6, q.c7] := hu
    simp only [List.mem_cons, List.not_mem_nil, or_false] at hu'
    rcases hu' with rfl | rfl | rfl | rfl | rfl | rfl | rfl | rfl
    · exact h1.1
    · exact h1.2.1
    · exact h1.2.2.1
    · exact h1.2.2.2.1
    · exact h1.2.2.2.2.1
    · exact h1.2.2.2.2.2.1
    · exact h1.2.2.2.2.2.2.1
    · exact h1.2.2.2.2.2.2.2
  · intro v' w1 hown' hgr _ hat
    refine h v' w1 ?_ hgr hat
    unfold OwnO
    rw [oc_app, List.length_append]
    exact hown'

/-- A block is there and its cells are as they were. -/
def Kc (g : Nat) (w w' : World) : Prop := g < w'.heap.size ∧ ∀ i, w'.cell? ⟨g, i, none⟩ = w.cell? ⟨g, i, none⟩ ∧ w'.frozen? ⟨g, i, none⟩ = w.frozen? ⟨g, i, none⟩
theorem Kc.of_block {g : Nat} {w w' : World} (h : w'.heap[g]? = w.heap[g]?) (hg : g < w.heap.size) (hs : w.heap.size ≤ w'.heap.size) : Kc g w w' := ⟨by omega, fun i => ⟨World.cell?_of_block h, World.frozen?_of_block h⟩⟩
theorem Kc.below {g C : Nat} {w w' : World} (hb : Below C w w') (hC : w.heap.size ≤ C) (hg : g < w.heap.size) : Kc g w w' := .of_block (hb.block g (by omega)) hg hb.size
theorem Kc.grown {g : Nat} {w w' : World} {r : Option Nat} (hb : w.grownBy w' r) (hg : g < w.heap.size) (hr : some g ≠ r) : Kc g w w' := .of_block (hb.block g hg hr) hg hb.size
theorem Kc.set {g k j : Nat} {w : World} (v : Value) (hg : g < w.heap.size) (hk : k ≠ g) : Kc g w (w.setCell ⟨k, j, none⟩ v) := ⟨by simpa using hg, fun i => ⟨World.cell?_setCell_other _ _ _ _ (fun e => by cases e; exact hk rfl), by simp⟩⟩
theorem Kc.trans {g : Nat} {w w' w'' : World} (h : Kc g w w') (h' : Kc g w' w'') : Kc g w w'' := ⟨h'.1, fun i => ⟨(h'.2 i).1.trans (h.2 i).1, (h'.2 i).2.trans (h.2 i).2⟩⟩

/-- A slice with elements lies in the blocks from lo to hi. -/
def InS (lo hi : Nat) (s : SlQ) : Prop := s.2.1 = 0 ∨ ∃ g, s.1 = some ⟨g, 0, none⟩ ∧ lo ≤ g ∧ g < hi
theorem InS.of_wr {lo : Nat} {w : World} {s : SlQ} (h : WrQ lo w s) : InS lo w.heap.size s := by
  rcases h with h | ⟨g, h1, h2, h3, -⟩
  · exact .inl h
  · exact .inr ⟨g, h1, h2, h3⟩
/-- AN OP OF THE CALL's OWN in the blocks from lo to hi, a row that lies elsewhere. -/
structure OpIn (w : World) (own : Option Nat) (lo hi : Nat) (p : SlO) (o : OpR) : Prop where
  op : IsOp lo w p o
  in1 : InS lo hi p.1
  in2 : InS lo hi p.2
  le : lo ≤ hi
  hi_le : hi ≤ w.heap.size
  wr1 : WrQ lo w p.1
  wr2 : WrQ lo w p.2
  sp : ∀ x y, p.1.1 = some x → p.2.1 = some y → x.block ≠ y.block
  off : ∀ g, own = some g → g < lo ∨ hi ≤ g
theorem WrQ.kc {lo hi : Nat} {w w' : World} {s : SlQ} (h : WrQ lo w s) (hi' : InS lo hi s) (hK : ∀ g, lo ≤ g → g < hi → Kc g w w') : WrQ lo w' s := by
  rcases h with h | ⟨g, h1, h2, h3, h4⟩
  · exact .inl h
  · rcases hi' with h | ⟨g', e, e1, e2⟩
    · exact .inl h
    · rw [h1] at e; cases e
      have k := hK g h2 e2
      exact .inr ⟨g, h1, h2, k.1, fun i hi => ⟨by rw [(k.2 i).1]; exact (h4 i hi).1, (k.2 i).2.trans (h4 i hi).2⟩⟩
theorem IsOp.kc {lo hi : Nat} {w w' : World} {p : SlO} {o : OpR} (h : IsOp lo w p o) (h1 : InS lo hi p.1) (h2 : InS lo hi p.2) (hK : ∀ g, lo ≤ g → g < hi → Kc g w w') : IsOp lo w' p o := by
  obtain ⟨⟨a1, a2, a3, a4, a5⟩, ⟨b1, b2, b3, b4, b5, b6⟩⟩ := h
  refine ⟨⟨a1, a2, a3, ?_, a5⟩, ⟨b1, b2, b3, b4, ?_, b6⟩⟩
  · rcases a4 with a4 | ⟨b, off, e, hlt, hc⟩
    · exact .inl a4
    · rcases h1 with h1 | ⟨g, e', e1, e2⟩
      · exact .inl (List.length_eq_zero_iff.1 (by omega))
      · rw [e'] at e; cases e
        have k := hK b e1 e2
        exact .inr ⟨b, 0, e', k.1, fun i hi => ((k.2 _).1).trans (hc i hi)⟩
  · rcases b5 with b5 | ⟨b, off, e, hlt, hc⟩
    · exact .inl b5
    · rcases h2 with h2 | ⟨g, e', e1, e2⟩
      · exact .inl (List.length_eq_zero_iff.1 (by omega))
      · rw [e'] at e; cases e
        have k := hK b e1 e2
        exact .inr ⟨b, 0, e', k.1, fun i hi => ((k.2 _).1).trans (hc i hi)⟩
theorem OpIn.kept {w w' : World} {own own' : Option Nat} {lo hi : Nat} {p : SlO} {o : OpR} (h : OpIn w own lo hi p o) (hs : w.heap.size ≤ w'.heap.size) (hK : ∀ g, lo ≤ g → g < hi → some g ≠ own → Kc g w w') (ho : ∀ g, own' = some g → own = some g ∨ hi ≤ g) : OpIn w' own' lo hi p o := by
  have hK' : ∀ g, lo ≤ g → g < hi → Kc g w w' := fun g h1 h2 => hK g h1 h2 (fun e => by have := h.off g e.symm; omega)
  exact ⟨h.op.kc h.in1 h.in2 hK', h.in1, h.in2, h.le, Nat.le_trans h.hi_le hs, h.wr1.kc h.in1 hK', h.wr2.kc h.in2 hK', h.sp, fun g e => (ho g e).elim (h.off g) .inr⟩
/-- Ops in spans of blocks one behind the other. -/
def OpsIn (w : World) (own : Option Nat) : Nat → Nat → List SlO → List OpR → Prop
  | lo, hi, [], [] => lo ≤ hi ∧ hi ≤ w.heap.size
  | lo, hi, p :: ps, o :: os => ∃ k m, lo ≤ k ∧ OpIn w own k m p o ∧ OpsIn w own m hi ps os
  | _, _, _, _ => False
theorem OpsIn.le {w : World} {own : Option Nat} : ∀ {ps : List SlO} {os : List OpR} {lo hi : Nat}, OpsIn w own lo hi ps os → lo ≤ hi ∧ hi ≤ w.heap.size
  | [], [], _, _, h => h
  | _ :: _, _ :: _, _, _, ⟨k, m, h0, h1, h2⟩ => ⟨Nat.le_trans h0 (Nat.le_trans h1.le (OpsIn.le h2).1), (OpsIn.le h2).2⟩
  | [], _ :: _, _, _, h => h.elim
  | _ :: _, [], _, _, h => h.elim
theorem OpsIn.kept {w w' : World} {own own' : Option Nat} (hs : w.heap.size ≤ w'.heap.size) : ∀ {ps : List SlO} {os : List OpR} {lo hi : Nat}, OpsIn w own lo hi ps os → (∀ g, lo ≤ g → g < hi → some g ≠ own → Kc g w w') → (∀ g, own' = some g → own = some g ∨ hi ≤ g) → OpsIn w' own' lo hi ps os
  | [], [], _, _, h, _, _ => ⟨h.1, Nat.le_trans h.2 hs⟩
  | _ :: _, _ :: _, _, _, ⟨k, m, h0, h1, h2⟩, hK, ho => ⟨k, m, h0, h1.kept hs (fun g a b c => hK g (Nat.le_trans h0 a) (Nat.lt_of_lt_of_le b (OpsIn.le h2).1) c) (fun g e => (ho g e).imp id (fun h => Nat.le_trans (OpsIn.le h2).1 h)), OpsIn.kept hs h2 (fun g a b c => hK g (Nat.le_trans h0 (Nat.le_trans h1.le a)) b c) ho⟩
  | [], _ :: _, _, _, h, _, _ => h.elim
  | _ :: _, [], _, _, h, _, _ => h.elim
theorem OpsIn.snoc {w : World} {own : Option Nat} {m k hi : Nat} {p : SlO} {o : OpR} (hmk : m ≤ k) (hp : OpIn w own k hi p o) : ∀ {ps : List SlO} {os : List OpR} {lo : Nat}, OpsIn w own lo m ps os → OpsIn w own lo hi (ps ++ [p]) (os ++ [o])
  | [], [], _, h => ⟨k, hi, Nat.le_trans h.1 hmk, hp, Nat.le_refl _, hp.hi_le⟩
  | _ :: _, _ :: _, _, ⟨k', m', h0, h1, h2⟩ => ⟨k', m', h0, h1, OpsIn.snoc hmk hp h2⟩
  | [], _ :: _, _, h => h.elim
  | _ :: _, [], _, h => h.elim
end Go.Proofs.YthiieeblpefcpaaDoor
