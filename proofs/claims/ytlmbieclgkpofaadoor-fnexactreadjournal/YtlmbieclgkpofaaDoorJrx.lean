/- ReadJournal on both sides, and the laws' marks of what it tells; the conditions stand at each fact. -/
import Derived.Test.YtlmbieclgkpofaaDoorOss
import Derived.Test.YtlmbieclgkpofaaDoorOsw
import Derived.Maps.AppendAt
import Derived.Test.YtlmbieclgkpofaaDoorRjc
import Derived.Test.YtlmbieclgkpofaaDoorPso
import Derived.Test.YtlmbieclgkpofaaDoorOrm
import Derived.Test.YtlmbieclgkpofaaDoorOsx
import Derived.Test.YtlmbieclgkpofaaDoorOrl
import Derived.Deep.RegionHeld3
namespace Go.Proofs.YtlmbieclgkpofaaDoor
open Go.RowKit
set_option linter.unusedVariables false


theorem oc_app (a b : List Oc) : oc (a ++ b) = oc a ++ oc b := by simp [oc]
/-- THE SLICE v IS THE CALL's OWN ROW OF OPS. -/
def OwnO (w : World) (B : Nat) (v : Value) (l : List Oc) : Prop := w.ownsRow B 28 8 v l.length (oc l)
theorem OwnO.nil (w : World) (B : Nat) : OwnO w B (.slice none 0 0) [] := World.ownsRow_nil _ _ _ _
theorem OwnO.form {w : World} {B : Nat} {v : Value} {l : List Oc} (h : OwnO w B v l) : ∃ a cap, v = .slice a l.length cap ∧ l.length ≤ cap ∧ cap ≤ maxLen := by
  rcases h.2 with ⟨h', h0⟩ | ⟨g, cap, cur, h', _, _, h4, h5, _⟩
  · exact ⟨none, 0, by rw [h', h0], by omega, by decide⟩
  · exact ⟨_, cap, h', h4, h5⟩
theorem OwnO.below {w w' : World} {B C : Nat} {v : Value} {l : List Oc} (h : OwnO w B v l) (hb : Below C w w') (hC : w.heap.size ≤ C) : OwnO w' B v l := ownO_below h hb hC
theorem OwnO.set {w : World} {B : Nat} {v : Value} {l : List Oc} (h : OwnO w B v l) (p : Addr) (hp : p.block < B) (u : Value) : OwnO (w.setCell p u) B v l := ownsRow_setCell_below h hp u
theorem wpList_appO {w : World} {ops : Array Oper} {rest : List Oper} {o : Oper} {a : Act} {Q : Exit → Act → World → Prop} (hgd : o.guard = none) (s x : Operand)
    (ho : o.op = .call { callee := .builtin .append, args := #[s, x], argTypes := #[50, 50] })
    (B : Nat) (v : Value) (l : List Oc) (hs : a.eval s = v) (hown : OwnO w B v l) (g : Nat) (q : Oc) (hx : a.eval x = .slice (some ⟨g, 0, none⟩) 1 1) (hq : Qo w g q)
    (h1 : q.c0.oneCell' = true ∧ q.c1.oneCell' = true ∧ q.c2.oneCell' = true ∧ q.c3.oneCell' = true ∧ q.c4.oneCell' = true ∧ q.c5.oneCell' = true ∧ q.c6.oneCell' = true ∧ q.c7.oneCell' = true)
    (hsz : l.length + 1 ≤ 1048576) (hB : B ≤ w.heap.size)
    (h : ∀ v' w1, OwnO w1 B v' (l ++ [q]) → w.grownBy w1 v.ownBlock → (v'.ownBlock = v.ownBlock ∨ v'.ownBlock = some w.heap.size) → wpList Tryd.prog ops Q rest (a.put o.dst v') w1) : wpList Tryd.prog ops Q (o :: rest) a w := by
  obtain ⟨i0, hi, hz0, hz1, hz2⟩ := info_parts infoOp
  obtain ⟨q0, q1, q2, q3, q4, q5, q6, q7⟩ := hq
  refine wpList_append_own_at w hgd s x 50 ho B 28 i0 (.agg #[.int .i64 0, .string ByteArray.empty, .string ByteArray.empty, .slice none 0 0, .int .i64 0, .int .i64 0, .int .i64 0, .slice none 0 0]) 8 112 Tryd.underlying50 hi hz0 hz1 hz2 rfl (by decide) v l.length (oc l) hs hown ⟨g, 0, none⟩ 1 1 (oc [q]) hx rfl ?_ ?_ (by unfold maxLen; omega) (by omega) hB ?_
  · intro j u hj
    rw [Go.WideShapes.add_plain, Nat.zero_add]
    have hjl : j < 8 := by
      rcases Nat.lt_or_ge j 8 with hlt | hge
      · exact hlt
      · rw [List.getElem?_eq_none (by show 8 ≤ j; exact hge)] at hj; cases hj
    obtain rfl | rfl | rfl | rfl | rfl | rfl | rfl | rfl : j = 0 ∨ j = 1 ∨ j = 2 ∨ j = 3 ∨ j = 4 ∨ j = 5 ∨ j = 6 ∨ j = 7 := by omega
    · cases hj; exact q0
    · cases hj; exact q1
    · cases hj; exact q2
    · cases hj; exact q3
    · cases hj; exact q4
    · cases hj; exact q5
    · cases hj; exact q6
    · cases hj; exact q7
  · intro u hu
    have hu' : u ∈ [q.c0, q.c1, q.c2, q.c3, q.c4, q.c5, q.c6, q.c7] := hu
    simp only [List.mem_cons, List.not_mem_nil, or_false] at hu'
    rcases hu' with rfl | rfl | rfl | rfl | rfl | rfl | rfl | rfl
    · exact h1.1
    · exact h1.2.1
    · exact h1.2.2.1
    · exact h1.2.2.2.1
    · exact h1.2.2.2.2.1
    · exact h1.2.2.2.2.2.1
    · exact h1.2.2.2.2.2.2.1
    · exact h1.2.2.2.2.2.2.2
  · intro v' w1 hown' hgr _ hat
    refine h v' w1 ?_ hgr hat
    unfold OwnO
    rw [oc_app, List.length_append]
    exact hown'

/-- A block is there and its cells are as they were. -/
def Kc (g : Nat) (w w' : World) : Prop := g < w'.heap.size ∧ ∀ i, w'.cell? ⟨g, i, none⟩ = w.cell? ⟨g, i, none⟩ ∧ w'.frozen? ⟨g, i, none⟩ = w.frozen? ⟨g, i, none⟩
theorem Kc.of_block {g : Nat} {w w' : World} (h : w'.heap[g]? = w.heap[g]?) (hg : g < w.heap.size) (hs : w.heap.size ≤ w'.heap.size) : Kc g w w' := ⟨by omega, fun i => ⟨World.cell?_of_block h, World.frozen?_of_block h⟩⟩
theorem Kc.below {g C : Nat} {w w' : World} (hb : Below C w w') (hC : w.heap.size ≤ C) (hg : g < w.heap.size) : Kc g w w' := .of_block (hb.block g (by omega)) hg hb.size
theorem Kc.grown {g : Nat} {w w' : World} {r : Option Nat} (hb : w.grownBy w' r) (hg : g < w.heap.size) (hr : some g ≠ r) : Kc g w w' := .of_block (hb.block g hg hr) hg hb.size
theorem Kc.set {g k j : Nat} {w : World} (v : Value) (hg : g < w.heap.size) (hk : k ≠ g) : Kc g w (w.setCell ⟨k, j, none⟩ v) := ⟨by simpa using hg, fun i => ⟨World.cell?_setCell_other _ _ _ _ (fun e => by cases e; exact hk rfl), by simp⟩⟩
theorem Kc.trans {g : Nat} {w w' w'' : World} (h : Kc g w w') (h' : Kc g w' w'') : Kc g w w'' := ⟨h'.1, fun i => ⟨(h'.2 i).1.trans (h.2 i).1, (h'.2 i).2.trans (h.2 i).2⟩⟩

/-- A slice with elements lies in the blocks from lo to hi. -/
def InS (lo hi : Nat) (s : SlQ) : Prop := s.2.1 = 0 ∨ ∃ g, s.1 = some ⟨g, 0, none⟩ ∧ lo ≤ g ∧ g < hi
theorem InS.of_wr {lo : Nat} {w : World} {s : SlQ} (h : WrQ lo w s) : InS lo w.heap.size s := by
  rcases h with h | ⟨g, h1, h2, h3, -⟩
  · exact .inl h
  · exact .inr ⟨g, h1, h2, h3⟩
/-- AN OP OF THE CALL's OWN in the blocks from lo to hi, a row that lies elsewhere. -/
structure OpIn (w : World) (own : Option Nat) (lo hi : Nat) (p : SlO) (o : OpR) : Prop where
  op : IsOp lo w p o
  in1 : InS lo hi p.1
  in2 : InS lo hi p.2
  le : lo ≤ hi
  hi_le : hi ≤ w.heap.size
  wr1 : WrQ lo w p.1
  wr2 : WrQ lo w p.2
  sp : ∀ x y, p.1.1 = some x → p.2.1 = some y → x.block ≠ y.block
  off : ∀ g, own = some g → g < lo ∨ hi ≤ g
theorem WrQ.kc {lo hi : Nat} {w w' : World} {s : SlQ} (h : WrQ lo w s) (hi' : InS lo hi s) (hK : ∀ g, lo ≤ g → g < hi → Kc g w w') : WrQ lo w' s := by
  rcases h with h | ⟨g, h1, h2, h3, h4⟩
  · exact .inl h
  · rcases hi' with h | ⟨g', e, e1, e2⟩
    · exact .inl h
    · rw [h1] at e; cases e
      have k := hK g h2 e2
      exact .inr ⟨g, h1, h2, k.1, fun i hi => ⟨by rw [(k.2 i).1]; exact (h4 i hi).1, (k.2 i).2.trans (h4 i hi).2⟩⟩
theorem IsOp.kc {lo hi : Nat} {w w' : World} {p : SlO} {o : OpR} (h : IsOp lo w p o) (h1 : InS lo hi p.1) (h2 : InS lo hi p.2) (hK : ∀ g, lo ≤ g → g < hi → Kc g w w') : IsOp lo w' p o := by
  obtain ⟨⟨a1, a2, a3, a4, a5⟩, ⟨b1, b2, b3, b4, b5, b6⟩⟩ := h
  refine ⟨⟨a1, a2, a3, ?_, a5⟩, ⟨b1, b2, b3, b4, ?_, b6⟩⟩
  · rcases a4 with a4 | ⟨b, off, e, hlt, hc⟩
    · exact .inl a4
    · rcases h1 with h1 | ⟨g, e', e1, e2⟩
      · exact .inl (List.length_eq_zero_iff.1 (by omega))
      · rw [e'] at e; cases e
        have k := hK b e1 e2
        exact .inr ⟨b, 0, e', k.1, fun i hi => ((k.2 _).1).trans (hc i hi)⟩
  · rcases b5 with b5 | ⟨b, off, e, hlt, hc⟩
    · exact .inl b5
    · rcases h2 with h2 | ⟨g, e', e1, e2⟩
      · exact .inl (List.length_eq_zero_iff.1 (by omega))
      · rw [e'] at e; cases e
        have k := hK b e1 e2
        exact .inr ⟨b, 0, e', k.1, fun i hi => ((k.2 _).1).trans (hc i hi)⟩
theorem OpIn.kept {w w' : World} {own own' : Option Nat} {lo hi : Nat} {p : SlO} {o : OpR} (h : OpIn w own lo hi p o) (hs : w.heap.size ≤ w'.heap.size) (hK : ∀ g, lo ≤ g → g < hi → some g ≠ own → Kc g w w') (ho : ∀ g, own' = some g → own = some g ∨ hi ≤ g) : OpIn w' own' lo hi p o := by
  have hK' : ∀ g, lo ≤ g → g < hi → Kc g w w' := fun g h1 h2 => hK g h1 h2 (fun e => by have := h.off g e.symm; omega)
  exact ⟨h.op.kc h.in1 h.in2 hK', h.in1, h.in2, h.le, Nat.le_trans h.hi_le hs, h.wr1.kc h.in1 hK', h.wr2.kc h.in2 hK', h.sp, fun g e => (ho g e).elim (h.off g) .inr⟩
/-- Ops in spans of blocks one behind the other. -/
def OpsIn (w : World) (own : Option Nat) : Nat → Nat → List SlO → List OpR → Prop
  | lo, hi, [], [] => lo ≤ hi ∧ hi ≤ w.heap.size
  | lo, hi, p :: ps, o :: os => ∃ k m, lo ≤ k ∧ OpIn w own k m p o ∧ OpsIn w own m hi ps os
  | _, _, _, _ => False
theorem OpsIn.le {w : World} {own : Option Nat} : ∀ {ps : List SlO} {os : List OpR} {lo hi : Nat}, OpsIn w own lo hi ps os → lo ≤ hi ∧ hi ≤ w.heap.size
  | [], [], _, _, h => h
  | _ :: _, _ :: _, _, _, ⟨k, m, h0, h1, h2⟩ => ⟨Nat.le_trans h0 (Nat.le_trans h1.le (OpsIn.le h2).1), (OpsIn.le h2).2⟩
  | [], _ :: _, _, _, h => h.elim
  | _ :: _, [], _, _, h => h.elim
theorem OpsIn.kept {w w' : World} {own own' : Option Nat} (hs : w.heap.size ≤ w'.heap.size) : ∀ {ps : List SlO} {os : List OpR} {lo hi : Nat}, OpsIn w own lo hi ps os → (∀ g, lo ≤ g → g < hi → some g ≠ own → Kc g w w') → (∀ g, own' = some g → own = some g ∨ hi ≤ g) → OpsIn w' own' lo hi ps os
  | [], [], _, _, h, _, _ => ⟨h.1, Nat.le_trans h.2 hs⟩
  | _ :: _, _ :: _, _, _, ⟨k, m, h0, h1, h2⟩, hK, ho => ⟨k, m, h0, h1.kept hs (fun g a b c => hK g (Nat.le_trans h0 a) (Nat.lt_of_lt_of_le b (OpsIn.le h2).1) c) (fun g e => (ho g e).imp id (fun h => Nat.le_trans (OpsIn.le h2).1 h)), OpsIn.kept hs h2 (fun g a b c => hK g (Nat.le_trans h0 (Nat.le_trans h1.le a)) b c) ho⟩
  | [], _ :: _, _, _, h, _, _ => h.elim
  | _ :: _, [], _, _, h, _, _ => h.elim
theorem OpsIn.snoc {w : World} {own : Option Nat} {m k hi : Nat} {p : SlO} {o : OpR} (hmk : m ≤ k) (hp : OpIn w own k hi p o) : ∀ {ps : List SlO} {os : List OpR} {lo : Nat}, OpsIn w own lo m ps os → OpsIn w own lo hi (ps ++ [p]) (os ++ [o])
  | [], [], _, h => ⟨k, hi, Nat.le_trans h.1 hmk, hp, Nat.le_refl _, hp.hi_le⟩
  | _ :: _, _ :: _, _, ⟨k', m', h0, h1, h2⟩ => ⟨k', m', h0, h1, OpsIn.snoc hmk hp h2⟩
  | [], _ :: _, _, h => h.elim
  | _ :: _, [], _, h => h.elim


/-- One op behind the other, at most so many. -/
def jG : Nat → List Nat → Nat × List OpR
  | 0, _ => (0, [])
  | k + 1, d => if (rpV d).1 = 0 then ((rpV d).2.1 + (jG k (d.drop (rpV d).2.1)).1, (rpV d).2.2 :: (jG k (d.drop (rpV d).2.1)).2) else (0, [])
/-- WHAT ReadJournal ANSWERS: a code, how many bytes, ops. -/
def jV (d : List Nat) : Int × Nat × List OpR := if 8000 < d.length then (2, 0, []) else (0, (jG d.length d).1, (jG d.length d).2)
theorem rpV_ok {d : List Nat} (h : (rpV d).1 = 0) : 14 ≤ (rpV d).2.1 ∧ (rpV d).2.1 ≤ d.length := by
  unfold rpV at *
  split at h
  · next hc =>
    rw [if_pos hc]
    exact ⟨(pkO_le hc.1).1, hc.2.length_le⟩
  · simp at h
theorem rpV_code (d : List Nat) : rpV d = (5, 0, opZ) ∨ (rpV d).1 = 0 := by
  unfold rpV
  split
  · exact .inr rfl
  · exact .inl rfl
/-- What was read so far. -/
def JgS (d : List Nat) (u : Nat) (os : List OpR) : Prop := u ≤ d.length ∧ 14 * os.length ≤ u ∧ ∃ f, d.length - u ≤ f ∧ jG d.length d = (u + (jG f (d.drop u)).1, os ++ (jG f (d.drop u)).2)
theorem JgS.nil (d : List Nat) : JgS d 0 [] := ⟨Nat.zero_le _, by simp, d.length, by omega, by simp⟩
theorem JgS.step {d : List Nat} {u : Nat} {os : List OpR} (h : JgS d u os) (hr : (rpV (d.drop u)).1 = 0) : JgS d (u + (rpV (d.drop u)).2.1) (os ++ [(rpV (d.drop u)).2.2]) := by
  obtain ⟨h1, h2, f, hf, he⟩ := h
  obtain ⟨k1, k2⟩ := rpV_ok hr
  rw [List.length_drop] at k2
  obtain ⟨f', rfl⟩ : ∃ f', f = f' + 1 := ⟨f - 1, by omega⟩
  refine ⟨by omega, by rw [List.length_append, List.length_singleton]; omega, f', by omega, ?_⟩
  have e : jG (f' + 1) (d.drop u) = ((rpV (d.drop u)).2.1 + (jG f' ((d.drop u).drop (rpV (d.drop u)).2.1)).1, (rpV (d.drop u)).2.2 :: (jG f' ((d.drop u).drop (rpV (d.drop u)).2.1)).2) := if_pos hr
  rw [he, e]
  simp [List.drop_drop, Nat.add_assoc]
theorem JgS.done {d : List Nat} {u : Nat} {os : List OpR} (h : JgS d u os) (hr : (rpV (d.drop u)).1 ≠ 0) : jG d.length d = (u, os) := by
  obtain ⟨h1, h2, f, hf, he⟩ := h
  rw [he]
  cases f with
  | zero => simp [jG]
  | succ f => unfold jG; rw [if_neg hr]; simp

theorem OpsIn.up {w : World} {own : Option Nat} {hi' : Nat} (h' : hi' ≤ w.heap.size) : ∀ {ps : List SlO} {os : List OpR} {lo hi : Nat}, OpsIn w own lo hi ps os → hi ≤ hi' → OpsIn w own lo hi' ps os
  | [], [], _, _, h, hh => ⟨Nat.le_trans h.1 hh, h'⟩
  | _ :: _, _ :: _, _, _, ⟨k, m, h0, h1, h2⟩, hh => ⟨k, m, h0, h1, OpsIn.up h' h2 hh⟩
  | [], _ :: _, _, _, h, _ => h.elim
  | _ :: _, [], _, _, h, _ => h.elim
/-- A ROW OF OPS OF THE CALL's OWN with all that they hold. -/
def RwO (w : World) (B : Nat) (v : Value) (os : List OpR) : Prop := ∃ ps : List SlO, ps.length = os.length ∧ OwnO w B v (List.zipWith opQ os ps) ∧ OpsIn w v.ownBlock B w.heap.size ps os
theorem RwO.nil {w : World} {B : Nat} (hB : B ≤ w.heap.size) : RwO w B (.slice none 0 0) [] := ⟨[], rfl, OwnO.nil _ _, hB, Nat.le_refl _⟩
theorem RwO.form {w : World} {B : Nat} {v : Value} {os : List OpR} (h : RwO w B v os) : ∃ a cap, v = .slice a os.length cap ∧ os.length ≤ cap ∧ cap ≤ maxLen := by
  obtain ⟨ps, hl, ho, -⟩ := h
  obtain ⟨a, cap, h1, h2, h3⟩ := ho.form
  have e : (List.zipWith opQ os ps).length = os.length := by rw [List.length_zipWith, hl, Nat.min_self]
  rw [e] at h1 h2
  exact ⟨a, cap, h1, h2, h3⟩
theorem RwO.below {w w' : World} {B : Nat} {v : Value} {os : List OpR} (h : RwO w B v os) (hb : Below w.heap.size w w') : RwO w' B v os := by
  obtain ⟨ps, hl, ho, hi⟩ := h
  exact ⟨ps, hl, ho.below hb (Nat.le_refl _), (hi.kept hb.size (fun g h1 h2 h3 => Kc.below hb (Nat.le_refl _) h2) (fun g e => .inl e)).up (Nat.le_refl _) hb.size⟩
theorem RwO.set {w : World} {B : Nat} {v : Value} {os : List OpR} (h : RwO w B v os) (k j : Nat) (u : Value) (hk : k < B) : RwO (w.setCell ⟨k, j, none⟩ u) B v os := by
  obtain ⟨ps, hl, ho, hi⟩ := h
  have hs : (w.setCell ⟨k, j, none⟩ u).heap.size = w.heap.size := by simp
  refine ⟨ps, hl, ho.set _ hk u, ?_⟩
  rw [hs]
  exact hi.kept (by rw [hs]; exact Nat.le_refl _) (fun g h1 h2 h3 => Kc.set u h2 (by omega)) (fun g e => .inl e)
theorem OwnO.low {w : World} {B B' : Nat} {v : Value} {l : List Oc} (h : OwnO w B v l) (hB : B' ≤ B) : OwnO w B' v l :=
  ⟨h.1, h.2.imp id (fun ⟨g, cap, cur, h1, h2, h3⟩ => ⟨g, cap, cur, h1, Nat.le_trans hB h2, h3⟩)⟩
theorem OpsIn.low {w : World} {own : Option Nat} {lo lo' hi : Nat} {ps : List SlO} {os : List OpR} (h : OpsIn w own lo hi ps os) (hl : lo' ≤ lo) : OpsIn w own lo' hi ps os := by
  cases ps with
  | nil => cases os with
    | nil => exact ⟨Nat.le_trans hl h.1, h.2⟩
    | cons o os => exact h.elim
  | cons p ps => cases os with
    | nil => exact h.elim
    | cons o os =>
      obtain ⟨k, m, h0, h1⟩ := h
      exact ⟨k, m, Nat.le_trans hl h0, h1⟩
theorem RwO.low {w : World} {B B' : Nat} {v : Value} {os : List OpR} (h : RwO w B v os) (hB : B' ≤ B) : RwO w B' v os := by
  obtain ⟨ps, hl, ho, hi⟩ := h
  exact ⟨ps, hl, ho.low hB, hi.low hB⟩
/-- A row, and an op that it is to take. -/
def RwP (w : World) (B : Nat) (v : Value) (os : List OpR) (p : SlO) (o : OpR) : Prop := ∃ ps : List SlO, ps.length = os.length ∧ OwnO w B v (List.zipWith opQ os ps) ∧ OpsIn w v.ownBlock B w.heap.size (ps ++ [p]) (os ++ [o])
theorem RwP.new {w w' : World} {B : Nat} {v : Value} {os : List OpR} {p : SlO} {o : OpR} (h : RwO w B v os) (hb : Below w.heap.size w w') (ho : IsOp w.heap.size w' p o) (h1 : WrQ w.heap.size w' p.1) (h2 : WrQ w.heap.size w' p.2) (hsp : ∀ x y, p.1.1 = some x → p.2.1 = some y → x.block ≠ y.block) : RwP w' B v os p o := by
  obtain ⟨ps, hl, hO, hi⟩ := h
  have hk := hi.kept hb.size (own' := v.ownBlock) (fun g h1 h2 h3 => Kc.below hb (Nat.le_refl _) h2) (fun g e => .inl e)
  exact ⟨ps, hl, hO.below hb (Nat.le_refl _), OpsIn.snoc (Nat.le_refl _) ⟨ho, .of_wr h1, .of_wr h2, hb.size, Nat.le_refl _, h1, h2, hsp, fun g e => .inl (World.ownsRow.lt hO g e).2⟩ hk⟩
theorem RwP.below {w w' : World} {B : Nat} {v : Value} {os : List OpR} {p : SlO} {o : OpR} (h : RwP w B v os p o) (hb : Below w.heap.size w w') : RwP w' B v os p o := by
  obtain ⟨ps, hl, ho, hi⟩ := h
  exact ⟨ps, hl, ho.below hb (Nat.le_refl _), (hi.kept hb.size (fun g h1 h2 h3 => Kc.below hb (Nat.le_refl _) h2) (fun g e => .inl e)).up (Nat.le_refl _) hb.size⟩
theorem RwP.own {w : World} {B : Nat} {v : Value} {os : List OpR} {p : SlO} {o : OpR} (h : RwP w B v os p o) : ∃ l : List Oc, l.length = os.length ∧ OwnO w B v l ∧ ∀ v' w', OwnO w' B v' (l ++ [opQ o p]) → w.grownBy w' v.ownBlock → (v'.ownBlock = v.ownBlock ∨ v'.ownBlock = some w.heap.size) → RwO w' B v' (os ++ [o]) := by
  obtain ⟨ps, hl, ho, hi⟩ := h
  refine ⟨_, by rw [List.length_zipWith, hl, Nat.min_self], ho, fun v' w' h1 h2 h3 => ⟨ps ++ [p], by simp [hl], ?_, ?_⟩⟩
  · rw [List.zipWith_append hl.symm]
    exact h1
  · refine (hi.kept h2.size (fun g a b c => Kc.grown h2 b c) (fun g e => ?_)).up (Nat.le_refl _) h2.size
    rcases h3 with h3 | h3
    · exact .inl (h3.symm.trans e)
    · right; rw [h3] at e; cases e; exact Nat.le_refl _
/-- How ReadJournal ends. -/
def JrEnd (r : Int × Nat × List OpR) (w : World) (e : Ending) (w' : World) : Prop := ∃ v, e = .returned (.agg #[.int .i64 r.1, .int .i64 (r.2.1 : Int), v]) ∧ RwO w' w.heap.size v r.2.2 ∧ Below w.heap.size w w'
theorem jr_fin {w x : World} {v : Value} {os : List OpR} (hb : Below w.heap.size w x) (h : RwO x (w.heap.size + 1) v os) (c : Int) (u : Nat) (v0 v1 v2 : Value) : JrEnd (c, u, os) w (.returned (.agg #[.int .i64 c, .int .i64 (u : Int), v])) (((x.setCell ⟨w.heap.size, 0, none⟩ v0).setCell ⟨w.heap.size, 1, none⟩ v1).setCell ⟨w.heap.size, 2, none⟩ v2) :=
  ⟨v, rfl, (((h.set _ _ _ (Nat.lt_succ_self _)).set _ _ _ (Nat.lt_succ_self _)).set _ _ _ (Nat.lt_succ_self _)).low (by omega), ((hb.setCell (Nat.le_refl _) _).setCell (Nat.le_refl _) _).setCell (Nat.le_refl _) _⟩

theorem rd_add {w : World} {a : Option Addr} {l : List Nat} (h : Rd w a l) (c : Nat) : Rd w (Option.map (fun x => x.add c) a) (l.drop c) := by
  rcases h with h | ⟨b, off, e, hlt, hc⟩
  · left; rw [h]; simp
  · subst e
    have h' := Rd.drop (.inr ⟨b, off, rfl, hlt, hc⟩ : Rd w (some ⟨b, off, none⟩) l) c
    simpa [Go.WideShapes.add_plain] using h'
theorem res_block3 {w W wr : World} {c0 c1 c2 : Value} {t : TypeId} (hW : w.alloc (.cells #[c0, c1, c2] t) = W) (hb : Below (w.heap.size + 1) W wr) :
    wr.cell? ⟨w.heap.size, 0, none⟩ = some c0 ∧ wr.cell? ⟨w.heap.size, 1, none⟩ = some c1 ∧ wr.cell? ⟨w.heap.size, 2, none⟩ = some c2 ∧ wr.frozen? ⟨w.heap.size, 0, none⟩ = false ∧ wr.frozen? ⟨w.heap.size, 1, none⟩ = false ∧ wr.frozen? ⟨w.heap.size, 2, none⟩ = false := by
  subst hW
  refine ⟨?_, ?_, ?_, ?_, ?_, ?_⟩
  · rw [hb.cell (p := ⟨w.heap.size, 0, none⟩) (by simp)]; simp
  · rw [hb.cell (p := ⟨w.heap.size, 1, none⟩) (by simp)]; simp
  · rw [hb.cell (p := ⟨w.heap.size, 2, none⟩) (by simp)]; simp
  · rw [hb.frozen (p := ⟨w.heap.size, 0, none⟩) (by simp)]; simp
  · rw [hb.frozen (p := ⟨w.heap.size, 1, none⟩) (by simp)]; simp
  · rw [hb.frozen (p := ⟨w.heap.size, 2, none⟩) (by simp)]; simp
theorem res_cells3 {wr : World} {sz : Nat} {x0 x1 x2 : Value} (h0 : wr.cell? ⟨sz, 0, none⟩ = some x0) (h1 : wr.cell? ⟨sz, 1, none⟩ = some x1) (h2 : wr.cell? ⟨sz, 2, none⟩ = some x2) (c t u : Value) :
    (wr.setCell ⟨sz, 0, none⟩ c).cell? ⟨sz, 0, none⟩ = some c ∧ ((wr.setCell ⟨sz, 0, none⟩ c).setCell ⟨sz, 1, none⟩ t).cell? ⟨sz, 1, none⟩ = some t ∧
    (((wr.setCell ⟨sz, 0, none⟩ c).setCell ⟨sz, 1, none⟩ t).setCell ⟨sz, 2, none⟩ u).cell? ⟨sz, 2, none⟩ = some u := by
  have h1' : (wr.setCell ⟨sz, 0, none⟩ c).cell? ⟨sz, 1, none⟩ = some x1 := by simp [go_sem, h1]
  have h2' : ((wr.setCell ⟨sz, 0, none⟩ c).setCell ⟨sz, 1, none⟩ t).cell? ⟨sz, 2, none⟩ = some x2 := by simp [go_sem, h2]
  exact ⟨World.cell?_setCell_same _ _ _ h0, World.cell?_setCell_same _ _ _ h1', World.cell?_setCell_same _ _ _ h2'⟩
/-- The cells of what is told, at the block R. -/
def TdJ (R : Nat) (w : World) (u : Nat) (v : Value) : Prop := (w.cell? ⟨R, 0, none⟩ = some (.int .i64 0) ∧ w.cell? ⟨R, 1, none⟩ = some (.int .i64 (u : Int)) ∧ w.cell? ⟨R, 2, none⟩ = some v) ∧ w.frozen? ⟨R, 0, none⟩ = false ∧ w.frozen? ⟨R, 1, none⟩ = false ∧ w.frozen? ⟨R, 2, none⟩ = false
theorem TdJ.block {R : Nat} {w w' : World} {u : Nat} {v : Value} (h : TdJ R w u v) (hb : w'.heap[R]? = w.heap[R]?) : TdJ R w' u v := by
  obtain ⟨⟨h0, h1, h2⟩, f0, f1, f2⟩ := h
  exact ⟨⟨(World.cell?_of_block hb).trans h0, (World.cell?_of_block hb).trans h1, (World.cell?_of_block hb).trans h2⟩, (World.frozen?_of_block hb).trans f0, (World.frozen?_of_block hb).trans f1, (World.frozen?_of_block hb).trans f2⟩
theorem TdJ.put {R : Nat} {w : World} {u u' : Nat} {v v' : Value} (h : TdJ R w u v) : TdJ R ((w.setCell ⟨R, 2, none⟩ v').setCell ⟨R, 1, none⟩ (.int .i64 (u' : Int))) u' v' := by
  obtain ⟨⟨h0, h1, h2⟩, f0, f1, f2⟩ := h
  exact ⟨⟨by simp [go_sem, h0], World.cell?_setCell_same _ _ _ (by simp [go_sem, h1]; rfl), by rw [World.cell?_setCell_other _ _ _ _ (by simp)]; exact World.cell?_setCell_same _ _ _ h2⟩, by simpa using f0, by simpa using f1, by simpa using f2⟩
def mdJ (R n : Nat) (w : World) : Nat := n - (intOf ((w.cell? ⟨R, 1, none⟩).getD (.int .i64 0))).toNat
theorem TdJ.md {R n : Nat} {w : World} {u : Nat} {v : Value} (h : TdJ R w u v) : mdJ R n w = n - u := by
  unfold mdJ
  rw [h.1.2.1]
  simp [intOf]

set_option maxHeartbeats 3200000 in
set_option maxRecDepth 100000 in
theorem readJournal_any (a : Option Addr) (n cap : Nat) (l : List Nat) (w : World) (hl : l.length = n) (hnc : n ≤ cap) (hcm : cap ≤ maxLen) (hr : Rd w a l) (hB : IsB l) (hT : TabH8 w) :
    Calls Tryd.prog 34 #[.slice a n cap] w fun e w' => JrEnd (jV l) w e w' := by
  have HV : Hid (jV l = if 8000 < l.length then (2, 0, []) else (0, (jG l.length l).1, (jG l.length l).2)) := rfl
  have HL : Hid (l.length = n) := hl
  have HCM : Hid (cap ≤ maxLen) := hcm
  unfold maxLen at hcm
  obtain ⟨W, hW⟩ : ∃ W, w.alloc (.cells #[.int .i64 0, .int .i64 0, .slice none 0 0] 56) = W := ⟨_, rfl⟩
  have hsW : W.heap.size = w.heap.size + 1 := by rw [← hW]; simp
  have hb0 : Below w.heap.size w W := by rw [← hW]; exact (Below.refl _ _).alloc (Nat.le_refl _) _
  have HRB : Hid (∀ wr, Below (w.heap.size + 1) W wr → _) := fun wr hb => res_block3 hW hb
  have HBW : Hid (∀ wr, Below (w.heap.size + 1) W wr → Below w.heap.size w wr) := fun wr hb => hb0.trans (hb.mono (by omega))
  have HRO : Hid (∀ (wr : World) (u : Nat) (a' : Option Addr) (n' c' : Nat), Below (w.heap.size + 1) W wr → (a' = Option.map (fun x => x.add u) a ∨ l.drop u = []) → n' = n - u → n' ≤ c' → c' ≤ maxLen → Calls Tryd.prog 21 #[.slice a' n' c'] wr fun e w' => OrEnd (rpV (l.drop u)) wr e w') := fun wr u a' n' c' hb ha hn h1 h2 => by
    refine readOp_any a' n' c' (l.drop u) wr (by rw [List.length_drop, hl, hn]) h1 h2 ?_ (isB_drop hB u) (hT.below (HBW.out wr hb))
    rcases ha with rfl | ha
    · exact rd_add (hr.below (HBW.out wr hb)) u
    · exact .inl ha
  clear hr hB hT hl
  by_cases h8 : 8000 < n
  · have h8i : (n : Int) > 8000 := by omega
    have HR : Hid (jV l = (2, 0, [])) := HV.out.trans (if_pos (by rw [HL.out]; exact h8))
    obtain ⟨a0, a1, a2, y0, y1, y2⟩ := HRB.out W (Below.refl _ _)
    obtain ⟨x0, x1, x2⟩ := res_cells3 a0 a1 a2 (.int .i64 2) (.int .i64 0) (.slice none 0 0)
    have HEH : Hid (_) := jr_fin (HBW.out W (Below.refl _ _)) (RwO.nil (B := w.heap.size + 1) (by omega)) 2 0 (.int .i64 2) (.int .i64 0) (.slice none 0 0)
    generalize jV l = r at *
    clear HV HRO HRB
    go_enter Tryd.func34, Tryd.ntmps34
    go_wp2
    refine bodyPost_ret (v := .agg #[.int .i64 2, .int .i64 0, .slice none 0 0]) (by simp [results, Tryd.results34, go_sem, x0, x1, x2]) rfl ?_
    rw [HR.out]
    exact HEH.out
  · have h8i : ¬ (n : Int) > 8000 := by omega
    have HR : Hid (∀ u os, jG l.length l = (u, os) → jV l = (0, u, os)) := fun u os h => by rw [HV.out, if_neg (by rw [HL.out]; exact h8), h]
    generalize jV l = r at *
    clear HV
    obtain ⟨W1, hW1⟩ : ∃ W1, W.alloc (.cells #[.int .i64 0, .int .i64 0, .slice none 0 0] 56) = W1 := ⟨_, rfl⟩
    have hs1 : W1.heap.size = w.heap.size + 2 := by rw [← hW1]; simp [hsW]
    have b1 : Below (w.heap.size + 1) W W1 := by rw [← hW1]; exact (Below.refl _ _).alloc (by omega) _
    have hTd : TdJ (w.heap.size + 1) W1 0 (.slice none 0 0) := by
      rw [← hW1, ← hsW]
      exact ⟨⟨by simp, by simp, by simp⟩, by simp, by simp, by simp⟩
    go_enter Tryd.func34, Tryd.ntmps34
    go_wp2
    go_loopw [4] (fun x wr => ∃ (u : Nat) (os : List OpR) (v : Value), JgS l u os ∧ TdJ (w.heap.size + 1) wr u v ∧ RwO wr (w.heap.size + 2) v os ∧ Below (w.heap.size + 1) W wr) (fun _ wr => mdJ (w.heap.size + 1) n wr)
    case atStart => exact ⟨0, [], _, JgS.nil _, hTd, RwO.nil (by omega), b1⟩
    case round =>
      obtain ⟨u, os, v, hj, htd, hro, hbr⟩ := hrel
      clear b1 hTd hW1 hs1
      obtain ⟨va, ca, rfl, -, -⟩ := id hro.form
      have hun : u ≤ n := by have := hj.1; rw [HL.out] at this; exact this
      have hol : os.length ≤ 8000 := by have := hj.2.1; omega
      have hzr : w.heap.size + 1 < wr.heap.size := by have := hro; obtain ⟨ps, -, -, hi⟩ := this; have := hi.le.1; omega
      have HST : Hid ((rpV (l.drop u)).1 = 0 → JgS l (u + (rpV (l.drop u)).2.1) (os ++ [(rpV (l.drop u)).2.2]) ∧ 14 ≤ (rpV (l.drop u)).2.1 ∧ (rpV (l.drop u)).2.1 ≤ n - u) := fun h => ⟨hj.step h, (rpV_ok h).1, by have := (rpV_ok h).2; rw [List.length_drop, HL.out] at this; exact this⟩
      have HDN : Hid ((rpV (l.drop u)).1 ≠ 0 → r = (0, u, os)) := fun h => HR.out _ _ (hj.done h)
      have HCD := rpV_code (l.drop u)
      have HRO' : Hid (∀ (a' : Option Addr) (n' c' : Nat), (a' = Option.map (fun x => x.add u) a ∨ l.drop u = []) → n' = n - u → n' ≤ c' → c' ≤ maxLen → Calls Tryd.prog 21 #[.slice a' n' c'] wr fun e w' => OrEnd (rpV (l.drop u)) wr e w') := fun a' n' c' => HRO.out wr u a' n' c' hbr
      have HNE : Hid (u = n → l.drop u = []) := fun h => List.drop_of_length_le (by rw [HL.out]; omega)
      have HCZ : Hid (l.drop u = [] → (rpV (l.drop u)).1 ≠ 0) := fun h h0 => by have := rpV_ok h0; rw [h] at this; simp at this; omega
      clear hj HR HRO
      obtain ⟨⟨c0, c1, c2⟩, f0, f1, f2⟩ := id htd
      by_cases hcu : cap = u
      · subst hcu
        obtain rfl : n = cap := by omega
        have hdr := HNE.out rfl
        have hq0 := HCZ.out hdr
        have HC := HRO'.out a 0 0 (.inr hdr) (by omega) (Nat.le_refl _) (Nat.zero_le _)
        go_wp2_with fail
        refine HC.mono ?_
        rintro e w1 ⟨p, rfl, ho, ⟨hv1, hv2⟩, hsp, hb1⟩
        have hpn : RwP w1 (w.heap.size + 2) (.slice va os.length ca) os p (rpV (l.drop n)).2.2 := RwP.new hro hb1 ho hv1 hv2 hsp
        have hro1 := hro.below hb1
        have HMD : Hid (mdJ (w.heap.size + 1) n wr = n - n) := htd.md
        have HOB : Hid (∀ k, (Value.slice va os.length ca).ownBlock = some k → w.heap.size + 2 ≤ k ∧ k < wr.heap.size) := fun k e => by obtain ⟨ps, -, h, -⟩ := hro; exact World.ownsRow.lt h k e
        have hB1 : Below (w.heap.size + 1) W w1 := hbr.trans (hb1.mono (by omega))
        have htd1 := htd.block (hb1.block (w.heap.size + 1) hzr)
        have hz1 : wr.heap.size ≤ w1.heap.size := hb1.size
        clear HC htd hro hbr c0 c1 c2 f0 f1 f2 ho hv1 hv2 hsp hb1 HRO'
        generalize rpV (l.drop n) = q at *
        obtain ⟨W2, hW2⟩ : ∃ W2, w1.alloc (.cells #[.int .i64 q.1, .int .i64 (q.2.1 : Int), .int .i64 q.2.2.k, .string q.2.2.x, .string q.2.2.t, slW p.1, .int .i64 q.2.2.m, .int .i64 q.2.2.f, .int .i64 q.2.2.d, slW p.2] 39) = W2 := ⟨_, rfl⟩
        have b2 : Below w1.heap.size w1 W2 := by rw [← hW2]; exact (Below.refl _ _).alloc (Nat.le_refl _) _
        have hs2 : W2.heap.size = w1.heap.size + 1 := by rw [← hW2]; simp
        have hB2 := hB1.trans (b2.mono (by omega))
        have htd2 := htd1.block (b2.block (w.heap.size + 1) (by omega))
        have hro2 := hro1.below b2
        have hpn2 := hpn.below b2
        obtain ⟨⟨k0, k1, k2, k3, k4, k5, k6, k7, k8, k9⟩, -⟩ := res_block10 hW2 (Below.refl _ W2)
        obtain ⟨⟨c0, c1, c2⟩, f0, f1, f2⟩ := id htd2
        clear htd1 hro1 hpn hB1 b2
        have hq : q.1 ≠ 0 := hq0
        have HJ : Hid (r = (0, n, os)) := HDN.out hq
        have hqi : q.1 = 5 := by rcases HCD with h | h; · rw [h]
                                 · exact absurd h hq
        have hqn : ¬ (q.1 = (0 : Int)) := hq
        obtain ⟨a0, a1, a2, y0, y1, y2⟩ := HRB.out W2 hB2
        obtain ⟨x0, x1, x2⟩ := res_cells3 a0 a1 a2 (.int .i64 0) (.int .i64 (n : Int)) (.slice va os.length ca)
        have HEH : Hid (_) := jr_fin (HBW.out W2 hB2) (hro2.low (by omega)) 0 n (.int .i64 0) (.int .i64 (n : Int)) (.slice va os.length ca)
        rw [hqi] at k0
        clear HST HDN HCD HCZ hro2 hpn2 HRB hq hqn hqi
        go_wp2
        refine bodyPost_ret (v := .agg #[.int .i64 0, .int .i64 (n : Int), .slice va os.length ca]) (by simp [results, Tryd.results34, go_sem, x0, x1, x2]) rfl ?_
        rw [HJ.out]
        exact HEH.out
      · have HCU : Hid (cap - u ≤ maxLen) := Nat.le_trans (Nat.sub_le _ _) HCM.out
        have HC := HRO'.out (Option.map (fun x => x.add u) a) (n - u) (cap - u) (.inl rfl) rfl (by omega) HCU.out
        go_wp2_with fail
        refine HC.mono ?_
        rintro e w1 ⟨p, rfl, ho, ⟨hv1, hv2⟩, hsp, hb1⟩
        have hpn : RwP w1 (w.heap.size + 2) (.slice va os.length ca) os p (rpV (l.drop u)).2.2 := RwP.new hro hb1 ho hv1 hv2 hsp
        have hro1 := hro.below hb1
        have HMD : Hid (mdJ (w.heap.size + 1) n wr = n - u) := htd.md
        have HOB : Hid (∀ k, (Value.slice va os.length ca).ownBlock = some k → w.heap.size + 2 ≤ k ∧ k < wr.heap.size) := fun k e => by obtain ⟨ps, -, h, -⟩ := hro; exact World.ownsRow.lt h k e
        have hB1 : Below (w.heap.size + 1) W w1 := hbr.trans (hb1.mono (by omega))
        have htd1 := htd.block (hb1.block (w.heap.size + 1) hzr)
        have hz1 : wr.heap.size ≤ w1.heap.size := hb1.size
        clear HC htd hro hbr c0 c1 c2 f0 f1 f2 ho hv1 hv2 hsp hb1 HRO'
        generalize rpV (l.drop u) = q at *
        obtain ⟨W2, hW2⟩ : ∃ W2, w1.alloc (.cells #[.int .i64 q.1, .int .i64 (q.2.1 : Int), .int .i64 q.2.2.k, .string q.2.2.x, .string q.2.2.t, slW p.1, .int .i64 q.2.2.m, .int .i64 q.2.2.f, .int .i64 q.2.2.d, slW p.2] 39) = W2 := ⟨_, rfl⟩
        have b2 : Below w1.heap.size w1 W2 := by rw [← hW2]; exact (Below.refl _ _).alloc (Nat.le_refl _) _
        have hs2 : W2.heap.size = w1.heap.size + 1 := by rw [← hW2]; simp
        have hB2 := hB1.trans (b2.mono (by omega))
        have htd2 := htd1.block (b2.block (w.heap.size + 1) (by omega))
        have hro2 := hro1.below b2
        have hpn2 := hpn.below b2
        obtain ⟨⟨k0, k1, k2, k3, k4, k5, k6, k7, k8, k9⟩, -⟩ := res_block10 hW2 (Below.refl _ W2)
        obtain ⟨⟨c0, c1, c2⟩, f0, f1, f2⟩ := id htd2
        clear htd1 hro1 hpn hB1 b2
        by_cases hq : q.1 = 0
        · obtain ⟨hjs, h14, hqu⟩ := HST.out hq
          have HJS : Hid (JgS l (u + q.2.1) (os ++ [q.2.2])) := hjs
          obtain ⟨c, m, o⟩ := q
          dsimp only at *
          subst hq
          obtain ⟨W3, hW3⟩ : ∃ W3, W2.alloc (.cells #[.int .i64 o.k, .string o.x, .string o.t, slW p.1, .int .i64 o.m, .int .i64 o.f, .int .i64 o.d, slW p.2] 28) = W3 := ⟨_, rfl⟩
          have b3 : Below W2.heap.size W2 W3 := by rw [← hW3]; exact (Below.refl _ _).alloc (Nat.le_refl _) _
          have hs3 : W3.heap.size = W2.heap.size + 1 := by rw [← hW3]; simp
          have hQ3 : Qo W3 (w1.heap.size + 1) (opQ o p) := by rw [← hs2, ← hW3]; exact Qo.new _ _ _ _ _ _ _ _ _ _
          have hB3 := hB2.trans (b3.mono (by omega))
          have htd3 := htd2.block (b3.block (w.heap.size + 1) (by omega))
          obtain ⟨ql, hql, hown, HW⟩ := (hpn2.below b3).own
          have e1 : W3.cell? ⟨w1.heap.size, 1, none⟩ = some (.int .i64 (m : Int)) := (b3.cell (p := ⟨w1.heap.size, 1, none⟩) (by show w1.heap.size < W2.heap.size; omega)).trans k1
          have HWH : Hid (∀ v' w', OwnO w' (w.heap.size + 2) v' (ql ++ [opQ o p]) → W3.grownBy w' (Value.slice va os.length ca).ownBlock → (v'.ownBlock = (Value.slice va os.length ca).ownBlock ∨ v'.ownBlock = some W3.heap.size) → RwO w' (w.heap.size + 2) v' (os ++ [o])) := HW
          have HTD : Hid (∀ v' w', OwnO w' (w.heap.size + 2) v' (ql ++ [opQ o p]) → W3.grownBy w' (Value.slice va os.length ca).ownBlock → TdJ (w.heap.size + 1) w' u (.slice va os.length ca) ∧ Below (w.heap.size + 1) W w' ∧ w'.cell? ⟨w1.heap.size, 1, none⟩ = some (.int .i64 (m : Int))) := fun v' w' h1 h2 => ⟨htd3.block (h2.block _ (by omega) (fun e => by have := (World.ownsRow.lt hown _ e.symm).1; omega)), hB3.grown h2 (by omega) (fun k e => by have := (World.ownsRow.lt hown _ e).1; omega), (World.cell?_of_block (h2.block w1.heap.size (by omega) (fun e => by have := (HOB.out _ e.symm).2; omega))).trans e1⟩
          have hne1 : w1.heap.size ≠ w.heap.size + 1 := by omega
          have hne2 : w.heap.size + 1 ≠ w1.heap.size := by omega
          clear HST HDN HCD HCZ hro2 hpn2 HRB hjs HW htd2 htd3 hB2
          go_wp2_with (at_builtin; refine wpList_appO rfl _ _ rfl (w.heap.size + 2) _ ql rfl hown (w1.heap.size + 1) (opQ o p) rfl hQ3 ⟨rfl, rfl, rfl, rfl, rfl, rfl, rfl, rfl⟩ (by omega) (by omega) ?_; intro v' w4 hO4 hg4 hat4; obtain ⟨htd4, hB4, e4⟩ := HTD.out v' w4 hO4 hg4; have hR4 := HWH.out v' w4 hO4 hg4 hat4; obtain ⟨a4, cp4, rfl, -, -⟩ := id hR4.form; obtain ⟨⟨d0, d1, d2⟩, g0, g1, g2⟩ := id htd4)
          go_roundw
          case rel => exact ⟨u + m, os ++ [o], .slice a4 (os ++ [o]).length cp4, HJS.out, by simpa using htd4.put (u' := u + m) (v' := .slice a4 (os ++ [o]).length cp4), (hR4.set _ _ _ (by omega)).set _ _ _ (by omega), (hB4.setCell (Nat.le_refl _) _).setCell (Nat.le_refl _) _⟩
          case measure =>
            have e := (htd4.put (u' := u + m) (v' := .slice a4 (os ++ [o]).length cp4)).md (n := n)
            rw [show ((u + m : Nat) : Int) = (u : Int) + (m : Int) from by omega, List.length_append, List.length_singleton] at e
            rw [HMD.out]
            refine Nat.lt_of_le_of_lt (Nat.le_of_eq e) (by omega)
        · have HJ : Hid (r = (0, u, os)) := HDN.out hq
          have hqi : q.1 = 5 := by rcases HCD with h | h; · rw [h]
                                   · exact absurd h hq
          have hqn : ¬ (q.1 = (0 : Int)) := hq
          obtain ⟨a0, a1, a2, y0, y1, y2⟩ := HRB.out W2 hB2
          obtain ⟨x0, x1, x2⟩ := res_cells3 a0 a1 a2 (.int .i64 0) (.int .i64 (u : Int)) (.slice va os.length ca)
          have HEH : Hid (_) := jr_fin (HBW.out W2 hB2) (hro2.low (by omega)) 0 u (.int .i64 0) (.int .i64 (u : Int)) (.slice va os.length ca)
          rw [hqi] at k0
          clear HST HDN HCD HCZ hro2 hpn2 HRB hq hqn hqi
          go_wp2
          refine bodyPost_ret (v := .agg #[.int .i64 0, .int .i64 (u : Int), .slice va os.length ca]) (by simp [results, Tryd.results34, go_sem, x0, x1, x2]) rfl ?_
          rw [HJ.out]
          exact HEH.out


/-- How l9Journal ends: ops in memory of their own, how many bytes. -/
def JlEnd (r : Nat × List OpR) (w : World) (e : Ending) (w' : World) : Prop := ∃ v, e = .returned (.tuple #[v, .int .i64 (r.1 : Int)]) ∧ RwO w' w.heap.size v r.2 ∧ Below w.heap.size w w'
theorem OwnO.empty {w : World} {B : Nat} (hB : B ≤ w.heap.size) : OwnO (w.alloc (.cells #[] 28)) B (.slice (some ⟨w.heap.size, 0, none⟩) 0 0) [] :=
  ⟨rfl, .inr ⟨w.heap.size, 0, #[], rfl, hB, heap_alloc_new w _, Nat.le_refl _, by decide, rfl, rfl⟩⟩
theorem RwO.empty {w : World} {B : Nat} (hB : B ≤ w.heap.size) : RwO (w.alloc (.cells #[] 28)) B (.slice (some ⟨w.heap.size, 0, none⟩) 0 0) [] :=
  ⟨[], rfl, OwnO.empty hB, by simp; omega, Nat.le_refl _⟩
set_option maxHeartbeats 3200000 in
set_option maxRecDepth 100000 in
theorem l9Journal_any (a : Option Addr) (n cap : Nat) (l : List Nat) (w : World) (hl : l.length = n) (hnc : n ≤ cap) (hcm : cap ≤ maxLen) (hn : n ≤ 8000) (hr : Rd w a l) (hB : IsB l) :
    Calls Tryd.prog 59 #[.slice a n cap] w fun e w' => JlEnd (jG l.length l) w e w' := by
  have HL : Hid (l.length = n) := hl
  have HCM : Hid (cap ≤ maxLen) := hcm
  unfold maxLen at hcm
  have HRO : Hid (∀ (wr : World) (u : Nat) (a' : Option Addr) (n' c' : Nat), Below w.heap.size w wr → (a' = Option.map (fun x => x.add u) a ∨ l.drop u = []) → n' = n - u → n' ≤ c' → c' ≤ maxLen → Calls Tryd.prog 19 #[.slice a' n' c'] wr fun e w' => OrEnd (rpV (l.drop u)) wr e w') := fun wr u a' n' c' hb ha hn' h1 h2 => by
    rw [← rpM_eq]
    refine specReadOp_of HL9_any a' n' c' (l.drop u) wr (by rw [List.length_drop, hl, hn']) h1 h2 (by omega) ?_ (isB_drop hB u)
    rcases ha with rfl | ha
    · exact rd_add (hr.below hb) u
    · exact .inl ha
  have HR : Hid (∀ u os, jG l.length l = (u, os) → jG l.length l = (u, os)) := fun u os h => h
  have HJ0 := JgS.nil l
  have HCD0 : Hid (∀ u os, JgS l u os → ((rpV (l.drop u)).1 ≠ 0 ∨ u = n) → jG l.length l = (u, os)) := fun u os h hc => h.done (hc.elim id (fun e h0 => by have := rpV_ok h0; rw [List.length_drop, hl, e] at this; omega))
  generalize hg : jG l.length l = r at HR HCD0 ⊢
  clear hr hB hl HR hg
  obtain ⟨W, hW⟩ : ∃ W, w.alloc (.cells #[] 28) = W := ⟨_, rfl⟩
  have hR0 : RwO W w.heap.size (.slice (some ⟨w.heap.size, 0, none⟩) 0 0) [] := by rw [← hW]; exact RwO.empty (Nat.le_refl _)
  have hb0 : Below w.heap.size w W := by rw [← hW]; exact (Below.refl _ _).alloc (Nat.le_refl _) _
  go_enter Tryd.func59, Tryd.ntmps59
  go_wp2
  go_loopw [4, 5, 6] (fun v x _ wr => ∃ (u : Nat) (os : List OpR), x = .int .i64 (u : Int) ∧ JgS l u os ∧ RwO wr w.heap.size v os ∧ Below w.heap.size w wr) (fun _ x _ _ => n - (intOf x).toNat)
  case atStart => exact ⟨0, [], rfl, HJ0, hR0, hb0⟩
  case round =>
    obtain ⟨u, os, rfl, hj, hro, hbr⟩ := hrel
    clear hR0 hb0 hW HJ0
    obtain ⟨va, ca, rfl, -, -⟩ := id hro.form
    have hun : u ≤ n := by have := hj.1; rw [HL.out] at this; exact this
    have hol : os.length ≤ 8000 := by have := hj.2.1; omega
    have HST : Hid ((rpV (l.drop u)).1 = 0 → JgS l (u + (rpV (l.drop u)).2.1) (os ++ [(rpV (l.drop u)).2.2]) ∧ 14 ≤ (rpV (l.drop u)).2.1 ∧ (rpV (l.drop u)).2.1 ≤ n - u) := fun h => ⟨hj.step h, (rpV_ok h).1, by have := (rpV_ok h).2; rw [List.length_drop, HL.out] at this; exact this⟩
    have HDN : Hid (((rpV (l.drop u)).1 ≠ 0 ∨ u = n) → r = (u, os)) := fun h => HCD0.out _ _ hj h
    have HCD := rpV_code (l.drop u)
    have hzw : w.heap.size ≤ wr.heap.size := hbr.size
    by_cases hlt : u < n
    · have hi : (u : Int) < (n : Int) := by omega
      have hcu : ¬ cap = u := by omega
      have HCU : Hid (cap - u ≤ maxLen) := Nat.le_trans (Nat.sub_le _ _) HCM.out
      have HC := HRO.out wr u (Option.map (fun x => x.add u) a) (n - u) (cap - u) hbr (.inl rfl) rfl (by omega) HCU.out
      clear hj HCD0 HRO
      go_wp2_with fail
      refine HC.mono ?_
      rintro e w1 ⟨p, rfl, ho, ⟨hv1, hv2⟩, hsp, hb1⟩
      have hpn : RwP w1 w.heap.size (.slice va os.length ca) os p (rpV (l.drop u)).2.2 := RwP.new hro hb1 ho hv1 hv2 hsp
      have HOB : Hid (∀ k, (Value.slice va os.length ca).ownBlock = some k → w.heap.size ≤ k ∧ k < wr.heap.size) := fun k e => by obtain ⟨ps, -, h, -⟩ := hro; exact World.ownsRow.lt h k e
      have hro1 := hro.below hb1
      have hB1 : Below w.heap.size w w1 := hbr.trans (hb1.mono hzw)
      have hz1 : wr.heap.size ≤ w1.heap.size := hb1.size
      clear HC hro hbr ho hv1 hv2 hsp hb1
      generalize rpV (l.drop u) = q at *
      obtain ⟨W2, hW2⟩ : ∃ W2, w1.alloc (.cells #[.int .i64 q.1, .int .i64 (q.2.1 : Int), .int .i64 q.2.2.k, .string q.2.2.x, .string q.2.2.t, slW p.1, .int .i64 q.2.2.m, .int .i64 q.2.2.f, .int .i64 q.2.2.d, slW p.2] 39) = W2 := ⟨_, rfl⟩
      have b2 : Below w1.heap.size w1 W2 := by rw [← hW2]; exact (Below.refl _ _).alloc (Nat.le_refl _) _
      have hs2 : W2.heap.size = w1.heap.size + 1 := by rw [← hW2]; simp
      have hB2 := hB1.trans (b2.mono (by omega))
      have hro2 := hro1.below b2
      have hpn2 := hpn.below b2
      obtain ⟨⟨k0, k1, k2, k3, k4, k5, k6, k7, k8, k9⟩, -⟩ := res_block10 hW2 (Below.refl _ W2)
      clear hro1 hpn hB1 b2
      by_cases hq : q.1 = 0
      · obtain ⟨hjs, h14, hqu⟩ := HST.out hq
        have HJS : Hid (JgS l (u + q.2.1) (os ++ [q.2.2])) := hjs
        obtain ⟨c, m, o⟩ := q
        dsimp only at *
        subst hq
        obtain ⟨W3, hW3⟩ : ∃ W3, W2.alloc (.cells #[.int .i64 o.k, .string o.x, .string o.t, slW p.1, .int .i64 o.m, .int .i64 o.f, .int .i64 o.d, slW p.2] 28) = W3 := ⟨_, rfl⟩
        have b3 : Below W2.heap.size W2 W3 := by rw [← hW3]; exact (Below.refl _ _).alloc (Nat.le_refl _) _
        have hs3 : W3.heap.size = W2.heap.size + 1 := by rw [← hW3]; simp
        have hQ3 : Qo W3 (w1.heap.size + 1) (opQ o p) := by rw [← hs2, ← hW3]; exact Qo.new _ _ _ _ _ _ _ _ _ _
        have hB3 := hB2.trans (b3.mono (by omega))
        obtain ⟨ql, hql, hown, HW⟩ := (hpn2.below b3).own
        have e1 : W3.cell? ⟨w1.heap.size, 1, none⟩ = some (.int .i64 (m : Int)) := (b3.cell (p := ⟨w1.heap.size, 1, none⟩) (by show w1.heap.size < W2.heap.size; omega)).trans k1
        have HWH : Hid (∀ v' w', OwnO w' w.heap.size v' (ql ++ [opQ o p]) → W3.grownBy w' (Value.slice va os.length ca).ownBlock → (v'.ownBlock = (Value.slice va os.length ca).ownBlock ∨ v'.ownBlock = some W3.heap.size) → RwO w' w.heap.size v' (os ++ [o])) := HW
        have HTD : Hid (∀ v' w', OwnO w' w.heap.size v' (ql ++ [opQ o p]) → W3.grownBy w' (Value.slice va os.length ca).ownBlock → Below w.heap.size w w' ∧ w'.cell? ⟨w1.heap.size, 1, none⟩ = some (.int .i64 (m : Int))) := fun v' w' h1 h2 => ⟨hB3.grown h2 (by omega) (fun k e => by have := (HOB.out _ e).1; omega), (World.cell?_of_block (h2.block w1.heap.size (by omega) (fun e => by have := (HOB.out _ e.symm).2; omega))).trans e1⟩
        clear HST HDN HCD hro2 hpn2 hjs HW hB2
        go_wp2_with (at_builtin; refine wpList_appO rfl _ _ rfl w.heap.size _ ql rfl hown (w1.heap.size + 1) (opQ o p) rfl hQ3 ⟨rfl, rfl, rfl, rfl, rfl, rfl, rfl, rfl⟩ (by omega) (by omega) ?_; intro v' w4 hO4 hg4 hat4; obtain ⟨hB4, e4⟩ := HTD.out v' w4 hO4 hg4; have hR4 := HWH.out v' w4 hO4 hg4 hat4; obtain ⟨a4, cp4, rfl, -, -⟩ := id hR4.form; rw [List.length_append, List.length_singleton] at hR4)
        go_roundw
        case rel => exact ⟨u + m, os ++ [o], by go_num, HJS.out, hR4, hB4⟩
        case measure => simp [intOf]; omega
      · have HJ : Hid (r = (u, os)) := HDN.out (.inl hq)
        have hqi : q.1 = 5 := by
          rcases HCD with h | h
          · rw [h]
          · exact absurd h hq
        rw [hqi] at k0
        have HEH : Hid (JlEnd (u, os) w (.returned (.tuple #[.slice va os.length ca, .int .i64 (u : Int)])) W2) := ⟨_, rfl, hro2, hB2⟩
        clear HST HDN HCD hro2 hpn2 hq hqi
        go_wp2
        refine bodyPost_ret (v := .tuple #[.slice va os.length ca, .int .i64 (u : Int)]) (by simp [results, Tryd.results59, go_sem]) rfl ?_
        rw [HJ.out]
        exact HEH.out
    · have hi : ¬ (u : Int) < (n : Int) := by omega
      have HJ : Hid (r = (u, os)) := HDN.out (.inr (by omega))
      have HEH : Hid (JlEnd (u, os) w (.returned (.tuple #[.slice va os.length ca, .int .i64 (u : Int)])) wr) := ⟨_, rfl, hro, hbr⟩
      clear HST HDN HCD hro hj HRO HCD0
      go_wp2
      refine bodyPost_ret (v := .tuple #[.slice va os.length ca, .int .i64 (u : Int)]) (by simp [results, Tryd.results59, go_sem]) rfl ?_
      rw [HJ.out]
      exact HEH.out

set_option maxHeartbeats 3200000 in
set_option maxRecDepth 100000 in
theorem specReadJournal_any (a : Option Addr) (n cap : Nat) (l : List Nat) (w : World) (hl : l.length = n) (hnc : n ≤ cap) (hcm : cap ≤ maxLen) (hr : Rd w a l) (hB : IsB l) :
    Calls Tryd.prog 33 #[.slice a n cap] w fun e w' => JrEnd (jV l) w e w' := by
  have HV : Hid (jV l = if 8000 < l.length then (2, 0, []) else (0, (jG l.length l).1, (jG l.length l).2)) := rfl
  obtain ⟨W, hW⟩ : ∃ W, w.alloc (.cells #[.int .i64 0, .int .i64 0, .slice none 0 0] 56) = W := ⟨_, rfl⟩
  have hsW : W.heap.size = w.heap.size + 1 := by rw [← hW]; simp
  have hb0 : Below w.heap.size w W := by rw [← hW]; exact (Below.refl _ _).alloc (Nat.le_refl _) _
  have HRB : Hid (∀ wr, Below (w.heap.size + 1) W wr → _) := fun wr hb => res_block3 hW hb
  have HBW : Hid (∀ wr, Below (w.heap.size + 1) W wr → Below w.heap.size w wr) := fun wr hb => hb0.trans (hb.mono (by omega))
  have hcm' : cap ≤ 9223372036854775807 := by unfold maxLen at hcm; omega
  by_cases h8 : 8000 < n
  · have h8i : (n : Int) > 8000 := by omega
    have HR : Hid (jV l = (2, 0, [])) := HV.out.trans (if_pos (by rw [hl]; exact h8))
    obtain ⟨a0, a1, a2, y0, y1, y2⟩ := HRB.out W (Below.refl _ _)
    obtain ⟨x0, x1, x2⟩ := res_cells3 a0 a1 a2 (.int .i64 2) (.int .i64 0) (.slice none 0 0)
    have HEH : Hid (_) := jr_fin (HBW.out W (Below.refl _ _)) (RwO.nil (B := w.heap.size + 1) (by omega)) 2 0 (.int .i64 2) (.int .i64 0) (.slice none 0 0)
    generalize jV l = r at *
    clear HV HRB hr hB hl
    go_enter Tryd.func33, Tryd.ntmps33
    go_wp2
    refine bodyPost_ret (v := .agg #[.int .i64 2, .int .i64 0, .slice none 0 0]) (by simp [results, Tryd.results33, go_sem, x0, x1, x2]) rfl ?_
    rw [HR.out]
    exact HEH.out
  · have h8i : ¬ (n : Int) > 8000 := by omega
    have HC := l9Journal_any a n cap l W hl hnc hcm (by omega) (hr.below hb0) hB
    have HR : Hid (jV l = (0, (jG l.length l).1, (jG l.length l).2)) := HV.out.trans (if_neg (by rw [hl]; exact h8))
    have HU : Hid (l.length = n) := hl
    generalize jG l.length l = g at *
    obtain ⟨u, os⟩ := g
    generalize jV l = r at *
    clear HV hr hB hl
    dsimp only at HR
    go_enter Tryd.func33, Tryd.ntmps33
    go_wp2_with fail
    refine HC.mono ?_
    rintro e w1 ⟨v, rfl, hro, hb1⟩
    obtain ⟨va, ca, rfl, -, -⟩ := id hro.form
    dsimp only at hro ⊢
    rw [hsW] at hro hb1
    obtain ⟨a0, a1, a2, y0, y1, y2⟩ := HRB.out w1 hb1
    obtain ⟨x0, x1, x2⟩ := res_cells3 a0 a1 a2 (.int .i64 0) (.int .i64 (u : Int)) (.slice va os.length ca)
    have HEH : Hid (_) := jr_fin (HBW.out w1 hb1) hro 0 u (.int .i64 0) (.int .i64 (u : Int)) (.slice va os.length ca)
    clear HRB hro HC
    go_wp2
    refine bodyPost_ret (v := .agg #[.int .i64 0, .int .i64 (u : Int), .slice va os.length ca]) (by simp [results, Tryd.results33, go_sem, x0, x1, x2]) rfl ?_
    rw [HR.out]
    exact HEH.out


theorem OpsIn.at_ {w : World} {own : Option Nat} : ∀ {ps : List SlO} {os : List OpR} {lo hi : Nat}, OpsIn w own lo hi ps os → ∀ i, i < os.length → ∃ p k m, ps[i]? = some p ∧ lo ≤ k ∧ m ≤ hi ∧ OpIn w own k m p (nthO os i)
  | [], [], _, _, _, i, hi => by simp at hi
  | p :: ps, o :: os, _, _, ⟨k, m, h0, h1, h2⟩, 0, _ => ⟨p, k, m, rfl, h0, h2.le.1, h1⟩
  | p :: ps, o :: os, _, _, ⟨k, m, h0, h1, h2⟩, i + 1, hi => by
    obtain ⟨p', k', m', e, g0, g1, g2⟩ := OpsIn.at_ h2 i (by simpa using hi)
    exact ⟨p', k', m', by simpa using e, Nat.le_trans h0 (Nat.le_trans h1.le g0), g1, g2⟩
  | [], _ :: _, _, _, h, _, _ => h.elim
  | _ :: _, [], _, _, h, _, _ => h.elim
theorem nthOc_zip {os : List OpR} {ps : List SlO} {i : Nat} {p : SlO} (hi : i < os.length) (hp : ps[i]? = some p) : nthOc (List.zipWith opQ os ps) i = opQ (nthO os i) p := by
  unfold nthOc
  rw [List.getD_eq_getElem?_getD, List.getElem?_zipWith, hp, List.getElem?_eq_getElem hi, nthO_get hi]
  rfl
theorem RwO.os {w : World} {B : Nat} {a : Option Addr} {n cap : Nat} {os : List OpR} (h : RwO w B (.slice a n cap) os) : IsOs B w (a, n, cap) os := by
  obtain ⟨a', cap', e, h1, h2⟩ := h.form
  injection e with e1 e2 e3
  subst e1 e2 e3
  refine ⟨rfl, h1, h2, ?_⟩
  obtain ⟨ps, hl, ho, hi⟩ := h
  have hzl : (List.zipWith opQ os ps).length = os.length := by rw [List.length_zipWith, hl, Nat.min_self]
  rcases Nat.eq_zero_or_pos os.length with hz | hp
  · exact .inl (List.length_eq_zero_iff.1 hz)
  · have ho' : w.ownsRow B 28 8 (.slice a os.length cap) os.length (oc (List.zipWith opQ os ps)) := by have := ho; unfold OwnO at this; rw [hzl] at this; exact this
    rcases id ho'.2 with ⟨h', h0⟩ | ⟨g, cap', cur, h', hB, hg, _⟩
    · omega
    · injection h' with e1 e2 e3
      subst e1
      have hlt := (World.ownsRow.lt ho' g rfl).2
      refine .inr ⟨g, 0, rfl, hB, hlt, fun i hi' => ?_⟩
      obtain ⟨p, k, m, hp', hk, -, hin⟩ := hi.at_ i hi'
      have hc := ownO_cells ho' i (by rw [hzl]; exact hi')
      rw [nthOc_zip hi' hp'] at hc
      obtain ⟨-, c0, c1, c2, c3, c4, c5, c6, c7⟩ := hc
      simp only [Nat.zero_add]
      exact ⟨p, ⟨c0, c1, c2, c3, c4, c5, c6, c7⟩, hin.op.low hk⟩
theorem jG_ft : ∀ (k : Nat) (d : List Nat), ∀ o ∈ (jG k d).2, FtO o ∧ o.u.length ≤ 6 ∧ o.b.length ≤ 400
  | 0, d, o, h => by simp [jG] at h
  | k + 1, d, o, h => by
    unfold jG at h
    split at h
    · rcases List.mem_cons.1 h with rfl | h
      · exact rpV_ft d
      · exact jG_ft k _ o h
    · simp at h
theorem jG_len : ∀ (k : Nat) (d : List Nat), (jG k d).2.length ≤ k
  | 0, d => by simp [jG]
  | k + 1, d => by
    unfold jG
    split
    · have := jG_len k (d.drop (rpV d).2.1)
      simp only [List.length_cons]; omega
    · simp
theorem jV_len (d : List Nat) : (jV d).2.2.length ≤ 8000 := by
  unfold jV
  split
  · simp
  · have := jG_len d.length d
    show (jG d.length d).2.length ≤ 8000
    omega
theorem jV_ft (d : List Nat) : ∀ i, i < (jV d).2.2.length → FtO (nthO (jV d).2.2 i) ∧ (nthO (jV d).2.2 i).u.length ≤ 6 ∧ (nthO (jV d).2.2 i).b.length ≤ 400 := fun i hi => by
  rw [nthO_get hi]
  have hm := List.getElem_mem hi
  generalize (jV d).2.2[i] = o at *
  unfold jV at hm
  split at hm
  · simp at hm
  · exact jG_ft _ _ o hm
theorem jV_fts (d : List Nat) : FtOs (jV d).2.2 := ⟨Nat.le_trans (jV_len d) (by decide), fun i hi => (jV_ft d i hi).1⟩

set_option maxHeartbeats 800000 in
set_option maxRecDepth 100000 in
theorem eqOpsResult_same (c : Int) (u : Nat) (s s' : SlQ) (l : List OpR) {lo lo' : Nat} (w : World) (hs : IsOs lo w s l) (hs' : IsOs lo' w s' l) (hf : FtOs l) :
    Calls Tryd.prog 35 #[.agg #[.int .i64 c, .int .i64 (u : Int), slW s], .agg #[.int .i64 c, .int .i64 (u : Int), slW s']] w fun e w' => e = .returned (.bool true) ∧ Below w.heap.size w w' := by
  obtain ⟨W1, hW1⟩ : ∃ W1, w.alloc (.cells #[.int .i64 c, .int .i64 (u : Int), slW s] 56) = W1 := ⟨_, rfl⟩
  have b1 : Below w.heap.size w W1 := by rw [← hW1]; exact (Below.refl _ _).alloc (Nat.le_refl _) _
  have s1 : W1.heap.size = w.heap.size + 1 := by rw [← hW1]; simp
  obtain ⟨W2, hW2⟩ : ∃ W2, W1.alloc (.cells #[.int .i64 c, .int .i64 (u : Int), slW s'] 56) = W2 := ⟨_, rfl⟩
  have b2 : Below W1.heap.size W1 W2 := by rw [← hW2]; exact (Below.refl _ _).alloc (Nat.le_refl _) _
  have hB2 : Below w.heap.size w W2 := b1.trans (b2.mono (by omega))
  obtain ⟨x0, x1, x2, -⟩ := res_block3 hW1 (b2.mono (by omega))
  obtain ⟨y0, y1, y2, -⟩ := res_block3 hW2 (Below.refl _ W2)
  rw [s1] at y0 y1 y2
  have HC := eqOpS_ft s s' l W2 (hs.below hB2) (hs'.below hB2) hf
  clear b1 b2 hs hs'
  go_enter Tryd.func35, Tryd.ntmps35
  go_wp2_with fail
  refine HC.mono ?_
  rintro e w3 ⟨rfl, h3⟩
  have hB3 := hB2.trans (h3.mono hB2.size)
  clear HC
  go_wp2
  go_ret
  exact ⟨rfl, hB3⟩


/-- The digits of a number ahead of a text. -/
def dgJ (k : Nat) (out : List Nat) : List Nat := if _h : k = 0 then out else dgJ (k / 10) ((48 + k % 10) :: out)
termination_by k
decreasing_by omega
theorem dgJ_zero (out : List Nat) : dgJ 0 out = out := by rw [dgJ, dif_pos rfl]
theorem dgJ_step {k : Nat} (h : k ≠ 0) (out : List Nat) : dgJ k out = dgJ (k / 10) ((48 + k % 10) :: out) := by rw [dgJ, dif_neg h]
/-- The mark of a number from 1 on. -/
def mtJ (k : Nat) : ByteArray := str (109 :: dgJ k [])
set_option maxHeartbeats 800000 in
set_option maxRecDepth 100000 in
theorem markText_eq (k : Nat) (w : World) (h1 : 1 ≤ k) (hk : k ≤ 4194304) : Calls Tryd.prog 58 #[.int .i64 (k : Int)] w fun e w' => e = .returned (.string (mtJ k)) ∧ Below w.heap.size w w' := by
  have c1 : ¬ (k : Int) ≤ 0 := by omega
  go_enter Tryd.func58, Tryd.ntmps58
  go_wp2
  go_loopw [0, 3] (fun q v wr => ∃ (j : Nat) (out : List Nat), j + out.length ≤ k ∧ q = .int .i64 j ∧ v = .string (str out) ∧ dgJ k [] = dgJ j out ∧ Below w.heap.size w wr) (fun q _ _ => (intOf q).toNat)
  case atStart => exact ⟨k, [], Nat.le_refl _, rfl, rfl, rfl, Below.refl _ _⟩
  case round =>
    obtain ⟨j, out, hj, rfl, rfl, hd, hbel⟩ := hrel
    have hos : (str out).size = out.length := str_size out
    have hob : out.length ≤ 4194304 := by omega
    by_cases hj0 : j = 0
    · subst hj0
      rw [dgJ_zero] at hd
      have HM : Hid (⟨#[109]⟩ ++ str out = mtJ k) := by
        show _ = _
        unfold mtJ; rw [hd]
        exact strJ_plus [109] out
      clear hd
      generalize hL : out.length = L at *
      clear hL
      generalize str out = so at *
      go_wp2
      go_ret
      exact ⟨by rw [← HM.out]; rfl, hbel⟩
    · have hjp : (0 : Int) < (j : Int) := by omega
      obtain ⟨r, hr⟩ : ∃ r, r = j % 10 := ⟨_, rfl⟩
      obtain ⟨p, hp⟩ : ∃ p, p = j / 10 := ⟨_, rfl⟩
      have hr10 : r < 10 := by omega
      have hpj : p < j := by omega
      have HD : Hid (dgJ k [] = dgJ p ((48 + r) :: out)) := by
        show _ = _
        rw [hd, dgJ_step hj0, ← hr, ← hp]
      have hst := fun (c : Nat) => run_str (w := wr.alloc (.cells #[.int .u8 ((48 + r : Nat) : Int)] 5)) (a := some ⟨wr.heap.size, 0, none⟩) (n := 1) (cap := c) (l := [48 + r]) rfl (.inr ⟨wr.heap.size, 0, rfl, by simp, fun i hi => by
        have : i = 0 := by simp at hi; omega
        subst this; simp [nth]⟩)
      rw [show ((48 + r : Nat) : Int) = 48 + (r : Int) by omega] at hst
      have e1 : (j : Int) % 10 = (r : Int) := by omega
      have e2 : (j : Int) / 10 = (p : Int) := by omega
      have HP : Hid (str [48 + r] ++ str out = str ((48 + r) :: out)) := strJ_plus [48 + r] out
      have hsr : (str [48 + r]).size = 1 := str_size _
      have HL : Hid (p + ((48 + r) :: out).length ≤ k) := by
        show _ ≤ _
        rw [List.length_cons]; omega
      have hb2 : Below w.heap.size w (wr.alloc (.cells #[.int .u8 (48 + (r : Int))] 5)) := hbel.alloc hbel.size _
      clear hd hr hp
      go_wp2
      go_roundw
      case rel => exact ⟨p, (48 + r) :: out, HL.out, rfl, by rw [HP.out], HD.out, hb2⟩
      case measure => simp [intOf]; omega


/-- The mark that an op begins with. -/
def kJ (l : List OpR) : Nat := l.foldl (fun k o => k + 6 + o.u.length + o.b.length) 1
theorem kJ_snoc (l : List OpR) (j : Nat) (h : j < l.length) : kJ (l.take (j + 1)) = kJ (l.take j) + 6 + (nthO l j).u.length + (nthO l j).b.length := by
  rw [List.take_succ_eq_append_getElem h, nthO_get h]
  unfold kJ
  rw [List.foldl_append]
  rfl
/-- An op of a row holds its marks. -/
structure HdJ (w : World) (b : Nat) (o : OpR) (k j : Nat) (p : SlO) : Prop where
  c0 : w.cell? ⟨b, j * 8, none⟩ = some (.int .i64 (k : Int))
  c1 : w.cell? ⟨b, j * 8 + 1, none⟩ = some (.string (mtJ (k + 1)))
  c2 : w.cell? ⟨b, j * 8 + 2, none⟩ = some (.string (mtJ (k + 2)))
  c3 : w.cell? ⟨b, j * 8 + 3, none⟩ = some (slW p.1)
  c4 : w.cell? ⟨b, j * 8 + 4, none⟩ = some (.int .i64 ((k + 3 + p.1.2.1 : Nat) : Int))
  c5 : w.cell? ⟨b, j * 8 + 5, none⟩ = some (.int .i64 (((k + 3 + p.1.2.1 : Nat) : Int) + 1))
  c6 : w.cell? ⟨b, j * 8 + 6, none⟩ = some (.int .i64 (((k + 3 + p.1.2.1 : Nat) : Int) + 1 + 1))
  c7 : w.cell? ⟨b, j * 8 + 7, none⟩ = some (slW p.2)
  u : RdI w p.1.1 (marksI p.1.2.1 (k + 3))
  d : Rd w p.2.1 (marks p.2.2.1 (k + 3 + p.1.2.1 + 3))
  n1 : p.1.2.1 = o.u.length
  n2 : p.2.2.1 = o.b.length

set_option maxHeartbeats 1600000 in
set_option maxRecDepth 100000 in
theorem heldOpS_any (a : Option Addr) (b n cap : Nat) (l : List OpR) (w : World) (ha : n = 0 ∨ a = some ⟨b, 0, none⟩) (hb : n = 0 ∨ b < w.heap.size) (hl : l.length = n) (hn : n ≤ 8000) (h : ∀ j, j < n → ∃ p, HdJ w b (nthO l j) (kJ (l.take j)) j p) (hk : ∀ j, j ≤ n → 1 ≤ kJ (l.take j) ∧ kJ (l.take j) ≤ 500000) :
    Calls Tryd.prog 60 #[.slice a n cap, .int .i64 1] w fun e w' => e = .returned (.int .i64 (kJ l : Int)) ∧ Below w.heap.size w w' := by
  have HL : Hid (l.length = n) := hl
  have HH : Hid (∀ j, j < n → ∃ p, HdJ w b (nthO l j) (kJ (l.take j)) j p) := h
  have HK : Hid (∀ j, j ≤ n → 1 ≤ kJ (l.take j) ∧ kJ (l.take j) ≤ 500000) := hk
  clear h hl hk
  go_enter Tryd.func60, Tryd.ntmps60
  go_wp2
  go_loopw [1, 5] (fun q i wr => ∃ j : Nat, j ≤ n ∧ i = .int .i64 j ∧ q = .int .i64 ((kJ (l.take j) : Nat) : Int) ∧ Below w.heap.size w wr) (fun _ i _ => n - (intOf i).toNat)
  case atStart => exact ⟨0, Nat.zero_le _, rfl, rfl, Below.refl _ _⟩
  case round =>
    obtain ⟨j, hj, rfl, rfl, hbel⟩ := hrel
    by_cases hjn : j < n
    · obtain rfl : a = some ⟨b, 0, none⟩ := ha.resolve_left (by omega)
      have hblt : b < w.heap.size := hb.resolve_left (by omega)
      have hji : (j : Int) < (n : Int) := by omega
      obtain ⟨p, h0, hc1', hc2', h3, h4, h5, h6, h7, hu, hd, n1, n2⟩ := HH.out j hjn
      have HSN : Hid (kJ (l.take (j + 1)) = kJ (l.take j) + 6 + p.1.2.1 + p.2.2.1) := by show _ = _; rw [kJ_snoc l j (by rw [HL.out]; exact hjn), n1, n2]
      obtain ⟨hk1, hk2⟩ := HK.out j hj
      have hk3 := (HK.out (j + 1) hjn).2
      rw [HSN.out] at hk3
      have lb : b < wr.heap.size := Nat.lt_of_lt_of_le hblt hbel.size
      have hW : ∀ f, wr.cell? ⟨b, f, none⟩ = w.cell? ⟨b, f, none⟩ := fun f => hbel.cell (p := ⟨b, f, none⟩) hblt
      have HCS : Hid (∀ x, Below wr.heap.size wr x → x.cell? ⟨b, j * 8 + 3, none⟩ = some (slW p.1) ∧ x.cell? ⟨b, j * 8 + 4, none⟩ = some (.int .i64 ((kJ (l.take j) + 3 + p.1.2.1 : Nat) : Int)) ∧ x.cell? ⟨b, j * 8 + 5, none⟩ = some (.int .i64 (((kJ (l.take j) + 3 + p.1.2.1 : Nat) : Int) + 1)) ∧ x.cell? ⟨b, j * 8 + 6, none⟩ = some (.int .i64 (((kJ (l.take j) + 3 + p.1.2.1 : Nat) : Int) + 1 + 1)) ∧ x.cell? ⟨b, j * 8 + 7, none⟩ = some (slW p.2) ∧ RdI x p.1.1 (marksI p.1.2.1 (kJ (l.take j) + 3)) ∧ Rd x p.2.1 (marks p.2.2.1 (kJ (l.take j) + 3 + p.1.2.1 + 3)) ∧ Below w.heap.size w x) := fun x hx => by
        have hX : ∀ f, x.cell? ⟨b, f, none⟩ = w.cell? ⟨b, f, none⟩ := fun f => (hx.cell (p := ⟨b, f, none⟩) lb).trans (hW f)
        have hB : Below w.heap.size w x := hbel.trans (hx.mono hbel.size)
        exact ⟨(hX _).trans h3, (hX _).trans h4, (hX _).trans h5, (hX _).trans h6, (hX _).trans h7, hu.below hB, hd.below hB, hB⟩
      have c0 := (hW _).trans h0
      have hc1 := (hW _).trans hc1'
      have hcB := (hW _).trans hc2'
      clear h0 hc1' hc2' h3 h4 h5 h6 h7 hu hd n1 n2 hW
      generalize kJ (l.take j) = k at *
      have HT1 : Hid (∀ w, Calls Tryd.prog 58 #[.int .i64 ((k : Int) + 1)] w fun e w' => e = .returned (.string (mtJ (k + 1))) ∧ Below w.heap.size w w') := fun w => markText_eq (k + 1) w (by omega) (by omega)
      have HT2 : Hid (∀ w, Calls Tryd.prog 58 #[.int .i64 ((k : Int) + 1 + 1)] w fun e w' => e = .returned (.string (mtJ (k + 2))) ∧ Below w.heap.size w w') := fun w => markText_eq (k + 2) w (by omega) (by omega)
      generalize mtJ (k + 1) = t0 at *
      generalize mtJ (k + 2) = t1 at *
      obtain ⟨⟨ua, un, uc⟩, ⟨ba, bn, bc'⟩⟩ := p
      dsimp only [slW] at HCS hk3 HSN
      go_wp2_with fail
      refine wp_region_held_drew (S := fun w' => w'.cell? ⟨b, j * 8 + 1, none⟩ = some (.string t0)) (by kernel_rfl) ?hS1 (fun hHeld => ?_)
      case hS1 => exact hc1
      refine wpAnyH_take (i := 0) (v := ?_) rfl (by kernel_rfl) (by kernel_rfl) (by kernel_rfl) (fun _ _ _ h => h) (Or.inl ⟨by rfl, ?hy10⟩) (by assumption) ?ty10
      case hy10 => (intro w hSw; (try dsimp only at hSw); go_simp; all_goals with_reducible rfl)
      simp only [Act.put, List.getElem_toArray, List.getElem_cons_zero, List.setIfInBounds_toArray, List.set_cons_zero, List.set_cons_succ]
      refine wpAnyH_take (i := 1) (v := ?_) rfl (by kernel_rfl) (by kernel_rfl) (by kernel_rfl) (fun _ _ _ h => h) (Or.inl ⟨by rfl, ?hy11⟩) (by assumption) ?ty11
      case hy11 => (intro w hSw; (try dsimp only at hSw); go_simp; all_goals with_reducible rfl)
      simp only [Act.put, List.getElem_toArray, List.getElem_cons_zero, List.getElem_cons_succ, List.setIfInBounds_toArray, List.set_cons_zero, List.set_cons_succ]
      refine wpAnyH_take (i := 2) (v := ?_) rfl (by kernel_rfl) (by kernel_rfl) (by kernel_rfl) (fun _ _ _ h => h) (Or.inl ⟨by rfl, ?hy12⟩) (by assumption) ?ty12
      case hy12 => (intro w hSw; (try dsimp only at hSw); go_simp; all_goals with_reducible rfl)
      simp only [Act.put, List.getElem_toArray, List.getElem_cons_zero, List.getElem_cons_succ, List.setIfInBounds_toArray, List.set_cons_zero, List.set_cons_succ]
      refine wpAnyH_take (i := 3) (v := ?_) rfl (by kernel_rfl) (by kernel_rfl) (by kernel_rfl) (fun _ _ _ h => h) (Or.inl ⟨by rfl, ?hy13⟩) (by assumption) ?ty13
      case hy13 => (intro w hSw; (try dsimp only at hSw); go_simp; all_goals with_reducible rfl)
      simp only [Act.put, List.getElem_toArray, List.getElem_cons_zero, List.getElem_cons_succ, List.setIfInBounds_toArray, List.set_cons_zero, List.set_cons_succ]
      refine wpAnyH_take (i := 4) (v := ?_) rfl (by kernel_rfl) (by kernel_rfl) (by kernel_rfl) (fun _ _ _ h => h) (Or.inl ⟨by rfl, ?hy14⟩) (by assumption) ?ty14
      case hy14 => (intro w hSw; (try dsimp only at hSw); go_simp; all_goals with_reducible rfl)
      simp only [Act.put, List.getElem_toArray, List.getElem_cons_zero, List.getElem_cons_succ, List.setIfInBounds_toArray, List.set_cons_zero, List.set_cons_succ]
      refine wpAnyH_take (i := 5) (v := ?_) rfl (by kernel_rfl) (by kernel_rfl) (by kernel_rfl) (fun _ _ _ h => h) (Or.inl ⟨by rfl, ?hy15⟩) (by assumption) ?ty15
      case hy15 => (intro w hSw; (try dsimp only at hSw); go_simp; all_goals with_reducible rfl)
      simp only [Act.put, List.getElem_toArray, List.getElem_cons_zero, List.getElem_cons_succ, List.setIfInBounds_toArray, List.set_cons_zero, List.set_cons_succ]
      refine wpAnyH_ready (rs := [6]) (by kernel_rfl) (by simp) ?_
      refine AllReadyH.cons rfl (fun K hK => ?_) AllReadyH.nil
      go_simp
      refine (HT1.out _).mono ?_
      rintro e w1 ⟨rfl, hbx⟩
      have HWw1 : Hid (Below wr.heap.size wr w1) := (Below.refl _ _).drew.trans hbx
      have hsS : w1.cell? ⟨b, j * 8 + 1, none⟩ = some (.string t0) := (HWw1.out.cell (p := ⟨b, j * 8 + 1, none⟩) lb).trans hc1
      refine hK.out _ _ hsS (fun hHeld => ?_)
      clear hK K
      refine wpAnyH_take (i := 7) (v := .bool false) rfl (by kernel_rfl) (by kernel_rfl) (by kernel_rfl) (fun _ _ _ h => h) (Or.inl ⟨by rfl, ?hy17⟩) (by assumption) ?ty17
      case hy17 => (intro w hSw; (try dsimp only at hSw); go_simp; first | (simp; done) | (all_goals with_reducible rfl))
      simp only [Act.put, List.getElem_toArray, List.getElem_cons_zero, List.getElem_cons_succ, List.setIfInBounds_toArray, List.set_cons_zero, List.set_cons_succ]
      refine wpAnyH_done (by kernel_rfl) ?_ _
      clear hHeld hbx hsS HT1
      have hc2 := (HWw1.out.cell (p := ⟨b, j * 8 + 2, none⟩) lb).trans hcB
      have lb1 : b < w1.heap.size := Nat.lt_of_lt_of_le lb HWw1.out.size
      clear c0 hc1 hcB
      go_wp2_with fail
      refine wp_region_held_drew (S := fun w' => w'.cell? ⟨b, j * 8 + 2, none⟩ = some (.string t1)) (by kernel_rfl) ?hS2 (fun hHeld => ?_)
      case hS2 => exact hc2
      refine wpAnyH_take (i := 0) (v := ?_) rfl (by kernel_rfl) (by kernel_rfl) (by kernel_rfl) (fun _ _ _ h => h) (Or.inl ⟨by rfl, ?hy20⟩) (by assumption) ?ty20
      case hy20 => (intro w hSw; (try dsimp only at hSw); go_simp; all_goals with_reducible rfl)
      simp only [Act.put, List.getElem_toArray, List.getElem_cons_zero, List.setIfInBounds_toArray, List.set_cons_zero, List.set_cons_succ]
      refine wpAnyH_take (i := 1) (v := ?_) rfl (by kernel_rfl) (by kernel_rfl) (by kernel_rfl) (fun _ _ _ h => h) (Or.inl ⟨by rfl, ?hy21⟩) (by assumption) ?ty21
      case hy21 => (intro w hSw; (try dsimp only at hSw); go_simp; all_goals with_reducible rfl)
      simp only [Act.put, List.getElem_toArray, List.getElem_cons_zero, List.getElem_cons_succ, List.setIfInBounds_toArray, List.set_cons_zero, List.set_cons_succ]
      refine wpAnyH_take (i := 2) (v := ?_) rfl (by kernel_rfl) (by kernel_rfl) (by kernel_rfl) (fun _ _ _ h => h) (Or.inl ⟨by rfl, ?hy22⟩) (by assumption) ?ty22
      case hy22 => (intro w hSw; (try dsimp only at hSw); go_simp; all_goals with_reducible rfl)
      simp only [Act.put, List.getElem_toArray, List.getElem_cons_zero, List.getElem_cons_succ, List.setIfInBounds_toArray, List.set_cons_zero, List.set_cons_succ]
      refine wpAnyH_take (i := 3) (v := ?_) rfl (by kernel_rfl) (by kernel_rfl) (by kernel_rfl) (fun _ _ _ h => h) (Or.inl ⟨by rfl, ?hy23⟩) (by assumption) ?ty23
      case hy23 => (intro w hSw; (try dsimp only at hSw); go_simp; all_goals with_reducible rfl)
      simp only [Act.put, List.getElem_toArray, List.getElem_cons_zero, List.getElem_cons_succ, List.setIfInBounds_toArray, List.set_cons_zero, List.set_cons_succ]
      refine wpAnyH_take (i := 4) (v := ?_) rfl (by kernel_rfl) (by kernel_rfl) (by kernel_rfl) (fun _ _ _ h => h) (Or.inl ⟨by rfl, ?hy24⟩) (by assumption) ?ty24
      case hy24 => (intro w hSw; (try dsimp only at hSw); go_simp; all_goals with_reducible rfl)
      simp only [Act.put, List.getElem_toArray, List.getElem_cons_zero, List.getElem_cons_succ, List.setIfInBounds_toArray, List.set_cons_zero, List.set_cons_succ]
      refine wpAnyH_take (i := 5) (v := ?_) rfl (by kernel_rfl) (by kernel_rfl) (by kernel_rfl) (fun _ _ _ h => h) (Or.inl ⟨by rfl, ?hy25⟩) (by assumption) ?ty25
      case hy25 => (intro w hSw; (try dsimp only at hSw); go_simp; all_goals with_reducible rfl)
      simp only [Act.put, List.getElem_toArray, List.getElem_cons_zero, List.getElem_cons_succ, List.setIfInBounds_toArray, List.set_cons_zero, List.set_cons_succ]
      refine wpAnyH_ready (rs := [6]) (by kernel_rfl) (by simp) ?_
      refine AllReadyH.cons rfl (fun K hK => ?_) AllReadyH.nil
      go_simp
      refine (HT2.out _).mono ?_
      rintro e w2 ⟨rfl, hbx⟩
      have HWw2 : Hid (Below w1.heap.size w1 w2) := (Below.refl _ _).drew.trans hbx
      have hsS : w2.cell? ⟨b, j * 8 + 2, none⟩ = some (.string t1) := (HWw2.out.cell (p := ⟨b, j * 8 + 2, none⟩) lb1).trans hc2
      refine hK.out _ _ hsS (fun hHeld => ?_)
      clear hK K
      refine wpAnyH_take (i := 7) (v := .bool false) rfl (by kernel_rfl) (by kernel_rfl) (by kernel_rfl) (fun _ _ _ h => h) (Or.inl ⟨by rfl, ?hy27⟩) (by assumption) ?ty27
      case hy27 => (intro w hSw; (try dsimp only at hSw); go_simp; first | (simp; done) | (all_goals with_reducible rfl))
      simp only [Act.put, List.getElem_toArray, List.getElem_cons_zero, List.getElem_cons_succ, List.setIfInBounds_toArray, List.set_cons_zero, List.set_cons_succ]
      refine wpAnyH_done (by kernel_rfl) ?_ _
      clear hHeld hbx hsS HT2
      have HWx : Hid (Below wr.heap.size wr w2) := HWw1.out.trans (HWw2.out.mono HWw1.out.size)
      obtain ⟨c3, c4, c5, c6, c7, hu, hd, hB⟩ := HCS.out w2 HWx.out
      clear HCS HWx HWw1 HWw2 hc2
      have HC := heldInt64S_any ua un uc (k + 3) w2 hu (by omega) (by omega)
      rw [show ((k + 3 : Nat) : Int) = (k : Int) + 1 + 1 + 1 by omega] at HC
      obtain ⟨kq, hkq⟩ : ∃ kq, k + 3 + un = kq := ⟨_, rfl⟩
      rw [hkq] at HC hd c4 c5 c6
      have HD := heldByteS_any ba bn bc' (kq + 3) w2 hd (by omega) (by omega)
      rw [show ((kq + 3 : Nat) : Int) = (kq : Int) + 1 + 1 + 1 by omega] at HD
      obtain ⟨kr, hkr⟩ : ∃ kr, kq + 3 + bn = kr := ⟨_, rfl⟩
      rw [hkr] at HD
      have HKR : Hid (kJ (l.take (j + 1)) = kr) := by show _ = _; rw [HSN.out]; omega
      have hp1 : ¬ (kq : Int) < 0 := by omega
      have hp2 : ¬ (kr : Int) < 0 := by omega
      clear hu hd HSN
      go_wp2_with fail
      refine HC.mono ?_
      rintro e w3 ⟨rfl, rfl⟩
      clear HC
      go_wp2_with fail
      refine HD.mono ?_
      rintro e w3 ⟨rfl, rfl⟩
      clear HD
      go_wp2
      go_roundw
      case rel => exact ⟨j + 1, by omega, by go_num, by rw [HKR.out], hB⟩
      case measure => simp [intOf]; omega
    · have hji : ¬ (j : Int) < (n : Int) := by omega
      go_wp2
      go_ret
      refine ⟨?_, hbel⟩
      rw [show kJ l = kJ (l.take j) by rw [List.take_of_length_le (by rw [HL.out]; omega)]]
      rfl


/-- Where a slice of an op lies, or a block that nothing lies in. -/
theorem InS.pick {k m b z : Nat} {s : SlQ} {w : World} (h : InS k m s) (hw : WrQ k w s) (hb : b < k ∨ m ≤ b) (hm : m ≤ z) (hbz : b < z) : ∃ g, ((s.2.1 = 0 ∧ g = z) ∨ (s.1 = some ⟨g, 0, none⟩ ∧ k ≤ g ∧ g < m)) ∧ g ≠ b ∧ (∀ i, i < s.2.1 → (w.cell? ⟨g, i, none⟩).isSome = true ∧ w.frozen? ⟨g, i, none⟩ = false) := by
  rcases h with h | ⟨g, e, h1, h2⟩
  · exact ⟨z, .inl ⟨h, rfl⟩, by omega, fun i hi => by omega⟩
  · refine ⟨g, .inr ⟨e, h1, h2⟩, by omega, ?_⟩
    rcases hw with h | ⟨g', e', -, -, h⟩
    · exact fun i hi => by omega
    · rw [e] at e'; cases e'; exact h
theorem MkQ.mk1 {B g : Nat} {w x y : World} (h : MkQ B w.heap.size w x) (hm : MkJ g (g + 1) x y) (hl : B ≤ g) : MkQ B w.heap.size w y :=
  ⟨h.1.trans (hm.1.mono hl), fun p h1 h2 => by omega, fun p h1 h2 => hm.2.2.1 p (h.2.2.1 p h1 h2), fun p h1 => (hm.2.2.2 p).trans (h.2.2.2 p h1)⟩
theorem wr_at {B g n : Nat} {w x : World} (h : MkQ B w.heap.size w x) (d : ∀ i, i < n → (w.cell? ⟨g, i, none⟩).isSome = true ∧ w.frozen? ⟨g, i, none⟩ = false) : ∀ i, i < n → (x.cell? ⟨g, i, none⟩).isSome = true ∧ x.frozen? ⟨g, i, none⟩ = false := fun i hi => by
  obtain ⟨u, hu⟩ := Option.isSome_iff_exists.1 (d i hi).1
  have hlt : g < w.heap.size := World.block_lt_of_cell? w ⟨g, i, none⟩ hu
  exact ⟨h.2.2.1 ⟨g, i, none⟩ hlt (d i hi).1, (h.2.2.2 ⟨g, i, none⟩ hlt).trans (d i hi).2⟩
theorem MkJ.one {g : Nat} {w w' : World} (h : MkJ g (g + 1) w w') (x : Addr) (hx : x.block ≠ g) : w'.cell? x = w.cell? x := by
  rcases Nat.lt_or_ge x.block g with h' | h'
  · exact h.1.cell h'
  · exact h.2.1 x (by omega)
theorem HdJ.keep {w w' : World} {b k j : Nat} {o : OpR} {p : SlO} (h : HdJ w b o k j p) (hr : ∀ f, j * 8 ≤ f → f < (j + 1) * 8 → w'.cell? ⟨b, f, none⟩ = w.cell? ⟨b, f, none⟩) {lo hi : Nat} (hs : hi ≤ w'.heap.size) (h1 : InS lo hi p.1) (h2 : InS lo hi p.2) (hk : ∀ g f, lo ≤ g → g < hi → w'.cell? ⟨g, f, none⟩ = w.cell? ⟨g, f, none⟩) : HdJ w' b o k j p := by
  obtain ⟨c0, c1, c2, c3, c4, c5, c6, c7, hu, hd, n1, n2⟩ := h
  refine ⟨(hr _ (by omega) (by omega)).trans c0, (hr _ (by omega) (by omega)).trans c1, (hr _ (by omega) (by omega)).trans c2, (hr _ (by omega) (by omega)).trans c3, (hr _ (by omega) (by omega)).trans c4, (hr _ (by omega) (by omega)).trans c5, (hr _ (by omega) (by omega)).trans c6, (hr _ (by omega) (by omega)).trans c7, ?_, ?_, n1, n2⟩
  · rcases hu with hu | ⟨g, off, e, hlt, hc⟩
    · exact .inl hu
    · rcases h1 with h1 | ⟨g', e', a1, a2⟩
      · left; rw [h1]; rfl
      · rw [e] at e'; cases e'
        exact .inr ⟨g, 0, e, by omega, fun i hi => (hk g _ a1 a2).trans (hc i hi)⟩
  · rcases hd with hd | ⟨g, off, e, hlt, hc⟩
    · exact .inl hd
    · rcases h2 with h2 | ⟨g', e', a1, a2⟩
      · left; rw [h2]; rfl
      · rw [e] at e'; cases e'
        exact .inr ⟨g, 0, e, by omega, fun i hi => (hk g _ a1 a2).trans (hc i hi)⟩
/-- Ops one behind the other: where each lies. -/
theorem OpsIn.two {w : World} {own : Option Nat} : ∀ {ps : List SlO} {os : List OpR} {lo hi : Nat}, OpsIn w own lo hi ps os → ∃ A M : Nat → Nat, (∀ i, i < os.length → ∃ p, ps[i]? = some p ∧ lo ≤ A i ∧ M i ≤ hi ∧ OpIn w own (A i) (M i) p (nthO os i)) ∧ ∀ i j, i < j → j < os.length → M i ≤ A j
  | [], [], _, _, _ => ⟨fun _ => 0, fun _ => 0, fun i hi => by simp at hi, fun i j _ hj => by simp at hj⟩
  | p :: ps, o :: os, _, _, ⟨k, m, h0, h1, h2⟩ => by
    obtain ⟨A, M, hA, hM⟩ := OpsIn.two h2
    refine ⟨fun i => match i with | 0 => k | i + 1 => A i, fun i => match i with | 0 => m | i + 1 => M i, fun i hi => ?_, fun i j hij hj => ?_⟩
    · cases i with
      | zero => exact ⟨p, rfl, h0, h2.le.1, h1⟩
      | succ i =>
        obtain ⟨p', e, g0, g1, g2⟩ := hA i (by simpa using hi)
        exact ⟨p', by simpa using e, Nat.le_trans h0 (Nat.le_trans h1.le g0), g1, g2⟩
    · cases j with
      | zero => omega
      | succ j =>
        cases i with
        | zero =>
          obtain ⟨p', e, g0, -⟩ := hA j (by simpa using hj)
          exact g0
        | succ i => exact hM i j (by omega) (by simpa using hj)
  | [], _ :: _, _, _, h => h.elim
  | _ :: _, [], _, _, h => h.elim

/-- A row of ops, cell by cell. -/
def RwC (w : World) (B hi : Nat) (a : Option Addr) (n : Nat) (l : List OpR) : Prop := ∃ (b : Nat) (A M : Nat → Nat), (n = 0 ∨ a = some ⟨b, 0, none⟩) ∧ (n = 0 ∨ B ≤ b) ∧ (n = 0 ∨ b < w.heap.size) ∧ Hid (n = 0 ∨ ∀ i, w.frozen? ⟨b, i, none⟩ = false) ∧ Hid (∀ i, i < n → ∃ p : SlO, Qp w b (i * 8) (opQ (nthO l i) p) ∧ OpIn w (some b) (A i) (M i) p (nthO l i) ∧ B ≤ A i) ∧ Hid (∀ i j, i < j → j < n → M i ≤ A j) ∧ Hid ((n = 0 ∨ b < hi) ∧ ∀ i, i < n → M i ≤ hi)
theorem RwO.rc {w : World} {B n cap : Nat} {a : Option Addr} {l : List OpR} (h : RwO w B (.slice a n cap) l) (hl : l.length = n) : RwC w B w.heap.size a n l := by
  obtain ⟨ps, hps, ho, hi⟩ := h
  obtain ⟨A, M, hA, hM⟩ := hi.two
  rw [hl] at hA hM
  have hzl : (List.zipWith opQ l ps).length = n := by rw [List.length_zipWith, hps, Nat.min_self, hl]
  have ho' : w.ownsRow B 28 8 (.slice a n cap) n (oc (List.zipWith opQ l ps)) := by have := ho; unfold OwnO at this; rw [hzl] at this; exact this
  rcases id ho'.2 with ⟨h', h0⟩ | ⟨g, cap', cur, h', hB, hg, _⟩
  · exact ⟨0, A, M, .inl h0, .inl h0, .inl h0, .inl h0, fun i hi => by omega, fun i j h1 h2 => by omega, .inl h0, fun i hi => by omega⟩
  · injection h' with e1 e2 e3
    subst e1
    refine ⟨g, A, M, .inr rfl, .inr hB, .inr (World.ownsRow.lt ho' g rfl).2, .inr (fun i => ho'.frozenAt i), fun i hi' => ?_, hM, .inr (World.ownsRow.lt ho' g rfl).2, fun i hi' => by obtain ⟨p, -, -, h, -⟩ := hA i hi'; exact h⟩
    obtain ⟨p, hp', hk', -, hin⟩ := hA i hi'
    have hc := ownO_cells ho' i (by rw [hzl]; exact hi')
    rw [nthOc_zip (by rw [hl]; exact hi') hp'] at hc
    exact ⟨p, hc.2, hin, hk'⟩
theorem RwC.keep {w w' : World} {B hi n : Nat} {a : Option Addr} {l : List OpR} (h : RwC w B hi a n l) (hs : w.heap.size ≤ w'.heap.size) (hc : ∀ g i, B ≤ g → g < w.heap.size → w'.cell? ⟨g, i, none⟩ = w.cell? ⟨g, i, none⟩ ∧ w'.frozen? ⟨g, i, none⟩ = w.frozen? ⟨g, i, none⟩) : RwC w' B hi a n l := by
  obtain ⟨b, A, M, ha, hB, hbw, HZ, HH, HM, HHI⟩ := h
  refine ⟨b, A, M, ha, hB, hbw.imp id (fun h => Nat.lt_of_lt_of_le h hs), ?_, fun i hi => ?_, HM, HHI⟩
  · rcases Nat.eq_zero_or_pos n with h | h
    · exact .inl h
    · exact .inr (fun i => ((hc b i (hB.resolve_left (by omega)) (hbw.resolve_left (by omega))).2).trans (HZ.out.resolve_left (by omega) i))
  · obtain ⟨p, hq, hin, hBA⟩ := HH.out i hi
    have hBb := hB.resolve_left (by omega)
    have hbl := hbw.resolve_left (by omega)
    obtain ⟨c0, c1, c2, c3, c4, c5, c6, c7⟩ := hq
    have e : ∀ f, w'.cell? ⟨b, f, none⟩ = w.cell? ⟨b, f, none⟩ := fun f => (hc b f hBb hbl).1
    refine ⟨p, ⟨(e _).trans c0, (e _).trans c1, (e _).trans c2, (e _).trans c3, (e _).trans c4, (e _).trans c5, (e _).trans c6, (e _).trans c7⟩, hin.kept hs (fun g h1 h2 h3 => ?_) (fun g e => .inl e), hBA⟩
    have := hin.hi_le
    exact ⟨by omega, fun i => hc g i (by omega) (by omega)⟩
/-- How the marks of a row end. -/
def MkE (B hi n : Nat) (a : Option Addr) (l : List OpR) (w : World) (e : Ending) (w' : World) : Prop := e = .returned (.int .i64 (kJ l : Int)) ∧ MkQ B w.heap.size w w' ∧ (∀ g f, hi ≤ g → g < w.heap.size → w'.cell? ⟨g, f, none⟩ = w.cell? ⟨g, f, none⟩) ∧ ∃ b, (n = 0 ∨ a = some ⟨b, 0, none⟩) ∧ (n = 0 ∨ b < w'.heap.size) ∧ ∀ j, j < n → ∃ p, HdJ w' b (nthO l j) (kJ (l.take j)) j p

set_option maxHeartbeats 1600000 in
set_option maxRecDepth 100000 in
theorem markOpS_hd (a : Option Addr) (n cap B hi : Nat) (l : List OpR) (w : World) (h : RwC w B hi a n l) (hl : l.length = n) (hn : n ≤ 8000) (hk : ∀ j, j ≤ n → 1 ≤ kJ (l.take j) ∧ kJ (l.take j) ≤ 500000) :
    Calls Tryd.prog 32 #[.slice a n cap, .int .i64 1] w fun e w' => MkE B hi n a l w e w' := by
  have HL : Hid (l.length = n) := hl
  have HK : Hid (∀ j, j ≤ n → 1 ≤ kJ (l.take j) ∧ kJ (l.take j) ≤ 500000) := hk
  obtain ⟨b, A, M, ha, hB, hbw, HZ, HH, HM, HHI⟩ := h
  clear hl hk
  go_enter Tryd.func32, Tryd.ntmps32
  go_wp2
  go_loopw [1, 5] (fun q i wr => ∃ j : Nat, j ≤ n ∧ i = .int .i64 j ∧ q = .int .i64 ((kJ (l.take j) : Nat) : Int) ∧ MkQ B w.heap.size w wr ∧ (∀ i, i < j → ∃ p, HdJ wr b (nthO l i) (kJ (l.take i)) i p ∧ OpIn w (some b) (A i) (M i) p (nthO l i)) ∧ (∀ g f, g < w.heap.size → (∀ i, i < j → g < A i ∨ M i ≤ g) → (g = b → j * 8 ≤ f) → wr.cell? ⟨g, f, none⟩ = w.cell? ⟨g, f, none⟩)) (fun _ i _ => n - (intOf i).toNat)
  case atStart => exact ⟨0, Nat.zero_le _, rfl, rfl, MkQ.refl _ _ _, fun i hi => absurd hi (Nat.not_lt_zero _), fun _ _ _ _ _ => rfl⟩
  case round =>
    obtain ⟨j, hj, rfl, rfl, hmk, hall, hce⟩ := hrel
    by_cases hjn : j < n
    · obtain rfl : a = some ⟨b, 0, none⟩ := ha.resolve_left (by omega)
      have hBb : B ≤ b := hB.resolve_left (by omega)
      have hblt : b < w.heap.size := hbw.resolve_left (by omega)
      have hfz := HZ.out.resolve_left (by omega)
      have hji : (j : Int) < (n : Int) := by omega
      obtain ⟨p, hq, hin, hBA⟩ := HH.out j hjn
      have HSN : Hid (kJ (l.take (j + 1)) = kJ (l.take j) + 6 + p.1.2.1 + p.2.2.1) := by show _ = _; rw [kJ_snoc l j (by rw [HL.out]; exact hjn), hin.op.1.1, hin.op.2.1]
      obtain ⟨hk1, hk2⟩ := HK.out j hj
      have hk3 := (HK.out (j + 1) hjn).2
      rw [HSN.out] at hk3
      obtain ⟨c0, c1, c2, c3, c4, c5, c6, c7⟩ := hq
      dsimp only at c0 c1 c2 c3 c4 c5 c6 c7
      have hob := hin.off b rfl
      obtain ⟨g1, p1, q1, d1⟩ := hin.in1.pick hin.wr1 hob hin.hi_le hblt
      obtain ⟨g2, p2, q2, d2⟩ := hin.in2.pick hin.wr2 hob hin.hi_le hblt
      have hg12 : p.1.2.1 = 0 ∨ g1 ≠ g2 := by
        rcases p1 with h | h
        · exact .inl h.1
        · right
          rcases p2 with h' | h'
          · have := hin.hi_le; omega
          · exact hin.sp _ _ h.1 h'.1
      have hBw : B ≤ w.heap.size := by omega
      have hBg1 : B ≤ g1 := by rcases p1 with h | h <;> omega
      have hBg2 : B ≤ g2 := by rcases p2 with h | h <;> omega
      have HP1 : Hid ((A j ≤ g1 ∧ g1 < M j) ∨ g1 = w.heap.size) := p1.symm.imp (fun h => h.2) (fun h => h.2)
      have HP2 : Hid ((A j ≤ g2 ∧ g2 < M j) ∨ g2 = w.heap.size) := p2.symm.imp (fun h => h.2) (fun h => h.2)
      have HSM : Hid (∀ x, MkQ B w.heap.size w x → ∀ i, i < 8 → (x.cell? ⟨b, j * 8 + i, none⟩).isSome = true ∧ x.frozen? ⟨b, j * 8 + i, none⟩ = false) := fun x hx i hi => by
        refine ⟨hx.2.2.1 ⟨b, j * 8 + i, none⟩ hblt ?_, (hx.2.2.2 ⟨b, j * 8 + i, none⟩ hblt).trans (hfz _)⟩
        obtain rfl | rfl | rfl | rfl | rfl | rfl | rfl | rfl : i = 0 ∨ i = 1 ∨ i = 2 ∨ i = 3 ∨ i = 4 ∨ i = 5 ∨ i = 6 ∨ i = 7 := by omega
        · rw [Nat.add_zero, c0]; rfl
        · rw [c1]; rfl
        · rw [c2]; rfl
        · rw [c3]; rfl
        · rw [c4]; rfl
        · rw [c5]; rfl
        · rw [c6]; rfl
        · rw [c7]; rfl
      have HWC : Hid (∀ f, j * 8 ≤ f → wr.cell? ⟨b, f, none⟩ = w.cell? ⟨b, f, none⟩) := fun f hf => hce b f hblt (fun i hi => by obtain ⟨p', -, h⟩ := hall i hi; exact h.off b rfl) (fun _ => hf)
      have k3 := (HWC.out (j * 8 + 3) (by omega)).trans c3
      have k7 := (HWC.out (j * 8 + 7) (by omega)).trans c7
      have HK3 : Hid (_) := k3
      have HK7 : Hid (_) := k7
      have HAL : Hid (∀ i, i < j → ∃ p, HdJ wr b (nthO l i) (kJ (l.take i)) i p ∧ OpIn w (some b) (A i) (M i) p (nthO l i)) := hall
      have HCE : Hid (∀ g f, g < w.heap.size → (∀ i, i < j → g < A i ∨ M i ≤ g) → (g = b → j * 8 ≤ f) → wr.cell? ⟨g, f, none⟩ = w.cell? ⟨g, f, none⟩) := hce
      have HIN : Hid (OpIn w (some b) (A j) (M j) p (nthO l j)) := hin
      clear c0 c1 c2 c3 c4 c5 c6 c7 hall hce hin hob
      obtain ⟨⟨ua, un, uc⟩, ⟨ba, bn, bc'⟩⟩ := p
      dsimp only [slW] at HSN hk3 p1 p2 d1 d2 hg12 k3 k7
      have HD1 : Hid (∀ i, i < un → (w.cell? ⟨g1, i, none⟩).isSome = true ∧ w.frozen? ⟨g1, i, none⟩ = false) := d1
      have HD2 : Hid (∀ i, i < bn → (w.cell? ⟨g2, i, none⟩).isSome = true ∧ w.frozen? ⟨g2, i, none⟩ = false) := d2
      have HG1 : Hid (un = 0 ∨ ua = some ⟨g1, 0, none⟩) := p1.imp (fun h => h.1) (fun h => h.1)
      have HG2 : Hid (bn = 0 ∨ ba = some ⟨g2, 0, none⟩) := p2.imp (fun h => h.1) (fun h => h.1)
      clear d1 d2 p1 p2
      have HKJ : Hid (kJ (l.take j) = kJ (l.take j)) := rfl
      generalize hkk : kJ (l.take j) = k at *
      have HKK : Hid (kJ (l.take j) = k) := hkk
      clear hkk HKJ
      obtain ⟨s0, f0⟩ := HSM.out wr hmk 0 (by omega)
      obtain ⟨u0, s0⟩ := Option.isSome_iff_exists.1 s0
      rw [Nat.add_zero] at s0 f0
      have m1 := hmk.set (i := j * 8) (.int .i64 (k : Int)) hBb hblt
      have T1 := markText_eq (k + 1) (wr.setCell ⟨b, j * 8, none⟩ (.int .i64 (k : Int))) (by omega) (by omega)
      rw [show ((k + 1 : Nat) : Int) = (k : Int) + 1 by omega] at T1
      go_wp2_with fail
      refine T1.mono ?_
      rintro e w1 ⟨rfl, b1⟩
      have m2 := m1.grow b1 hBw
      have H1 : Hid (∀ q : Addr, q.block < w.heap.size → w1.cell? q = (wr.setCell ⟨b, j * 8, none⟩ (.int .i64 (k : Int))).cell? q) := fun q hq => b1.cell (Nat.lt_of_lt_of_le hq m1.1.size)
      have HS0 : Hid ((wr.setCell ⟨b, j * 8, none⟩ (.int .i64 (k : Int))).cell? ⟨b, j * 8, none⟩ = some (.int .i64 (k : Int))) := World.cell?_setCell_same _ _ _ s0
      clear T1 s0 f0 m1 b1
      obtain ⟨s1, f1⟩ := HSM.out w1 m2 1 (by omega)
      obtain ⟨u1, s1⟩ := Option.isSome_iff_exists.1 s1
      have m3 := m2.set (i := j * 8 + 1) (.string (mtJ (k + 1))) hBb hblt
      have T2 := markText_eq (k + 2) (w1.setCell ⟨b, j * 8 + 1, none⟩ (.string (mtJ (k + 1)))) (by omega) (by omega)
      rw [show ((k + 2 : Nat) : Int) = (k : Int) + 1 + 1 by omega] at T2
      go_wp2_with fail
      refine T2.mono ?_
      rintro e w2 ⟨rfl, b2⟩
      have m4 := m3.grow b2 hBw
      have H2 : Hid (∀ q : Addr, q.block < w.heap.size → w2.cell? q = (w1.setCell ⟨b, j * 8 + 1, none⟩ (.string (mtJ (k + 1)))).cell? q) := fun q hq => b2.cell (Nat.lt_of_lt_of_le hq m3.1.size)
      have HS1 : Hid ((w1.setCell ⟨b, j * 8 + 1, none⟩ (.string (mtJ (k + 1)))).cell? ⟨b, j * 8 + 1, none⟩ = some (.string (mtJ (k + 1)))) := World.cell?_setCell_same _ _ _ s1
      clear T2 s1 f1 m2 m3 b2
      obtain ⟨s2, f2⟩ := HSM.out w2 m4 2 (by omega)
      obtain ⟨u2, s2⟩ := Option.isSome_iff_exists.1 s2
      have m5 := m4.set (i := j * 8 + 2) (.string (mtJ (k + 2))) hBb hblt
      have HS2 : Hid ((w2.setCell ⟨b, j * 8 + 2, none⟩ (.string (mtJ (k + 2)))).cell? ⟨b, j * 8 + 2, none⟩ = some (.string (mtJ (k + 2)))) := World.cell?_setCell_same _ _ _ s2
      have hd3 : (w2.setCell ⟨b, j * 8 + 2, none⟩ (.string (mtJ (k + 2)))).cell? ⟨b, j * 8 + 3, none⟩ = some (.slice ua un uc) := by
        rw [World.cell?_setCell_other _ _ _ _ (fun e => by injection e; omega), H2.out ⟨b, j * 8 + 3, none⟩ hblt, World.cell?_setCell_other _ _ _ _ (fun e => by injection e; omega), H1.out ⟨b, j * 8 + 3, none⟩ hblt, World.cell?_setCell_other _ _ _ _ (fun e => by injection e; omega)]; exact k3
      have T3 := markInt64S_mg ua g1 un uc (k + 3) g1 (g1 + 1) _ HG1.out (Nat.le_refl _) (Nat.lt_succ_self _) (wr_at m5 HD1.out) (by omega) (by omega)
      rw [show ((k + 3 : Nat) : Int) = (k : Int) + 1 + 1 + 1 by omega] at T3
      go_wp2_with fail
      refine T3.mono ?_
      rintro e w3 ⟨rfl, mj3, hv3⟩
      have m6 := m5.mk1 mj3 hBg1
      have H3 : Hid (∀ q : Addr, q.block ≠ g1 → w3.cell? q = (w2.setCell ⟨b, j * 8 + 2, none⟩ (.string (mtJ (k + 2)))).cell? q) := fun q hq => mj3.one q hq
      have HV3 : Hid (∀ i, i < un → w3.cell? ⟨g1, i, none⟩ = some (.int .i64 ((k + 3 + i : Nat) : Int))) := hv3
      clear T3 s2 f2 m4 m5 mj3 hv3 hd3 k3
      obtain ⟨kq, hkq⟩ : ∃ kq, k + 3 + un = kq := ⟨_, rfl⟩
      rw [hkq]
      obtain ⟨s4, f4⟩ := HSM.out w3 m6 4 (by omega)
      obtain ⟨u4, s4⟩ := Option.isSome_iff_exists.1 s4
      obtain ⟨s5, f5⟩ := HSM.out w3 m6 5 (by omega)
      obtain ⟨u5, s5⟩ := Option.isSome_iff_exists.1 s5
      obtain ⟨s6, f6⟩ := HSM.out w3 m6 6 (by omega)
      obtain ⟨u6, s6⟩ := Option.isSome_iff_exists.1 s6
      have m7 := ((m6.set (i := j * 8 + 4) (.int .i64 (kq : Int)) hBb hblt).set (i := j * 8 + 5) (.int .i64 ((kq : Int) + 1)) hBb hblt).set (i := j * 8 + 6) (.int .i64 ((kq : Int) + 1 + 1)) hBb hblt
      have HS4 : Hid ((((w3.setCell ⟨b, j * 8 + 4, none⟩ (.int .i64 (kq : Int))).setCell ⟨b, j * 8 + 5, none⟩ (.int .i64 ((kq : Int) + 1))).setCell ⟨b, j * 8 + 6, none⟩ (.int .i64 ((kq : Int) + 1 + 1))).cell? ⟨b, j * 8 + 4, none⟩ = some (.int .i64 (kq : Int)) ∧ (((w3.setCell ⟨b, j * 8 + 4, none⟩ (.int .i64 (kq : Int))).setCell ⟨b, j * 8 + 5, none⟩ (.int .i64 ((kq : Int) + 1))).setCell ⟨b, j * 8 + 6, none⟩ (.int .i64 ((kq : Int) + 1 + 1))).cell? ⟨b, j * 8 + 5, none⟩ = some (.int .i64 ((kq : Int) + 1)) ∧ (((w3.setCell ⟨b, j * 8 + 4, none⟩ (.int .i64 (kq : Int))).setCell ⟨b, j * 8 + 5, none⟩ (.int .i64 ((kq : Int) + 1))).setCell ⟨b, j * 8 + 6, none⟩ (.int .i64 ((kq : Int) + 1 + 1))).cell? ⟨b, j * 8 + 6, none⟩ = some (.int .i64 ((kq : Int) + 1 + 1))) := ⟨by rw [World.cell?_setCell_other _ _ _ _ (fun e => by injection e; omega), World.cell?_setCell_other _ _ _ _ (fun e => by injection e; omega)]; exact World.cell?_setCell_same _ _ _ s4, by rw [World.cell?_setCell_other _ _ _ _ (fun e => by injection e; omega)]; exact World.cell?_setCell_same _ _ _ (show _ = some u5 by rw [World.cell?_setCell_other _ _ _ _ (fun e => by injection e; omega)]; exact s5), World.cell?_setCell_same _ _ _ (show _ = some u6 by rw [World.cell?_setCell_other _ _ _ _ (fun e => by injection e; omega), World.cell?_setCell_other _ _ _ _ (fun e => by injection e; omega)]; exact s6)⟩
      have hd7 : (((w3.setCell ⟨b, j * 8 + 4, none⟩ (.int .i64 (kq : Int))).setCell ⟨b, j * 8 + 5, none⟩ (.int .i64 ((kq : Int) + 1))).setCell ⟨b, j * 8 + 6, none⟩ (.int .i64 ((kq : Int) + 1 + 1))).cell? ⟨b, j * 8 + 7, none⟩ = some (.slice ba bn bc') := by
        rw [World.cell?_setCell_other _ _ _ _ (fun e => by injection e; omega), World.cell?_setCell_other _ _ _ _ (fun e => by injection e; omega), World.cell?_setCell_other _ _ _ _ (fun e => by injection e; omega), H3.out ⟨b, j * 8 + 7, none⟩ (fun e => q1 e.symm), World.cell?_setCell_other _ _ _ _ (fun e => by injection e; omega), H2.out ⟨b, j * 8 + 7, none⟩ hblt, World.cell?_setCell_other _ _ _ _ (fun e => by injection e; omega), H1.out ⟨b, j * 8 + 7, none⟩ hblt, World.cell?_setCell_other _ _ _ _ (fun e => by injection e; omega)]; exact k7
      have T4 := markByteS_mg ba g2 bn bc' (kq + 3) g2 (g2 + 1) _ HG2.out (Nat.le_refl _) (Nat.lt_succ_self _) (wr_at m7 HD2.out) (by omega) (by omega)
      rw [show ((kq + 3 : Nat) : Int) = (kq : Int) + 1 + 1 + 1 by omega] at T4
      go_wp2_with fail
      refine T4.mono ?_
      rintro e w4 ⟨rfl, mj4, hv4⟩
      have m8 := m7.mk1 mj4 hBg2
      have H4 : Hid (∀ q : Addr, q.block ≠ g2 → w4.cell? q = (((w3.setCell ⟨b, j * 8 + 4, none⟩ (.int .i64 (kq : Int))).setCell ⟨b, j * 8 + 5, none⟩ (.int .i64 ((kq : Int) + 1))).setCell ⟨b, j * 8 + 6, none⟩ (.int .i64 ((kq : Int) + 1 + 1))).cell? q) := fun q hq => mj4.one q hq
      have HV4 : Hid (∀ i, i < bn → w4.cell? ⟨g2, i, none⟩ = some (.int .u8 (((kq + 3 + i) % 256 : Nat) : Int))) := hv4
      clear T4 s4 s5 s6 f4 f5 f6 m6 m7 mj4 hv4 hd7 k7
      have HFR : Hid (∀ g f, g < w.heap.size → g ≠ g1 → g ≠ g2 → (g = b → f < j * 8 ∨ f = j * 8 + 3 ∨ f = j * 8 + 7 ∨ (j + 1) * 8 ≤ f) → w4.cell? ⟨g, f, none⟩ = wr.cell? ⟨g, f, none⟩) := fun g f h1 h2 h3 h4 => by
        rw [H4.out ⟨g, f, none⟩ h3, World.cell?_setCell_other _ _ _ _ (fun e => by injection e; omega), World.cell?_setCell_other _ _ _ _ (fun e => by injection e; omega), World.cell?_setCell_other _ _ _ _ (fun e => by injection e; omega), H3.out ⟨g, f, none⟩ h2, World.cell?_setCell_other _ _ _ _ (fun e => by injection e; omega), H2.out ⟨g, f, none⟩ h1, World.cell?_setCell_other _ _ _ _ (fun e => by injection e; omega), H1.out ⟨g, f, none⟩ h1, World.cell?_setCell_other _ _ _ _ (fun e => by injection e; omega)]
      have HNEW : Hid (HdJ w4 b (nthO l j) k j ((ua, un, uc), (ba, bn, bc'))) := by
        have e4 : ∀ f, w4.cell? ⟨b, f, none⟩ = _ := fun f => H4.out ⟨b, f, none⟩ (fun e => q2 e.symm)
        have e3 : ∀ f, w3.cell? ⟨b, f, none⟩ = _ := fun f => H3.out ⟨b, f, none⟩ (fun e => q1 e.symm)
        refine ⟨?_, ?_, ?_, ?_, ?_, ?_, ?_, ?_, ?_, ?_, HIN.out.op.1.1.symm, HIN.out.op.2.1.symm⟩
        · rw [e4, World.cell?_setCell_other _ _ _ _ (fun e => by injection e; omega), World.cell?_setCell_other _ _ _ _ (fun e => by injection e; omega), World.cell?_setCell_other _ _ _ _ (fun e => by injection e; omega), e3, World.cell?_setCell_other _ _ _ _ (fun e => by injection e; omega), H2.out ⟨b, j * 8, none⟩ hblt, World.cell?_setCell_other _ _ _ _ (fun e => by injection e; omega), H1.out ⟨b, j * 8, none⟩ hblt]; exact HS0.out
        · rw [e4, World.cell?_setCell_other _ _ _ _ (fun e => by injection e; omega), World.cell?_setCell_other _ _ _ _ (fun e => by injection e; omega), World.cell?_setCell_other _ _ _ _ (fun e => by injection e; omega), e3, World.cell?_setCell_other _ _ _ _ (fun e => by injection e; omega), H2.out ⟨b, j * 8 + 1, none⟩ hblt]; exact HS1.out
        · rw [e4, World.cell?_setCell_other _ _ _ _ (fun e => by injection e; omega), World.cell?_setCell_other _ _ _ _ (fun e => by injection e; omega), World.cell?_setCell_other _ _ _ _ (fun e => by injection e; omega), e3]; exact HS2.out
        · exact (HFR.out b (j * 8 + 3) hblt (fun e => q1 e.symm) (fun e => q2 e.symm) (fun _ => by omega)).trans HK3.out
        · show _ = some (Value.int .i64 ((k + 3 + un : Nat) : Int)); rw [hkq, e4]; exact HS4.out.1
        · show _ = some (Value.int .i64 (((k + 3 + un : Nat) : Int) + 1)); rw [hkq, e4]; exact HS4.out.2.1
        · show _ = some (Value.int .i64 (((k + 3 + un : Nat) : Int) + 1 + 1)); rw [hkq, e4]; exact HS4.out.2.2
        · exact (HFR.out b (j * 8 + 7) hblt (fun e => q1 e.symm) (fun e => q2 e.symm) (fun _ => by omega)).trans HK7.out
        · show RdI w4 ua (marksI un (k + 3))
          rcases Nat.eq_zero_or_pos un with h | h
          · left; rw [h]; rfl
          · have hc : ∀ i, i < un → w4.cell? ⟨g1, i, none⟩ = some (.int .i64 ((k + 3 + i : Nat) : Int)) := fun i hi => by
              rw [H4.out ⟨g1, i, none⟩ (hg12.resolve_left (by omega)), World.cell?_setCell_other _ _ _ _ (fun e => by injection e; omega), World.cell?_setCell_other _ _ _ _ (fun e => by injection e; omega), World.cell?_setCell_other _ _ _ _ (fun e => by injection e; omega)]; exact HV3.out i hi
            refine .inr ⟨g1, 0, HG1.out.resolve_left (by omega), World.block_lt_of_cell? w4 ⟨g1, 0, none⟩ (hc 0 h), fun i hi => ?_⟩
            rw [marksI_len] at hi
            rw [Nat.zero_add, marksI_nth hi]
            exact hc i hi
        · show Rd w4 ba (marks bn (k + 3 + un + 3))
          rw [hkq]
          rcases Nat.eq_zero_or_pos bn with h | h
          · left; rw [h]; rfl
          · refine .inr ⟨g2, 0, HG2.out.resolve_left (by omega), World.block_lt_of_cell? w4 ⟨g2, 0, none⟩ (HV4.out 0 h), fun i hi => ?_⟩
            rw [marks_len] at hi
            rw [Nat.zero_add, marks_nth hi]
            exact HV4.out i hi
      have HALL2 : Hid (∀ i, i < j + 1 → ∃ p, HdJ w4 b (nthO l i) (kJ (l.take i)) i p ∧ OpIn w (some b) (A i) (M i) p (nthO l i)) := fun i hi => by
        rcases Nat.lt_or_ge i j with h' | h'
        · obtain ⟨p', hh, hin'⟩ := HAL.out i h'
          have hmm := HM.out i j h' hjn
          have hw4 : w.heap.size ≤ w4.heap.size := m8.1.size
          have hhl := hin'.hi_le
          refine ⟨p', hh.keep (fun f h1 h2 => HFR.out b f hblt (fun e => q1 e.symm) (fun e => q2 e.symm) (fun _ => by omega)) (by omega) hin'.in1 hin'.in2 (fun g f h1 h2 => HFR.out g f (by omega) (by rcases HP1.out with h | h <;> omega) (by rcases HP2.out with h | h <;> omega) (fun e => ?_)), hin'⟩
          have := hin'.off b rfl
          omega
        · obtain rfl : i = j := by omega
          rw [HKK.out]
          exact ⟨_, HNEW.out, HIN.out⟩
      have HCE2 : Hid (∀ g f, g < w.heap.size → (∀ i, i < j + 1 → g < A i ∨ M i ≤ g) → (g = b → (j + 1) * 8 ≤ f) → w4.cell? ⟨g, f, none⟩ = w.cell? ⟨g, f, none⟩) := fun g f h1 h2 h3 => by
        have hj2 := h2 j (Nat.lt_succ_self _)
        exact (HFR.out g f h1 (by rcases HP1.out with h | h <;> omega) (by rcases HP2.out with h | h <;> omega) (fun e => by have := h3 e; omega)).trans (HCE.out g f h1 (fun i hi => h2 i (by omega)) (fun e => by have := h3 e; omega))
      obtain ⟨kr, hkr⟩ : ∃ kr, kq + 3 + bn = kr := ⟨_, rfl⟩
      have HKR : Hid (kJ (l.take (j + 1)) = kr) := by show _ = _; rw [HSN.out]; omega
      rw [hkr]
      clear H1 H2 H3 H4 HFR HNEW HAL HCE HS0 HS1 HS2 HS4 HV3 HV4 HIN HD1 HD2 HG1 HG2 HSM HWC hkr hkq
      go_wp2
      go_roundw
      case rel => exact ⟨j + 1, by omega, by go_num, by rw [HKR.out], m8, HALL2.out, HCE2.out⟩
      case measure => simp [intOf]; omega
    · have hji : ¬ (j : Int) < (n : Int) := by omega
      have HE : Hid (MkE B hi n a l w (.returned (.int .i64 (kJ (l.take j) : Int))) wr) := by
        refine ⟨by rw [List.take_of_length_le (by rw [HL.out]; omega)], hmk, fun g f h1 h2 => hce g f h2 (fun i hi => .inr (Nat.le_trans (HHI.out.2 i (by omega)) h1)) (fun e => by rcases HHI.out.1 with h | h <;> omega), b, ha, hbw.imp id (fun h => Nat.lt_of_lt_of_le h hmk.1.size), fun i hi => ?_⟩
        obtain ⟨p, h, -⟩ := hall i (by omega)
        exact ⟨p, h⟩
      clear hce hall hmk
      go_wp2
      go_ret
      exact HE.out


theorem jG_len14 : ∀ (k : Nat) (d : List Nat), 14 * (jG k d).2.length ≤ d.length
  | 0, d => by simp [jG]
  | k + 1, d => by
    unfold jG
    split
    · next h =>
      have h1 := rpV_ok h
      have := jG_len14 k (d.drop (rpV d).2.1)
      rw [List.length_drop] at this
      simp only [List.length_cons]; omega
    · simp
theorem jV_len14 (d : List Nat) : (jV d).2.2.length ≤ 571 := by
  unfold jV
  split
  · simp
  · have := jG_len14 d.length d
    show (jG d.length d).2.length ≤ 571
    omega
theorem kJ_le {l : List OpR} (h : ∀ i, i < l.length → (nthO l i).u.length ≤ 6 ∧ (nthO l i).b.length ≤ 400) : ∀ j, j ≤ l.length → 1 ≤ kJ (l.take j) ∧ kJ (l.take j) ≤ 1 + 412 * j
  | 0, _ => by simp [kJ]
  | j + 1, hj => by
    have ih := kJ_le h j (by omega)
    have hh := h j (by omega)
    rw [kJ_snoc l j (by omega)]
    omega
/-- Three cells: a code, how many bytes, ops. -/
def Tq (w : World) (g : Nat) (c : Int) (u : Nat) (v : Value) : Prop := w.cell? ⟨g, 0, none⟩ = some (.int .i64 c) ∧ w.cell? ⟨g, 1, none⟩ = some (.int .i64 (u : Int)) ∧ w.cell? ⟨g, 2, none⟩ = some v
theorem Tq.below {C : Nat} {w w' : World} {g u : Nat} {c : Int} {v : Value} (h : Tq w g c u v) (hb : Below C w w') (hg : g < C) : Tq w' g c u v :=
  ⟨(hb.cell (p := ⟨g, 0, none⟩) hg).trans h.1, (hb.cell (p := ⟨g, 1, none⟩) hg).trans h.2.1, (hb.cell (p := ⟨g, 2, none⟩) hg).trans h.2.2⟩
theorem Tq.same {w w' : World} {g u : Nat} {c : Int} {v : Value} (h : Tq w g c u v) (he : ∀ i, w'.cell? ⟨g, i, none⟩ = w.cell? ⟨g, i, none⟩) : Tq w' g c u v := ⟨(he _).trans h.1, (he _).trans h.2.1, (he _).trans h.2.2⟩
theorem Tq.lt {w : World} {g u : Nat} {c : Int} {v : Value} (h : Tq w g c u v) : g < w.heap.size := World.block_lt_of_cell? w ⟨g, 0, none⟩ h.1
theorem Tq.new (w : World) (c : Int) (u : Nat) (v : Value) (t : TypeId) : Tq (w.alloc (.cells #[.int .i64 c, .int .i64 (u : Int), v] t)) w.heap.size c u v := ⟨by simp, by simp, by simp⟩

set_option maxHeartbeats 800000 in
set_option maxRecDepth 100000 in
theorem markOpsResult_hd (c : Int) (u : Nat) (a : Option Addr) (n cap B hi : Nat) (l : List OpR) (w : World) (h : RwC w B hi a n l) (hl : l.length = n) (hn : n ≤ 8000) (hk : ∀ j, j ≤ n → 1 ≤ kJ (l.take j) ∧ kJ (l.take j) ≤ 500000) (hB : B ≤ w.heap.size) :
    Calls Tryd.prog 36 #[.agg #[.int .i64 c, .int .i64 (u : Int), .slice a n cap], .int .i64 1] w fun e w' => e = .returned (.int .i64 (kJ l : Int)) ∧ Below B w w' ∧ (∀ g f, hi ≤ g → g < w.heap.size → w'.cell? ⟨g, f, none⟩ = w.cell? ⟨g, f, none⟩) ∧ ∃ b, (n = 0 ∨ a = some ⟨b, 0, none⟩) ∧ (n = 0 ∨ b < w'.heap.size) ∧ ∀ j, j < n → ∃ p, HdJ w' b (nthO l j) (kJ (l.take j)) j p := by
  obtain ⟨W1, hW1⟩ : ∃ W1, w.alloc (.cells #[.int .i64 c, .int .i64 (u : Int), .slice a n cap] 56) = W1 := ⟨_, rfl⟩
  have b1 : Below w.heap.size w W1 := by rw [← hW1]; exact (Below.refl _ _).alloc (Nat.le_refl _) _
  obtain ⟨x0, x1, x2⟩ : Tq W1 w.heap.size c u (.slice a n cap) := by rw [← hW1]; exact Tq.new _ _ _ _ _
  have HC := markOpS_hd a n cap B hi l W1 (h.keep b1.size (fun g i h1 h2 => ⟨b1.cell (p := ⟨g, i, none⟩) h2, b1.frozen (p := ⟨g, i, none⟩) h2⟩)) hl hn hk
  have HB : Hid (Below B w W1) := b1.mono hB
  have HBS : Hid (w.heap.size ≤ W1.heap.size) := b1.size
  have HBC : Hid (∀ g f, g < w.heap.size → W1.cell? ⟨g, f, none⟩ = w.cell? ⟨g, f, none⟩) := fun g f h => b1.cell (p := ⟨g, f, none⟩) h
  clear b1 h
  go_enter Tryd.func36, Tryd.ntmps36
  go_wp2_with fail
  refine HC.mono ?_
  rintro e w3 ⟨rfl, h3, hy, hx⟩
  have hB3 := HB.out.trans h3.1
  clear HC
  go_wp2
  go_ret
  exact ⟨rfl, hB3, fun g f h1 h2 => (hy g f h1 (Nat.lt_of_lt_of_le h2 HBS.out)).trans (HBC.out g f h2), hx⟩

set_option maxHeartbeats 800000 in
set_option maxRecDepth 100000 in
theorem heldOpsResult_hd (c : Int) (u : Nat) (a : Option Addr) (b n cap : Nat) (l : List OpR) (w : World) (ha : n = 0 ∨ a = some ⟨b, 0, none⟩) (hb : n = 0 ∨ b < w.heap.size) (hl : l.length = n) (hn : n ≤ 8000) (h : ∀ j, j < n → ∃ p, HdJ w b (nthO l j) (kJ (l.take j)) j p) (hk : ∀ j, j ≤ n → 1 ≤ kJ (l.take j) ∧ kJ (l.take j) ≤ 500000) :
    Calls Tryd.prog 37 #[.agg #[.int .i64 c, .int .i64 (u : Int), .slice a n cap], .int .i64 1] w fun e w' => e = .returned (.int .i64 (kJ l : Int)) ∧ Below w.heap.size w w' := by
  obtain ⟨W1, hW1⟩ : ∃ W1, w.alloc (.cells #[.int .i64 c, .int .i64 (u : Int), .slice a n cap] 56) = W1 := ⟨_, rfl⟩
  have b1 : Below w.heap.size w W1 := by rw [← hW1]; exact (Below.refl _ _).alloc (Nat.le_refl _) _
  obtain ⟨x0, x1, x2⟩ : Tq W1 w.heap.size c u (.slice a n cap) := by rw [← hW1]; exact Tq.new _ _ _ _ _
  have HC := heldOpS_any a b n cap l W1 ha (hb.imp id (fun h => Nat.lt_of_lt_of_le h b1.size)) hl hn (fun j hj => by
    obtain ⟨p, c0, c1, c2, c3, c4, c5, c6, c7, hu, hd, n1, n2⟩ := h j hj
    have hbl : b < w.heap.size := hb.resolve_left (by omega)
    have e : ∀ f, W1.cell? ⟨b, f, none⟩ = w.cell? ⟨b, f, none⟩ := fun f => b1.cell (p := ⟨b, f, none⟩) hbl
    exact ⟨p, (e _).trans c0, (e _).trans c1, (e _).trans c2, (e _).trans c3, (e _).trans c4, (e _).trans c5, (e _).trans c6, (e _).trans c7, hu.below b1, hd.below b1, n1, n2⟩) hk
  have HB : Hid (Below w.heap.size w W1) := b1
  clear b1 h hk
  generalize kJ l = kl at *
  have hp : ¬ (kl : Int) < 0 := by omega
  go_enter Tryd.func37, Tryd.ntmps37
  go_wp2_with fail
  refine HC.mono ?_
  rintro e w3 ⟨rfl, h3⟩
  have hB3 := HB.out.trans (h3.mono HB.out.size)
  clear HC
  go_wp2
  go_ret
  exact ⟨rfl, hB3⟩
end Go.Proofs.YtlmbieclgkpofaaDoor
