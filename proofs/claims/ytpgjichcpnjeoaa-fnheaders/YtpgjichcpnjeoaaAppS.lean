/- An append of a text's bytes, and one of some bytes, each of which keeps a field that lies elsewhere; no conditions beyond those that each fact names. -/
import Derived.Test.YtpgjichcpnjeoaaHdr3
import Derived.Lib.AppendStr
namespace Go.Proofs.Ytpgjichcpnjeoaa
open Go.RowKit

/-- A block that holds a field. -/
def FldAt (w : World) (q : Nat) (x y : ByteArray) : Prop := w.heap[q]? = some (.cells #[.string x, .string y] 35)
theorem FldAt.new (w : World) (x y : ByteArray) : FldAt (w.alloc (.cells #[.string x, .string y] 35)) w.heap.size x y := heap_alloc_new w _
theorem FldAt.lt {w : World} {q : Nat} {x y : ByteArray} (h : FldAt w q x y) : q < w.heap.size := by
  rcases Nat.lt_or_ge q w.heap.size with hlt | hge
  · exact hlt
  · unfold FldAt at h; rw [Array.getElem?_eq_none hge] at h; cases h
theorem FldAt.cell0 {w : World} {q : Nat} {x y : ByteArray} (h : FldAt w q x y) : w.cell? ⟨q, 0, none⟩ = some (.string x) := by
  unfold FldAt at h
  simp [World.cell?, h]
theorem FldAt.cell1 {w : World} {q : Nat} {x y : ByteArray} (h : FldAt w q x y) : w.cell? ⟨q, 1, none⟩ = some (.string y) := by
  unfold FldAt at h
  simp [World.cell?, h]
theorem FldAt.alloc {w : World} {q : Nat} {x y : ByteArray} (h : FldAt w q x y) (o : Obj) : FldAt (w.alloc o) q x y := by
  unfold FldAt
  rw [heap_alloc_old w _ h.lt]; exact h
theorem FldAt.ne {w : World} {q B : Nat} {x y : ByteArray} {v : Value} {l : List Nat} (h : FldAt w q x y) (ho : Own w B v l) : v.ownBlock ≠ some q := by
  intro e
  rcases ho.2 with ⟨rfl, _⟩ | ⟨g, cap, cur, rfl, _, hg, _⟩
  · cases e
  · cases e
    unfold FldAt at h
    rw [hg] at h
    simp at h
theorem FldAt.grown {w w' : World} {q B : Nat} {x y : ByteArray} {v : Value} {l : List Nat} (h : FldAt w q x y) (ho : Own w B v l) (hg : w.grownBy w' v.ownBlock) : FldAt w' q x y := by
  unfold FldAt
  rw [hg.block q h.lt (fun e => h.ne ho e.symm)]; exact h
theorem strCells_bts (s : ByteArray) : Lib.strCells s = bc (bts s) := by
  unfold Lib.strCells bc bts
  rw [List.map_map]
  rfl

/-- AN APPEND of a text's bytes. -/
theorem wpList_appS {w : World} {ops : Array Oper} {rest : List Oper} {o : Oper} {a : Act} {Q : Exit → Act → World → Prop} (hgd : o.guard = none) (sl x : Operand)
    (ho : o.op = .call { callee := .builtin .append, args := #[sl, x], argTypes := #[22, 9] })
    (B : Nat) (v : Value) (l : List Nat) (hs : a.eval sl = v) (hown : Own w B v l) (s : ByteArray) (hx : a.eval x = .string s) (hsz : l.length + s.size ≤ 1073741824) (hB : B ≤ w.heap.size)
    (h : ∀ v' w1, Own w1 B v' (l ++ bts s) → Below B w w1 → (∀ q x y, FldAt w q x y → FldAt w1 q x y) → wpList Try.prog ops Q rest (a.put o.dst v') w1) : wpList Try.prog ops Q (o :: rest) a w := by
  obtain ⟨i0, hi, hz0, hz1, hz2⟩ := info_parts infoB
  refine Lib.wpList_append_own_string w hgd sl x 22 9 ho B 5 i0 Try.underlying22 Try.underlying9 hi hz0 hz1 hz2 v l.length (bc l) hs hown s hx (by unfold maxLen; omega) (by omega) hB ?_
  intro v' w1 hown' hgr _
  refine h v' w1 ?_ ((Below.refl _ _).grown hgr hB (fun k hk => (hown.lt k hk).1)) (fun q x y hq => hq.grown hown hgr)
  unfold Own
  rw [bc_app, List.length_append, bts_len, ← strCells_bts]
  exact hown'
/-- AN APPEND of the block that was laid just ahead. -/
theorem wpList_appL {wr : World} {cs : Array Value} {ops : Array Oper} {rest : List Oper} {o : Oper} {a : Act} {Q : Exit → Act → World → Prop} (hgd : o.guard = none) (s x : Operand)
    (ho : o.op = .call { callee := .builtin .append, args := #[s, x], argTypes := #[22, 22] })
    (B : Nat) (v : Value) (l : List Nat) (hs : a.eval s = v) (hown : Own wr B v l) (m c : Nat) (new : List Nat) (hx : a.eval x = .slice (some ⟨wr.heap.size, 0, none⟩) m c) (hm : new.length = m) (hcs : cs.toList = bc new)
    (hsz : l.length + m ≤ 1073741824) (hB : B ≤ wr.heap.size)
    (h : ∀ v' w1, Own w1 B v' (l ++ new) → Below B wr w1 → (∀ q x y, FldAt wr q x y → FldAt w1 q x y) → wpList Try.prog ops Q rest (a.put o.dst v') w1) : wpList Try.prog ops Q (o :: rest) a (wr.alloc (.cells cs 5)) := by
  have hb : Below B wr (wr.alloc (.cells cs 5)) := (Below.refl _ _).alloc hB _
  obtain ⟨i0, hi, hz0, hz1, hz2⟩ := info_parts infoB
  refine wpList_append_own _ hgd s x 22 ho B 5 i0 (.int .u8 0) 1 1 Try.underlying22 hi hz0 hz1 hz2 rfl (by decide) v l.length (bc l) hs (hown.alloc _) ⟨wr.heap.size, 0, none⟩ m c (bc new) hx (by rw [bc_len, hm]; omega) ?_ (bc_one new) (by unfold maxLen; omega) (by omega) (by simp; omega) ?_
  · intro j u hj
    have e : (⟨wr.heap.size, 0, none⟩ : Addr).add j = ⟨wr.heap.size, j, none⟩ := by rw [Go.WideShapes.add_plain, Nat.zero_add]
    rw [e, World.cell?_alloc_mark, ← Array.getElem?_toList, hcs]
    exact hj
  · intro v' w1 hown' hgr _
    refine h v' w1 ?_ (hb.trans ((Below.refl _ _).grown hgr (by simp; omega) (fun k hk => (hown.lt k hk).1))) (fun q x y hq => (hq.alloc _).grown (hown.alloc _) hgr)
    unfold Own
    rw [bc_app, List.length_append, hm]
    exact hown'
end Go.Proofs.Ytpgjichcpnjeoaa
