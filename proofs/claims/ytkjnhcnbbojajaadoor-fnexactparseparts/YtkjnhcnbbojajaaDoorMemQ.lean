/- Words on memory: where a slice of pointers is read, what a row of the call's own holds, an append; no conditions beyond those that each fact names. -/
import Derived.Test.YtkjnhcnbbojajaaDoorApp
namespace Go.Proofs.YtkjnhcnbbojajaaDoor
open Go.RowKit

/-- The i-th number of a list (0 behind its end). -/
def nthQ (l : List Nat) (i : Nat) : Nat := l.getD i 0
/-- Numbers as cells. -/
def qc (l : List Nat) : List Value := l.map fun (b : Nat) => Value.pointer (some ⟨b, 0, none⟩)

theorem nthQ_get {l : List Nat} {i : Nat} (h : i < l.length) : nthQ l i = l[i] := by
  unfold nthQ; rw [List.getD_eq_getElem?_getD, List.getElem?_eq_getElem h]; rfl

theorem qc_len (l : List Nat) : (qc l).length = l.length := by simp [qc]
theorem qc_one (l : List Nat) : ∀ u ∈ qc l, u.oneCell' = true := by
  intro u hu
  simp only [qc, List.mem_map] at hu
  obtain ⟨b, _, rfl⟩ := hu
  rfl
theorem qc_app (a b : List Nat) : qc (a ++ b) = qc a ++ qc b := by simp [qc]
theorem qc_get {l : List Nat} {i : Nat} (h : i < l.length) : (qc l)[i]? = some (.pointer (some ⟨nthQ l i, 0, none⟩)) := by
  rw [nthQ_get h]; simp [qc, h]

theorem nthQ_drop (l : List Nat) (k i : Nat) : nthQ (l.drop k) i = nthQ l (k + i) := by
  simp [nthQ, List.getD_eq_getElem?_getD, List.getElem?_drop]
theorem take_snocQ (l : List Nat) (k : Nat) (h : k < l.length) : l.take (k + 1) = l.take k ++ [nthQ l k] := by
  rw [List.take_succ_eq_append_getElem h, nthQ_get h]
theorem drop_consQ (l : List Nat) (k : Nat) (h : k < l.length) : l.drop k = nthQ l k :: l.drop (k + 1) := by
  rw [nthQ_get h]; exact List.drop_eq_getElem_cons h


/-- WHERE A SLICE OF BYTES IS READ: at its address stand the bytes l. -/
def RdQ (w : World) (a : Option Addr) (l : List Nat) : Prop :=
  l = [] ∨ ∃ b off, a = some ⟨b, off, none⟩ ∧ b < w.heap.size ∧ ∀ i, i < l.length → w.cell? ⟨b, off + i, none⟩ = some (.pointer (some ⟨nthQ l i, 0, none⟩))

theorem RdQ.below {w w' : World} {a : Option Addr} {l : List Nat} (h : RdQ w a l) (hb : Below w.heap.size w w') : RdQ w' a l := by
  rcases h with h | ⟨b, off, e, hlt, hc⟩
  · exact .inl h
  · exact .inr ⟨b, off, e, Nat.lt_of_lt_of_le hlt hb.size, fun i hi => (hb.cell (p := ⟨b, off + i, none⟩) hlt).trans (hc i hi)⟩
/-- Where there is an element there is an address. -/
theorem RdQ.at_ {w : World} {a : Option Addr} {l : List Nat} (h : RdQ w a l) (hp : 0 < l.length) :
    ∃ b off, a = some ⟨b, off, none⟩ ∧ b < w.heap.size ∧ ∀ i, i < l.length → w.cell? ⟨b, off + i, none⟩ = some (.pointer (some ⟨nthQ l i, 0, none⟩)) := by
  rcases h with h | h
  · rw [h] at hp; simp at hp
  · exact h
theorem RdQ.drop {w : World} {b off : Nat} {l : List Nat} (h : RdQ w (some ⟨b, off, none⟩) l) (k : Nat) : RdQ w (some ⟨b, off + k, none⟩) (l.drop k) := by
  rcases h with h | ⟨b', off', e, hlt, hc⟩
  · left; simp [h]
  · obtain ⟨rfl, rfl⟩ : b = b' ∧ off = off' := by simpa using e
    right
    refine ⟨b, off + k, rfl, hlt, fun i hi => ?_⟩
    rw [List.length_drop] at hi
    rw [nthQ_drop, Nat.add_assoc]
    exact hc (k + i) (by omega)


/-- A row of the call's own, read. -/
theorem RdQ.own {w : World} {base e n cap : Nat} {a : Option Addr} {l : List Nat} (h : w.ownsRow base e 1 (.slice a n cap) n (qc l)) : RdQ w a l := by
  have hl : l.length = n := by simpa [qc_len] using h.1
  rcases h.2 with ⟨_, h0⟩ | ⟨g, cap', cur, h', _, hg, _, _, _, htake⟩
  · left; exact List.length_eq_zero_iff.1 (by omega)
  · simp only [Value.slice.injEq] at h'
    obtain ⟨rfl, _, rfl⟩ := h'
    right
    refine ⟨g, 0, rfl, ?_, fun i hi => ?_⟩
    · rcases Nat.lt_or_ge g w.heap.size with hlt | hge
      · exact hlt
      · simp [Array.getElem?_eq_none hge] at hg
    · rw [cell_of_row w g (0 + i) cur e (0, 0) hg, ← qc_get hi, ← htake, List.getElem?_take, if_pos (by omega)]
      simp


theorem infoQ : (Tryd.prog.info? 67).map (fun i => (i.zero, i.size, i.bytes)) = some (some (.pointer none), 1, 8) := by kernel_rfl
/-- THE SLICE v IS THE CALL's OWN AND HOLDS THE BYTES l. -/
def OwnQ (w : World) (B : Nat) (v : Value) (l : List Nat) : Prop := w.ownsRow B 67 1 v l.length (qc l)

theorem OwnQ.nil (w : World) (B : Nat) : OwnQ w B (.slice none 0 0) [] := World.ownsRow_nil _ _ _ _
theorem OwnQ.lit (w : World) (B : Nat) (hB : B ≤ w.heap.size) (cs : Array Value) (l : List Nat) (h : cs.toList = qc l) (hl : l.length ≤ maxLen) : OwnQ (w.alloc (.cells cs 67)) B (.slice (some ⟨w.heap.size, 0, none⟩) l.length l.length) l := by
  have := World.ownsRow_lit (base := B) (e := 67) (size := 1) w cs l.length hB hl (by rw [← Array.length_toList, h, qc_len]; omega)
  rw [h] at this
  exact this
theorem OwnQ.alloc {w : World} {B : Nat} {v : Value} {l : List Nat} (h : OwnQ w B v l) (o : Obj) : OwnQ (w.alloc o) B v l := World.ownsRow.alloc h o
theorem OwnQ.drew {w : World} {B : Nat} {v : Value} {l : List Nat} (h : OwnQ w B v l) : OwnQ w.drew B v l := h
theorem OwnQ.below {w w' : World} {B C : Nat} {v : Value} {l : List Nat} (h : OwnQ w B v l) (hb : Below C w w') (hC : w.heap.size ≤ C) : OwnQ w' B v l := by
  refine ⟨h.1, ?_⟩
  rcases h.2 with h' | ⟨g, cap, cur, h1, h2, h3, h4⟩
  · exact .inl h'
  · refine .inr ⟨g, cap, cur, h1, h2, ?_, h4⟩
    have hg : g < w.heap.size := by
      rcases Nat.lt_or_ge g w.heap.size with hlt | hge
      · exact hlt
      · simp [Array.getElem?_eq_none hge] at h3
    rw [hb.block g (by omega)]; exact h3
theorem OwnQ.form {w : World} {B : Nat} {v : Value} {l : List Nat} (h : OwnQ w B v l) : ∃ a cap, v = .slice a l.length cap ∧ l.length ≤ cap ∧ cap ≤ maxLen := by
  rcases h.2 with ⟨h', h0⟩ | ⟨g, cap, cur, h', _, _, h4, h5, _⟩
  · exact ⟨none, 0, by rw [h', h0], by omega, by decide⟩
  · exact ⟨_, cap, h', h4, h5⟩
theorem OwnQ.rd {w : World} {B n cap : Nat} {a : Option Addr} {l : List Nat} (h : OwnQ w B (.slice a n cap) l) : l.length = n ∧ RdQ w a l := by
  have hf : l.length = n := by
    obtain ⟨a', c', e, _⟩ := h.form
    simp at e; omega
  subst hf
  exact ⟨rfl, RdQ.own h⟩

/-- AN APPEND: what stands at the second slice's address is there behind what was. -/
theorem wpList_appQ {w : World} {ops : Array Oper} {rest : List Oper} {o : Oper} {a : Act} {Q : Exit → Act → World → Prop} (hgd : o.guard = none) (s x : Operand)
    (ho : o.op = .call { callee := .builtin .append, args := #[s, x], argTypes := #[61, 61] })
    (B : Nat) (v : Value) (l : List Nat) (hs : a.eval s = v) (hown : OwnQ w B v l) (ad : Addr) (m c : Nat) (new : List Nat) (hx : a.eval x = .slice (some ad) m c) (hm : new.length = m)
    (hnew : ∀ j, j < m → w.cell? (ad.add j) = some (.pointer (some ⟨nthQ new j, 0, none⟩))) (hsz : l.length + m ≤ 1073741824) (hB : B ≤ w.heap.size)
    (h : ∀ v' w1, OwnQ w1 B v' (l ++ new) → w.grownBy w1 v.ownBlock → wpList Tryd.prog ops Q rest (a.put o.dst v') w1) : wpList Tryd.prog ops Q (o :: rest) a w := by
  obtain ⟨i0, hi, hz0, hz1, hz2⟩ := info_parts infoQ
  refine wpList_append_own w hgd s x 61 ho B 67 i0 (.pointer none) 1 8 Tryd.underlying61 hi hz0 hz1 hz2 rfl (by decide) v l.length (qc l) hs hown ad m c (qc new) hx (by rw [qc_len, hm]; omega) ?_ (qc_one new) (by unfold maxLen; omega) (by omega) hB ?_
  · intro j u hj
    have hjl : j < new.length := by
      rcases Nat.lt_or_ge j new.length with hlt | hge
      · exact hlt
      · rw [List.getElem?_eq_none (by rw [qc_len]; exact hge)] at hj; cases hj
    rw [qc_get hjl] at hj
    cases hj
    exact hnew j (by omega)
  · intro v' w1 hown' hgr _
    refine h v' w1 ?_ hgr
    unfold OwnQ
    rw [qc_app, List.length_append, hm]
    exact hown'

/-- The same where the second slice is the block that was laid just ahead. -/
theorem wpList_app_newQ {wr : World} {cs : Array Value} {ops : Array Oper} {rest : List Oper} {o : Oper} {a : Act} {Q : Exit → Act → World → Prop} (hgd : o.guard = none) (s x : Operand)
    (ho : o.op = .call { callee := .builtin .append, args := #[s, x], argTypes := #[61, 61] })
    (B : Nat) (v : Value) (l : List Nat) (hs : a.eval s = v) (hown : OwnQ wr B v l) (m c : Nat) (new : List Nat) (hx : a.eval x = .slice (some ⟨wr.heap.size, 0, none⟩) m c) (hm : new.length = m) (hcs : cs.toList = qc new)
    (hsz : l.length + m ≤ 1073741824) (hB : B ≤ wr.heap.size)
    (h : ∀ v' w1, OwnQ w1 B v' (l ++ new) → (wr.alloc (.cells cs 67)).grownBy w1 v.ownBlock → wpList Tryd.prog ops Q rest (a.put o.dst v') w1) : wpList Tryd.prog ops Q (o :: rest) a (wr.alloc (.cells cs 67)) := by
  refine wpList_appQ hgd s x ho B v l hs (hown.alloc _) ⟨wr.heap.size, 0, none⟩ m c new hx hm ?_ hsz (by simp; omega) (fun v' w1 h1 h2 => h v' w1 h1 h2)
  intro j hj
  have e : (⟨wr.heap.size, 0, none⟩ : Addr).add j = ⟨wr.heap.size, j, none⟩ := by rw [Go.WideShapes.add_plain, Nat.zero_add]
  rw [e, World.cell?_alloc_mark, ← Array.getElem?_toList, hcs]
  exact qc_get (by omega)

/-- The cells of a block that was laid just ahead, behind a draw too. -/
theorem new_cellsQ {wr : World} {cs : Array Value} {new : List Nat} (hcs : cs.toList = qc new) (m : Nat) (hm : new.length = m) :
    ∀ j, j < m → (wr.alloc (.cells cs 67)).cell? ((⟨wr.heap.size, 0, none⟩ : Addr).add j) = some (.pointer (some ⟨nthQ new j, 0, none⟩)) := by
  intro j hj
  have e : (⟨wr.heap.size, 0, none⟩ : Addr).add j = ⟨wr.heap.size, j, none⟩ := by rw [Go.WideShapes.add_plain, Nat.zero_add]
  rw [e, World.cell?_alloc_mark, ← Array.getElem?_toList, hcs]
  exact qc_get (by omega)
/-- AN APPEND AT A STEP OF A REGION THAT DRAWS ITS ORDER. -/
theorem step_appQ {w : World} {ops : Array Oper} {o : Oper} {a : Act} {K : Act → World → Prop} {Q : Exit → Act → World → Prop} {E : Prop} (hgd : o.guard = none) (s x : Operand)
    (ho : o.op = .call { callee := .builtin .append, args := #[s, x], argTypes := #[61, 61] })
    (B : Nat) (v : Value) (l : List Nat) (hs : a.eval s = v) (hown : OwnQ w B v l) (ad : Addr) (m c : Nat) (new : List Nat) (hx : a.eval x = .slice (some ad) m c) (hm : new.length = m)
    (hnew : ∀ j, j < m → w.cell? (ad.add j) = some (.pointer (some ⟨nthQ new j, 0, none⟩))) (hsz : l.length + m ≤ 1073741824) (hB : B ≤ w.heap.size)
    (h : ∀ v' w1, OwnQ w1 B v' (l ++ new) → w.grownBy w1 v.ownBlock → K (a.put o.dst v') w1) : if Region.wanted o (yielded ops a.tmps) = true then Oper.wp Tryd.prog o a w K Q else E := by
  have hw : Region.wanted o (yielded ops a.tmps) = true := by simp [Region.wanted, hgd]
  rw [if_pos hw]
  obtain ⟨i0, hi, hz0, hz1, hz2⟩ := info_parts infoQ
  refine wp_append_own w s x 61 ho B 67 i0 (.pointer none) 1 8 Tryd.underlying61 hi hz0 hz1 hz2 rfl (by decide) v l.length (qc l) hs hown ad m c (qc new) hx (by rw [qc_len, hm]; omega) ?_ (qc_one new) (by unfold maxLen; omega) (by omega) hB ?_
  · intro j u hj
    have hjl : j < new.length := by
      rcases Nat.lt_or_ge j new.length with hlt | hge
      · exact hlt
      · rw [List.getElem?_eq_none (by rw [qc_len]; exact hge)] at hj; cases hj
    rw [qc_get hjl] at hj
    cases hj
    exact hnew j (by omega)
  · intro v' w1 hown' hgr _
    refine h v' w1 ?_ hgr
    unfold OwnQ
    rw [qc_app, List.length_append, hm]
    exact hown'

end Go.Proofs.YtkjnhcnbbojajaaDoor
