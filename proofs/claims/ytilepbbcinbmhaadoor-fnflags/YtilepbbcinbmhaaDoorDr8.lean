/- Rows of messages, of mailboxes, of the call's own: an append that leaves every block but the row's own; four cells that may be written; no conditions beyond those that each fact names. -/
import Derived.Test.YtilepbbcinbmhaaDoorMsbToBxs
namespace Go.Proofs.YtilepbbcinbmhaaDoor
open Go.RowKit
set_option linter.unusedVariables false

/-- Four cells of a block that may be written. -/
def Qf (w : World) (g : Nat) (q : Qd) : Prop := Qc w g q ∧ w.frozen? ⟨g, 0, none⟩ = false ∧ w.frozen? ⟨g, 1, none⟩ = false ∧ w.frozen? ⟨g, 2, none⟩ = false ∧ w.frozen? ⟨g, 3, none⟩ = false
theorem Qf.lt {w : World} {g : Nat} {q : Qd} (h : Qf w g q) : g < w.heap.size := h.1.lt
theorem Qf.new (w : World) (c0 c1 c2 c3 : Value) (t : TypeId) : Qf (w.alloc (.cells #[c0, c1, c2, c3] t)) w.heap.size (c0, c1, c2, c3) := ⟨Qc.new _ _ _ _ _ _, by simp, by simp, by simp, by simp⟩
theorem Qf.block {w w' : World} {g : Nat} {q : Qd} (h : Qf w g q) (hb : w'.heap[g]? = w.heap[g]?) : Qf w' g q := by
  obtain ⟨⟨h0, h1, h2, h3⟩, f0, f1, f2, f3⟩ := h
  exact ⟨⟨(World.cell?_of_block hb).trans h0, (World.cell?_of_block hb).trans h1, (World.cell?_of_block hb).trans h2, (World.cell?_of_block hb).trans h3⟩, (World.frozen?_of_block hb).trans f0, (World.frozen?_of_block hb).trans f1, (World.frozen?_of_block hb).trans f2, (World.frozen?_of_block hb).trans f3⟩
theorem Qf.below {C : Nat} {w w' : World} {g : Nat} {q : Qd} (h : Qf w g q) (hb : Below C w w') (hg : g < C) : Qf w' g q := h.block (hb.block g hg)
theorem Qf.grown {w w' : World} {g : Nat} {q : Qd} {r : Option Nat} (h : Qf w g q) (hb : w.grownBy w' r) (hg : some g ≠ r) : Qf w' g q := h.block (hb.block g h.lt hg)
theorem Qf.set2 {w : World} {g : Nat} {q : Qd} (h : Qf w g q) (v : Value) : Qf (w.setCell ⟨g, 2, none⟩ v) g (q.1, q.2.1, v, q.2.2.2) := by
  obtain ⟨⟨h0, h1, h2, h3⟩, f0, f1, f2, f3⟩ := h
  exact ⟨⟨(World.cell?_setCell_other _ _ _ _ (by simp)).trans h0, (World.cell?_setCell_other _ _ _ _ (by simp)).trans h1, World.cell?_setCell_same _ _ _ h2, (World.cell?_setCell_other _ _ _ _ (by simp)).trans h3⟩, by simpa using f0, by simpa using f1, by simpa using f2, by simpa using f3⟩
theorem Qf.set3 {w : World} {g : Nat} {q : Qd} (h : Qf w g q) (v : Value) : Qf (w.setCell ⟨g, 3, none⟩ v) g (q.1, q.2.1, q.2.2.1, v) := by
  obtain ⟨⟨h0, h1, h2, h3⟩, f0, f1, f2, f3⟩ := h
  exact ⟨⟨(World.cell?_setCell_other _ _ _ _ (by simp)).trans h0, (World.cell?_setCell_other _ _ _ _ (by simp)).trans h1, (World.cell?_setCell_other _ _ _ _ (by simp)).trans h2, World.cell?_setCell_same _ _ _ h3⟩, by simpa using f0, by simpa using f1, by simpa using f2, by simpa using f3⟩
theorem Qf.far {w : World} {g : Nat} {q : Qd} (h : Qf w g q) (k j : Nat) (v : Value) (hk : k ≠ g) : Qf (w.setCell ⟨k, j, none⟩ v) g q := by
  obtain ⟨⟨h0, h1, h2, h3⟩, f0, f1, f2, f3⟩ := h
  exact ⟨⟨(World.cell?_setCell_other _ _ _ _ (fun e => by cases e; exact hk rfl)).trans h0, (World.cell?_setCell_other _ _ _ _ (fun e => by cases e; exact hk rfl)).trans h1, (World.cell?_setCell_other _ _ _ _ (fun e => by cases e; exact hk rfl)).trans h2, (World.cell?_setCell_other _ _ _ _ (fun e => by cases e; exact hk rfl)).trans h3⟩, by simpa using f0, by simpa using f1, by simpa using f2, by simpa using f3⟩

theorem qc_app (a b : List Qd) : qc (a ++ b) = qc a ++ qc b := by simp [qc]
def isN (v : Value) : Prop := isU8 v ∨ isI64 v
theorem Kz.weak {lo : Nat} {T T' : Value → Prop} {w w' : World} (h : Kz lo T w w') (hT : ∀ v, T' v → T v) : Kz lo T' w w' := ⟨h.1, fun k hk ⟨u, hu, ht⟩ i => h.2 k hk ⟨u, hu, hT u ht⟩ i⟩
theorem Kz.u8 {lo : Nat} {w w' : World} (h : Kz lo isN w w') : Kz lo isU8 w w' := h.weak fun _ => .inl

/-- THE SLICE v IS THE CALL's OWN ROW OF Message. -/
def OwnM (w : World) (B : Nat) (v : Value) (l : List Qd) : Prop := w.ownsRow B 44 4 v l.length (qc l)
theorem OwnM.nil (w : World) (B : Nat) : OwnM w B (.slice none 0 0) [] := World.ownsRow_nil _ _ _ _
theorem OwnM.form {w : World} {B : Nat} {v : Value} {l : List Qd} (h : OwnM w B v l) : ∃ a cap, v = .slice a l.length cap ∧ l.length ≤ cap ∧ cap ≤ maxLen := by
  rcases h.2 with ⟨h', h0⟩ | ⟨g, cap, cur, h', _, _, h4, h5, _⟩
  · exact ⟨none, 0, by rw [h', h0], by omega, by decide⟩
  · exact ⟨_, cap, h', h4, h5⟩
theorem OwnM.below {w w' : World} {B C : Nat} {v : Value} {l : List Qd} (h : OwnM w B v l) (hb : Below C w w') (hC : w.heap.size ≤ C) : OwnM w' B v l := ownQ_below h hb hC
theorem OwnM.kb {w w' : World} {B b : Nat} {v : Value} {l : List Qd} (h : OwnM w B v l) (hk : Kb b w w') (hb : b < B) : OwnM w' B v l := by
  refine World.ownsRow.kept h hk ?_
  cases hv : v.ownBlock with
  | none => exact .inl rfl
  | some k => right; intro e; have := (World.ownsRow.lt h k hv).1; simp at e; omega
theorem OwnM.set {w : World} {B : Nat} {v : Value} {l : List Qd} (h : OwnM w B v l) (p : Addr) (hp : p.block < B) (u : Value) : OwnM (w.setCell p u) B v l := ownsRow_setCell_below h hp u
/-- Blocks that begin with a value of another kind stay where the row grows. -/
theorem OwnM.kz {w w' : World} {B lo : Nat} {v : Value} {l : List Qd} (T : Value → Prop) (h : OwnM w B v l) (hg : w.grownBy w' v.ownBlock) (hT : l ≠ [] → ¬ T (nthQ l 0).1) (h0 : l = [] → v = .slice none 0 0) : Kz lo T w w' := by
  refine Kz.grown hg (fun g u e hu ht => ?_)
  rcases Nat.eq_zero_or_pos l.length with hz | hp
  · rw [h0 (List.length_eq_zero_iff.1 hz)] at e; cases e
  · rcases h.2 with ⟨h', _⟩ | ⟨g', cap, cur, h', _, _⟩
    · rw [h'] at e; cases e
    · rw [h'] at e
      obtain rfl : g' = g := by injection e
      rw [h'] at h
      obtain ⟨-, c0, -⟩ := ownQ_cells h 0 hp
      rw [Nat.zero_mul] at c0
      rw [c0] at hu
      cases hu
      exact hT (fun e => by rw [e] at hp; simp at hp) ht
theorem step_appM {w : World} {ops : Array Oper} {o : Oper} {a : Act} {K : Act → World → Prop} {Q : Exit → Act → World → Prop} {E : Prop} (hgd : o.guard = none) (s x : Operand)
    (ho : o.op = .call { callee := .builtin .append, args := #[s, x], argTypes := #[37, 37] })
    (B : Nat) (v : Value) (l : List Qd) (hs : a.eval s = v) (hown : OwnM w B v l) (g : Nat) (q : Qd) (hx : a.eval x = .slice (some ⟨g, 0, none⟩) 1 1) (hq : Qc w g q) (h1 : q.1.oneCell' = true ∧ q.2.1.oneCell' = true ∧ q.2.2.1.oneCell' = true ∧ q.2.2.2.oneCell' = true)
    (hsz : l.length + 1 ≤ 1048576) (hB : B ≤ w.heap.size)
    (h : ∀ v' w1, OwnM w1 B v' (l ++ [q]) → w.grownBy w1 v.ownBlock → K (a.put o.dst v') w1) : if Region.wanted o (yielded ops a.tmps) = true then Oper.wp Tryd.prog o a w K Q else E := by
  have hw : Region.wanted o (yielded ops a.tmps) = true := by simp [Region.wanted, hgd]
  rw [if_pos hw]
  obtain ⟨i0, hi, hz0, hz1, hz2⟩ := info_parts infoMessage
  obtain ⟨q0, q1, q2, q3⟩ := hq
  refine wp_append_own w s x 37 ho B 44 i0 (.agg #[.int .i64 0, .int .i64 0, .int .i64 0, .slice none 0 0]) 4 48 Tryd.underlying37 hi hz0 hz1 hz2 rfl (by decide) v l.length (qc l) hs hown ⟨g, 0, none⟩ 1 1 (qc [q]) hx rfl ?_ ?_ (by unfold maxLen; omega) (by omega) hB ?_
  · intro j u hj
    rw [Go.WideShapes.add_plain, Nat.zero_add]
    have hjl : j < 4 := by
      rcases Nat.lt_or_ge j 4 with hlt | hge
      · exact hlt
      · rw [List.getElem?_eq_none (by show 4 ≤ j; exact hge)] at hj; cases hj
    obtain rfl | rfl | rfl | rfl : j = 0 ∨ j = 1 ∨ j = 2 ∨ j = 3 := by omega
    · cases hj; exact q0
    · cases hj; exact q1
    · cases hj; exact q2
    · cases hj; exact q3
  · intro u hu
    have hu' : u ∈ [q.1, q.2.1, q.2.2.1, q.2.2.2] := hu
    simp only [List.mem_cons, List.not_mem_nil, or_false] at hu'
    rcases hu' with rfl | rfl | rfl | rfl
    · exact h1.1
    · exact h1.2.1
    · exact h1.2.2.1
    · exact h1.2.2.2
  · intro v' w1 hown' hgr _
    refine h v' w1 ?_ hgr
    unfold OwnM
    rw [qc_app, List.length_append]
    exact hown'

/-- THE SLICE v IS THE CALL's OWN ROW OF Box. -/
def OwnX (w : World) (B : Nat) (v : Value) (l : List Qd) : Prop := w.ownsRow B 39 4 v l.length (qc l)
theorem OwnX.nil (w : World) (B : Nat) : OwnX w B (.slice none 0 0) [] := World.ownsRow_nil _ _ _ _
theorem OwnX.form {w : World} {B : Nat} {v : Value} {l : List Qd} (h : OwnX w B v l) : ∃ a cap, v = .slice a l.length cap ∧ l.length ≤ cap ∧ cap ≤ maxLen := by
  rcases h.2 with ⟨h', h0⟩ | ⟨g, cap, cur, h', _, _, h4, h5, _⟩
  · exact ⟨none, 0, by rw [h', h0], by omega, by decide⟩
  · exact ⟨_, cap, h', h4, h5⟩
theorem OwnX.below {w w' : World} {B C : Nat} {v : Value} {l : List Qd} (h : OwnX w B v l) (hb : Below C w w') (hC : w.heap.size ≤ C) : OwnX w' B v l := ownQ_below h hb hC
theorem OwnX.kb {w w' : World} {B b : Nat} {v : Value} {l : List Qd} (h : OwnX w B v l) (hk : Kb b w w') (hb : b < B) : OwnX w' B v l := by
  refine World.ownsRow.kept h hk ?_
  cases hv : v.ownBlock with
  | none => exact .inl rfl
  | some k => right; intro e; have := (World.ownsRow.lt h k hv).1; simp at e; omega
theorem OwnX.set {w : World} {B : Nat} {v : Value} {l : List Qd} (h : OwnX w B v l) (p : Addr) (hp : p.block < B) (u : Value) : OwnX (w.setCell p u) B v l := ownsRow_setCell_below h hp u
/-- Blocks that begin with a value of another kind stay where the row grows. -/
theorem OwnX.kz {w w' : World} {B lo : Nat} {v : Value} {l : List Qd} (T : Value → Prop) (h : OwnX w B v l) (hg : w.grownBy w' v.ownBlock) (hT : l ≠ [] → ¬ T (nthQ l 0).1) (h0 : l = [] → v = .slice none 0 0) : Kz lo T w w' := by
  refine Kz.grown hg (fun g u e hu ht => ?_)
  rcases Nat.eq_zero_or_pos l.length with hz | hp
  · rw [h0 (List.length_eq_zero_iff.1 hz)] at e; cases e
  · rcases h.2 with ⟨h', _⟩ | ⟨g', cap, cur, h', _, _⟩
    · rw [h'] at e; cases e
    · rw [h'] at e
      obtain rfl : g' = g := by injection e
      rw [h'] at h
      obtain ⟨-, c0, -⟩ := ownQ_cells h 0 hp
      rw [Nat.zero_mul] at c0
      rw [c0] at hu
      cases hu
      exact hT (fun e => by rw [e] at hp; simp at hp) ht
theorem step_appX {w : World} {ops : Array Oper} {o : Oper} {a : Act} {K : Act → World → Prop} {Q : Exit → Act → World → Prop} {E : Prop} (hgd : o.guard = none) (s x : Operand)
    (ho : o.op = .call { callee := .builtin .append, args := #[s, x], argTypes := #[31, 31] })
    (B : Nat) (v : Value) (l : List Qd) (hs : a.eval s = v) (hown : OwnX w B v l) (g : Nat) (q : Qd) (hx : a.eval x = .slice (some ⟨g, 0, none⟩) 1 1) (hq : Qc w g q) (h1 : q.1.oneCell' = true ∧ q.2.1.oneCell' = true ∧ q.2.2.1.oneCell' = true ∧ q.2.2.2.oneCell' = true)
    (hsz : l.length + 1 ≤ 1048576) (hB : B ≤ w.heap.size)
    (h : ∀ v' w1, OwnX w1 B v' (l ++ [q]) → w.grownBy w1 v.ownBlock → K (a.put o.dst v') w1) : if Region.wanted o (yielded ops a.tmps) = true then Oper.wp Tryd.prog o a w K Q else E := by
  have hw : Region.wanted o (yielded ops a.tmps) = true := by simp [Region.wanted, hgd]
  rw [if_pos hw]
  obtain ⟨i0, hi, hz0, hz1, hz2⟩ := info_parts infoBox
  obtain ⟨q0, q1, q2, q3⟩ := hq
  refine wp_append_own w s x 31 ho B 39 i0 (.agg #[.string ByteArray.empty, .int .i64 0, .int .i64 0, .slice none 0 0]) 4 56 Tryd.underlying31 hi hz0 hz1 hz2 rfl (by decide) v l.length (qc l) hs hown ⟨g, 0, none⟩ 1 1 (qc [q]) hx rfl ?_ ?_ (by unfold maxLen; omega) (by omega) hB ?_
  · intro j u hj
    rw [Go.WideShapes.add_plain, Nat.zero_add]
    have hjl : j < 4 := by
      rcases Nat.lt_or_ge j 4 with hlt | hge
      · exact hlt
      · rw [List.getElem?_eq_none (by show 4 ≤ j; exact hge)] at hj; cases hj
    obtain rfl | rfl | rfl | rfl : j = 0 ∨ j = 1 ∨ j = 2 ∨ j = 3 := by omega
    · cases hj; exact q0
    · cases hj; exact q1
    · cases hj; exact q2
    · cases hj; exact q3
  · intro u hu
    have hu' : u ∈ [q.1, q.2.1, q.2.2.1, q.2.2.2] := hu
    simp only [List.mem_cons, List.not_mem_nil, or_false] at hu'
    rcases hu' with rfl | rfl | rfl | rfl
    · exact h1.1
    · exact h1.2.1
    · exact h1.2.2.1
    · exact h1.2.2.2
  · intro v' w1 hown' hgr _
    refine h v' w1 ?_ hgr
    unfold OwnX
    rw [qc_app, List.length_append]
    exact hown'

/-- Messages that were drawn, in a row of cells. -/
def DM (lo : Nat) (w : World) (ql : List Qd) (l : List Msg) : Prop := ql.length = l.length ∧ ∀ j, j < l.length → ∃ s, nthQ ql j = msQ (nthM l j) s ∧ D0 lo w s (nthM l j).b ∧ (nthM l j).b.length ≤ 600
theorem DM.kz {lo : Nat} {w w' : World} {ql : List Qd} {l : List Msg} (h : DM lo w ql l) (hk : Kz lo isU8 w w') : DM lo w' ql l := ⟨h.1, fun j hj => by obtain ⟨s, e, hd, hn⟩ := h.2 j hj; exact ⟨s, e, hd.kz hk, hn⟩⟩
theorem DM.nil (lo : Nat) (w : World) : DM lo w [] [] := ⟨rfl, fun j hj => absurd hj (Nat.not_lt_zero _)⟩
theorem DM.snoc {lo : Nat} {w : World} {ql : List Qd} {l : List Msg} (h : DM lo w ql l) (m : Msg) (s : SlQ) (hd : D0 lo w s m.b) (hn : m.b.length ≤ 600) : DM lo w (ql ++ [msQ m s]) (l ++ [m]) := by
  refine ⟨by rw [List.length_append, List.length_append, h.1]; rfl, fun j hj => ?_⟩
  rw [List.length_append, List.length_singleton] at hj
  by_cases hjl : j < l.length
  · have e1 : nthQ (ql ++ [msQ m s]) j = nthQ ql j := by unfold nthQ; rw [List.getD_eq_getElem?_getD, List.getD_eq_getElem?_getD, List.getElem?_append_left (by rw [h.1]; exact hjl)]
    have e2 : nthM (l ++ [m]) j = nthM l j := by unfold nthM; rw [List.getD_eq_getElem?_getD, List.getD_eq_getElem?_getD, List.getElem?_append_left hjl]
    rw [e1, e2]; exact h.2 j hjl
  · obtain rfl : j = l.length := by omega
    have e1 : nthQ (ql ++ [msQ m s]) l.length = msQ m s := by unfold nthQ; rw [← h.1, List.getD_eq_getElem?_getD, List.getElem?_append_right (Nat.le_refl _)]; simp
    have e2 : nthM (l ++ [m]) l.length = m := by unfold nthM; rw [List.getD_eq_getElem?_getD, List.getElem?_append_right (Nat.le_refl _)]; simp
    rw [e1, e2]; exact ⟨s, rfl, hd, hn⟩
theorem DM.first {lo : Nat} {w : World} {ql : List Qd} {l : List Msg} (h : DM lo w ql l) (hne : ql ≠ []) : ¬ isU8 (nthQ ql 0).1 := by
  have hp : 0 < l.length := by rw [← h.1]; exact List.length_pos_iff.2 hne
  obtain ⟨s, e, -⟩ := h.2 0 hp
  rw [e]
  rintro ⟨x, hx⟩
  cases hx
/-- A SLICE OF MESSAGES THAT WERE DRAWN: it lies at the beginning of a block from lo on. -/
def DR (lo : Nat) (w : World) (s : SlQ) (l : List Msg) : Prop := l.length = s.2.1 ∧ s.2.1 ≤ s.2.2 ∧ s.2.2 ≤ maxLen ∧ (∀ x, s.1 = some x → lo ≤ x.block) ∧ (l = [] ∨ ∃ g, s.1 = some ⟨g, 0, none⟩ ∧ g < w.heap.size ∧ ∀ i, i < l.length → ∃ q, (w.cell? ⟨g, i * 4, none⟩ = some (.int .i64 (nthM l i).u) ∧ w.cell? ⟨g, i * 4 + 1, none⟩ = some (.int .i64 (nthM l i).f) ∧ w.cell? ⟨g, i * 4 + 2, none⟩ = some (.int .i64 (nthM l i).d) ∧ w.cell? ⟨g, i * 4 + 3, none⟩ = some (slW q)) ∧ D0 lo w q (nthM l i).b ∧ (nthM l i).b.length ≤ 600)
theorem DR.kz {lo : Nat} {w w' : World} {s : SlQ} {l : List Msg} (h : DR lo w s l) (hk : Kz lo isN w w') : DR lo w' s l := by
  obtain ⟨h1, h2, h3, h4, h5⟩ := h
  refine ⟨h1, h2, h3, h4, ?_⟩
  rcases h5 with h5 | ⟨g, e, hg, hc⟩
  · exact .inl h5
  · rcases Nat.eq_zero_or_pos l.length with hz | hp
    · exact .inl (List.length_eq_zero_iff.1 hz)
    · obtain ⟨q0, ⟨c0, -⟩, -⟩ := hc 0 hp
      rw [Nat.zero_mul] at c0
      have hk' := hk.2 g (h4 _ e) ⟨_, c0, .inr ⟨_, rfl⟩⟩
      refine .inr ⟨g, e, Nat.lt_of_lt_of_le hg hk.1, fun i hi => ?_⟩
      obtain ⟨q, ⟨d0, d1, d2, d3⟩, hd, hn⟩ := hc i hi
      exact ⟨q, ⟨(hk' _).trans d0, (hk' _).trans d1, (hk' _).trans d2, (hk' _).trans d3⟩, hd.kz hk.u8, hn⟩
theorem DR.low {lo lo' : Nat} {w : World} {s : SlQ} {l : List Msg} (h : DR lo w s l) (hl : lo' ≤ lo) : DR lo' w s l := by
  obtain ⟨h1, h2, h3, h4, h5⟩ := h
  refine ⟨h1, h2, h3, fun x hx => Nat.le_trans hl (h4 x hx), ?_⟩
  rcases h5 with h5 | ⟨g, e, hg, hc⟩
  · exact .inl h5
  · refine .inr ⟨g, e, hg, fun i hi => ?_⟩
    obtain ⟨q, hq, hd, hn⟩ := hc i hi
    exact ⟨q, hq, hd.low hl, hn⟩
theorem DR.ms {lo : Nat} {w : World} {s : SlQ} {l : List Msg} (h : DR lo w s l) : IsMs lo w s l := by
  obtain ⟨h1, h2, h3, h4, h5⟩ := h
  refine ⟨h1, h2, h3, ?_⟩
  rcases h5 with h5 | ⟨g, e, hg, hc⟩
  · exact .inl h5
  · refine .inr ⟨g, 0, e, h4 _ e, hg, fun i hi => ?_⟩
    obtain ⟨q, hq, hd, -⟩ := hc i hi
    rw [Nat.zero_add]
    exact ⟨q, hq, hd.sl⟩
theorem DR.ft {lo : Nat} {w : World} {s : SlQ} {l : List Msg} (h : DR lo w s l) (hl : l.length ≤ 7) : FtMs l := by
  refine ⟨by omega, fun i hi => ?_⟩
  rcases h.2.2.2.2 with h5 | ⟨g, e, hg, hc⟩
  · rw [h5] at hi; simp at hi
  · obtain ⟨q, -, -, hn⟩ := hc i hi
    unfold FtM; omega
theorem OwnM.dr {w : World} {B : Nat} {a : Option Addr} {n cap : Nat} {ql : List Qd} {l : List Msg} (h : OwnM w B (.slice a n cap) ql) (hd : DM B w ql l) : DR B w (a, n, cap) l := by
  have hl : l.length = ql.length := hd.1.symm
  obtain ⟨a', c', e, hc, hm⟩ := h.form
  cases e
  refine ⟨hl, hc, hm, ?_, ?_⟩
  · rcases h.2 with ⟨h', _⟩ | ⟨g, cap', cur, h', hg, _⟩
    · intro x hx
      injection h' with ha
      dsimp only at hx
      rw [ha] at hx
      cases hx
    · cases h'; intro x hx; cases hx; exact hg
  · rcases Nat.eq_zero_or_pos l.length with hz | hp
    · exact .inl (List.length_eq_zero_iff.1 hz)
    · rcases h.2 with ⟨h', h0⟩ | ⟨g, cap', cur, h', hg, _⟩
      · omega
      · cases h'
        refine .inr ⟨g, rfl, (World.ownsRow.lt h g rfl).2, fun i hi => ?_⟩
        obtain ⟨-, c0, c1, c2, c3⟩ := ownQ_cells h i (by omega)
        obtain ⟨s, e, hd0⟩ := hd.2 i hi
        rw [e] at c0 c1 c2 c3
        exact ⟨s, ⟨c0, c1, c2, c3⟩, hd0⟩
end Go.Proofs.YtilepbbcinbmhaaDoor
