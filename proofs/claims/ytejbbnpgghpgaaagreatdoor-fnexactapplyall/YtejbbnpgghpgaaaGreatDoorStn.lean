/- Rows of messages and of mailboxes that grow by one; no conditions beyond those that each fact names. -/
import Derived.Test.YtejbbnpgghpgaaaGreatDoorStmToMsa
import Derived.Test.YtejbbnpgghpgaaaGreatDoorMsbToBxs
namespace Go.Proofs.YtejbbnpgghpgaaaGreatDoor
open Go.RowKit
set_option linter.unusedVariables false
theorem qcA (a b : List Qd) : qc (a ++ b) = qc a ++ qc b := by simp [qc]
def One4 (q : Qd) : Prop := q.1.oneCell' = true ∧ q.2.1.oneCell' = true ∧ q.2.2.1.oneCell' = true ∧ q.2.2.2.oneCell' = true
theorem Dm.one (d : Dm) : One4 d.q := ⟨rfl, rfl, rfl, rfl⟩
theorem Dx.one (d : Dx) : One4 d.q := ⟨rfl, rfl, rfl, rfl⟩
theorem app4 {w : World} {ops : Array Oper} {rest : List Oper} {o : Oper} {a : Act} {Q : Exit → Act → World → Prop} (hgd : o.guard = none) (s x : Operand) (t e : TypeId)
    (ho : o.op = .call { callee := .builtin .append, args := #[s, x], argTypes := #[t, t] }) (z : Value) (nb : Nat) (hz4 : z.cells.size = 4) (hnb : nb ≤ 64)
    (ht : Tryz.prog.underlying t = some (.slice e)) (hinfo : (Tryz.prog.info? e).map (fun i => (i.zero, i.size, i.bytes)) = some (some z, 4, nb))
    (sl : SlQ) (l : List Qd) (hs : a.eval s = slW sl) (hown : w.ownsRow 0 e 4 (slW sl) l.length (qc l)) (g : Nat) (q : Qd) (hx : a.eval x = .slice (some ⟨g, 0, none⟩) 1 1) (hq : Qc w g q) (h1 : One4 q)
    (hsz : l.length + 1 ≤ 1048576)
    (h : ∀ (s' : SlQ) w1, w1.ownsRow 0 e 4 (slW s') (l ++ [q]).length (qc (l ++ [q])) → w.grownBy w1 (slW sl).ownBlock → (blkS s' = blkS sl ∨ blkS s' = [w.heap.size]) → wpList Tryz.prog ops Q rest (a.put o.dst (slW s')) w1) : wpList Tryz.prog ops Q (o :: rest) a w := by
  obtain ⟨i0, hi, hz0, hz1, hz2⟩ := info_parts hinfo
  obtain ⟨q0, q1, q2, q3⟩ := hq
  refine wpList_append_own_at w hgd s x t ho 0 e i0 z 4 nb ht hi hz0 hz1 hz2 hz4 (by decide) (slW sl) l.length (qc l) hs hown ⟨g, 0, none⟩ 1 1 (qc [q]) hx rfl ?_ ?_ (by unfold maxLen; omega) (Nat.le_trans (Nat.mul_le_mul hsz hnb) (by decide)) (Nat.zero_le _) ?_
  · intro j u hj
    rw [Go.WideShapes.add_plain, Nat.zero_add]
    have hjl : j < 4 := by
      rcases Nat.lt_or_ge j 4 with hlt | hge
      · exact hlt
      · rw [List.getElem?_eq_none (by show 4 ≤ j; exact hge)] at hj; cases hj
    obtain rfl | rfl | rfl | rfl : j = 0 ∨ j = 1 ∨ j = 2 ∨ j = 3 := by omega
    · cases hj; exact q0
    · cases hj; exact q1
    · cases hj; exact q2
    · cases hj; exact q3
  · intro u hu
    have hu' : u ∈ [q.1, q.2.1, q.2.2.1, q.2.2.2] := hu
    simp only [List.mem_cons, List.not_mem_nil, or_false] at hu'
    rcases hu' with rfl | rfl | rfl | rfl
    · exact h1.1
    · exact h1.2.1
    · exact h1.2.2.1
    · exact h1.2.2.2
  · intro v' w1 hown' hgr _ hat
    obtain ⟨s', rfl, -⟩ := row_form hown'
    refine h s' w1 ?_ hgr ?_
    · rw [qcA, List.length_append]; exact hown'
    · rw [blkS_own, blkS_own]
      rcases hat with hat | hat
      · exact .inl (by rw [hat])
      · exact .inr (by rw [hat]; rfl)
theorem step4 {w : World} {ops : Array Oper} {o : Oper} {a : Act} {K : Act → World → Prop} {Q : Exit → Act → World → Prop} {E : Prop} (hgd : o.guard = none) (s x : Operand) (t e : TypeId)
    (ho : o.op = .call { callee := .builtin .append, args := #[s, x], argTypes := #[t, t] }) (z : Value) (nb : Nat) (hz4 : z.cells.size = 4) (hnb : nb ≤ 64)
    (ht : Tryz.prog.underlying t = some (.slice e)) (hinfo : (Tryz.prog.info? e).map (fun i => (i.zero, i.size, i.bytes)) = some (some z, 4, nb))
    (sl : SlQ) (l : List Qd) (hs : a.eval s = slW sl) (hown : w.ownsRow 0 e 4 (slW sl) l.length (qc l)) (g : Nat) (q : Qd) (hx : a.eval x = .slice (some ⟨g, 0, none⟩) 1 1) (hq : Qc w g q) (h1 : One4 q)
    (hsz : l.length + 1 ≤ 1048576)
    (h : ∀ (s' : SlQ) w1, w1.ownsRow 0 e 4 (slW s') (l ++ [q]).length (qc (l ++ [q])) → w.grownBy w1 (slW sl).ownBlock → (blkS s' = blkS sl ∨ blkS s' = [w.heap.size]) → K (a.put o.dst (slW s')) w1) : if Region.wanted o (yielded ops a.tmps) = true then Oper.wp Tryz.prog o a w K Q else E := by
  have hw : Region.wanted o (yielded ops a.tmps) = true := by simp [Region.wanted, hgd]
  rw [if_pos hw]
  obtain ⟨i0, hi, hz0, hz1, hz2⟩ := info_parts hinfo
  obtain ⟨q0, q1, q2, q3⟩ := hq
  obtain ⟨v', w1, hr, hown', hgr, -, hat⟩ := run_append_own_at (P := Tryz.prog) w 0 t o.type e i0 z 4 nb ht hi hz0 hz1 hz2 hz4 (by decide) (slW sl) l.length (qc l) hown ⟨g, 0, none⟩ 1 1 (qc [q]) rfl (by
    intro j u hj
    rw [Go.WideShapes.add_plain, Nat.zero_add]
    have hjl : j < 4 := by
      rcases Nat.lt_or_ge j 4 with hlt | hge
      · exact hlt
      · rw [List.getElem?_eq_none (by show 4 ≤ j; exact hge)] at hj; cases hj
    obtain rfl | rfl | rfl | rfl : j = 0 ∨ j = 1 ∨ j = 2 ∨ j = 3 := by omega
    · cases hj; exact q0
    · cases hj; exact q1
    · cases hj; exact q2
    · cases hj; exact q3) (by
    intro u hu
    have hu' : u ∈ [q.1, q.2.1, q.2.2.1, q.2.2.2] := hu
    simp only [List.mem_cons, List.not_mem_nil, or_false] at hu'
    rcases hu' with rfl | rfl | rfl | rfl
    · exact h1.1
    · exact h1.2.1
    · exact h1.2.2.1
    · exact h1.2.2.2) (by unfold maxLen; omega) (Nat.le_trans (Nat.mul_le_mul hsz hnb) (by decide)) (Nat.zero_le _)
  unfold Oper.wp execOp
  simp only [ho, resolve, invoke, builtin, Sem.run_bind, Sem.run_pure, Result.andThen_ok, List.map_toArray, List.map_cons, List.map_nil, hs, hx, hr]
  obtain ⟨s', rfl, -⟩ := row_form hown'
  refine h s' w1 ?_ hgr ?_
  · rw [qcA, List.length_append]; exact hown'
  · rw [blkS_own, blkS_own]
    rcases hat with hat | hat
    · exact .inl (by rw [hat])
    · exact .inr (by rw [hat]; rfl)
theorem HM.snoc {w w1 : World} {sl s' : SlQ} {ms : List Dm} {d : Dm} (h : HM w sl ms) (hnd : (blkS sl ++ fpM (ms ++ [d])).Nodup) (hd : OwB w d.s d.m.b) (hrow : w1.ownsRow 0 136 4 (slW s') (ms.map Dm.q ++ [d.q]).length (qc (ms.map Dm.q ++ [d.q])))
    (hg : w.grownBy w1 (slW sl).ownBlock) (hloc : blkS s' = blkS sl ∨ blkS s' = [w.heap.size]) :
    HM w1 s' (ms ++ [d]) ∧ (blkS s' ++ fpM (ms ++ [d])).Nodup ∧ ∀ g ∈ blkS s' ++ fpM (ms ++ [d]), g ∈ blkS sl ++ fpM (ms ++ [d]) ∨ g = w.heap.size := by
  have hfl : ∀ g ∈ fpM (ms ++ [d]), g < w.heap.size := fun g hm => by
    unfold fpM at hm; rw [flat_snoc] at hm
    rcases List.mem_append.1 hm with hm | hm
    · exact h.lt g (List.mem_append_right _ hm)
    · exact hd.lt g hm
  have hst : ∀ g ∈ fpM (ms ++ [d]), w1.heap[g]? = w.heap[g]? := fun g hm => hg.block g (hfl g hm) (fun e => nd_off hnd (mem_blkS.2 e.symm) hm)
  refine ⟨⟨by rw [List.length_append, List.map_append]; rw [List.length_append, List.length_map] at hrow; exact hrow, fun d' hm => ?_⟩, ?_, ?_⟩
  · rcases List.mem_append.1 hm with hm' | hm'
    · exact (h.2 d' hm').keep fun g hg' => hst g (List.mem_flatMap.2 ⟨d', hm, hg'⟩)
    · rw [List.mem_singleton] at hm'; subst hm'
      exact hd.keep fun g hg' => hst g (List.mem_flatMap.2 ⟨d', hm, hg'⟩)
  · rcases hloc with e | e
    · rw [e]; exact hnd
    · rw [e]; exact nd_app (by simp) (nd_right hnd) (fun g hg' hc => by rw [List.mem_singleton] at hg'; subst hg'; have := hfl _ hc; omega)
  · intro g hm
    rcases List.mem_append.1 hm with hm | hm
    · rcases hloc with e | e
      · exact .inl (List.mem_append_left _ (e ▸ hm))
      · rw [e, List.mem_singleton] at hm; exact .inr hm
    · exact .inl (List.mem_append_right _ hm)
theorem HX.snoc {w w1 : World} {sl s' : SlQ} {l : List Dx} {d : Dx} (h : HX w sl l) (hnd : (blkS sl ++ fpX (l ++ [d])).Nodup) (hd : HM w d.s d.ms) (hrow : w1.ownsRow 0 128 4 (slW s') (l.map Dx.q ++ [d.q]).length (qc (l.map Dx.q ++ [d.q])))
    (hg : w.grownBy w1 (slW sl).ownBlock) (hloc : blkS s' = blkS sl ∨ blkS s' = [w.heap.size]) :
    HX w1 s' (l ++ [d]) ∧ (blkS s' ++ fpX (l ++ [d])).Nodup ∧ ∀ g ∈ blkS s' ++ fpX (l ++ [d]), g ∈ blkS sl ++ fpX (l ++ [d]) ∨ g = w.heap.size := by
  have hfl : ∀ g ∈ fpX (l ++ [d]), g < w.heap.size := fun g hm => by
    unfold fpX at hm; rw [flat_snoc] at hm
    rcases List.mem_append.1 hm with hm | hm
    · exact h.lt g (List.mem_append_right _ hm)
    · exact hd.lt g hm
  have hst : ∀ g ∈ fpX (l ++ [d]), w1.heap[g]? = w.heap[g]? := fun g hm => hg.block g (hfl g hm) (fun e => nd_off hnd (mem_blkS.2 e.symm) hm)
  refine ⟨⟨by rw [List.length_append, List.map_append]; rw [List.length_append, List.length_map] at hrow; exact hrow, fun d' hm => ?_⟩, ?_, ?_⟩
  · rcases List.mem_append.1 hm with hm' | hm'
    · exact (h.2 d' hm').keep fun g hg' => hst g (List.mem_flatMap.2 ⟨d', hm, hg'⟩)
    · rw [List.mem_singleton] at hm'; subst hm'
      exact hd.keep fun g hg' => hst g (List.mem_flatMap.2 ⟨d', hm, hg'⟩)
  · rcases hloc with e | e
    · rw [e]; exact hnd
    · rw [e]; exact nd_app (by simp) (nd_right hnd) (fun g hg' hc => by rw [List.mem_singleton] at hg'; subst hg'; have := hfl _ hc; omega)
  · intro g hm
    rcases List.mem_append.1 hm with hm | hm
    · rcases hloc with e | e
      · exact .inl (List.mem_append_left _ (e ▸ hm))
      · rw [e, List.mem_singleton] at hm; exact .inr hm
    · exact .inl (List.mem_append_right _ hm)
def CM (N : Nat) (w : World) (s : SlQ) (l : List Msg) (ms : List Dm) : Prop := HM w s ms ∧ ms.map Dm.m = l ∧ (blkS s ++ fpM ms).Nodup ∧ ∀ g ∈ blkS s ++ fpM ms, N ≤ g
def CX (N : Nat) (w : World) (s : SlQ) (l : List Bx) (xs : List Dx) : Prop := HX w s xs ∧ xs.map Dx.bx = l ∧ (blkS s ++ fpX xs).Nodup ∧ ∀ g ∈ blkS s ++ fpX xs, N ≤ g
theorem CM.nil (N : Nat) (w : World) : CM N w (none, 0, 0) [] [] := ⟨⟨World.ownsRow_nil _ _ _ _, fun d hd => by simp at hd⟩, rfl, by simp [blkS, fpM], by simp [blkS, fpM]⟩
theorem CX.nil (N : Nat) (w : World) : CX N w (none, 0, 0) [] [] := ⟨⟨World.ownsRow_nil _ _ _ _, fun d hd => by simp at hd⟩, rfl, by simp [blkS, fpX], by simp [blkS, fpX]⟩
theorem CM.below {N C : Nat} {w w' : World} {s : SlQ} {l : List Msg} {ms : List Dm} (h : CM N w s l ms) (hb : Below C w w') (hC : w.heap.size ≤ C) : CM N w' s l ms := ⟨h.1.below hb hC, h.2⟩
theorem CX.below {N C : Nat} {w w' : World} {s : SlQ} {l : List Bx} {xs : List Dx} (h : CX N w s l xs) (hb : Below C w w') (hC : w.heap.size ≤ C) : CX N w' s l xs := ⟨h.1.below hb hC, h.2⟩
theorem CM.low {N N' : Nat} {w : World} {s : SlQ} {l : List Msg} {ms : List Dm} (h : CM N w s l ms) (hN : N' ≤ N) : CM N' w s l ms := ⟨h.1, h.2.1, h.2.2.1, fun g hg => Nat.le_trans hN (h.2.2.2 g hg)⟩
theorem CX.low {N N' : Nat} {w : World} {s : SlQ} {l : List Bx} {xs : List Dx} (h : CX N w s l xs) (hN : N' ≤ N) : CX N' w s l xs := ⟨h.1, h.2.1, h.2.2.1, fun g hg => Nat.le_trans hN (h.2.2.2 g hg)⟩
theorem CM.far {N : Nat} {w : World} {s : SlQ} {l : List Msg} {ms : List Dm} (h : CM N w s l ms) (k j : Nat) (u : Value) (hk : k ∉ blkS s ++ fpM ms) : CM N (w.setCell ⟨k, j, none⟩ u) s l ms := ⟨h.1.far k j u hk, h.2⟩
theorem CX.far {N : Nat} {w : World} {s : SlQ} {l : List Bx} {xs : List Dx} (h : CX N w s l xs) (k j : Nat) (u : Value) (hk : k ∉ blkS s ++ fpX xs) : CX N (w.setCell ⟨k, j, none⟩ u) s l xs := ⟨h.1.far k j u hk, h.2⟩
theorem CM.alloc {N : Nat} {w : World} {s : SlQ} {l : List Msg} {ms : List Dm} (h : CM N w s l ms) (o : Obj) : CM N (w.alloc o) s l ms := h.below ((Below.refl _ w).alloc (Nat.le_refl _) o) (Nat.le_refl _)
theorem CX.alloc {N : Nat} {w : World} {s : SlQ} {l : List Bx} {xs : List Dx} (h : CX N w s l xs) (o : Obj) : CX N (w.alloc o) s l xs := h.below ((Below.refl _ w).alloc (Nat.le_refl _) o) (Nat.le_refl _)
theorem CM.form {N : Nat} {w : World} {s : SlQ} {l : List Msg} {ms : List Dm} (h : CM N w s l ms) : ∃ a cap, s = (a, l.length, cap) ∧ ms.length = l.length ∧ l.length ≤ cap ∧ cap ≤ maxLen ∧ (a = none ∧ l = [] ∨ ∃ g, a = some ⟨g, 0, none⟩) := by
  obtain ⟨⟨a', n', c'⟩, e, h1, h2, h3, h4⟩ := row_form h.1.1
  obtain ⟨a, n, c⟩ := s
  cases e
  have hl : ms.length = l.length := by rw [← h.2.1, List.length_map]
  dsimp only at h1 h2 h3 h4
  rw [hl] at h1 h2 h4
  exact ⟨a', c', by rw [h1], hl, h2, h3, h4.imp (fun h => ⟨h.1, List.length_eq_zero_iff.1 h.2⟩) id⟩
theorem CX.form {N : Nat} {w : World} {s : SlQ} {l : List Bx} {xs : List Dx} (h : CX N w s l xs) : ∃ a cap, s = (a, l.length, cap) ∧ xs.length = l.length ∧ l.length ≤ cap ∧ cap ≤ maxLen ∧ (a = none ∧ l = [] ∨ ∃ g, a = some ⟨g, 0, none⟩) := by
  obtain ⟨⟨a', n', c'⟩, e, h1, h2, h3, h4⟩ := row_form h.1.1
  obtain ⟨a, n, c⟩ := s
  cases e
  have hl : xs.length = l.length := by rw [← h.2.1, List.length_map]
  dsimp only at h1 h2 h3 h4
  rw [hl] at h1 h2 h4
  exact ⟨a', c', by rw [h1], hl, h2, h3, h4.imp (fun h => ⟨h.1, List.length_eq_zero_iff.1 h.2⟩) id⟩
theorem CM.grow {N : Nat} {w w1 : World} {sl s' sd : SlQ} {l : List Msg} {ms : List Dm} {m : Msg} (h : CM N w sl l ms) (hd : OwB w sd m.b) (hof : ∀ g ∈ blkS sd, g ∉ blkS sl ++ fpM ms) (hN : ∀ g ∈ blkS sd, N ≤ g) (hNw : N ≤ w.heap.size)
    (hrow : w1.ownsRow 0 136 4 (slW s') (ms.map Dm.q ++ [(⟨m, sd⟩ : Dm).q]).length (qc (ms.map Dm.q ++ [(⟨m, sd⟩ : Dm).q]))) (hg : w.grownBy w1 (slW sl).ownBlock) (hloc : blkS s' = blkS sl ∨ blkS s' = [w.heap.size]) :
    CM N w1 s' (l ++ [m]) (ms ++ [⟨m, sd⟩]) ∧ ∀ g ∈ blkS s' ++ fpM (ms ++ [⟨m, sd⟩]), g ∈ blkS sl ++ fpM (ms ++ [⟨m, sd⟩]) ∨ g = w.heap.size := by
  have e : fpM (ms ++ [⟨m, sd⟩]) = fpM ms ++ blkS sd := flat_snoc _ _ _
  have hnd : (blkS sl ++ fpM (ms ++ [⟨m, sd⟩])).Nodup := by
    rw [e, ← List.append_assoc]
    exact nd_app h.2.2.1 (blkS_nodup _) (fun g hg' hc => hof g hc hg')
  obtain ⟨a1, a2, a3⟩ := h.1.snoc hnd hd hrow hg hloc
  refine ⟨⟨a1, by rw [List.map_append, h.2.1]; rfl, a2, fun g hm => ?_⟩, a3⟩
  rcases a3 g hm with hm' | rfl
  · rw [e, ← List.append_assoc] at hm'
    rcases List.mem_append.1 hm' with hm' | hm'
    · exact h.2.2.2 g hm'
    · exact hN g hm'
  · exact hNw
theorem CX.grow {N : Nat} {w w1 : World} {sl s' : SlQ} {l : List Bx} {xs : List Dx} {d : Dx} (h : CX N w sl l xs) (hd : HM w d.s d.ms) (hdn : (fpD d).Nodup) (hof : ∀ g ∈ fpD d, g ∉ blkS sl ++ fpX xs) (hN : ∀ g ∈ fpD d, N ≤ g) (hNw : N ≤ w.heap.size)
    (hrow : w1.ownsRow 0 128 4 (slW s') (xs.map Dx.q ++ [d.q]).length (qc (xs.map Dx.q ++ [d.q]))) (hg : w.grownBy w1 (slW sl).ownBlock) (hloc : blkS s' = blkS sl ∨ blkS s' = [w.heap.size]) :
    CX N w1 s' (l ++ [d.bx]) (xs ++ [d]) ∧ ∀ g ∈ blkS s' ++ fpX (xs ++ [d]), g ∈ blkS sl ++ fpX (xs ++ [d]) ∨ g = w.heap.size := by
  have e : fpX (xs ++ [d]) = fpX xs ++ fpD d := flat_snoc _ _ _
  have hnd : (blkS sl ++ fpX (xs ++ [d])).Nodup := by
    rw [e, ← List.append_assoc]
    exact nd_app h.2.2.1 hdn (fun g hg' hc => hof g hc hg')
  obtain ⟨a1, a2, a3⟩ := h.1.snoc hnd hd hrow hg hloc
  refine ⟨⟨a1, by rw [List.map_append, h.2.1]; rfl, a2, fun g hm => ?_⟩, a3⟩
  rcases a3 g hm with hm' | rfl
  · rw [e, ← List.append_assoc] at hm'
    rcases List.mem_append.1 hm' with hm' | hm'
    · exact h.2.2.2 g hm'
    · exact hN g hm'
  · exact hNw
theorem Own.slq {w : World} {B : Nat} {v : Value} {b : List Nat} (h : Own w B v b) (hB : IsB b) : ∃ s : SlQ, v = slW s ∧ OwB w s b ∧ ∀ g ∈ blkS s, B ≤ g ∧ g < w.heap.size := by
  obtain ⟨a, cap, rfl, -, -⟩ := h.form
  exact ⟨(a, b.length, cap), rfl, ⟨row_low h (Nat.zero_le _), hB⟩, fun g hg => h.lt g (mem_blkS.1 hg)⟩
theorem below_put {C : Nat} {w w' : World} (h : Below C w w') (g j : Nat) (u : Value) (hg : C ≤ g) : Below C w (w'.setCell ⟨g, j, none⟩ u) := h.setCell hg u
def Qw (w : World) (g : Nat) (q : Qd) : Prop := Qc w g q ∧ ∀ j, w.frozen? ⟨g, j, none⟩ = false
theorem Qw.lt {w : World} {g : Nat} {q : Qd} (h : Qw w g q) : g < w.heap.size := h.1.lt
theorem Qw.new (w : World) (c0 c1 c2 c3 : Value) (t : TypeId) : Qw (w.alloc (.cells #[c0, c1, c2, c3] t)) w.heap.size (c0, c1, c2, c3) := ⟨Qc.new _ _ _ _ _ _, fun j => by simp⟩
theorem Qw.block {w w' : World} {g : Nat} {q : Qd} (h : Qw w g q) (hb : w'.heap[g]? = w.heap[g]?) : Qw w' g q := by
  obtain ⟨⟨h0, h1, h2, h3⟩, f⟩ := h
  exact ⟨⟨(World.cell?_of_block hb).trans h0, (World.cell?_of_block hb).trans h1, (World.cell?_of_block hb).trans h2, (World.cell?_of_block hb).trans h3⟩, fun j => (World.frozen?_of_block hb).trans (f j)⟩
theorem Qw.below {C : Nat} {w w' : World} {g : Nat} {q : Qd} (h : Qw w g q) (hb : Below C w w') (hg : g < C) : Qw w' g q := h.block (hb.block g hg)
theorem Qw.grown {w w' : World} {g : Nat} {q : Qd} {r : Option Nat} (h : Qw w g q) (hb : w.grownBy w' r) (hg : some g ≠ r) : Qw w' g q := h.block (hb.block g h.lt hg)
theorem Qw.set0 {w : World} {g : Nat} {q : Qd} (h : Qw w g q) (v : Value) : Qw (w.setCell ⟨g, 0, none⟩ v) g (v, q.2.1, q.2.2.1, q.2.2.2) := by
  obtain ⟨⟨h0, h1, h2, h3⟩, f⟩ := h
  exact ⟨⟨World.cell?_setCell_same _ _ _ h0, (World.cell?_setCell_other _ _ _ _ (by simp)).trans h1, (World.cell?_setCell_other _ _ _ _ (by simp)).trans h2, (World.cell?_setCell_other _ _ _ _ (by simp)).trans h3⟩, fun j => by simpa using f j⟩
theorem Qw.set1 {w : World} {g : Nat} {q : Qd} (h : Qw w g q) (v : Value) : Qw (w.setCell ⟨g, 1, none⟩ v) g (q.1, v, q.2.2.1, q.2.2.2) := by
  obtain ⟨⟨h0, h1, h2, h3⟩, f⟩ := h
  exact ⟨⟨(World.cell?_setCell_other _ _ _ _ (by simp)).trans h0, World.cell?_setCell_same _ _ _ h1, (World.cell?_setCell_other _ _ _ _ (by simp)).trans h2, (World.cell?_setCell_other _ _ _ _ (by simp)).trans h3⟩, fun j => by simpa using f j⟩
theorem Qw.set2 {w : World} {g : Nat} {q : Qd} (h : Qw w g q) (v : Value) : Qw (w.setCell ⟨g, 2, none⟩ v) g (q.1, q.2.1, v, q.2.2.2) := by
  obtain ⟨⟨h0, h1, h2, h3⟩, f⟩ := h
  exact ⟨⟨(World.cell?_setCell_other _ _ _ _ (by simp)).trans h0, (World.cell?_setCell_other _ _ _ _ (by simp)).trans h1, World.cell?_setCell_same _ _ _ h2, (World.cell?_setCell_other _ _ _ _ (by simp)).trans h3⟩, fun j => by simpa using f j⟩
theorem Qw.set3 {w : World} {g : Nat} {q : Qd} (h : Qw w g q) (v : Value) : Qw (w.setCell ⟨g, 3, none⟩ v) g (q.1, q.2.1, q.2.2.1, v) := by
  obtain ⟨⟨h0, h1, h2, h3⟩, f⟩ := h
  exact ⟨⟨(World.cell?_setCell_other _ _ _ _ (by simp)).trans h0, (World.cell?_setCell_other _ _ _ _ (by simp)).trans h1, (World.cell?_setCell_other _ _ _ _ (by simp)).trans h2, World.cell?_setCell_same _ _ _ h3⟩, fun j => by simpa using f j⟩
theorem Qw.far {w : World} {g : Nat} {q : Qd} (h : Qw w g q) (k j : Nat) (v : Value) (hk : k ≠ g) : Qw (w.setCell ⟨k, j, none⟩ v) g q := h.block (Below.heap_setCell _ _ _ _ (fun e => hk e.symm))
def Dw (w : World) (g : Nat) (q : Value × Value) : Prop := (w.cell? ⟨g, 0, none⟩ = some q.1 ∧ w.cell? ⟨g, 1, none⟩ = some q.2) ∧ ∀ j, w.frozen? ⟨g, j, none⟩ = false
theorem Dw.lt {w : World} {g : Nat} {q : Value × Value} (h : Dw w g q) : g < w.heap.size := World.block_lt_of_cell? w ⟨g, 0, none⟩ h.1.1
theorem Dw.new (w : World) (c0 c1 : Value) (t : TypeId) : Dw (w.alloc (.cells #[c0, c1] t)) w.heap.size (c0, c1) := ⟨⟨by simp, by simp⟩, fun j => by simp⟩
theorem Dw.block {w w' : World} {g : Nat} {q : Value × Value} (h : Dw w g q) (hb : w'.heap[g]? = w.heap[g]?) : Dw w' g q := ⟨⟨(World.cell?_of_block hb).trans h.1.1, (World.cell?_of_block hb).trans h.1.2⟩, fun j => (World.frozen?_of_block hb).trans (h.2 j)⟩
theorem Dw.below {C : Nat} {w w' : World} {g : Nat} {q : Value × Value} (h : Dw w g q) (hb : Below C w w') (hg : g < C) : Dw w' g q := h.block (hb.block g hg)
theorem Dw.grown {w w' : World} {g : Nat} {q : Value × Value} {r : Option Nat} (h : Dw w g q) (hb : w.grownBy w' r) (hg : some g ≠ r) : Dw w' g q := h.block (hb.block g h.lt hg)
theorem Dw.set0 {w : World} {g : Nat} {q : Value × Value} (h : Dw w g q) (v : Value) : Dw (w.setCell ⟨g, 0, none⟩ v) g (v, q.2) := ⟨⟨World.cell?_setCell_same _ _ _ h.1.1, (World.cell?_setCell_other _ _ _ _ (by simp)).trans h.1.2⟩, fun j => by simpa using h.2 j⟩
theorem Dw.set1 {w : World} {g : Nat} {q : Value × Value} (h : Dw w g q) (v : Value) : Dw (w.setCell ⟨g, 1, none⟩ v) g (q.1, v) := ⟨⟨(World.cell?_setCell_other _ _ _ _ (by simp)).trans h.1.1, World.cell?_setCell_same _ _ _ h.1.2⟩, fun j => by simpa using h.2 j⟩
theorem Dw.far {w : World} {g : Nat} {q : Value × Value} (h : Dw w g q) (k j : Nat) (v : Value) (hk : k ≠ g) : Dw (w.setCell ⟨k, j, none⟩ v) g q := h.block (Below.heap_setCell _ _ _ _ (fun e => hk e.symm))
end Go.Proofs.YtejbbnpgghpgaaaGreatDoor
