/- A text that the model bends: it ends with some text of at most four letters more; nothing below its source is turned. -/
import Derived.Test.YtdidjgpgpknknaaDoorDrw3
import Derived.ArgAppend
namespace Go.Proofs.YtdidjgpgpknknaaDoor
open Go.RowKit

/-- A slice of bytes out of a text: n bytes l, room up to cap, in block g, which may be written. -/
def Cv (w : World) (g n cap : Nat) (l : List Nat) : Prop := l.length = n ∧ n ≤ cap ∧ g < w.heap.size ∧ (∀ i, i < n → w.cell? ⟨g, i, none⟩ = some (.int .u8 (nth l i : Int))) ∧ ∀ i, i < cap → (w.cell? ⟨g, i, none⟩).isSome = true ∧ w.frozen? ⟨g, i, none⟩ = false
theorem Cv.rd {w : World} {g n cap : Nat} {l : List Nat} (h : Cv w g n cap l) : Rd w (some ⟨g, 0, none⟩) l := by
  obtain ⟨hl, _, hg, hc, _⟩ := h
  exact .inr ⟨g, 0, rfl, hg, fun i hi => by rw [Nat.zero_add]; exact hc i (by omega)⟩
theorem Cv.kept {w w' : World} {g n cap b : Nat} {l : List Nat} (h : Cv w g n cap l) (hg : w.grownBy w' (some b)) (hb : b ≠ g) : Cv w' g n cap l := by
  obtain ⟨hl, hn, hlt, hc, hf⟩ := h
  have e1 : ∀ i, w'.cell? ⟨g, i, none⟩ = w.cell? ⟨g, i, none⟩ := fun i => hg.cell_far ⟨g, i, none⟩ hlt (by simp; omega)
  have e2 : ∀ i, w'.frozen? ⟨g, i, none⟩ = w.frozen? ⟨g, i, none⟩ := fun i => hg.frozen_far ⟨g, i, none⟩ hlt (by simp; omega)
  exact ⟨hl, hn, Nat.lt_of_lt_of_le hlt hg.size, fun i hi => (e1 i).trans (hc i hi), fun i hi => by rw [e1, e2]; exact hf i hi⟩
theorem Cv.below {w w' : World} {g n cap C : Nat} {l : List Nat} (h : Cv w g n cap l) (hb : Below C w w') (hC : g < C) : Cv w' g n cap l := by
  obtain ⟨hl, hn, hlt, hc, hf⟩ := h
  have e1 : ∀ i, w'.cell? ⟨g, i, none⟩ = w.cell? ⟨g, i, none⟩ := fun i => hb.cell (p := ⟨g, i, none⟩) hC
  have e2 : ∀ i, w'.frozen? ⟨g, i, none⟩ = w.frozen? ⟨g, i, none⟩ := fun i => hb.frozen (p := ⟨g, i, none⟩) hC
  exact ⟨hl, hn, Nat.lt_of_lt_of_le hlt hb.size, fun i hi => (e1 i).trans (hc i hi), fun i hi => by rw [e1, e2]; exact hf i hi⟩
theorem bytesRow_size (l : List Nat) (cap : Nat) (h : l.length ≤ cap) : (bytesRow (str l) cap).size = cap := by
  have := str_size l
  have e : (str l).data.size = (str l).size := rfl
  simp [bytesRow, e, this]; omega
theorem Cv.conv (w : World) (l : List Nat) (hB : IsB l) (cap : Nat) (h : l.length ≤ cap) : Cv (w.alloc (.cells (bytesRow (str l) cap) 5 ((bytesRow (str l) cap).size, (bytesRow (str l) cap).size + 1))) w.heap.size l.length cap l := by
  have hs := bytesRow_size l cap h
  refine ⟨rfl, h, by simp, fun i hi => ?_, fun i hi => ⟨?_, ?_⟩⟩
  · rw [World.cell?_alloc_mark, ← Array.getElem?_toList, ← bc_get hi, ← bytesRow_take l hB cap, List.getElem?_take, if_pos hi]
  · rw [World.cell?_alloc_mark, Array.getElem?_eq_getElem (by omega)]; rfl
  · rw [World.frozen?_alloc_mark, hs, decide_eq_false (by omega), Bool.false_and]
theorem below_setCells (g : Nat) : ∀ (vs : List Value) (o : Nat) (w : World), Below g w (w.setCells g o vs)
  | [], _, _ => Below.refl _ _
  | v :: r, o, w => ((Below.refl _ _).setCell (p := ⟨g, o, none⟩) (Nat.le_refl _) v).trans (below_setCells g r (o + 1) (w.setCell ⟨g, o, none⟩ v))

/-- AN APPEND onto such a slice: where there is room, and where there is none. -/
theorem wpList_app_cv {w : World} {ops : Array Oper} {rest : List Oper} {o : Oper} {a : Act} {Q : Exit → Act → World → Prop} (hgd : o.guard = none) (s x : Operand)
    (ho : o.op = .call { callee := .builtin .append, args := #[s, x], argTypes := #[22, 22] })
    (g n cap : Nat) (l : List Nat) (hs : a.eval s = .slice (some ⟨g, 0, none⟩) n cap) (hcv : Cv w g n cap l) (ad : Addr) (m c : Nat) (new : List Nat) (hx : a.eval x = .slice (some ad) m c) (hm : new.length = m)
    (hnew : ∀ j, j < m → w.cell? (ad.add j) = some (.int .u8 (nth new j : Int))) (hsz : n + m ≤ 1073741824)
    (h : ∀ (ao : Option Addr) (N cap' : Nat) (w1 : World), (∀ c', (convert 22 9 (.slice ao N c')).run Tryd.prog w1 = .ok (.string (str (l ++ new))) w1) → Below g w w1 → wpList Tryd.prog ops Q rest (a.put o.dst (.slice ao N cap')) w1) : wpList Tryd.prog ops Q (o :: rest) a w := by
  obtain ⟨i0, hi, hz0, hz1, hz2⟩ := info_parts infoB
  obtain ⟨hl, hn, hlt, hc, hf⟩ := hcv
  refine wpList_append_arg w hgd s x 22 ho 5 i0 (.int .u8 0) 1 1 Tryd.underlying22 hi hz0 hz1 hz2 rfl (by decide) g 0 n cap (bc l) hs (by rw [bc_len, hl]; omega) ?_ ad m c (bc new) hx (by rw [bc_len, hm]; omega) ?_ (bc_one new) ?_ (by unfold maxLen; omega) (by omega) ?_ ?_
  · intro j u hj
    have hjl : j < l.length := by
      rcases Nat.lt_or_ge j l.length with hlt | hge
      · exact hlt
      · rw [List.getElem?_eq_none (by rw [bc_len]; exact hge)] at hj; cases hj
    rw [bc_get hjl] at hj
    cases hj
    rw [Nat.zero_add]
    exact hc j (by omega)
  · intro j u hj
    have hjl : j < new.length := by
      rcases Nat.lt_or_ge j new.length with hlt | hge
      · exact hlt
      · rw [List.getElem?_eq_none (by rw [bc_len]; exact hge)] at hj; cases hj
    rw [bc_get hjl] at hj
    cases hj
    exact hnew j (by omega)
  · intro hr j hj
    rw [bc_len] at hj
    exact hf _ (by omega)
  · intro hr
    have hin := World.cell?_setCells_in g (bc new) (0 + n * 1) w (fun j hj => by rw [bc_len] at hj; exact (hf _ (by omega)).1)
    have hrd : Rd (w.setCells g (0 + n * 1) (bc new)) (some ⟨g, 0, none⟩) (l ++ new) := by
      refine .inr ⟨g, 0, rfl, Nat.lt_of_lt_of_le hlt (below_setCells g _ _ _).size, fun i hi => ?_⟩
      rw [List.length_append] at hi
      rw [show (⟨g, 0 + i, none⟩ : Addr) = ⟨g, i, none⟩ by rw [Nat.zero_add]]
      rcases Nat.lt_or_ge i n with h1 | h1
      · rw [World.cell?_setCells_out g (bc new) (0 + n * 1) w ⟨g, i, none⟩ (fun _ _ => .inl (by simp; omega)), hc i h1, nth_get (by omega), nth_get (by rw [List.length_append]; omega), List.getElem_append_left (by omega)]
      · have := hin (i - n) (by rw [bc_len]; omega)
        rw [show 0 + n * 1 + (i - n) = i by omega] at this
        rw [this, nth_get (by rw [List.length_append]; omega), List.getElem_append_right (by omega)]
        simp [bc, hl]
    exact h _ _ _ _ (fun c' => run_str (by rw [List.length_append]; omega) hrd) (below_setCells g _ _ _)
  · intro _ v' w' hown hgr
    have ho' : Own w' w.heap.size v' (l ++ new) := by unfold Own; rw [bc_app, List.length_append, hl, hm]; exact hown
    obtain ⟨ao, cap', rfl, _⟩ := ho'.form
    exact h ao _ cap' w' (fun c' => run_str rfl ho'.rd.2) ((Below.refl _ _).grown hgr (by omega) (by intro k hk; cases hk))
end Go.Proofs.YtdidjgpgpknknaaDoor
