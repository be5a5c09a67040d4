/- A slice of bytes that may be written and grows by appends, whether it was made of a text or is a row of the call's own; no conditions beyond those that each fact names. -/
import Derived.Test.YtlmbieclgkpofaaDoorCv
import Derived.Test.YtlmbieclgkpofaaDoorApp
import Derived.ArgAppend
import Derived.Deep.MidRow
namespace Go.Proofs.YtlmbieclgkpofaaDoor
open Go.RowKit

/-- The slice v holds l, at a block of B or behind it, and may be written up to its room. -/
def Gr (w : World) (B : Nat) (v : Value) (l : List Nat) : Prop := ∃ g cap, v = .slice (some ⟨g, 0, none⟩) l.length cap ∧ B ≤ g ∧ cap ≤ maxLen ∧ Cv w g l.length cap l
theorem Gr.rd {w : World} {B : Nat} {v : Value} {l : List Nat} (h : Gr w B v l) : ∃ g cap, v = .slice (some ⟨g, 0, none⟩) l.length cap ∧ Rd w (some ⟨g, 0, none⟩) l ∧ l.length ≤ cap := by
  obtain ⟨g, cap, e, _, _, hc⟩ := h
  exact ⟨g, cap, e, hc.rd, hc.2.1⟩
theorem Gr.below {w w' : World} {B C : Nat} {v : Value} {l : List Nat} (h : Gr w B v l) (hb : Below C w w') (hC : w.heap.size ≤ C) : Gr w' B v l := by
  obtain ⟨g, cap, e, h1, h2, hc⟩ := h
  exact ⟨g, cap, e, h1, h2, hc.below hb (Nat.lt_of_lt_of_le hc.2.2.1 hC)⟩
theorem Gr.alloc {w : World} {B : Nat} {v : Value} {l : List Nat} (h : Gr w B v l) (o : Obj) : Gr (w.alloc o) B v l := h.below ((Below.refl _ _).alloc (Nat.le_refl _) o) (Nat.le_refl _)
theorem Gr.drew {w : World} {B : Nat} {v : Value} {l : List Nat} (h : Gr w B v l) : Gr w.drew B v l := h.below (Below.refl _ _).drew (Nat.le_refl _)
theorem Gr.low {w : World} {B C : Nat} {v : Value} {l : List Nat} (h : Gr w B v l) (hC : C ≤ B) : Gr w C v l := by
  obtain ⟨g, cap, e, h1, h2, hc⟩ := h
  exact ⟨g, cap, e, by omega, h2, hc⟩
theorem Gr.conv (w : World) (l : List Nat) (hB : IsB l) (B cap : Nat) (hBw : B ≤ w.heap.size) (h : l.length ≤ cap) (hm : cap ≤ maxLen) : Gr (w.alloc (.cells (bytesRow (str l) cap) 5 ((bytesRow (str l) cap).size, (bytesRow (str l) cap).size + 1))) B (.slice (some ⟨w.heap.size, 0, none⟩) l.length cap) l :=
  ⟨w.heap.size, cap, rfl, hBw, hm, Cv.conv w l hB cap h⟩
/-- A row of the call's own may be written up to its room. -/
theorem Gr.own {w : World} {B : Nat} {v : Value} {l : List Nat} (h : Own w B v l) (hp : 0 < l.length) : Gr w B v l := by
  obtain ⟨a, cap, hv, h1, h2⟩ := h.form
  subst hv
  obtain ⟨hlen, hrd⟩ := h.rd
  rcases h.2 with ⟨h', h0⟩ | ⟨g, cap', cur, e, hB, hh, hc1, hc2, hcs, -⟩
  · omega
  · injection e with e1 _ e2
    subst e1 e2
    have hlt : g < w.heap.size := (Array.getElem?_eq_some_iff.1 hh).1
    refine ⟨g, cap, rfl, hB, h2, rfl, h1, hlt, ?_, ?_⟩
    · obtain ⟨b', off', e', -, hc⟩ := hrd.at_ hp
      cases e'
      intro i hi
      have := hc i hi
      rw [Nat.zero_add] at this
      exact this
    · intro i hi
      have hs : cur.size = cap := by simpa using hcs
      refine ⟨?_, ?_⟩
      · simp [World.cell?, hh, hs, hi]
      · simp [World.frozen?, hh]
/-- AN APPEND, whether there is room or none. -/
theorem wpList_app_gr {w : World} {ops : Array Oper} {rest : List Oper} {o : Oper} {a : Act} {Q : Exit → Act → World → Prop} (hgd : o.guard = none) (s x : Operand)
    (ho : o.op = .call { callee := .builtin .append, args := #[s, x], argTypes := #[23, 23] })
    (B : Nat) (v : Value) (l : List Nat) (hs : a.eval s = v) (hv : Gr w B v l) (ad : Addr) (m c : Nat) (new : List Nat) (hx : a.eval x = .slice (some ad) m c) (hm : new.length = m)
    (hnew : ∀ j, j < m → w.cell? (ad.add j) = some (.int .u8 (nth new j : Int))) (hsz : l.length + m ≤ 1073741824) (hp : 0 < l.length) (hB : B ≤ w.heap.size)
    (h : ∀ v' w1, Gr w1 B v' (l ++ new) → Below B w w1 → wpList Tryd.prog ops Q rest (a.put o.dst v') w1) : wpList Tryd.prog ops Q (o :: rest) a w := by
  obtain ⟨i0, hi, hz0, hz1, hz2⟩ := info_parts infoB
  obtain ⟨g, cap, e, hBg, hcm, hl, hn, hlt, hc, hf⟩ := hv
  rw [e] at hs
  refine wpList_append_arg w hgd s x 23 ho 5 i0 (.int .u8 0) 1 1 Tryd.underlying23 hi hz0 hz1 hz2 rfl (by decide) g 0 l.length cap (bc l) hs (by rw [bc_len]; omega) ?_ ad m c (bc new) hx (by rw [bc_len, hm]; omega) ?_ (bc_one new) ?_ (by unfold maxLen; omega) (by omega) ?_ ?_
  · intro j u hj
    have hjl : j < l.length := by
      rcases Nat.lt_or_ge j l.length with hlt | hge
      · exact hlt
      · rw [List.getElem?_eq_none (by rw [bc_len]; exact hge)] at hj; cases hj
    rw [bc_get hjl] at hj
    cases hj
    rw [Nat.zero_add]
    exact hc j (by omega)
  · intro j u hj
    have hjl : j < new.length := by
      rcases Nat.lt_or_ge j new.length with hlt | hge
      · exact hlt
      · rw [List.getElem?_eq_none (by rw [bc_len]; exact hge)] at hj; cases hj
    rw [bc_get hjl] at hj
    cases hj
    exact hnew j (by omega)
  · intro hr j hj
    rw [bc_len] at hj
    exact hf _ (by omega)
  · intro hr
    have hin := World.cell?_setCells_in g (bc new) (0 + l.length * 1) w (fun j hj => by rw [bc_len] at hj; exact (hf _ (by omega)).1)
    have hcell : ∀ i, i < l.length → (w.setCells g (0 + l.length * 1) (bc new)).cell? ⟨g, i, none⟩ = some (.int .u8 (nth (l ++ new) i : Int)) := fun i h1 => by
      rw [World.cell?_setCells_out g (bc new) (0 + l.length * 1) w ⟨g, i, none⟩ (fun _ _ => .inl (by simp; omega)), hc i h1, nth_get (by omega), nth_get (by rw [List.length_append]; omega), List.getElem_append_left (by omega)]
    have hcell2 : ∀ i, l.length ≤ i → i < (l ++ new).length → (w.setCells g (0 + l.length * 1) (bc new)).cell? ⟨g, i, none⟩ = some (.int .u8 (nth (l ++ new) i : Int)) := fun i h1 hi => by
      rw [List.length_append] at hi
      have := hin (i - l.length) (by rw [bc_len]; omega)
      rw [show 0 + l.length * 1 + (i - l.length) = i by omega] at this
      rw [this, nth_get (by rw [List.length_append]; omega), List.getElem_append_right (by omega)]
      simp [bc]
    refine h _ _ ⟨g, cap, ?_, hBg, hcm, rfl, by rw [List.length_append]; omega, Nat.lt_of_lt_of_le hlt (below_setCells g _ _ _).size, fun i hi => ?_, fun i hi => ⟨?_, ?_⟩⟩ ((below_setCells g _ _ _).mono hBg)
    · rw [List.length_append, hm]
    · rcases Nat.lt_or_ge i l.length with h1 | h1
      · exact hcell i h1
      · exact hcell2 i h1 hi
    · exact World.isSome_setCells g (bc new) _ w _ (hf i hi).1
    · exact (World.frozen?_setCells g _ _ _ _).trans (hf i hi).2
  · intro _ v' w' hown hgr
    have ho' : Own w' w.heap.size v' (l ++ new) := by unfold Own; rw [bc_app, List.length_append, hm]; exact hown
    exact h v' w' ((Gr.own ho' (by rw [List.length_append]; omega)).low hB) ((Below.refl _ _).grown hgr hB (by intro k hk; cases hk))
end Go.Proofs.YtlmbieclgkpofaaDoor
