/- A slice of fields of the call's own, and what an append to it leaves: laws for this program's types. -/
import Derived.Test.YtkjnhcnbbojajaaDoorMrk0ToMemF
import Derived.Test.YtkjnhcnbbojajaaDoorMemToInf
namespace Go.Proofs.YtkjnhcnbbojajaaDoor
open Go.RowKit

/-- A field as a value. -/
def fv (p : FldP) : Value := .agg #[.string p.1, .string p.2]
def zeroF : Value := .agg #[.string ⟨#[]⟩, .string ⟨#[]⟩]
theorem infoF : (Tryd.prog.info? 129).map (fun i => (i.zero, i.size, i.bytes)) = some (some zeroF, 2, 32) := by kernel_rfl

/-- THE SLICE v IS THE CALL's OWN AND HOLDS THE FIELDS l. -/
def OwnF (w : World) (B : Nat) (v : Value) (l : List FldP) : Prop := w.ownsRow B 129 2 v l.length (fc l)
theorem OwnF.nil (w : World) (B : Nat) : OwnF w B (.slice none 0 0) [] := World.ownsRow_nil _ _ _ _
theorem OwnF.alloc {w : World} {B : Nat} {v : Value} {l : List FldP} (h : OwnF w B v l) (o : Obj) : OwnF (w.alloc o) B v l := World.ownsRow.alloc h o
theorem OwnF.below {w w' : World} {B C : Nat} {v : Value} {l : List FldP} (h : OwnF w B v l) (hb : Below C w w') (hC : w.heap.size ≤ C) : OwnF w' B v l := by
  refine ⟨h.1, ?_⟩
  rcases h.2 with h' | ⟨g, cap, cur, h1, h2, h3, h4⟩
  · exact .inl h'
  · refine .inr ⟨g, cap, cur, h1, h2, ?_, h4⟩
    have hg : g < w.heap.size := by
      rcases Nat.lt_or_ge g w.heap.size with hlt | hge
      · exact hlt
      · simp [Array.getElem?_eq_none hge] at h3
    rw [hb.block g (by omega)]; exact h3
theorem OwnF.form {w : World} {B : Nat} {v : Value} {l : List FldP} (h : OwnF w B v l) : ∃ a cap, v = .slice a l.length cap ∧ l.length ≤ cap ∧ cap ≤ maxLen := by
  rcases h.2 with ⟨h', h0⟩ | ⟨g, cap, cur, h', _, _, h4, h5, _⟩
  · exact ⟨none, 0, by rw [h', h0], by omega, by decide⟩
  · exact ⟨_, cap, h', h4, h5⟩
theorem OwnF.rd {w : World} {B n cap : Nat} {a : Option Addr} {l : List FldP} (h : OwnF w B (.slice a n cap) l) : l.length = n ∧ RdF w a l := by
  have hf : l.length = n := by
    obtain ⟨a', c', e, _⟩ := h.form
    simp at e; omega
  subst hf
  exact ⟨rfl, RdF.own h⟩
theorem OwnF.low {w : World} {B C : Nat} {v : Value} {l : List FldP} (h : OwnF w B v l) (hC : C ≤ B) : OwnF w C v l := by
  refine ⟨h.1, ?_⟩
  rcases h.2 with h' | ⟨g, cap, cur, h1, h2, h3⟩
  · exact .inl h'
  · exact .inr ⟨g, cap, cur, h1, Nat.le_trans hC h2, h3⟩
theorem OwnF.kept {w : World} {B : Nat} {v : Value} {l : List FldP} (h : OwnF w B v l) (p : Addr) (hp : p.block < B) (u : Value) : OwnF (w.setCell p u) B v l := ownsRow_setCell_below h hp u
theorem OwnF.far {w w' : World} {B : Nat} {v : Value} {l : List FldP} {row : Option Nat} (h : OwnF w B v l) (hg : w.grownBy w' row) (hne : ∀ b, v.ownBlock = some b → some b ≠ row) : OwnF w' B v l := by
  refine ⟨h.1, ?_⟩
  rcases h.2 with h' | ⟨g, cap, cur, h1, h2, h3, h4⟩
  · exact .inl h'
  · refine .inr ⟨g, cap, cur, h1, h2, ?_, h4⟩
    have hlt : g < w.heap.size := by
      rcases Nat.lt_or_ge g w.heap.size with hlt | hge
      · exact hlt
      · simp [Array.getElem?_eq_none hge] at h3
    rw [hg.block g hlt (hne g (by rw [h1]; rfl))]; exact h3

/-- AN APPEND: what stands at the second slice's address is there behind what was. -/
theorem wpList_appF {w : World} {ops : Array Oper} {rest : List Oper} {o : Oper} {a : Act} {Q : Exit → Act → World → Prop} (hgd : o.guard = none) (s x : Operand)
    (ho : o.op = .call { callee := .builtin .append, args := #[s, x], argTypes := #[107, 107] })
    (B : Nat) (v : Value) (l : List FldP) (hs : a.eval s = v) (hown : OwnF w B v l) (ad : Addr) (m c : Nat) (new : List FldP) (hx : a.eval x = .slice (some ad) m c) (hm : new.length = m)
    (hnew : ∀ j, j < m → w.cell? (ad.add (j * 2)) = some (.string (nthF new j).1) ∧ w.cell? (ad.add (j * 2 + 1)) = some (.string (nthF new j).2)) (hsz : l.length + m ≤ 1048576) (hB : B ≤ w.heap.size)
    (h : ∀ v' w1, OwnF w1 B v' (l ++ new) → Below B w w1 → wpList Tryd.prog ops Q rest (a.put o.dst v') w1) : wpList Tryd.prog ops Q (o :: rest) a w := by
  obtain ⟨i0, hi, hz0, hz1, hz2⟩ := info_parts infoF
  refine wpList_append_own w hgd s x 107 ho B 129 i0 zeroF 2 32 Tryd.underlying107 hi hz0 hz1 hz2 rfl (by decide) v l.length (fc l) hs hown ad m c (fc new) hx (by rw [fc_len, hm]) ?_ (fc_one new) (by unfold maxLen; omega) (by omega) hB ?_
  · intro j u hj
    have hjl : j < new.length * 2 := by
      rcases Nat.lt_or_ge j (new.length * 2) with hlt | hge
      · exact hlt
      · rw [List.getElem?_eq_none (by rw [fc_len]; exact hge)] at hj; cases hj
    have hf := fc_get new (j / 2) (by omega)
    have hn := hnew (j / 2) (by omega)
    have hjj : j = j / 2 * 2 ∨ j = j / 2 * 2 + 1 := by omega
    rcases hjj with e | e
    · rw [e, hf.1] at hj
      rw [e, hn.1]; exact hj
    · rw [e, hf.2] at hj
      rw [e, hn.2]; exact hj
  · intro v' w1 hown' hgr _
    refine h v' w1 ?_ ((Below.refl _ _).grown hgr hB (fun k hk => (hown.lt k hk).1))
    unfold OwnF
    rw [fc_app, List.length_append, hm]
    exact hown'
/-- AN APPEND AT A STEP OF A REGION THAT DRAWS ITS ORDER. -/
theorem step_appF {w : World} {ops : Array Oper} {o : Oper} {a : Act} {K : Act → World → Prop} {Q : Exit → Act → World → Prop} {E : Prop} (hgd : o.guard = none) (s x : Operand)
    (ho : o.op = .call { callee := .builtin .append, args := #[s, x], argTypes := #[107, 107] })
    (B : Nat) (v : Value) (l : List FldP) (hs : a.eval s = v) (hown : OwnF w B v l) (ad : Addr) (m c : Nat) (new : List FldP) (hx : a.eval x = .slice (some ad) m c) (hm : new.length = m)
    (hnew : ∀ j, j < m → w.cell? (ad.add (j * 2)) = some (.string (nthF new j).1) ∧ w.cell? (ad.add (j * 2 + 1)) = some (.string (nthF new j).2)) (hsz : l.length + m ≤ 1048576) (hB : B ≤ w.heap.size)
    (h : ∀ v' w1, OwnF w1 B v' (l ++ new) → Below B w w1 → w.grownBy w1 v.ownBlock → K (a.put o.dst v') w1) : if Region.wanted o (yielded ops a.tmps) = true then Oper.wp Tryd.prog o a w K Q else E := by
  have hw : Region.wanted o (yielded ops a.tmps) = true := by simp [Region.wanted, hgd]
  rw [if_pos hw]
  obtain ⟨i0, hi, hz0, hz1, hz2⟩ := info_parts infoF
  refine wp_append_own w s x 107 ho B 129 i0 zeroF 2 32 Tryd.underlying107 hi hz0 hz1 hz2 rfl (by decide) v l.length (fc l) hs hown ad m c (fc new) hx (by rw [fc_len, hm]) ?_ (fc_one new) (by unfold maxLen; omega) (by omega) hB ?_
  · intro j u hj
    have hjl : j < new.length * 2 := by
      rcases Nat.lt_or_ge j (new.length * 2) with hlt | hge
      · exact hlt
      · rw [List.getElem?_eq_none (by rw [fc_len]; exact hge)] at hj; cases hj
    have hf := fc_get new (j / 2) (by omega)
    have hn := hnew (j / 2) (by omega)
    have hjj : j = j / 2 * 2 ∨ j = j / 2 * 2 + 1 := by omega
    rcases hjj with e | e
    · rw [e, hf.1] at hj
      rw [e, hn.1]; exact hj
    · rw [e, hf.2] at hj
      rw [e, hn.2]; exact hj
  · intro v' w1 hown' hgr _
    refine h v' w1 ?_ ((Below.refl _ _).grown hgr hB (fun k hk => (hown.lt k hk).1)) hgr
    unfold OwnF
    rw [fc_app, List.length_append, hm]
    exact hown'
end Go.Proofs.YtkjnhcnbbojajaaDoor
