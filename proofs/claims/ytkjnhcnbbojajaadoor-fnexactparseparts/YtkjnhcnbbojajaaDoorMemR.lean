/- Words on memory: where a slice of ranges (two numbers each) is read, what a row of the call's own holds, an append; no conditions beyond those that each fact names. -/
import Derived.Test.YtkjnhcnbbojajaaDoorApp
namespace Go.Proofs.YtkjnhcnbbojajaaDoor
open Go.RowKit

/-- A field: its name and its value. -/
abbrev RngP := Int × Int
def nthR (l : List RngP) (i : Nat) : RngP := l.getD i (0, 0)
/-- Fields as cells. -/
def rc (l : List RngP) : List Value := l.flatMap fun p => [Value.int .i64 p.1, Value.int .i64 p.2]
theorem nthR_get {l : List RngP} {i : Nat} (h : i < l.length) : nthR l i = l[i] := by
  unfold nthR; rw [List.getD_eq_getElem?_getD, List.getElem?_eq_getElem h]; rfl
theorem rc_nil : rc [] = [] := rfl
theorem rc_cons (p : RngP) (l : List RngP) : rc (p :: l) = .int .i64 p.1 :: .int .i64 p.2 :: rc l := rfl
theorem rc_len : ∀ l : List RngP, (rc l).length = l.length * 2
  | [] => rfl
  | p :: l => by rw [rc_cons, List.length_cons, List.length_cons, rc_len l, List.length_cons]; omega
theorem rc_app (a b : List RngP) : rc (a ++ b) = rc a ++ rc b := by simp [rc]
theorem rc_one (l : List RngP) : ∀ u ∈ rc l, u.oneCell' = true := by
  intro u hu
  simp only [rc, List.mem_flatMap, List.mem_cons, List.not_mem_nil, or_false] at hu
  obtain ⟨p, _, rfl | rfl⟩ := hu <;> rfl
theorem rc_get : ∀ (l : List RngP) (i : Nat), i < l.length → (rc l)[i * 2]? = some (.int .i64 (nthR l i).1) ∧ (rc l)[i * 2 + 1]? = some (.int .i64 (nthR l i).2)
  | [], _, h => by simp at h
  | p :: l, 0, _ => ⟨rfl, rfl⟩
  | p :: l, i + 1, h => by
    have := rc_get l i (by simpa using h)
    rw [rc_cons, show (i + 1) * 2 = i * 2 + 2 by omega]
    exact this
theorem take_snocR (l : List RngP) (k : Nat) (h : k < l.length) : l.take (k + 1) = l.take k ++ [nthR l k] := by
  rw [List.take_succ_eq_append_getElem h, nthR_get h]
theorem drop_consR (l : List RngP) (k : Nat) (h : k < l.length) : l.drop k = nthR l k :: l.drop (k + 1) := by
  rw [nthR_get h]; exact List.drop_eq_getElem_cons h

/-- WHERE A SLICE OF FIELDS IS READ. -/
def RdR (w : World) (a : Option Addr) (l : List RngP) : Prop :=
  l = [] ∨ ∃ b off, a = some ⟨b, off, none⟩ ∧ b < w.heap.size ∧ ∀ i, i < l.length → w.cell? ⟨b, off + i * 2, none⟩ = some (.int .i64 (nthR l i).1) ∧ w.cell? ⟨b, off + i * 2 + 1, none⟩ = some (.int .i64 (nthR l i).2)
theorem RdR.below {w w' : World} {a : Option Addr} {l : List RngP} (h : RdR w a l) (hb : Below w.heap.size w w') : RdR w' a l := by
  rcases h with h | ⟨b, off, e, hlt, hc⟩
  · exact .inl h
  · exact .inr ⟨b, off, e, Nat.lt_of_lt_of_le hlt hb.size, fun i hi => ⟨(hb.cell (p := ⟨b, off + i * 2, none⟩) hlt).trans (hc i hi).1, (hb.cell (p := ⟨b, off + i * 2 + 1, none⟩) hlt).trans (hc i hi).2⟩⟩
theorem RdR.at_ {w : World} {a : Option Addr} {l : List RngP} (h : RdR w a l) (hp : 0 < l.length) :
    ∃ b off, a = some ⟨b, off, none⟩ ∧ b < w.heap.size ∧ ∀ i, i < l.length → w.cell? ⟨b, off + i * 2, none⟩ = some (.int .i64 (nthR l i).1) ∧ w.cell? ⟨b, off + i * 2 + 1, none⟩ = some (.int .i64 (nthR l i).2) := by
  rcases h with h | h
  · rw [h] at hp; simp at hp
  · exact h
theorem RdR.own {w : World} {base e n cap : Nat} {a : Option Addr} {l : List RngP} (h : w.ownsRow base e 2 (.slice a n cap) n (rc l)) : RdR w a l := by
  have hl : l.length = n := by have := h.1; rw [rc_len] at this; omega
  rcases h.2 with ⟨_, h0⟩ | ⟨g, cap', cur, h', _, hg, _, _, _, htake⟩
  · left; exact List.length_eq_zero_iff.1 (by omega)
  · simp only [Value.slice.injEq] at h'
    obtain ⟨rfl, _, rfl⟩ := h'
    right
    refine ⟨g, 0, rfl, ?_, fun i hi => ?_⟩
    · rcases Nat.lt_or_ge g w.heap.size with hlt | hge
      · exact hlt
      · simp [Array.getElem?_eq_none hge] at hg
    · have hf := rc_get l i hi
      refine ⟨?_, ?_⟩
      · rw [cell_of_row w g (0 + i * 2) cur e (0, 0) hg, ← hf.1, ← htake, List.getElem?_take, if_pos (by omega)]
        simp
      · rw [cell_of_row w g (0 + i * 2 + 1) cur e (0, 0) hg, ← hf.2, ← htake, List.getElem?_take, if_pos (by omega)]
        simp

/-- What the making of a row of n fields lays. -/
def rv (p : RngP) : Value := .agg #[.int .i64 p.1, .int .i64 p.2]
def zeroR : Value := .agg #[.int .i64 0, .int .i64 0]
theorem infoR : (Tryd.prog.info? 66).map (fun i => (i.zero, i.size, i.bytes)) = some (some zeroR, 2, 16) := by kernel_rfl

/-- THE SLICE v IS THE CALL's OWN AND HOLDS THE FIELDS l. -/
def OwnR (w : World) (B : Nat) (v : Value) (l : List RngP) : Prop := w.ownsRow B 66 2 v l.length (rc l)
theorem OwnR.nil (w : World) (B : Nat) : OwnR w B (.slice none 0 0) [] := World.ownsRow_nil _ _ _ _
theorem OwnR.alloc {w : World} {B : Nat} {v : Value} {l : List RngP} (h : OwnR w B v l) (o : Obj) : OwnR (w.alloc o) B v l := World.ownsRow.alloc h o
theorem OwnR.below {w w' : World} {B C : Nat} {v : Value} {l : List RngP} (h : OwnR w B v l) (hb : Below C w w') (hC : w.heap.size ≤ C) : OwnR w' B v l := by
  refine ⟨h.1, ?_⟩
  rcases h.2 with h' | ⟨g, cap, cur, h1, h2, h3, h4⟩
  · exact .inl h'
  · refine .inr ⟨g, cap, cur, h1, h2, ?_, h4⟩
    have hg : g < w.heap.size := by
      rcases Nat.lt_or_ge g w.heap.size with hlt | hge
      · exact hlt
      · simp [Array.getElem?_eq_none hge] at h3
    rw [hb.block g (by omega)]; exact h3
theorem OwnR.form {w : World} {B : Nat} {v : Value} {l : List RngP} (h : OwnR w B v l) : ∃ a cap, v = .slice a l.length cap ∧ l.length ≤ cap ∧ cap ≤ maxLen := by
  rcases h.2 with ⟨h', h0⟩ | ⟨g, cap, cur, h', _, _, h4, h5, _⟩
  · exact ⟨none, 0, by rw [h', h0], by omega, by decide⟩
  · exact ⟨_, cap, h', h4, h5⟩
theorem OwnR.rd {w : World} {B n cap : Nat} {a : Option Addr} {l : List RngP} (h : OwnR w B (.slice a n cap) l) : l.length = n ∧ RdR w a l := by
  have hf : l.length = n := by
    obtain ⟨a', c', e, _⟩ := h.form
    simp at e; omega
  subst hf
  exact ⟨rfl, RdR.own h⟩
theorem OwnR.low {w : World} {B C : Nat} {v : Value} {l : List RngP} (h : OwnR w B v l) (hC : C ≤ B) : OwnR w C v l := by
  refine ⟨h.1, ?_⟩
  rcases h.2 with h' | ⟨g, cap, cur, h1, h2, h3⟩
  · exact .inl h'
  · exact .inr ⟨g, cap, cur, h1, Nat.le_trans hC h2, h3⟩
theorem OwnR.kept {w : World} {B : Nat} {v : Value} {l : List RngP} (h : OwnR w B v l) (p : Addr) (hp : p.block < B) (u : Value) : OwnR (w.setCell p u) B v l := ownsRow_setCell_below h hp u
theorem OwnR.far {w w' : World} {B : Nat} {v : Value} {l : List RngP} {row : Option Nat} (h : OwnR w B v l) (hg : w.grownBy w' row) (hne : ∀ b, v.ownBlock = some b → some b ≠ row) : OwnR w' B v l := by
  refine ⟨h.1, ?_⟩
  rcases h.2 with h' | ⟨g, cap, cur, h1, h2, h3, h4⟩
  · exact .inl h'
  · refine .inr ⟨g, cap, cur, h1, h2, ?_, h4⟩
    have hlt : g < w.heap.size := by
      rcases Nat.lt_or_ge g w.heap.size with hlt | hge
      · exact hlt
      · simp [Array.getElem?_eq_none hge] at h3
    rw [hg.block g hlt (hne g (by rw [h1]; rfl))]; exact h3

/-- AN APPEND: what stands at the second slice's address is there behind what was. -/
theorem wpList_appR {w : World} {ops : Array Oper} {rest : List Oper} {o : Oper} {a : Act} {Q : Exit → Act → World → Prop} (hgd : o.guard = none) (s x : Operand)
    (ho : o.op = .call { callee := .builtin .append, args := #[s, x], argTypes := #[93, 93] })
    (B : Nat) (v : Value) (l : List RngP) (hs : a.eval s = v) (hown : OwnR w B v l) (ad : Addr) (m c : Nat) (new : List RngP) (hx : a.eval x = .slice (some ad) m c) (hm : new.length = m)
    (hnew : ∀ j, j < m → w.cell? (ad.add (j * 2)) = some (.int .i64 (nthR new j).1) ∧ w.cell? (ad.add (j * 2 + 1)) = some (.int .i64 (nthR new j).2)) (hsz : l.length + m ≤ 1048576) (hB : B ≤ w.heap.size)
    (h : ∀ v' w1, OwnR w1 B v' (l ++ new) → Below B w w1 → wpList Tryd.prog ops Q rest (a.put o.dst v') w1) : wpList Tryd.prog ops Q (o :: rest) a w := by
  obtain ⟨i0, hi, hz0, hz1, hz2⟩ := info_parts infoR
  refine wpList_append_own w hgd s x 93 ho B 66 i0 zeroR 2 16 Tryd.underlying93 hi hz0 hz1 hz2 rfl (by decide) v l.length (rc l) hs hown ad m c (rc new) hx (by rw [rc_len, hm]) ?_ (rc_one new) (by unfold maxLen; omega) (by omega) hB ?_
  · intro j u hj
    have hjl : j < new.length * 2 := by
      rcases Nat.lt_or_ge j (new.length * 2) with hlt | hge
      · exact hlt
      · rw [List.getElem?_eq_none (by rw [rc_len]; exact hge)] at hj; cases hj
    have hf := rc_get new (j / 2) (by omega)
    have hn := hnew (j / 2) (by omega)
    have hjj : j = j / 2 * 2 ∨ j = j / 2 * 2 + 1 := by omega
    rcases hjj with e | e
    · rw [e, hf.1] at hj
      rw [e, hn.1]; exact hj
    · rw [e, hf.2] at hj
      rw [e, hn.2]; exact hj
  · intro v' w1 hown' hgr _
    refine h v' w1 ?_ ((Below.refl _ _).grown hgr hB (fun k hk => (hown.lt k hk).1))
    unfold OwnR
    rw [rc_app, List.length_append, hm]
    exact hown'
/-- AN APPEND AT A STEP OF A REGION THAT DRAWS ITS ORDER. -/
theorem step_appR {w : World} {ops : Array Oper} {o : Oper} {a : Act} {K : Act → World → Prop} {Q : Exit → Act → World → Prop} {E : Prop} (hgd : o.guard = none) (s x : Operand)
    (ho : o.op = .call { callee := .builtin .append, args := #[s, x], argTypes := #[93, 93] })
    (B : Nat) (v : Value) (l : List RngP) (hs : a.eval s = v) (hown : OwnR w B v l) (ad : Addr) (m c : Nat) (new : List RngP) (hx : a.eval x = .slice (some ad) m c) (hm : new.length = m)
    (hnew : ∀ j, j < m → w.cell? (ad.add (j * 2)) = some (.int .i64 (nthR new j).1) ∧ w.cell? (ad.add (j * 2 + 1)) = some (.int .i64 (nthR new j).2)) (hsz : l.length + m ≤ 1048576) (hB : B ≤ w.heap.size)
    (h : ∀ v' w1, OwnR w1 B v' (l ++ new) → Below B w w1 → w.grownBy w1 v.ownBlock → K (a.put o.dst v') w1) : if Region.wanted o (yielded ops a.tmps) = true then Oper.wp Tryd.prog o a w K Q else E := by
  have hw : Region.wanted o (yielded ops a.tmps) = true := by simp [Region.wanted, hgd]
  rw [if_pos hw]
  obtain ⟨i0, hi, hz0, hz1, hz2⟩ := info_parts infoR
  refine wp_append_own w s x 93 ho B 66 i0 zeroR 2 16 Tryd.underlying93 hi hz0 hz1 hz2 rfl (by decide) v l.length (rc l) hs hown ad m c (rc new) hx (by rw [rc_len, hm]) ?_ (rc_one new) (by unfold maxLen; omega) (by omega) hB ?_
  · intro j u hj
    have hjl : j < new.length * 2 := by
      rcases Nat.lt_or_ge j (new.length * 2) with hlt | hge
      · exact hlt
      · rw [List.getElem?_eq_none (by rw [rc_len]; exact hge)] at hj; cases hj
    have hf := rc_get new (j / 2) (by omega)
    have hn := hnew (j / 2) (by omega)
    have hjj : j = j / 2 * 2 ∨ j = j / 2 * 2 + 1 := by omega
    rcases hjj with e | e
    · rw [e, hf.1] at hj
      rw [e, hn.1]; exact hj
    · rw [e, hf.2] at hj
      rw [e, hn.2]; exact hj
  · intro v' w1 hown' hgr _
    refine h v' w1 ?_ ((Below.refl _ _).grown hgr hB (fun k hk => (hown.lt k hk).1)) hgr
    unfold OwnR
    rw [rc_app, List.length_append, hm]
    exact hown'
end Go.Proofs.YtkjnhcnbbojajaaDoor
