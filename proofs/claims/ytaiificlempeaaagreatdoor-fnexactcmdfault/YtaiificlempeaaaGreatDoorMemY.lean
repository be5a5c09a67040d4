/- Words on memory: where a slice of ranges (two numbers each) is read, what a row of the call's own holds, an append; no conditions beyond those that each fact names. -/
import Derived.Test.YtaiificlempeaaaGreatDoorAppToMrk0
namespace Go.Proofs.YtaiificlempeaaaGreatDoor
open Go.RowKit

/-- A field: its name and its value. -/
abbrev YgP := Int × Int
def nthY (l : List YgP) (i : Nat) : YgP := l.getD i (0, 0)
/-- Fields as cells. -/
def yc (l : List YgP) : List Value := l.flatMap fun p => [Value.int .i64 p.1, Value.int .i64 p.2]
theorem nthY_get {l : List YgP} {i : Nat} (h : i < l.length) : nthY l i = l[i] := by
  unfold nthY; rw [List.getD_eq_getElem?_getD, List.getElem?_eq_getElem h]; rfl
theorem yc_nil : yc [] = [] := rfl
theorem yc_cons (p : YgP) (l : List YgP) : yc (p :: l) = .int .i64 p.1 :: .int .i64 p.2 :: yc l := rfl
theorem yc_len : ∀ l : List YgP, (yc l).length = l.length * 2
  | [] => rfl
  | p :: l => by rw [yc_cons, List.length_cons, List.length_cons, yc_len l, List.length_cons]; omega
theorem yc_app (a b : List YgP) : yc (a ++ b) = yc a ++ yc b := by simp [yc]
theorem yc_one (l : List YgP) : ∀ u ∈ yc l, u.oneCell' = true := by
  intro u hu
  simp only [yc, List.mem_flatMap, List.mem_cons, List.not_mem_nil, or_false] at hu
  obtain ⟨p, _, rfl | rfl⟩ := hu <;> rfl
theorem yc_get : ∀ (l : List YgP) (i : Nat), i < l.length → (yc l)[i * 2]? = some (.int .i64 (nthY l i).1) ∧ (yc l)[i * 2 + 1]? = some (.int .i64 (nthY l i).2)
  | [], _, h => by simp at h
  | p :: l, 0, _ => ⟨rfl, rfl⟩
  | p :: l, i + 1, h => by
    have := yc_get l i (by simpa using h)
    rw [yc_cons, show (i + 1) * 2 = i * 2 + 2 by omega]
    exact this
theorem take_snocY (l : List YgP) (k : Nat) (h : k < l.length) : l.take (k + 1) = l.take k ++ [nthY l k] := by
  rw [List.take_succ_eq_append_getElem h, nthY_get h]
theorem drop_consY (l : List YgP) (k : Nat) (h : k < l.length) : l.drop k = nthY l k :: l.drop (k + 1) := by
  rw [nthY_get h]; exact List.drop_eq_getElem_cons h

/-- WHERE A SLICE OF FIELDS IS READ. -/
def RdY (w : World) (a : Option Addr) (l : List YgP) : Prop :=
  l = [] ∨ ∃ b off, a = some ⟨b, off, none⟩ ∧ b < w.heap.size ∧ ∀ i, i < l.length → w.cell? ⟨b, off + i * 2, none⟩ = some (.int .i64 (nthY l i).1) ∧ w.cell? ⟨b, off + i * 2 + 1, none⟩ = some (.int .i64 (nthY l i).2)
theorem RdY.below {w w' : World} {a : Option Addr} {l : List YgP} (h : RdY w a l) (hb : Below w.heap.size w w') : RdY w' a l := by
  rcases h with h | ⟨b, off, e, hlt, hc⟩
  · exact .inl h
  · exact .inr ⟨b, off, e, Nat.lt_of_lt_of_le hlt hb.size, fun i hi => ⟨(hb.cell (p := ⟨b, off + i * 2, none⟩) hlt).trans (hc i hi).1, (hb.cell (p := ⟨b, off + i * 2 + 1, none⟩) hlt).trans (hc i hi).2⟩⟩
theorem RdY.at_ {w : World} {a : Option Addr} {l : List YgP} (h : RdY w a l) (hp : 0 < l.length) :
    ∃ b off, a = some ⟨b, off, none⟩ ∧ b < w.heap.size ∧ ∀ i, i < l.length → w.cell? ⟨b, off + i * 2, none⟩ = some (.int .i64 (nthY l i).1) ∧ w.cell? ⟨b, off + i * 2 + 1, none⟩ = some (.int .i64 (nthY l i).2) := by
  rcases h with h | h
  · rw [h] at hp; simp at hp
  · exact h
theorem RdY.own {w : World} {base e n cap : Nat} {a : Option Addr} {l : List YgP} (h : w.ownsRow base e 2 (.slice a n cap) n (yc l)) : RdY w a l := by
  have hl : l.length = n := by have := h.1; rw [yc_len] at this; omega
  rcases h.2 with ⟨_, h0⟩ | ⟨g, cap', cur, h', _, hg, _, _, _, htake⟩
  · left; exact List.length_eq_zero_iff.1 (by omega)
  · simp only [Value.slice.injEq] at h'
    obtain ⟨rfl, _, rfl⟩ := h'
    right
    refine ⟨g, 0, rfl, ?_, fun i hi => ?_⟩
    · rcases Nat.lt_or_ge g w.heap.size with hlt | hge
      · exact hlt
      · simp [Array.getElem?_eq_none hge] at hg
    · have hf := yc_get l i hi
      refine ⟨?_, ?_⟩
      · rw [cell_of_row w g (0 + i * 2) cur e (0, 0) hg, ← hf.1, ← htake, List.getElem?_take, if_pos (by omega)]
        simp
      · rw [cell_of_row w g (0 + i * 2 + 1) cur e (0, 0) hg, ← hf.2, ← htake, List.getElem?_take, if_pos (by omega)]
        simp

/-- What the making of a row of n fields lays. -/
def yv (p : YgP) : Value := .agg #[.int .i64 p.1, .int .i64 p.2]
def zeroY : Value := .agg #[.int .i64 0, .int .i64 0]
theorem infoY : (Tryz.prog.info? 64).map (fun i => (i.zero, i.size, i.bytes)) = some (some zeroY, 2, 16) := by kernel_rfl

/-- THE SLICE v IS THE CALL's OWN AND HOLDS THE FIELDS l. -/
def OwnY (w : World) (B : Nat) (v : Value) (l : List YgP) : Prop := w.ownsRow B 64 2 v l.length (yc l)
theorem OwnY.nil (w : World) (B : Nat) : OwnY w B (.slice none 0 0) [] := World.ownsRow_nil _ _ _ _
theorem OwnY.alloc {w : World} {B : Nat} {v : Value} {l : List YgP} (h : OwnY w B v l) (o : Obj) : OwnY (w.alloc o) B v l := World.ownsRow.alloc h o
theorem OwnY.below {w w' : World} {B C : Nat} {v : Value} {l : List YgP} (h : OwnY w B v l) (hb : Below C w w') (hC : w.heap.size ≤ C) : OwnY w' B v l := by
  refine ⟨h.1, ?_⟩
  rcases h.2 with h' | ⟨g, cap, cur, h1, h2, h3, h4⟩
  · exact .inl h'
  · refine .inr ⟨g, cap, cur, h1, h2, ?_, h4⟩
    have hg : g < w.heap.size := by
      rcases Nat.lt_or_ge g w.heap.size with hlt | hge
      · exact hlt
      · simp [Array.getElem?_eq_none hge] at h3
    rw [hb.block g (by omega)]; exact h3
theorem OwnY.form {w : World} {B : Nat} {v : Value} {l : List YgP} (h : OwnY w B v l) : ∃ a cap, v = .slice a l.length cap ∧ l.length ≤ cap ∧ cap ≤ maxLen := by
  rcases h.2 with ⟨h', h0⟩ | ⟨g, cap, cur, h', _, _, h4, h5, _⟩
  · exact ⟨none, 0, by rw [h', h0], by omega, by decide⟩
  · exact ⟨_, cap, h', h4, h5⟩
theorem OwnY.rd {w : World} {B n cap : Nat} {a : Option Addr} {l : List YgP} (h : OwnY w B (.slice a n cap) l) : l.length = n ∧ RdY w a l := by
  have hf : l.length = n := by
    obtain ⟨a', c', e, _⟩ := h.form
    simp at e; omega
  subst hf
  exact ⟨rfl, RdY.own h⟩
theorem OwnY.low {w : World} {B C : Nat} {v : Value} {l : List YgP} (h : OwnY w B v l) (hC : C ≤ B) : OwnY w C v l := by
  refine ⟨h.1, ?_⟩
  rcases h.2 with h' | ⟨g, cap, cur, h1, h2, h3⟩
  · exact .inl h'
  · exact .inr ⟨g, cap, cur, h1, Nat.le_trans hC h2, h3⟩
theorem OwnY.kept {w : World} {B : Nat} {v : Value} {l : List YgP} (h : OwnY w B v l) (p : Addr) (hp : p.block < B) (u : Value) : OwnY (w.setCell p u) B v l := ownsRow_setCell_below h hp u
theorem OwnY.far {w w' : World} {B : Nat} {v : Value} {l : List YgP} {row : Option Nat} (h : OwnY w B v l) (hg : w.grownBy w' row) (hne : ∀ b, v.ownBlock = some b → some b ≠ row) : OwnY w' B v l := by
  refine ⟨h.1, ?_⟩
  rcases h.2 with h' | ⟨g, cap, cur, h1, h2, h3, h4⟩
  · exact .inl h'
  · refine .inr ⟨g, cap, cur, h1, h2, ?_, h4⟩
    have hlt : g < w.heap.size := by
      rcases Nat.lt_or_ge g w.heap.size with hlt | hge
      · exact hlt
      · simp [Array.getElem?_eq_none hge] at h3
    rw [hg.block g hlt (hne g (by rw [h1]; rfl))]; exact h3

/-- AN APPEND: what stands at the second slice's address is there behind what was. -/
theorem wpList_appY {w : World} {ops : Array Oper} {rest : List Oper} {o : Oper} {a : Act} {Q : Exit → Act → World → Prop} (hgd : o.guard = none) (s x : Operand)
    (ho : o.op = .call { callee := .builtin .append, args := #[s, x], argTypes := #[30, 30] })
    (B : Nat) (v : Value) (l : List YgP) (hs : a.eval s = v) (hown : OwnY w B v l) (ad : Addr) (m c : Nat) (new : List YgP) (hx : a.eval x = .slice (some ad) m c) (hm : new.length = m)
    (hnew : ∀ j, j < m → w.cell? (ad.add (j * 2)) = some (.int .i64 (nthY new j).1) ∧ w.cell? (ad.add (j * 2 + 1)) = some (.int .i64 (nthY new j).2)) (hsz : l.length + m ≤ 1048576) (hB : B ≤ w.heap.size)
    (h : ∀ v' w1, OwnY w1 B v' (l ++ new) → Below B w w1 → wpList Tryz.prog ops Q rest (a.put o.dst v') w1) : wpList Tryz.prog ops Q (o :: rest) a w := by
  obtain ⟨i0, hi, hz0, hz1, hz2⟩ := info_parts infoY
  refine wpList_append_own w hgd s x 30 ho B 64 i0 zeroY 2 16 Tryz.underlying30 hi hz0 hz1 hz2 rfl (by decide) v l.length (yc l) hs hown ad m c (yc new) hx (by rw [yc_len, hm]) ?_ (yc_one new) (by unfold maxLen; omega) (by omega) hB ?_
  · intro j u hj
    have hjl : j < new.length * 2 := by
      rcases Nat.lt_or_ge j (new.length * 2) with hlt | hge
      · exact hlt
      · rw [List.getElem?_eq_none (by rw [yc_len]; exact hge)] at hj; cases hj
    have hf := yc_get new (j / 2) (by omega)
    have hn := hnew (j / 2) (by omega)
    have hjj : j = j / 2 * 2 ∨ j = j / 2 * 2 + 1 := by omega
    rcases hjj with e | e
    · rw [e, hf.1] at hj
      rw [e, hn.1]; exact hj
    · rw [e, hf.2] at hj
      rw [e, hn.2]; exact hj
  · intro v' w1 hown' hgr _
    refine h v' w1 ?_ ((Below.refl _ _).grown hgr hB (fun k hk => (hown.lt k hk).1))
    unfold OwnY
    rw [yc_app, List.length_append, hm]
    exact hown'
/-- AN APPEND AT A STEP OF A REGION THAT DRAWS ITS ORDER. -/
theorem step_appY {w : World} {ops : Array Oper} {o : Oper} {a : Act} {K : Act → World → Prop} {Q : Exit → Act → World → Prop} {E : Prop} (hgd : o.guard = none) (s x : Operand)
    (ho : o.op = .call { callee := .builtin .append, args := #[s, x], argTypes := #[30, 30] })
    (B : Nat) (v : Value) (l : List YgP) (hs : a.eval s = v) (hown : OwnY w B v l) (ad : Addr) (m c : Nat) (new : List YgP) (hx : a.eval x = .slice (some ad) m c) (hm : new.length = m)
    (hnew : ∀ j, j < m → w.cell? (ad.add (j * 2)) = some (.int .i64 (nthY new j).1) ∧ w.cell? (ad.add (j * 2 + 1)) = some (.int .i64 (nthY new j).2)) (hsz : l.length + m ≤ 1048576) (hB : B ≤ w.heap.size)
    (h : ∀ v' w1, OwnY w1 B v' (l ++ new) → Below B w w1 → w.grownBy w1 v.ownBlock → K (a.put o.dst v') w1) : if Region.wanted o (yielded ops a.tmps) = true then Oper.wp Tryz.prog o a w K Q else E := by
  have hw : Region.wanted o (yielded ops a.tmps) = true := by simp [Region.wanted, hgd]
  rw [if_pos hw]
  obtain ⟨i0, hi, hz0, hz1, hz2⟩ := info_parts infoY
  refine wp_append_own w s x 30 ho B 64 i0 zeroY 2 16 Tryz.underlying30 hi hz0 hz1 hz2 rfl (by decide) v l.length (yc l) hs hown ad m c (yc new) hx (by rw [yc_len, hm]) ?_ (yc_one new) (by unfold maxLen; omega) (by omega) hB ?_
  · intro j u hj
    have hjl : j < new.length * 2 := by
      rcases Nat.lt_or_ge j (new.length * 2) with hlt | hge
      · exact hlt
      · rw [List.getElem?_eq_none (by rw [yc_len]; exact hge)] at hj; cases hj
    have hf := yc_get new (j / 2) (by omega)
    have hn := hnew (j / 2) (by omega)
    have hjj : j = j / 2 * 2 ∨ j = j / 2 * 2 + 1 := by omega
    rcases hjj with e | e
    · rw [e, hf.1] at hj
      rw [e, hn.1]; exact hj
    · rw [e, hf.2] at hj
      rw [e, hn.2]; exact hj
  · intro v' w1 hown' hgr _
    refine h v' w1 ?_ ((Below.refl _ _).grown hgr hB (fun k hk => (hown.lt k hk).1)) hgr
    unfold OwnY
    rw [yc_app, List.length_append, hm]
    exact hown'
end Go.Proofs.YtaiificlempeaaaGreatDoor
