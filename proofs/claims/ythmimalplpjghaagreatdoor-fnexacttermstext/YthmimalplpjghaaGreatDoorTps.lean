/- Words on memory: where a slice of standing trees (a place and a tree each) is read, what a row of the call's own holds, an append, a cut; no conditions beyond those that each fact names. -/
import Derived.Test.YthmimalplpjghaaGreatDoorTpc
namespace Go.Proofs.YthmimalplpjghaaGreatDoor
open Go.RowKit

/-- A field: its name and its value. -/
abbrev SdP := Int × Value
def nthSd (l : List SdP) (i : Nat) : SdP := l.getD i (0, .nilIface)
/-- Fields as cells. -/
def sdc (l : List SdP) : List Value := l.flatMap fun p => [Value.int .i64 p.1, p.2]
theorem sdc_cons (p : SdP) (l : List SdP) : sdc (p :: l) = .int .i64 p.1 :: p.2 :: sdc l := rfl
theorem sdc_len : ∀ l : List SdP, (sdc l).length = l.length * 2
  | [] => rfl
  | p :: l => by rw [sdc_cons, List.length_cons, List.length_cons, sdc_len l, List.length_cons]; omega
theorem sdc_app (a b : List SdP) : sdc (a ++ b) = sdc a ++ sdc b := by simp [sdc]
/-- Its trees are one cell each. -/
def OneS (l : List SdP) : Prop := ∀ p ∈ l, p.2.oneCell' = true
theorem sdc_one (l : List SdP) (h : OneS l) : ∀ u ∈ sdc l, u.oneCell' = true := by
  intro u hu
  simp only [sdc, List.mem_flatMap, List.mem_cons, List.not_mem_nil, or_false] at hu
  obtain ⟨p, hp, rfl | rfl⟩ := hu
  · rfl
  · exact h p hp
theorem sdc_get : ∀ (l : List SdP) (i : Nat), i < l.length → (sdc l)[i * 2]? = some (.int .i64 (nthSd l i).1) ∧ (sdc l)[i * 2 + 1]? = some ((nthSd l i).2)
  | [], _, h => by simp at h
  | p :: l, 0, _ => ⟨rfl, rfl⟩
  | p :: l, i + 1, h => by
    have := sdc_get l i (by simpa using h)
    rw [sdc_cons, show (i + 1) * 2 = i * 2 + 2 by omega]
    exact this
/-- WHERE A SLICE OF FIELDS IS READ. -/
def RdSd (w : World) (a : Option Addr) (l : List SdP) : Prop :=
  l = [] ∨ ∃ b off, a = some ⟨b, off, none⟩ ∧ b < w.heap.size ∧ ∀ i, i < l.length → w.cell? ⟨b, off + i * 2, none⟩ = some (.int .i64 (nthSd l i).1) ∧ w.cell? ⟨b, off + i * 2 + 1, none⟩ = some ((nthSd l i).2)
theorem RdSd.below {w w' : World} {a : Option Addr} {l : List SdP} (h : RdSd w a l) (hb : Below w.heap.size w w') : RdSd w' a l := by
  rcases h with h | ⟨b, off, e, hlt, hc⟩
  · exact .inl h
  · exact .inr ⟨b, off, e, Nat.lt_of_lt_of_le hlt hb.size, fun i hi => ⟨(hb.cell (p := ⟨b, off + i * 2, none⟩) hlt).trans (hc i hi).1, (hb.cell (p := ⟨b, off + i * 2 + 1, none⟩) hlt).trans (hc i hi).2⟩⟩
theorem RdSd.at_ {w : World} {a : Option Addr} {l : List SdP} (h : RdSd w a l) (hp : 0 < l.length) :
    ∃ b off, a = some ⟨b, off, none⟩ ∧ b < w.heap.size ∧ ∀ i, i < l.length → w.cell? ⟨b, off + i * 2, none⟩ = some (.int .i64 (nthSd l i).1) ∧ w.cell? ⟨b, off + i * 2 + 1, none⟩ = some ((nthSd l i).2) := by
  rcases h with h | h
  · rw [h] at hp; simp at hp
  · exact h
theorem RdSd.own {w : World} {base e n cap : Nat} {a : Option Addr} {l : List SdP} (h : w.ownsRow base e 2 (.slice a n cap) n (sdc l)) : RdSd w a l := by
  have hl : l.length = n := by have := h.1; rw [sdc_len] at this; omega
  rcases h.2 with ⟨_, h0⟩ | ⟨g, cap', cur, h', _, hg, _, _, _, htake⟩
  · left; exact List.length_eq_zero_iff.1 (by omega)
  · simp only [Value.slice.injEq] at h'
    obtain ⟨rfl, _, rfl⟩ := h'
    right
    refine ⟨g, 0, rfl, ?_, fun i hi => ?_⟩
    · rcases Nat.lt_or_ge g w.heap.size with hlt | hge
      · exact hlt
      · simp [Array.getElem?_eq_none hge] at hg
    · have hf := sdc_get l i hi
      refine ⟨?_, ?_⟩
      · rw [cell_of_row w g (0 + i * 2) cur e (0, 0) hg, ← hf.1, ← htake, List.getElem?_take, if_pos (by omega)]
        simp
      · rw [cell_of_row w g (0 + i * 2 + 1) cur e (0, 0) hg, ← hf.2, ← htake, List.getElem?_take, if_pos (by omega)]
        simp

def zeroSd : Value := .agg #[.int .i64 0, .nilIface]
theorem infoSd : (Tryz.prog.info? 159).map (fun i => (i.zero, i.size, i.bytes)) = some (some zeroSd, 2, 24) := by kernel_rfl

/-- THE SLICE v IS THE CALL's OWN AND HOLDS THE FIELDS l. -/
def OwnSd (w : World) (B : Nat) (v : Value) (l : List SdP) : Prop := w.ownsRow B 159 2 v l.length (sdc l)
theorem OwnSd.nil (w : World) (B : Nat) : OwnSd w B (.slice none 0 0) [] := World.ownsRow_nil _ _ _ _
theorem OwnSd.alloc {w : World} {B : Nat} {v : Value} {l : List SdP} (h : OwnSd w B v l) (o : Obj) : OwnSd (w.alloc o) B v l := World.ownsRow.alloc h o
theorem OwnSd.below {w w' : World} {B C : Nat} {v : Value} {l : List SdP} (h : OwnSd w B v l) (hb : Below C w w') (hC : w.heap.size ≤ C) : OwnSd w' B v l := by
  refine ⟨h.1, ?_⟩
  rcases h.2 with h' | ⟨g, cap, cur, h1, h2, h3, h4⟩
  · exact .inl h'
  · refine .inr ⟨g, cap, cur, h1, h2, ?_, h4⟩
    have hg : g < w.heap.size := by
      rcases Nat.lt_or_ge g w.heap.size with hlt | hge
      · exact hlt
      · simp [Array.getElem?_eq_none hge] at h3
    rw [hb.block g (by omega)]; exact h3
theorem OwnSd.form {w : World} {B : Nat} {v : Value} {l : List SdP} (h : OwnSd w B v l) : ∃ a cap, v = .slice a l.length cap ∧ l.length ≤ cap ∧ cap ≤ maxLen := by
  rcases h.2 with ⟨h', h0⟩ | ⟨g, cap, cur, h', _, _, h4, h5, _⟩
  · exact ⟨none, 0, by rw [h', h0], by omega, by decide⟩
  · exact ⟨_, cap, h', h4, h5⟩
theorem OwnSd.rd {w : World} {B n cap : Nat} {a : Option Addr} {l : List SdP} (h : OwnSd w B (.slice a n cap) l) : l.length = n ∧ RdSd w a l := by
  have hf : l.length = n := by
    obtain ⟨a', c', e, _⟩ := h.form
    simp at e; omega
  subst hf
  exact ⟨rfl, RdSd.own h⟩
theorem OwnSd.low {w : World} {B C : Nat} {v : Value} {l : List SdP} (h : OwnSd w B v l) (hC : C ≤ B) : OwnSd w C v l := by
  refine ⟨h.1, ?_⟩
  rcases h.2 with h' | ⟨g, cap, cur, h1, h2, h3⟩
  · exact .inl h'
  · exact .inr ⟨g, cap, cur, h1, Nat.le_trans hC h2, h3⟩
theorem OwnSd.kept {w : World} {B : Nat} {v : Value} {l : List SdP} (h : OwnSd w B v l) (p : Addr) (hp : p.block < B) (u : Value) : OwnSd (w.setCell p u) B v l := ownsRow_setCell_below h hp u
theorem OwnSd.far {w w' : World} {B : Nat} {v : Value} {l : List SdP} {row : Option Nat} (h : OwnSd w B v l) (hg : w.grownBy w' row) (hne : ∀ b, v.ownBlock = some b → some b ≠ row) : OwnSd w' B v l := by
  refine ⟨h.1, ?_⟩
  rcases h.2 with h' | ⟨g, cap, cur, h1, h2, h3, h4⟩
  · exact .inl h'
  · refine .inr ⟨g, cap, cur, h1, h2, ?_, h4⟩
    have hlt : g < w.heap.size := by
      rcases Nat.lt_or_ge g w.heap.size with hlt | hge
      · exact hlt
      · simp [Array.getElem?_eq_none hge] at h3
    rw [hg.block g hlt (hne g (by rw [h1]; rfl))]; exact h3

/-- AN APPEND: what stands at the second slice's address is there behind what was. -/
theorem wpList_appSd {w : World} {ops : Array Oper} {rest : List Oper} {o : Oper} {a : Act} {Q : Exit → Act → World → Prop} (hgd : o.guard = none) (s x : Operand)
    (ho : o.op = .call { callee := .builtin .append, args := #[s, x], argTypes := #[152, 152] })
    (B : Nat) (v : Value) (l : List SdP) (hs : a.eval s = v) (hown : OwnSd w B v l) (ad : Addr) (m c : Nat) (new : List SdP) (hx : a.eval x = .slice (some ad) m c) (hm : new.length = m)
    (hnew : ∀ j, j < m → w.cell? (ad.add (j * 2)) = some (.int .i64 (nthSd new j).1) ∧ w.cell? (ad.add (j * 2 + 1)) = some ((nthSd new j).2)) (hone : OneS new) (hsz : l.length + m ≤ 1048576) (hB : B ≤ w.heap.size)
    (h : ∀ v' w1, OwnSd w1 B v' (l ++ new) → Below B w w1 → wpList Tryz.prog ops Q rest (a.put o.dst v') w1) : wpList Tryz.prog ops Q (o :: rest) a w := by
  obtain ⟨i0, hi, hz0, hz1, hz2⟩ := info_parts infoSd
  refine wpList_append_own w hgd s x 152 ho B 159 i0 zeroSd 2 24 Tryz.underlying152 hi hz0 hz1 hz2 rfl (by decide) v l.length (sdc l) hs hown ad m c (sdc new) hx (by rw [sdc_len, hm]) ?_ (sdc_one new hone) (by unfold maxLen; omega) (by omega) hB ?_
  · intro j u hj
    have hjl : j < new.length * 2 := by
      rcases Nat.lt_or_ge j (new.length * 2) with hlt | hge
      · exact hlt
      · rw [List.getElem?_eq_none (by rw [sdc_len]; exact hge)] at hj; cases hj
    have hf := sdc_get new (j / 2) (by omega)
    have hn := hnew (j / 2) (by omega)
    have hjj : j = j / 2 * 2 ∨ j = j / 2 * 2 + 1 := by omega
    rcases hjj with e | e
    · rw [e, hf.1] at hj
      rw [e, hn.1]; exact hj
    · rw [e, hf.2] at hj
      rw [e, hn.2]; exact hj
  · intro v' w1 hown' hgr _
    refine h v' w1 ?_ ((Below.refl _ _).grown hgr hB (fun k hk => (hown.lt k hk).1))
    unfold OwnSd
    rw [sdc_app, List.length_append, hm]
    exact hown'
/-- The first k of a row of the call's own. -/
theorem OwnSd.take {w : World} {B n cap : Nat} {a : Option Addr} {l : List SdP} (h : OwnSd w B (.slice a n cap) l) (k : Nat) (hk : k ≤ n) : OwnSd w B (.slice a k cap) (l.take k) := by
  have hl : l.length = n := h.rd.1
  unfold OwnSd at h ⊢
  refine ⟨by rw [sdc_len], ?_⟩
  have hkl : (l.take k).length = k := by rw [List.length_take]; omega
  rw [hkl]
  rcases h.2 with ⟨h1, h2⟩ | ⟨g, cap', cur, h1, h2, h3, h4, h5, h6, h7⟩
  · simp only [Value.slice.injEq] at h1
    obtain ⟨rfl, h1', rfl⟩ := h1
    exact .inl ⟨by rw [show k = 0 by omega], by omega⟩
  · simp only [Value.slice.injEq] at h1
    obtain ⟨rfl, -, rfl⟩ := h1
    refine .inr ⟨g, cap, cur, rfl, h2, h3, by omega, h5, h6, ?_⟩
    have e : sdc (l.take k) = (sdc l).take (k * 2) := by
      have := sdc_app (l.take k) (l.drop k)
      rw [List.take_append_drop] at this
      rw [this]
      exact (List.take_left' (by rw [sdc_len, hkl])).symm
    rw [e, ← h7, List.take_take, Nat.min_eq_left (by omega)]
/-- The ones behind the first k. -/
theorem RdSd.drop {w : World} {b off : Nat} {l : List SdP} (h : RdSd w (some ⟨b, off, none⟩) l) (k : Nat) (hk : k ≤ l.length) : RdSd w (some ⟨b, off + k * 2, none⟩) (l.drop k) := by
  rcases Nat.eq_zero_or_pos (l.drop k).length with h0 | h0
  · exact .inl (List.length_eq_zero_iff.1 h0)
  · rw [List.length_drop] at h0
    obtain ⟨b', off', e, hlt, hc⟩ := h.at_ (by omega)
    cases e
    refine .inr ⟨b, off + k * 2, rfl, hlt, fun i hi => ?_⟩
    rw [List.length_drop] at hi
    have := hc (k + i) (by omega)
    have hn : nthSd (l.drop k) i = nthSd l (k + i) := by
      unfold nthSd; rw [List.getD_eq_getElem?_getD, List.getD_eq_getElem?_getD, List.getElem?_drop]
    rw [hn, show off + k * 2 + i * 2 = off + (k + i) * 2 by omega]
    exact this
/-- An append of one that was laid just ahead. -/
theorem wpList_app_newSd {wr : World} {ops : Array Oper} {rest : List Oper} {o : Oper} {a : Act} {Q : Exit → Act → World → Prop} (hgd : o.guard = none) (s x : Operand)
    (ho : o.op = .call { callee := .builtin .append, args := #[s, x], argTypes := #[152, 152] })
    (B : Nat) (v : Value) (l : List SdP) (hs : a.eval s = v) (hown : OwnSd wr B v l) (p : Int) (q : Value) (hq : q.oneCell' = true) (hx : a.eval x = .slice (some ⟨wr.heap.size, 0, none⟩) 1 1)
    (hsz : l.length + 1 ≤ 1048576) (hB : B ≤ wr.heap.size)
    (h : ∀ v' w1, OwnSd w1 B v' (l ++ [(p, q)]) → Below B wr w1 → wpList Tryz.prog ops Q rest (a.put o.dst v') w1) : wpList Tryz.prog ops Q (o :: rest) a (wr.alloc (.cells #[.int .i64 p, q] 159)) := by
  have hb : Below B wr (wr.alloc (.cells #[.int .i64 p, q] 159)) := (Below.refl _ _).alloc hB _
  refine wpList_appSd hgd s x ho B v l hs (hown.alloc _) ⟨wr.heap.size, 0, none⟩ 1 1 [(p, q)] hx rfl ?_ (fun y hy => by rw [List.mem_singleton] at hy; rw [hy]; exact hq) hsz (by simp; omega) (fun v' w1 h1 h2 => h v' w1 h1 (hb.trans h2))
  intro j hj
  obtain rfl : j = 0 := by omega
  refine ⟨?_, ?_⟩
  · show (wr.alloc _).cell? ((⟨wr.heap.size, 0, none⟩ : Addr).add 0) = _
    rw [Go.WideShapes.add_plain, World.cell?_alloc_mark]; rfl
  · show (wr.alloc _).cell? ((⟨wr.heap.size, 0, none⟩ : Addr).add 1) = _
    rw [Go.WideShapes.add_plain, World.cell?_alloc_mark]; rfl
end Go.Proofs.YthmimalplpjghaaGreatDoor
