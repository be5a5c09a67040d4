/- Words on memory: where a slice of texts is read, what a row of the call's own holds, an append; no conditions beyond those that each fact names. -/
import Derived.Test.YtaefomiofoakhaaGreatDoorAppToMemF
namespace Go.Proofs.YtaefomiofoakhaaGreatDoor
open Go.RowKit

/-- The i-th number of a list (0 behind its end). -/
def nthS (l : List (List Nat)) (i : Nat) : List Nat := l.getD i []
/-- Numbers as cells. -/
def sc (l : List (List Nat)) : List Value := l.map fun (b : List Nat) => Value.string (str b)

theorem nthS_get {l : List (List Nat)} {i : Nat} (h : i < l.length) : nthS l i = l[i] := by
  unfold nthS; rw [List.getD_eq_getElem?_getD, List.getElem?_eq_getElem h]; rfl

theorem sc_len (l : List (List Nat)) : (sc l).length = l.length := by simp [sc]
theorem sc_one (l : List (List Nat)) : ∀ u ∈ sc l, u.oneCell' = true := by
  intro u hu
  simp only [sc, List.mem_map] at hu
  obtain ⟨b, _, rfl⟩ := hu
  rfl
theorem sc_app (a b : List (List Nat)) : sc (a ++ b) = sc a ++ sc b := by simp [sc]
theorem sc_get {l : List (List Nat)} {i : Nat} (h : i < l.length) : (sc l)[i]? = some (.string (str (nthS l i))) := by
  rw [nthS_get h]; simp [sc, h]

theorem nthS_drop (l : List (List Nat)) (k i : Nat) : nthS (l.drop k) i = nthS l (k + i) := by
  simp [nthS, List.getD_eq_getElem?_getD, List.getElem?_drop]
theorem take_snocT (l : List (List Nat)) (k : Nat) (h : k < l.length) : l.take (k + 1) = l.take k ++ [nthS l k] := by
  rw [List.take_succ_eq_append_getElem h, nthS_get h]
theorem drop_consT (l : List (List Nat)) (k : Nat) (h : k < l.length) : l.drop k = nthS l k :: l.drop (k + 1) := by
  rw [nthS_get h]; exact List.drop_eq_getElem_cons h


/-- WHERE A SLICE OF BYTES IS READ: at its address stand the bytes l. -/
def RdS (w : World) (a : Option Addr) (l : List (List Nat)) : Prop :=
  l = [] ∨ ∃ b off, a = some ⟨b, off, none⟩ ∧ b < w.heap.size ∧ ∀ i, i < l.length → w.cell? ⟨b, off + i, none⟩ = some (.string (str (nthS l i)))

theorem RdS.below {w w' : World} {a : Option Addr} {l : List (List Nat)} (h : RdS w a l) (hb : Below w.heap.size w w') : RdS w' a l := by
  rcases h with h | ⟨b, off, e, hlt, hc⟩
  · exact .inl h
  · exact .inr ⟨b, off, e, Nat.lt_of_lt_of_le hlt hb.size, fun i hi => (hb.cell (p := ⟨b, off + i, none⟩) hlt).trans (hc i hi)⟩
/-- Where there is an element there is an address. -/
theorem RdS.at_ {w : World} {a : Option Addr} {l : List (List Nat)} (h : RdS w a l) (hp : 0 < l.length) :
    ∃ b off, a = some ⟨b, off, none⟩ ∧ b < w.heap.size ∧ ∀ i, i < l.length → w.cell? ⟨b, off + i, none⟩ = some (.string (str (nthS l i))) := by
  rcases h with h | h
  · rw [h] at hp; simp at hp
  · exact h
theorem RdS.drop {w : World} {b off : Nat} {l : List (List Nat)} (h : RdS w (some ⟨b, off, none⟩) l) (k : Nat) : RdS w (some ⟨b, off + k, none⟩) (l.drop k) := by
  rcases h with h | ⟨b', off', e, hlt, hc⟩
  · left; simp [h]
  · obtain ⟨rfl, rfl⟩ : b = b' ∧ off = off' := by simpa using e
    right
    refine ⟨b, off + k, rfl, hlt, fun i hi => ?_⟩
    rw [List.length_drop] at hi
    rw [nthS_drop, Nat.add_assoc]
    exact hc (k + i) (by omega)


/-- A row of the call's own, read. -/
theorem RdS.own {w : World} {base e n cap : Nat} {a : Option Addr} {l : List (List Nat)} (h : w.ownsRow base e 1 (.slice a n cap) n (sc l)) : RdS w a l := by
  have hl : l.length = n := by simpa [sc_len] using h.1
  rcases h.2 with ⟨_, h0⟩ | ⟨g, cap', cur, h', _, hg, _, _, _, htake⟩
  · left; exact List.length_eq_zero_iff.1 (by omega)
  · simp only [Value.slice.injEq] at h'
    obtain ⟨rfl, _, rfl⟩ := h'
    right
    refine ⟨g, 0, rfl, ?_, fun i hi => ?_⟩
    · rcases Nat.lt_or_ge g w.heap.size with hlt | hge
      · exact hlt
      · simp [Array.getElem?_eq_none hge] at hg
    · rw [cell_of_row w g (0 + i) cur e (0, 0) hg, ← sc_get hi, ← htake, List.getElem?_take, if_pos (by omega)]
      simp


theorem infoS : (Tryz.prog.info? 9).map (fun i => (i.zero, i.size, i.bytes)) = some (some (.string ⟨#[]⟩), 1, 16) := by kernel_rfl
/-- THE SLICE v IS THE CALL's OWN AND HOLDS THE BYTES l. -/
def OwnS (w : World) (B : Nat) (v : Value) (l : List (List Nat)) : Prop := w.ownsRow B 9 1 v l.length (sc l)

theorem OwnS.nil (w : World) (B : Nat) : OwnS w B (.slice none 0 0) [] := World.ownsRow_nil _ _ _ _
theorem OwnS.lit (w : World) (B : Nat) (hB : B ≤ w.heap.size) (cs : Array Value) (l : List (List Nat)) (h : cs.toList = sc l) (hl : l.length ≤ maxLen) : OwnS (w.alloc (.cells cs 9)) B (.slice (some ⟨w.heap.size, 0, none⟩) l.length l.length) l := by
  have := World.ownsRow_lit (base := B) (e := 9) (size := 1) w cs l.length hB hl (by rw [← Array.length_toList, h, sc_len]; omega)
  rw [h] at this
  exact this
theorem OwnS.alloc {w : World} {B : Nat} {v : Value} {l : List (List Nat)} (h : OwnS w B v l) (o : Obj) : OwnS (w.alloc o) B v l := World.ownsRow.alloc h o
theorem OwnS.drew {w : World} {B : Nat} {v : Value} {l : List (List Nat)} (h : OwnS w B v l) : OwnS w.drew B v l := h
theorem OwnS.below {w w' : World} {B C : Nat} {v : Value} {l : List (List Nat)} (h : OwnS w B v l) (hb : Below C w w') (hC : w.heap.size ≤ C) : OwnS w' B v l := by
  refine ⟨h.1, ?_⟩
  rcases h.2 with h' | ⟨g, cap, cur, h1, h2, h3, h4⟩
  · exact .inl h'
  · refine .inr ⟨g, cap, cur, h1, h2, ?_, h4⟩
    have hg : g < w.heap.size := by
      rcases Nat.lt_or_ge g w.heap.size with hlt | hge
      · exact hlt
      · simp [Array.getElem?_eq_none hge] at h3
    rw [hb.block g (by omega)]; exact h3
theorem OwnS.form {w : World} {B : Nat} {v : Value} {l : List (List Nat)} (h : OwnS w B v l) : ∃ a cap, v = .slice a l.length cap ∧ l.length ≤ cap ∧ cap ≤ maxLen := by
  rcases h.2 with ⟨h', h0⟩ | ⟨g, cap, cur, h', _, _, h4, h5, _⟩
  · exact ⟨none, 0, by rw [h', h0], by omega, by decide⟩
  · exact ⟨_, cap, h', h4, h5⟩
theorem OwnS.rd {w : World} {B n cap : Nat} {a : Option Addr} {l : List (List Nat)} (h : OwnS w B (.slice a n cap) l) : l.length = n ∧ RdS w a l := by
  have hf : l.length = n := by
    obtain ⟨a', c', e, _⟩ := h.form
    simp at e; omega
  subst hf
  exact ⟨rfl, RdS.own h⟩

/-- AN APPEND: what stands at the second slice's address is there behind what was. -/
theorem wpList_appT {w : World} {ops : Array Oper} {rest : List Oper} {o : Oper} {a : Act} {Q : Exit → Act → World → Prop} (hgd : o.guard = none) (s x : Operand)
    (ho : o.op = .call { callee := .builtin .append, args := #[s, x], argTypes := #[54, 54] })
    (B : Nat) (v : Value) (l : List (List Nat)) (hs : a.eval s = v) (hown : OwnS w B v l) (ad : Addr) (m c : Nat) (new : List (List Nat)) (hx : a.eval x = .slice (some ad) m c) (hm : new.length = m)
    (hnew : ∀ j, j < m → w.cell? (ad.add j) = some (.string (str (nthS new j)))) (hsz : l.length + m ≤ 134217728) (hB : B ≤ w.heap.size)
    (h : ∀ v' w1, OwnS w1 B v' (l ++ new) → Below B w w1 → wpList Tryz.prog ops Q rest (a.put o.dst v') w1) : wpList Tryz.prog ops Q (o :: rest) a w := by
  obtain ⟨i0, hi, hz0, hz1, hz2⟩ := info_parts infoS
  refine wpList_append_own w hgd s x 54 ho B 9 i0 (.string ⟨#[]⟩) 1 16 Tryz.underlying54 hi hz0 hz1 hz2 rfl (by decide) v l.length (sc l) hs hown ad m c (sc new) hx (by rw [sc_len, hm]; omega) ?_ (sc_one new) (by unfold maxLen; omega) (by omega) hB ?_
  · intro j u hj
    have hjl : j < new.length := by
      rcases Nat.lt_or_ge j new.length with hlt | hge
      · exact hlt
      · rw [List.getElem?_eq_none (by rw [sc_len]; exact hge)] at hj; cases hj
    rw [sc_get hjl] at hj
    cases hj
    exact hnew j (by omega)
  · intro v' w1 hown' hgr _
    refine h v' w1 ?_ ((Below.refl _ _).grown hgr hB (fun k hk => (hown.lt k hk).1))
    unfold OwnS
    rw [sc_app, List.length_append, hm]
    exact hown'

/-- The same where the second slice is the block that was laid just ahead. -/
theorem wpList_app_newT {wr : World} {cs : Array Value} {ops : Array Oper} {rest : List Oper} {o : Oper} {a : Act} {Q : Exit → Act → World → Prop} (hgd : o.guard = none) (s x : Operand)
    (ho : o.op = .call { callee := .builtin .append, args := #[s, x], argTypes := #[54, 54] })
    (B : Nat) (v : Value) (l : List (List Nat)) (hs : a.eval s = v) (hown : OwnS wr B v l) (m c : Nat) (new : List (List Nat)) (hx : a.eval x = .slice (some ⟨wr.heap.size, 0, none⟩) m c) (hm : new.length = m) (hcs : cs.toList = sc new)
    (hsz : l.length + m ≤ 134217728) (hB : B ≤ wr.heap.size)
    (h : ∀ v' w1, OwnS w1 B v' (l ++ new) → Below B wr w1 → wpList Tryz.prog ops Q rest (a.put o.dst v') w1) : wpList Tryz.prog ops Q (o :: rest) a (wr.alloc (.cells cs 9)) := by
  have hb : Below B wr (wr.alloc (.cells cs 9)) := (Below.refl _ _).alloc hB _
  refine wpList_appT hgd s x ho B v l hs (hown.alloc _) ⟨wr.heap.size, 0, none⟩ m c new hx hm ?_ hsz (by simp; omega) (fun v' w1 h1 h2 => h v' w1 h1 (hb.trans h2))
  intro j hj
  have e : (⟨wr.heap.size, 0, none⟩ : Addr).add j = ⟨wr.heap.size, j, none⟩ := by rw [Go.WideShapes.add_plain, Nat.zero_add]
  rw [e, World.cell?_alloc_mark, ← Array.getElem?_toList, hcs]
  exact sc_get (by omega)

theorem OwnS.low {w : World} {B C : Nat} {v : Value} {l : List (List Nat)} (h : OwnS w B v l) (hC : C ≤ B) : OwnS w C v l := by
  refine ⟨h.1, ?_⟩
  rcases h.2 with h' | ⟨g, cap, cur, h1, h2, h3, h4⟩
  · exact .inl h'
  · exact .inr ⟨g, cap, cur, h1, by omega, h3, h4⟩
end Go.Proofs.YtaefomiofoakhaaGreatDoor
