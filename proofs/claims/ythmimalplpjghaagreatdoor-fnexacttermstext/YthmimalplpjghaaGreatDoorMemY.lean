/- Words on memory: where a slice of ranges (two numbers each) is read, what a row of the call's own holds, an append; no conditions beyond those that each fact names. -/
import Derived.Test.YthmimalplpjghaaGreatDoorAppToMrk0
namespace Go.Proofs.YthmimalplpjghaaGreatDoor
open Go.RowKit

/-- A field: its name and its value. -/
abbrev YgP := Int × Int
def nthY (l : List YgP) (i : Nat) : YgP := l.getD i (0, 0)
/-- Fields as cells. -/
def yc (l : List YgP) : List Value := l.flatMap fun p => [Value.int .i64 p.1, Value.int .i64 p.2]
theorem nthY_get {l : List YgP} {i : Nat} (h : i < l.length) : nthY l i = l[i] := by
  unfold nthY; rw [List.getD_eq_getElem?_getD, List.getElem?_eq_getElem h]; rfl
theorem yc_cons (p : YgP) (l : List YgP) : yc (p :: l) = .int .i64 p.1 :: .int .i64 p.2 :: yc l := rfl
theorem yc_len : ∀ l : List YgP, (yc l).length = l.length * 2
  | [] => rfl
  | p :: l => by rw [yc_cons, List.length_cons, List.length_cons, yc_len l, List.length_cons]; omega
theorem yc_get : ∀ (l : List YgP) (i : Nat), i < l.length → (yc l)[i * 2]? = some (.int .i64 (nthY l i).1) ∧ (yc l)[i * 2 + 1]? = some (.int .i64 (nthY l i).2)
  | [], _, h => by simp at h
  | p :: l, 0, _ => ⟨rfl, rfl⟩
  | p :: l, i + 1, h => by
    have := yc_get l i (by simpa using h)
    rw [yc_cons, show (i + 1) * 2 = i * 2 + 2 by omega]
    exact this
theorem take_snocY (l : List YgP) (k : Nat) (h : k < l.length) : l.take (k + 1) = l.take k ++ [nthY l k] := by
  rw [List.take_succ_eq_append_getElem h, nthY_get h]
/-- WHERE A SLICE OF FIELDS IS READ. -/
def RdY (w : World) (a : Option Addr) (l : List YgP) : Prop :=
  l = [] ∨ ∃ b off, a = some ⟨b, off, none⟩ ∧ b < w.heap.size ∧ ∀ i, i < l.length → w.cell? ⟨b, off + i * 2, none⟩ = some (.int .i64 (nthY l i).1) ∧ w.cell? ⟨b, off + i * 2 + 1, none⟩ = some (.int .i64 (nthY l i).2)
theorem RdY.below {w w' : World} {a : Option Addr} {l : List YgP} (h : RdY w a l) (hb : Below w.heap.size w w') : RdY w' a l := by
  rcases h with h | ⟨b, off, e, hlt, hc⟩
  · exact .inl h
  · exact .inr ⟨b, off, e, Nat.lt_of_lt_of_le hlt hb.size, fun i hi => ⟨(hb.cell (p := ⟨b, off + i * 2, none⟩) hlt).trans (hc i hi).1, (hb.cell (p := ⟨b, off + i * 2 + 1, none⟩) hlt).trans (hc i hi).2⟩⟩
theorem RdY.at_ {w : World} {a : Option Addr} {l : List YgP} (h : RdY w a l) (hp : 0 < l.length) :
    ∃ b off, a = some ⟨b, off, none⟩ ∧ b < w.heap.size ∧ ∀ i, i < l.length → w.cell? ⟨b, off + i * 2, none⟩ = some (.int .i64 (nthY l i).1) ∧ w.cell? ⟨b, off + i * 2 + 1, none⟩ = some (.int .i64 (nthY l i).2) := by
  rcases h with h | h
  · rw [h] at hp; simp at hp
  · exact h
theorem RdY.own {w : World} {base e n cap : Nat} {a : Option Addr} {l : List YgP} (h : w.ownsRow base e 2 (.slice a n cap) n (yc l)) : RdY w a l := by
  have hl : l.length = n := by have := h.1; rw [yc_len] at this; omega
  rcases h.2 with ⟨_, h0⟩ | ⟨g, cap', cur, h', _, hg, _, _, _, htake⟩
  · left; exact List.length_eq_zero_iff.1 (by omega)
  · simp only [Value.slice.injEq] at h'
    obtain ⟨rfl, _, rfl⟩ := h'
    right
    refine ⟨g, 0, rfl, ?_, fun i hi => ?_⟩
    · rcases Nat.lt_or_ge g w.heap.size with hlt | hge
      · exact hlt
      · simp [Array.getElem?_eq_none hge] at hg
    · have hf := yc_get l i hi
      refine ⟨?_, ?_⟩
      · rw [cell_of_row w g (0 + i * 2) cur e (0, 0) hg, ← hf.1, ← htake, List.getElem?_take, if_pos (by omega)]
        simp
      · rw [cell_of_row w g (0 + i * 2 + 1) cur e (0, 0) hg, ← hf.2, ← htake, List.getElem?_take, if_pos (by omega)]
        simp

def zeroY : Value := .agg #[.int .i64 0, .int .i64 0]
theorem infoY : (Tryz.prog.info? 188).map (fun i => (i.zero, i.size, i.bytes)) = some (some zeroY, 2, 16) := by kernel_rfl

/-- THE SLICE v IS THE CALL's OWN AND HOLDS THE FIELDS l. -/
def OwnY (w : World) (B : Nat) (v : Value) (l : List YgP) : Prop := w.ownsRow B 188 2 v l.length (yc l)
theorem OwnY.nil (w : World) (B : Nat) : OwnY w B (.slice none 0 0) [] := World.ownsRow_nil _ _ _ _
theorem OwnY.alloc {w : World} {B : Nat} {v : Value} {l : List YgP} (h : OwnY w B v l) (o : Obj) : OwnY (w.alloc o) B v l := World.ownsRow.alloc h o
theorem OwnY.below {w w' : World} {B C : Nat} {v : Value} {l : List YgP} (h : OwnY w B v l) (hb : Below C w w') (hC : w.heap.size ≤ C) : OwnY w' B v l := by
  refine ⟨h.1, ?_⟩
  rcases h.2 with h' | ⟨g, cap, cur, h1, h2, h3, h4⟩
  · exact .inl h'
  · refine .inr ⟨g, cap, cur, h1, h2, ?_, h4⟩
    have hg : g < w.heap.size := by
      rcases Nat.lt_or_ge g w.heap.size with hlt | hge
      · exact hlt
      · simp [Array.getElem?_eq_none hge] at h3
    rw [hb.block g (by omega)]; exact h3
theorem OwnY.form {w : World} {B : Nat} {v : Value} {l : List YgP} (h : OwnY w B v l) : ∃ a cap, v = .slice a l.length cap ∧ l.length ≤ cap ∧ cap ≤ maxLen := by
  rcases h.2 with ⟨h', h0⟩ | ⟨g, cap, cur, h', _, _, h4, h5, _⟩
  · exact ⟨none, 0, by rw [h', h0], by omega, by decide⟩
  · exact ⟨_, cap, h', h4, h5⟩
theorem OwnY.rd {w : World} {B n cap : Nat} {a : Option Addr} {l : List YgP} (h : OwnY w B (.slice a n cap) l) : l.length = n ∧ RdY w a l := by
  have hf : l.length = n := by
    obtain ⟨a', c', e, _⟩ := h.form
    simp at e; omega
  subst hf
  exact ⟨rfl, RdY.own h⟩
theorem OwnY.low {w : World} {B C : Nat} {v : Value} {l : List YgP} (h : OwnY w B v l) (hC : C ≤ B) : OwnY w C v l := by
  refine ⟨h.1, ?_⟩
  rcases h.2 with h' | ⟨g, cap, cur, h1, h2, h3⟩
  · exact .inl h'
  · exact .inr ⟨g, cap, cur, h1, Nat.le_trans hC h2, h3⟩
theorem OwnY.kept {w : World} {B : Nat} {v : Value} {l : List YgP} (h : OwnY w B v l) (p : Addr) (hp : p.block < B) (u : Value) : OwnY (w.setCell p u) B v l := ownsRow_setCell_below h hp u
theorem OwnY.far {w w' : World} {B : Nat} {v : Value} {l : List YgP} {row : Option Nat} (h : OwnY w B v l) (hg : w.grownBy w' row) (hne : ∀ b, v.ownBlock = some b → some b ≠ row) : OwnY w' B v l := by
  refine ⟨h.1, ?_⟩
  rcases h.2 with h' | ⟨g, cap, cur, h1, h2, h3, h4⟩
  · exact .inl h'
  · refine .inr ⟨g, cap, cur, h1, h2, ?_, h4⟩
    have hlt : g < w.heap.size := by
      rcases Nat.lt_or_ge g w.heap.size with hlt | hge
      · exact hlt
      · simp [Array.getElem?_eq_none hge] at h3
    rw [hg.block g hlt (hne g (by rw [h1]; rfl))]; exact h3

end Go.Proofs.YthmimalplpjghaaGreatDoor
