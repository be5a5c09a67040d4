/- What an append of numbers to a slice of the call's own leaves: laws for this program's types; at most 1073741824 numbers · The laws' helpers that write marks into an answer's numbers, look for them again, and hold two answers with numbers against each other, do what their texts say; at most 1048576 numbers · The laws' helper that holds two answers with a text against each other says true of two that are alike; no conditions · The laws' marks in texts and fields: what is marked is found again · The laws' helpers over slices of parts: two that are alike are held to be the same; what is marked is found again; at most 1048576 parts · Words on memory: where a slice of pointers is read, what a row of the call's own holds, an append; no conditions beyond those that each fact names. -/
import Derived.Test.YtaefomiofoakhaaGreatDoorRdmToBytI
import Derived.Test.YtaefomiofoakhaaGreatDoorAppToMemF
import Derived.Handy
import Derived.Test.YtaefomiofoakhaaGreatDoorProg
import Derived.Test.YtaefomiofoakhaaGreatDoorAppFToHdr
import Derived.Test.YtaefomiofoakhaaGreatDoorTyp5
namespace Go.Proofs.YtaefomiofoakhaaGreatDoor
open Go.RowKit

/-- THE SLICE v IS THE CALL's OWN AND HOLDS THE BYTES l. -/
def OwnI (w : World) (B : Nat) (v : Value) (l : List Int) : Prop := w.ownsRow B 2 1 v l.length (ic l)

theorem OwnI.nil (w : World) (B : Nat) : OwnI w B (.slice none 0 0) [] := World.ownsRow_nil _ _ _ _
theorem OwnI.lit (w : World) (B : Nat) (hB : B ≤ w.heap.size) (cs : Array Value) (l : List Int) (h : cs.toList = ic l) (hl : l.length ≤ maxLen) : OwnI (w.alloc (.cells cs 2)) B (.slice (some ⟨w.heap.size, 0, none⟩) l.length l.length) l := by
  have := World.ownsRow_lit (base := B) (e := 2) (size := 1) w cs l.length hB hl (by rw [← Array.length_toList, h, ic_len]; omega)
  rw [h] at this
  exact this
theorem OwnI.alloc {w : World} {B : Nat} {v : Value} {l : List Int} (h : OwnI w B v l) (o : Obj) : OwnI (w.alloc o) B v l := World.ownsRow.alloc h o
theorem OwnI.drew {w : World} {B : Nat} {v : Value} {l : List Int} (h : OwnI w B v l) : OwnI w.drew B v l := h
theorem OwnI.below {w w' : World} {B C : Nat} {v : Value} {l : List Int} (h : OwnI w B v l) (hb : Below C w w') (hC : w.heap.size ≤ C) : OwnI w' B v l := by
  refine ⟨h.1, ?_⟩
  rcases h.2 with h' | ⟨g, cap, cur, h1, h2, h3, h4⟩
  · exact .inl h'
  · refine .inr ⟨g, cap, cur, h1, h2, ?_, h4⟩
    have hg : g < w.heap.size := by
      rcases Nat.lt_or_ge g w.heap.size with hlt | hge
      · exact hlt
      · simp [Array.getElem?_eq_none hge] at h3
    rw [hb.block g (by omega)]; exact h3
theorem OwnI.form {w : World} {B : Nat} {v : Value} {l : List Int} (h : OwnI w B v l) : ∃ a cap, v = .slice a l.length cap ∧ l.length ≤ cap ∧ cap ≤ maxLen := by
  rcases h.2 with ⟨h', h0⟩ | ⟨g, cap, cur, h', _, _, h4, h5, _⟩
  · exact ⟨none, 0, by rw [h', h0], by omega, by decide⟩
  · exact ⟨_, cap, h', h4, h5⟩
theorem OwnI.rd {w : World} {B n cap : Nat} {a : Option Addr} {l : List Int} (h : OwnI w B (.slice a n cap) l) : l.length = n ∧ RdI w a l := by
  have hf : l.length = n := by
    obtain ⟨a', c', e, _⟩ := h.form
    simp at e; omega
  subst hf
  exact ⟨rfl, RdI.own h⟩

/-- AN APPEND: what stands at the second slice's address is there behind what was. -/
theorem wpList_appI {w : World} {ops : Array Oper} {rest : List Oper} {o : Oper} {a : Act} {Q : Exit → Act → World → Prop} (hgd : o.guard = none) (s x : Operand)
    (ho : o.op = .call { callee := .builtin .append, args := #[s, x], argTypes := #[31, 31] })
    (B : Nat) (v : Value) (l : List Int) (hs : a.eval s = v) (hown : OwnI w B v l) (ad : Addr) (m c : Nat) (new : List Int) (hx : a.eval x = .slice (some ad) m c) (hm : new.length = m)
    (hnew : ∀ j, j < m → w.cell? (ad.add j) = some (.int .i64 (nthI new j))) (hsz : l.length + m ≤ 1073741824) (hB : B ≤ w.heap.size)
    (h : ∀ v' w1, OwnI w1 B v' (l ++ new) → Below B w w1 → wpList Tryz.prog ops Q rest (a.put o.dst v') w1) : wpList Tryz.prog ops Q (o :: rest) a w := by
  obtain ⟨i0, hi, hz0, hz1, hz2⟩ := info_parts infoBI
  refine wpList_append_own w hgd s x 31 ho B 2 i0 (.int .i64 0) 1 8 Tryz.underlying31 hi hz0 hz1 hz2 rfl (by decide) v l.length (ic l) hs hown ad m c (ic new) hx (by rw [ic_len, hm]; omega) ?_ (ic_one new) (by unfold maxLen; omega) (by omega) hB ?_
  · intro j u hj
    have hjl : j < new.length := by
      rcases Nat.lt_or_ge j new.length with hlt | hge
      · exact hlt
      · rw [List.getElem?_eq_none (by rw [ic_len]; exact hge)] at hj; cases hj
    rw [ic_get hjl] at hj
    cases hj
    exact hnew j (by omega)
  · intro v' w1 hown' hgr _
    refine h v' w1 ?_ ((Below.refl _ _).grown hgr hB (fun k hk => (hown.lt k hk).1))
    unfold OwnI
    rw [ic_app, List.length_append, hm]
    exact hown'

/-- The same where the second slice is the block that was laid just ahead. -/
theorem wpList_app_newI {wr : World} {cs : Array Value} {ops : Array Oper} {rest : List Oper} {o : Oper} {a : Act} {Q : Exit → Act → World → Prop} (hgd : o.guard = none) (s x : Operand)
    (ho : o.op = .call { callee := .builtin .append, args := #[s, x], argTypes := #[31, 31] })
    (B : Nat) (v : Value) (l : List Int) (hs : a.eval s = v) (hown : OwnI wr B v l) (m c : Nat) (new : List Int) (hx : a.eval x = .slice (some ⟨wr.heap.size, 0, none⟩) m c) (hm : new.length = m) (hcs : cs.toList = ic new)
    (hsz : l.length + m ≤ 1073741824) (hB : B ≤ wr.heap.size)
    (h : ∀ v' w1, OwnI w1 B v' (l ++ new) → Below B wr w1 → wpList Tryz.prog ops Q rest (a.put o.dst v') w1) : wpList Tryz.prog ops Q (o :: rest) a (wr.alloc (.cells cs 2)) := by
  have hb : Below B wr (wr.alloc (.cells cs 2)) := (Below.refl _ _).alloc hB _
  refine wpList_appI hgd s x ho B v l hs (hown.alloc _) ⟨wr.heap.size, 0, none⟩ m c new hx hm ?_ hsz (by simp; omega) (fun v' w1 h1 h2 => h v' w1 h1 (hb.trans h2))
  intro j hj
  have e : (⟨wr.heap.size, 0, none⟩ : Addr).add j = ⟨wr.heap.size, j, none⟩ := by rw [Go.WideShapes.add_plain, Nat.zero_add]
  rw [e, World.cell?_alloc_mark, ← Array.getElem?_toList, hcs]
  exact ic_get (by omega)

end Go.Proofs.YtaefomiofoakhaaGreatDoor

namespace Go.Proofs.YtaefomiofoakhaaGreatDoor
open Go.RowKit

end Go.Proofs.YtaefomiofoakhaaGreatDoor

namespace Go.Proofs.YtaefomiofoakhaaGreatDoor
open Go.RowKit

end Go.Proofs.YtaefomiofoakhaaGreatDoor

namespace Go.Proofs.YtaefomiofoakhaaGreatDoor
open Go.RowKit

theorem grow_then {w w1 w2 : World} {row : Option Nat} (h : w.grownBy w1 row) (k : w1.grownBy w2 row) : w.grownBy w2 row :=
  ⟨k.os.trans h.os, k.tape.trans h.tape, k.output.trans h.output, Nat.le_trans h.size k.size, fun g hg hne => (k.block g (Nat.lt_of_lt_of_le hg h.size) hne).trans (h.block g hg hne)⟩

end Go.Proofs.YtaefomiofoakhaaGreatDoor

namespace Go.Proofs.YtaefomiofoakhaaGreatDoor
open Go.RowKit

def nthP (l : List PtP) (i : Nat) : PtP := l.getD i ((0, 0, 0), (0, 0), (0, 0))
theorem nthP_get {l : List PtP} {i : Nat} (h : i < l.length) : nthP l i = l[i] := by
  simp [nthP, List.getD_eq_getElem?_getD, List.getElem?_eq_getElem h]
theorem pc_get : ∀ (l : List PtP) (i : Nat), i < l.length → (pc l)[i * 7]? = some (.int .i64 (nthP l i).1.1) ∧ (pc l)[i * 7 + 1]? = some (.int .i64 (nthP l i).1.2.1) ∧ (pc l)[i * 7 + 2]? = some (.int .i64 (nthP l i).1.2.2) ∧ (pc l)[i * 7 + 3]? = some (.int .i64 (nthP l i).2.1.1) ∧ (pc l)[i * 7 + 4]? = some (.int .i64 (nthP l i).2.1.2) ∧ (pc l)[i * 7 + 5]? = some (.int .i64 (nthP l i).2.2.1) ∧ (pc l)[i * 7 + 6]? = some (.int .i64 (nthP l i).2.2.2)
  | x :: l, 0, _ => ⟨rfl, rfl, rfl, rfl, rfl, rfl, rfl⟩
  | x :: l, i + 1, h => by
    have hi := pc_get l i (by simpa using h)
    have e : ∀ k, (pc (x :: l))[(i + 1) * 7 + k]? = (pc l)[i * 7 + k]? := fun k => by
      rw [pc_cons, List.getElem?_append_right (by simp [pcl]; omega)]
      have hp : (pcl x).length = 7 := rfl
      rw [hp]; congr 1; omega
    have e0 : nthP (x :: l) (i + 1) = nthP l i := by simp [nthP]
    rw [e0]
    exact ⟨(e 0).trans hi.1, (e 1).trans hi.2.1, (e 2).trans hi.2.2.1, (e 3).trans hi.2.2.2.1, (e 4).trans hi.2.2.2.2.1, (e 5).trans hi.2.2.2.2.2.1, (e 6).trans hi.2.2.2.2.2.2⟩
/-- THE PARTS l STAND AT a. -/
def RdP (w : World) (a : Option Addr) (l : List PtP) : Prop := l = [] ∨ ∃ b, a = some ⟨b, 0, none⟩ ∧ b < w.heap.size ∧ ∀ i, i < l.length * 7 → w.cell? ⟨b, i, none⟩ = (pc l)[i]?
theorem RdP.below {w w' : World} {a : Option Addr} {l : List PtP} (h : RdP w a l) (hb : Below w.heap.size w w') : RdP w' a l := by
  rcases h with h | ⟨b, h1, h2, h3⟩
  · exact .inl h
  · exact .inr ⟨b, h1, Nat.lt_of_lt_of_le h2 hb.size, fun i hi => (hb.cell (p := ⟨b, i, none⟩) h2).trans (h3 i hi)⟩
theorem RdP.at_ {w : World} {a : Option Addr} {l : List PtP} (h : RdP w a l) (hp : 0 < l.length) : ∃ b, a = some ⟨b, 0, none⟩ ∧ b < w.heap.size ∧ ∀ k, k < l.length → w.cell? ⟨b, k * 7, none⟩ = some (.int .i64 (nthP l k).1.1) ∧ w.cell? ⟨b, k * 7 + 1, none⟩ = some (.int .i64 (nthP l k).1.2.1) ∧ w.cell? ⟨b, k * 7 + 2, none⟩ = some (.int .i64 (nthP l k).1.2.2) ∧ w.cell? ⟨b, k * 7 + 3, none⟩ = some (.int .i64 (nthP l k).2.1.1) ∧ w.cell? ⟨b, k * 7 + 4, none⟩ = some (.int .i64 (nthP l k).2.1.2) ∧ w.cell? ⟨b, k * 7 + 5, none⟩ = some (.int .i64 (nthP l k).2.2.1) ∧ w.cell? ⟨b, k * 7 + 6, none⟩ = some (.int .i64 (nthP l k).2.2.2) := by
  rcases h with h | ⟨b, h1, h2, h3⟩
  · subst h; simp at hp
  · refine ⟨b, h1, h2, fun k hk => ?_⟩
    obtain ⟨g0, g1, g2, g3, g4, g5, g6⟩ := pc_get l k hk
    exact ⟨(h3 _ (by omega)).trans g0, (h3 _ (by omega)).trans g1, (h3 _ (by omega)).trans g2, (h3 _ (by omega)).trans g3, (h3 _ (by omega)).trans g4, (h3 _ (by omega)).trans g5, (h3 _ (by omega)).trans g6⟩
theorem OwnP.rd {w : World} {B n cap : Nat} {a : Option Addr} {l : List PtP} (h : OwnP w B (.slice a n cap) l) : l.length = n ∧ RdP w a l := by
  have hf : l.length = n := by
    obtain ⟨a', c', e, _⟩ := h.form
    simp at e; omega
  refine ⟨hf, ?_⟩
  rcases l with _ | ⟨x, l⟩
  · exact .inl rfl
  · have h0 := h
    rcases h.2 with ⟨_, h1⟩ | ⟨g, cap', cur, h1, h2, h3, h4⟩
    · simp at h1
    · obtain ⟨rfl⟩ : a = some ⟨g, 0, none⟩ := by simp at h1; exact h1.1
      refine .inr ⟨g, rfl, (Array.getElem?_eq_some_iff.1 h3).1, fun i hi => ?_⟩
      unfold OwnP at h0
      rw [hf] at h0
      exact h0.cellAt i (by omega)
theorem OwnP.lt {w : World} {B : Nat} {v : Value} {l : List PtP} (h : OwnP w B v l) (g : Nat) (hg : v.ownBlock = some g) : B ≤ g ∧ g < w.heap.size := World.ownsRow.lt h g hg
theorem OwnP.far {w w' : World} {B : Nat} {v : Value} {l : List PtP} {row : Option Nat} (h : OwnP w B v l) (hg : w.grownBy w' row) (hne : ∀ b, v.ownBlock = some b → some b ≠ row) : OwnP w' B v l := by
  refine ⟨h.1, ?_⟩
  rcases h.2 with h' | ⟨g, cap, cur, h1, h2, h3, h4⟩
  · exact .inl h'
  · refine .inr ⟨g, cap, cur, h1, h2, ?_, h4⟩
    have hlt : g < w.heap.size := (Array.getElem?_eq_some_iff.1 h3).1
    rw [hg.block g hlt (hne g (by rw [h1]; rfl))]; exact h3

end Go.Proofs.YtaefomiofoakhaaGreatDoor

namespace Go.Proofs.YtaefomiofoakhaaGreatDoor
open Go.RowKit

/-- The i-th number of a list (0 behind its end). -/
def nthZq (l : List Nat) (i : Nat) : Nat := l.getD i 0
/-- Numbers as cells. -/
def qcZ (l : List Nat) : List Value := l.map fun (b : Nat) => Value.pointer (some ⟨b, 0, none⟩)

theorem nthZq_get {l : List Nat} {i : Nat} (h : i < l.length) : nthZq l i = l[i] := by
  unfold nthZq; rw [List.getD_eq_getElem?_getD, List.getElem?_eq_getElem h]; rfl

theorem qcZ_len (l : List Nat) : (qcZ l).length = l.length := by simp [qcZ]
theorem qcZ_one (l : List Nat) : ∀ u ∈ qcZ l, u.oneCell' = true := by
  intro u hu
  simp only [qcZ, List.mem_map] at hu
  obtain ⟨b, _, rfl⟩ := hu
  rfl
theorem qcZ_app (a b : List Nat) : qcZ (a ++ b) = qcZ a ++ qcZ b := by simp [qcZ]
theorem qcZ_get {l : List Nat} {i : Nat} (h : i < l.length) : (qcZ l)[i]? = some (.pointer (some ⟨nthZq l i, 0, none⟩)) := by
  rw [nthZq_get h]; simp [qcZ, h]

theorem nthZq_drop (l : List Nat) (k i : Nat) : nthZq (l.drop k) i = nthZq l (k + i) := by
  simp [nthZq, List.getD_eq_getElem?_getD, List.getElem?_drop]
/-- WHERE A SLICE OF BYTES IS READ: at its address stand the bytes l. -/
def RdQ (w : World) (a : Option Addr) (l : List Nat) : Prop :=
  l = [] ∨ ∃ b off, a = some ⟨b, off, none⟩ ∧ b < w.heap.size ∧ ∀ i, i < l.length → w.cell? ⟨b, off + i, none⟩ = some (.pointer (some ⟨nthZq l i, 0, none⟩))

theorem RdQ.below {w w' : World} {a : Option Addr} {l : List Nat} (h : RdQ w a l) (hb : Below w.heap.size w w') : RdQ w' a l := by
  rcases h with h | ⟨b, off, e, hlt, hc⟩
  · exact .inl h
  · exact .inr ⟨b, off, e, Nat.lt_of_lt_of_le hlt hb.size, fun i hi => (hb.cell (p := ⟨b, off + i, none⟩) hlt).trans (hc i hi)⟩
/-- Where there is an element there is an address. -/
theorem RdQ.at_ {w : World} {a : Option Addr} {l : List Nat} (h : RdQ w a l) (hp : 0 < l.length) :
    ∃ b off, a = some ⟨b, off, none⟩ ∧ b < w.heap.size ∧ ∀ i, i < l.length → w.cell? ⟨b, off + i, none⟩ = some (.pointer (some ⟨nthZq l i, 0, none⟩)) := by
  rcases h with h | h
  · rw [h] at hp; simp at hp
  · exact h
theorem RdQ.drop {w : World} {b off : Nat} {l : List Nat} (h : RdQ w (some ⟨b, off, none⟩) l) (k : Nat) : RdQ w (some ⟨b, off + k, none⟩) (l.drop k) := by
  rcases h with h | ⟨b', off', e, hlt, hc⟩
  · left; simp [h]
  · obtain ⟨rfl, rfl⟩ : b = b' ∧ off = off' := by simpa using e
    right
    refine ⟨b, off + k, rfl, hlt, fun i hi => ?_⟩
    rw [List.length_drop] at hi
    rw [nthZq_drop, Nat.add_assoc]
    exact hc (k + i) (by omega)


/-- A row of the call's own, read. -/
theorem RdQ.own {w : World} {base e n cap : Nat} {a : Option Addr} {l : List Nat} (h : w.ownsRow base e 1 (.slice a n cap) n (qcZ l)) : RdQ w a l := by
  have hl : l.length = n := by simpa [qcZ_len] using h.1
  rcases h.2 with ⟨_, h0⟩ | ⟨g, cap', cur, h', _, hg, _, _, _, htake⟩
  · left; exact List.length_eq_zero_iff.1 (by omega)
  · simp only [Value.slice.injEq] at h'
    obtain ⟨rfl, _, rfl⟩ := h'
    right
    refine ⟨g, 0, rfl, ?_, fun i hi => ?_⟩
    · rcases Nat.lt_or_ge g w.heap.size with hlt | hge
      · exact hlt
      · simp [Array.getElem?_eq_none hge] at hg
    · rw [cell_of_row w g (0 + i) cur e (0, 0) hg, ← qcZ_get hi, ← htake, List.getElem?_take, if_pos (by omega)]
      simp


theorem infoQ : (Tryz.prog.info? 49).map (fun i => (i.zero, i.size, i.bytes)) = some (some (.pointer none), 1, 8) := by kernel_rfl
/-- THE SLICE v IS THE CALL's OWN AND HOLDS THE BYTES l. -/
def OwnQ (w : World) (B : Nat) (v : Value) (l : List Nat) : Prop := w.ownsRow B 49 1 v l.length (qcZ l)

theorem OwnQ.nil (w : World) (B : Nat) : OwnQ w B (.slice none 0 0) [] := World.ownsRow_nil _ _ _ _
theorem OwnQ.lit (w : World) (B : Nat) (hB : B ≤ w.heap.size) (cs : Array Value) (l : List Nat) (h : cs.toList = qcZ l) (hl : l.length ≤ maxLen) : OwnQ (w.alloc (.cells cs 49)) B (.slice (some ⟨w.heap.size, 0, none⟩) l.length l.length) l := by
  have := World.ownsRow_lit (base := B) (e := 49) (size := 1) w cs l.length hB hl (by rw [← Array.length_toList, h, qcZ_len]; omega)
  rw [h] at this
  exact this
theorem OwnQ.alloc {w : World} {B : Nat} {v : Value} {l : List Nat} (h : OwnQ w B v l) (o : Obj) : OwnQ (w.alloc o) B v l := World.ownsRow.alloc h o
theorem OwnQ.drew {w : World} {B : Nat} {v : Value} {l : List Nat} (h : OwnQ w B v l) : OwnQ w.drew B v l := h
theorem OwnQ.below {w w' : World} {B C : Nat} {v : Value} {l : List Nat} (h : OwnQ w B v l) (hb : Below C w w') (hC : w.heap.size ≤ C) : OwnQ w' B v l := by
  refine ⟨h.1, ?_⟩
  rcases h.2 with h' | ⟨g, cap, cur, h1, h2, h3, h4⟩
  · exact .inl h'
  · refine .inr ⟨g, cap, cur, h1, h2, ?_, h4⟩
    have hg : g < w.heap.size := by
      rcases Nat.lt_or_ge g w.heap.size with hlt | hge
      · exact hlt
      · simp [Array.getElem?_eq_none hge] at h3
    rw [hb.block g (by omega)]; exact h3
theorem OwnQ.form {w : World} {B : Nat} {v : Value} {l : List Nat} (h : OwnQ w B v l) : ∃ a cap, v = .slice a l.length cap ∧ l.length ≤ cap ∧ cap ≤ maxLen := by
  rcases h.2 with ⟨h', h0⟩ | ⟨g, cap, cur, h', _, _, h4, h5, _⟩
  · exact ⟨none, 0, by rw [h', h0], by omega, by decide⟩
  · exact ⟨_, cap, h', h4, h5⟩
theorem OwnQ.rd {w : World} {B n cap : Nat} {a : Option Addr} {l : List Nat} (h : OwnQ w B (.slice a n cap) l) : l.length = n ∧ RdQ w a l := by
  have hf : l.length = n := by
    obtain ⟨a', c', e, _⟩ := h.form
    simp at e; omega
  subst hf
  exact ⟨rfl, RdQ.own h⟩

/-- AN APPEND: what stands at the second slice's address is there behind what was. -/
theorem wpList_appQ {w : World} {ops : Array Oper} {rest : List Oper} {o : Oper} {a : Act} {Q : Exit → Act → World → Prop} (hgd : o.guard = none) (s x : Operand)
    (ho : o.op = .call { callee := .builtin .append, args := #[s, x], argTypes := #[43, 43] })
    (B : Nat) (v : Value) (l : List Nat) (hs : a.eval s = v) (hown : OwnQ w B v l) (ad : Addr) (m c : Nat) (new : List Nat) (hx : a.eval x = .slice (some ad) m c) (hm : new.length = m)
    (hnew : ∀ j, j < m → w.cell? (ad.add j) = some (.pointer (some ⟨nthZq new j, 0, none⟩))) (hsz : l.length + m ≤ 1073741824) (hB : B ≤ w.heap.size)
    (h : ∀ v' w1, OwnQ w1 B v' (l ++ new) → w.grownBy w1 v.ownBlock → wpList Tryz.prog ops Q rest (a.put o.dst v') w1) : wpList Tryz.prog ops Q (o :: rest) a w := by
  obtain ⟨i0, hi, hz0, hz1, hz2⟩ := info_parts infoQ
  refine wpList_append_own w hgd s x 43 ho B 49 i0 (.pointer none) 1 8 Tryz.underlying43 hi hz0 hz1 hz2 rfl (by decide) v l.length (qcZ l) hs hown ad m c (qcZ new) hx (by rw [qcZ_len, hm]; omega) ?_ (qcZ_one new) (by unfold maxLen; omega) (by omega) hB ?_
  · intro j u hj
    have hjl : j < new.length := by
      rcases Nat.lt_or_ge j new.length with hlt | hge
      · exact hlt
      · rw [List.getElem?_eq_none (by rw [qcZ_len]; exact hge)] at hj; cases hj
    rw [qcZ_get hjl] at hj
    cases hj
    exact hnew j (by omega)
  · intro v' w1 hown' hgr _
    refine h v' w1 ?_ hgr
    unfold OwnQ
    rw [qcZ_app, List.length_append, hm]
    exact hown'

/-- The cells of a block that was laid just ahead, behind a draw too. -/
theorem new_cellsQ {wr : World} {cs : Array Value} {new : List Nat} (hcs : cs.toList = qcZ new) (m : Nat) (hm : new.length = m) :
    ∀ j, j < m → (wr.alloc (.cells cs 49)).cell? ((⟨wr.heap.size, 0, none⟩ : Addr).add j) = some (.pointer (some ⟨nthZq new j, 0, none⟩)) := by
  intro j hj
  have e : (⟨wr.heap.size, 0, none⟩ : Addr).add j = ⟨wr.heap.size, j, none⟩ := by rw [Go.WideShapes.add_plain, Nat.zero_add]
  rw [e, World.cell?_alloc_mark, ← Array.getElem?_toList, hcs]
  exact qcZ_get (by omega)
end Go.Proofs.YtaefomiofoakhaaGreatDoor
