/- Ranges as complex numbers: whole numbers to 999 as floats and back, by looking at them all; where a slice of such ranges is read, what a row of the call's own holds, an append. -/
import Derived.Test.YthmimalplpjghaaGreatDoorYft
import Derived.WalkLawsBesides
namespace Go.Proofs.YthmimalplpjghaaGreatDoor
open Go.RowKit

/-- A whole number as a float's bits. -/
def fB (n : Int) : Nat := floatOfInt .f64 n
/-- A range as one complex number. -/
def cz (p : YgP) : Value := .complex .f64 (fB p.1) (fB p.2)
theorem fB_all : (List.range 1000).all (fun n => floatToIntVal .f64 (floatOfInt .f64 (n : Int)) .i64 == some (n : Int)) = true := by kernel_rfl
theorem fB_back {n : Int} (h : bty n 0 999 = true) : floatToIntVal .f64 (fB n) .i64 = some n := by
  have h' := of_decide_eq_true h
  have := List.all_eq_true.1 fB_all n.toNat (by rw [List.mem_range]; omega)
  rw [show ((n.toNat : Nat) : Int) = n by omega] at this
  simpa [fB] using this
def zeroZ : Value := .complex .f64 0 0
theorem infoZ : (Tryz.prog.info? 302).map (fun i => (i.zero, i.size, i.bytes)) = some (some zeroZ, 1, 16) := by kernel_rfl

/-- The i-th number of a list (0 behind its end). -/
def nthZ (l : List YgP) (i : Nat) : YgP := l.getD i (0, 0)
/-- Numbers as cells. -/
def zc (l : List YgP) : List Value := l.map fun (b : YgP) => cz b

theorem nthZ_get {l : List YgP} {i : Nat} (h : i < l.length) : nthZ l i = l[i] := by
  unfold nthZ; rw [List.getD_eq_getElem?_getD, List.getElem?_eq_getElem h]; rfl

theorem zc_len (l : List YgP) : (zc l).length = l.length := by simp [zc]
theorem zc_one (l : List YgP) : ∀ u ∈ zc l, u.oneCell' = true := by
  intro u hu
  simp only [zc, List.mem_map] at hu
  obtain ⟨b, _, rfl⟩ := hu
  rfl
theorem zc_app (a b : List YgP) : zc (a ++ b) = zc a ++ zc b := by simp [zc]
theorem zc_get {l : List YgP} {i : Nat} (h : i < l.length) : (zc l)[i]? = some (cz (nthZ l i)) := by
  rw [nthZ_get h]; simp [zc, h]

theorem nthZ_drop (l : List YgP) (k i : Nat) : nthZ (l.drop k) i = nthZ l (k + i) := by
  simp [nthZ, List.getD_eq_getElem?_getD, List.getElem?_drop]
/-- WHERE A SLICE OF RANGES IS READ: at its address stand the ranges l. -/
def RdZ (w : World) (a : Option Addr) (l : List YgP) : Prop :=
  l = [] ∨ ∃ b off, a = some ⟨b, off, none⟩ ∧ b < w.heap.size ∧ ∀ i, i < l.length → w.cell? ⟨b, off + i, none⟩ = some (cz (nthZ l i))

theorem RdZ.below {w w' : World} {a : Option Addr} {l : List YgP} (h : RdZ w a l) (hb : Below w.heap.size w w') : RdZ w' a l := by
  rcases h with h | ⟨b, off, e, hlt, hc⟩
  · exact .inl h
  · exact .inr ⟨b, off, e, Nat.lt_of_lt_of_le hlt hb.size, fun i hi => (hb.cell (p := ⟨b, off + i, none⟩) hlt).trans (hc i hi)⟩
/-- Where there is an element there is an address. -/
theorem RdZ.at_ {w : World} {a : Option Addr} {l : List YgP} (h : RdZ w a l) (hp : 0 < l.length) :
    ∃ b off, a = some ⟨b, off, none⟩ ∧ b < w.heap.size ∧ ∀ i, i < l.length → w.cell? ⟨b, off + i, none⟩ = some (cz (nthZ l i)) := by
  rcases h with h | h
  · rw [h] at hp; simp at hp
  · exact h
theorem RdZ.drop {w : World} {b off : Nat} {l : List YgP} (h : RdZ w (some ⟨b, off, none⟩) l) (k : Nat) : RdZ w (some ⟨b, off + k, none⟩) (l.drop k) := by
  rcases h with h | ⟨b', off', e, hlt, hc⟩
  · left; simp [h]
  · obtain ⟨rfl, rfl⟩ : b = b' ∧ off = off' := by simpa using e
    right
    refine ⟨b, off + k, rfl, hlt, fun i hi => ?_⟩
    rw [List.length_drop] at hi
    rw [nthZ_drop, Nat.add_assoc]
    exact hc (k + i) (by omega)


/-- A row of the call's own, read. -/
theorem RdZ.own {w : World} {base e n cap : Nat} {a : Option Addr} {l : List YgP} (h : w.ownsRow base e 1 (.slice a n cap) n (zc l)) : RdZ w a l := by
  have hl : l.length = n := by simpa [zc_len] using h.1
  rcases h.2 with ⟨_, h0⟩ | ⟨g, cap', cur, h', _, hg, _, _, _, htake⟩
  · left; exact List.length_eq_zero_iff.1 (by omega)
  · simp only [Value.slice.injEq] at h'
    obtain ⟨rfl, _, rfl⟩ := h'
    right
    refine ⟨g, 0, rfl, ?_, fun i hi => ?_⟩
    · rcases Nat.lt_or_ge g w.heap.size with hlt | hge
      · exact hlt
      · simp [Array.getElem?_eq_none hge] at hg
    · rw [cell_of_row w g (0 + i) cur e (0, 0) hg, ← zc_get hi, ← htake, List.getElem?_take, if_pos (by omega)]
      simp


/-- THE SLICE v IS THE CALL's OWN AND HOLDS THE RANGES l. -/
def OwnZ (w : World) (B : Nat) (v : Value) (l : List YgP) : Prop := w.ownsRow B 302 1 v l.length (zc l)

theorem OwnZ.nil (w : World) (B : Nat) : OwnZ w B (.slice none 0 0) [] := World.ownsRow_nil _ _ _ _
theorem OwnZ.lit (w : World) (B : Nat) (hB : B ≤ w.heap.size) (cs : Array Value) (l : List YgP) (h : cs.toList = zc l) (hl : l.length ≤ maxLen) : OwnZ (w.alloc (.cells cs 302)) B (.slice (some ⟨w.heap.size, 0, none⟩) l.length l.length) l := by
  have := World.ownsRow_lit (base := B) (e := 302) (size := 1) w cs l.length hB hl (by rw [← Array.length_toList, h, zc_len]; omega)
  rw [h] at this
  exact this
theorem OwnZ.alloc {w : World} {B : Nat} {v : Value} {l : List YgP} (h : OwnZ w B v l) (o : Obj) : OwnZ (w.alloc o) B v l := World.ownsRow.alloc h o
theorem OwnZ.drew {w : World} {B : Nat} {v : Value} {l : List YgP} (h : OwnZ w B v l) : OwnZ w.drew B v l := h
theorem OwnZ.below {w w' : World} {B C : Nat} {v : Value} {l : List YgP} (h : OwnZ w B v l) (hb : Below C w w') (hC : w.heap.size ≤ C) : OwnZ w' B v l := by
  refine ⟨h.1, ?_⟩
  rcases h.2 with h' | ⟨g, cap, cur, h1, h2, h3, h4⟩
  · exact .inl h'
  · refine .inr ⟨g, cap, cur, h1, h2, ?_, h4⟩
    have hg : g < w.heap.size := by
      rcases Nat.lt_or_ge g w.heap.size with hlt | hge
      · exact hlt
      · simp [Array.getElem?_eq_none hge] at h3
    rw [hb.block g (by omega)]; exact h3
theorem OwnZ.form {w : World} {B : Nat} {v : Value} {l : List YgP} (h : OwnZ w B v l) : ∃ a cap, v = .slice a l.length cap ∧ l.length ≤ cap ∧ cap ≤ maxLen := by
  rcases h.2 with ⟨h', h0⟩ | ⟨g, cap, cur, h', _, _, h4, h5, _⟩
  · exact ⟨none, 0, by rw [h', h0], by omega, by decide⟩
  · exact ⟨_, cap, h', h4, h5⟩
theorem OwnZ.rd {w : World} {B n cap : Nat} {a : Option Addr} {l : List YgP} (h : OwnZ w B (.slice a n cap) l) : l.length = n ∧ RdZ w a l := by
  have hf : l.length = n := by
    obtain ⟨a', c', e, _⟩ := h.form
    simp at e; omega
  subst hf
  exact ⟨rfl, RdZ.own h⟩

/-- AN APPEND: what stands at the second slice's address is there behind what was. -/
theorem wpList_appZ {w : World} {ops : Array Oper} {rest : List Oper} {o : Oper} {a : Act} {Q : Exit → Act → World → Prop} (hgd : o.guard = none) (s x : Operand)
    (ho : o.op = .call { callee := .builtin .append, args := #[s, x], argTypes := #[239, 239] })
    (B : Nat) (v : Value) (l : List YgP) (hs : a.eval s = v) (hown : OwnZ w B v l) (ad : Addr) (m c : Nat) (new : List YgP) (hx : a.eval x = .slice (some ad) m c) (hm : new.length = m)
    (hnew : ∀ j, j < m → w.cell? (ad.add j) = some (cz (nthZ new j))) (hsz : l.length + m ≤ 1073741824) (hB : B ≤ w.heap.size)
    (h : ∀ v' w1, OwnZ w1 B v' (l ++ new) → Below B w w1 → wpList Tryz.prog ops Q rest (a.put o.dst v') w1) : wpList Tryz.prog ops Q (o :: rest) a w := by
  obtain ⟨i0, hi, hz0, hz1, hz2⟩ := info_parts infoZ
  refine wpList_append_own w hgd s x 239 ho B 302 i0 zeroZ 1 16 Tryz.underlying239 hi hz0 hz1 hz2 rfl (by decide) v l.length (zc l) hs hown ad m c (zc new) hx (by rw [zc_len, hm]; omega) ?_ (zc_one new) (by unfold maxLen; omega) (by omega) hB ?_
  · intro j u hj
    have hjl : j < new.length := by
      rcases Nat.lt_or_ge j new.length with hlt | hge
      · exact hlt
      · rw [List.getElem?_eq_none (by rw [zc_len]; exact hge)] at hj; cases hj
    rw [zc_get hjl] at hj
    cases hj
    exact hnew j (by omega)
  · intro v' w1 hown' hgr _
    refine h v' w1 ?_ ((Below.refl _ _).grown hgr hB (fun k hk => (hown.lt k hk).1))
    unfold OwnZ
    rw [zc_app, List.length_append, hm]
    exact hown'

/-- The same where the second slice is the block that was laid just ahead. -/
theorem wpList_app_newZ {wr : World} {cs : Array Value} {ops : Array Oper} {rest : List Oper} {o : Oper} {a : Act} {Q : Exit → Act → World → Prop} (hgd : o.guard = none) (s x : Operand)
    (ho : o.op = .call { callee := .builtin .append, args := #[s, x], argTypes := #[239, 239] })
    (B : Nat) (v : Value) (l : List YgP) (hs : a.eval s = v) (hown : OwnZ wr B v l) (m c : Nat) (new : List YgP) (hx : a.eval x = .slice (some ⟨wr.heap.size, 0, none⟩) m c) (hm : new.length = m) (hcs : cs.toList = zc new)
    (hsz : l.length + m ≤ 1073741824) (hB : B ≤ wr.heap.size)
    (h : ∀ v' w1, OwnZ w1 B v' (l ++ new) → Below B wr w1 → wpList Tryz.prog ops Q rest (a.put o.dst v') w1) : wpList Tryz.prog ops Q (o :: rest) a (wr.alloc (.cells cs 302)) := by
  have hb : Below B wr (wr.alloc (.cells cs 302)) := (Below.refl _ _).alloc hB _
  refine wpList_appZ hgd s x ho B v l hs (hown.alloc _) ⟨wr.heap.size, 0, none⟩ m c new hx hm ?_ hsz (by simp; omega) (fun v' w1 h1 h2 => h v' w1 h1 (hb.trans h2))
  intro j hj
  have e : (⟨wr.heap.size, 0, none⟩ : Addr).add j = ⟨wr.heap.size, j, none⟩ := by rw [Go.WideShapes.add_plain, Nat.zero_add]
  rw [e, World.cell?_alloc_mark, ← Array.getElem?_toList, hcs]
  exact zc_get (by omega)

end Go.Proofs.YthmimalplpjghaaGreatDoor
