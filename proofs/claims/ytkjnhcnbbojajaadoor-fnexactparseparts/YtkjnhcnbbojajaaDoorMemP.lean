/- Words on memory: where a slice of parts (seven numbers each) is read, what a row of the call's own holds, an append; no conditions beyond those that each fact names. -/
import Derived.Test.YtkjnhcnbbojajaaDoorRdm
namespace Go.Proofs.YtkjnhcnbbojajaaDoor
open Go.RowKit

/-- A part as cells. -/
def pcl (x : PtP) : List Value := [.int .i64 x.1.1, .int .i64 x.1.2.1, .int .i64 x.1.2.2, .int .i64 x.2.1.1, .int .i64 x.2.1.2, .int .i64 x.2.2.1, .int .i64 x.2.2.2]
/-- Parts as cells. -/
def pc (l : List PtP) : List Value := l.flatMap pcl
theorem pc_cons (x : PtP) (l : List PtP) : pc (x :: l) = pcl x ++ pc l := rfl
theorem pc_len : ∀ l : List PtP, (pc l).length = l.length * 7
  | [] => rfl
  | x :: l => by rw [pc_cons, List.length_append, pc_len l, List.length_cons]; simp [pcl]; omega
theorem pc_app (a b : List PtP) : pc (a ++ b) = pc a ++ pc b := by simp [pc]
theorem pc_one (l : List PtP) : ∀ u ∈ pc l, u.oneCell' = true := by
  intro u hu
  simp only [pc, pcl, List.mem_flatMap, List.mem_cons, List.not_mem_nil, or_false] at hu
  obtain ⟨p, _, h⟩ := hu
  rcases h with rfl | rfl | rfl | rfl | rfl | rfl | rfl <;> rfl
def zeroP : Value := .agg #[.int .i64 0, .int .i64 0, .int .i64 0, .int .i64 0, .int .i64 0, .int .i64 0, .int .i64 0]
theorem infoP : (Tryd.prog.info? 35).map (fun i => (i.zero, i.size, i.bytes)) = some (some zeroP, 7, 56) := by kernel_rfl
/-- THE SLICE v IS THE CALL's OWN AND HOLDS THE PARTS l. -/
def OwnP (w : World) (B : Nat) (v : Value) (l : List PtP) : Prop := w.ownsRow B 35 7 v l.length (pc l)
theorem OwnP.nil (w : World) (B : Nat) : OwnP w B (.slice none 0 0) [] := World.ownsRow_nil _ _ _ _
theorem OwnP.alloc {w : World} {B : Nat} {v : Value} {l : List PtP} (h : OwnP w B v l) (o : Obj) : OwnP (w.alloc o) B v l := World.ownsRow.alloc h o
theorem OwnP.below {w w' : World} {B C : Nat} {v : Value} {l : List PtP} (h : OwnP w B v l) (hb : Below C w w') (hC : w.heap.size ≤ C) : OwnP w' B v l := by
  refine ⟨h.1, ?_⟩
  rcases h.2 with h' | ⟨g, cap, cur, h1, h2, h3, h4⟩
  · exact .inl h'
  · refine .inr ⟨g, cap, cur, h1, h2, ?_, h4⟩
    have hg : g < w.heap.size := (Array.getElem?_eq_some_iff.1 h3).1
    rw [hb.block g (by omega)]; exact h3
theorem OwnP.form {w : World} {B : Nat} {v : Value} {l : List PtP} (h : OwnP w B v l) : ∃ a cap, v = .slice a l.length cap ∧ l.length ≤ cap ∧ cap ≤ maxLen := by
  rcases h.2 with ⟨h', h0⟩ | ⟨g, cap, cur, h', _, _, h4, h5, _⟩
  · exact ⟨none, 0, by rw [h', h0], by omega, by decide⟩
  · exact ⟨_, cap, h', h4, h5⟩
theorem OwnP.low {w : World} {B C : Nat} {v : Value} {l : List PtP} (h : OwnP w B v l) (hC : C ≤ B) : OwnP w C v l := by
  refine ⟨h.1, ?_⟩
  rcases h.2 with h' | ⟨g, cap, cur, h1, h2, h3, h4⟩
  · exact .inl h'
  · exact .inr ⟨g, cap, cur, h1, by omega, h3, h4⟩
theorem OwnP.kept {w : World} {B : Nat} {v : Value} {l : List PtP} (h : OwnP w B v l) (p : Addr) (hp : p.block < B) (u : Value) : OwnP (w.setCell p u) B v l := ownsRow_setCell_below h hp u
/-- AN APPEND OF ONE PART THAT WAS LAID JUST AHEAD. -/
theorem wpList_appP {w : World} {ops : Array Oper} {rest : List Oper} {o : Oper} {a : Act} {Q : Exit → Act → World → Prop} (hgd : o.guard = none) (s x : Operand)
    (ho : o.op = .call { callee := .builtin .append, args := #[s, x], argTypes := #[30, 30] })
    (B : Nat) (v : Value) (l : List PtP) (hs : a.eval s = v) (hown : OwnP w B v l) (ad : Addr) (y : PtP) (hx : a.eval x = .slice (some ad) 1 1)
    (hnew : ∀ j u, (pcl y)[j]? = some u → w.cell? (ad.add j) = some u) (hsz : l.length + 1 ≤ 1048576) (hB : B ≤ w.heap.size)
    (h : ∀ v' w1, OwnP w1 B v' (l ++ [y]) → Below B w w1 → wpList Tryd.prog ops Q rest (a.put o.dst v') w1) : wpList Tryd.prog ops Q (o :: rest) a w := by
  obtain ⟨i0, hi, hz0, hz1, hz2⟩ := info_parts infoP
  refine wpList_append_own w hgd s x 30 ho B 35 i0 zeroP 7 56 Tryd.underlying30 hi hz0 hz1 hz2 rfl (by decide) v l.length (pc l) hs hown ad 1 1 (pc [y]) hx (by rw [pc_len]; rfl) ?_ (pc_one [y]) (by unfold maxLen; omega) (by omega) hB ?_
  · intro j u hj
    have e : pc [y] = pcl y := by simp [pc]
    rw [e] at hj
    exact hnew j u hj
  · intro v' w1 hown' hgr _
    refine h v' w1 ?_ ((Below.refl _ _).grown hgr hB (fun k hk => (hown.lt k hk).1))
    unfold OwnP
    rw [pc_app, List.length_append]
    exact hown'
theorem new_oneP {wr : World} {s : Nat} (e : wr.heap.size = s) (y : PtP) : ∀ j u, (pcl y)[j]? = some u → (wr.alloc (.cells #[.int .i64 y.1.1, .int .i64 y.1.2.1, .int .i64 y.1.2.2, .int .i64 y.2.1.1, .int .i64 y.2.1.2, .int .i64 y.2.2.1, .int .i64 y.2.2.2] 35)).cell? ((⟨s, 0, none⟩ : Addr).add j) = some u := by
  subst e
  intro j u hj
  have e : (⟨wr.heap.size, 0, none⟩ : Addr).add j = ⟨wr.heap.size, j, none⟩ := by rw [Go.WideShapes.add_plain, Nat.zero_add]
  rw [e, World.cell?_alloc_mark, ← Array.getElem?_toList]
  exact hj
end Go.Proofs.YtkjnhcnbbojajaaDoor
