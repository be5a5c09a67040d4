/- Words on memory, with no program in them: where a slice of fields (two texts each) is read, what a row of the call's own holds · A slice of fields of the call's own, and what an append to it leaves: laws for this program's types · What a face sees, or the code of what it cannot see: the deferred catch, and see over bytes and over numbers · An answer with bytes of the call's own · Each helper of the laws over slices of bytes does what its text says: it copies one, and holds two against each other; slices of at most 1048576 bytes · The inner functions of chapter 6 that see a code, or a copy · A slice of fields that came in: what the row tells of it gives its cells; no program in it. -/
import Derived.Test.YtkjnhcnbbojajaaDoorMemToMrk0
import Derived.OpenShut
import Derived.Defers
import Derived.Recover
import Derived.Laws.Pointers
import Derived.Handy
import Derived.Laws.CopyOwn
import Derived.ChangeArms
import Derived.DataReads
namespace Go.Proofs.YtkjnhcnbbojajaaDoor
open Go.RowKit

/-- A field: its name and its value. -/
abbrev FldP := ByteArray × ByteArray
def nthF (l : List FldP) (i : Nat) : FldP := l.getD i (ByteArray.empty, ByteArray.empty)
/-- Fields as cells. -/
def fc (l : List FldP) : List Value := l.flatMap fun p => [Value.string p.1, Value.string p.2]
theorem nthF_get {l : List FldP} {i : Nat} (h : i < l.length) : nthF l i = l[i] := by
  unfold nthF; rw [List.getD_eq_getElem?_getD, List.getElem?_eq_getElem h]; rfl
theorem fc_nil : fc [] = [] := rfl
theorem fc_cons (p : FldP) (l : List FldP) : fc (p :: l) = .string p.1 :: .string p.2 :: fc l := rfl
theorem fc_len : ∀ l : List FldP, (fc l).length = l.length * 2
  | [] => rfl
  | p :: l => by rw [fc_cons, List.length_cons, List.length_cons, fc_len l, List.length_cons]; omega
theorem fc_app (a b : List FldP) : fc (a ++ b) = fc a ++ fc b := by simp [fc]
theorem fc_one (l : List FldP) : ∀ u ∈ fc l, u.oneCell' = true := by
  intro u hu
  simp only [fc, List.mem_flatMap, List.mem_cons, List.not_mem_nil, or_false] at hu
  obtain ⟨p, _, rfl | rfl⟩ := hu <;> rfl
theorem fc_get : ∀ (l : List FldP) (i : Nat), i < l.length → (fc l)[i * 2]? = some (.string (nthF l i).1) ∧ (fc l)[i * 2 + 1]? = some (.string (nthF l i).2)
  | [], _, h => by simp at h
  | p :: l, 0, _ => ⟨rfl, rfl⟩
  | p :: l, i + 1, h => by
    have := fc_get l i (by simpa using h)
    rw [fc_cons, show (i + 1) * 2 = i * 2 + 2 by omega]
    exact this
theorem take_snocF (l : List FldP) (k : Nat) (h : k < l.length) : l.take (k + 1) = l.take k ++ [nthF l k] := by
  rw [List.take_succ_eq_append_getElem h, nthF_get h]
theorem drop_consF (l : List FldP) (k : Nat) (h : k < l.length) : l.drop k = nthF l k :: l.drop (k + 1) := by
  rw [nthF_get h]; exact List.drop_eq_getElem_cons h

/-- WHERE A SLICE OF FIELDS IS READ. -/
def RdF (w : World) (a : Option Addr) (l : List FldP) : Prop :=
  l = [] ∨ ∃ b off, a = some ⟨b, off, none⟩ ∧ b < w.heap.size ∧ ∀ i, i < l.length → w.cell? ⟨b, off + i * 2, none⟩ = some (.string (nthF l i).1) ∧ w.cell? ⟨b, off + i * 2 + 1, none⟩ = some (.string (nthF l i).2)
theorem RdF.below {w w' : World} {a : Option Addr} {l : List FldP} (h : RdF w a l) (hb : Below w.heap.size w w') : RdF w' a l := by
  rcases h with h | ⟨b, off, e, hlt, hc⟩
  · exact .inl h
  · exact .inr ⟨b, off, e, Nat.lt_of_lt_of_le hlt hb.size, fun i hi => ⟨(hb.cell (p := ⟨b, off + i * 2, none⟩) hlt).trans (hc i hi).1, (hb.cell (p := ⟨b, off + i * 2 + 1, none⟩) hlt).trans (hc i hi).2⟩⟩
theorem RdF.at_ {w : World} {a : Option Addr} {l : List FldP} (h : RdF w a l) (hp : 0 < l.length) :
    ∃ b off, a = some ⟨b, off, none⟩ ∧ b < w.heap.size ∧ ∀ i, i < l.length → w.cell? ⟨b, off + i * 2, none⟩ = some (.string (nthF l i).1) ∧ w.cell? ⟨b, off + i * 2 + 1, none⟩ = some (.string (nthF l i).2) := by
  rcases h with h | h
  · rw [h] at hp; simp at hp
  · exact h
theorem RdF.own {w : World} {base e n cap : Nat} {a : Option Addr} {l : List FldP} (h : w.ownsRow base e 2 (.slice a n cap) n (fc l)) : RdF w a l := by
  have hl : l.length = n := by have := h.1; rw [fc_len] at this; omega
  rcases h.2 with ⟨_, h0⟩ | ⟨g, cap', cur, h', _, hg, _, _, _, htake⟩
  · left; exact List.length_eq_zero_iff.1 (by omega)
  · simp only [Value.slice.injEq] at h'
    obtain ⟨rfl, _, rfl⟩ := h'
    right
    refine ⟨g, 0, rfl, ?_, fun i hi => ?_⟩
    · rcases Nat.lt_or_ge g w.heap.size with hlt | hge
      · exact hlt
      · simp [Array.getElem?_eq_none hge] at hg
    · have hf := fc_get l i hi
      refine ⟨?_, ?_⟩
      · rw [cell_of_row w g (0 + i * 2) cur e (0, 0) hg, ← hf.1, ← htake, List.getElem?_take, if_pos (by omega)]
        simp
      · rw [cell_of_row w g (0 + i * 2 + 1) cur e (0, 0) hg, ← hf.2, ← htake, List.getElem?_take, if_pos (by omega)]
        simp

/-- What the making of a row of n fields lays. -/
theorem made_fields (n : Nat) : (madeCells #[Value.string ByteArray.empty, Value.string ByteArray.empty] (n * 2)).toList = fc (List.replicate n (ByteArray.empty, ByteArray.empty)) := by
  apply List.ext_getElem?
  intro j
  by_cases hj : j < n * 2
  · have h1 : (madeCells #[Value.string ByteArray.empty, Value.string ByteArray.empty] (n * 2)).toList[j]? = some (.string ByteArray.empty) := by
      have hm : j % 2 = 0 ∨ j % 2 = 1 := by omega
      rcases hm with hm | hm <;> simp [madeCells, hj, hm]
    have hi : j / 2 < (List.replicate n ((ByteArray.empty, ByteArray.empty) : FldP)).length := by rw [List.length_replicate]; omega
    have hf := fc_get (List.replicate n (ByteArray.empty, ByteArray.empty)) (j / 2) hi
    rw [nthF_get hi, List.getElem_replicate] at hf
    rw [h1]
    have hm : j = j / 2 * 2 ∨ j = j / 2 * 2 + 1 := by omega
    rcases hm with hm | hm
    · rw [hm]; exact hf.1.symm
    · rw [hm]; exact hf.2.symm
  · rw [List.getElem?_eq_none (by simp [madeCells]; omega), List.getElem?_eq_none (by rw [fc_len, List.length_replicate]; omega)]

/-- A copy in the making. -/
def halfF (l : List FldP) (k : Nat) : List FldP := l.take k ++ List.replicate (l.length - k) (ByteArray.empty, ByteArray.empty)
theorem halfF_zero (l : List FldP) : halfF l 0 = List.replicate l.length (ByteArray.empty, ByteArray.empty) := by simp [halfF]
theorem halfF_all (l : List FldP) : halfF l l.length = l := by simp [halfF]
theorem halfF_len (l : List FldP) (k : Nat) (h : k ≤ l.length) : (halfF l k).length = l.length := by simp [halfF]; omega
theorem fc_set : ∀ (l : List FldP) (k : Nat) (p : FldP), k < l.length → ((fc l).set (k * 2) (.string p.1)).set (k * 2 + 1) (.string p.2) = fc (l.set k p)
  | [], _, _, h => by simp at h
  | q :: l, 0, p, _ => rfl
  | q :: l, k + 1, p, h => by
    have := fc_set l k p (by simpa using h)
    rw [fc_cons, show (k + 1) * 2 = k * 2 + 1 + 1 by omega, List.set_cons_succ, List.set_cons_succ, List.set_cons_succ, List.set_cons_succ, this, List.set_cons_succ, fc_cons]
theorem halfF_set (l : List FldP) (k : Nat) (h : k < l.length) : (halfF l k).set k (nthF l k) = halfF l (k + 1) := by
  have e : l.length - k = (l.length - (k + 1)) + 1 := by omega
  unfold halfF
  have hk : (l.take k).length = k := by simp; omega
  rw [take_snocF l k h, List.set_append, hk, if_neg (Nat.lt_irrefl k), e, List.replicate_succ, Nat.sub_self]
  simp
end Go.Proofs.YtkjnhcnbbojajaaDoor

namespace Go.Proofs.YtkjnhcnbbojajaaDoor
open Go.RowKit

/-- A field as a value. -/
def fv (p : FldP) : Value := .agg #[.string p.1, .string p.2]
def zeroF : Value := .agg #[.string ⟨#[]⟩, .string ⟨#[]⟩]
theorem infoF : (Tryd.prog.info? 129).map (fun i => (i.zero, i.size, i.bytes)) = some (some zeroF, 2, 32) := by kernel_rfl

/-- THE SLICE v IS THE CALL's OWN AND HOLDS THE FIELDS l. -/
def OwnF (w : World) (B : Nat) (v : Value) (l : List FldP) : Prop := w.ownsRow B 129 2 v l.length (fc l)
theorem OwnF.nil (w : World) (B : Nat) : OwnF w B (.slice none 0 0) [] := World.ownsRow_nil _ _ _ _
theorem OwnF.alloc {w : World} {B : Nat} {v : Value} {l : List FldP} (h : OwnF w B v l) (o : Obj) : OwnF (w.alloc o) B v l := World.ownsRow.alloc h o
theorem OwnF.below {w w' : World} {B C : Nat} {v : Value} {l : List FldP} (h : OwnF w B v l) (hb : Below C w w') (hC : w.heap.size ≤ C) : OwnF w' B v l := by
  refine ⟨h.1, ?_⟩
  rcases h.2 with h' | ⟨g, cap, cur, h1, h2, h3, h4⟩
  · exact .inl h'
  · refine .inr ⟨g, cap, cur, h1, h2, ?_, h4⟩
    have hg : g < w.heap.size := by
      rcases Nat.lt_or_ge g w.heap.size with hlt | hge
      · exact hlt
      · simp [Array.getElem?_eq_none hge] at h3
    rw [hb.block g (by omega)]; exact h3
theorem OwnF.form {w : World} {B : Nat} {v : Value} {l : List FldP} (h : OwnF w B v l) : ∃ a cap, v = .slice a l.length cap ∧ l.length ≤ cap ∧ cap ≤ maxLen := by
  rcases h.2 with ⟨h', h0⟩ | ⟨g, cap, cur, h', _, _, h4, h5, _⟩
  · exact ⟨none, 0, by rw [h', h0], by omega, by decide⟩
  · exact ⟨_, cap, h', h4, h5⟩
theorem OwnF.rd {w : World} {B n cap : Nat} {a : Option Addr} {l : List FldP} (h : OwnF w B (.slice a n cap) l) : l.length = n ∧ RdF w a l := by
  have hf : l.length = n := by
    obtain ⟨a', c', e, _⟩ := h.form
    simp at e; omega
  subst hf
  exact ⟨rfl, RdF.own h⟩
theorem OwnF.low {w : World} {B C : Nat} {v : Value} {l : List FldP} (h : OwnF w B v l) (hC : C ≤ B) : OwnF w C v l := by
  refine ⟨h.1, ?_⟩
  rcases h.2 with h' | ⟨g, cap, cur, h1, h2, h3⟩
  · exact .inl h'
  · exact .inr ⟨g, cap, cur, h1, Nat.le_trans hC h2, h3⟩
theorem OwnF.kept {w : World} {B : Nat} {v : Value} {l : List FldP} (h : OwnF w B v l) (p : Addr) (hp : p.block < B) (u : Value) : OwnF (w.setCell p u) B v l := ownsRow_setCell_below h hp u
theorem OwnF.far {w w' : World} {B : Nat} {v : Value} {l : List FldP} {row : Option Nat} (h : OwnF w B v l) (hg : w.grownBy w' row) (hne : ∀ b, v.ownBlock = some b → some b ≠ row) : OwnF w' B v l := by
  refine ⟨h.1, ?_⟩
  rcases h.2 with h' | ⟨g, cap, cur, h1, h2, h3, h4⟩
  · exact .inl h'
  · refine .inr ⟨g, cap, cur, h1, h2, ?_, h4⟩
    have hlt : g < w.heap.size := by
      rcases Nat.lt_or_ge g w.heap.size with hlt | hge
      · exact hlt
      · simp [Array.getElem?_eq_none hge] at h3
    rw [hg.block g hlt (hne g (by rw [h1]; rfl))]; exact h3

/-- AN APPEND: what stands at the second slice's address is there behind what was. -/
theorem wpList_appF {w : World} {ops : Array Oper} {rest : List Oper} {o : Oper} {a : Act} {Q : Exit → Act → World → Prop} (hgd : o.guard = none) (s x : Operand)
    (ho : o.op = .call { callee := .builtin .append, args := #[s, x], argTypes := #[107, 107] })
    (B : Nat) (v : Value) (l : List FldP) (hs : a.eval s = v) (hown : OwnF w B v l) (ad : Addr) (m c : Nat) (new : List FldP) (hx : a.eval x = .slice (some ad) m c) (hm : new.length = m)
    (hnew : ∀ j, j < m → w.cell? (ad.add (j * 2)) = some (.string (nthF new j).1) ∧ w.cell? (ad.add (j * 2 + 1)) = some (.string (nthF new j).2)) (hsz : l.length + m ≤ 1048576) (hB : B ≤ w.heap.size)
    (h : ∀ v' w1, OwnF w1 B v' (l ++ new) → Below B w w1 → wpList Tryd.prog ops Q rest (a.put o.dst v') w1) : wpList Tryd.prog ops Q (o :: rest) a w := by
  obtain ⟨i0, hi, hz0, hz1, hz2⟩ := info_parts infoF
  refine wpList_append_own w hgd s x 107 ho B 129 i0 zeroF 2 32 Tryd.underlying107 hi hz0 hz1 hz2 rfl (by decide) v l.length (fc l) hs hown ad m c (fc new) hx (by rw [fc_len, hm]) ?_ (fc_one new) (by unfold maxLen; omega) (by omega) hB ?_
  · intro j u hj
    have hjl : j < new.length * 2 := by
      rcases Nat.lt_or_ge j (new.length * 2) with hlt | hge
      · exact hlt
      · rw [List.getElem?_eq_none (by rw [fc_len]; exact hge)] at hj; cases hj
    have hf := fc_get new (j / 2) (by omega)
    have hn := hnew (j / 2) (by omega)
    have hjj : j = j / 2 * 2 ∨ j = j / 2 * 2 + 1 := by omega
    rcases hjj with e | e
    · rw [e, hf.1] at hj
      rw [e, hn.1]; exact hj
    · rw [e, hf.2] at hj
      rw [e, hn.2]; exact hj
  · intro v' w1 hown' hgr _
    refine h v' w1 ?_ ((Below.refl _ _).grown hgr hB (fun k hk => (hown.lt k hk).1))
    unfold OwnF
    rw [fc_app, List.length_append, hm]
    exact hown'
/-- AN APPEND AT A STEP OF A REGION THAT DRAWS ITS ORDER. -/
theorem step_appF {w : World} {ops : Array Oper} {o : Oper} {a : Act} {K : Act → World → Prop} {Q : Exit → Act → World → Prop} {E : Prop} (hgd : o.guard = none) (s x : Operand)
    (ho : o.op = .call { callee := .builtin .append, args := #[s, x], argTypes := #[107, 107] })
    (B : Nat) (v : Value) (l : List FldP) (hs : a.eval s = v) (hown : OwnF w B v l) (ad : Addr) (m c : Nat) (new : List FldP) (hx : a.eval x = .slice (some ad) m c) (hm : new.length = m)
    (hnew : ∀ j, j < m → w.cell? (ad.add (j * 2)) = some (.string (nthF new j).1) ∧ w.cell? (ad.add (j * 2 + 1)) = some (.string (nthF new j).2)) (hsz : l.length + m ≤ 1048576) (hB : B ≤ w.heap.size)
    (h : ∀ v' w1, OwnF w1 B v' (l ++ new) → Below B w w1 → w.grownBy w1 v.ownBlock → K (a.put o.dst v') w1) : if Region.wanted o (yielded ops a.tmps) = true then Oper.wp Tryd.prog o a w K Q else E := by
  have hw : Region.wanted o (yielded ops a.tmps) = true := by simp [Region.wanted, hgd]
  rw [if_pos hw]
  obtain ⟨i0, hi, hz0, hz1, hz2⟩ := info_parts infoF
  refine wp_append_own w s x 107 ho B 129 i0 zeroF 2 32 Tryd.underlying107 hi hz0 hz1 hz2 rfl (by decide) v l.length (fc l) hs hown ad m c (fc new) hx (by rw [fc_len, hm]) ?_ (fc_one new) (by unfold maxLen; omega) (by omega) hB ?_
  · intro j u hj
    have hjl : j < new.length * 2 := by
      rcases Nat.lt_or_ge j (new.length * 2) with hlt | hge
      · exact hlt
      · rw [List.getElem?_eq_none (by rw [fc_len]; exact hge)] at hj; cases hj
    have hf := fc_get new (j / 2) (by omega)
    have hn := hnew (j / 2) (by omega)
    have hjj : j = j / 2 * 2 ∨ j = j / 2 * 2 + 1 := by omega
    rcases hjj with e | e
    · rw [e, hf.1] at hj
      rw [e, hn.1]; exact hj
    · rw [e, hf.2] at hj
      rw [e, hn.2]; exact hj
  · intro v' w1 hown' hgr _
    refine h v' w1 ?_ ((Below.refl _ _).grown hgr hB (fun k hk => (hown.lt k hk).1)) hgr
    unfold OwnF
    rw [fc_app, List.length_append, hm]
    exact hown'
end Go.Proofs.YtkjnhcnbbojajaaDoor

namespace Go.Proofs.YtkjnhcnbbojajaaDoor
open Go.RowKit

theorem row_low {w : World} {B C e size n : Nat} {v : Value} {xs : List Value} (h : w.ownsRow B e size v n xs) (hC : C ≤ B) : w.ownsRow C e size v n xs := by
  refine ⟨h.1, ?_⟩
  rcases h.2 with h' | ⟨g, cap, cur, h1, h2, h3, h4⟩
  · exact .inl h'
  · exact .inr ⟨g, cap, cur, h1, by omega, h3, h4⟩

end Go.Proofs.YtkjnhcnbbojajaaDoor

namespace Go.Proofs.YtkjnhcnbbojajaaDoor
open Go.RowKit

theorem Own.lower {w : World} {B C : Nat} {v : Value} {l : List Nat} (h : Own w B v l) (hC : C ≤ B) : Own w C v l := by
  refine ⟨h.1, ?_⟩
  rcases h.2 with h' | ⟨g, cap, cur, h1, h2, h3⟩
  · exact .inl h'
  · exact .inr ⟨g, cap, cur, h1, Nat.le_trans hC h2, h3⟩
theorem Own.kept {w : World} {B : Nat} {v : Value} {l : List Nat} (h : Own w B v l) (p : Addr) (hp : p.block < B) (u : Value) : Own (w.setCell p u) B v l := ownsRow_setCell_below h hp u

/-- An answer with bytes. -/
def BytEnd (r : Int × List Nat) (w : World) (e : Ending) (w' : World) : Prop := ∃ v, e = .returned (.agg #[.int .i64 r.1, v]) ∧ Own w' w.heap.size v r.2 ∧ Below w.heap.size w w'
theorem BytEnd.code {c : Int} {w w1 : World} (hbel : Below w.heap.size w w1) (x y : Value) : BytEnd (c, []) w (.returned (.agg #[.int .i64 c, .slice none 0 0])) ((w1.setCell ⟨w.heap.size, 0, none⟩ x).setCell ⟨w.heap.size, 1, none⟩ y) :=
  ⟨_, rfl, Own.nil _ _, (hbel.setCell (by simp) _).setCell (by simp) _⟩
theorem BytEnd.some {c : Int} {w w1 : World} {v : Value} {l : List Nat} (hbel : Below w.heap.size w w1) (hown : Own w1 (w.heap.size + 1) v l) (x y : Value) : BytEnd (c, l) w (.returned (.agg #[.int .i64 c, v])) ((w1.setCell ⟨w.heap.size, 0, none⟩ x).setCell ⟨w.heap.size, 1, none⟩ y) :=
  ⟨_, rfl, ((hown.kept _ (by simp) _).kept _ (by simp) _).lower (by omega), (hbel.setCell (by simp) _).setCell (by simp) _⟩
end Go.Proofs.YtkjnhcnbbojajaaDoor

namespace Go.Proofs.YtkjnhcnbbojajaaDoor
open Go.RowKit

set_option maxHeartbeats 800000 in
set_option maxRecDepth 100000 in
theorem toByteS_any (a : Option Addr) (n cap : Nat) (l : List Nat) (w : World) (hl : l.length = n) (hr : Rd w a l) (hn : n ≤ 1048576) :
    Calls Tryd.prog 15 #[.slice a n cap] w fun e w' =>
      e = .returned (.slice (some ⟨w.heap.size, 0, none⟩) n n) ∧ w'.ownsRow w.heap.size 5 1 (.slice (some ⟨w.heap.size, 0, none⟩) n n) n (bc l) ∧ Below w.heap.size w w' := by
  obtain ⟨i0, hi, hz0, hz1, hz2⟩ := info_parts infoB
  go_enter Tryd.func15, Tryd.ntmps15
  go_wp2_with (at_make; refine wpList_make_full _ rfl _ _ 22 rfl w.heap.size 5 i0 (.int .u8 0) 1 Tryd.underlying22 hi hz0 hz1 .i64 .i64 _ _ n rfl rfl rfl rfl (by rw [hz2]; omega) (by unfold maxLen; omega) (Nat.le_refl _) ?_; intro w0 hown0 hgrow0)
  rw [made_bytes, ← hl, ← half_zero l, hl] at hown0
  have hbel0 : Below w.heap.size w w0 := (Below.refl _ _).grown hgrow0 (Nat.le_refl _) (by intro k hk; cases hk)
  clear hgrow0
  go_loopw [4] (fun i wr => ∃ k : Nat, k ≤ n ∧ i = .int .i64 k ∧ wr.ownsRow w.heap.size 5 1 (.slice (some ⟨w.heap.size, 0, none⟩) n n) n (bc (half l k)) ∧ Below w.heap.size w wr)
    (fun i _ => n - (intOf i).toNat)
  case atStart => exact ⟨0, Nat.zero_le _, rfl, hown0, hbel0⟩
  case round =>
    obtain ⟨k, hk, rfl, hown, hbel⟩ := hrel
    clear hown0 hbel0
    by_cases hkn : k < n
    · obtain ⟨b, off, rfl, hblt, hcell⟩ := hr.at_ (by omega)
      have hc : wr.cell? ⟨b, off + k, none⟩ = some (.int .u8 (nth l k : Int)) := (hbel.cell (p := ⟨b, off + k, none⟩) hblt).trans (hcell k (by omega))
      have hk' : k < (half l k).length := by rw [half_len l k (by omega)]; omega
      have hg : wr.cell? ⟨w.heap.size, k, none⟩ = some (.int .u8 (nth (half l k) k : Int)) := by rw [hown.cellAt k (by omega)]; exact bc_get hk'
      have hf := hown.frozenAt k
      obtain ⟨hst, hgr⟩ := hown.stored k (.int .u8 (nth l k : Int))
      rw [half_set l k (by omega)] at hst
      have hbel' : Below w.heap.size w (wr.setCell ⟨w.heap.size, k, none⟩ (.int .u8 (nth l k : Int))) := hbel.grown hgr hbel.size (by intro j hj; simp at hj; omega)
      clear hgr hcell hown
      go_wp2
      go_roundw
      case rel => exact ⟨k + 1, by omega, by go_num, hst, hbel'⟩
      case measure => simp [intOf]; omega
    · have hkk : k = n := by omega
      subst hkk
      rw [← hl, half_all, hl] at hown
      go_wp2
      go_ret
      exact ⟨rfl, hown, hbel⟩

theorem toByteS_ex (a : Option Addr) (n cap : Nat) (l : List Nat) (w : World) (hl : l.length = n) (hr : Rd w a l) (hn : n ≤ 1048576) :
    Calls Tryd.prog 15 #[.slice a n cap] w fun e w' => ∃ g, e = .returned (.slice (some ⟨g, 0, none⟩) n n) ∧ Rd w' (some ⟨g, 0, none⟩) l ∧ Below w.heap.size w w' :=
  (toByteS_any a n cap l w hl hr hn).mono fun _ _ ⟨he, ho, hb⟩ => ⟨_, he, Rd.own ho, hb⟩

set_option maxHeartbeats 800000 in
set_option maxRecDepth 100000 in
theorem eqByteS_same (a c : Option Addr) (n cap cap' : Nat) (l : List Nat) (w : World) (hl : l.length = n) (hr : Rd w a l) (hs : Rd w c l) (hn : n ≤ 1048576) :
    Calls Tryd.prog 17 #[.slice a n cap, .slice c n cap'] w fun e w' => e = .returned (.bool true) ∧ Below w.heap.size w w' := by
  go_enter Tryd.func17, Tryd.ntmps17
  go_wp2
  go_loopw [5] (fun i wr => ∃ k : Nat, k ≤ n ∧ i = .int .i64 k ∧ Below w.heap.size w wr) (fun i _ => n - (intOf i).toNat)
  case atStart => exact ⟨0, Nat.zero_le _, rfl, Below.refl _ _⟩
  case round =>
    obtain ⟨k, hk, rfl, hbel⟩ := hrel
    by_cases hkn : k < n
    · obtain ⟨b, off, rfl, hblt, hcell⟩ := hr.at_ (by omega)
      obtain ⟨d, off', rfl, hdlt, hdell⟩ := hs.at_ (by omega)
      have hc : wr.cell? ⟨b, off + k, none⟩ = some (.int .u8 (nth l k : Int)) := (hbel.cell (p := ⟨b, off + k, none⟩) hblt).trans (hcell k (by omega))
      have hd : wr.cell? ⟨d, off' + k, none⟩ = some (.int .u8 (nth l k : Int)) := (hbel.cell (p := ⟨d, off' + k, none⟩) hdlt).trans (hdell k (by omega))
      have hki : (k : Int) < (n : Int) := by omega
      clear hcell hdell hr hs
      go_wp2
      go_quiet (fail)
      go_wp2
      go_roundw
      case rel => exact ⟨k + 1, by omega, by go_num, below_drewN hbel _⟩
      case measure => simp [intOf]; omega
    · go_wp2
      go_ret
      exact ⟨rfl, hbel⟩
end Go.Proofs.YtkjnhcnbbojajaaDoor

namespace Go.Proofs.YtkjnhcnbbojajaaDoor
open Go.RowKit

theorem row_of {w : World} {B e g n : Nat} {xs : List Value} (h : w.ownsRow B e 1 (.slice (some ⟨g, 0, none⟩) n n) n xs) : ∃ cur : List Value, w.heap[g]? = some (.cells cur.toArray e (0, 0)) ∧ cur.length = n := by
  rcases h.2 with ⟨h', _⟩ | ⟨g', cap, cur, h1, _, h3, _, _, h6, _⟩
  · cases h'
  · injection h1 with h1 _ h2
    injection h1 with h1
    injection h1 with h1
    subst h1 h2
    exact ⟨cur.toList, by simpa using h3, by simpa using h6⟩

end Go.Proofs.YtkjnhcnbbojajaaDoor

namespace Go.Proofs.YtkjnhcnbbojajaaDoor
open Go.RowKit

/-- A slice of fields, as it came in. -/
def IsFlds (w : World) (a : Option Addr) (len cap : Nat) (l : List FldP) : Prop := l.length = len ∧ len ≤ cap ∧ cap ≤ maxLen ∧ RdF w a l ∧ ∀ p ∈ l, p.1.size ≤ maxLen ∧ p.2.size ≤ maxLen

theorem add_zero (a : Addr) : a.add 0 = a := by cases a; simp [Addr.add]
theorem add_add (a : Addr) (i j : Nat) : (a.add i).add j = a.add (i + j) := by
  unfold Addr.add
  by_cases hi : i = 0 <;> by_cases hj : j = 0 <;> simp [hi, hj, Nat.add_assoc]
theorem open_flds {H : Type} {enc : TypeId × Value → H} {P : Program} {w : World} {base : Nat} {sp : Nat → Bool} {held : Bool} {fuel : Nat} {t e s : TypeId} {f0 f1 : Field} {a0 : Option Addr} {len0 cap0 : Nat} {x : DataW H × List MemPlace}
    (ht : P.underlying t = some (.slice e)) (he : P.underlying e = some (.struct #[f0, f1])) (hs : P.underlying s = some .string) (h0 : f0.type = s) (h1 : f1.type = s) (o0 : f0.offset = 0) (o1 : f1.offset = 1) (cs1 : P.cellsOf s = 1) (ce : P.cellsOf e = 2)
    (h : DataW.trod enc P w base sp held fuel t [.slice a0 len0 cap0] = some x) : ∃ l, IsFlds w a0 len0 cap0 l := by
  rcases DataW.trod_slice ht h with ⟨hcs, _⟩ | ⟨a, len, cap, elems, rest, n, _, hcs, _, _, hl, hm, hlen, hel, _, _⟩
  · simp at hcs
    obtain ⟨rfl, rfl, rfl⟩ := hcs
    exact ⟨[], rfl, by omega, by decide, .inl rfl, fun p hp => by simp at hp⟩
  · simp at hcs
    obtain ⟨rfl, rfl, rfl⟩ := hcs
    have each : ∀ i, i < len0 → ∃ p : FldP, (w.cell? (a.add (i * 2)) = some (.string p.1) ∧ w.cell? (a.add (i * 2 + 1)) = some (.string p.2)) ∧ p.1.size ≤ maxLen ∧ p.2.size ≤ maxLen := by
      intro i hi
      have hb := hel i hi
      rw [List.getElem?_eq_getElem (by omega), Option.bind_eq_some_iff] at hb
      obtain ⟨cs', hc, hy⟩ := hb
      rw [ce] at hc
      obtain ⟨xs, n', _, _, hcl, _, hfs⟩ := DataW.trod_struct he hy
      obtain ⟨-, hcl2, hcell⟩ := World.cells?_some hc
      have hxl : xs.length = 2 := by assumption
      have g0 := hfs 0 f0 rfl
      have g1 := hfs 1 f1 rfl
      rw [h0, o0, cs1, List.getElem?_eq_getElem (by omega)] at g0
      rw [h1, o1, cs1, List.getElem?_eq_getElem (by omega)] at g1
      obtain ⟨s0, e0, _, z0⟩ := DataW.trod_string hs g0
      obtain ⟨s1, e1, _, z1⟩ := DataW.trod_string hs g1
      have c0 : cs'[0]? = some (.string s0) := by
        have := congrArg (·[0]?) e0
        simpa using this
      have c1 : cs'[1]? = some (.string s1) := by
        have := congrArg (·[0]?) e1
        simpa [List.getElem?_drop] using this
      refine ⟨(s0, s1), ⟨?_, ?_⟩, z0, z1⟩
      · have := hcell 0 (by omega)
        rw [c0, add_zero] at this
        exact this
      · have := hcell 1 (by omega)
        rw [c1, add_add] at this
        exact this
    have hsz : ∀ i (h : i < len0), _ := fun i h => Classical.choose_spec (each i h)
    refine ⟨(List.range len0).map fun i => if h : i < len0 then Classical.choose (each i h) else (ByteArray.empty, ByteArray.empty), by simp, hl, hm, ?_, ?_⟩
    · by_cases hz : len0 = 0
      · left; subst hz; rfl
      · right
        obtain ⟨b, off, spot⟩ := a
        have hspot : spot = none := by
          have := World.cell?_spot (hsz 0 (by omega)).1.1
          simpa [Addr.add] using this
        subst hspot
        refine ⟨b, off, rfl, World.block_lt_of_cell? w _ (hsz 0 (by omega)).1.1, fun i hi => ?_⟩
        have hi' : i < len0 := by simpa using hi
        have hn : nthF ((List.range len0).map fun i => if h : i < len0 then Classical.choose (each i h) else (ByteArray.empty, ByteArray.empty)) i = Classical.choose (each i hi') := by
          rw [nthF_get hi]; simp [hi']
        rw [hn]
        have := (hsz i hi').1
        generalize Classical.choose (each i hi') = q at this ⊢
        rw [Go.WideShapes.add_plain, Go.WideShapes.add_plain] at this
        exact this
    · intro p hp
      simp only [List.mem_map, List.mem_range] at hp
      obtain ⟨i, hi, rfl⟩ := hp
      rw [dif_pos hi]
      exact (hsz i hi).2
end Go.Proofs.YtkjnhcnbbojajaaDoor
