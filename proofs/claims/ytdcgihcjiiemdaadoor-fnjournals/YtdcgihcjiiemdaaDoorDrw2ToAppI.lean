/- More of the model's draws: a source, a chance, a pick, some bytes; each ends within small bounds and turns nothing but its source · Bytes that the model draws: at most 401 of them, in memory of the draw's own; nothing that was there is turned; sources of at most 1048576 bytes · Words on memory, with no program in them: where a slice of whole numbers is read, what a row of the call's own holds; no conditions beyond those that each fact names · Each helper of the laws over slices of whole numbers does what its text says: it copies one, and holds two against each other; slices of at most 1048576 numbers · What an append of numbers to a slice of the call's own leaves: laws for this program's types; at most 1073741824 numbers. -/
import Derived.Test.YtdcgihcjiiemdaaDoorMrk0ToDrw
import Derived.Test.YtdcgihcjiiemdaaDoorMemToApp
import Derived.Test.YtdcgihcjiiemdaaDoorProg
import Derived.BigQuiet
import Derived.Deep.QuietTactic
import Derived.KernelRfl
namespace Go.Proofs.YtdcgihcjiiemdaaDoor
open Go.RowKit
set_option maxHeartbeats 800000 in
set_option maxRecDepth 100000 in
theorem l1Source_any (a : Option Addr) (n cap : Nat) (l : List Nat) (w : World) (hl : l.length = n) (hr : Rd w a l) (hB : IsB l) (hn : n ≤ 1048576) :
  Calls Tryd.prog 21 #[.slice a n cap] w fun e w' => e = .returned (.pointer (some ⟨w.heap.size, 0, none⟩)) ∧ Src w' w.heap.size w.heap.size 0 ∧ Below w.heap.size w w' := by
 have hb : Below w.heap.size w (w.alloc (.cells #[.slice a n cap, .int .i64 0] 65)) := (Below.refl _ _).alloc (Nat.le_refl _) _
 have hS : Src (w.alloc (.cells #[.slice a n cap, .int .i64 0] 65)) w.heap.size w.heap.size 0 := by
  refine ⟨Nat.le_refl _, by simp, a, n, cap, 0, l, by simp, by simp, by simp, hl, hn, hB, Nat.le_refl _, ?_⟩
  rcases hr with h | ⟨d, off, e, hlt, hc⟩
  ·exact .inl h
  ·exact .inr ⟨d, off, e, hlt, fun i hi => (hb.cell (p := ⟨d, off + i, none⟩) hlt).trans (hc i (by omega))⟩
 have HS : Hid (_) := hS
 clear hS
 go_enter Tryd.func21, Tryd.ntmps21
 go_wp2
 go_ret
 exact ⟨rfl, HS.out, hb⟩
set_option maxHeartbeats 800000 in
set_option maxRecDepth 100000 in
theorem l1Chance_any (B b M : Nat) (k : Int) (w : World) (hs : Src w B b M) (hM : M ≤ 100000) (h0 : 0 ≤ k) (hk : k ≤ 1000) :
  Calls Tryd.prog 39 #[.pointer (some ⟨b, 0, none⟩), .int .i64 k] w fun e w' =>
   ∃ q : Bool, e = .returned (.bool q) ∧ Src w' B b (M + 1) ∧ w.grownBy w' (some b) := by
 go_enter Tryd.func39, Tryd.ntmps39
 go_wp2_with fail
 refine (l1Next_any B b M k _ hs hM h0 hk).mono ?_
 rintro e w1 ⟨r, rfl, _, _, _, h1, h2⟩
 have H1 : Hid (_) := h1
 have H2 : Hid (_) := h2
 clear h1 h2
 by_cases hr : r = 0
 ·have e0 : (r == 0) = true := beq_iff_eq.2 hr
  go_wp2
  go_ret
  exact Exists.intro true ⟨rfl, H1.out, H2.out⟩
 ·have e0 : (r == 0) = false := beq_eq_false_iff_ne.2 hr
  go_wp2
  go_ret
  exact Exists.intro false ⟨rfl, H1.out, H2.out⟩
def Nums (w : World) (g : Nat) (vs : List Int) : Prop := ∀ i, i < vs.length → w.cell? ⟨g, i, none⟩ = some (.int .i64 (vs.getD i 0))
set_option maxHeartbeats 800000 in
set_option maxRecDepth 100000 in
theorem l1Pick_any (B b M g m cap : Nat) (vs : List Int) (w : World) (hs : Src w B b M) (hM : M ≤ 100000) (hm : vs.length = m) (h1 : 1 ≤ m) (h6 : m ≤ 100) (hv : Nums w g vs) (hg : b < g) :
  Calls Tryd.prog 40 #[.pointer (some ⟨b, 0, none⟩), .slice (some ⟨g, 0, none⟩) m cap] w fun e w' =>
   ∃ r : Int, e = .returned (.int .i64 r) ∧ r ∈ vs ∧ Src w' B b (M + 1) ∧ w.grownBy w' (some b) := by
 go_enter Tryd.func40, Tryd.ntmps40
 go_wp2_with fail
 refine (l1Next_any B b M (m : Int) _ hs hM (by omega) (by omega)).mono ?_
 rintro e w1 ⟨r, rfl, r0, r1, _, h1', h2⟩
 obtain ⟨j, rfl⟩ := Int.eq_ofNat_of_zero_le r0
 have hjm : j < m := by have := r1 (by omega); omega
 have hjm' : (j : Int) < (m : Int) := by omega
 have hlt : g < w.heap.size := World.block_lt_of_cell? w _ (hv 0 (by omega))
 have hc : w1.cell? ⟨g, j, none⟩ = some (.int .i64 (vs.getD j 0)) := (h2.cell_far ⟨g, j, none⟩ hlt (by simp; omega)).trans (hv j (by omega))
 have hmem : vs.getD j 0 ∈ vs := by rw [List.getD_eq_getElem?_getD, List.getElem?_eq_getElem (by omega)]; exact List.getElem_mem _
 generalize vs.getD j 0 = x at *
 have H1 : Hid (_) := h1'
 have H2 : Hid (_) := h2
 have H3 : Hid (_) := hmem
 clear h1' h2 hmem hv r1
 go_wp2
 go_ret
 exact ⟨x, rfl, H3.out, H1.out, H2.out⟩
theorem nums_new {w : World} {cs : Array Value} {vs : List Int} {t : TypeId} (h : cs.toList = vs.map (Value.int .i64)) : Nums (w.alloc (.cells cs t)) w.heap.size vs := by
 intro i hi
 rw [World.cell?_alloc_mark, ← Array.getElem?_toList, h]
 simp [hi]
end Go.Proofs.YtdcgihcjiiemdaaDoor
namespace Go.Proofs.YtdcgihcjiiemdaaDoor
open Go.RowKit
theorem lwBig_any (a : Option Addr) (n cap : Nat) (w : World) :
  Calls Tryd.prog 5 #[.slice a n cap] w fun e w' => e = .returned (.bool (decide ((1048576 : Int) < (n : Int)))) ∧ w = w' := by
 go_enter Tryd.func5, Tryd.ntmps5
 go_wp2
 go_ret
 exact ⟨rfl, rfl⟩
set_option maxHeartbeats 800000 in
set_option maxRecDepth 100000 in
theorem lwSame_any (a c : Option Addr) (n cap cap' : Nat) (l : List Nat) (w : World) (hl : l.length = n) (hr : Rd w a l) (hs : Rd w c l) :
  Calls Tryd.prog 9 #[.slice a n cap, .slice c n cap'] w fun e w' => e = .returned (.bool true) ∧ w = w' := by
 have h1 := fun x => run_str (cap := x) hl hr
 have h2 := fun x => run_str (cap := x) hl hs
 go_enter Tryd.func9, Tryd.ntmps9
 go_wp2
 go_ret
 exact ⟨rfl, rfl⟩
end Go.Proofs.YtdcgihcjiiemdaaDoor
namespace Go.Proofs.YtdcgihcjiiemdaaDoor
open Go.RowKit
def nthI (l : List Int) (i : Nat) : Int := l.getD i 0
def ic (l : List Int) : List Value := l.map fun (b : Int) => Value.int .i64 b
theorem nthI_get {l : List Int} {i : Nat} (h : i < l.length) : nthI l i = l[i] := by
 unfold nthI; rw [List.getD_eq_getElem?_getD, List.getElem?_eq_getElem h]; rfl
theorem ic_len (l : List Int) : (ic l).length = l.length := by simp [ic]
theorem ic_one (l : List Int) : ∀ u ∈ ic l, u.oneCell' = true := by
 intro u hu
 simp only [ic, List.mem_map] at hu
 obtain ⟨b, _, rfl⟩ := hu
 rfl
theorem ic_app (a b : List Int) : ic (a ++ b) = ic a ++ ic b := by simp [ic]
theorem ic_get {l : List Int} {i : Nat} (h : i < l.length) : (ic l)[i]? = some (.int .i64 (nthI l i)) := by
 rw [nthI_get h]; simp [ic, h]
theorem nthI_drop (l : List Int) (k i : Nat) : nthI (l.drop k) i = nthI l (k + i) := by
 simp [nthI, List.getD_eq_getElem?_getD, List.getElem?_drop]
theorem take_snocI (l : List Int) (k : Nat) (h : k < l.length) : l.take (k + 1) = l.take k ++ [nthI l k] := by
 rw [List.take_succ_eq_append_getElem h, nthI_get h]
theorem drop_consI (l : List Int) (k : Nat) (h : k < l.length) : l.drop k = nthI l k :: l.drop (k + 1) := by
 rw [nthI_get h]; exact List.drop_eq_getElem_cons h
def RdI (w : World) (a : Option Addr) (l : List Int) : Prop :=
 l = [] ∨ ∃ b off, a = some ⟨b, off, none⟩ ∧ b < w.heap.size ∧ ∀ i, i < l.length → w.cell? ⟨b, off + i, none⟩ = some (.int .i64 (nthI l i))
theorem RdI.below {w w' : World} {a : Option Addr} {l : List Int} (h : RdI w a l) (hb : Below w.heap.size w w') : RdI w' a l := by
 rcases h with h | ⟨b, off, e, hlt, hc⟩
 ·exact .inl h
 ·exact .inr ⟨b, off, e, Nat.lt_of_lt_of_le hlt hb.size, fun i hi => (hb.cell (p := ⟨b, off + i, none⟩) hlt).trans (hc i hi)⟩
theorem RdI.at_ {w : World} {a : Option Addr} {l : List Int} (h : RdI w a l) (hp : 0 < l.length) :
  ∃ b off, a = some ⟨b, off, none⟩ ∧ b < w.heap.size ∧ ∀ i, i < l.length → w.cell? ⟨b, off + i, none⟩ = some (.int .i64 (nthI l i)) := by
 rcases h with h | h
 ·rw [h] at hp; simp at hp
 ·exact h
theorem RdI.drop {w : World} {b off : Nat} {l : List Int} (h : RdI w (some ⟨b, off, none⟩) l) (k : Nat) : RdI w (some ⟨b, off + k, none⟩) (l.drop k) := by
 rcases h with h | ⟨b', off', e, hlt, hc⟩
 ·left; simp [h]
 ·obtain ⟨rfl, rfl⟩ : b = b' ∧ off = off' := by simpa using e
  right
  refine ⟨b, off + k, rfl, hlt, fun i hi => ?_⟩
  rw [List.length_drop] at hi
  rw [nthI_drop, Nat.add_assoc]
  exact hc (k + i) (by omega)
theorem RdI.own {w : World} {base e n cap : Nat} {a : Option Addr} {l : List Int} (h : w.ownsRow base e 1 (.slice a n cap) n (ic l)) : RdI w a l := by
 have hl : l.length = n := by simpa [ic_len] using h.1
 rcases h.2 with ⟨_, h0⟩ | ⟨g, cap', cur, h', _, hg, _, _, _, htake⟩
 ·left; exact List.length_eq_zero_iff.1 (by omega)
 ·simp only [Value.slice.injEq] at h'
  obtain ⟨rfl, _, rfl⟩ := h'
  right
  refine ⟨g, 0, rfl, ?_, fun i hi => ?_⟩
  ·rcases Nat.lt_or_ge g w.heap.size with hlt | hge
   ·exact hlt
   ·simp [Array.getElem?_eq_none hge] at hg
  ·rw [cell_of_row w g (0 + i) cur e (0, 0) hg, ← ic_get hi, ← htake, List.getElem?_take, if_pos (by omega)]
   simp
end Go.Proofs.YtdcgihcjiiemdaaDoor
namespace Go.Proofs.YtdcgihcjiiemdaaDoor
open Go.RowKit
theorem infoBI : (Tryd.prog.info? 2).map (fun i => (i.zero, i.size, i.bytes)) = some (some (.int .i64 0), 1, 8) := by kernel_rfl
end Go.Proofs.YtdcgihcjiiemdaaDoor
namespace Go.Proofs.YtdcgihcjiiemdaaDoor
open Go.RowKit
def OwnI (w : World) (B : Nat) (v : Value) (l : List Int) : Prop := w.ownsRow B 2 1 v l.length (ic l)
theorem OwnI.nil (w : World) (B : Nat) : OwnI w B (.slice none 0 0) [] := World.ownsRow_nil _ _ _ _
theorem OwnI.lit (w : World) (B : Nat) (hB : B ≤ w.heap.size) (cs : Array Value) (l : List Int) (h : cs.toList = ic l) (hl : l.length ≤ maxLen) : OwnI (w.alloc (.cells cs 2)) B (.slice (some ⟨w.heap.size, 0, none⟩) l.length l.length) l := by
 have := World.ownsRow_lit (base := B) (e := 2) (size := 1) w cs l.length hB hl (by rw [← Array.length_toList, h, ic_len]; omega)
 rw [h] at this
 exact this
theorem OwnI.alloc {w : World} {B : Nat} {v : Value} {l : List Int} (h : OwnI w B v l) (o : Obj) : OwnI (w.alloc o) B v l := World.ownsRow.alloc h o
theorem OwnI.drew {w : World} {B : Nat} {v : Value} {l : List Int} (h : OwnI w B v l) : OwnI w.drew B v l := h
theorem OwnI.below {w w' : World} {B C : Nat} {v : Value} {l : List Int} (h : OwnI w B v l) (hb : Below C w w') (hC : w.heap.size ≤ C) : OwnI w' B v l := by
 refine ⟨h.1, ?_⟩
 rcases h.2 with h' | ⟨g, cap, cur, h1, h2, h3, h4⟩
 ·exact .inl h'
 ·refine .inr ⟨g, cap, cur, h1, h2, ?_, h4⟩
  have hg : g < w.heap.size := by
   rcases Nat.lt_or_ge g w.heap.size with hlt | hge
   ·exact hlt
   ·simp [Array.getElem?_eq_none hge] at h3
  rw [hb.block g (by omega)]; exact h3
theorem OwnI.form {w : World} {B : Nat} {v : Value} {l : List Int} (h : OwnI w B v l) : ∃ a cap, v = .slice a l.length cap ∧ l.length ≤ cap ∧ cap ≤ maxLen := by
 rcases h.2 with ⟨h', h0⟩ | ⟨g, cap, cur, h', _, _, h4, h5, _⟩
 ·exact ⟨none, 0, by rw [h', h0], by omega, by decide⟩
 ·exact ⟨_, cap, h', h4, h5⟩
theorem OwnI.rd {w : World} {B n cap : Nat} {a : Option Addr} {l : List Int} (h : OwnI w B (.slice a n cap) l) : l.length = n ∧ RdI w a l := by
 have hf : l.length = n := by
  obtain ⟨a', c', e, _⟩ := h.form
  simp at e; omega
 subst hf
 exact ⟨rfl, RdI.own h⟩
theorem wpList_appI {w : World} {ops : Array Oper} {rest : List Oper} {o : Oper} {a : Act} {Q : Exit → Act → World → Prop} (hgd : o.guard = none) (s x : Operand)
  (ho : o.op = .call { callee := .builtin .append, args := #[s, x], argTypes := #[25, 25] })
  (B : Nat) (v : Value) (l : List Int) (hs : a.eval s = v) (hown : OwnI w B v l) (ad : Addr) (m c : Nat) (new : List Int) (hx : a.eval x = .slice (some ad) m c) (hm : new.length = m)
  (hnew : ∀ j, j < m → w.cell? (ad.add j) = some (.int .i64 (nthI new j))) (hsz : l.length + m ≤ 1073741824) (hB : B ≤ w.heap.size)
  (h : ∀ v' w1, OwnI w1 B v' (l ++ new) → Below B w w1 → wpList Tryd.prog ops Q rest (a.put o.dst v') w1) : wpList Tryd.prog ops Q (o :: rest) a w := by
 obtain ⟨i0, hi, hz0, hz1, hz2⟩ := info_parts infoBI
 refine wpList_append_own w hgd s x 25 ho B 2 i0 (.int .i64 0) 1 8 Tryd.underlying25 hi hz0 hz1 hz2 rfl (by decide) v l.length (ic l) hs hown ad m c (ic new) hx (by rw [ic_len, hm]; omega) ?_ (ic_one new) (by unfold maxLen; omega) (by omega) hB ?_
 ·intro j u hj
  have hjl : j < new.length := by
   rcases Nat.lt_or_ge j new.length with hlt | hge
   ·exact hlt
   ·rw [List.getElem?_eq_none (by rw [ic_len]; exact hge)] at hj; cases hj
  rw [ic_get hjl] at hj
  cases hj
  exact hnew j (by omega)
 ·intro v' w1 hown' hgr _
  refine h v' w1 ?_ ((Below.refl _ _).grown hgr hB (fun k hk => (hown.lt k hk).1))
  unfold OwnI
  rw [ic_app, List.length_append, hm]
  exact hown'
theorem wpList_app_newI {wr : World} {cs : Array Value} {ops : Array Oper} {rest : List Oper} {o : Oper} {a : Act} {Q : Exit → Act → World → Prop} (hgd : o.guard = none) (s x : Operand)
  (ho : o.op = .call { callee := .builtin .append, args := #[s, x], argTypes := #[25, 25] })
  (B : Nat) (v : Value) (l : List Int) (hs : a.eval s = v) (hown : OwnI wr B v l) (m c : Nat) (new : List Int) (hx : a.eval x = .slice (some ⟨wr.heap.size, 0, none⟩) m c) (hm : new.length = m) (hcs : cs.toList = ic new)
  (hsz : l.length + m ≤ 1073741824) (hB : B ≤ wr.heap.size)
  (h : ∀ v' w1, OwnI w1 B v' (l ++ new) → Below B wr w1 → wpList Tryd.prog ops Q rest (a.put o.dst v') w1) : wpList Tryd.prog ops Q (o :: rest) a (wr.alloc (.cells cs 2)) := by
 have hb : Below B wr (wr.alloc (.cells cs 2)) := (Below.refl _ _).alloc hB _
 refine wpList_appI hgd s x ho B v l hs (hown.alloc _) ⟨wr.heap.size, 0, none⟩ m c new hx hm ?_ hsz (by simp; omega) (fun v' w1 h1 h2 => h v' w1 h1 (hb.trans h2))
 intro j hj
 have e : (⟨wr.heap.size, 0, none⟩ : Addr).add j = ⟨wr.heap.size, j, none⟩ := by rw [Go.WideShapes.add_plain, Nat.zero_add]
 rw [e, World.cell?_alloc_mark, ← Array.getElem?_toList, hcs]
 exact ic_get (by omega)
theorem new_cellsI {wr : World} {cs : Array Value} {new : List Int} (hcs : cs.toList = ic new) (m : Nat) (hm : new.length = m) :
  ∀ j, j < m → (wr.alloc (.cells cs 2)).cell? ((⟨wr.heap.size, 0, none⟩ : Addr).add j) = some (.int .i64 (nthI new j)) := by
 intro j hj
 have e : (⟨wr.heap.size, 0, none⟩ : Addr).add j = ⟨wr.heap.size, j, none⟩ := by rw [Go.WideShapes.add_plain, Nat.zero_add]
 rw [e, World.cell?_alloc_mark, ← Array.getElem?_toList, hcs]
 exact ic_get (by omega)
theorem step_appI {w : World} {ops : Array Oper} {o : Oper} {a : Act} {K : Act → World → Prop} {Q : Exit → Act → World → Prop} {E : Prop} (hgd : o.guard = none) (s x : Operand)
  (ho : o.op = .call { callee := .builtin .append, args := #[s, x], argTypes := #[25, 25] })
  (B : Nat) (v : Value) (l : List Int) (hs : a.eval s = v) (hown : OwnI w B v l) (ad : Addr) (m c : Nat) (new : List Int) (hx : a.eval x = .slice (some ad) m c) (hm : new.length = m)
  (hnew : ∀ j, j < m → w.cell? (ad.add j) = some (.int .i64 (nthI new j))) (hsz : l.length + m ≤ 1073741824) (hB : B ≤ w.heap.size)
  (h : ∀ v' w1, OwnI w1 B v' (l ++ new) → Below B w w1 → K (a.put o.dst v') w1) : if Region.wanted o (yielded ops a.tmps) = true then Oper.wp Tryd.prog o a w K Q else E := by
 have hw : Region.wanted o (yielded ops a.tmps) = true := by simp [Region.wanted, hgd]
 rw [if_pos hw]
 obtain ⟨i0, hi, hz0, hz1, hz2⟩ := info_parts infoBI
 refine wp_append_own w s x 25 ho B 2 i0 (.int .i64 0) 1 8 Tryd.underlying25 hi hz0 hz1 hz2 rfl (by decide) v l.length (ic l) hs hown ad m c (ic new) hx (by rw [ic_len, hm]; omega) ?_ (ic_one new) (by unfold maxLen; omega) (by omega) hB ?_
 ·intro j u hj
  have hjl : j < new.length := by
   rcases Nat.lt_or_ge j new.length with hlt | hge
   ·exact hlt
   ·rw [List.getElem?_eq_none (by rw [ic_len]; exact hge)] at hj; cases hj
  rw [ic_get hjl] at hj
  cases hj
  exact hnew j (by omega)
 ·intro v' w1 hown' hgr _
  refine h v' w1 ?_ ((Below.refl _ _).grown hgr hB (fun k hk => (hown.lt k hk).1))
  unfold OwnI
  rw [ic_app, List.length_append, hm]
  exact hown'
end Go.Proofs.YtdcgihcjiiemdaaDoor
