/- Words on memory: where a slice of standing trees (a place and a tree each) is read, what a row of the call's own holds, an append, a cut; no conditions beyond those that each fact names · Which trees stand at some places: the program's side; no conditions beyond those that each fact names. -/
import Derived.Test.YtjogclofjollnaaGreatDoorTpc
namespace Go.Proofs.YtjogclofjollnaaGreatDoor
open Go.RowKit
abbrev SdP := Int × Value
def nthSd (l : List SdP) (i : Nat) : SdP := l.getD i (0, .nilIface)
def sdc (l : List SdP) : List Value := l.flatMap fun p => [Value.int .i64 p.1, p.2]
theorem sdc_cons (p : SdP) (l : List SdP) : sdc (p :: l) = .int .i64 p.1 :: p.2 :: sdc l := rfl
theorem sdc_len : ∀ l : List SdP, (sdc l).length = l.length * 2
 | [] => rfl
 | p :: l => by rw [sdc_cons, List.length_cons, List.length_cons, sdc_len l, List.length_cons]; omega
theorem sdc_app (a b : List SdP) : sdc (a ++ b) = sdc a ++ sdc b := by simp [sdc]
def OneS (l : List SdP) : Prop := ∀ p ∈ l, p.2.oneCell' = true
theorem sdc_one (l : List SdP) (h : OneS l) : ∀ u ∈ sdc l, u.oneCell' = true := by
 intro u hu
 simp only [sdc, List.mem_flatMap, List.mem_cons, List.not_mem_nil, or_false] at hu
 obtain ⟨p, hp, rfl | rfl⟩ := hu
 ·rfl
 ·exact h p hp
theorem sdc_get : ∀ (l : List SdP) (i : Nat), i < l.length → (sdc l)[i * 2]? = some (.int .i64 (nthSd l i).1) ∧ (sdc l)[i * 2 + 1]? = some ((nthSd l i).2)
 | [], _, h => by simp at h
 | p :: l, 0, _ => ⟨rfl, rfl⟩
 | p :: l, i + 1, h => by
  have := sdc_get l i (by simpa using h)
  rw [sdc_cons, show (i + 1) * 2 = i * 2 + 2 by omega]
  exact this
def RdSd (w : World) (a : Option Addr) (l : List SdP) : Prop :=
 l = [] ∨ ∃ b off, a = some ⟨b, off, none⟩ ∧ b < w.heap.size ∧ ∀ i, i < l.length → w.cell? ⟨b, off + i * 2, none⟩ = some (.int .i64 (nthSd l i).1) ∧ w.cell? ⟨b, off + i * 2 + 1, none⟩ = some ((nthSd l i).2)
theorem RdSd.below {w w' : World} {a : Option Addr} {l : List SdP} (h : RdSd w a l) (hb : Below w.heap.size w w') : RdSd w' a l := by
 rcases h with h | ⟨b, off, e, hlt, hc⟩
 ·exact .inl h
 ·exact .inr ⟨b, off, e, Nat.lt_of_lt_of_le hlt hb.size, fun i hi => ⟨(hb.cell (p := ⟨b, off + i * 2, none⟩) hlt).trans (hc i hi).1, (hb.cell (p := ⟨b, off + i * 2 + 1, none⟩) hlt).trans (hc i hi).2⟩⟩
theorem RdSd.at_ {w : World} {a : Option Addr} {l : List SdP} (h : RdSd w a l) (hp : 0 < l.length) :
  ∃ b off, a = some ⟨b, off, none⟩ ∧ b < w.heap.size ∧ ∀ i, i < l.length → w.cell? ⟨b, off + i * 2, none⟩ = some (.int .i64 (nthSd l i).1) ∧ w.cell? ⟨b, off + i * 2 + 1, none⟩ = some ((nthSd l i).2) := by
 rcases h with h | h
 ·rw [h] at hp; simp at hp
 ·exact h
theorem RdSd.own {w : World} {base e n cap : Nat} {a : Option Addr} {l : List SdP} (h : w.ownsRow base e 2 (.slice a n cap) n (sdc l)) : RdSd w a l := by
 have hl : l.length = n := by have := h.1; rw [sdc_len] at this; omega
 rcases h.2 with ⟨_, h0⟩ | ⟨g, cap', cur, h', _, hg, _, _, _, htake⟩
 ·left; exact List.length_eq_zero_iff.1 (by omega)
 ·simp only [Value.slice.injEq] at h'
  obtain ⟨rfl, _, rfl⟩ := h'
  right
  refine ⟨g, 0, rfl, ?_, fun i hi => ?_⟩
  ·rcases Nat.lt_or_ge g w.heap.size with hlt | hge
   ·exact hlt
   ·simp [Array.getElem?_eq_none hge] at hg
  ·have hf := sdc_get l i hi
   refine ⟨?_, ?_⟩
   ·rw [cell_of_row w g (0 + i * 2) cur e (0, 0) hg, ← hf.1, ← htake, List.getElem?_take, if_pos (by omega)]
    simp
   ·rw [cell_of_row w g (0 + i * 2 + 1) cur e (0, 0) hg, ← hf.2, ← htake, List.getElem?_take, if_pos (by omega)]
    simp
def zeroSd : Value := .agg #[.int .i64 0, .nilIface]
theorem infoSd : (Tryz.prog.info? 168).map (fun i => (i.zero, i.size, i.bytes)) = some (some zeroSd, 2, 24) := by kernel_rfl
def OwnSd (w : World) (B : Nat) (v : Value) (l : List SdP) : Prop := w.ownsRow B 168 2 v l.length (sdc l)
theorem OwnSd.nil (w : World) (B : Nat) : OwnSd w B (.slice none 0 0) [] := World.ownsRow_nil _ _ _ _
theorem OwnSd.alloc {w : World} {B : Nat} {v : Value} {l : List SdP} (h : OwnSd w B v l) (o : Obj) : OwnSd (w.alloc o) B v l := World.ownsRow.alloc h o
theorem OwnSd.below {w w' : World} {B C : Nat} {v : Value} {l : List SdP} (h : OwnSd w B v l) (hb : Below C w w') (hC : w.heap.size ≤ C) : OwnSd w' B v l := by
 refine ⟨h.1, ?_⟩
 rcases h.2 with h' | ⟨g, cap, cur, h1, h2, h3, h4⟩
 ·exact .inl h'
 ·refine .inr ⟨g, cap, cur, h1, h2, ?_, h4⟩
  have hg : g < w.heap.size := by
   rcases Nat.lt_or_ge g w.heap.size with hlt | hge
   ·exact hlt
   ·simp [Array.getElem?_eq_none hge] at h3
  rw [hb.block g (by omega)]; exact h3
theorem OwnSd.form {w : World} {B : Nat} {v : Value} {l : List SdP} (h : OwnSd w B v l) : ∃ a cap, v = .slice a l.length cap ∧ l.length ≤ cap ∧ cap ≤ maxLen := by
 rcases h.2 with ⟨h', h0⟩ | ⟨g, cap, cur, h', _, _, h4, h5, _⟩
 ·exact ⟨none, 0, by rw [h', h0], by omega, by decide⟩
 ·exact ⟨_, cap, h', h4, h5⟩
theorem OwnSd.rd {w : World} {B n cap : Nat} {a : Option Addr} {l : List SdP} (h : OwnSd w B (.slice a n cap) l) : l.length = n ∧ RdSd w a l := by
 have hf : l.length = n := by
  obtain ⟨a', c', e, _⟩ := h.form
  simp at e; omega
 subst hf
 exact ⟨rfl, RdSd.own h⟩
theorem OwnSd.low {w : World} {B C : Nat} {v : Value} {l : List SdP} (h : OwnSd w B v l) (hC : C ≤ B) : OwnSd w C v l := by
 refine ⟨h.1, ?_⟩
 rcases h.2 with h' | ⟨g, cap, cur, h1, h2, h3⟩
 ·exact .inl h'
 ·exact .inr ⟨g, cap, cur, h1, Nat.le_trans hC h2, h3⟩
theorem OwnSd.kept {w : World} {B : Nat} {v : Value} {l : List SdP} (h : OwnSd w B v l) (p : Addr) (hp : p.block < B) (u : Value) : OwnSd (w.setCell p u) B v l := ownsRow_setCell_below h hp u
theorem OwnSd.far {w w' : World} {B : Nat} {v : Value} {l : List SdP} {row : Option Nat} (h : OwnSd w B v l) (hg : w.grownBy w' row) (hne : ∀ b, v.ownBlock = some b → some b ≠ row) : OwnSd w' B v l := by
 refine ⟨h.1, ?_⟩
 rcases h.2 with h' | ⟨g, cap, cur, h1, h2, h3, h4⟩
 ·exact .inl h'
 ·refine .inr ⟨g, cap, cur, h1, h2, ?_, h4⟩
  have hlt : g < w.heap.size := by
   rcases Nat.lt_or_ge g w.heap.size with hlt | hge
   ·exact hlt
   ·simp [Array.getElem?_eq_none hge] at h3
  rw [hg.block g hlt (hne g (by rw [h1]; rfl))]; exact h3
theorem wpList_appSd {w : World} {ops : Array Oper} {rest : List Oper} {o : Oper} {a : Act} {Q : Exit → Act → World → Prop} (hgd : o.guard = none) (s x : Operand)
  (ho : o.op = .call { callee := .builtin .append, args := #[s, x], argTypes := #[161, 161] })
  (B : Nat) (v : Value) (l : List SdP) (hs : a.eval s = v) (hown : OwnSd w B v l) (ad : Addr) (m c : Nat) (new : List SdP) (hx : a.eval x = .slice (some ad) m c) (hm : new.length = m)
  (hnew : ∀ j, j < m → w.cell? (ad.add (j * 2)) = some (.int .i64 (nthSd new j).1) ∧ w.cell? (ad.add (j * 2 + 1)) = some ((nthSd new j).2)) (hone : OneS new) (hsz : l.length + m ≤ 1048576) (hB : B ≤ w.heap.size)
  (h : ∀ v' w1, OwnSd w1 B v' (l ++ new) → Below B w w1 → wpList Tryz.prog ops Q rest (a.put o.dst v') w1) : wpList Tryz.prog ops Q (o :: rest) a w := by
 obtain ⟨i0, hi, hz0, hz1, hz2⟩ := info_parts infoSd
 refine wpList_append_own w hgd s x 161 ho B 168 i0 zeroSd 2 24 Tryz.underlying161 hi hz0 hz1 hz2 rfl (by decide) v l.length (sdc l) hs hown ad m c (sdc new) hx (by rw [sdc_len, hm]) ?_ (sdc_one new hone) (by unfold maxLen; omega) (by omega) hB ?_
 ·intro j u hj
  have hjl : j < new.length * 2 := by
   rcases Nat.lt_or_ge j (new.length * 2) with hlt | hge
   ·exact hlt
   ·rw [List.getElem?_eq_none (by rw [sdc_len]; exact hge)] at hj; cases hj
  have hf := sdc_get new (j / 2) (by omega)
  have hn := hnew (j / 2) (by omega)
  have hjj : j = j / 2 * 2 ∨ j = j / 2 * 2 + 1 := by omega
  rcases hjj with e | e
  ·rw [e, hf.1] at hj
   rw [e, hn.1]; exact hj
  ·rw [e, hf.2] at hj
   rw [e, hn.2]; exact hj
 ·intro v' w1 hown' hgr _
  refine h v' w1 ?_ ((Below.refl _ _).grown hgr hB (fun k hk => (hown.lt k hk).1))
  unfold OwnSd
  rw [sdc_app, List.length_append, hm]
  exact hown'
theorem OwnSd.take {w : World} {B n cap : Nat} {a : Option Addr} {l : List SdP} (h : OwnSd w B (.slice a n cap) l) (k : Nat) (hk : k ≤ n) : OwnSd w B (.slice a k cap) (l.take k) := by
 have hl : l.length = n := h.rd.1
 unfold OwnSd at h ⊢
 refine ⟨by rw [sdc_len], ?_⟩
 have hkl : (l.take k).length = k := by rw [List.length_take]; omega
 rw [hkl]
 rcases h.2 with ⟨h1, h2⟩ | ⟨g, cap', cur, h1, h2, h3, h4, h5, h6, h7⟩
 ·simp only [Value.slice.injEq] at h1
  obtain ⟨rfl, h1', rfl⟩ := h1
  exact .inl ⟨by rw [show k = 0 by omega], by omega⟩
 ·simp only [Value.slice.injEq] at h1
  obtain ⟨rfl, -, rfl⟩ := h1
  refine .inr ⟨g, cap, cur, rfl, h2, h3, by omega, h5, h6, ?_⟩
  have e : sdc (l.take k) = (sdc l).take (k * 2) := by
   have := sdc_app (l.take k) (l.drop k)
   rw [List.take_append_drop] at this
   rw [this]
   exact (List.take_left' (by rw [sdc_len, hkl])).symm
  rw [e, ← h7, List.take_take, Nat.min_eq_left (by omega)]
theorem RdSd.drop {w : World} {b off : Nat} {l : List SdP} (h : RdSd w (some ⟨b, off, none⟩) l) (k : Nat) (hk : k ≤ l.length) : RdSd w (some ⟨b, off + k * 2, none⟩) (l.drop k) := by
 rcases Nat.eq_zero_or_pos (l.drop k).length with h0 | h0
 ·exact .inl (List.length_eq_zero_iff.1 h0)
 ·rw [List.length_drop] at h0
  obtain ⟨b', off', e, hlt, hc⟩ := h.at_ (by omega)
  cases e
  refine .inr ⟨b, off + k * 2, rfl, hlt, fun i hi => ?_⟩
  rw [List.length_drop] at hi
  have := hc (k + i) (by omega)
  have hn : nthSd (l.drop k) i = nthSd l (k + i) := by
   unfold nthSd; rw [List.getD_eq_getElem?_getD, List.getD_eq_getElem?_getD, List.getElem?_drop]
  rw [hn, show off + k * 2 + i * 2 = off + (k + i) * 2 by omega]
  exact this
theorem wpList_app_newSd {wr : World} {ops : Array Oper} {rest : List Oper} {o : Oper} {a : Act} {Q : Exit → Act → World → Prop} (hgd : o.guard = none) (s x : Operand)
  (ho : o.op = .call { callee := .builtin .append, args := #[s, x], argTypes := #[161, 161] })
  (B : Nat) (v : Value) (l : List SdP) (hs : a.eval s = v) (hown : OwnSd wr B v l) (p : Int) (q : Value) (hq : q.oneCell' = true) (hx : a.eval x = .slice (some ⟨wr.heap.size, 0, none⟩) 1 1)
  (hsz : l.length + 1 ≤ 1048576) (hB : B ≤ wr.heap.size)
  (h : ∀ v' w1, OwnSd w1 B v' (l ++ [(p, q)]) → Below B wr w1 → wpList Tryz.prog ops Q rest (a.put o.dst v') w1) : wpList Tryz.prog ops Q (o :: rest) a (wr.alloc (.cells #[.int .i64 p, q] 168)) := by
 have hb : Below B wr (wr.alloc (.cells #[.int .i64 p, q] 168)) := (Below.refl _ _).alloc hB _
 refine wpList_appSd hgd s x ho B v l hs (hown.alloc _) ⟨wr.heap.size, 0, none⟩ 1 1 [(p, q)] hx rfl ?_ (fun y hy => by rw [List.mem_singleton] at hy; rw [hy]; exact hq) hsz (by simp; omega) (fun v' w1 h1 h2 => h v' w1 h1 (hb.trans h2))
 intro j hj
 obtain rfl : j = 0 := by omega
 refine ⟨?_, ?_⟩
 ·show (wr.alloc _).cell? ((⟨wr.heap.size, 0, none⟩ : Addr).add 0) = _
  rw [Go.WideShapes.add_plain, World.cell?_alloc_mark]; rfl
 ·show (wr.alloc _).cell? ((⟨wr.heap.size, 0, none⟩ : Addr).add 1) = _
  rw [Go.WideShapes.add_plain, World.cell?_alloc_mark]; rfl
end Go.Proofs.YtjogclofjollnaaGreatDoor
namespace Go.Proofs.YtjogclofjollnaaGreatDoor
open Go.RowKit
set_option linter.unusedVariables false
set_option maxHeartbeats 800000 in
set_option maxRecDepth 100000 in
theorem isAt_any (p x : Int) (v : Value) (w : World) :
  Calls Tryz.prog 135 #[.agg #[.int .i64 p, v], .int .i64 x] w fun e w' => e = .returned (.bool (decide (p = x))) ∧ Below w.heap.size w w' := by
 by_cases h : p = x
 ·subst h
  go_enter Tryz.func135, Tryz.ntmps135
  go_wp2
  go_ret
  exact ⟨by simp, by go_grown⟩
 ·have e1 : (p == x) = false := by simpa using h
  go_enter Tryz.func135, Tryz.ntmps135
  go_wp2
  go_ret
  exact ⟨by simp [h], by go_grown⟩
def IfS (l : List SdP) : Prop := ∀ i, i < l.length → ∃ t u, (nthSd l i).2 = .iface t u
def eqSd (l : List SdP) (x : List Int) : Bool := eqH l.length x.length (fun i => decide ((nthSd l i).1 = nthI x i))
theorem eqSd_iff (l : List SdP) (x : List Int) : eqSd l x = decide (l.map Prod.fst = x) := by
 unfold eqSd
 by_cases hl : l.length = x.length
 ·by_cases h : l.map Prod.fst = x
  ·rw [decide_eq_true h]
   refine eqH_all hl (fun k hk => decide_eq_true ?_)
   rw [nthI_get (by omega), nthSd, List.getD_eq_getElem?_getD, List.getElem?_eq_getElem hk]
   subst h
   simp
  ·rw [decide_eq_false h]
   have : ∃ k, k < l.length ∧ (nthSd l k).1 ≠ nthI x k := by
    refine Classical.byContradiction fun hn => h ?_
    refine List.ext_getElem (by simpa using hl) (fun k h1 h2 => ?_)
    have hk : k < l.length := by simpa using h1
    refine Classical.byContradiction fun hne => hn ⟨k, hk, ?_⟩
    rw [nthI_get h2, nthSd, List.getD_eq_getElem?_getD, List.getElem?_eq_getElem hk]
    simpa using hne
   obtain ⟨k, hk, hne⟩ := this
   exact eqH_bad hk (decide_eq_false hne)
 ·rw [eqH_ne hl, decide_eq_false (fun h => hl (by rw [← h]; simp))]
set_option maxHeartbeats 1600000 in
set_option maxRecDepth 100000 in
theorem equalSd_any (a : Option Addr) (n cap : Nat) (s' : SlQ) (l : List SdP) (x : List Int) {lo' : Nat} (w : World) (hl : l.length = n) (hnc : n ≤ cap) (hcm : cap ≤ maxLen) (hr : RdSd w a l) (hi : IfS l) (hs' : IsIl lo' w s' x) :
  Calls Tryz.prog 134 #[.slice a n cap, slW s', .func (.func 135) #[] #[]] w fun e w' => e = .returned (.bool (eqSd l x)) ∧ Below w.heap.size w w' := by
 obtain ⟨a', n', cap'⟩ := s'
 obtain ⟨hl', hnc', hcm', hr', -⟩ := hs'
 dsimp only [slW] at *
 unfold maxLen at hcm hcm'
 have HL : Hid (l.length = n ∧ x.length = n') := ⟨hl, hl'⟩
 have HB : Hid (∀ k, k < n → (nthSd l k).1 ≠ nthI x k → eqSd l x = false) := fun k hk h => eqH_bad (by rw [hl]; exact hk) (decide_eq_false h)
 have HE : Hid (n ≠ n' → eqSd l x = false) := fun h => eqH_ne (by rw [hl, hl']; exact h)
 have HA : Hid (n = n' → (∀ k, k < n → (nthSd l k).1 = nthI x k) → eqSd l x = true) := fun h h' => eqH_all (by rw [hl, hl']; exact h) (fun k hk => decide_eq_true (h' k (by omega)))
 generalize eqSd l x = r at *
 clear hl hl'
 go_enter Tryz.func134, Tryz.ntmps134
 by_cases hnn : n = n'
 ·subst hnn
  go_wp2
  go_loopw [17] (fun i wr => ∃ k : Nat, k ≤ n ∧ i = .int .i64 k ∧ (∀ j, j < k → (nthSd l j).1 = nthI x j) ∧ Below w.heap.size w wr) (fun i _ => n - (intOf i).toNat)
  case atStart => exact ⟨0, Nat.zero_le _, rfl, fun j hj => absurd hj (Nat.not_lt_zero _), Below.refl _ _⟩
  case round =>
   obtain ⟨k, hk, rfl, hall, hbel⟩ := hrel
   by_cases hkn : k < n
   ·have hki : (k : Int) < (n : Int) := by omega
    obtain ⟨g, off, rfl, hglt, hcell⟩ := (hr.below hbel).at_ (by have := HL.out; omega)
    obtain ⟨g', off', rfl, hglt', hcell'⟩ := (hr'.below hbel).at_ (by have := HL.out; omega)
    obtain ⟨c0, c1⟩ := hcell k (by have := HL.out; omega)
    have d0 := hcell' k (by have := HL.out; omega)
    have HY : Hid ((nthSd l k).1 = nthI x k → ∀ j, j < k + 1 → (nthSd l j).1 = nthI x j) := fun h j hj => by
     rcases Nat.lt_or_ge j k with h' | h'
     ·exact hall j h'
     ·obtain rfl : j = k := by omega
      exact h
    have HN : Hid ((nthSd l k).1 ≠ nthI x k → r = false) := fun h => HB.out k hkn h
    obtain ⟨tt, tu, hty⟩ := hi k (by have := HL.out; omega)
    clear hall hcell hcell'
    generalize nthSd l k = y at *
    generalize nthI x k = z at *
    obtain ⟨y1, y2⟩ := y
    dsimp only at c0 c1 HY HN hty
    subst hty
    have hbA : Below wr.heap.size wr (wr.alloc (.cells #[.int .i64 y1, .iface tt tu] 168)) := (Below.refl _ _).alloc (Nat.le_refl _) _
    have d1 := (hbA.cell (p := ⟨g', off' + k, none⟩) hglt').trans d0
    have x0 : (wr.alloc (.cells #[.int .i64 y1, .iface tt tu] 168)).cell? ⟨wr.heap.size, 0, none⟩ = some (.int .i64 y1) := by simp
    have x1 : (wr.alloc (.cells #[.int .i64 y1, .iface tt tu] 168)).cell? ⟨wr.heap.size, 1, none⟩ = some (.iface tt tu) := by simp
    have hbel1 := hbel.trans (hbA.mono hbel.size)
    have HC := isAt_any y1 z (.iface tt tu) (wr.alloc (.cells #[.int .i64 y1, .iface tt tu] 168))
    go_wp2_with fail
    refine HC.mono ?_
    rintro e w2 ⟨rfl, hb2⟩
    have hbel2 := hbel1.trans (hb2.mono hbel1.size)
    clear HC hb2 hbA hbel1 c0 c1 d0 d1 x0 x1
    by_cases hyz : y1 = z
    ·have HM : Hid (_) := HY.out hyz
     clear HY HN
     rw [decide_eq_true hyz]
     go_wp2
     go_roundw
     case rel => exact ⟨k + 1, by omega, by go_num, HM.out, hbel2⟩
     case measure => simp [intOf]; omega
    ·have HM : Hid (r = false) := HN.out hyz
     clear HY HN
     rw [decide_eq_false hyz]
     go_wp2
     go_ret
     exact ⟨by rw [HM.out]; rfl, hbel2⟩
   ·have hki : ¬ (k : Int) < (n : Int) := by omega
    have HM : Hid (r = true) := HA.out (by trivial) (fun j hj => hall j (by omega))
    clear hall
    go_wp2
    go_ret
    exact ⟨by rw [HM.out]; rfl, hbel⟩
 ·have hnn' : ¬ (n : Int) = (n' : Int) := by omega
  have HM : Hid (r = false) := HE.out hnn
  go_wp2
  go_ret
  exact ⟨by rw [HM.out]; rfl, Below.refl _ _⟩
set_option maxHeartbeats 1600000 in
set_option maxRecDepth 100000 in
theorem placesOfTerm_any (o : TmR) (p : SlT) (w : World) :
  Calls Tryz.prog 118 #[tmX o p] w fun e w' => ∃ s, e = .returned (slW s) ∧ IsIl w.heap.size w' s (plT o) ∧ Below w.heap.size w w' := by
 obtain ⟨k, n, c, y, l, r⟩ := o
 by_cases h9 : k = 9
 ·have hp : plT ⟨k, n, c, y, l, r⟩ = [l] := if_pos h9
  rw [hp]
  subst h9
  go_enter Tryz.func118, Tryz.ntmps118
  go_wp2
  go_ret
  refine ⟨(some ⟨w.heap.size + 1, 0, none⟩, 1, 1), rfl, ⟨rfl, Nat.le_refl _, by show 1 ≤ maxLen; decide, .inr ⟨w.heap.size + 1, 0, rfl, by simp, fun i hi => ?_⟩, fun x hx => by cases hx; simp⟩, by go_grown⟩
  obtain rfl : i = 0 := by simpa using hi
  simp [nthI]
 ·cases ht : twK k with
  | true =>
   have hp : plT ⟨k, n, c, y, l, r⟩ = [l, r] := by unfold plT; rw [if_neg h9, if_pos ht]
   rw [hp]
   have hk : k = 10 ∨ k = 11 := by unfold twK at ht; simpa using ht
   rcases hk with rfl | rfl
   all_goals (
    go_enter Tryz.func118, Tryz.ntmps118
    go_wp2
    go_ret
    refine ⟨(some ⟨w.heap.size + 1, 0, none⟩, 2, 2), rfl, ⟨rfl, Nat.le_refl _, by show 2 ≤ maxLen; decide, .inr ⟨w.heap.size + 1, 0, rfl, by simp, fun i hi => ?_⟩, fun x hx => by cases hx; simp⟩, by go_grown⟩
    have hi2 : i = 0 ∨ i = 1 := by simp at hi; omega
    rcases hi2 with rfl | rfl
    ·simp [nthI]
    ·simp [nthI])
  | false =>
   have hp : plT ⟨k, n, c, y, l, r⟩ = [] := by unfold plT; rw [if_neg h9, ht]; rfl
   rw [hp]
   have h10 : ¬ k = 10 := fun h => by subst h; revert ht; decide
   have h11 : ¬ k = 11 := fun h => by subst h; revert ht; decide
   go_enter Tryz.func118, Tryz.ntmps118
   go_wp2
   go_ret
   exact ⟨(none, 0, 0), rfl, ⟨rfl, Nat.le_refl _, by decide, .inl rfl, fun x hx => by cases hx⟩, by go_grown⟩
end Go.Proofs.YtjogclofjollnaaGreatDoor
