/- Words on memory: where a slice of texts is read, what a row of the call's own holds, an append; no conditions beyond those that each fact names · The words of flags: the program's and the model's functions answer by one plain function; no conditions beyond those that each fact names · The words of flags: the model's side; no conditions beyond those that each fact names. -/
import Derived.Test.YtjogclofjollnaaGreatDoorJfzToApp
import Derived.Test.YtjogclofjollnaaGreatDoorTpgToTbs
namespace Go.Proofs.YtjogclofjollnaaGreatDoor
open Go.RowKit
def nthS (l : List (List Nat)) (i : Nat) : List Nat := l.getD i []
def sc (l : List (List Nat)) : List Value := l.map fun (b : List Nat) => Value.string (str b)
theorem nthS_get {l : List (List Nat)} {i : Nat} (h : i < l.length) : nthS l i = l[i] := by
 unfold nthS; rw [List.getD_eq_getElem?_getD, List.getElem?_eq_getElem h]; rfl
theorem sc_len (l : List (List Nat)) : (sc l).length = l.length := by simp [sc]
theorem sc_one (l : List (List Nat)) : ∀ u ∈ sc l, u.oneCell' = true := by
 intro u hu
 simp only [sc, List.mem_map] at hu
 obtain ⟨b, _, rfl⟩ := hu
 rfl
theorem sc_app (a b : List (List Nat)) : sc (a ++ b) = sc a ++ sc b := by simp [sc]
theorem sc_get {l : List (List Nat)} {i : Nat} (h : i < l.length) : (sc l)[i]? = some (.string (str (nthS l i))) := by
 rw [nthS_get h]; simp [sc, h]
theorem nthS_drop (l : List (List Nat)) (k i : Nat) : nthS (l.drop k) i = nthS l (k + i) := by
 simp [nthS, List.getD_eq_getElem?_getD, List.getElem?_drop]
def RdS (w : World) (a : Option Addr) (l : List (List Nat)) : Prop :=
 l = [] ∨ ∃ b off, a = some ⟨b, off, none⟩ ∧ b < w.heap.size ∧ ∀ i, i < l.length → w.cell? ⟨b, off + i, none⟩ = some (.string (str (nthS l i)))
theorem RdS.below {w w' : World} {a : Option Addr} {l : List (List Nat)} (h : RdS w a l) (hb : Below w.heap.size w w') : RdS w' a l := by
 rcases h with h | ⟨b, off, e, hlt, hc⟩
 ·exact .inl h
 ·exact .inr ⟨b, off, e, Nat.lt_of_lt_of_le hlt hb.size, fun i hi => (hb.cell (p := ⟨b, off + i, none⟩) hlt).trans (hc i hi)⟩
theorem RdS.at_ {w : World} {a : Option Addr} {l : List (List Nat)} (h : RdS w a l) (hp : 0 < l.length) :
  ∃ b off, a = some ⟨b, off, none⟩ ∧ b < w.heap.size ∧ ∀ i, i < l.length → w.cell? ⟨b, off + i, none⟩ = some (.string (str (nthS l i))) := by
 rcases h with h | h
 ·rw [h] at hp; simp at hp
 ·exact h
theorem RdS.drop {w : World} {b off : Nat} {l : List (List Nat)} (h : RdS w (some ⟨b, off, none⟩) l) (k : Nat) : RdS w (some ⟨b, off + k, none⟩) (l.drop k) := by
 rcases h with h | ⟨b', off', e, hlt, hc⟩
 ·left; simp [h]
 ·obtain ⟨rfl, rfl⟩ : b = b' ∧ off = off' := by simpa using e
  right
  refine ⟨b, off + k, rfl, hlt, fun i hi => ?_⟩
  rw [List.length_drop] at hi
  rw [nthS_drop, Nat.add_assoc]
  exact hc (k + i) (by omega)
theorem RdS.own {w : World} {base e n cap : Nat} {a : Option Addr} {l : List (List Nat)} (h : w.ownsRow base e 1 (.slice a n cap) n (sc l)) : RdS w a l := by
 have hl : l.length = n := by simpa [sc_len] using h.1
 rcases h.2 with ⟨_, h0⟩ | ⟨g, cap', cur, h', _, hg, _, _, _, htake⟩
 ·left; exact List.length_eq_zero_iff.1 (by omega)
 ·simp only [Value.slice.injEq] at h'
  obtain ⟨rfl, _, rfl⟩ := h'
  right
  refine ⟨g, 0, rfl, ?_, fun i hi => ?_⟩
  ·rcases Nat.lt_or_ge g w.heap.size with hlt | hge
   ·exact hlt
   ·simp [Array.getElem?_eq_none hge] at hg
  ·rw [cell_of_row w g (0 + i) cur e (0, 0) hg, ← sc_get hi, ← htake, List.getElem?_take, if_pos (by omega)]
   simp
theorem infoS : (Tryz.prog.info? 9).map (fun i => (i.zero, i.size, i.bytes)) = some (some (.string ⟨#[]⟩), 1, 16) := by kernel_rfl
def OwnS (w : World) (B : Nat) (v : Value) (l : List (List Nat)) : Prop := w.ownsRow B 9 1 v l.length (sc l)
theorem OwnS.nil (w : World) (B : Nat) : OwnS w B (.slice none 0 0) [] := World.ownsRow_nil _ _ _ _
theorem OwnS.lit (w : World) (B : Nat) (hB : B ≤ w.heap.size) (cs : Array Value) (l : List (List Nat)) (h : cs.toList = sc l) (hl : l.length ≤ maxLen) : OwnS (w.alloc (.cells cs 9)) B (.slice (some ⟨w.heap.size, 0, none⟩) l.length l.length) l := by
 have := World.ownsRow_lit (base := B) (e := 9) (size := 1) w cs l.length hB hl (by rw [← Array.length_toList, h, sc_len]; omega)
 rw [h] at this
 exact this
theorem OwnS.alloc {w : World} {B : Nat} {v : Value} {l : List (List Nat)} (h : OwnS w B v l) (o : Obj) : OwnS (w.alloc o) B v l := World.ownsRow.alloc h o
theorem OwnS.drew {w : World} {B : Nat} {v : Value} {l : List (List Nat)} (h : OwnS w B v l) : OwnS w.drew B v l := h
theorem OwnS.below {w w' : World} {B C : Nat} {v : Value} {l : List (List Nat)} (h : OwnS w B v l) (hb : Below C w w') (hC : w.heap.size ≤ C) : OwnS w' B v l := by
 refine ⟨h.1, ?_⟩
 rcases h.2 with h' | ⟨g, cap, cur, h1, h2, h3, h4⟩
 ·exact .inl h'
 ·refine .inr ⟨g, cap, cur, h1, h2, ?_, h4⟩
  have hg : g < w.heap.size := by
   rcases Nat.lt_or_ge g w.heap.size with hlt | hge
   ·exact hlt
   ·simp [Array.getElem?_eq_none hge] at h3
  rw [hb.block g (by omega)]; exact h3
theorem OwnS.form {w : World} {B : Nat} {v : Value} {l : List (List Nat)} (h : OwnS w B v l) : ∃ a cap, v = .slice a l.length cap ∧ l.length ≤ cap ∧ cap ≤ maxLen := by
 rcases h.2 with ⟨h', h0⟩ | ⟨g, cap, cur, h', _, _, h4, h5, _⟩
 ·exact ⟨none, 0, by rw [h', h0], by omega, by decide⟩
 ·exact ⟨_, cap, h', h4, h5⟩
theorem OwnS.rd {w : World} {B n cap : Nat} {a : Option Addr} {l : List (List Nat)} (h : OwnS w B (.slice a n cap) l) : l.length = n ∧ RdS w a l := by
 have hf : l.length = n := by
  obtain ⟨a', c', e, _⟩ := h.form
  simp at e; omega
 subst hf
 exact ⟨rfl, RdS.own h⟩
theorem wpList_appT {w : World} {ops : Array Oper} {rest : List Oper} {o : Oper} {a : Act} {Q : Exit → Act → World → Prop} (hgd : o.guard = none) (s x : Operand)
  (ho : o.op = .call { callee := .builtin .append, args := #[s, x], argTypes := #[77, 77] })
  (B : Nat) (v : Value) (l : List (List Nat)) (hs : a.eval s = v) (hown : OwnS w B v l) (ad : Addr) (m c : Nat) (new : List (List Nat)) (hx : a.eval x = .slice (some ad) m c) (hm : new.length = m)
  (hnew : ∀ j, j < m → w.cell? (ad.add j) = some (.string (str (nthS new j)))) (hsz : l.length + m ≤ 134217728) (hB : B ≤ w.heap.size)
  (h : ∀ v' w1, OwnS w1 B v' (l ++ new) → Below B w w1 → wpList Tryz.prog ops Q rest (a.put o.dst v') w1) : wpList Tryz.prog ops Q (o :: rest) a w := by
 obtain ⟨i0, hi, hz0, hz1, hz2⟩ := info_parts infoS
 refine wpList_append_own w hgd s x 77 ho B 9 i0 (.string ⟨#[]⟩) 1 16 Tryz.underlying77 hi hz0 hz1 hz2 rfl (by decide) v l.length (sc l) hs hown ad m c (sc new) hx (by rw [sc_len, hm]; omega) ?_ (sc_one new) (by unfold maxLen; omega) (by omega) hB ?_
 ·intro j u hj
  have hjl : j < new.length := by
   rcases Nat.lt_or_ge j new.length with hlt | hge
   ·exact hlt
   ·rw [List.getElem?_eq_none (by rw [sc_len]; exact hge)] at hj; cases hj
  rw [sc_get hjl] at hj
  cases hj
  exact hnew j (by omega)
 ·intro v' w1 hown' hgr _
  refine h v' w1 ?_ ((Below.refl _ _).grown hgr hB (fun k hk => (hown.lt k hk).1))
  unfold OwnS
  rw [sc_app, List.length_append, hm]
  exact hown'
theorem wpList_app_newT {wr : World} {cs : Array Value} {ops : Array Oper} {rest : List Oper} {o : Oper} {a : Act} {Q : Exit → Act → World → Prop} (hgd : o.guard = none) (s x : Operand)
  (ho : o.op = .call { callee := .builtin .append, args := #[s, x], argTypes := #[77, 77] })
  (B : Nat) (v : Value) (l : List (List Nat)) (hs : a.eval s = v) (hown : OwnS wr B v l) (m c : Nat) (new : List (List Nat)) (hx : a.eval x = .slice (some ⟨wr.heap.size, 0, none⟩) m c) (hm : new.length = m) (hcs : cs.toList = sc new)
  (hsz : l.length + m ≤ 134217728) (hB : B ≤ wr.heap.size)
  (h : ∀ v' w1, OwnS w1 B v' (l ++ new) → Below B wr w1 → wpList Tryz.prog ops Q rest (a.put o.dst v') w1) : wpList Tryz.prog ops Q (o :: rest) a (wr.alloc (.cells cs 9)) := by
 have hb : Below B wr (wr.alloc (.cells cs 9)) := (Below.refl _ _).alloc hB _
 refine wpList_appT hgd s x ho B v l hs (hown.alloc _) ⟨wr.heap.size, 0, none⟩ m c new hx hm ?_ hsz (by simp; omega) (fun v' w1 h1 h2 => h v' w1 h1 (hb.trans h2))
 intro j hj
 have e : (⟨wr.heap.size, 0, none⟩ : Addr).add j = ⟨wr.heap.size, j, none⟩ := by rw [Go.WideShapes.add_plain, Nat.zero_add]
 rw [e, World.cell?_alloc_mark, ← Array.getElem?_toList, hcs]
 exact sc_get (by omega)
theorem step_appT {w : World} {ops : Array Oper} {o : Oper} {a : Act} {K : Act → World → Prop} {Q : Exit → Act → World → Prop} {E : Prop} (hgd : o.guard = none) (s x : Operand)
  (ho : o.op = .call { callee := .builtin .append, args := #[s, x], argTypes := #[77, 77] })
  (B : Nat) (v : Value) (l : List (List Nat)) (hs : a.eval s = v) (hown : OwnS w B v l) (ad : Addr) (m c : Nat) (new : List (List Nat)) (hx : a.eval x = .slice (some ad) m c) (hm : new.length = m)
  (hnew : ∀ j, j < m → w.cell? (ad.add j) = some (.string (str (nthS new j)))) (hsz : l.length + m ≤ 134217728) (hB : B ≤ w.heap.size)
  (h : ∀ v' w1, OwnS w1 B v' (l ++ new) → Below B w w1 → K (a.put o.dst v') w1) : if Region.wanted o (yielded ops a.tmps) = true then Oper.wp Tryz.prog o a w K Q else E := by
 have hw : Region.wanted o (yielded ops a.tmps) = true := by simp [Region.wanted, hgd]
 rw [if_pos hw]
 obtain ⟨i0, hi, hz0, hz1, hz2⟩ := info_parts infoS
 refine wp_append_own w s x 77 ho B 9 i0 (.string ⟨#[]⟩) 1 16 Tryz.underlying77 hi hz0 hz1 hz2 rfl (by decide) v l.length (sc l) hs hown ad m c (sc new) hx (by rw [sc_len, hm]; omega) ?_ (sc_one new) (by unfold maxLen; omega) (by omega) hB ?_
 ·intro j u hj
  have hjl : j < new.length := by
   rcases Nat.lt_or_ge j new.length with hlt | hge
   ·exact hlt
   ·rw [List.getElem?_eq_none (by rw [sc_len]; exact hge)] at hj; cases hj
  rw [sc_get hjl] at hj
  cases hj
  exact hnew j (by omega)
 ·intro v' w1 hown' hgr _
  refine h v' w1 ?_ ((Below.refl _ _).grown hgr hB (fun k hk => (hown.lt k hk).1))
  unfold OwnS
  rw [sc_app, List.length_append, hm]
  exact hown'
theorem OwnS.low {w : World} {B C : Nat} {v : Value} {l : List (List Nat)} (h : OwnS w B v l) (hC : C ≤ B) : OwnS w C v l := by
 refine ⟨h.1, ?_⟩
 rcases h.2 with h' | ⟨g, cap, cur, h1, h2, h3, h4⟩
 ·exact .inl h'
 ·exact .inr ⟨g, cap, cur, h1, by omega, h3, h4⟩
end Go.Proofs.YtjogclofjollnaaGreatDoor
namespace Go.Proofs.YtjogclofjollnaaGreatDoor
open Go.RowKit
def flZ : List (List UInt8) := [[115, 101, 101, 110], [97, 110, 115, 119, 101, 114, 101, 100], [102, 108, 97, 103, 103, 101, 100], [100, 101, 108, 101, 116, 101, 100]]
def flN (i : Nat) : ByteArray := txt (flZ.getD i [])
def flL : List (List Nat) := [[115, 101, 101, 110], [97, 110, 115, 119, 101, 114, 101, 100], [102, 108, 97, 103, 103, 101, 100], [100, 101, 108, 101, 116, 101, 100]]
def TabF (w : World) : Prop := ∀ v, v < 4 → w.cell? ⟨9, v, none⟩ = some (.string (flN v))
theorem TabF.below {w w' : World} (h : TabF w) (hb : Below w.heap.size w w') : TabF w' := fun v hv =>
 (hb.cell (p := ⟨9, v, none⟩) (World.block_lt_of_cell? w ⟨9, 0, none⟩ (h 0 (by decide)))).trans (h v hv)
theorem ixF0 (x0 x1 x2 x3 : Value) (w : World) : (Instr.index 103 (.agg #[x0, x1, x2, x3]) (.int .i64 0)).run Tryz.prog w = .ok x0 w := by
 simp [Instr.index, go_sem]
theorem ixF1 (x0 x1 x2 x3 : Value) (w : World) : (Instr.index 103 (.agg #[x0, x1, x2, x3]) (.int .i64 1)).run Tryz.prog w = .ok x1 w := by
 simp [Instr.index, go_sem]
theorem ixF2 (x0 x1 x2 x3 : Value) (w : World) : (Instr.index 103 (.agg #[x0, x1, x2, x3]) (.int .i64 2)).run Tryz.prog w = .ok x2 w := by
 simp [Instr.index, go_sem]
theorem ixF3 (x0 x1 x2 x3 : Value) (w : World) : (Instr.index 103 (.agg #[x0, x1, x2, x3]) (.int .i64 3)).run Tryz.prog w = .ok x3 w := by
 simp [Instr.index, go_sem]
theorem ixF (j : Nat) (hj : j < 4) (w : World) : (Instr.index 103 (.agg #[.string (flN 0), .string (flN 1), .string (flN 2), .string (flN 3)]) (.int .i64 (j : Int))).run Tryz.prog w = .ok (.string (flN j)) w := by
 obtain rfl | rfl | rfl | rfl : j = 0 ∨ j = 1 ∨ j = 2 ∨ j = 3 := by omega
 ·exact ixF0 _ _ _ _ w
 ·exact ixF1 _ _ _ _ w
 ·exact ixF2 _ _ _ _ w
 ·exact ixF3 _ _ _ _ w
def wdK (k j : Nat) : List (List Nat) := ((List.range j).filter (fun i => k.testBit i)).map (fun i => flL.getD i [])
def fxL (k : Nat) : List Nat := if k = 0 then [110, 111, 110, 101] else [32].intercalate (wdK k 4)
theorem wdK_yes {k j : Nat} (h : k.testBit j = true) : wdK k (j + 1) = wdK k j ++ [flL.getD j []] := by
 unfold wdK; rw [List.range_succ, List.filter_append, List.map_append]; simp [h]
theorem wdK_no {k j : Nat} (h : k.testBit j = false) : wdK k (j + 1) = wdK k j := by
 unfold wdK; rw [List.range_succ, List.filter_append, List.map_append]; simp [h]
theorem wdK_le (k j : Nat) : (wdK k j).length ≤ j := by
 unfold wdK; rw [List.length_map]; exact Nat.le_trans (List.length_filter_le _ _) (by simp)
theorem flBits : ∀ k : Nat, k < 16 → ∀ j : Nat, j < 4 → Go.bits BinOp.and IntKind.i64 (k : Int) (wrap64 ((2 : Int) ^ j)) = if Nat.testBit k j = true then (2 : Int) ^ j else 0 := by decide +kernel
theorem flJoin : ∀ k : Nat, k < 16 → k ≠ 0 → wdK k 4 ≠ [] ∧ Lib.join ((wdK k 4).map fun x => (str x).data.toList) [32] = (fxL k).map UInt8.ofNat ∧ (fxL k).length ≤ 40 := by decide +kernel
theorem flN_str : ∀ j : Nat, j < 4 → flN j = str (flL.getD j []) := by
 intro j hj
 obtain rfl | rfl | rfl | rfl : j = 0 ∨ j = 1 ∨ j = 2 ∨ j = 3 := by omega
 all_goals rfl
set_option maxHeartbeats 1600000 in
set_option maxRecDepth 100000 in
theorem flagsText_any (k : Nat) (w : World) (hk : k < 16) (hT : TabF w) :
  Calls Tryz.prog 124 #[.int .i64 (k : Int)] w fun e w' => e = .returned (.string (str (fxL k))) ∧ Below w.heap.size w w' := by
 by_cases h0 : k = 0
 ·subst h0
  have HM : Hid (str (fxL 0) = ⟨#[110, 111, 110, 101]⟩) := rfl
  generalize str (fxL 0) = r at *
  go_enter Tryz.func124, Tryz.ntmps124
  go_wp2
  go_ret
  exact ⟨by rw [HM.out]; rfl, Below.refl _ _⟩
 have t0 := hT 0 (by decide)
 have t1 := hT 1 (by decide)
 have t2 := hT 2 (by decide)
 have t3 := hT 3 (by decide)
 have h0' : ¬ (k : Int) = 0 := by omega
 have HJ : Hid (_) := flJoin k hk h0
 have HS : Hid (∀ j, j < 4 → flN j = str (flL.getD j [])) := flN_str
 have HB : Hid (∀ j : Nat, j < 4 → Go.bits BinOp.and IntKind.i64 (k : Int) (wrap64 ((2 : Int) ^ j)) = if Nat.testBit k j = true then (2 : Int) ^ j else 0) := flBits k hk
 obtain ⟨r, hr⟩ : ∃ r, str (fxL k) = r := ⟨_, rfl⟩
 have HM : Hid ((⟨((fxL k).map UInt8.ofNat).toArray⟩ : ByteArray) = r) := hr
 rw [hr]
 clear hr
 go_enter Tryz.func124, Tryz.ntmps124
 go_wp2_with fail
 go_loopw [3, 9] (fun q i wr => ∃ j : Nat, j ≤ 4 ∧ i = .int .i64 j ∧ OwnS wr w.heap.size q (wdK k j) ∧ Below w.heap.size w wr) (fun _ i _ => 4 - (intOf i).toNat)
 case atStart => exact ⟨0, Nat.zero_le _, rfl, OwnS.nil _ _, Below.refl _ _⟩
 case round =>
  obtain ⟨j, hj, rfl, hown, hbel⟩ := hrel
  clear t0 t1 t2 t3
  by_cases hj4 : j < 4
  ·have hle := wdK_le k j
   have HY : Hid (k.testBit j = true → wdK k (j + 1) = wdK k j ++ [flL.getD j []]) := wdK_yes
   have HN : Hid (k.testBit j = false → wdK k (j + 1) = wdK k j) := wdK_no
   have hb := HB.out j hj4
   have hf := HS.out j hj4
   generalize wdK k j = ws at *
   have hji : (j : Int) < 4 := by omega
   have hIx := ixF j hj4 wr
   generalize hx : flL.getD j [] = x at *
   cases hbit : Nat.testBit k j with
   | true =>
    have HW : Hid (wdK k (j + 1) = ws ++ [x]) := HY.out hbit
    obtain ⟨y, hb', hy⟩ : ∃ y : Int, Go.bits BinOp.and IntKind.i64 (k : Int) (wrap64 (2 ^ j)) = y ∧ ¬ y = 0 := ⟨_, rfl, by rw [hb, if_pos hbit]; exact Int.ne_of_gt (Int.pow_pos (by omega))⟩
    have hcs : (#[Value.string (flN j)] : Array Value).toList = sc [x] := by rw [hf]; rfl
    clear HY HN HB HS hb hbit hf hx
    obtain ⟨aw, cw, rfl, -, -⟩ := id hown.form
    go_wp2_with (at_builtin; refine wpList_app_newT (by rfl) _ _ (by rfl) w.heap.size _ ws (by rfl) hown 1 1 [x] (by rfl) (by rfl) hcs (by omega) hbel.size ?_; intro v' w1 hown' hb1; have hbel' := hbel.trans hb1; obtain ⟨a', c', rfl, hc', hcm'⟩ := hown'.form)
    go_roundw
    case rel =>
     refine ⟨_, _, _, _, ⟨j + 1, by omega, ?_, ?_⟩, rfl, rfl, rfl, rfl⟩
     ·go_num
     ·rw [HW.out]; simpa using hown'
    case measure => simp [intOf]; omega
   | false =>
    have HW : Hid (wdK k (j + 1) = ws) := HN.out hbit
    have hb' : Go.bits BinOp.and IntKind.i64 (k : Int) (wrap64 (2 ^ j)) = 0 := by rw [hb, hbit]; rfl
    clear HY HN HB HS hb hbit hf hx
    obtain ⟨aw, cw, rfl, -, -⟩ := id hown.form
    go_wp2
    go_roundw
    case rel => exact ⟨j + 1, by omega, by go_num, by rw [HW.out]; exact hown, hbel⟩
    case measure => simp [intOf]; omega
  ·have hjj : j = 4 := by omega
   subst hjj
   have hle := wdK_le k 4
   obtain ⟨aw, cw, rfl, hwc, hwm⟩ := id hown.form
   obtain ⟨hlen, hrd⟩ := hown.rd
   have hpos : 0 < (wdK k 4).length := List.length_pos_iff.2 HJ.out.1
   obtain ⟨g, o, rfl, hglt, hcell⟩ := hrd.at_ hpos
   have HC := Tryz.strings_Join g o cw ((wdK k 4).map str) ⟨#[32]⟩ wr (fun i x hx => by
    have hi : i < (wdK k 4).length := by
     rcases Nat.lt_or_ge i (wdK k 4).length with h | h
     ·exact h
     ·rw [List.getElem?_eq_none (by rw [List.length_map]; exact h)] at hx; cases hx
    rw [List.getElem?_map, List.getElem?_eq_getElem hi, Option.map_some] at hx
    cases hx
    have := hcell i hi
    rw [nthS_get hi] at this
    exact this) hglt (by rw [List.length_map]; omega) (by rw [List.length_map]; exact hwc) (by
    rw [List.map_map]
    have e := HJ.out.2.1
    rw [show (List.map ((fun x => x.data.toList) ∘ str) (wdK k 4)) = ((wdK k 4).map fun x => (str x).data.toList) from rfl, show (ByteArray.mk #[32]).data.toList = [32] from rfl, e, List.length_map]
    have := HJ.out.2.2
    omega)
   rw [List.length_map, List.map_map, show (List.map ((fun x => x.data.toList) ∘ str) (wdK k 4)) = ((wdK k 4).map fun x => (str x).data.toList) from rfl, show (ByteArray.mk #[32]).data.toList = [32] from rfl, HJ.out.2.1] at HC
   rw [HM.out] at HC
   generalize (wdK k 4).length = N at *
   have hji : ¬ ((4 : Nat) : Int) < 4 := by omega
   go_wp2_with fail
   refine HC.mono ?_
   rintro e w2 ⟨rfl, hb2⟩
   have hbw := hbel.trans (hb2.mono hbel.size)
   clear HC
   go_wp2
   go_ret
   exact ⟨rfl, hbw⟩
end Go.Proofs.YtjogclofjollnaaGreatDoor
namespace Go.Proofs.YtjogclofjollnaaGreatDoor
open Go.RowKit
set_option maxHeartbeats 800000 in
set_option maxRecDepth 100000 in
theorem l7FlagName_any (j : Nat) (w : World) (hj : j < 4) :
  Calls Tryz.prog 128 #[.int .i64 (j : Int)] w fun e w' => e = .returned (.string (str (flL.getD j []))) ∧ Below w.heap.size w w' := by
 obtain rfl | rfl | rfl | rfl : j = 0 ∨ j = 1 ∨ j = 2 ∨ j = 3 := by omega
 all_goals
  go_enter Tryz.func128, Tryz.ntmps128
  go_wp2
  go_ret
  exact ⟨rfl, by go_grown⟩
def otL (k : Nat) : Nat → List Nat
 | 0 => []
 | j + 1 => if k.testBit j = true then (if otL k j = [] then flL.getD j [] else (otL k j ++ [32]) ++ flL.getD j []) else otL k j
theorem otFacts : ∀ k : Nat, k < 16 → (∀ j : Nat, j < 5 → (otL k j).length ≤ 60) ∧ (if otL k 4 = [] then [110, 111, 110, 101] else otL k 4) = fxL k ∧ ∀ j : Nat, j < 4 → ((k : Int) / 2 ^ j).tmod 2 = if k.testBit j = true then 1 else 0 := by decide +kernel
theorem flLen : ∀ j : Nat, j < 4 → (flL.getD j []).length ≤ 10 := by decide
theorem strF_app (a b : List Nat) : str a ++ str b = str (a ++ b) := by
 have h : (str a ++ str b).data = (str (a ++ b)).data := by
  rw [ByteArray.data_append]
  simp [str]
 exact congrArg ByteArray.mk h
theorem str_emp {a : List Nat} : (str a).toList.isEmpty = decide (a = []) := by
 rw [ByteArray.toList_eq]
 cases a <;> simp [str]
set_option maxHeartbeats 1600000 in
set_option maxRecDepth 100000 in
theorem l7Flags_any (k : Nat) (w : World) (hk : k < 16) :
  Calls Tryz.prog 114 #[.int .i64 (k : Int)] w fun e w' => e = .returned (.string (str (fxL k))) ∧ Below w.heap.size w w' := by
 obtain ⟨h1, h2, h3⟩ := otFacts k hk
 have HL : Hid (∀ j : Nat, j < 5 → (otL k j).length ≤ 60) := h1
 have HE : Hid ((if otL k 4 = [] then [110, 111, 110, 101] else otL k 4) = fxL k) := h2
 have HT : Hid (∀ j : Nat, j < 4 → ((k : Int) / 2 ^ j).tmod 2 = if k.testBit j = true then 1 else 0) := h3
 clear h1 h2 h3
 obtain ⟨r, hr⟩ : ∃ r, str (fxL k) = r := ⟨_, rfl⟩
 have HM : Hid (str (fxL k) = r) := hr
 rw [hr]
 clear hr
 go_enter Tryz.func114, Tryz.ntmps114
 go_wp2_with fail
 go_loopw [3, 4] (fun q i wr => ∃ j : Nat, j ≤ 4 ∧ i = .int .i64 j ∧ q = .string (str (otL k j)) ∧ Below w.heap.size w wr) (fun _ i _ => 4 - (intOf i).toNat)
 case atStart => exact ⟨0, Nat.zero_le _, rfl, rfl, Below.refl _ _⟩
 case round =>
  obtain ⟨j, hj, rfl, rfl, hbel⟩ := hrel
  by_cases hj4 : j < 4
  ·have hji : (j : Int) < 4 := by omega
   have hz := HL.out j (by omega)
   have ht := HT.out j hj4
   have HC := l7FlagName_any j wr hj4
   have hfl := flLen j hj4
   have HS : Hid (otL k (j + 1) = if k.testBit j = true then (if otL k j = [] then flL.getD j [] else (otL k j ++ [32]) ++ flL.getD j []) else otL k j) := rfl
   have hsz : (str (otL k j)).size ≤ 60 := by rw [str_size]; exact hz
   have hfz : (str (flL.getD j [])).size ≤ 10 := by rw [str_size]; exact hfl
   cases hbit : k.testBit j with
   | true =>
    have hb : ¬ ((k : Int) / 2 ^ j).tmod 2 = 0 := by rw [ht, hbit]; decide
    by_cases he : otL k j = []
    ·have HW : Hid (str (otL k (j + 1)) = str (flL.getD j [])) := by show _ = _; rw [HS.out, hbit, if_pos rfl, if_pos he]
     have he' : (str (otL k j)).toList.isEmpty = true := by rw [str_emp]; exact decide_eq_true he
     have he2 : (str (otL k j)).toList = [] := List.isEmpty_iff.1 he'
     have HO : Hid (str (otL k j) ++ str (flL.getD j []) = str (flL.getD j [])) := by show _ = _; rw [strF_app, he]; rfl
     clear HS HT HL HE ht hz hfl hbit he
     generalize str (otL k j) = o at *
     generalize str (flL.getD j []) = f at *
     go_wp2_with fail
     refine HC.mono ?_
     rintro e w2 ⟨rfl, hb2⟩
     have hbel2 := hbel.trans (hb2.mono hbel.size)
     clear HC
     go_wp2
     go_roundw
     case rel => exact ⟨j + 1, by omega, by go_num, by rw [HW.out, HO.out], hbel2⟩
     case measure => simp [intOf]; omega
    ·have HW : Hid (str (otL k (j + 1)) = str ((otL k j ++ [32]) ++ flL.getD j [])) := by show _ = _; rw [HS.out, hbit, if_pos rfl, if_neg he]
     have he' : (str (otL k j)).toList.isEmpty = false := by rw [str_emp]; exact decide_eq_false he
     have he2 : ¬ (str (otL k j)).toList = [] := List.isEmpty_eq_false_iff.1 he'
     have HO : Hid ((str (otL k j) ++ ⟨#[32]⟩) ++ str (flL.getD j []) = str ((otL k j ++ [32]) ++ flL.getD j [])) := by
      show _ = _
      rw [← strF_app, ← strF_app]; rfl
     clear HS HT HL HE ht hz hfl hbit he
     generalize str ((otL k j ++ [32]) ++ flL.getD j []) = o2 at *
     generalize str (otL k j) = o at *
     generalize str (flL.getD j []) = f at *
     have hsz2 : (o ++ (⟨#[32]⟩ : ByteArray)).size ≤ 61 := by rw [ByteArray.size_append]; have : (⟨#[32]⟩ : ByteArray).size = 1 := rfl; omega
     go_wp2_with fail
     refine HC.mono ?_
     rintro e w2 ⟨rfl, hb2⟩
     have hbel2 := hbel.trans (hb2.mono hbel.size)
     clear HC
     go_wp2
     go_roundw
     case rel => exact ⟨j + 1, by omega, by go_num, by rw [HW.out, ← HO.out], hbel2⟩
     case measure => simp [intOf]; omega
   | false =>
    have hb : ((k : Int) / 2 ^ j).tmod 2 = 0 := by rw [ht, hbit]; rfl
    have HW : Hid (str (otL k (j + 1)) = str (otL k j)) := by show _ = _; rw [HS.out, hbit]; rfl
    clear HS HT HL HE ht hz hfl hbit
    generalize str (otL k j) = o at *
    go_wp2
    go_roundw
    case rel => exact ⟨j + 1, by omega, by go_num, by rw [HW.out], hbel⟩
    case measure => simp [intOf]; omega
  ·have hjj : j = 4 := by omega
   subst hjj
   have hji : ¬ ((4 : Nat) : Int) < 4 := by omega
   by_cases he : otL k 4 = []
   ·have HR : Hid (r = ⟨#[110, 111, 110, 101]⟩) := by show _ = _; rw [← HM.out, ← HE.out, if_pos he]; rfl
    have he' : (str (otL k 4)).toList.isEmpty = true := by rw [str_emp]; exact decide_eq_true he
    have he2 : (str (otL k 4)).toList = [] := List.isEmpty_iff.1 he'
    clear HM HE HT HL he
    generalize str (otL k 4) = o at *
    go_wp2
    go_ret
    exact ⟨by rw [HR.out]; rfl, hbel⟩
   ·have HR : Hid (r = str (otL k 4)) := by show _ = _; rw [← HM.out, ← HE.out, if_neg he]
    have he' : (str (otL k 4)).toList.isEmpty = false := by rw [str_emp]; exact decide_eq_false he
    have he2 : ¬ (str (otL k 4)).toList = [] := List.isEmpty_eq_false_iff.1 he'
    clear HM HE HT HL he
    generalize str (otL k 4) = o at *
    go_wp2
    go_ret
    exact ⟨by rw [HR.out]; rfl, hbel⟩
end Go.Proofs.YtjogclofjollnaaGreatDoor
