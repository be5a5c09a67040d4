/- Words on memory, with no program in them: where a slice of bytes is read, what a row of the call's own holds; no conditions beyond those that each fact names · What the program knows of the type of a byte: a closed fact · What an append of bytes to a slice of the call's own leaves, and what a conversion of one into a string gives: laws for this program's types; at most 1073741824 bytes. -/
import Derived.WalkKit
import Derived.Deep.AppendLies
import Derived.OpenShut
import Derived.WalkSmall
import Derived.Test.YtdcgihcjiiemdaaDoorProg
import Derived.BigQuiet
import Derived.Deep.QuietTactic
import Derived.KernelRfl
import Derived.Laws.BytesArg
import Derived.Laws.IdiomStrings
namespace Go.Proofs.YtdcgihcjiiemdaaDoor
open Go.RowKit
def nth (l : List Nat) (i : Nat) : Nat := l.getD i 0
def bc (l : List Nat) : List Value := l.map fun (b : Nat) => Value.int .u8 (b : Int)
def IsB (l : List Nat) : Prop := ∀ b ∈ l, b < 256
theorem nth_lt {l : List Nat} (h : IsB l) (i : Nat) : nth l i < 256 := by
 unfold nth
 rw [List.getD_eq_getElem?_getD]
 cases e : l[i]? with
 | none => simp
 | some b => simpa using h b (List.mem_of_getElem? e)
theorem nth_get {l : List Nat} {i : Nat} (h : i < l.length) : nth l i = l[i] := by
 unfold nth; rw [List.getD_eq_getElem?_getD, List.getElem?_eq_getElem h]; rfl
theorem bc_len (l : List Nat) : (bc l).length = l.length := by simp [bc]
theorem bc_one (l : List Nat) : ∀ u ∈ bc l, u.oneCell' = true := by
 intro u hu
 simp only [bc, List.mem_map] at hu
 obtain ⟨b, _, rfl⟩ := hu
 rfl
theorem bc_app (a b : List Nat) : bc (a ++ b) = bc a ++ bc b := by simp [bc]
theorem bc_get {l : List Nat} {i : Nat} (h : i < l.length) : (bc l)[i]? = some (.int .u8 (nth l i : Int)) := by
 rw [nth_get h]; simp [bc, h]
theorem isB_take {l : List Nat} (h : IsB l) (n : Nat) : IsB (l.take n) := fun b hb => h b (List.mem_of_mem_take hb)
theorem isB_drop {l : List Nat} (h : IsB l) (n : Nat) : IsB (l.drop n) := fun b hb => h b (List.mem_of_mem_drop hb)
theorem nth_drop (l : List Nat) (k i : Nat) : nth (l.drop k) i = nth l (k + i) := by
 simp [nth, List.getD_eq_getElem?_getD, List.getElem?_drop]
theorem take_snoc (l : List Nat) (k : Nat) (h : k < l.length) : l.take (k + 1) = l.take k ++ [nth l k] := by
 rw [List.take_succ_eq_append_getElem h, nth_get h]
theorem drop_cons (l : List Nat) (k : Nat) (h : k < l.length) : l.drop k = nth l k :: l.drop (k + 1) := by
 rw [nth_get h]; exact List.drop_eq_getElem_cons h
def Rd (w : World) (a : Option Addr) (l : List Nat) : Prop :=
 l = [] ∨ ∃ b off, a = some ⟨b, off, none⟩ ∧ b < w.heap.size ∧ ∀ i, i < l.length → w.cell? ⟨b, off + i, none⟩ = some (.int .u8 (nth l i : Int))
theorem Rd.below {w w' : World} {a : Option Addr} {l : List Nat} (h : Rd w a l) (hb : Below w.heap.size w w') : Rd w' a l := by
 rcases h with h | ⟨b, off, e, hlt, hc⟩
 ·exact .inl h
 ·exact .inr ⟨b, off, e, Nat.lt_of_lt_of_le hlt hb.size, fun i hi => (hb.cell (p := ⟨b, off + i, none⟩) hlt).trans (hc i hi)⟩
theorem Rd.at_ {w : World} {a : Option Addr} {l : List Nat} (h : Rd w a l) (hp : 0 < l.length) :
  ∃ b off, a = some ⟨b, off, none⟩ ∧ b < w.heap.size ∧ ∀ i, i < l.length → w.cell? ⟨b, off + i, none⟩ = some (.int .u8 (nth l i : Int)) := by
 rcases h with h | h
 ·rw [h] at hp; simp at hp
 ·exact h
theorem Rd.drop {w : World} {b off : Nat} {l : List Nat} (h : Rd w (some ⟨b, off, none⟩) l) (k : Nat) : Rd w (some ⟨b, off + k, none⟩) (l.drop k) := by
 rcases h with h | ⟨b', off', e, hlt, hc⟩
 ·left; simp [h]
 ·obtain ⟨rfl, rfl⟩ : b = b' ∧ off = off' := by simpa using e
  right
  refine ⟨b, off + k, rfl, hlt, fun i hi => ?_⟩
  rw [List.length_drop] at hi
  rw [nth_drop, Nat.add_assoc]
  exact hc (k + i) (by omega)
theorem Rd.cut {w : World} {b off j c : Nat} {l : List Nat} (h : Rd w (some ⟨b, off + j, none⟩) l) (hc : c = j → l = []) : Rd w (if c = j then some ⟨b, off, none⟩ else some ⟨b, off + j, none⟩) l := by
 by_cases e : c = j
 ·exact .inl (hc e)
 ·rw [if_neg e]; exact h
theorem Rd.own {w : World} {base e n cap : Nat} {a : Option Addr} {l : List Nat} (h : w.ownsRow base e 1 (.slice a n cap) n (bc l)) : Rd w a l := by
 have hl : l.length = n := by simpa [bc_len] using h.1
 rcases h.2 with ⟨_, h0⟩ | ⟨g, cap', cur, h', _, hg, _, _, _, htake⟩
 ·left; exact List.length_eq_zero_iff.1 (by omega)
 ·simp only [Value.slice.injEq] at h'
  obtain ⟨rfl, _, rfl⟩ := h'
  right
  refine ⟨g, 0, rfl, ?_, fun i hi => ?_⟩
  ·rcases Nat.lt_or_ge g w.heap.size with hlt | hge
   ·exact hlt
   ·simp [Array.getElem?_eq_none hge] at hg
  ·rw [cell_of_row w g (0 + i) cur e (0, 0) hg, ← bc_get hi, ← htake, List.getElem?_take, if_pos (by omega)]
   simp
def IsRow (k : IntKind) (w : World) (a : Option Addr) (len cap : Nat) (zs : List Int) : Prop :=
 (a = none ∧ len = 0 ∧ cap = 0 ∧ zs = []) ∨
 ∃ x, a = some x ∧ len ≤ cap ∧ cap ≤ maxLen ∧ zs.length = cap ∧ (∀ i, i < zs.length → w.cell? (x.add i) = some (.int k (zs.getD i 0))) ∧ ∀ n ∈ zs, (Lit.int k n).wf = true
theorem IsRow.rd {w : World} {a : Option Addr} {len cap : Nat} {zs : List Int} (h : IsRow .u8 w a len cap zs) : ∃ l : List Nat, l.length = len ∧ IsB l ∧ Rd w a l ∧ len ≤ maxLen := by
 rcases h with ⟨_, rfl, _, rfl⟩ | ⟨x, rfl, hl, hm, hz, hcell, hwz⟩
 ·exact ⟨[], rfl, by intro b hb; simp at hb, .inl rfl, by decide⟩
 ·have hw : ∀ n ∈ zs, 0 ≤ n ∧ n ≤ 255 := fun n hn => bounds_u8 (hwz n hn)
  refine ⟨(zs.take len).map Int.toNat, by simp; omega, ?_, ?_, by omega⟩
  ·intro b hb
   simp only [List.mem_map] at hb
   obtain ⟨n, hn, rfl⟩ := hb
   have := hw n (List.mem_of_mem_take hn)
   omega
  ·by_cases h0 : zs.length = 0
   ·left
    have : zs = [] := List.length_eq_zero_iff.1 h0
    subst this; simp
   ·obtain ⟨b, off, rfl, hc⟩ := ints_at hcell (by omega)
    right
    refine ⟨b, off, rfl, World.block_lt_of_cell? w _ (hc 0 (by omega)), fun i hi => ?_⟩
    have hi' : i < len := by simp at hi; omega
    have hiz : i < zs.length := by omega
    rw [hc i hiz, nth_get hi]
    have h1 := hw zs[i] (List.getElem_mem hiz)
    simp [hiz]
    omega
end Go.Proofs.YtdcgihcjiiemdaaDoor
namespace Go.Proofs.YtdcgihcjiiemdaaDoor
open Go.RowKit
theorem infoB : (Tryd.prog.info? 5).map (fun i => (i.zero, i.size, i.bytes)) = some (some (.int .u8 0), 1, 1) := by kernel_rfl
end Go.Proofs.YtdcgihcjiiemdaaDoor
namespace Go.Proofs.YtdcgihcjiiemdaaDoor
open Go.RowKit
def Own (w : World) (B : Nat) (v : Value) (l : List Nat) : Prop := w.ownsRow B 5 1 v l.length (bc l)
theorem Own.nil (w : World) (B : Nat) : Own w B (.slice none 0 0) [] := World.ownsRow_nil _ _ _ _
theorem Own.lit (w : World) (B : Nat) (hB : B ≤ w.heap.size) (cs : Array Value) (l : List Nat) (h : cs.toList = bc l) (hl : l.length ≤ maxLen) : Own (w.alloc (.cells cs 5)) B (.slice (some ⟨w.heap.size, 0, none⟩) l.length l.length) l := by
 have := World.ownsRow_lit (base := B) (e := 5) (size := 1) w cs l.length hB hl (by rw [← Array.length_toList, h, bc_len]; omega)
 rw [h] at this
 exact this
theorem Own.alloc {w : World} {B : Nat} {v : Value} {l : List Nat} (h : Own w B v l) (o : Obj) : Own (w.alloc o) B v l := World.ownsRow.alloc h o
theorem Own.drew {w : World} {B : Nat} {v : Value} {l : List Nat} (h : Own w B v l) : Own w.drew B v l := h
theorem Own.below {w w' : World} {B C : Nat} {v : Value} {l : List Nat} (h : Own w B v l) (hb : Below C w w') (hC : w.heap.size ≤ C) : Own w' B v l := by
 refine ⟨h.1, ?_⟩
 rcases h.2 with h' | ⟨g, cap, cur, h1, h2, h3, h4⟩
 ·exact .inl h'
 ·refine .inr ⟨g, cap, cur, h1, h2, ?_, h4⟩
  have hg : g < w.heap.size := by
   rcases Nat.lt_or_ge g w.heap.size with hlt | hge
   ·exact hlt
   ·simp [Array.getElem?_eq_none hge] at h3
  rw [hb.block g (by omega)]; exact h3
theorem Own.form {w : World} {B : Nat} {v : Value} {l : List Nat} (h : Own w B v l) : ∃ a cap, v = .slice a l.length cap ∧ l.length ≤ cap ∧ cap ≤ maxLen := by
 rcases h.2 with ⟨h', h0⟩ | ⟨g, cap, cur, h', _, _, h4, h5, _⟩
 ·exact ⟨none, 0, by rw [h', h0], by omega, by decide⟩
 ·exact ⟨_, cap, h', h4, h5⟩
theorem Own.rd {w : World} {B n cap : Nat} {a : Option Addr} {l : List Nat} (h : Own w B (.slice a n cap) l) : l.length = n ∧ Rd w a l := by
 have hf : l.length = n := by
  obtain ⟨a', c', e, _⟩ := h.form
  simp at e; omega
 subst hf
 exact ⟨rfl, Rd.own h⟩
theorem wpList_app {w : World} {ops : Array Oper} {rest : List Oper} {o : Oper} {a : Act} {Q : Exit → Act → World → Prop} (hgd : o.guard = none) (s x : Operand)
  (ho : o.op = .call { callee := .builtin .append, args := #[s, x], argTypes := #[22, 22] })
  (B : Nat) (v : Value) (l : List Nat) (hs : a.eval s = v) (hown : Own w B v l) (ad : Addr) (m c : Nat) (new : List Nat) (hx : a.eval x = .slice (some ad) m c) (hm : new.length = m)
  (hnew : ∀ j, j < m → w.cell? (ad.add j) = some (.int .u8 (nth new j : Int))) (hsz : l.length + m ≤ 1073741824) (hB : B ≤ w.heap.size)
  (h : ∀ v' w1, Own w1 B v' (l ++ new) → Below B w w1 → wpList Tryd.prog ops Q rest (a.put o.dst v') w1) : wpList Tryd.prog ops Q (o :: rest) a w := by
 obtain ⟨i0, hi, hz0, hz1, hz2⟩ := info_parts infoB
 refine wpList_append_own w hgd s x 22 ho B 5 i0 (.int .u8 0) 1 1 Tryd.underlying22 hi hz0 hz1 hz2 rfl (by decide) v l.length (bc l) hs hown ad m c (bc new) hx (by rw [bc_len, hm]; omega) ?_ (bc_one new) (by unfold maxLen; omega) (by omega) hB ?_
 ·intro j u hj
  have hjl : j < new.length := by
   rcases Nat.lt_or_ge j new.length with hlt | hge
   ·exact hlt
   ·rw [List.getElem?_eq_none (by rw [bc_len]; exact hge)] at hj; cases hj
  rw [bc_get hjl] at hj
  cases hj
  exact hnew j (by omega)
 ·intro v' w1 hown' hgr _
  refine h v' w1 ?_ ((Below.refl _ _).grown hgr hB (fun k hk => (hown.lt k hk).1))
  unfold Own
  rw [bc_app, List.length_append, hm]
  exact hown'
theorem wpList_app_new {wr : World} {cs : Array Value} {ops : Array Oper} {rest : List Oper} {o : Oper} {a : Act} {Q : Exit → Act → World → Prop} (hgd : o.guard = none) (s x : Operand)
  (ho : o.op = .call { callee := .builtin .append, args := #[s, x], argTypes := #[22, 22] })
  (B : Nat) (v : Value) (l : List Nat) (hs : a.eval s = v) (hown : Own wr B v l) (m c : Nat) (new : List Nat) (hx : a.eval x = .slice (some ⟨wr.heap.size, 0, none⟩) m c) (hm : new.length = m) (hcs : cs.toList = bc new)
  (hsz : l.length + m ≤ 1073741824) (hB : B ≤ wr.heap.size)
  (h : ∀ v' w1, Own w1 B v' (l ++ new) → Below B wr w1 → wpList Tryd.prog ops Q rest (a.put o.dst v') w1) : wpList Tryd.prog ops Q (o :: rest) a (wr.alloc (.cells cs 5)) := by
 have hb : Below B wr (wr.alloc (.cells cs 5)) := (Below.refl _ _).alloc hB _
 refine wpList_app hgd s x ho B v l hs (hown.alloc _) ⟨wr.heap.size, 0, none⟩ m c new hx hm ?_ hsz (by simp; omega) (fun v' w1 h1 h2 => h v' w1 h1 (hb.trans h2))
 intro j hj
 have e : (⟨wr.heap.size, 0, none⟩ : Addr).add j = ⟨wr.heap.size, j, none⟩ := by rw [Go.WideShapes.add_plain, Nat.zero_add]
 rw [e, World.cell?_alloc_mark, ← Array.getElem?_toList, hcs]
 exact bc_get (by omega)
def str (l : List Nat) : ByteArray := ⟨(l.map UInt8.ofNat).toArray⟩
theorem str_size (l : List Nat) : (str l).size = l.length := by simp [str, ByteArray.size]
theorem str_get {l : List Nat} (hB : IsB l) {i : Nat} (h : i < (str l).size) : ((str l)[i]).toNat = nth l i := by
 have hl : i < l.length := by rw [← str_size]; exact h
 have hb := hB l[i] (List.getElem_mem hl)
 rw [nth_get hl]
 have h2 : i < (l.map UInt8.ofNat).toArray.size := by simpa using hl
 show ((l.map UInt8.ofNat).toArray[i]'h2).toNat = _
 simp only [List.getElem_toArray, List.getElem_map, UInt8.toNat_ofNat']
 omega
theorem strOfNums_bytes (l : List Nat) : strOfNums (l.map fun (b : Nat) => (b : Int)) = str l := by
 simp [strOfNums, str]
theorem run_str {w : World} {a : Option Addr} {n cap : Nat} {l : List Nat} (hl : l.length = n) (hr : Rd w a l) :
  (convert 22 9 (.slice a n cap)).run Tryd.prog w = .ok (.string (str l)) w := by
 rcases hr with h | ⟨b, off, rfl, _, hc⟩
 ·subst h
  simp at hl
  subst hl
  cases a with
  | none => exact run_convert_bytes_nil w 22 5 Tryd.underlying22 Tryd.underlying5 0 cap 9 Tryd.underlying9
  | some ad =>
   rw [run_convert_bytes_string w 22 9 5 _ 0 cap Tryd.underlying22 Tryd.underlying5 Tryd.underlying9]
   exact run_bytesToString w ad 0 cap [] (run_loadCells_list (P := Tryd.prog) w ad [] (fun j v hj => by simp at hj))
 ·rw [← strOfNums_bytes]
  refine run_convert_bytes_arg w 22 5 Tryd.underlying22 Tryd.underlying5 b off n cap _ (by simpa using hl) ?_ 9 Tryd.underlying9
  intro i hi
  rw [hc i (by omega), nth_get (by omega)]
  simp [List.getD_eq_getElem?_getD, show i < l.length by omega]
theorem bytesRow_take (l : List Nat) (hB : IsB l) (cap : Nat) : (bytesRow (str l) cap).toList.take l.length = bc l := by
 have e : ((str l).data.map fun b => Value.int .u8 b.toNat).toList = bc l := by
  simp only [str, Array.toList_map, bc, List.map_map]
  apply List.map_congr_left
  intro b hb
  have := hB b hb
  simp only [Function.comp, UInt8.toNat_ofNat']
  congr 1
  omega
 unfold bytesRow
 rw [Array.toList_append, e, List.take_append_of_le_length (by rw [bc_len]; exact Nat.le_refl _), List.take_of_length_le (by rw [bc_len]; exact Nat.le_refl _)]
theorem res_cells {wr : World} {sz : Nat} {x0 x1 : Value} (h0 : wr.cell? ⟨sz, 0, none⟩ = some x0) (h1 : wr.cell? ⟨sz, 1, none⟩ = some x1) (c t : Value) :
  (wr.setCell ⟨sz, 0, none⟩ c).cell? ⟨sz, 0, none⟩ = some c ∧ ((wr.setCell ⟨sz, 0, none⟩ c).setCell ⟨sz, 1, none⟩ t).cell? ⟨sz, 1, none⟩ = some t := by
 have h1' : (wr.setCell ⟨sz, 0, none⟩ c).cell? ⟨sz, 1, none⟩ = some x1 := by simp [go_sem, h1]
 exact ⟨World.cell?_setCell_same _ _ _ h0, World.cell?_setCell_same _ _ _ h1'⟩
theorem res_block {w W wr : World} {c0 c1 : Value} {t : TypeId} (hW : w.alloc (.cells #[c0, c1] t) = W) (hb : Below (w.heap.size + 1) W wr) :
  wr.cell? ⟨w.heap.size, 0, none⟩ = some c0 ∧ wr.cell? ⟨w.heap.size, 1, none⟩ = some c1 ∧ wr.frozen? ⟨w.heap.size, 0, none⟩ = false ∧ wr.frozen? ⟨w.heap.size, 1, none⟩ = false := by
 subst hW
 refine ⟨?_, ?_, ?_, ?_⟩
 ·rw [hb.cell (p := ⟨w.heap.size, 0, none⟩) (by simp)]; simp
 ·rw [hb.cell (p := ⟨w.heap.size, 1, none⟩) (by simp)]; simp
 ·rw [hb.frozen (p := ⟨w.heap.size, 0, none⟩) (by simp)]; simp
 ·rw [hb.frozen (p := ⟨w.heap.size, 1, none⟩) (by simp)]; simp
end Go.Proofs.YtdcgihcjiiemdaaDoor
