/- The closed facts that speak of the program alone · The closed facts of the row of the law FnExactCmdText, one by one · Words on memory, with no program in them: where a slice of bytes is read, what a row of the call's own holds; no conditions beyond those that each fact names · What the program knows of the type of a byte: a closed fact · What an append of bytes to a slice of the call's own leaves, and what a conversion of one into a string gives: laws for this program's types; at most 1073741824 bytes. -/
import Derived.Test.YtjogclofjollnaaGreatDoorCards
import Derived.Test.YtjogclofjollnaaGreatDoorTie
import Derived.WalkKit
import Derived.ProofKit
import Derived.OpenShut
import Derived.Deep.AppendLies
import Derived.WalkSmall
import Derived.Test.YtjogclofjollnaaGreatDoorProg
import Derived.BigQuiet
import Derived.Deep.QuietTactic
import Derived.KernelRfl
import Derived.Laws.BytesArg
import Derived.Laws.IdiomStrings
namespace Go.Proofs.YtjogclofjollnaaGreatDoor
open Go.ChangeShapes Go.WideShapes Go.ChangeAt Go.RowKit
theorem jz2 : (laidOutB Tryz.prog) = true := by kernel_rfl
theorem jz3 : (mapsRowed Tryz.prog) = true := by kernel_rfl
theorem jz7 : ((Tryz.prog.stops == [])) = true := by kernel_rfl
theorem jz9 : ((Tryz.prog.stopKnobs == [])) = true := by kernel_rfl
theorem jz25 : (Tryz.prog.stopsHeard) = true := by kernel_rfl
theorem jz26 : (Tryz.prog.mayEnter) = true := by kernel_rfl
theorem jz27 : ((Rows.fnExactCmdTextRow.lifted == Tryz.prog.liftsFinal)) = true := by kernel_rfl
theorem jzMain : Tryz.pinned.checked.prog.mainIs = some (Rows.fnExactCmdTextCard.stood.harness.1, Rows.fnExactCmdTextCard.stood.harness.2.toList) := by kernel_rfl
theorem jzLooks : true = Tryz.pinned.checked.prog.looks [] := by kernel_rfl
theorem jzOwn : ownKnob Tryz.prog.godebug = none := by kernel_rfl
theorem jzAnd {a b : Bool} (h : a = true) (k : b = true) : (a && b) = true := by rw [h, k]; rfl
end Go.Proofs.YtjogclofjollnaaGreatDoor
namespace Go.Proofs.YtjogclofjollnaaGreatDoor.fnExactCmdText
open Go.ChangeShapes Go.WideShapes Go.ChangeAt Go.RowKit
theorem jf1 : (Rows.fnExactCmdTextRow.wf (OpenSpec.ofChange Rows.fnExactCmdTextSpec)) = true := by kernel_rfl
theorem jf2 : (laidOutB Tryz.prog) = true := jz2
theorem jf3 : (mapsRowed Tryz.prog) = true := jz3
theorem jf4 : (Tryz.f3.params.all (Tryz.prog.readableRec ·)) = true := by kernel_rfl
theorem jf5 : (namedTie Tryz.prog Rows.fnExactCmdTextRow.named Rows.fnExactCmdTextSpec.vars) = true := by kernel_rfl
theorem jf6 : ((Rows.fnExactCmdTextRow.stops == [])) = true := by kernel_rfl
theorem jf7 : ((Tryz.prog.stops == [])) = true := jz7
theorem jf8 : ((Rows.fnExactCmdTextRow.knobs == [])) = true := by kernel_rfl
theorem jf9 : ((Tryz.prog.stopKnobs == [])) = true := jz9
theorem jf10 : ((Rows.fnExactCmdTextRow.inPlace == Tryz.prog.inPlace 3)) = true := by kernel_rfl
theorem jf11 : ((Rows.fnExactCmdTextRow.unfollowed == Tryz.prog.unfollowed 3)) = true := by kernel_rfl
theorem jf12 : ((Rows.fnExactCmdTextRow.recurses == Tryz.prog.recurses 3)) = true := by kernel_rfl
theorem jf13 : ((Rows.fnExactCmdTextRow.named == Tryz.prog.varsNamed 3)) = true := by kernel_rfl
theorem jf14 : ((Rows.fnExactCmdTextRow.maps == (Tryz.f3.params.toList ++ Rows.fnExactCmdTextSpec.plain.varTypes Tryz.prog).any (Tryz.prog.mapsRec ·))) = true := by kernel_rfl
theorem jf15 : ((Rows.fnExactCmdTextRow.ifaces == (Tryz.f3.params.toList ++ Rows.fnExactCmdTextSpec.plain.varTypes Tryz.prog).any (Tryz.prog.ifacesRec ·))) = true := by kernel_rfl
theorem jf16 : ((Rows.fnExactCmdTextRow.mapsOut == Tryz.prog.mapsAmong Tryz.f3.resultTypes.toList)) = true := by kernel_rfl
theorem jf17 : ((Rows.fnExactCmdTextRow.loops == (Tryz.f3.params.toList ++ Rows.fnExactCmdTextSpec.plain.varTypes Tryz.prog).any (Tryz.prog.loopsFrom ·))) = true := by kernel_rfl
theorem jf18 : ((Rows.fnExactCmdTextRow.wideKeys == (Tryz.f3.params.toList ++ Rows.fnExactCmdTextSpec.plain.varTypes Tryz.prog ++ Tryz.f3.resultTypes.toList).any (Tryz.prog.wideKeysFrom ·))) = true := by kernel_rfl
theorem jf19 : (Rows.fnExactCmdTextSpec.vars.all (Tryz.prog.varReadable ·)) = true := by kernel_rfl
theorem jf20 : (Tryz.f3.resultTypes.all (fun t => Tryz.prog.readableRec t && decide (t < Tryz.prog.types.size))) = true := by kernel_rfl
theorem jf21 : ((Rows.fnExactCmdTextRow.ifacesOut == Tryz.f3.resultTypes.toList.any (Tryz.prog.ifacesRec ·))) = true := by kernel_rfl
theorem jf22 : ((Rows.fnExactCmdTextRow.loopsOut == Tryz.f3.resultTypes.toList.any (Tryz.prog.loopsFrom ·))) = true := by kernel_rfl
theorem jf23 : ((Rows.fnExactCmdTextRow.plainKeys == Tryz.prog.plainKeys)) = true := by kernel_rfl
theorem jf24 : (Rows.fnExactCmdTextRow.shortTexts.isNone) = true := by kernel_rfl
theorem jf25 : (Tryz.prog.stopsHeard) = true := jz25
theorem jf26 : (Tryz.prog.mayEnter) = true := jz26
theorem jf27 : ((Rows.fnExactCmdTextRow.lifted == Tryz.prog.liftsFinal)) = true := jz27
theorem jf28 : ((Tryz.prog.make == some Rows.fnExactCmdTextRow.make)) = true := by kernel_rfl
theorem jf29 : ((Rows.fnExactCmdTextRow.kinds == (if Rows.fnExactCmdTextRow.domain.isEmpty then [] else Tryz.f3.params.toList.map fun t => match Tryz.prog.underlying t with | some (.int k) => some k | _ => none))) = true := by kernel_rfl
theorem jf30 : ((Rows.fnExactCmdTextRow.pinned == Rows.fnExactCmdTextRow.pinnedBy)) = true := by kernel_rfl
theorem jf31 : ((Rows.fnExactCmdTextRow.veiled == (Tryz.f3.params.toList ++ Rows.fnExactCmdTextSpec.plain.varTypes Tryz.prog ++ Tryz.f3.resultTypes.toList).any (Tryz.prog.veiledRec ·))) = true := by kernel_rfl
theorem jf32 : (Rows.fnExactCmdTextRow.veiledFits Tryz.prog Tryz.f3.params.toList (Tryz.f3.params.toList ++ Rows.fnExactCmdTextSpec.plain.varTypes Tryz.prog ++ Tryz.f3.resultTypes.toList)) = true := by kernel_rfl
set_option maxRecDepth 100000 in
theorem closedF : joinedFacts Tryz.prog 3 Tryz.f3 Rows.fnExactCmdTextSpec Rows.fnExactCmdTextRow = true := by
 delta joinedFacts
 refine jzAnd ?_ jf32
 refine jzAnd ?_ jf31
 refine jzAnd ?_ jf30
 refine jzAnd ?_ jf29
 refine jzAnd ?_ jf28
 refine jzAnd ?_ jf27
 refine jzAnd ?_ jf26
 refine jzAnd ?_ jf25
 refine jzAnd ?_ jf24
 refine jzAnd ?_ jf23
 refine jzAnd ?_ jf22
 refine jzAnd ?_ jf21
 refine jzAnd ?_ jf20
 refine jzAnd ?_ jf19
 refine jzAnd ?_ jf18
 refine jzAnd ?_ jf17
 refine jzAnd ?_ jf16
 refine jzAnd ?_ jf15
 refine jzAnd ?_ jf14
 refine jzAnd ?_ jf13
 refine jzAnd ?_ jf12
 refine jzAnd ?_ jf11
 refine jzAnd ?_ jf10
 refine jzAnd ?_ jf9
 refine jzAnd ?_ jf8
 refine jzAnd ?_ jf7
 refine jzAnd ?_ jf6
 refine jzAnd ?_ jf5
 refine jzAnd ?_ jf4
 refine jzAnd ?_ jf3
 refine jzAnd ?_ jf2
 exact jf1
theorem byText : Rows.fnExactCmdTextRow.wfByText (OpenSpec.ofChange Rows.fnExactCmdTextSpec) = true := by kernel_rfl
theorem goesF : false = Rows.fnExactCmdTextRow.goesBy Tryz.pinned.checked.prog := by kernel_rfl
end Go.Proofs.YtjogclofjollnaaGreatDoor.fnExactCmdText
namespace Go.Proofs.YtjogclofjollnaaGreatDoor
open Go.RowKit
def nth (l : List Nat) (i : Nat) : Nat := l.getD i 0
def bc (l : List Nat) : List Value := l.map fun (b : Nat) => Value.int .u8 (b : Int)
def IsB (l : List Nat) : Prop := ∀ b ∈ l, b < 256
theorem nth_lt {l : List Nat} (h : IsB l) (i : Nat) : nth l i < 256 := by
 unfold nth
 rw [List.getD_eq_getElem?_getD]
 cases e : l[i]? with
 | none => simp
 | some b => simpa using h b (List.mem_of_getElem? e)
theorem nth_get {l : List Nat} {i : Nat} (h : i < l.length) : nth l i = l[i] := by
 unfold nth; rw [List.getD_eq_getElem?_getD, List.getElem?_eq_getElem h]; rfl
theorem bc_len (l : List Nat) : (bc l).length = l.length := by simp [bc]
theorem bc_one (l : List Nat) : ∀ u ∈ bc l, u.oneCell' = true := by
 intro u hu
 simp only [bc, List.mem_map] at hu
 obtain ⟨b, _, rfl⟩ := hu
 rfl
theorem bc_app (a b : List Nat) : bc (a ++ b) = bc a ++ bc b := by simp [bc]
theorem bc_get {l : List Nat} {i : Nat} (h : i < l.length) : (bc l)[i]? = some (.int .u8 (nth l i : Int)) := by
 rw [nth_get h]; simp [bc, h]
theorem nth_drop (l : List Nat) (k i : Nat) : nth (l.drop k) i = nth l (k + i) := by
 simp [nth, List.getD_eq_getElem?_getD, List.getElem?_drop]
theorem take_snoc (l : List Nat) (k : Nat) (h : k < l.length) : l.take (k + 1) = l.take k ++ [nth l k] := by
 rw [List.take_succ_eq_append_getElem h, nth_get h]
theorem drop_cons (l : List Nat) (k : Nat) (h : k < l.length) : l.drop k = nth l k :: l.drop (k + 1) := by
 rw [nth_get h]; exact List.drop_eq_getElem_cons h
def Rd (w : World) (a : Option Addr) (l : List Nat) : Prop :=
 l = [] ∨ ∃ b off, a = some ⟨b, off, none⟩ ∧ b < w.heap.size ∧ ∀ i, i < l.length → w.cell? ⟨b, off + i, none⟩ = some (.int .u8 (nth l i : Int))
theorem Rd.below {w w' : World} {a : Option Addr} {l : List Nat} (h : Rd w a l) (hb : Below w.heap.size w w') : Rd w' a l := by
 rcases h with h | ⟨b, off, e, hlt, hc⟩
 ·exact .inl h
 ·exact .inr ⟨b, off, e, Nat.lt_of_lt_of_le hlt hb.size, fun i hi => (hb.cell (p := ⟨b, off + i, none⟩) hlt).trans (hc i hi)⟩
theorem Rd.at_ {w : World} {a : Option Addr} {l : List Nat} (h : Rd w a l) (hp : 0 < l.length) :
  ∃ b off, a = some ⟨b, off, none⟩ ∧ b < w.heap.size ∧ ∀ i, i < l.length → w.cell? ⟨b, off + i, none⟩ = some (.int .u8 (nth l i : Int)) := by
 rcases h with h | h
 ·rw [h] at hp; simp at hp
 ·exact h
theorem Rd.drop {w : World} {b off : Nat} {l : List Nat} (h : Rd w (some ⟨b, off, none⟩) l) (k : Nat) : Rd w (some ⟨b, off + k, none⟩) (l.drop k) := by
 rcases h with h | ⟨b', off', e, hlt, hc⟩
 ·left; simp [h]
 ·obtain ⟨rfl, rfl⟩ : b = b' ∧ off = off' := by simpa using e
  right
  refine ⟨b, off + k, rfl, hlt, fun i hi => ?_⟩
  rw [List.length_drop] at hi
  rw [nth_drop, Nat.add_assoc]
  exact hc (k + i) (by omega)
theorem Rd.cut {w : World} {b off j c : Nat} {l : List Nat} (h : Rd w (some ⟨b, off + j, none⟩) l) (hc : c = j → l = []) : Rd w (if c = j then some ⟨b, off, none⟩ else some ⟨b, off + j, none⟩) l := by
 by_cases e : c = j
 ·exact .inl (hc e)
 ·rw [if_neg e]; exact h
theorem Rd.own {w : World} {base e n cap : Nat} {a : Option Addr} {l : List Nat} (h : w.ownsRow base e 1 (.slice a n cap) n (bc l)) : Rd w a l := by
 have hl : l.length = n := by simpa [bc_len] using h.1
 rcases h.2 with ⟨_, h0⟩ | ⟨g, cap', cur, h', _, hg, _, _, _, htake⟩
 ·left; exact List.length_eq_zero_iff.1 (by omega)
 ·simp only [Value.slice.injEq] at h'
  obtain ⟨rfl, _, rfl⟩ := h'
  right
  refine ⟨g, 0, rfl, ?_, fun i hi => ?_⟩
  ·rcases Nat.lt_or_ge g w.heap.size with hlt | hge
   ·exact hlt
   ·simp [Array.getElem?_eq_none hge] at hg
  ·rw [cell_of_row w g (0 + i) cur e (0, 0) hg, ← bc_get hi, ← htake, List.getElem?_take, if_pos (by omega)]
   simp
theorem made_bytes (n : Nat) : (madeCells (Value.int .u8 0).cells (n * 1)).toList = bc (List.replicate n 0) := by
 rw [Nat.mul_one]
 show (madeCells #[Value.int .u8 0] n).toList = _
 rw [toList_madeCells_one]
 simp [bc]
def half (l : List Nat) (k : Nat) : List Nat := l.take k ++ List.replicate (l.length - k) 0
theorem half_zero (l : List Nat) : half l 0 = List.replicate l.length 0 := by simp [half]
theorem half_all (l : List Nat) : half l l.length = l := by simp [half]
theorem half_len (l : List Nat) (k : Nat) (h : k ≤ l.length) : (half l k).length = l.length := by simp [half]; omega
theorem half_set (l : List Nat) (k : Nat) (h : k < l.length) : (bc (half l k)).set k (.int .u8 (nth l k : Int)) = bc (half l (k + 1)) := by
 have e : l.length - k = (l.length - (k + 1)) + 1 := by omega
 unfold half
 have hk : (bc (l.take k)).length = k := by simp [bc]; omega
 rw [take_snoc l k h, bc_app, List.set_append, hk, if_neg (Nat.lt_irrefl k), e, List.replicate_succ, Nat.sub_self]
 simp [bc]
def IsRow (k : IntKind) (w : World) (a : Option Addr) (len cap : Nat) (zs : List Int) : Prop :=
 (a = none ∧ len = 0 ∧ cap = 0 ∧ zs = []) ∨
 ∃ x, a = some x ∧ len ≤ cap ∧ cap ≤ maxLen ∧ zs.length = cap ∧ (∀ i, i < zs.length → w.cell? (x.add i) = some (.int k (zs.getD i 0))) ∧ ∀ n ∈ zs, (Lit.int k n).wf = true
theorem IsRow.rd {w : World} {a : Option Addr} {len cap : Nat} {zs : List Int} (h : IsRow .u8 w a len cap zs) : ∃ l : List Nat, l.length = len ∧ IsB l ∧ Rd w a l ∧ len ≤ maxLen := by
 rcases h with ⟨_, rfl, _, rfl⟩ | ⟨x, rfl, hl, hm, hz, hcell, hwz⟩
 ·exact ⟨[], rfl, by intro b hb; simp at hb, .inl rfl, by decide⟩
 ·have hw : ∀ n ∈ zs, 0 ≤ n ∧ n ≤ 255 := fun n hn => bounds_u8 (hwz n hn)
  refine ⟨(zs.take len).map Int.toNat, by simp; omega, ?_, ?_, by omega⟩
  ·intro b hb
   simp only [List.mem_map] at hb
   obtain ⟨n, hn, rfl⟩ := hb
   have := hw n (List.mem_of_mem_take hn)
   omega
  ·by_cases h0 : zs.length = 0
   ·left
    have : zs = [] := List.length_eq_zero_iff.1 h0
    subst this; simp
   ·obtain ⟨b, off, rfl, hc⟩ := ints_at hcell (by omega)
    right
    refine ⟨b, off, rfl, World.block_lt_of_cell? w _ (hc 0 (by omega)), fun i hi => ?_⟩
    have hi' : i < len := by simp at hi; omega
    have hiz : i < zs.length := by omega
    rw [hc i hiz, nth_get hi]
    have h1 := hw zs[i] (List.getElem_mem hiz)
    simp [hiz]
    omega
end Go.Proofs.YtjogclofjollnaaGreatDoor
namespace Go.Proofs.YtjogclofjollnaaGreatDoor
open Go.RowKit
theorem infoB : (Tryz.prog.info? 5).map (fun i => (i.zero, i.size, i.bytes)) = some (some (.int .u8 0), 1, 1) := by kernel_rfl
end Go.Proofs.YtjogclofjollnaaGreatDoor
namespace Go.Proofs.YtjogclofjollnaaGreatDoor
open Go.RowKit
def Own (w : World) (B : Nat) (v : Value) (l : List Nat) : Prop := w.ownsRow B 5 1 v l.length (bc l)
theorem Own.nil (w : World) (B : Nat) : Own w B (.slice none 0 0) [] := World.ownsRow_nil _ _ _ _
theorem Own.lit (w : World) (B : Nat) (hB : B ≤ w.heap.size) (cs : Array Value) (l : List Nat) (h : cs.toList = bc l) (hl : l.length ≤ maxLen) : Own (w.alloc (.cells cs 5)) B (.slice (some ⟨w.heap.size, 0, none⟩) l.length l.length) l := by
 have := World.ownsRow_lit (base := B) (e := 5) (size := 1) w cs l.length hB hl (by rw [← Array.length_toList, h, bc_len]; omega)
 rw [h] at this
 exact this
theorem Own.alloc {w : World} {B : Nat} {v : Value} {l : List Nat} (h : Own w B v l) (o : Obj) : Own (w.alloc o) B v l := World.ownsRow.alloc h o
theorem Own.drew {w : World} {B : Nat} {v : Value} {l : List Nat} (h : Own w B v l) : Own w.drew B v l := h
theorem Own.below {w w' : World} {B C : Nat} {v : Value} {l : List Nat} (h : Own w B v l) (hb : Below C w w') (hC : w.heap.size ≤ C) : Own w' B v l := by
 refine ⟨h.1, ?_⟩
 rcases h.2 with h' | ⟨g, cap, cur, h1, h2, h3, h4⟩
 ·exact .inl h'
 ·refine .inr ⟨g, cap, cur, h1, h2, ?_, h4⟩
  have hg : g < w.heap.size := by
   rcases Nat.lt_or_ge g w.heap.size with hlt | hge
   ·exact hlt
   ·simp [Array.getElem?_eq_none hge] at h3
  rw [hb.block g (by omega)]; exact h3
theorem Own.form {w : World} {B : Nat} {v : Value} {l : List Nat} (h : Own w B v l) : ∃ a cap, v = .slice a l.length cap ∧ l.length ≤ cap ∧ cap ≤ maxLen := by
 rcases h.2 with ⟨h', h0⟩ | ⟨g, cap, cur, h', _, _, h4, h5, _⟩
 ·exact ⟨none, 0, by rw [h', h0], by omega, by decide⟩
 ·exact ⟨_, cap, h', h4, h5⟩
theorem Own.rd {w : World} {B n cap : Nat} {a : Option Addr} {l : List Nat} (h : Own w B (.slice a n cap) l) : l.length = n ∧ Rd w a l := by
 have hf : l.length = n := by
  obtain ⟨a', c', e, _⟩ := h.form
  simp at e; omega
 subst hf
 exact ⟨rfl, Rd.own h⟩
theorem wpList_app {w : World} {ops : Array Oper} {rest : List Oper} {o : Oper} {a : Act} {Q : Exit → Act → World → Prop} (hgd : o.guard = none) (s x : Operand)
  (ho : o.op = .call { callee := .builtin .append, args := #[s, x], argTypes := #[23, 23] })
  (B : Nat) (v : Value) (l : List Nat) (hs : a.eval s = v) (hown : Own w B v l) (ad : Addr) (m c : Nat) (new : List Nat) (hx : a.eval x = .slice (some ad) m c) (hm : new.length = m)
  (hnew : ∀ j, j < m → w.cell? (ad.add j) = some (.int .u8 (nth new j : Int))) (hsz : l.length + m ≤ 1073741824) (hB : B ≤ w.heap.size)
  (h : ∀ v' w1, Own w1 B v' (l ++ new) → Below B w w1 → wpList Tryz.prog ops Q rest (a.put o.dst v') w1) : wpList Tryz.prog ops Q (o :: rest) a w := by
 obtain ⟨i0, hi, hz0, hz1, hz2⟩ := info_parts infoB
 refine wpList_append_own w hgd s x 23 ho B 5 i0 (.int .u8 0) 1 1 Tryz.underlying23 hi hz0 hz1 hz2 rfl (by decide) v l.length (bc l) hs hown ad m c (bc new) hx (by rw [bc_len, hm]; omega) ?_ (bc_one new) (by unfold maxLen; omega) (by omega) hB ?_
 ·intro j u hj
  have hjl : j < new.length := by
   rcases Nat.lt_or_ge j new.length with hlt | hge
   ·exact hlt
   ·rw [List.getElem?_eq_none (by rw [bc_len]; exact hge)] at hj; cases hj
  rw [bc_get hjl] at hj
  cases hj
  exact hnew j (by omega)
 ·intro v' w1 hown' hgr _
  refine h v' w1 ?_ ((Below.refl _ _).grown hgr hB (fun k hk => (hown.lt k hk).1))
  unfold Own
  rw [bc_app, List.length_append, hm]
  exact hown'
theorem wpList_app_new {wr : World} {cs : Array Value} {ops : Array Oper} {rest : List Oper} {o : Oper} {a : Act} {Q : Exit → Act → World → Prop} (hgd : o.guard = none) (s x : Operand)
  (ho : o.op = .call { callee := .builtin .append, args := #[s, x], argTypes := #[23, 23] })
  (B : Nat) (v : Value) (l : List Nat) (hs : a.eval s = v) (hown : Own wr B v l) (m c : Nat) (new : List Nat) (hx : a.eval x = .slice (some ⟨wr.heap.size, 0, none⟩) m c) (hm : new.length = m) (hcs : cs.toList = bc new)
  (hsz : l.length + m ≤ 1073741824) (hB : B ≤ wr.heap.size)
  (h : ∀ v' w1, Own w1 B v' (l ++ new) → Below B wr w1 → wpList Tryz.prog ops Q rest (a.put o.dst v') w1) : wpList Tryz.prog ops Q (o :: rest) a (wr.alloc (.cells cs 5)) := by
 have hb : Below B wr (wr.alloc (.cells cs 5)) := (Below.refl _ _).alloc hB _
 refine wpList_app hgd s x ho B v l hs (hown.alloc _) ⟨wr.heap.size, 0, none⟩ m c new hx hm ?_ hsz (by simp; omega) (fun v' w1 h1 h2 => h v' w1 h1 (hb.trans h2))
 intro j hj
 have e : (⟨wr.heap.size, 0, none⟩ : Addr).add j = ⟨wr.heap.size, j, none⟩ := by rw [Go.WideShapes.add_plain, Nat.zero_add]
 rw [e, World.cell?_alloc_mark, ← Array.getElem?_toList, hcs]
 exact bc_get (by omega)
def str (l : List Nat) : ByteArray := ⟨(l.map UInt8.ofNat).toArray⟩
theorem str_size (l : List Nat) : (str l).size = l.length := by simp [str, ByteArray.size]
theorem str_get {l : List Nat} (hB : IsB l) {i : Nat} (h : i < (str l).size) : ((str l)[i]).toNat = nth l i := by
 have hl : i < l.length := by rw [← str_size]; exact h
 have hb := hB l[i] (List.getElem_mem hl)
 rw [nth_get hl]
 have h2 : i < (l.map UInt8.ofNat).toArray.size := by simpa using hl
 show ((l.map UInt8.ofNat).toArray[i]'h2).toNat = _
 simp only [List.getElem_toArray, List.getElem_map, UInt8.toNat_ofNat']
 omega
theorem strOfNums_bytes (l : List Nat) : strOfNums (l.map fun (b : Nat) => (b : Int)) = str l := by
 simp [strOfNums, str]
theorem run_str {w : World} {a : Option Addr} {n cap : Nat} {l : List Nat} (hl : l.length = n) (hr : Rd w a l) :
  (convert 23 9 (.slice a n cap)).run Tryz.prog w = .ok (.string (str l)) w := by
 rcases hr with h | ⟨b, off, rfl, _, hc⟩
 ·subst h
  simp at hl
  subst hl
  cases a with
  | none => exact run_convert_bytes_nil w 23 5 Tryz.underlying23 Tryz.underlying5 0 cap 9 Tryz.underlying9
  | some ad =>
   rw [run_convert_bytes_string w 23 9 5 _ 0 cap Tryz.underlying23 Tryz.underlying5 Tryz.underlying9]
   exact run_bytesToString w ad 0 cap [] (run_loadCells_list (P := Tryz.prog) w ad [] (fun j v hj => by simp at hj))
 ·rw [← strOfNums_bytes]
  refine run_convert_bytes_arg w 23 5 Tryz.underlying23 Tryz.underlying5 b off n cap _ (by simpa using hl) ?_ 9 Tryz.underlying9
  intro i hi
  rw [hc i (by omega), nth_get (by omega)]
  simp [List.getD_eq_getElem?_getD, show i < l.length by omega]
theorem wpList_app_fin {wr : World} {cs : Array Value} {ops : Array Oper} {rest : List Oper} {o : Oper} {a : Act} {Q : Exit → Act → World → Prop} (hgd : o.guard = none) (s x : Operand)
  (ho : o.op = .call { callee := .builtin .append, args := #[s, x], argTypes := #[23, 23] })
  (B : Nat) (v : Value) (l : List Nat) (hs : a.eval s = v) (hown : Own wr B v l) (m c : Nat) (new : List Nat) (hx : a.eval x = .slice (some ⟨wr.heap.size, 0, none⟩) m c) (hm : new.length = m) (hcs : cs.toList = bc new)
  (hsz : l.length + m ≤ 1073741824) (hB : B ≤ wr.heap.size) (t : List Nat) (ht : l ++ new = t)
  (h : ∀ (ao : Option Addr) (N cap : Nat) (w1 : World), Own w1 B (.slice ao N cap) t → Below B wr w1 → (∀ c', (convert 23 9 (.slice ao N c')).run Tryz.prog w1 = .ok (.string (str t)) w1) → wpList Tryz.prog ops Q rest (a.put o.dst (.slice ao N cap)) w1) :
  wpList Tryz.prog ops Q (o :: rest) a (wr.alloc (.cells cs 5)) := by
 refine wpList_app_new hgd s x ho B v l hs hown m c new hx hm hcs hsz hB fun v' w1 h1 h2 => ?_
 rw [ht] at h1
 obtain ⟨ao, cap, rfl, _⟩ := h1.form
 exact h ao t.length cap w1 h1 h2 fun c' => run_str rfl h1.rd.2
theorem res_cells {wr : World} {sz : Nat} {x0 x1 : Value} (h0 : wr.cell? ⟨sz, 0, none⟩ = some x0) (h1 : wr.cell? ⟨sz, 1, none⟩ = some x1) (c t : Value) :
  (wr.setCell ⟨sz, 0, none⟩ c).cell? ⟨sz, 0, none⟩ = some c ∧ ((wr.setCell ⟨sz, 0, none⟩ c).setCell ⟨sz, 1, none⟩ t).cell? ⟨sz, 1, none⟩ = some t := by
 have h1' : (wr.setCell ⟨sz, 0, none⟩ c).cell? ⟨sz, 1, none⟩ = some x1 := by simp [go_sem, h1]
 exact ⟨World.cell?_setCell_same _ _ _ h0, World.cell?_setCell_same _ _ _ h1'⟩
theorem res_block {w W wr : World} {c0 c1 : Value} {t : TypeId} (hW : w.alloc (.cells #[c0, c1] t) = W) (hb : Below (w.heap.size + 1) W wr) :
  wr.cell? ⟨w.heap.size, 0, none⟩ = some c0 ∧ wr.cell? ⟨w.heap.size, 1, none⟩ = some c1 ∧ wr.frozen? ⟨w.heap.size, 0, none⟩ = false ∧ wr.frozen? ⟨w.heap.size, 1, none⟩ = false := by
 subst hW
 refine ⟨?_, ?_, ?_, ?_⟩
 ·rw [hb.cell (p := ⟨w.heap.size, 0, none⟩) (by simp)]; simp
 ·rw [hb.cell (p := ⟨w.heap.size, 1, none⟩) (by simp)]; simp
 ·rw [hb.frozen (p := ⟨w.heap.size, 0, none⟩) (by simp)]; simp
 ·rw [hb.frozen (p := ⟨w.heap.size, 1, none⟩) (by simp)]; simp
end Go.Proofs.YtjogclofjollnaaGreatDoor
