/- The closed facts that speak of the program alone · The closed facts of the row of the law FnNested, one by one · Words on memory, with no program in them: where a slice of bytes is read, what a row of the call's own holds; no conditions beyond those that each fact names · What the program knows of the type of a byte: a closed fact. -/
import Derived.Test.YtaefomiofoakhaaGreatDoorCards
import Derived.Test.YtaefomiofoakhaaGreatDoorTie
import Derived.WalkKit
import Derived.ProofKit
import Derived.OpenShut
import Derived.Deep.AppendLies
import Derived.WalkSmall
import Derived.Test.YtaefomiofoakhaaGreatDoorProg
import Derived.BigQuiet
import Derived.Deep.QuietTactic
import Derived.KernelRfl
namespace Go.Proofs.YtaefomiofoakhaaGreatDoor
open Go.ChangeShapes Go.WideShapes Go.ChangeAt Go.RowKit

theorem jz2 : (laidOutB Tryz.prog) = true := by kernel_rfl
theorem jz3 : (mapsRowed Tryz.prog) = true := by kernel_rfl
theorem jz7 : ((Tryz.prog.stops == [])) = true := by kernel_rfl
theorem jz9 : ((Tryz.prog.stopKnobs == [])) = true := by kernel_rfl
theorem jz25 : (Tryz.prog.stopsHeard) = true := by kernel_rfl
theorem jz26 : (Tryz.prog.mayEnter) = true := by kernel_rfl
theorem jz27 : ((Rows.fnNestedRow.lifted == Tryz.prog.liftsFinal)) = true := by kernel_rfl
theorem jzMain : Tryz.pinned.checked.prog.mainIs = some (Rows.fnNestedCard.stood.harness.1, Rows.fnNestedCard.stood.harness.2.toList) := by kernel_rfl
theorem jzLooks : false = Tryz.pinned.checked.prog.looks [] := by kernel_rfl
theorem jzOwn : ownKnob Tryz.prog.godebug = none := by kernel_rfl
theorem jzAnd {a b : Bool} (h : a = true) (k : b = true) : (a && b) = true := by rw [h, k]; rfl
end Go.Proofs.YtaefomiofoakhaaGreatDoor

namespace Go.Proofs.YtaefomiofoakhaaGreatDoor.fnNested
open Go.ChangeShapes Go.WideShapes Go.ChangeAt Go.RowKit

theorem jf1 : (Rows.fnNestedRow.wf (OpenSpec.ofChange Rows.fnNestedSpec)) = true := by kernel_rfl
theorem jf2 : (laidOutB Tryz.prog) = true := jz2
theorem jf3 : (mapsRowed Tryz.prog) = true := jz3
theorem jf4 : (Tryz.f3.params.all (Tryz.prog.readableRec ·)) = true := by kernel_rfl
theorem jf5 : (namedTie Tryz.prog Rows.fnNestedRow.named Rows.fnNestedSpec.vars) = true := by kernel_rfl
theorem jf6 : ((Rows.fnNestedRow.stops == [])) = true := by kernel_rfl
theorem jf7 : ((Tryz.prog.stops == [])) = true := jz7
theorem jf8 : ((Rows.fnNestedRow.knobs == [])) = true := by kernel_rfl
theorem jf9 : ((Tryz.prog.stopKnobs == [])) = true := jz9
theorem jf10 : ((Rows.fnNestedRow.inPlace == Tryz.prog.inPlace 3)) = true := by kernel_rfl
theorem jf11 : ((Rows.fnNestedRow.unfollowed == Tryz.prog.unfollowed 3)) = true := by kernel_rfl
theorem jf12 : ((Rows.fnNestedRow.recurses == Tryz.prog.recurses 3)) = true := by kernel_rfl
theorem jf13 : ((Rows.fnNestedRow.named == Tryz.prog.varsNamed 3)) = true := by kernel_rfl
theorem jf14 : ((Rows.fnNestedRow.maps == (Tryz.f3.params.toList ++ Rows.fnNestedSpec.plain.varTypes Tryz.prog).any (Tryz.prog.mapsRec ·))) = true := by kernel_rfl
theorem jf15 : ((Rows.fnNestedRow.ifaces == (Tryz.f3.params.toList ++ Rows.fnNestedSpec.plain.varTypes Tryz.prog).any (Tryz.prog.ifacesRec ·))) = true := by kernel_rfl
theorem jf16 : ((Rows.fnNestedRow.mapsOut == Tryz.prog.mapsAmong Tryz.f3.resultTypes.toList)) = true := by kernel_rfl
theorem jf17 : ((Rows.fnNestedRow.loops == (Tryz.f3.params.toList ++ Rows.fnNestedSpec.plain.varTypes Tryz.prog).any (Tryz.prog.loopsFrom ·))) = true := by kernel_rfl
theorem jf18 : ((Rows.fnNestedRow.wideKeys == (Tryz.f3.params.toList ++ Rows.fnNestedSpec.plain.varTypes Tryz.prog ++ Tryz.f3.resultTypes.toList).any (Tryz.prog.wideKeysFrom ·))) = true := by kernel_rfl
theorem jf19 : (Rows.fnNestedSpec.vars.all (Tryz.prog.varReadable ·)) = true := by kernel_rfl
theorem jf20 : (Tryz.f3.resultTypes.all (fun t => Tryz.prog.readableRec t && decide (t < Tryz.prog.types.size))) = true := by kernel_rfl
theorem jf21 : ((Rows.fnNestedRow.ifacesOut == Tryz.f3.resultTypes.toList.any (Tryz.prog.ifacesRec ·))) = true := by kernel_rfl
theorem jf22 : ((Rows.fnNestedRow.loopsOut == Tryz.f3.resultTypes.toList.any (Tryz.prog.loopsFrom ·))) = true := by kernel_rfl
theorem jf23 : ((Rows.fnNestedRow.plainKeys == Tryz.prog.plainKeys)) = true := by kernel_rfl
theorem jf24 : (Rows.fnNestedRow.shortTexts.isNone) = true := by kernel_rfl
theorem jf25 : (Tryz.prog.stopsHeard) = true := jz25
theorem jf26 : (Tryz.prog.mayEnter) = true := jz26
theorem jf27 : ((Rows.fnNestedRow.lifted == Tryz.prog.liftsFinal)) = true := jz27
theorem jf28 : ((Tryz.prog.make == some Rows.fnNestedRow.make)) = true := by kernel_rfl
theorem jf29 : ((Rows.fnNestedRow.kinds == (if Rows.fnNestedRow.domain.isEmpty then [] else Tryz.f3.params.toList.map fun t => match Tryz.prog.underlying t with | some (.int k) => some k | _ => none))) = true := by kernel_rfl
theorem jf30 : ((Rows.fnNestedRow.pinned == Rows.fnNestedRow.pinnedBy)) = true := by kernel_rfl
theorem jf31 : ((Rows.fnNestedRow.veiled == (Tryz.f3.params.toList ++ Rows.fnNestedSpec.plain.varTypes Tryz.prog ++ Tryz.f3.resultTypes.toList).any (Tryz.prog.veiledRec ·))) = true := by kernel_rfl
theorem jf32 : (Rows.fnNestedRow.veiledFits Tryz.prog Tryz.f3.params.toList (Tryz.f3.params.toList ++ Rows.fnNestedSpec.plain.varTypes Tryz.prog ++ Tryz.f3.resultTypes.toList)) = true := by kernel_rfl
set_option maxRecDepth 100000 in
theorem closedF : joinedFacts Tryz.prog 3 Tryz.f3 Rows.fnNestedSpec Rows.fnNestedRow = true := by
  delta joinedFacts
  refine jzAnd ?_ jf32
  refine jzAnd ?_ jf31
  refine jzAnd ?_ jf30
  refine jzAnd ?_ jf29
  refine jzAnd ?_ jf28
  refine jzAnd ?_ jf27
  refine jzAnd ?_ jf26
  refine jzAnd ?_ jf25
  refine jzAnd ?_ jf24
  refine jzAnd ?_ jf23
  refine jzAnd ?_ jf22
  refine jzAnd ?_ jf21
  refine jzAnd ?_ jf20
  refine jzAnd ?_ jf19
  refine jzAnd ?_ jf18
  refine jzAnd ?_ jf17
  refine jzAnd ?_ jf16
  refine jzAnd ?_ jf15
  refine jzAnd ?_ jf14
  refine jzAnd ?_ jf13
  refine jzAnd ?_ jf12
  refine jzAnd ?_ jf11
  refine jzAnd ?_ jf10
  refine jzAnd ?_ jf9
  refine jzAnd ?_ jf8
  refine jzAnd ?_ jf7
  refine jzAnd ?_ jf6
  refine jzAnd ?_ jf5
  refine jzAnd ?_ jf4
  refine jzAnd ?_ jf3
  refine jzAnd ?_ jf2
  exact jf1
theorem byText : Rows.fnNestedRow.wfByText (OpenSpec.ofChange Rows.fnNestedSpec) = true := by kernel_rfl
theorem goesF : false = Rows.fnNestedRow.goesBy Tryz.pinned.checked.prog := by kernel_rfl
end Go.Proofs.YtaefomiofoakhaaGreatDoor.fnNested

namespace Go.Proofs.YtaefomiofoakhaaGreatDoor
open Go.RowKit

/-- The i-th number of a list (0 behind its end): a plain word, so that no walk opens it. -/
def nth (l : List Nat) (i : Nat) : Nat := l.getD i 0
/-- Numbers as cells of bytes. -/
def bc (l : List Nat) : List Value := l.map fun (b : Nat) => Value.int .u8 (b : Int)
def IsB (l : List Nat) : Prop := ∀ b ∈ l, b < 256

theorem nth_lt {l : List Nat} (h : IsB l) (i : Nat) : nth l i < 256 := by
  unfold nth
  rw [List.getD_eq_getElem?_getD]
  cases e : l[i]? with
  | none => simp
  | some b => simpa using h b (List.mem_of_getElem? e)
theorem nth_get {l : List Nat} {i : Nat} (h : i < l.length) : nth l i = l[i] := by
  unfold nth; rw [List.getD_eq_getElem?_getD, List.getElem?_eq_getElem h]; rfl
theorem bc_len (l : List Nat) : (bc l).length = l.length := by simp [bc]
theorem bc_one (l : List Nat) : ∀ u ∈ bc l, u.oneCell' = true := by
  intro u hu
  simp only [bc, List.mem_map] at hu
  obtain ⟨b, _, rfl⟩ := hu
  rfl
theorem bc_app (a b : List Nat) : bc (a ++ b) = bc a ++ bc b := by simp [bc]
theorem bc_get {l : List Nat} {i : Nat} (h : i < l.length) : (bc l)[i]? = some (.int .u8 (nth l i : Int)) := by
  rw [nth_get h]; simp [bc, h]
theorem isB_take {l : List Nat} (h : IsB l) (n : Nat) : IsB (l.take n) := fun b hb => h b (List.mem_of_mem_take hb)
theorem isB_drop {l : List Nat} (h : IsB l) (n : Nat) : IsB (l.drop n) := fun b hb => h b (List.mem_of_mem_drop hb)
theorem nth_drop (l : List Nat) (k i : Nat) : nth (l.drop k) i = nth l (k + i) := by
  simp [nth, List.getD_eq_getElem?_getD, List.getElem?_drop]
theorem take_snoc (l : List Nat) (k : Nat) (h : k < l.length) : l.take (k + 1) = l.take k ++ [nth l k] := by
  rw [List.take_succ_eq_append_getElem h, nth_get h]
theorem drop_cons (l : List Nat) (k : Nat) (h : k < l.length) : l.drop k = nth l k :: l.drop (k + 1) := by
  rw [nth_get h]; exact List.drop_eq_getElem_cons h

/-- WHERE A SLICE OF BYTES IS READ: at its address stand the bytes l. -/
def Rd (w : World) (a : Option Addr) (l : List Nat) : Prop :=
  l = [] ∨ ∃ b off, a = some ⟨b, off, none⟩ ∧ b < w.heap.size ∧ ∀ i, i < l.length → w.cell? ⟨b, off + i, none⟩ = some (.int .u8 (nth l i : Int))

theorem Rd.below {w w' : World} {a : Option Addr} {l : List Nat} (h : Rd w a l) (hb : Below w.heap.size w w') : Rd w' a l := by
  rcases h with h | ⟨b, off, e, hlt, hc⟩
  · exact .inl h
  · exact .inr ⟨b, off, e, Nat.lt_of_lt_of_le hlt hb.size, fun i hi => (hb.cell (p := ⟨b, off + i, none⟩) hlt).trans (hc i hi)⟩
/-- Where there is an element there is an address. -/
theorem Rd.at_ {w : World} {a : Option Addr} {l : List Nat} (h : Rd w a l) (hp : 0 < l.length) :
    ∃ b off, a = some ⟨b, off, none⟩ ∧ b < w.heap.size ∧ ∀ i, i < l.length → w.cell? ⟨b, off + i, none⟩ = some (.int .u8 (nth l i : Int)) := by
  rcases h with h | h
  · rw [h] at hp; simp at hp
  · exact h
theorem Rd.drop {w : World} {b off : Nat} {l : List Nat} (h : Rd w (some ⟨b, off, none⟩) l) (k : Nat) : Rd w (some ⟨b, off + k, none⟩) (l.drop k) := by
  rcases h with h | ⟨b', off', e, hlt, hc⟩
  · left; simp [h]
  · obtain ⟨rfl, rfl⟩ : b = b' ∧ off = off' := by simpa using e
    right
    refine ⟨b, off + k, rfl, hlt, fun i hi => ?_⟩
    rw [List.length_drop] at hi
    rw [nth_drop, Nat.add_assoc]
    exact hc (k + i) (by omega)

/-- A row of the call's own, read. -/
theorem Rd.own {w : World} {base e n cap : Nat} {a : Option Addr} {l : List Nat} (h : w.ownsRow base e 1 (.slice a n cap) n (bc l)) : Rd w a l := by
  have hl : l.length = n := by simpa [bc_len] using h.1
  rcases h.2 with ⟨_, h0⟩ | ⟨g, cap', cur, h', _, hg, _, _, _, htake⟩
  · left; exact List.length_eq_zero_iff.1 (by omega)
  · simp only [Value.slice.injEq] at h'
    obtain ⟨rfl, _, rfl⟩ := h'
    right
    refine ⟨g, 0, rfl, ?_, fun i hi => ?_⟩
    · rcases Nat.lt_or_ge g w.heap.size with hlt | hge
      · exact hlt
      · simp [Array.getElem?_eq_none hge] at hg
    · rw [cell_of_row w g (0 + i) cur e (0, 0) hg, ← bc_get hi, ← htake, List.getElem?_take, if_pos (by omega)]
      simp

/-- WHAT A WALK IS TOLD OF A SLICE OF INTEGERS THAT CAME IN (the shell's own word): it is nil; or it leads to a row of 'cap' cells, the numbers 'zs' (the first 'len' are its elements), each fitting its kind. -/
def IsRow (k : IntKind) (w : World) (a : Option Addr) (len cap : Nat) (zs : List Int) : Prop :=
  (a = none ∧ len = 0 ∧ cap = 0 ∧ zs = []) ∨
  ∃ x, a = some x ∧ len ≤ cap ∧ cap ≤ maxLen ∧ zs.length = cap ∧ (∀ i, i < zs.length → w.cell? (x.add i) = some (.int k (zs.getD i 0))) ∧ ∀ n ∈ zs, (Lit.int k n).wf = true

/-- A slice of bytes that came in, as plain numbers. -/
theorem IsRow.rd {w : World} {a : Option Addr} {len cap : Nat} {zs : List Int} (h : IsRow .u8 w a len cap zs) : ∃ l : List Nat, l.length = len ∧ IsB l ∧ Rd w a l ∧ len ≤ maxLen := by
  rcases h with ⟨_, rfl, _, rfl⟩ | ⟨x, rfl, hl, hm, hz, hcell, hwz⟩
  · exact ⟨[], rfl, by intro b hb; simp at hb, .inl rfl, by decide⟩
  · have hw : ∀ n ∈ zs, 0 ≤ n ∧ n ≤ 255 := fun n hn => bounds_u8 (hwz n hn)
    refine ⟨(zs.take len).map Int.toNat, by simp; omega, ?_, ?_, by omega⟩
    · intro b hb
      simp only [List.mem_map] at hb
      obtain ⟨n, hn, rfl⟩ := hb
      have := hw n (List.mem_of_mem_take hn)
      omega
    · by_cases h0 : zs.length = 0
      · left
        have : zs = [] := List.length_eq_zero_iff.1 h0
        subst this; simp
      · obtain ⟨b, off, rfl, hc⟩ := ints_at hcell (by omega)
        right
        refine ⟨b, off, rfl, World.block_lt_of_cell? w _ (hc 0 (by omega)), fun i hi => ?_⟩
        have hi' : i < len := by simp at hi; omega
        have hiz : i < zs.length := by omega
        rw [hc i hiz, nth_get hi]
        have h1 := hw zs[i] (List.getElem_mem hiz)
        simp [hiz]
        omega
end Go.Proofs.YtaefomiofoakhaaGreatDoor

namespace Go.Proofs.YtaefomiofoakhaaGreatDoor
open Go.RowKit

theorem infoB : (Tryz.prog.info? 5).map (fun i => (i.zero, i.size, i.bytes)) = some (some (.int .u8 0), 1, 1) := by kernel_rfl
end Go.Proofs.YtaefomiofoakhaaGreatDoor
