/- Words on memory, with no program in them: where a slice of bytes is read, what a row of the call's own holds; no conditions beyond those that each fact names. -/
import Derived.WalkKit
import Derived.Deep.AppendLies
import Derived.OpenShut
import Derived.WalkSmall
namespace Go.Proofs.YtmidjgpegdodcaaDoor
open Go.RowKit

/-- The i-th number of a list (0 behind its end): a plain word, so that no walk opens it. -/
def nth (l : List Nat) (i : Nat) : Nat := l.getD i 0
/-- Numbers as cells of bytes. -/
def bc (l : List Nat) : List Value := l.map fun (b : Nat) => Value.int .u8 (b : Int)
def IsB (l : List Nat) : Prop := ∀ b ∈ l, b < 256

theorem nth_lt {l : List Nat} (h : IsB l) (i : Nat) : nth l i < 256 := by
  unfold nth
  rw [List.getD_eq_getElem?_getD]
  cases e : l[i]? with
  | none => simp
  | some b => simpa using h b (List.mem_of_getElem? e)
theorem nth_get {l : List Nat} {i : Nat} (h : i < l.length) : nth l i = l[i] := by
  unfold nth; rw [List.getD_eq_getElem?_getD, List.getElem?_eq_getElem h]; rfl
theorem bc_len (l : List Nat) : (bc l).length = l.length := by simp [bc]
theorem bc_one (l : List Nat) : ∀ u ∈ bc l, u.oneCell' = true := by
  intro u hu
  simp only [bc, List.mem_map] at hu
  obtain ⟨b, _, rfl⟩ := hu
  rfl
theorem bc_app (a b : List Nat) : bc (a ++ b) = bc a ++ bc b := by simp [bc]
theorem bc_get {l : List Nat} {i : Nat} (h : i < l.length) : (bc l)[i]? = some (.int .u8 (nth l i : Int)) := by
  rw [nth_get h]; simp [bc, h]
theorem isB_take {l : List Nat} (h : IsB l) (n : Nat) : IsB (l.take n) := fun b hb => h b (List.mem_of_mem_take hb)
theorem isB_drop {l : List Nat} (h : IsB l) (n : Nat) : IsB (l.drop n) := fun b hb => h b (List.mem_of_mem_drop hb)
theorem nth_drop (l : List Nat) (k i : Nat) : nth (l.drop k) i = nth l (k + i) := by
  simp [nth, List.getD_eq_getElem?_getD, List.getElem?_drop]
theorem take_snoc (l : List Nat) (k : Nat) (h : k < l.length) : l.take (k + 1) = l.take k ++ [nth l k] := by
  rw [List.take_succ_eq_append_getElem h, nth_get h]
theorem drop_cons (l : List Nat) (k : Nat) (h : k < l.length) : l.drop k = nth l k :: l.drop (k + 1) := by
  rw [nth_get h]; exact List.drop_eq_getElem_cons h

/-- Behind a call that turned nothing old: every old cell, every old mark. -/
theorem bcell {W w1 : World} (hb : Below W.heap.size W w1) : (∀ b o, b < W.heap.size → w1.cell? ⟨b, o, none⟩ = W.cell? ⟨b, o, none⟩) ∧ (∀ b o, b < W.heap.size → w1.frozen? ⟨b, o, none⟩ = W.frozen? ⟨b, o, none⟩) :=
  ⟨fun b o h => hb.cell (p := ⟨b, o, none⟩) h, fun b o h => hb.frozen (p := ⟨b, o, none⟩) h⟩

/-- WHERE A SLICE OF BYTES IS READ: at its address stand the bytes l. -/
def Rd (w : World) (a : Option Addr) (l : List Nat) : Prop :=
  l = [] ∨ ∃ b off, a = some ⟨b, off, none⟩ ∧ b < w.heap.size ∧ ∀ i, i < l.length → w.cell? ⟨b, off + i, none⟩ = some (.int .u8 (nth l i : Int))

theorem Rd.below {w w' : World} {a : Option Addr} {l : List Nat} (h : Rd w a l) (hb : Below w.heap.size w w') : Rd w' a l := by
  rcases h with h | ⟨b, off, e, hlt, hc⟩
  · exact .inl h
  · exact .inr ⟨b, off, e, Nat.lt_of_lt_of_le hlt hb.size, fun i hi => (hb.cell (p := ⟨b, off + i, none⟩) hlt).trans (hc i hi)⟩
/-- Where there is an element there is an address. -/
theorem Rd.at_ {w : World} {a : Option Addr} {l : List Nat} (h : Rd w a l) (hp : 0 < l.length) :
    ∃ b off, a = some ⟨b, off, none⟩ ∧ b < w.heap.size ∧ ∀ i, i < l.length → w.cell? ⟨b, off + i, none⟩ = some (.int .u8 (nth l i : Int)) := by
  rcases h with h | h
  · rw [h] at hp; simp at hp
  · exact h
theorem Rd.drop {w : World} {b off : Nat} {l : List Nat} (h : Rd w (some ⟨b, off, none⟩) l) (k : Nat) : Rd w (some ⟨b, off + k, none⟩) (l.drop k) := by
  rcases h with h | ⟨b', off', e, hlt, hc⟩
  · left; simp [h]
  · obtain ⟨rfl, rfl⟩ : b = b' ∧ off = off' := by simpa using e
    right
    refine ⟨b, off + k, rfl, hlt, fun i hi => ?_⟩
    rw [List.length_drop] at hi
    rw [nth_drop, Nat.add_assoc]
    exact hc (k + i) (by omega)

/-- A slice cut at its head: where nothing is left its address is the old one. -/
theorem Rd.cut {w : World} {b off j c : Nat} {l : List Nat} (h : Rd w (some ⟨b, off + j, none⟩) l) (hc : c = j → l = []) : Rd w (if c = j then some ⟨b, off, none⟩ else some ⟨b, off + j, none⟩) l := by
  by_cases e : c = j
  · exact .inl (hc e)
  · rw [if_neg e]; exact h

/-- A row of the call's own, read. -/
theorem Rd.own {w : World} {base e n cap : Nat} {a : Option Addr} {l : List Nat} (h : w.ownsRow base e 1 (.slice a n cap) n (bc l)) : Rd w a l := by
  have hl : l.length = n := by simpa [bc_len] using h.1
  rcases h.2 with ⟨_, h0⟩ | ⟨g, cap', cur, h', _, hg, _, _, _, htake⟩
  · left; exact List.length_eq_zero_iff.1 (by omega)
  · simp only [Value.slice.injEq] at h'
    obtain ⟨rfl, _, rfl⟩ := h'
    right
    refine ⟨g, 0, rfl, ?_, fun i hi => ?_⟩
    · rcases Nat.lt_or_ge g w.heap.size with hlt | hge
      · exact hlt
      · simp [Array.getElem?_eq_none hge] at hg
    · rw [cell_of_row w g (0 + i) cur e (0, 0) hg, ← bc_get hi, ← htake, List.getElem?_take, if_pos (by omega)]
      simp

/-- The value of a row of the call's own. -/
theorem own_form {w : World} {base e n : Nat} {v : Value} {xs : List Value} (h : w.ownsRow base e 1 v n xs) : ∃ a cap, v = .slice a n cap := by
  rcases h.2 with ⟨h', h0⟩ | ⟨g, cap', cur, h', _⟩
  · exact ⟨none, 0, by rw [h', h0]⟩
  · exact ⟨_, _, h'⟩

theorem own_lt {w : World} {base e n cap g : Nat} {xs : List Value} (h : w.ownsRow base e 1 (.slice (some ⟨g, 0, none⟩) n cap) n xs) : base ≤ g ∧ g < w.heap.size := h.lt g rfl

/-- What the making of a row of n bytes lays. -/
theorem made_bytes (n : Nat) : (madeCells (Value.int .u8 0).cells (n * 1)).toList = bc (List.replicate n 0) := by
  rw [Nat.mul_one]
  show (madeCells #[Value.int .u8 0] n).toList = _
  rw [toList_madeCells_one]
  simp [bc]

/-- A copy in the making: k bytes are there, the others are 0 yet. -/
def half (l : List Nat) (k : Nat) : List Nat := l.take k ++ List.replicate (l.length - k) 0
theorem half_zero (l : List Nat) : half l 0 = List.replicate l.length 0 := by simp [half]
theorem half_all (l : List Nat) : half l l.length = l := by simp [half]
theorem half_len (l : List Nat) (k : Nat) (h : k ≤ l.length) : (half l k).length = l.length := by simp [half]; omega
theorem half_set (l : List Nat) (k : Nat) (h : k < l.length) : (bc (half l k)).set k (.int .u8 (nth l k : Int)) = bc (half l (k + 1)) := by
  have e : l.length - k = (l.length - (k + 1)) + 1 := by omega
  unfold half
  have hk : (bc (l.take k)).length = k := by simp [bc]; omega
  rw [take_snoc l k h, bc_app, List.set_append, hk, if_neg (Nat.lt_irrefl k), e, List.replicate_succ, Nat.sub_self]
  simp [bc]

/-- WHAT A WALK IS TOLD OF A SLICE OF INTEGERS THAT CAME IN (the shell's own word): it is nil; or it leads to a row of 'cap' cells, the numbers 'zs' (the first 'len' are its elements), each fitting its kind. -/
def IsRow (k : IntKind) (w : World) (a : Option Addr) (len cap : Nat) (zs : List Int) : Prop :=
  (a = none ∧ len = 0 ∧ cap = 0 ∧ zs = []) ∨
  ∃ x, a = some x ∧ len ≤ cap ∧ cap ≤ maxLen ∧ zs.length = cap ∧ (∀ i, i < zs.length → w.cell? (x.add i) = some (.int k (zs.getD i 0))) ∧ ∀ n ∈ zs, (Lit.int k n).wf = true

/-- A slice of bytes that came in, as plain numbers. -/
theorem IsRow.rd {w : World} {a : Option Addr} {len cap : Nat} {zs : List Int} (h : IsRow .u8 w a len cap zs) : ∃ l : List Nat, l.length = len ∧ IsB l ∧ Rd w a l ∧ len ≤ maxLen := by
  rcases h with ⟨_, rfl, _, rfl⟩ | ⟨x, rfl, hl, hm, hz, hcell, hwz⟩
  · exact ⟨[], rfl, by intro b hb; simp at hb, .inl rfl, by decide⟩
  · have hw : ∀ n ∈ zs, 0 ≤ n ∧ n ≤ 255 := fun n hn => bounds_u8 (hwz n hn)
    refine ⟨(zs.take len).map Int.toNat, by simp; omega, ?_, ?_, by omega⟩
    · intro b hb
      simp only [List.mem_map] at hb
      obtain ⟨n, hn, rfl⟩ := hb
      have := hw n (List.mem_of_mem_take hn)
      omega
    · by_cases h0 : zs.length = 0
      · left
        have : zs = [] := List.length_eq_zero_iff.1 h0
        subst this; simp
      · obtain ⟨b, off, rfl, hc⟩ := ints_at hcell (by omega)
        right
        refine ⟨b, off, rfl, World.block_lt_of_cell? w _ (hc 0 (by omega)), fun i hi => ?_⟩
        have hi' : i < len := by simp at hi; omega
        have hiz : i < zs.length := by omega
        rw [hc i hiz, nth_get hi]
        have h1 := hw zs[i] (List.getElem_mem hiz)
        simp [hiz]
        omega
end Go.Proofs.YtmidjgpegdodcaaDoor
