/- What an append of bytes to a slice of the call's own leaves, and what a conversion of one into a string gives: laws for this program's types; at most 1073741824 bytes. -/
import Derived.Test.YtaiificlempeaaaDoorInf
import Derived.Laws.BytesArg
import Derived.Laws.IdiomStrings
namespace Go.Proofs.YtaiificlempeaaaDoor
open Go.RowKit

/-- THE SLICE v IS THE CALL's OWN AND HOLDS THE BYTES l. -/
def Own (w : World) (B : Nat) (v : Value) (l : List Nat) : Prop := w.ownsRow B 5 1 v l.length (bc l)

theorem Own.nil (w : World) (B : Nat) : Own w B (.slice none 0 0) [] := World.ownsRow_nil _ _ _ _
theorem Own.lit (w : World) (B : Nat) (hB : B ≤ w.heap.size) (cs : Array Value) (l : List Nat) (h : cs.toList = bc l) (hl : l.length ≤ maxLen) : Own (w.alloc (.cells cs 5)) B (.slice (some ⟨w.heap.size, 0, none⟩) l.length l.length) l := by
  have := World.ownsRow_lit (base := B) (e := 5) (size := 1) w cs l.length hB hl (by rw [← Array.length_toList, h, bc_len]; omega)
  rw [h] at this
  exact this
theorem Own.alloc {w : World} {B : Nat} {v : Value} {l : List Nat} (h : Own w B v l) (o : Obj) : Own (w.alloc o) B v l := World.ownsRow.alloc h o
theorem Own.drew {w : World} {B : Nat} {v : Value} {l : List Nat} (h : Own w B v l) : Own w.drew B v l := h
theorem Own.below {w w' : World} {B C : Nat} {v : Value} {l : List Nat} (h : Own w B v l) (hb : Below C w w') (hC : w.heap.size ≤ C) : Own w' B v l := by
  refine ⟨h.1, ?_⟩
  rcases h.2 with h' | ⟨g, cap, cur, h1, h2, h3, h4⟩
  · exact .inl h'
  · refine .inr ⟨g, cap, cur, h1, h2, ?_, h4⟩
    have hg : g < w.heap.size := by
      rcases Nat.lt_or_ge g w.heap.size with hlt | hge
      · exact hlt
      · simp [Array.getElem?_eq_none hge] at h3
    rw [hb.block g (by omega)]; exact h3
theorem Own.form {w : World} {B : Nat} {v : Value} {l : List Nat} (h : Own w B v l) : ∃ a cap, v = .slice a l.length cap ∧ l.length ≤ cap ∧ cap ≤ maxLen := by
  rcases h.2 with ⟨h', h0⟩ | ⟨g, cap, cur, h', _, _, h4, h5, _⟩
  · exact ⟨none, 0, by rw [h', h0], by omega, by decide⟩
  · exact ⟨_, cap, h', h4, h5⟩
theorem Own.rd {w : World} {B n cap : Nat} {a : Option Addr} {l : List Nat} (h : Own w B (.slice a n cap) l) : l.length = n ∧ Rd w a l := by
  have hf : l.length = n := by
    obtain ⟨a', c', e, _⟩ := h.form
    simp at e; omega
  subst hf
  exact ⟨rfl, Rd.own h⟩

/-- The cells of a block that was laid just ahead, behind a draw too. -/
theorem new_cells {wr : World} {cs : Array Value} {new : List Nat} (hcs : cs.toList = bc new) (m : Nat) (hm : new.length = m) :
    ∀ j, j < m → (wr.alloc (.cells cs 5)).cell? ((⟨wr.heap.size, 0, none⟩ : Addr).add j) = some (.int .u8 (nth new j : Int)) := by
  intro j hj
  have e : (⟨wr.heap.size, 0, none⟩ : Addr).add j = ⟨wr.heap.size, j, none⟩ := by rw [Go.WideShapes.add_plain, Nat.zero_add]
  rw [e, World.cell?_alloc_mark, ← Array.getElem?_toList, hcs]
  exact bc_get (by omega)
/-- Bytes as a string. -/
def str (l : List Nat) : ByteArray := ⟨(l.map UInt8.ofNat).toArray⟩
theorem str_size (l : List Nat) : (str l).size = l.length := by simp [str, ByteArray.size]
theorem str_get {l : List Nat} (hB : IsB l) {i : Nat} (h : i < (str l).size) : ((str l)[i]).toNat = nth l i := by
  have hl : i < l.length := by rw [← str_size]; exact h
  have hb := hB l[i] (List.getElem_mem hl)
  rw [nth_get hl]
  have h2 : i < (l.map UInt8.ofNat).toArray.size := by simpa using hl
  show ((l.map UInt8.ofNat).toArray[i]'h2).toNat = _
  simp only [List.getElem_toArray, List.getElem_map, UInt8.toNat_ofNat']
  omega
theorem strOfNums_bytes (l : List Nat) : strOfNums (l.map fun (b : Nat) => (b : Int)) = str l := by
  simp [strOfNums, str]

/-- A text as bytes: what the conversion lays. -/
theorem bytesRow_take (l : List Nat) (hB : IsB l) (cap : Nat) : (bytesRow (str l) cap).toList.take l.length = bc l := by
  have e : ((str l).data.map fun b => Value.int .u8 b.toNat).toList = bc l := by
    simp only [str, Array.toList_map, bc, List.map_map]
    apply List.map_congr_left
    intro b hb
    have := hB b hb
    simp only [Function.comp, UInt8.toNat_ofNat']
    congr 1
    omega
  unfold bytesRow
  rw [Array.toList_append, e, List.take_append_of_le_length (by rw [bc_len]; exact Nat.le_refl _), List.take_of_length_le (by rw [bc_len]; exact Nat.le_refl _)]
theorem bytesRow_rd (w : World) (l : List Nat) (hB : IsB l) (cap : Nat) (fr : Nat × Nat) : Rd (w.alloc (.cells (bytesRow (str l) cap) 5 fr)) (some ⟨w.heap.size, 0, none⟩) l := by
  right
  refine ⟨w.heap.size, 0, rfl, by simp, fun i hi => ?_⟩
  rw [Nat.zero_add, World.cell?_alloc_mark, ← Array.getElem?_toList, ← bc_get hi, ← bytesRow_take l hB cap, List.getElem?_take, if_pos hi]

/-- A result of two cells that is stored whole. -/
theorem res_cells {wr : World} {sz : Nat} {x0 x1 : Value} (h0 : wr.cell? ⟨sz, 0, none⟩ = some x0) (h1 : wr.cell? ⟨sz, 1, none⟩ = some x1) (c t : Value) :
    (wr.setCell ⟨sz, 0, none⟩ c).cell? ⟨sz, 0, none⟩ = some c ∧ ((wr.setCell ⟨sz, 0, none⟩ c).setCell ⟨sz, 1, none⟩ t).cell? ⟨sz, 1, none⟩ = some t := by
  have h1' : (wr.setCell ⟨sz, 0, none⟩ c).cell? ⟨sz, 1, none⟩ = some x1 := by simp [go_sem, h1]
  exact ⟨World.cell?_setCell_same _ _ _ h0, World.cell?_setCell_same _ _ _ h1'⟩
/-- The block of a result that a function lays first, far on. -/
theorem res_block {w W wr : World} {c0 c1 : Value} {t : TypeId} (hW : w.alloc (.cells #[c0, c1] t) = W) (hb : Below (w.heap.size + 1) W wr) :
    wr.cell? ⟨w.heap.size, 0, none⟩ = some c0 ∧ wr.cell? ⟨w.heap.size, 1, none⟩ = some c1 ∧ wr.frozen? ⟨w.heap.size, 0, none⟩ = false ∧ wr.frozen? ⟨w.heap.size, 1, none⟩ = false := by
  subst hW
  refine ⟨?_, ?_, ?_, ?_⟩
  · rw [hb.cell (p := ⟨w.heap.size, 0, none⟩) (by simp)]; simp
  · rw [hb.cell (p := ⟨w.heap.size, 1, none⟩) (by simp)]; simp
  · rw [hb.frozen (p := ⟨w.heap.size, 0, none⟩) (by simp)]; simp
  · rw [hb.frozen (p := ⟨w.heap.size, 1, none⟩) (by simp)]; simp
end Go.Proofs.YtaiificlempeaaaDoor
