/- A line of a header with a field of its own, the model's. -/
import Derived.Test.YthphokjhonddcaaHdr5
import Derived.Deep.RegionHeld3
namespace Go.Proofs.Ythphokjhonddcaa
open Go.RowKit

theorem clN_here : ∀ {t : List Nat} {k : Nat}, k < t.length → (∀ i, i < k → nth t i ≠ 58) → nth t k = 58 → clN t = k
  | [], _, h, _, _ => by simp at h
  | c :: t, 0, _, _, h2 => by
    have : c = 58 := h2
    subst this
    rfl
  | c :: t, k + 1, h, h1, h2 => by
    have hc : c ≠ 58 := h1 0 (by omega)
    have := clN_here (t := t) (k := k) (by simpa using h) (fun i hi => h1 (i + 1) (by omega)) h2
    unfold clN at this ⊢
    rw [List.takeWhile_cons, if_pos (by simp [noCl, hc]), List.length_cons, this]
theorem clN_all : ∀ {t : List Nat}, (∀ i, i < t.length → nth t i ≠ 58) → clN t = t.length
  | [], _ => rfl
  | c :: t, h => by
    have hc : c ≠ 58 := h 0 (by simp)
    have := clN_all (t := t) (fun i hi => h (i + 1) (by simpa using hi))
    unfold clN at this ⊢
    rw [List.takeWhile_cons, if_pos (by simp [noCl, hc]), List.length_cons, this, List.length_cons]
theorem ext_str (t : List Nat) (a b : Nat) : (str t).extract a b = str ((t.take b).drop a) := by
  apply ByteArray.ext
  rw [ByteArray.data_extract]
  simp only [str]
  rw [List.extract_toArray, List.extract_eq_take_drop, ← List.map_drop, ← List.map_take]
  congr 2
  rw [List.drop_take]

/-- A block with one field. -/
def FCell (w : World) (h : Nat) (x y : ByteArray) : Prop := h < w.heap.size ∧ w.cell? ⟨h, 0, none⟩ = some (.string x) ∧ w.cell? ⟨h, 1, none⟩ = some (.string y)
theorem FCell.alloc {w : World} {h : Nat} {x y : ByteArray} (H : FCell w h x y) (o : Obj) : FCell (w.alloc o) h x y := by
  have hb : Below w.heap.size w (w.alloc o) := (Below.refl _ _).alloc (Nat.le_refl _) _
  exact ⟨Nat.lt_of_lt_of_le H.1 hb.size, (hb.cell (p := ⟨h, 0, none⟩) H.1).trans H.2.1, (hb.cell (p := ⟨h, 1, none⟩) H.1).trans H.2.2⟩
theorem FCell.far {w w' : World} {h : Nat} {x y : ByteArray} {row : Option Nat} (H : FCell w h x y) (hg : w.grownBy w' row) (hne : some h ≠ row) : FCell w' h x y :=
  ⟨Nat.lt_of_lt_of_le H.1 hg.size, (hg.cell_far ⟨h, 0, none⟩ H.1 hne).trans H.2.1, (hg.cell_far ⟨h, 1, none⟩ H.1 hne).trans H.2.2⟩
theorem FCell.nw {w : World} {h : Nat} {x y : ByteArray} (H : FCell w h x y) : ∀ j, j < 1 → w.cell? ((⟨h, 0, none⟩ : Addr).add (j * 2)) = some (.string (nthF [(x, y)] j).1) ∧ w.cell? ((⟨h, 0, none⟩ : Addr).add (j * 2 + 1)) = some (.string (nthF [(x, y)] j).2) := by
  intro j hj
  obtain rfl : j = 0 := by omega
  rw [Go.WideShapes.add_plain, Go.WideShapes.add_plain]
  exact H.2

end Go.Proofs.Ythphokjhonddcaa
