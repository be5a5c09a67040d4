/- Draws that leave all but their source as it was; no conditions beyond those that each fact names · A slice of bytes that was made of a text: it may be written; no conditions beyond those that each fact names. -/
import Derived.Test.YtilepbbcinbmhaaDoorDrwToDrw2
import Derived.Test.YtilepbbcinbmhaaDoorAppIToDrl
import Derived.Test.YtilepbbcinbmhaaDoorAppToMrk0
namespace Go.Proofs.YtilepbbcinbmhaaDoor
open Go.RowKit

/-- Of what there was, all blocks but b stay. -/
def Kb (b : Nat) (w w' : World) : Prop := w.grownBy w' (some b)
theorem Kb.refl (b : Nat) (w : World) : Kb b w w := ⟨rfl, rfl, rfl, Nat.le_refl _, fun _ _ _ => rfl⟩
theorem Kb.below' {b : Nat} {w w1 w2 : World} (h : Kb b w w1) (hb : Below w.heap.size w1 w2) : Kb b w w2 := ⟨hb.os.trans h.os, hb.tape.trans h.tape, hb.output.trans h.output, Nat.le_trans h.size hb.size, fun k hk hne => (hb.block k hk).trans (h.block k hk hne)⟩
theorem Kb.below {b : Nat} {w w1 w2 : World} (h : Kb b w w1) (hb : Below w1.heap.size w1 w2) : Kb b w w2 := h.below' (hb.mono h.size)
theorem Kb.grown {b : Nat} {w w1 w2 : World} (h : Kb b w w1) (hg : w1.grownBy w2 (some b)) : Kb b w w2 :=
  ⟨hg.os.trans h.os, hg.tape.trans h.tape, hg.output.trans h.output, Nat.le_trans h.size hg.size, fun k hk hne => (hg.block k (Nat.lt_of_lt_of_le hk h.size) hne).trans (h.block k hk hne)⟩
theorem Kb.trans {b : Nat} {w w1 w2 : World} (h : Kb b w w1) (h' : Kb b w1 w2) : Kb b w w2 := h.grown h'

set_option maxHeartbeats 1600000 in
set_option maxRecDepth 100000 in
theorem l1Some_kb (B b M n : Nat) (w : World) (hs : Src w B b M) (hM : M + 2 * n ≤ 99000) (hn : n ≤ 100) :
    Calls Tryd.prog 86 #[.pointer (some ⟨b, 0, none⟩), .int .i64 (n : Int)] w fun e w' =>
      ∃ (v : Value) (out : List Nat), e = .returned v ∧ Own w' w.heap.size v out ∧ IsB out ∧ out.length = n ∧ Src w' B b (M + 2 * n) ∧ Below b w w' ∧ Kb b w w' := by
  obtain ⟨hBb, hbw, _⟩ := id hs
  go_enter Tryd.func86, Tryd.ntmps86
  go_wp2
  have hown0 : Own (w.alloc (.cells #[] 5)) w.heap.size (.slice (some ⟨w.heap.size, 0, none⟩) 0 0) [] := Own.lit w _ (Nat.le_refl _) #[] [] rfl (by decide)
  have hbel0 : Below b w (w.alloc (.cells #[] 5)) := (Below.refl _ _).alloc (by omega) _
  have hs0 : Src (w.alloc (.cells #[] 5)) B b M := hs.below ((Below.refl _ _).alloc (by omega) _)
  have hkb0 : Kb b w (w.alloc (.cells #[] 5)) := (Kb.refl b w).below ((Below.refl _ _).alloc (Nat.le_refl _) _)
  go_loopw [1, 5] (fun j v wr => ∃ (i : Nat) (out : List Nat), i ≤ n ∧ j = .int .i64 ((n - i : Nat) : Int) ∧ Own wr w.heap.size v out ∧ IsB out ∧ out.length = i ∧ Src wr B b (M + 2 * i) ∧ Below b w wr ∧ Kb b w wr)
    (fun j _ _ => (intOf j).toNat)
  case atStart => exact ⟨0, [], by omega, rfl, hown0, fun x hx => by simp at hx, rfl, hs0, hbel0, hkb0⟩
  case round =>
    obtain ⟨i, out, hi, rfl, hown, hBo, hol, hsr, hbel, hkb⟩ := hrel
    clear hown0 hbel0 hkb0 hs0 hs
    have hz := hbel.size
    by_cases hin : i < n
    · have hj : (0 : Int) < ((n - i : Nat) : Int) := by omega
      obtain ⟨_, hbr, _⟩ := id hsr
      go_wp2_with fail
      refine (l1Next_any B b (M + 2 * i) 256 _ hsr (by omega) (by omega) (by omega)).mono ?_
      rintro e w1 ⟨r, rfl, r0, r1, _, hs1, hg1⟩
      have ho1 := hown.keptG hg1 (by omega)
      have hb1 : Below b w w1 := hbel.trans ((Below.refl _ _).grown hg1 (by omega) (by intro k hk; simp at hk; omega))
      have hz1 := hg1.size
      have hkb1 := hkb.grown hg1
      have hs1' : Src (w1.alloc (.cells #[.int .i64 r, .int .i64 97, .int .i64 32, .int .i64 10, .int .i64 61, .int .i64 122] 2)) B b (M + 2 * i + 1) := hs1.below ((Below.refl _ _).alloc (by omega) _)
      have hr256 : r < 256 := r1 (by omega)
      go_wp2_with fail
      refine (l1Pick_any B b (M + 2 * i + 1) _ 6 6 [r, 97, 32, 10, 61, 122] _ hs1' (by omega) rfl (by omega) (by omega) (nums_new rfl) (by omega)).mono ?_
      rintro e w2 ⟨x, rfl, hx, hs2, hg2⟩
      have hx' : 0 ≤ x ∧ x < 256 := by
        simp only [List.mem_cons, List.not_mem_nil, or_false] at hx
        omega
      obtain ⟨y, rfl⟩ := Int.eq_ofNat_of_zero_le hx'.1
      have hy : y < 256 := by omega
      have ho2 := (ho1.alloc (.cells #[.int .i64 r, .int .i64 97, .int .i64 32, .int .i64 10, .int .i64 61, .int .i64 122] 2)).keptG hg2 (by omega)
      have hb2 : Below b w w2 := (hb1.alloc (by omega) _).trans ((Below.refl _ _).grown hg2 (by simp; omega) (by intro k hk; simp at hk; omega))
      have hz2 : w1.heap.size + 1 ≤ w2.heap.size := by have := hg2.size; simpa using this
      have hkb2 := (hkb1.below ((Below.refl _ _).alloc (Nat.le_refl _) _)).grown hg2
      have HKB2 : Hid (Kb b w w2) := hkb2
      clear hkb hkb1 hkb2
      have HS2 : Hid (Src w2 B b (M + 2 * i + 1 + 1)) := hs2
      clear hs1 hs1' hg1 hg2 ho1 hx hsr hown hs2 r1
      go_wp2_with (at_builtin; refine wpList_app_new rfl _ _ rfl w.heap.size _ out rfl ho2 1 1 [y] rfl rfl rfl (by omega) (by omega) ?_; intro v' w3 hown' hb')
      have hs3 : Hid (Src w3 B b (M + 2 * (i + 1))) := Src.below (w := w2) HS2.out (hb'.mono (by omega))
      go_wp2
      go_roundw
      case rel => exact ⟨i + 1, out ++ [y], by omega, by go_num, hown', fun z hz => by rcases List.mem_append.1 hz with h | h; exact hBo z h; simp at h; omega, by simp; omega, hs3.out, hb2.trans (hb'.mono (by omega)), HKB2.out.below' hb'⟩
      case measure => simp [intOf]; omega
    · have hii : i = n := by omega
      have hj : ¬ (0 : Int) < ((n - i : Nat) : Int) := by omega
      subst hii
      go_wp2
      go_ret
      exact ⟨_, rfl, out, hown, hBo, hol, hsr, hbel, hkb⟩
end Go.Proofs.YtilepbbcinbmhaaDoor

namespace Go.Proofs.YtilepbbcinbmhaaDoor
open Go.RowKit

/-- A slice of bytes out of a text: n bytes l, room up to cap, in block g, which may be written. -/
def Cv (w : World) (g n cap : Nat) (l : List Nat) : Prop := l.length = n ∧ n ≤ cap ∧ g < w.heap.size ∧ (∀ i, i < n → w.cell? ⟨g, i, none⟩ = some (.int .u8 (nth l i : Int))) ∧ ∀ i, i < cap → (w.cell? ⟨g, i, none⟩).isSome = true ∧ w.frozen? ⟨g, i, none⟩ = false
theorem Cv.rd {w : World} {g n cap : Nat} {l : List Nat} (h : Cv w g n cap l) : Rd w (some ⟨g, 0, none⟩) l := by
  obtain ⟨hl, _, hg, hc, _⟩ := h
  exact .inr ⟨g, 0, rfl, hg, fun i hi => by rw [Nat.zero_add]; exact hc i (by omega)⟩
theorem Cv.kept {w w' : World} {g n cap b : Nat} {l : List Nat} (h : Cv w g n cap l) (hg : w.grownBy w' (some b)) (hb : b ≠ g) : Cv w' g n cap l := by
  obtain ⟨hl, hn, hlt, hc, hf⟩ := h
  have e1 : ∀ i, w'.cell? ⟨g, i, none⟩ = w.cell? ⟨g, i, none⟩ := fun i => hg.cell_far ⟨g, i, none⟩ hlt (by simp; omega)
  have e2 : ∀ i, w'.frozen? ⟨g, i, none⟩ = w.frozen? ⟨g, i, none⟩ := fun i => hg.frozen_far ⟨g, i, none⟩ hlt (by simp; omega)
  exact ⟨hl, hn, Nat.lt_of_lt_of_le hlt hg.size, fun i hi => (e1 i).trans (hc i hi), fun i hi => by rw [e1, e2]; exact hf i hi⟩
theorem Cv.below {w w' : World} {g n cap C : Nat} {l : List Nat} (h : Cv w g n cap l) (hb : Below C w w') (hC : g < C) : Cv w' g n cap l := by
  obtain ⟨hl, hn, hlt, hc, hf⟩ := h
  have e1 : ∀ i, w'.cell? ⟨g, i, none⟩ = w.cell? ⟨g, i, none⟩ := fun i => hb.cell (p := ⟨g, i, none⟩) hC
  have e2 : ∀ i, w'.frozen? ⟨g, i, none⟩ = w.frozen? ⟨g, i, none⟩ := fun i => hb.frozen (p := ⟨g, i, none⟩) hC
  exact ⟨hl, hn, Nat.lt_of_lt_of_le hlt hb.size, fun i hi => (e1 i).trans (hc i hi), fun i hi => by rw [e1, e2]; exact hf i hi⟩
theorem bytesRow_size (l : List Nat) (cap : Nat) (h : l.length ≤ cap) : (bytesRow (str l) cap).size = cap := by
  have := str_size l
  have e : (str l).data.size = (str l).size := rfl
  simp [bytesRow, e, this]; omega
theorem Cv.conv (w : World) (l : List Nat) (hB : IsB l) (cap : Nat) (h : l.length ≤ cap) : Cv (w.alloc (.cells (bytesRow (str l) cap) 5 ((bytesRow (str l) cap).size, (bytesRow (str l) cap).size + 1))) w.heap.size l.length cap l := by
  have hs := bytesRow_size l cap h
  refine ⟨rfl, h, by simp, fun i hi => ?_, fun i hi => ⟨?_, ?_⟩⟩
  · rw [World.cell?_alloc_mark, ← Array.getElem?_toList, ← bc_get hi, ← bytesRow_take l hB cap, List.getElem?_take, if_pos hi]
  · rw [World.cell?_alloc_mark, Array.getElem?_eq_getElem (by omega)]; rfl
  · rw [World.frozen?_alloc_mark, hs, decide_eq_false (by omega), Bool.false_and]
theorem below_setCells (g : Nat) : ∀ (vs : List Value) (o : Nat) (w : World), Below g w (w.setCells g o vs)
  | [], _, _ => Below.refl _ _
  | v :: r, o, w => ((Below.refl _ _).setCell (p := ⟨g, o, none⟩) (Nat.le_refl _) v).trans (below_setCells g r (o + 1) (w.setCell ⟨g, o, none⟩ v))

/-- A byte of such a slice, written. -/
theorem Cv.put {w : World} {g n cap j y : Nat} {l : List Nat} (h : Cv w g n cap l) (hj : j < n) : Cv (w.setCell ⟨g, j, none⟩ (.int .u8 (y : Int))) g n cap (l.set j y) := by
  obtain ⟨hl, hn, hg, hc, hf⟩ := h
  have hcell : ∀ i, j ≠ i → (w.setCell ⟨g, j, none⟩ (.int .u8 (y : Int))).cell? ⟨g, i, none⟩ = w.cell? ⟨g, i, none⟩ := fun i e => World.cell?_setCell_other _ _ _ _ (fun h => e (by cases h; rfl))
  refine ⟨by rw [List.length_set]; exact hl, hn, by simpa using hg, fun i hi => ?_, fun i hi => ⟨?_, ?_⟩⟩
  · by_cases e : j = i
    · subst e
      rw [World.cell?_setCell_same _ _ _ (hc j hj), nth_get (by rw [List.length_set]; omega)]
      simp
    · rw [hcell i e, hc i hi, nth_get (by omega), nth_get (by rw [List.length_set]; omega), List.getElem_set, if_neg e]
  · by_cases e : j = i
    · subst e
      rw [World.cell?_setCell_same _ _ _ (hc j hj)]; rfl
    · rw [hcell i e]; exact (hf i hi).1
  · rw [World.frozen?_setCell]; exact (hf i hi).2
end Go.Proofs.YtilepbbcinbmhaaDoor
