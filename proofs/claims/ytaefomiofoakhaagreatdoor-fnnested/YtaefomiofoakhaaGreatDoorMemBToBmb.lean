/- Words on memory: where a slice of slices of bytes is read, what a row of the call's own holds, an append; no conditions beyond those that each fact names · What is built of parts, as plain lists; no program in it. -/
import Derived.Test.YtaefomiofoakhaaGreatDoorAppToMemF
import Derived.Test.YtaefomiofoakhaaGreatDoorGrxToTel2
import Derived.Test.YtaefomiofoakhaaGreatDoorAppFToHdr
namespace Go.Proofs.YtaefomiofoakhaaGreatDoor
open Go.RowKit

/-- A slice by its address, its length and its room. -/
abbrev SlP := Option Addr × Nat × Nat
def slV (p : SlP) : Value := .slice p.1 p.2.1 p.2.2
/-- The i-th number of a list (0 behind its end). -/
def nthL (l : List SlP) (i : Nat) : SlP := l.getD i (none, 0, 0)
/-- Numbers as cells. -/
def lc (l : List SlP) : List Value := l.map fun (b : SlP) => slV b

theorem nthL_get {l : List SlP} {i : Nat} (h : i < l.length) : nthL l i = l[i] := by
  unfold nthL; rw [List.getD_eq_getElem?_getD, List.getElem?_eq_getElem h]; rfl

theorem lc_len (l : List SlP) : (lc l).length = l.length := by simp [lc]
theorem lc_one (l : List SlP) : ∀ u ∈ lc l, u.oneCell' = true := by
  intro u hu
  simp only [lc, List.mem_map] at hu
  obtain ⟨b, _, rfl⟩ := hu
  rfl
theorem lc_app (a b : List SlP) : lc (a ++ b) = lc a ++ lc b := by simp [lc]
theorem lc_get {l : List SlP} {i : Nat} (h : i < l.length) : (lc l)[i]? = some (slV (nthL l i)) := by
  rw [nthL_get h]; simp [lc, h]

theorem nthL_drop (l : List SlP) (k i : Nat) : nthL (l.drop k) i = nthL l (k + i) := by
  simp [nthL, List.getD_eq_getElem?_getD, List.getElem?_drop]
/-- WHERE A SLICE OF BYTES IS READ: at its address stand the bytes l. -/
def RdL (w : World) (a : Option Addr) (l : List SlP) : Prop :=
  l = [] ∨ ∃ b off, a = some ⟨b, off, none⟩ ∧ b < w.heap.size ∧ ∀ i, i < l.length → w.cell? ⟨b, off + i, none⟩ = some (slV (nthL l i))

theorem RdL.below {w w' : World} {a : Option Addr} {l : List SlP} (h : RdL w a l) (hb : Below w.heap.size w w') : RdL w' a l := by
  rcases h with h | ⟨b, off, e, hlt, hc⟩
  · exact .inl h
  · exact .inr ⟨b, off, e, Nat.lt_of_lt_of_le hlt hb.size, fun i hi => (hb.cell (p := ⟨b, off + i, none⟩) hlt).trans (hc i hi)⟩
/-- Where there is an element there is an address. -/
theorem RdL.at_ {w : World} {a : Option Addr} {l : List SlP} (h : RdL w a l) (hp : 0 < l.length) :
    ∃ b off, a = some ⟨b, off, none⟩ ∧ b < w.heap.size ∧ ∀ i, i < l.length → w.cell? ⟨b, off + i, none⟩ = some (slV (nthL l i)) := by
  rcases h with h | h
  · rw [h] at hp; simp at hp
  · exact h
theorem RdL.drop {w : World} {b off : Nat} {l : List SlP} (h : RdL w (some ⟨b, off, none⟩) l) (k : Nat) : RdL w (some ⟨b, off + k, none⟩) (l.drop k) := by
  rcases h with h | ⟨b', off', e, hlt, hc⟩
  · left; simp [h]
  · obtain ⟨rfl, rfl⟩ : b = b' ∧ off = off' := by simpa using e
    right
    refine ⟨b, off + k, rfl, hlt, fun i hi => ?_⟩
    rw [List.length_drop] at hi
    rw [nthL_drop, Nat.add_assoc]
    exact hc (k + i) (by omega)


/-- A row of the call's own, read. -/
theorem RdL.own {w : World} {base e n cap : Nat} {a : Option Addr} {l : List SlP} (h : w.ownsRow base e 1 (.slice a n cap) n (lc l)) : RdL w a l := by
  have hl : l.length = n := by simpa [lc_len] using h.1
  rcases h.2 with ⟨_, h0⟩ | ⟨g, cap', cur, h', _, hg, _, _, _, htake⟩
  · left; exact List.length_eq_zero_iff.1 (by omega)
  · simp only [Value.slice.injEq] at h'
    obtain ⟨rfl, _, rfl⟩ := h'
    right
    refine ⟨g, 0, rfl, ?_, fun i hi => ?_⟩
    · rcases Nat.lt_or_ge g w.heap.size with hlt | hge
      · exact hlt
      · simp [Array.getElem?_eq_none hge] at hg
    · rw [cell_of_row w g (0 + i) cur e (0, 0) hg, ← lc_get hi, ← htake, List.getElem?_take, if_pos (by omega)]
      simp


theorem infoL : (Tryz.prog.info? 22).map (fun i => (i.zero, i.size, i.bytes)) = some (some (.slice none 0 0), 1, 24) := by kernel_rfl
/-- THE SLICE v IS THE CALL's OWN AND HOLDS THE BYTES l. -/
def OwnL (w : World) (B : Nat) (v : Value) (l : List SlP) : Prop := w.ownsRow B 22 1 v l.length (lc l)

theorem OwnL.nil (w : World) (B : Nat) : OwnL w B (.slice none 0 0) [] := World.ownsRow_nil _ _ _ _
theorem OwnL.lit (w : World) (B : Nat) (hB : B ≤ w.heap.size) (cs : Array Value) (l : List SlP) (h : cs.toList = lc l) (hl : l.length ≤ maxLen) : OwnL (w.alloc (.cells cs 22)) B (.slice (some ⟨w.heap.size, 0, none⟩) l.length l.length) l := by
  have := World.ownsRow_lit (base := B) (e := 22) (size := 1) w cs l.length hB hl (by rw [← Array.length_toList, h, lc_len]; omega)
  rw [h] at this
  exact this
theorem OwnL.alloc {w : World} {B : Nat} {v : Value} {l : List SlP} (h : OwnL w B v l) (o : Obj) : OwnL (w.alloc o) B v l := World.ownsRow.alloc h o
theorem OwnL.drew {w : World} {B : Nat} {v : Value} {l : List SlP} (h : OwnL w B v l) : OwnL w.drew B v l := h
theorem OwnL.below {w w' : World} {B C : Nat} {v : Value} {l : List SlP} (h : OwnL w B v l) (hb : Below C w w') (hC : w.heap.size ≤ C) : OwnL w' B v l := by
  refine ⟨h.1, ?_⟩
  rcases h.2 with h' | ⟨g, cap, cur, h1, h2, h3, h4⟩
  · exact .inl h'
  · refine .inr ⟨g, cap, cur, h1, h2, ?_, h4⟩
    have hg : g < w.heap.size := by
      rcases Nat.lt_or_ge g w.heap.size with hlt | hge
      · exact hlt
      · simp [Array.getElem?_eq_none hge] at h3
    rw [hb.block g (by omega)]; exact h3
theorem OwnL.form {w : World} {B : Nat} {v : Value} {l : List SlP} (h : OwnL w B v l) : ∃ a cap, v = .slice a l.length cap ∧ l.length ≤ cap ∧ cap ≤ maxLen := by
  rcases h.2 with ⟨h', h0⟩ | ⟨g, cap, cur, h', _, _, h4, h5, _⟩
  · exact ⟨none, 0, by rw [h', h0], by omega, by decide⟩
  · exact ⟨_, cap, h', h4, h5⟩
theorem OwnL.rd {w : World} {B n cap : Nat} {a : Option Addr} {l : List SlP} (h : OwnL w B (.slice a n cap) l) : l.length = n ∧ RdL w a l := by
  have hf : l.length = n := by
    obtain ⟨a', c', e, _⟩ := h.form
    simp at e; omega
  subst hf
  exact ⟨rfl, RdL.own h⟩

/-- The cells of a block that was laid just ahead, behind a draw too. -/
theorem new_cellsZ {wr : World} {cs : Array Value} {new : List SlP} (hcs : cs.toList = lc new) (m : Nat) (hm : new.length = m) :
    ∀ j, j < m → (wr.alloc (.cells cs 22)).cell? ((⟨wr.heap.size, 0, none⟩ : Addr).add j) = some (slV (nthL new j)) := by
  intro j hj
  have e : (⟨wr.heap.size, 0, none⟩ : Addr).add j = ⟨wr.heap.size, j, none⟩ := by rw [Go.WideShapes.add_plain, Nat.zero_add]
  rw [e, World.cell?_alloc_mark, ← Array.getElem?_toList, hcs]
  exact lc_get (by omega)
theorem OwnL.low {w : World} {B C : Nat} {v : Value} {l : List SlP} (h : OwnL w B v l) (hC : C ≤ B) : OwnL w C v l := by
  refine ⟨h.1, ?_⟩
  rcases h.2 with h' | ⟨g, cap, cur, h1, h2, h3, h4⟩
  · exact .inl h'
  · exact .inr ⟨g, cap, cur, h1, by omega, h3, h4⟩
/-- The slices hold these bytes. -/
def RdLs (w : World) (l : List SlP) (ls : List (List Nat)) : Prop := l.length = ls.length ∧ ∀ i, i < l.length → (nthL l i).2.1 = (ls.getD i []).length ∧ (nthL l i).2.1 ≤ (nthL l i).2.2 ∧ Rd w (nthL l i).1 (ls.getD i [])
theorem RdLs.below {w w' : World} {l : List SlP} {ls : List (List Nat)} (h : RdLs w l ls) (hb : Below w.heap.size w w') : RdLs w' l ls := ⟨h.1, fun i hi => ⟨(h.2 i hi).1, (h.2 i hi).2.1, (h.2 i hi).2.2.below hb⟩⟩
theorem RdLs.nil (w : World) : RdLs w [] [] := ⟨rfl, fun _ hi => absurd hi (Nat.not_lt_zero _)⟩
theorem RdLs.snoc {w : World} {l : List SlP} {ls : List (List Nat)} (h : RdLs w l ls) (p : SlP) (x : List Nat) (h1 : p.2.1 = x.length) (h2 : p.2.1 ≤ p.2.2) (h3 : Rd w p.1 x) : RdLs w (l ++ [p]) (ls ++ [x]) := by
  refine ⟨by rw [List.length_append, List.length_append, h.1]; rfl, fun i hi => ?_⟩
  rw [List.length_append, List.length_singleton] at hi
  by_cases hil : i < l.length
  · have e1 : nthL (l ++ [p]) i = nthL l i := by unfold nthL; rw [List.getD_eq_getElem?_getD, List.getD_eq_getElem?_getD, List.getElem?_append_left hil]
    have e2 : (ls ++ [x]).getD i [] = ls.getD i [] := by rw [List.getD_eq_getElem?_getD, List.getD_eq_getElem?_getD, List.getElem?_append_left (by rw [← h.1]; exact hil)]
    rw [e1, e2]; exact h.2 i hil
  · obtain rfl : i = l.length := by omega
    have e1 : nthL (l ++ [p]) l.length = p := by unfold nthL; rw [List.getD_eq_getElem?_getD, List.getElem?_append_right (Nat.le_refl _)]; simp
    have e2 : (ls ++ [x]).getD l.length [] = x := by rw [h.1, List.getD_eq_getElem?_getD, List.getElem?_append_right (Nat.le_refl _)]; simp
    rw [e1, e2]; exact ⟨h1, h2, h3⟩
end Go.Proofs.YtaefomiofoakhaaGreatDoor

namespace Go.Proofs.YtaefomiofoakhaaGreatDoor
open Go.RowKit

/-- All of some bodies are bytes, none of more than so many. -/
def FitB (ls : List (List Nat)) : Prop := ∀ k, k < ls.length → IsB (ls.getD k []) ∧ (ls.getD k []).length ≤ 1048576
/-- What is written ahead of the parts, ahead of each, behind all. -/
def bmH (mk : List Nat) : List Nat := bts ⟨#[67, 111, 110, 116, 101, 110, 116, 45, 84, 121, 112, 101, 58, 32, 109, 117, 108, 116, 105, 112, 97, 114, 116, 47, 109, 105, 120, 101, 100, 59, 32, 98, 111, 117, 110, 100, 97, 114, 121, 61]⟩ ++ mk ++ [10, 10]
def bmL (mk : List Nat) : List Nat := [45, 45] ++ mk ++ [10]
def bmE (mk : List Nat) : List Nat := [45, 45] ++ mk ++ [45, 45] ++ [10]
def bmB (mk : List Nat) (ls : List (List Nat)) : List Nat := ls.flatMap fun d => bmL mk ++ d ++ [10]
def bmA (mk : List Nat) (ls : List (List Nat)) : List Nat := bmH mk ++ bmB mk ls ++ bmE mk
theorem bmB_snoc {mk : List Nat} {ls : List (List Nat)} {k : Nat} (h : k < ls.length) : bmB mk (ls.take (k + 1)) = bmB mk (ls.take k) ++ (bmL mk ++ ls.getD k [] ++ [10]) := by
  unfold bmB
  rw [List.take_succ_eq_append_getElem h, List.flatMap_append, List.getD_eq_getElem?_getD, List.getElem?_eq_getElem h]
  simp
theorem isB_bm (mk : List Nat) (h : IsB mk) : IsB (bmH mk) ∧ IsB (bmL mk) ∧ IsB (bmE mk) := by
  have hh : IsB (bts ⟨#[67, 111, 110, 116, 101, 110, 116, 45, 84, 121, 112, 101, 58, 32, 109, 117, 108, 116, 105, 112, 97, 114, 116, 47, 109, 105, 120, 101, 100, 59, 32, 98, 111, 117, 110, 100, 97, 114, 121, 61]⟩) := by
    intro b hb
    revert b
    decide
  refine ⟨fun b hb => ?_, fun b hb => ?_, fun b hb => ?_⟩
  · unfold bmH at hb
    simp only [List.mem_append, List.mem_cons, List.not_mem_nil, or_false] at hb
    rcases hb with (hb | hb) | rfl | rfl
    · exact hh b hb
    · exact h b hb
    · omega
    · omega
  · unfold bmL at hb
    simp only [List.mem_append, List.mem_cons, List.not_mem_nil, or_false] at hb
    rcases hb with ((rfl | rfl) | hb) | rfl
    · omega
    · omega
    · exact h b hb
    · omega
  · unfold bmE at hb
    simp only [List.mem_append, List.mem_cons, List.not_mem_nil, or_false] at hb
    rcases hb with (((rfl | rfl) | hb) | rfl | rfl) | rfl
    · omega
    · omega
    · exact h b hb
    · omega
    · omega
    · omega
theorem strM_app (a b : List Nat) : str a ++ str b = str (a ++ b) := by
  have h : (str a ++ str b).data = (str (a ++ b)).data := by
    rw [ByteArray.data_append]
    simp [str]
  exact congrArg ByteArray.mk h
theorem bm_texts (mk : List Nat) : ((⟨#[67, 111, 110, 116, 101, 110, 116, 45, 84, 121, 112, 101, 58, 32, 109, 117, 108, 116, 105, 112, 97, 114, 116, 47, 109, 105, 120, 101, 100, 59, 32, 98, 111, 117, 110, 100, 97, 114, 121, 61]⟩ : ByteArray) ++ str mk) ++ ⟨#[10, 10]⟩ = str (bmH mk) ∧ ((⟨#[45, 45]⟩ : ByteArray) ++ str mk) ++ ⟨#[10]⟩ = str (bmL mk) ∧ (((⟨#[45, 45]⟩ : ByteArray) ++ str mk) ++ ⟨#[45, 45]⟩) ++ ⟨#[10]⟩ = str (bmE mk) ∧ ((⟨#[45, 45]⟩ : ByteArray) ++ str mk) ++ ⟨#[45, 45, 10]⟩ = str (bmE mk) := by
  refine ⟨?_, ?_, ?_, ?_⟩
  · unfold bmH; rw [← strM_app, ← strM_app]; rfl
  · unfold bmL; rw [← strM_app, ← strM_app]; rfl
  · unfold bmE; rw [← strM_app, ← strM_app, ← strM_app]; rfl
  · unfold bmE; rw [List.append_assoc _ [45, 45] [10], ← strM_app, ← strM_app]; rfl
theorem bm_lens (mk : List Nat) : (bmH mk).length = 42 + mk.length ∧ (bmL mk).length = 3 + mk.length ∧ (bmE mk).length = 5 + mk.length := by
  refine ⟨?_, ?_, ?_⟩
  · unfold bmH; rw [List.length_append, List.length_append, show (bts _).length = 40 from rfl]; simp; omega
  · unfold bmL; simp; omega
  · unfold bmE; simp; omega
end Go.Proofs.YtaefomiofoakhaaGreatDoor
