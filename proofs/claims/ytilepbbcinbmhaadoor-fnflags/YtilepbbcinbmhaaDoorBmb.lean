/- What is built of parts, as plain lists; no program in it. -/
import Derived.Test.YtilepbbcinbmhaaDoorGrx
import Derived.Test.YtilepbbcinbmhaaDoorMemB
import Derived.Test.YtilepbbcinbmhaaDoorAppFToWrd
namespace Go.Proofs.YtilepbbcinbmhaaDoor
open Go.RowKit

/-- All of some bodies are bytes, none of more than so many. -/
def FitB (ls : List (List Nat)) : Prop := ∀ k, k < ls.length → IsB (ls.getD k []) ∧ (ls.getD k []).length ≤ 1048576
/-- What is written ahead of the parts, ahead of each, behind all. -/
def bmH (mk : List Nat) : List Nat := bts ⟨#[67, 111, 110, 116, 101, 110, 116, 45, 84, 121, 112, 101, 58, 32, 109, 117, 108, 116, 105, 112, 97, 114, 116, 47, 109, 105, 120, 101, 100, 59, 32, 98, 111, 117, 110, 100, 97, 114, 121, 61]⟩ ++ mk ++ [10, 10]
def bmL (mk : List Nat) : List Nat := [45, 45] ++ mk ++ [10]
def bmE (mk : List Nat) : List Nat := [45, 45] ++ mk ++ [45, 45] ++ [10]
def bmB (mk : List Nat) (ls : List (List Nat)) : List Nat := ls.flatMap fun d => bmL mk ++ d ++ [10]
def bmA (mk : List Nat) (ls : List (List Nat)) : List Nat := bmH mk ++ bmB mk ls ++ bmE mk
theorem bmB_snoc {mk : List Nat} {ls : List (List Nat)} {k : Nat} (h : k < ls.length) : bmB mk (ls.take (k + 1)) = bmB mk (ls.take k) ++ (bmL mk ++ ls.getD k [] ++ [10]) := by
  unfold bmB
  rw [List.take_succ_eq_append_getElem h, List.flatMap_append, List.getD_eq_getElem?_getD, List.getElem?_eq_getElem h]
  simp
theorem isB_bm (mk : List Nat) (h : IsB mk) : IsB (bmH mk) ∧ IsB (bmL mk) ∧ IsB (bmE mk) := by
  have hh : IsB (bts ⟨#[67, 111, 110, 116, 101, 110, 116, 45, 84, 121, 112, 101, 58, 32, 109, 117, 108, 116, 105, 112, 97, 114, 116, 47, 109, 105, 120, 101, 100, 59, 32, 98, 111, 117, 110, 100, 97, 114, 121, 61]⟩) := by
    intro b hb
    revert b
    decide
  refine ⟨fun b hb => ?_, fun b hb => ?_, fun b hb => ?_⟩
  · unfold bmH at hb
    simp only [List.mem_append, List.mem_cons, List.not_mem_nil, or_false] at hb
    rcases hb with (hb | hb) | rfl | rfl
    · exact hh b hb
    · exact h b hb
    · omega
    · omega
  · unfold bmL at hb
    simp only [List.mem_append, List.mem_cons, List.not_mem_nil, or_false] at hb
    rcases hb with ((rfl | rfl) | hb) | rfl
    · omega
    · omega
    · exact h b hb
    · omega
  · unfold bmE at hb
    simp only [List.mem_append, List.mem_cons, List.not_mem_nil, or_false] at hb
    rcases hb with (((rfl | rfl) | hb) | rfl | rfl) | rfl
    · omega
    · omega
    · exact h b hb
    · omega
    · omega
    · omega
theorem strM_app (a b : List Nat) : str a ++ str b = str (a ++ b) := by
  have h : (str a ++ str b).data = (str (a ++ b)).data := by
    rw [ByteArray.data_append]
    simp [str]
  exact congrArg ByteArray.mk h
theorem bm_texts (mk : List Nat) : ((⟨#[67, 111, 110, 116, 101, 110, 116, 45, 84, 121, 112, 101, 58, 32, 109, 117, 108, 116, 105, 112, 97, 114, 116, 47, 109, 105, 120, 101, 100, 59, 32, 98, 111, 117, 110, 100, 97, 114, 121, 61]⟩ : ByteArray) ++ str mk) ++ ⟨#[10, 10]⟩ = str (bmH mk) ∧ ((⟨#[45, 45]⟩ : ByteArray) ++ str mk) ++ ⟨#[10]⟩ = str (bmL mk) ∧ (((⟨#[45, 45]⟩ : ByteArray) ++ str mk) ++ ⟨#[45, 45]⟩) ++ ⟨#[10]⟩ = str (bmE mk) ∧ ((⟨#[45, 45]⟩ : ByteArray) ++ str mk) ++ ⟨#[45, 45, 10]⟩ = str (bmE mk) := by
  refine ⟨?_, ?_, ?_, ?_⟩
  · unfold bmH; rw [← strM_app, ← strM_app]; rfl
  · unfold bmL; rw [← strM_app, ← strM_app]; rfl
  · unfold bmE; rw [← strM_app, ← strM_app, ← strM_app]; rfl
  · unfold bmE; rw [List.append_assoc _ [45, 45] [10], ← strM_app, ← strM_app]; rfl
theorem bm_lens (mk : List Nat) : (bmH mk).length = 42 + mk.length ∧ (bmL mk).length = 3 + mk.length ∧ (bmE mk).length = 5 + mk.length := by
  refine ⟨?_, ?_, ?_⟩
  · unfold bmH; rw [List.length_append, List.length_append, show (bts _).length = 40 from rfl]; simp; omega
  · unfold bmL; simp; omega
  · unfold bmE; simp; omega
end Go.Proofs.YtilepbbcinbmhaaDoor
