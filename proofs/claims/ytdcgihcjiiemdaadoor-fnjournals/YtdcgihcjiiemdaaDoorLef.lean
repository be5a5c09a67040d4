/- A message of one part, as the model draws it: some bytes; no conditions beyond those that each fact names. -/
import Derived.Test.YtdcgihcjiiemdaaDoorGrxToDrk
import Derived.Test.YtdcgihcjiiemdaaDoorDrlToGrw
import Derived.Test.YtdcgihcjiiemdaaDoorMemFToEncQ2
import Derived.Test.YtdcgihcjiiemdaaDoorEncB3
import Derived.Test.YtdcgihcjiiemdaaDoorEncQ3
import Derived.Test.YtdcgihcjiiemdaaDoorDecQToDrl4
import Derived.Lib.SlBytesConst
namespace Go.Proofs.YtdcgihcjiiemdaaDoor
open Go.RowKit
theorem quo_len3 : ∀ l : List Nat, (Xq.quo l).length ≤ 3 * l.length
 | [] => by simp [Xq.quo]
 | b :: r => by
  have := quo_len3 r
  unfold Xq.quo
  split <;> simp <;> omega
theorem Gr.const (w : World) (l : List Nat) (cs : Array Value) (h : cs.toList = bc l) (B n : Nat) (hB : B ≤ w.heap.size) (hn : l.length = n) (hm : n ≤ maxLen) : Gr (w.alloc (.cells cs 5 (n, n + 1))) B (.slice (some ⟨w.heap.size, 0, none⟩) n n) l := by
 subst hn
 have hs : cs.size = l.length := by rw [← Array.length_toList, h, bc_len]
 refine ⟨w.heap.size, l.length, rfl, hB, hm, rfl, Nat.le_refl _, by simp, fun i hi => ?_, fun i hi => ⟨?_, ?_⟩⟩
 ·rw [World.cell?_alloc_mark, ← Array.getElem?_toList, h]
  exact bc_get hi
 ·rw [World.cell?_alloc_mark, Array.getElem?_eq_getElem (by omega)]; rfl
 ·rw [World.frozen?_alloc_mark, decide_eq_false (by omega), Bool.false_and]
theorem str_cat (a b : List Nat) : str a ++ str b = str (a ++ b) := by
 have h : (str a ++ str b).data = (str (a ++ b)).data := by
  rw [ByteArray.data_append]
  simp [str]
 exact congrArg ByteArray.mk h
theorem subj_text (t : List Nat) : ((⟨#[83, 117, 98, 106, 101, 99, 116, 58, 32]⟩ : ByteArray) ++ str t) ++ ⟨#[10, 10]⟩ = str (([83, 117, 98, 106, 101, 99, 116, 58, 32] ++ t) ++ [10, 10]) := by
 rw [← str_cat, ← str_cat]; rfl
def LfEnd (B b M K : Nat) (w : World) (e : Ending) (w' : World) : Prop := ∃ (v : Value) (out : List Nat), e = .returned v ∧ Gr w' w.heap.size v out ∧ IsB out ∧ out.length ≤ K ∧ Go.Proofs.YtdcgihcjiiemdaaDoor.Src w' B b M ∧ Below b w w' ∧ Kb b w w'
theorem isB_cat {a b : List Nat} (ha : IsB a) (hb : IsB b) : IsB (a ++ b) := fun x hx => (List.mem_append.1 hx).elim (ha x) (hb x)
set_option maxHeartbeats 3200000 in
set_option maxRecDepth 100000 in
theorem l5Leaf_any (B b M : Nat) (w : World) (hs : Go.Proofs.YtdcgihcjiiemdaaDoor.Src w B b M) (hM : M ≤ 90000) :
  Calls Tryd.prog 43 #[.pointer (some ⟨b, 0, none⟩)] w fun e w' => LfEnd B b (M + 40) 600 w e w' := by
 have hbw : b < w.heap.size := hs.2.1
 go_enter Tryd.func43, Tryd.ntmps43
 go_wp2_with fail
 refine (l1Next_any B b M 8 w hs (by omega) (by omega) (by omega)).mono ?_
 rintro e w1 ⟨r, rfl, r0, r1, -, hs1, hg1⟩
 obtain ⟨n, rfl⟩ := Int.eq_ofNat_of_zero_le r0
 have hn : n < 8 := by have := r1 (by omega); omega
 have hB1 : Below b w w1 := gbelow hg1 hbw
 have hK1 : Kb b w w1 := (Kb.refl b w).grown hg1
 clear r0 r1 hg1 hs
 go_wp2_with fail
 refine (l1Some_kb B b (M + 1) n w1 hs1 (by omega) (by omega)).mono ?_
 rintro e w2 ⟨v, out, rfl, ho2, hBo, hlo, hs2, hb2, hk2⟩
 have hB2 := hB1.trans hb2
 have hK2 := hK1.trans hk2
 have hbw1 : b < w1.heap.size := Nat.lt_of_lt_of_le hbw hB1.size
 obtain ⟨a2, c2, rfl, hc2, -⟩ := id ho2.form
 clear hs1 hb2 hB1 hk2 hK1
 go_wp2_with fail
 refine (l1Next_any B b (M + 1 + 2 * n) 6 w2 hs2 (by omega) (by omega) (by omega)).mono ?_
 rintro e w3 ⟨r, rfl, r0, r1, -, hs3, hg3⟩
 obtain ⟨k, rfl⟩ := Int.eq_ofNat_of_zero_le r0
 have hk : k < 6 := by have := r1 (by omega); omega
 have ho3 := ho2.keptG hg3 (by omega)
 have hB3 : Below b w w3 := hB2.trans (gbelow hg3 hs2.2.1)
 have hs3 := hs3.more (show M + 1 + 2 * n + 1 ≤ M + 30 by omega)
 have hz3 : b + 1 ≤ w3.heap.size := hs3.2.1
 have hK3 : Kb b w w3 := hK2.grown hg3
 have hzw : w.heap.size ≤ w3.heap.size := hB3.size
 have hrd3 := ho3.rd.2
 have hNA : a2 = none → out.length = 0 := fun h => by
  rcases hrd3 with h' | ⟨x, y, e, -⟩
  ·rw [h']; rfl
  ·rw [h] at e; cases e
 clear r0 r1 hg3 hs2 ho2 hB2 hK2
 obtain rfl | rfl | rfl | rfl | rfl | rfl : k = 0 ∨ k = 1 ∨ k = 2 ∨ k = 3 ∨ k = 4 ∨ k = 5 := by omega
 ·have hO := Gr.const w3 [67, 111, 110, 116, 101, 110, 116, 45, 84, 114, 97, 110, 115, 102, 101, 114, 45, 69, 110, 99, 111, 100, 105, 110, 103, 58, 32, 98, 97, 115, 101, 54, 52, 10, 10] #[.int .u8 67, .int .u8 111, .int .u8 110, .int .u8 116, .int .u8 101, .int .u8 110, .int .u8 116, .int .u8 45, .int .u8 84, .int .u8 114, .int .u8 97, .int .u8 110, .int .u8 115, .int .u8 102, .int .u8 101, .int .u8 114, .int .u8 45, .int .u8 69, .int .u8 110, .int .u8 99, .int .u8 111, .int .u8 100, .int .u8 105, .int .u8 110, .int .u8 103, .int .u8 58, .int .u8 32, .int .u8 98, .int .u8 97, .int .u8 115, .int .u8 101, .int .u8 54, .int .u8 52, .int .u8 10, .int .u8 10] rfl w.heap.size 35 hzw rfl (by decide)
  have hbL : Below w3.heap.size w3 (w3.alloc (.cells #[.int .u8 67, .int .u8 111, .int .u8 110, .int .u8 116, .int .u8 101, .int .u8 110, .int .u8 116, .int .u8 45, .int .u8 84, .int .u8 114, .int .u8 97, .int .u8 110, .int .u8 115, .int .u8 102, .int .u8 101, .int .u8 114, .int .u8 45, .int .u8 69, .int .u8 110, .int .u8 99, .int .u8 111, .int .u8 100, .int .u8 105, .int .u8 110, .int .u8 103, .int .u8 58, .int .u8 32, .int .u8 98, .int .u8 97, .int .u8 115, .int .u8 101, .int .u8 54, .int .u8 52, .int .u8 10, .int .u8 10] 5 (35, 36))) := (Below.refl _ _).alloc (Nat.le_refl _) _
  have HC := l1Encode_any a2 n c2 out (w3.alloc (.cells #[.int .u8 67, .int .u8 111, .int .u8 110, .int .u8 116, .int .u8 101, .int .u8 110, .int .u8 116, .int .u8 45, .int .u8 84, .int .u8 114, .int .u8 97, .int .u8 110, .int .u8 115, .int .u8 102, .int .u8 101, .int .u8 114, .int .u8 45, .int .u8 69, .int .u8 110, .int .u8 99, .int .u8 111, .int .u8 100, .int .u8 105, .int .u8 110, .int .u8 103, .int .u8 58, .int .u8 32, .int .u8 98, .int .u8 97, .int .u8 115, .int .u8 101, .int .u8 54, .int .u8 52, .int .u8 10, .int .u8 10] 5 (35, 36))) hlo (hrd3.below hbL) hBo (by omega)
  have hsL := hs3.below (hbL.mono hz3)
  have hBL : Below b w _ := hB3.trans (hbL.mono (by omega))
  have hKL := hK3.below hbL
  have hszL : w3.heap.size < (w3.alloc (.cells #[.int .u8 67, .int .u8 111, .int .u8 110, .int .u8 116, .int .u8 101, .int .u8 110, .int .u8 116, .int .u8 45, .int .u8 84, .int .u8 114, .int .u8 97, .int .u8 110, .int .u8 115, .int .u8 102, .int .u8 101, .int .u8 114, .int .u8 45, .int .u8 69, .int .u8 110, .int .u8 99, .int .u8 111, .int .u8 100, .int .u8 105, .int .u8 110, .int .u8 103, .int .u8 58, .int .u8 32, .int .u8 98, .int .u8 97, .int .u8 115, .int .u8 101, .int .u8 54, .int .u8 52, .int .u8 10, .int .u8 10] 5 (35, 36))).heap.size := by simp
  have hIt : IsB (Xf.enc out) := enc_isB hBo
  have hLt : (Xf.enc out).length ≤ 40 := by rw [Xf.enc_len]; omega
  generalize (Xf.enc out) = tx at *
  have hcs : (convert 22 22 (.slice (some ⟨w3.heap.size, 0, none⟩) 35 35)).run Tryd.prog (w3.alloc (.cells #[.int .u8 67, .int .u8 111, .int .u8 110, .int .u8 116, .int .u8 101, .int .u8 110, .int .u8 116, .int .u8 45, .int .u8 84, .int .u8 114, .int .u8 97, .int .u8 110, .int .u8 115, .int .u8 102, .int .u8 101, .int .u8 114, .int .u8 45, .int .u8 69, .int .u8 110, .int .u8 99, .int .u8 111, .int .u8 100, .int .u8 105, .int .u8 110, .int .u8 103, .int .u8 58, .int .u8 32, .int .u8 98, .int .u8 97, .int .u8 115, .int .u8 101, .int .u8 54, .int .u8 52, .int .u8 10, .int .u8 10] 5)) = .ok (.slice (some ⟨w3.heap.size, 0, none⟩) 35 35) (w3.alloc (.cells #[.int .u8 67, .int .u8 111, .int .u8 110, .int .u8 116, .int .u8 101, .int .u8 110, .int .u8 116, .int .u8 45, .int .u8 84, .int .u8 114, .int .u8 97, .int .u8 110, .int .u8 115, .int .u8 102, .int .u8 101, .int .u8 114, .int .u8 45, .int .u8 69, .int .u8 110, .int .u8 99, .int .u8 111, .int .u8 100, .int .u8 105, .int .u8 110, .int .u8 103, .int .u8 58, .int .u8 32, .int .u8 98, .int .u8 97, .int .u8 115, .int .u8 101, .int .u8 54, .int .u8 52, .int .u8 10, .int .u8 10] 5 (35, 36))) := Lib.run_convert_bytes_const w3 _ _ _ _ _ Tryd.underlying22 Tryd.underlying5
  go_wp2_with fail
  generalize (w3.alloc (.cells #[.int .u8 67, .int .u8 111, .int .u8 110, .int .u8 116, .int .u8 101, .int .u8 110, .int .u8 116, .int .u8 45, .int .u8 84, .int .u8 114, .int .u8 97, .int .u8 110, .int .u8 115, .int .u8 102, .int .u8 101, .int .u8 114, .int .u8 45, .int .u8 69, .int .u8 110, .int .u8 99, .int .u8 111, .int .u8 100, .int .u8 105, .int .u8 110, .int .u8 103, .int .u8 58, .int .u8 32, .int .u8 98, .int .u8 97, .int .u8 115, .int .u8 101, .int .u8 54, .int .u8 52, .int .u8 10, .int .u8 10] 5 (35, 36))) = W at *
  refine HC.mono ?_
  rintro e w4 ⟨rfl, hb4⟩
  have hB4 := hBL.trans (hb4.mono (by omega))
  have hK4 := hKL.below hb4
  have hO4 := hO.below hb4 (Nat.le_refl _)
  have hs4 := hsL.below (hb4.mono (by omega))
  have hz4 : b + 1 ≤ w4.heap.size := hs4.2.1
  have hg4 := hO4
  have hcvt := run_bytes_of_string (P := Tryd.prog) w4 9 22 5 (str tx) Tryd.underlying9 Tryd.underlying22 Tryd.underlying5
  rw [str_size] at hcvt
  have hcp := grownCap_ge w4 tx.length 0 5
  have hy : Below w4.heap.size w4 (w4.alloc (.cells (bytesRow (str tx) (grownCap w4 tx.length 0 5)) 5 ((bytesRow (str tx) (grownCap w4 tx.length 0 5)).size, (bytesRow (str tx) (grownCap w4 tx.length 0 5)).size + 1))).drew := ((Below.refl _ _).alloc (Nat.le_refl _) _).drew
  have hcv : Rd (w4.alloc (.cells (bytesRow (str tx) (grownCap w4 tx.length 0 5)) 5 ((bytesRow (str tx) (grownCap w4 tx.length 0 5)).size, (bytesRow (str tx) (grownCap w4 tx.length 0 5)).size + 1))).drew (some ⟨w4.heap.size, 0, none⟩) tx := (Cv.conv w4 tx hIt _ hcp).rd
  have hg5 := hg4.below hy (Nat.le_refl _)
  have hs5 := hs4.below (hy.mono hz4)
  have hB5 : Below b w (w4.alloc (.cells (bytesRow (str tx) (grownCap w4 tx.length 0 5)) 5 ((bytesRow (str tx) (grownCap w4 tx.length 0 5)).size, (bytesRow (str tx) (grownCap w4 tx.length 0 5)).size + 1))).drew := hB4.trans (hy.mono (by omega))
  have hK5 := hK4.below hy
  have hz5 := hB5.size
  clear HC hcs hbL hb4
  go_wp2_with (at_builtin; refine wpList_app_grx rfl _ _ 22 rfl w.heap.size _ [67, 111, 110, 116, 101, 110, 116, 45, 84, 114, 97, 110, 115, 102, 101, 114, 45, 69, 110, 99, 111, 100, 105, 110, 103, 58, 32, 98, 97, 115, 101, 54, 52, 10, 10] (by rfl) hg5 _ _ tx (by rfl) (src_slice rfl hcv (fun h => by cases h)) rfl (by show 35 + tx.length ≤ _; omega) hz5 ?_; intro v6 w6 hg6 hb6; have hB6 := hB5.trans (hb6.mono (by omega)); have hs6 := hs5.below (hb6.mono (by omega)); have hK6 := hK5.below' hb6)
  go_ret
  exact ⟨_, _, rfl, hg6, isB_cat (by unfold IsB; decide) hIt, by rw [List.length_append]; show 35 + _ ≤ _; omega, hs6.more (by omega), hB6, hK6⟩
 ·have hO := Gr.const w3 [67, 111, 110, 116, 101, 110, 116, 45, 84, 121, 112, 101, 58, 32, 116, 101, 120, 116, 47, 112, 108, 97, 105, 110, 59, 32, 99, 104, 97, 114, 115, 101, 116, 61, 117, 116, 102, 45, 56, 10, 67, 111, 110, 116, 101, 110, 116, 45, 84, 114, 97, 110, 115, 102, 101, 114, 45, 69, 110, 99, 111, 100, 105, 110, 103, 58, 32, 113, 117, 111, 116, 101, 100, 45, 112, 114, 105, 110, 116, 97, 98, 108, 101, 10, 10] #[.int .u8 67, .int .u8 111, .int .u8 110, .int .u8 116, .int .u8 101, .int .u8 110, .int .u8 116, .int .u8 45, .int .u8 84, .int .u8 121, .int .u8 112, .int .u8 101, .int .u8 58, .int .u8 32, .int .u8 116, .int .u8 101, .int .u8 120, .int .u8 116, .int .u8 47, .int .u8 112, .int .u8 108, .int .u8 97, .int .u8 105, .int .u8 110, .int .u8 59, .int .u8 32, .int .u8 99, .int .u8 104, .int .u8 97, .int .u8 114, .int .u8 115, .int .u8 101, .int .u8 116, .int .u8 61, .int .u8 117, .int .u8 116, .int .u8 102, .int .u8 45, .int .u8 56, .int .u8 10, .int .u8 67, .int .u8 111, .int .u8 110, .int .u8 116, .int .u8 101, .int .u8 110, .int .u8 116, .int .u8 45, .int .u8 84, .int .u8 114, .int .u8 97, .int .u8 110, .int .u8 115, .int .u8 102, .int .u8 101, .int .u8 114, .int .u8 45, .int .u8 69, .int .u8 110, .int .u8 99, .int .u8 111, .int .u8 100, .int .u8 105, .int .u8 110, .int .u8 103, .int .u8 58, .int .u8 32, .int .u8 113, .int .u8 117, .int .u8 111, .int .u8 116, .int .u8 101, .int .u8 100, .int .u8 45, .int .u8 112, .int .u8 114, .int .u8 105, .int .u8 110, .int .u8 116, .int .u8 97, .int .u8 98, .int .u8 108, .int .u8 101, .int .u8 10, .int .u8 10] rfl w.heap.size 85 hzw rfl (by decide)
  have hbL : Below w3.heap.size w3 (w3.alloc (.cells #[.int .u8 67, .int .u8 111, .int .u8 110, .int .u8 116, .int .u8 101, .int .u8 110, .int .u8 116, .int .u8 45, .int .u8 84, .int .u8 121, .int .u8 112, .int .u8 101, .int .u8 58, .int .u8 32, .int .u8 116, .int .u8 101, .int .u8 120, .int .u8 116, .int .u8 47, .int .u8 112, .int .u8 108, .int .u8 97, .int .u8 105, .int .u8 110, .int .u8 59, .int .u8 32, .int .u8 99, .int .u8 104, .int .u8 97, .int .u8 114, .int .u8 115, .int .u8 101, .int .u8 116, .int .u8 61, .int .u8 117, .int .u8 116, .int .u8 102, .int .u8 45, .int .u8 56, .int .u8 10, .int .u8 67, .int .u8 111, .int .u8 110, .int .u8 116, .int .u8 101, .int .u8 110, .int .u8 116, .int .u8 45, .int .u8 84, .int .u8 114, .int .u8 97, .int .u8 110, .int .u8 115, .int .u8 102, .int .u8 101, .int .u8 114, .int .u8 45, .int .u8 69, .int .u8 110, .int .u8 99, .int .u8 111, .int .u8 100, .int .u8 105, .int .u8 110, .int .u8 103, .int .u8 58, .int .u8 32, .int .u8 113, .int .u8 117, .int .u8 111, .int .u8 116, .int .u8 101, .int .u8 100, .int .u8 45, .int .u8 112, .int .u8 114, .int .u8 105, .int .u8 110, .int .u8 116, .int .u8 97, .int .u8 98, .int .u8 108, .int .u8 101, .int .u8 10, .int .u8 10] 5 (85, 86))) := (Below.refl _ _).alloc (Nat.le_refl _) _
  have HC := l1Quoted_any a2 n c2 out (w3.alloc (.cells #[.int .u8 67, .int .u8 111, .int .u8 110, .int .u8 116, .int .u8 101, .int .u8 110, .int .u8 116, .int .u8 45, .int .u8 84, .int .u8 121, .int .u8 112, .int .u8 101, .int .u8 58, .int .u8 32, .int .u8 116, .int .u8 101, .int .u8 120, .int .u8 116, .int .u8 47, .int .u8 112, .int .u8 108, .int .u8 97, .int .u8 105, .int .u8 110, .int .u8 59, .int .u8 32, .int .u8 99, .int .u8 104, .int .u8 97, .int .u8 114, .int .u8 115, .int .u8 101, .int .u8 116, .int .u8 61, .int .u8 117, .int .u8 116, .int .u8 102, .int .u8 45, .int .u8 56, .int .u8 10, .int .u8 67, .int .u8 111, .int .u8 110, .int .u8 116, .int .u8 101, .int .u8 110, .int .u8 116, .int .u8 45, .int .u8 84, .int .u8 114, .int .u8 97, .int .u8 110, .int .u8 115, .int .u8 102, .int .u8 101, .int .u8 114, .int .u8 45, .int .u8 69, .int .u8 110, .int .u8 99, .int .u8 111, .int .u8 100, .int .u8 105, .int .u8 110, .int .u8 103, .int .u8 58, .int .u8 32, .int .u8 113, .int .u8 117, .int .u8 111, .int .u8 116, .int .u8 101, .int .u8 100, .int .u8 45, .int .u8 112, .int .u8 114, .int .u8 105, .int .u8 110, .int .u8 116, .int .u8 97, .int .u8 98, .int .u8 108, .int .u8 101, .int .u8 10, .int .u8 10] 5 (85, 86))) hlo (hrd3.below hbL) hBo (by omega)
  have hsL := hs3.below (hbL.mono hz3)
  have hBL : Below b w _ := hB3.trans (hbL.mono (by omega))
  have hKL := hK3.below hbL
  have hszL : w3.heap.size < (w3.alloc (.cells #[.int .u8 67, .int .u8 111, .int .u8 110, .int .u8 116, .int .u8 101, .int .u8 110, .int .u8 116, .int .u8 45, .int .u8 84, .int .u8 121, .int .u8 112, .int .u8 101, .int .u8 58, .int .u8 32, .int .u8 116, .int .u8 101, .int .u8 120, .int .u8 116, .int .u8 47, .int .u8 112, .int .u8 108, .int .u8 97, .int .u8 105, .int .u8 110, .int .u8 59, .int .u8 32, .int .u8 99, .int .u8 104, .int .u8 97, .int .u8 114, .int .u8 115, .int .u8 101, .int .u8 116, .int .u8 61, .int .u8 117, .int .u8 116, .int .u8 102, .int .u8 45, .int .u8 56, .int .u8 10, .int .u8 67, .int .u8 111, .int .u8 110, .int .u8 116, .int .u8 101, .int .u8 110, .int .u8 116, .int .u8 45, .int .u8 84, .int .u8 114, .int .u8 97, .int .u8 110, .int .u8 115, .int .u8 102, .int .u8 101, .int .u8 114, .int .u8 45, .int .u8 69, .int .u8 110, .int .u8 99, .int .u8 111, .int .u8 100, .int .u8 105, .int .u8 110, .int .u8 103, .int .u8 58, .int .u8 32, .int .u8 113, .int .u8 117, .int .u8 111, .int .u8 116, .int .u8 101, .int .u8 100, .int .u8 45, .int .u8 112, .int .u8 114, .int .u8 105, .int .u8 110, .int .u8 116, .int .u8 97, .int .u8 98, .int .u8 108, .int .u8 101, .int .u8 10, .int .u8 10] 5 (85, 86))).heap.size := by simp
  have hIt : IsB (Xq.quo out) := quo_isB hBo
  have hLt : (Xq.quo out).length ≤ 40 := by have := quo_len3 out; omega
  generalize (Xq.quo out) = tx at *
  have hcs : (convert 22 22 (.slice (some ⟨w3.heap.size, 0, none⟩) 85 85)).run Tryd.prog (w3.alloc (.cells #[.int .u8 67, .int .u8 111, .int .u8 110, .int .u8 116, .int .u8 101, .int .u8 110, .int .u8 116, .int .u8 45, .int .u8 84, .int .u8 121, .int .u8 112, .int .u8 101, .int .u8 58, .int .u8 32, .int .u8 116, .int .u8 101, .int .u8 120, .int .u8 116, .int .u8 47, .int .u8 112, .int .u8 108, .int .u8 97, .int .u8 105, .int .u8 110, .int .u8 59, .int .u8 32, .int .u8 99, .int .u8 104, .int .u8 97, .int .u8 114, .int .u8 115, .int .u8 101, .int .u8 116, .int .u8 61, .int .u8 117, .int .u8 116, .int .u8 102, .int .u8 45, .int .u8 56, .int .u8 10, .int .u8 67, .int .u8 111, .int .u8 110, .int .u8 116, .int .u8 101, .int .u8 110, .int .u8 116, .int .u8 45, .int .u8 84, .int .u8 114, .int .u8 97, .int .u8 110, .int .u8 115, .int .u8 102, .int .u8 101, .int .u8 114, .int .u8 45, .int .u8 69, .int .u8 110, .int .u8 99, .int .u8 111, .int .u8 100, .int .u8 105, .int .u8 110, .int .u8 103, .int .u8 58, .int .u8 32, .int .u8 113, .int .u8 117, .int .u8 111, .int .u8 116, .int .u8 101, .int .u8 100, .int .u8 45, .int .u8 112, .int .u8 114, .int .u8 105, .int .u8 110, .int .u8 116, .int .u8 97, .int .u8 98, .int .u8 108, .int .u8 101, .int .u8 10, .int .u8 10] 5)) = .ok (.slice (some ⟨w3.heap.size, 0, none⟩) 85 85) (w3.alloc (.cells #[.int .u8 67, .int .u8 111, .int .u8 110, .int .u8 116, .int .u8 101, .int .u8 110, .int .u8 116, .int .u8 45, .int .u8 84, .int .u8 121, .int .u8 112, .int .u8 101, .int .u8 58, .int .u8 32, .int .u8 116, .int .u8 101, .int .u8 120, .int .u8 116, .int .u8 47, .int .u8 112, .int .u8 108, .int .u8 97, .int .u8 105, .int .u8 110, .int .u8 59, .int .u8 32, .int .u8 99, .int .u8 104, .int .u8 97, .int .u8 114, .int .u8 115, .int .u8 101, .int .u8 116, .int .u8 61, .int .u8 117, .int .u8 116, .int .u8 102, .int .u8 45, .int .u8 56, .int .u8 10, .int .u8 67, .int .u8 111, .int .u8 110, .int .u8 116, .int .u8 101, .int .u8 110, .int .u8 116, .int .u8 45, .int .u8 84, .int .u8 114, .int .u8 97, .int .u8 110, .int .u8 115, .int .u8 102, .int .u8 101, .int .u8 114, .int .u8 45, .int .u8 69, .int .u8 110, .int .u8 99, .int .u8 111, .int .u8 100, .int .u8 105, .int .u8 110, .int .u8 103, .int .u8 58, .int .u8 32, .int .u8 113, .int .u8 117, .int .u8 111, .int .u8 116, .int .u8 101, .int .u8 100, .int .u8 45, .int .u8 112, .int .u8 114, .int .u8 105, .int .u8 110, .int .u8 116, .int .u8 97, .int .u8 98, .int .u8 108, .int .u8 101, .int .u8 10, .int .u8 10] 5 (85, 86))) := Lib.run_convert_bytes_const w3 _ _ _ _ _ Tryd.underlying22 Tryd.underlying5
  go_wp2_with fail
  generalize (w3.alloc (.cells #[.int .u8 67, .int .u8 111, .int .u8 110, .int .u8 116, .int .u8 101, .int .u8 110, .int .u8 116, .int .u8 45, .int .u8 84, .int .u8 121, .int .u8 112, .int .u8 101, .int .u8 58, .int .u8 32, .int .u8 116, .int .u8 101, .int .u8 120, .int .u8 116, .int .u8 47, .int .u8 112, .int .u8 108, .int .u8 97, .int .u8 105, .int .u8 110, .int .u8 59, .int .u8 32, .int .u8 99, .int .u8 104, .int .u8 97, .int .u8 114, .int .u8 115, .int .u8 101, .int .u8 116, .int .u8 61, .int .u8 117, .int .u8 116, .int .u8 102, .int .u8 45, .int .u8 56, .int .u8 10, .int .u8 67, .int .u8 111, .int .u8 110, .int .u8 116, .int .u8 101, .int .u8 110, .int .u8 116, .int .u8 45, .int .u8 84, .int .u8 114, .int .u8 97, .int .u8 110, .int .u8 115, .int .u8 102, .int .u8 101, .int .u8 114, .int .u8 45, .int .u8 69, .int .u8 110, .int .u8 99, .int .u8 111, .int .u8 100, .int .u8 105, .int .u8 110, .int .u8 103, .int .u8 58, .int .u8 32, .int .u8 113, .int .u8 117, .int .u8 111, .int .u8 116, .int .u8 101, .int .u8 100, .int .u8 45, .int .u8 112, .int .u8 114, .int .u8 105, .int .u8 110, .int .u8 116, .int .u8 97, .int .u8 98, .int .u8 108, .int .u8 101, .int .u8 10, .int .u8 10] 5 (85, 86))) = W at *
  refine HC.mono ?_
  rintro e w4 ⟨rfl, hb4⟩
  have hB4 := hBL.trans (hb4.mono (by omega))
  have hK4 := hKL.below hb4
  have hO4 := hO.below hb4 (Nat.le_refl _)
  have hs4 := hsL.below (hb4.mono (by omega))
  have hz4 : b + 1 ≤ w4.heap.size := hs4.2.1
  have hg4 := hO4
  have hcvt := run_bytes_of_string (P := Tryd.prog) w4 9 22 5 (str tx) Tryd.underlying9 Tryd.underlying22 Tryd.underlying5
  rw [str_size] at hcvt
  have hcp := grownCap_ge w4 tx.length 0 5
  have hy : Below w4.heap.size w4 (w4.alloc (.cells (bytesRow (str tx) (grownCap w4 tx.length 0 5)) 5 ((bytesRow (str tx) (grownCap w4 tx.length 0 5)).size, (bytesRow (str tx) (grownCap w4 tx.length 0 5)).size + 1))).drew := ((Below.refl _ _).alloc (Nat.le_refl _) _).drew
  have hcv : Rd (w4.alloc (.cells (bytesRow (str tx) (grownCap w4 tx.length 0 5)) 5 ((bytesRow (str tx) (grownCap w4 tx.length 0 5)).size, (bytesRow (str tx) (grownCap w4 tx.length 0 5)).size + 1))).drew (some ⟨w4.heap.size, 0, none⟩) tx := (Cv.conv w4 tx hIt _ hcp).rd
  have hg5 := hg4.below hy (Nat.le_refl _)
  have hs5 := hs4.below (hy.mono hz4)
  have hB5 : Below b w (w4.alloc (.cells (bytesRow (str tx) (grownCap w4 tx.length 0 5)) 5 ((bytesRow (str tx) (grownCap w4 tx.length 0 5)).size, (bytesRow (str tx) (grownCap w4 tx.length 0 5)).size + 1))).drew := hB4.trans (hy.mono (by omega))
  have hK5 := hK4.below hy
  have hz5 := hB5.size
  clear HC hcs hbL hb4
  go_wp2_with (at_builtin; refine wpList_app_grx rfl _ _ 22 rfl w.heap.size _ [67, 111, 110, 116, 101, 110, 116, 45, 84, 121, 112, 101, 58, 32, 116, 101, 120, 116, 47, 112, 108, 97, 105, 110, 59, 32, 99, 104, 97, 114, 115, 101, 116, 61, 117, 116, 102, 45, 56, 10, 67, 111, 110, 116, 101, 110, 116, 45, 84, 114, 97, 110, 115, 102, 101, 114, 45, 69, 110, 99, 111, 100, 105, 110, 103, 58, 32, 113, 117, 111, 116, 101, 100, 45, 112, 114, 105, 110, 116, 97, 98, 108, 101, 10, 10] (by rfl) hg5 _ _ tx (by rfl) (src_slice rfl hcv (fun h => by cases h)) rfl (by show 85 + tx.length ≤ _; omega) hz5 ?_; intro v6 w6 hg6 hb6; have hB6 := hB5.trans (hb6.mono (by omega)); have hs6 := hs5.below (hb6.mono (by omega)); have hK6 := hK5.below' hb6)
  go_ret
  exact ⟨_, _, rfl, hg6, isB_cat (by unfold IsB; decide) hIt, by rw [List.length_append]; show 85 + _ ≤ _; omega, hs6.more (by omega), hB6, hK6⟩
 ·have hbI : Below w3.heap.size w3 (w3.alloc (.cells #[.int .i64 1078, .int .i64 1046, .int .i64 97] 2)) := (Below.refl _ _).alloc (Nat.le_refl _) _
  have hrI := (OwnI.lit w3 (b + 1) hz3 #[.int .i64 1078, .int .i64 1046, .int .i64 97] [1078, 1046, 97] rfl (by decide)).rd.2
  have HC := l2Encode_any 3 (some ⟨w3.heap.size, 0, none⟩) 3 3 [1078, 1046, 97] (w3.alloc (.cells #[.int .i64 1078, .int .i64 1046, .int .i64 97] 2)) (by omega) rfl hrI (by decide) (by decide)
  have hIt := encV_isB (cs := 3) (l := [1078, 1046, 97]) (by omega) (by decide)
  have hLt := encV_short 3 [1078, 1046, 97]
  have hsI := hs3.below (hbI.mono hz3)
  have hBI : Below b w _ := hB3.trans (hbI.mono (by omega))
  have hKI := hK3.below hbI
  unfold EncEnd at HC
  generalize (encV 3 [1078, 1046, 97]).2 = tx at *
  generalize (encV 3 [1078, 1046, 97]).1 = cx at *
  go_wp2_with fail
  generalize (w3.alloc (.cells #[.int .i64 1078, .int .i64 1046, .int .i64 97] 2)) = WI at *
  refine HC.mono ?_
  rintro e w4 ⟨v4, rfl, ho4, hb4⟩
  have hzI : b + 1 ≤ WI.heap.size := hsI.2.1
  have hB4 := hBI.trans (hb4.mono (by omega))
  have hK4 := hKI.below hb4
  have hs4 := hsI.below (hb4.mono (by omega))
  have hz4 : b + 1 ≤ w4.heap.size := hs4.2.1
  obtain ⟨a4, c4, rfl, -, -⟩ := id ho4.form
  have hr4 := ho4.rd.2
  have hNA4 : a4 = none → tx.length = 0 := fun h => by
   rcases hr4 with h' | ⟨x, y, e, -⟩
   ·rw [h']; rfl
   ·rw [h] at e; cases e
  have hO := Gr.const w4 [67, 111, 110, 116, 101, 110, 116, 45, 84, 121, 112, 101, 58, 32, 116, 101, 120, 116, 47, 112, 108, 97, 105, 110, 59, 32, 99, 104, 97, 114, 115, 101, 116, 61, 105, 115, 111, 45, 56, 56, 53, 57, 45, 53, 10, 10] #[.int .u8 67, .int .u8 111, .int .u8 110, .int .u8 116, .int .u8 101, .int .u8 110, .int .u8 116, .int .u8 45, .int .u8 84, .int .u8 121, .int .u8 112, .int .u8 101, .int .u8 58, .int .u8 32, .int .u8 116, .int .u8 101, .int .u8 120, .int .u8 116, .int .u8 47, .int .u8 112, .int .u8 108, .int .u8 97, .int .u8 105, .int .u8 110, .int .u8 59, .int .u8 32, .int .u8 99, .int .u8 104, .int .u8 97, .int .u8 114, .int .u8 115, .int .u8 101, .int .u8 116, .int .u8 61, .int .u8 105, .int .u8 115, .int .u8 111, .int .u8 45, .int .u8 56, .int .u8 56, .int .u8 53, .int .u8 57, .int .u8 45, .int .u8 53, .int .u8 10, .int .u8 10] rfl w.heap.size 46 hB4.size rfl (by decide)
  have hbL : Below w4.heap.size w4 (w4.alloc (.cells #[.int .u8 67, .int .u8 111, .int .u8 110, .int .u8 116, .int .u8 101, .int .u8 110, .int .u8 116, .int .u8 45, .int .u8 84, .int .u8 121, .int .u8 112, .int .u8 101, .int .u8 58, .int .u8 32, .int .u8 116, .int .u8 101, .int .u8 120, .int .u8 116, .int .u8 47, .int .u8 112, .int .u8 108, .int .u8 97, .int .u8 105, .int .u8 110, .int .u8 59, .int .u8 32, .int .u8 99, .int .u8 104, .int .u8 97, .int .u8 114, .int .u8 115, .int .u8 101, .int .u8 116, .int .u8 61, .int .u8 105, .int .u8 115, .int .u8 111, .int .u8 45, .int .u8 56, .int .u8 56, .int .u8 53, .int .u8 57, .int .u8 45, .int .u8 53, .int .u8 10, .int .u8 10] 5 (46, 47))) := (Below.refl _ _).alloc (Nat.le_refl _) _
  have hrL := hr4.below hbL
  have hsL := hs4.below (hbL.mono hz4)
  have hBL : Below b w _ := hB4.trans (hbL.mono (by omega))
  have hKL := hK4.below hbL
  have hcs : (convert 22 22 (.slice (some ⟨w4.heap.size, 0, none⟩) 46 46)).run Tryd.prog (w4.alloc (.cells #[.int .u8 67, .int .u8 111, .int .u8 110, .int .u8 116, .int .u8 101, .int .u8 110, .int .u8 116, .int .u8 45, .int .u8 84, .int .u8 121, .int .u8 112, .int .u8 101, .int .u8 58, .int .u8 32, .int .u8 116, .int .u8 101, .int .u8 120, .int .u8 116, .int .u8 47, .int .u8 112, .int .u8 108, .int .u8 97, .int .u8 105, .int .u8 110, .int .u8 59, .int .u8 32, .int .u8 99, .int .u8 104, .int .u8 97, .int .u8 114, .int .u8 115, .int .u8 101, .int .u8 116, .int .u8 61, .int .u8 105, .int .u8 115, .int .u8 111, .int .u8 45, .int .u8 56, .int .u8 56, .int .u8 53, .int .u8 57, .int .u8 45, .int .u8 53, .int .u8 10, .int .u8 10] 5)) = .ok (.slice (some ⟨w4.heap.size, 0, none⟩) 46 46) (w4.alloc (.cells #[.int .u8 67, .int .u8 111, .int .u8 110, .int .u8 116, .int .u8 101, .int .u8 110, .int .u8 116, .int .u8 45, .int .u8 84, .int .u8 121, .int .u8 112, .int .u8 101, .int .u8 58, .int .u8 32, .int .u8 116, .int .u8 101, .int .u8 120, .int .u8 116, .int .u8 47, .int .u8 112, .int .u8 108, .int .u8 97, .int .u8 105, .int .u8 110, .int .u8 59, .int .u8 32, .int .u8 99, .int .u8 104, .int .u8 97, .int .u8 114, .int .u8 115, .int .u8 101, .int .u8 116, .int .u8 61, .int .u8 105, .int .u8 115, .int .u8 111, .int .u8 45, .int .u8 56, .int .u8 56, .int .u8 53, .int .u8 57, .int .u8 45, .int .u8 53, .int .u8 10, .int .u8 10] 5 (46, 47))) := Lib.run_convert_bytes_const w4 _ _ _ _ _ Tryd.underlying22 Tryd.underlying5
  have hz5 := hBL.size
  clear HC hbI hrI hbL hb4 ho4 hr4
  go_wp2_with (at_builtin; refine wpList_app_grx rfl _ _ 22 rfl w.heap.size _ [67, 111, 110, 116, 101, 110, 116, 45, 84, 121, 112, 101, 58, 32, 116, 101, 120, 116, 47, 112, 108, 97, 105, 110, 59, 32, 99, 104, 97, 114, 115, 101, 116, 61, 105, 115, 111, 45, 56, 56, 53, 57, 45, 53, 10, 10] (by rfl) hO _ _ tx (by rfl) (src_slice rfl hrL hNA4) rfl (by show 46 + tx.length ≤ _; omega) hz5 ?_; intro v6 w6 hg6 hb6; have hB6 := hBL.trans (hb6.mono (by omega)); have hs6 := hsL.below (hb6.mono (by omega)); have hK6 := hKL.below' hb6)
  go_ret
  exact ⟨_, _, rfl, hg6, isB_cat (by unfold IsB; decide) hIt, by rw [List.length_append]; show 46 + _ ≤ _; omega, hs6.more (by omega), hB6, hK6⟩
 ·have hO := Gr.const w3 [67, 111, 110, 116, 101, 110, 116, 45, 84, 121, 112, 101, 58, 32, 105, 109, 97, 103, 101, 47, 120, 10, 10] #[.int .u8 67, .int .u8 111, .int .u8 110, .int .u8 116, .int .u8 101, .int .u8 110, .int .u8 116, .int .u8 45, .int .u8 84, .int .u8 121, .int .u8 112, .int .u8 101, .int .u8 58, .int .u8 32, .int .u8 105, .int .u8 109, .int .u8 97, .int .u8 103, .int .u8 101, .int .u8 47, .int .u8 120, .int .u8 10, .int .u8 10] rfl w.heap.size 23 hzw rfl (by decide)
  have hbL : Below w3.heap.size w3 (w3.alloc (.cells #[.int .u8 67, .int .u8 111, .int .u8 110, .int .u8 116, .int .u8 101, .int .u8 110, .int .u8 116, .int .u8 45, .int .u8 84, .int .u8 121, .int .u8 112, .int .u8 101, .int .u8 58, .int .u8 32, .int .u8 105, .int .u8 109, .int .u8 97, .int .u8 103, .int .u8 101, .int .u8 47, .int .u8 120, .int .u8 10, .int .u8 10] 5 (23, 24))) := (Below.refl _ _).alloc (Nat.le_refl _) _
  have hrL := hrd3.below hbL
  have hsL := hs3.below (hbL.mono hz3)
  have hBL : Below b w _ := hB3.trans (hbL.mono (by omega))
  have hKL := hK3.below hbL
  have hcs : (convert 22 22 (.slice (some ⟨w3.heap.size, 0, none⟩) 23 23)).run Tryd.prog (w3.alloc (.cells #[.int .u8 67, .int .u8 111, .int .u8 110, .int .u8 116, .int .u8 101, .int .u8 110, .int .u8 116, .int .u8 45, .int .u8 84, .int .u8 121, .int .u8 112, .int .u8 101, .int .u8 58, .int .u8 32, .int .u8 105, .int .u8 109, .int .u8 97, .int .u8 103, .int .u8 101, .int .u8 47, .int .u8 120, .int .u8 10, .int .u8 10] 5)) = .ok (.slice (some ⟨w3.heap.size, 0, none⟩) 23 23) (w3.alloc (.cells #[.int .u8 67, .int .u8 111, .int .u8 110, .int .u8 116, .int .u8 101, .int .u8 110, .int .u8 116, .int .u8 45, .int .u8 84, .int .u8 121, .int .u8 112, .int .u8 101, .int .u8 58, .int .u8 32, .int .u8 105, .int .u8 109, .int .u8 97, .int .u8 103, .int .u8 101, .int .u8 47, .int .u8 120, .int .u8 10, .int .u8 10] 5 (23, 24))) := Lib.run_convert_bytes_const w3 _ _ _ _ _ Tryd.underlying22 Tryd.underlying5
  have hg5 := hO
  have hz5 := hBL.size
  clear hbL
  go_wp2_with (at_builtin; refine wpList_app_grx rfl _ _ 22 rfl w.heap.size _ [67, 111, 110, 116, 101, 110, 116, 45, 84, 121, 112, 101, 58, 32, 105, 109, 97, 103, 101, 47, 120, 10, 10] (by rfl) hg5 _ _ out (by rfl) (src_slice hlo hrL (fun h => by rw [← hlo]; exact hNA h)) hlo (by show 23 + n ≤ _; omega) hz5 ?_; intro v6 w6 hg6 hb6; have hB6 := hBL.trans (hb6.mono (by omega)); have hs6 := hsL.below (hb6.mono (by omega)); have hK6 := hKL.below' hb6)
  go_ret
  exact ⟨_, _, rfl, hg6, isB_cat (by unfold IsB; decide) hBo, by rw [List.length_append]; show 23 + _ ≤ _; omega, hs6.more (by omega), hB6, hK6⟩
 ·have hO := Gr.const w3 [10] #[.int .u8 10] rfl w.heap.size 1 hzw rfl (by decide)
  have hbL : Below w3.heap.size w3 (w3.alloc (.cells #[.int .u8 10] 5 (1, 2))) := (Below.refl _ _).alloc (Nat.le_refl _) _
  have hsL := hs3.below (hbL.mono hz3)
  have hBL : Below b w _ := hB3.trans (hbL.mono (by omega))
  have hKL := hK3.below hbL
  have hcs : (convert 22 22 (.slice (some ⟨w3.heap.size, 0, none⟩) 1 1)).run Tryd.prog (w3.alloc (.cells #[.int .u8 10] 5)) = .ok (.slice (some ⟨w3.heap.size, 0, none⟩) 1 1) (w3.alloc (.cells #[.int .u8 10] 5 (1, 2))) := Lib.run_convert_bytes_const w3 _ _ _ _ _ Tryd.underlying22 Tryd.underlying5
  have hszL : (w3.alloc (.cells #[.int .u8 10] 5 (1, 2))).heap.size = w3.heap.size + 1 := by simp
  obtain ⟨W, hW⟩ : ∃ W, w3.alloc (.cells #[.int .u8 10] 5 (1, 2)) = W := ⟨_, rfl⟩
  rw [hW] at hO hbL hsL hBL hszL hKL
  rw [hW] at hcs
  have hO2 := Gr.const W [104, 101, 108, 108, 111, 32, 119, 111, 114, 108, 100] #[.int .u8 104, .int .u8 101, .int .u8 108, .int .u8 108, .int .u8 111, .int .u8 32, .int .u8 119, .int .u8 111, .int .u8 114, .int .u8 108, .int .u8 100] rfl w.heap.size 11 hBL.size rfl (by decide)
  have hb2 : Below W.heap.size W (W.alloc (.cells #[.int .u8 104, .int .u8 101, .int .u8 108, .int .u8 108, .int .u8 111, .int .u8 32, .int .u8 119, .int .u8 111, .int .u8 114, .int .u8 108, .int .u8 100] 5 (11, 12))) := (Below.refl _ _).alloc (Nat.le_refl _) _
  have hs5 := hsL.below (hb2.mono hsL.2.1)
  have hB5 : Below b w _ := hBL.trans (hb2.mono (by have := hsL.2.1; omega))
  have hg5 := hO.below hb2 (Nat.le_refl _)
  have hK5 := hKL.below hb2
  obtain ⟨gq, cq, eq, hr5, -⟩ := hO2.rd
  cases eq
  have hcs2 : (convert 22 22 (.slice (some ⟨W.heap.size, 0, none⟩) 11 11)).run Tryd.prog (W.alloc (.cells #[.int .u8 104, .int .u8 101, .int .u8 108, .int .u8 108, .int .u8 111, .int .u8 32, .int .u8 119, .int .u8 111, .int .u8 114, .int .u8 108, .int .u8 100] 5)) = .ok (.slice (some ⟨W.heap.size, 0, none⟩) 11 11) (W.alloc (.cells #[.int .u8 104, .int .u8 101, .int .u8 108, .int .u8 108, .int .u8 111, .int .u8 32, .int .u8 119, .int .u8 111, .int .u8 114, .int .u8 108, .int .u8 100] 5 (11, 12))) := Lib.run_convert_bytes_const W _ _ _ _ _ Tryd.underlying22 Tryd.underlying5
  have hz5 := hB5.size
  rw [hszL] at hr5 hcs2
  clear hbL hO2 hO
  go_wp2_with (at_builtin; refine wpList_app_grx rfl _ _ 22 rfl w.heap.size _ [10] (by rfl) hg5 _ _ [104, 101, 108, 108, 111, 32, 119, 111, 114, 108, 100] (by rfl) (src_slice rfl hr5 (fun h => by cases h)) rfl (by decide) hz5 ?_; intro v6 w6 hg6 hb6; have hB6 := hB5.trans (hb6.mono (by omega)); have hs6 := hs5.below (hb6.mono (by omega)); have hK6 := hK5.below' hb6)
  go_ret
  exact ⟨_, _, rfl, hg6, by unfold IsB; decide, by decide, hs6.more (by omega), hB6, hK6⟩
 ·go_wp2_with fail
  refine (l2Codes_any B b (M + 30) w3 hs3 (by omega)).mono ?_
  rintro e w4 ⟨v4, nums, rfl, hoI, hl6, hdr, hs4, hg4⟩
  obtain ⟨aI, cI, rfl, -, -⟩ := id hoI.form
  have ho4 := ho3.keptG hg4 (by omega)
  have hB4 : Below b w w4 := hB3.trans (gbelow hg4 hs3.2.1)
  have hK4 : Kb b w w4 := hK3.grown hg4
  have hz4 : b + 1 ≤ w4.heap.size := hs4.2.1
  have HC := l4Encode_any aI nums.length cI nums w4 rfl hoI.rd.2 (drawn_flt hdr (by omega))
  have hIt := ew_isB nums
  have hLt := ew_len nums
  unfold TwoTxt at HC
  generalize (ewV nums).2 = t at *
  generalize (ewV nums).1 = cx at *
  clear hoI hdr hg4
  go_wp2_with fail
  refine HC.mono ?_
  rintro e w5 ⟨rfl, hb5⟩
  have hB5 := hB4.trans (hb5.mono (by omega))
  have hK5 := hK4.below hb5
  have hs5 := hs4.below (hb5.mono (by omega))
  have hz5 : b + 1 ≤ w5.heap.size := hs5.2.1
  have hr5 := ho4.rd.2.below hb5
  have tS := subj_text t
  have hsz : (str t).size = t.length := str_size t
  have s1 : ((⟨#[83, 117, 98, 106, 101, 99, 116, 58, 32]⟩ : ByteArray) ++ str t).size = 9 + t.length := by rw [ByteArray.size_append, hsz]; rfl
  have hIx : IsB (([83, 117, 98, 106, 101, 99, 116, 58, 32] ++ t) ++ [10, 10]) := isB_cat (isB_cat (by unfold IsB; decide) hIt) (by unfold IsB; decide)
  have hLx : (([83, 117, 98, 106, 101, 99, 116, 58, 32] ++ t) ++ [10, 10]).length = 11 + t.length := by simp; omega
  generalize ([83, 117, 98, 106, 101, 99, 116, 58, 32] ++ t) ++ [10, 10] = tx at *
  have hcvt := run_bytes_of_string (P := Tryd.prog) w5 9 22 5 (str tx) Tryd.underlying9 Tryd.underlying22 Tryd.underlying5
  rw [str_size, hLx] at hcvt
  have hcp := grownCap_ge w5 (11 + t.length) 0 5
  have hcm := grownCap_le_maxLen w5 (11 + t.length) 0 5 (by unfold maxLen; omega)
  have hg6 := (Gr.conv w5 tx hIx w.heap.size _ hB5.size (by rw [hLx]; exact hcp) hcm).drew
  rw [hLx] at hg6
  have hy : Below w5.heap.size w5 (w5.alloc (.cells (bytesRow (str tx) (grownCap w5 (11 + t.length) 0 5)) 5 ((bytesRow (str tx) (grownCap w5 (11 + t.length) 0 5)).size, (bytesRow (str tx) (grownCap w5 (11 + t.length) 0 5)).size + 1))).drew := ((Below.refl _ _).alloc (Nat.le_refl _) _).drew
  have hr6 := hr5.below hy
  have hs6 := hs5.below (hy.mono hz5)
  have hB6 : Below b w (w5.alloc (.cells (bytesRow (str tx) (grownCap w5 (11 + t.length) 0 5)) 5 ((bytesRow (str tx) (grownCap w5 (11 + t.length) 0 5)).size, (bytesRow (str tx) (grownCap w5 (11 + t.length) 0 5)).size + 1))).drew := hB5.trans (hy.mono (by omega))
  have hK6 := hK5.below hy
  have hz6 := hB6.size
  clear HC hb5
  go_wp2_with (at_builtin; refine wpList_app_grx rfl _ _ 22 rfl w.heap.size _ tx (by rfl) hg6 _ _ out (by rfl) (src_slice hlo hr6 (fun h => by rw [← hlo]; exact hNA h)) hlo (by omega) hz6 ?_; intro v7 w7 hg7 hb7; have hB7 := hB6.trans (hb7.mono (by omega)); have hs7 := hs6.below (hb7.mono (by omega)); have hK7 := hK6.below' hb7)
  go_ret
  exact ⟨_, _, rfl, hg7, isB_cat hIx hBo, by rw [List.length_append]; omega, hs7.more (by omega), hB7, hK7⟩
end Go.Proofs.YtdcgihcjiiemdaaDoor
