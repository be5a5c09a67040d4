/- An op as bytes: the program's; the op has no fault, or its fault is told. -/
import Derived.Test.YtdcgihcjiiemdaaDoorPkb
import Derived.Test.YtdcgihcjiiemdaaDoorOfw
namespace Go.Proofs.YtdcgihcjiiemdaaDoor
open Go.RowKit
set_option linter.unusedVariables false
theorem uiB_snoc (l : List Int) (k : Nat) (h : k < l.length) : uiB (l.take (k + 1)) = uiB (l.take k) ++ twoB (nthI l k).toNat := by
 rw [take_snocI l k h]
 simp [uiB]
theorem Gr.lit1 (w : World) (B b : Nat) (hB : B ≤ w.heap.size) : Gr (w.alloc (.cells #[.int .u8 (b : Int)] 5)) B (.slice (some ⟨w.heap.size, 0, none⟩) 1 1) [b] :=
 Gr.own (Own.lit w B hB #[.int .u8 (b : Int)] [b] rfl (by unfold maxLen; simp)) (by simp)
set_option maxHeartbeats 1600000 in
set_option maxRecDepth 100000 in
theorem innerBytes_any (o : OpR) (p : SlO) {lo : Nat} (w : World) (hs : IsOp lo w p o) (hk : OkJ o) :
  Calls Tryd.prog 31 #[opX o p] w fun e w' => ApEnd w.heap.size (inB o) w e w' := by
 obtain ⟨k, x, t, u, m, f, d, b⟩ := o
 obtain ⟨⟨k1, k7⟩, hx, ht, hu, hv, ⟨m0, m3⟩, ⟨f0, f15⟩, ⟨d0, d9⟩, hb⟩ := hk
 dsimp only at *
 obtain ⟨tx, rfl, hBx⟩ := str_surj x
 obtain ⟨tt, rfl, hBt⟩ := str_surj t
 obtain ⟨k, rfl⟩ := Int.eq_ofNat_of_zero_le (show 0 ≤ k by omega)
 obtain ⟨m, rfl⟩ := Int.eq_ofNat_of_zero_le m0
 obtain ⟨f, rfl⟩ := Int.eq_ofNat_of_zero_le f0
 obtain ⟨d, rfl⟩ := Int.eq_ofNat_of_zero_le d0
 rw [str_size] at hx ht
 have hk' : k < 256 := by omega
 have hm' : m < 256 := by omega
 have hf' : f < 256 := by omega
 have hd' : d < 65536 := by omega
 obtain ⟨⟨ua, un, uc⟩, ⟨ba, bn, bc'⟩⟩ := p
 obtain ⟨hs1, hs2⟩ := hs
 have hun : u.length = un := hs1.1
 have hbn : b.length = bn := hs2.1
 have hul : un ≤ 6 := by omega
 have hbl : bn ≤ 600 := by omega
 have HIN : Hid (inB ⟨(k : Int), str tx, str tt, u, (m : Int), (f : Int), (d : Int), b⟩ = ((((((([k] ++ (tx.length :: tx)) ++ (tt.length :: tt)) ++ [un]) ++ uiB u) ++ [m, f]) ++ twoB d) ++ twoB bn) ++ b) := by
  show _ = _
  simp only [inB, enB, str_size, txB_str hBx, txB_str hBt, hun, hbn, Int.toNat_natCast, List.append_assoc, List.cons_append, List.nil_append]
 obtain ⟨W, hW⟩ : ∃ W, w.alloc (.cells #[.int .i64 (k : Int), .string (str tx), .string (str tt), .slice ua un uc, .int .i64 (m : Int), .int .i64 (f : Int), .int .i64 (d : Int), .slice ba bn bc'] 27) = W := ⟨_, rfl⟩
 have hsW : W.heap.size = w.heap.size + 1 := by rw [← hW]; simp
 have hb0 : Below w.heap.size w W := by rw [← hW]; exact (Below.refl _ _).alloc (Nat.le_refl _) _
 have hQ0 : Qo W w.heap.size ⟨.int .i64 (k : Int), .string (str tx), .string (str tt), .slice ua un uc, .int .i64 (m : Int), .int .i64 (f : Int), .int .i64 (d : Int), .slice ba bn bc'⟩ := by rw [← hW]; exact Qo.new _ _ _ _ _ _ _ _ _ _
 have HQ : Hid (∀ wr, Below (w.heap.size + 1) W wr → Qo wr w.heap.size ⟨.int .i64 (k : Int), .string (str tx), .string (str tt), .slice ua un uc, .int .i64 (m : Int), .int .i64 (f : Int), .int .i64 (d : Int), .slice ba bn bc'⟩ ∧ RdI wr ua u ∧ Rd wr ba b) := fun wr hb => ⟨hQ0.below hb (Nat.lt_succ_self _), hs1.2.2.2.1.below (hb0.trans (hb.mono (by omega))), hs2.2.2.2.2.1.below (hb0.trans (hb.mono (by omega)))⟩
 have HUL : Hid (u.length = un) := hun
 have HBL : Hid (b.length = bn) := hbn
 have HV : Hid (∀ z ∈ u, 1 ≤ z ∧ z ≤ 999) := hv
 have HU0 : Hid (un = 0 ∨ ua ≠ none) := by
  rcases hs1.2.2.2.1 with h | ⟨_, _, h, _⟩
  ·left; rw [← hun, show u = [] from h]; rfl
  ·right; rw [show ua = some _ from h]; simp
 have HB0 : Hid (ba = none → bn = 0) := fun h => by
  rcases hs2.2.2.2.2.1 with h' | ⟨_, _, h', _⟩
  ·rw [← hbn, show b = [] from h']; rfl
  ·rw [show ba = none from h] at h'; cases h'
 have hucm : un ≤ 9223372036854775807 := by omega
 have hB1 : Below (w.heap.size + 1) W (W.alloc (.cells #[.int .u8 (k : Int)] 5)) := (Below.refl _ _).alloc (by omega) _
 have hG1 := Gr.lit1 W (w.heap.size + 1) k (by omega)
 have hsz1 : (W.alloc (.cells #[.int .u8 (k : Int)] 5)).heap.size = w.heap.size + 1 + 1 := by simp [hsW]
 rw [hsW] at hG1
 have hsx : (str tx).size = tx.length := str_size tx
 have hst : (str tt).size = tt.length := str_size tt
 obtain ⟨⟨c0, c1, c2, c3, c4, c5, c6, c7⟩, -, -⟩ := HQ.out _ (Below.refl _ _)
 obtain ⟨⟨q0, q1, q2, q3, q4, q5, q6, q7⟩, -, -⟩ := HQ.out _ hB1
 dsimp only at c0 c1 c2 c3 c4 c5 c6 c7 q0 q1 q2 q3 q4 q5 q6 q7
 clear hv hun hbn hs1 hs2 hQ0
 go_enter Tryd.func31, Tryd.ntmps31
 go_wp2_with fail
 generalize (W.alloc (.cells #[.int .u8 (k : Int)] 5)) = W1 at *
 refine (appendName_any (w.heap.size + 1) _ [k] tx W1 hG1 (by omega) (by simp) (by omega) hBx).mono ?_
 rintro e w2 ⟨v2, rfl, hg2, hb2⟩
 have hB2 := hB1.trans hb2
 have hz2 : w.heap.size + 1 ≤ w2.heap.size := by have := hB2.size; omega
 clear c0 c1 c2 c3 c4 c5 c6 c7 q0 q1 q2 q3 q4 q5 q6 q7 hb2 hG1 hB1
 obtain ⟨⟨q0, q1, q2, q3, q4, q5, q6, q7⟩, -, -⟩ := HQ.out _ hB2
 dsimp only at q0 q1 q2 q3 q4 q5 q6 q7
 go_wp2_with fail
 refine (appendName_any (w.heap.size + 1) _ _ tt w2 hg2 hz2 (by simp; omega) (by omega) hBt).mono ?_
 rintro e w3 ⟨v3, rfl, hg3, hb3⟩
 have hB3 := hB2.trans hb3
 have hz3 : w.heap.size + 1 ≤ w3.heap.size := by have := hB3.size; omega
 clear q0 q1 q2 q3 q4 q5 q6 q7 hb3 hg2 hB2
 obtain ⟨⟨q0, q1, q2, q3, q4, q5, q6, q7⟩, -, -⟩ := HQ.out _ hB3
 dsimp only at q0 q1 q2 q3 q4 q5 q6 q7
 go_wp2_with (at_builtin; refine wpList_app_grx rfl _ _ 22 rfl (w.heap.size + 1) _ _ (by rfl) (hg3.alloc _) _ _ [un] (by rfl) (src_one un rfl) rfl (by simp; omega) (by simp; omega) ?_; intro v4 w4 hg4 hb4; have hB4 : Below (w.heap.size + 1) W w4 := hB3.trans (((Below.refl _ _).alloc hz3 _).trans hb4); obtain ⟨⟨x0, x1, x2, x3, x4, x5, x6, x7⟩, -, -⟩ := HQ.out _ hB4; dsimp only at x0 x1 x2 x3 x4 x5 x6 x7)
 have hpl : ([k] ++ (tx.length :: tx) ++ (tt.length :: tt) ++ [un]).length ≤ 30 := by simp; omega
 generalize [k] ++ (tx.length :: tx) ++ (tt.length :: tt) ++ [un] = pre at *
 clear q0 q1 q2 q3 q4 q5 q6 q7 x0 x1 x2 x3 x4 x5 x6 x7 hb4 hg3 hB3 hz3 hz2 hsx hst hx ht
 go_loopw [3, 28] (fun q i wr => ∃ j : Nat, j ≤ un ∧ i = .int .i64 j ∧ Gr wr (w.heap.size + 1) q (pre ++ uiB (u.take j)) ∧ Below (w.heap.size + 1) W wr) (fun _ i _ => un - (intOf i).toNat)
 case atStart => exact ⟨0, Nat.zero_le _, rfl, by simpa [uiB] using hg4, hB4⟩
 case round =>
  obtain ⟨j, hj, rfl, hgr, hbr⟩ := hrel
  have hzr : w.heap.size + 1 ≤ wr.heap.size := by have := hbr.size; omega
  obtain ⟨⟨q0, q1, q2, q3, q4, q5, q6, q7⟩, hrU, hrB⟩ := HQ.out _ hbr
  dsimp only at q0 q1 q2 q3 q4 q5 q6 q7
  have hlj : (pre ++ uiB (u.take j)).length ≤ 60 := by rw [List.length_append, uiB_len, List.length_take]; omega
  by_cases hjn : j < un
  ·have hji : (j : Int) < (un : Int) := by omega
   obtain ⟨bb, off, ea, -, hc⟩ := hrU.at_ (by rw [HUL.out]; omega)
   subst ea
   have hcj := hc j (by rw [HUL.out]; omega)
   have hju : j < u.length := by rw [HUL.out]; omega
   have hyz := HV.out (nthI u j) (by rw [nthI_get hju]; exact List.getElem_mem hju)
   have HS : Hid ((pre ++ uiB (u.take j)) ++ twoB (nthI u j).toNat = pre ++ uiB (u.take (j + 1))) := by show _ = _; rw [uiB_snoc u j hju, List.append_assoc]
   generalize nthI u j = y at *
   obtain ⟨y, rfl⟩ := Int.eq_ofNat_of_zero_le (show 0 ≤ y by omega)
   rw [Int.toNat_natCast] at HS
   have HC := appendPair_any (w.heap.size + 1) _ _ y wr hgr hzr (by omega) (by omega)
   clear hc hrB
   go_wp2_with fail
   refine HC.mono ?_
   rintro e w5 ⟨v5, rfl, hg5, hb5⟩
   rw [HS.out] at hg5
   have hB5 := hbr.trans hb5
   clear HC hb5 hgr
   go_wp2
   go_roundw
   case rel => exact ⟨j + 1, by omega, by go_num, hg5, hB5⟩
   case measure => simp [intOf]; omega
  ·have hji : ¬ (j : Int) < (un : Int) := by omega
   rw [List.take_of_length_le (show u.length ≤ j by rw [HUL.out]; omega)] at hgr hlj
   generalize pre ++ uiB u = pr2 at *
   have e2 : (pr2 ++ [m, f]).length = pr2.length + 2 := by simp
   have HSM : Hid (∀ W : World, Go.Src Tryd.prog 1 22 (.slice (some ⟨W.heap.size, 0, none⟩) 2 2) 2 (bc [m, f]) (W.alloc (.cells #[.int .u8 (m : Int), .int .u8 (f : Int)] 5))) := fun W => src_two _ _ _ rfl rfl 2
   go_wp2_with (at_builtin; refine wpList_app_grx rfl _ _ 22 rfl (w.heap.size + 1) _ pr2 (by rfl) (hgr.alloc _) _ _ [m, f] (by rfl) (HSM.out wr) rfl (by omega) (by simp; omega) ?_; intro v6 w6 hg6 hb6; have hB6 : Below (w.heap.size + 1) W w6 := hbr.trans (((Below.refl _ _).alloc hzr _).trans hb6); obtain ⟨⟨x0, x1, x2, x3, x4, x5, x6, x7⟩, -, -⟩ := HQ.out _ hB6; dsimp only at x0 x1 x2 x3 x4 x5 x6 x7)
   have hz6 : w.heap.size + 1 ≤ w6.heap.size := by have := hB6.size; omega
   clear q0 q1 q2 q3 q4 q5 q6 q7 hrU hrB hb6 hgr HSM
   refine (appendPair_any (w.heap.size + 1) _ _ d w6 hg6 hz6 (by omega) (by omega)).mono ?_
   rintro e w7 ⟨v7, rfl, hg7, hb7⟩
   have hB7 := hB6.trans hb7
   have hz7 : w.heap.size + 1 ≤ w7.heap.size := by have := hB7.size; omega
   have e3 : (pr2 ++ [m, f] ++ twoB d).length = pr2.length + 4 := by rw [List.length_append, e2]; simp [twoB]
   clear x0 x1 x2 x3 x4 x5 x6 x7 hb7 hg6
   obtain ⟨⟨x0, x1, x2, x3, x4, x5, x6, x7⟩, -, -⟩ := HQ.out _ hB7
   dsimp only at x0 x1 x2 x3 x4 x5 x6 x7
   generalize pr2 ++ [m, f] ++ twoB d = pr3 at *
   go_wp2_with fail
   refine (appendPair_any (w.heap.size + 1) _ _ bn w7 hg7 hz7 (by omega) (by omega)).mono ?_
   rintro e w8 ⟨v8, rfl, hg8, hb8⟩
   have hB8 := hB7.trans hb8
   have hz8 : w.heap.size + 1 ≤ w8.heap.size := by have := hB8.size; omega
   have e4 : (pr3 ++ twoB bn).length = pr3.length + 2 := by rw [List.length_append]; simp [twoB]
   clear x0 x1 x2 x3 x4 x5 x6 x7 hb8 hg7
   obtain ⟨⟨x0, x1, x2, x3, x4, x5, x6, x7⟩, -, hrb⟩ := HQ.out _ hB8
   dsimp only at x0 x1 x2 x3 x4 x5 x6 x7
   go_wp2_with (at_builtin; refine wpList_app_grx rfl _ _ 22 rfl (w.heap.size + 1) _ (pr3 ++ twoB bn) (by rfl) hg8 _ _ b (by rfl) (src_slice HBL.out hrb HB0.out) HBL.out (by omega) hz8 ?_; intro v9 w9 hg9 hb9; have hB9 := hB8.trans hb9)
   go_ret
   refine ⟨_, rfl, ?_, hb0.trans (hB9.mono (by omega))⟩
   rw [HIN.out]
   exact hg9.low (by omega)
end Go.Proofs.YtdcgihcjiiemdaaDoor
