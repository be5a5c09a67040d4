/- ReadOp: the model's function; no conditions beyond those that each fact names. -/
import Derived.Test.YtdcgihcjiiemdaaDoorRjc
import Derived.Test.YtdcgihcjiiemdaaDoorRmb
namespace Go.Proofs.YtdcgihcjiiemdaaDoor
open Go.RowKit
set_option linter.unusedVariables false
theorem str_ne {a b : List Nat} (ha : IsB a) (hb : IsB b) (h : a ≠ b) : str a ≠ str b := fun e => h (by
 have h1 := congrArg txB e
 rwa [txB_str ha, txB_str hb] at h1)
theorem txtJ (t : List Nat) : (str t).toList = t.map UInt8.ofNat := by
 rw [Lib.toList_data]
 simp [str]
theorem txt_neJ {a b : List Nat} (h : str a ≠ str b) : ((str a).toList == (str b).toList) = false := by
 rw [beq_eq_false_iff_ne, txtJ, txtJ]
 intro he
 apply h
 unfold str
 rw [he]
theorem bsM_isB2 : ∀ (n : Nat) (s : RsM), IsB s.1 → IsB (bsM n s).2.1
 | 0, s, h => h
 | n + 1, s, h => by
  cases hs : s.2 with
  | true => rw [bsM_stop hs]; exact h
  | false =>
   rw [bsM_step hs]
   exact bsM_isB2 n _ (bM_lt h).2
theorem rdM_sz (d : List Nat) (hB : IsB d) : (rdM d).x.size ≤ 1048576 ∧ (rdM d).t.size ≤ 1048576 := by
 have h0 : IsB ((d.drop 2, false) : RsM).1 := isB_drop hB _
 have h1 := bM_lt h0
 have h2 := bM_lt h1.2
 have e1 : (rdM d).x = str (bsM (bM (bM (d.drop 2, false)).2).1 (bM (bM (d.drop 2, false)).2).2).1 := rfl
 have h3 := bsM_isB2 (bM (bM (d.drop 2, false)).2).1 _ h2.2
 have h4 := bM_lt h3
 have e2 : (rdM d).t = str (bsM (bM (bsM (bM (bM (d.drop 2, false)).2).1 (bM (bM (d.drop 2, false)).2).2).2).1 (bM (bsM (bM (bM (d.drop 2, false)).2).1 (bM (bM (d.drop 2, false)).2).2).2).2).1 := rfl
 have l1 := bsM_len (bM (bM (d.drop 2, false)).2).1 (bM (bM (d.drop 2, false)).2).2
 have l2 := bsM_len (bM (bsM (bM (bM (d.drop 2, false)).2).1 (bM (bM (d.drop 2, false)).2).2).2).1 (bM (bsM (bM (bM (d.drop 2, false)).2).1 (bM (bM (d.drop 2, false)).2).2).2).2
 rw [e1, e2, str_size, str_size]
 have k1 := h2.1
 have k2 := h4.1
 constructor
 ·exact Nat.le_trans l1 (by omega)
 ·exact Nat.le_trans l2 (by omega)
set_option maxHeartbeats 3200000 in
set_option maxRecDepth 100000 in
theorem specReadOp_of (HL9 : Hid (∀ (a : Option Addr) (n cap : Nat) (d : List Nat) (w : World), d.length = n → 2 ≤ n → n ≤ 1048576 → Rd w a d → IsB d → Calls Tryd.prog 28 #[.slice a n cap] w fun e w' => RfEnd (rdM d) w e w'))
  (a : Option Addr) (n cap : Nat) (l : List Nat) (w : World) (hl : l.length = n) (hnc : n ≤ cap) (hcm : cap ≤ maxLen) (hn : n ≤ 1048576) (hr : Rd w a l) (hB : IsB l) :
  Calls Tryd.prog 8 #[.slice a n cap] w fun e w' => OrEnd (rpM l) w e w' := by
 have HV : Hid (rpM l = if 2 ≤ l.length ∧ 2 ≤ lnM l ∧ lnM l ≤ l.length ∧ ofV (rdM (l.take (lnM l))) = 0 ∧ pkO (rdM (l.take (lnM l))) = l.take (lnM l) then (0, lnM l, rdM (l.take (lnM l))) else (5, 0, opZ)) := rfl
 generalize rpM l = r at *
 unfold maxLen at hcm
 obtain ⟨W, hW⟩ : ∃ W, w.alloc (.cells #[.int .i64 0, .int .i64 0, .int .i64 0, .string ⟨#[]⟩, .string ⟨#[]⟩, .slice none 0 0, .int .i64 0, .int .i64 0, .int .i64 0, .slice none 0 0] 29) = W := ⟨_, rfl⟩
 have hsW : W.heap.size = w.heap.size + 1 := by rw [← hW]; simp
 have hb0 : Below w.heap.size w W := by rw [← hW]; exact (Below.refl _ _).alloc (Nat.le_refl _) _
 have HRB : Hid (∀ wr, Below (w.heap.size + 1) W wr → _) := fun wr hb => res_block10 hW hb
 have HBW : Hid (∀ wr, Below (w.heap.size + 1) W wr → Below w.heap.size w wr) := fun wr hb => hb0.trans (hb.mono (by omega))
 have HBAD : Hid (r = (5, 0, opZ) → ∀ wr, Below (w.heap.size + 1) W wr → ∀ (v0 v1 v2 v3 v4 v5 v6 v7 v8 v9 : Value), OrEnd r w (.returned (orV 5 0 opZ ((none, 0, 0), (none, 0, 0)))) ((((((((((wr.setCell ⟨w.heap.size, 0, none⟩ v0).setCell ⟨w.heap.size, 1, none⟩ v1).setCell ⟨w.heap.size, 2, none⟩ v2).setCell ⟨w.heap.size, 3, none⟩ v3).setCell ⟨w.heap.size, 4, none⟩ v4).setCell ⟨w.heap.size, 5, none⟩ v5).setCell ⟨w.heap.size, 6, none⟩ v6).setCell ⟨w.heap.size, 7, none⟩ v7).setCell ⟨w.heap.size, 8, none⟩ v8).setCell ⟨w.heap.size, 9, none⟩ v9)) := fun hh wr hb v0 v1 v2 v3 v4 v5 v6 v7 v8 v9 => by rw [hh]; exact or_bad (Nat.le_refl _) (HBW.out wr hb) v0 v1 v2 v3 v4 v5 v6 v7 v8 v9
 by_cases hn2 : n < 2
 ·have hn2' : (n : Int) < 2 := by omega
  have HR : Hid (r = (5, 0, opZ)) := HV.out.trans (if_neg (fun h => by omega))
  obtain ⟨hR, z0, z1, z2, z3, z4, z5, z6, z7, z8, z9⟩ := HRB.out W (Below.refl _ _)
  obtain ⟨q0, q1, q2, q3, q4, q5, q6, q7, q8, q9⟩ := res_cells10 hR (.int .i64 5) (.int .i64 0) (.int .i64 0) (.string ⟨#[]⟩) (.string ⟨#[]⟩) (.slice none 0 0) (.int .i64 0) (.int .i64 0) (.int .i64 0) (.slice none 0 0)
  obtain ⟨r0, r1, r2, r3, r4, r5, r6, r7, r8, r9⟩ := hR
  clear HV
  go_enter Tryd.func8, Tryd.ntmps8
  go_wp2
  refine bodyPost_ret (v := .agg #[.int .i64 5, .int .i64 0, .int .i64 0, .string ⟨#[]⟩, .string ⟨#[]⟩, .slice none 0 0, .int .i64 0, .int .i64 0, .int .i64 0, .slice none 0 0]) (by simp [results, Tryd.results8, go_sem, q0, q1, q2, q3, q4, q5, q6, q7, q8, q9]) rfl ?_
  exact HBAD.out HR.out W (Below.refl _ _) _ _ _ _ _ _ _ _ _ _
 have hn2' : ¬ (n : Int) < 2 := by omega
 obtain ⟨b, off, ea, hblt, hcc⟩ := hr.at_ (by omega)
 subst ea
 have d0 : W.cell? ⟨b, off, none⟩ = some (.int .u8 (nth l 0 : Int)) := (hb0.cell (p := ⟨b, off, none⟩) hblt).trans (hcc 0 (by omega))
 have d1 : W.cell? ⟨b, off + 1, none⟩ = some (.int .u8 (nth l 1 : Int)) := (hb0.cell (p := ⟨b, off + 1, none⟩) hblt).trans (hcc 1 (by omega))
 have hy0 := nth_lt hB 0
 have hy1 := nth_lt hB 1
 have hm : lnM l = nth l 0 * 256 + nth l 1 := rfl
 generalize lnM l = m at *
 generalize nth l 0 = y0 at *
 generalize nth l 1 = y1 at *
 have hw0 : IntKind.i64.wrap (y0 : Int) = (y0 : Int) := by rw [IntKind.wrap_i64]; omega
 have hw1 : IntKind.i64.wrap (y1 : Int) = (y1 : Int) := by rw [IntKind.wrap_i64]; omega
 have hw2 : IntKind.i64.wrap ((y0 : Int) * 256) = (y0 : Int) * 256 := by rw [IntKind.wrap_i64]; omega
 have hw3 : IntKind.i64.wrap ((y0 : Int) * 256 + (y1 : Int)) = (m : Int) := by rw [IntKind.wrap_i64]; omega
 have hlc : (0 : Int) < (n : Int) := by omega
 have hlc1 : (1 : Int) < (n : Int) := by omega
 have hWd : Below (w.heap.size + 1) W W.drew := (Below.refl _ _).drew
 by_cases hmb : m < 2 ∨ n < m
 ·have HR : Hid (r = (5, 0, opZ)) := HV.out.trans (if_neg (fun h => by omega))
  obtain ⟨hR, z0, z1, z2, z3, z4, z5, z6, z7, z8, z9⟩ := HRB.out W.drew hWd
  obtain ⟨q0, q1, q2, q3, q4, q5, q6, q7, q8, q9⟩ := res_cells10 hR (.int .i64 5) (.int .i64 0) (.int .i64 0) (.string ⟨#[]⟩) (.string ⟨#[]⟩) (.slice none 0 0) (.int .i64 0) (.int .i64 0) (.int .i64 0) (.slice none 0 0)
  obtain ⟨r0, r1, r2, r3, r4, r5, r6, r7, r8, r9⟩ := hR
  clear HV hm
  go_enter Tryd.func8, Tryd.ntmps8
  go_wp2_with fail
  refine wp_region_held_drew (S := fun w' => w'.cell? ⟨b, off, none⟩ = some (.int .u8 (y0 : Int)) ∧ w'.cell? ⟨b, off + 1, none⟩ = some (.int .u8 (y1 : Int))) (by kernel_rfl) ?hS1201 (fun hHeld => ?_)
  case hS1201 => exact ⟨d0, d1⟩
  refine wpAnyH_take (i := 0) (v := ?_) rfl (by kernel_rfl) (by kernel_rfl) (by kernel_rfl) (fun _ _ _ h => h) (Or.inl ⟨by rfl, ?hy1202⟩) (by assumption) ?ty1202
  case hy1202 => (intro w5 hSw; (try dsimp only at hSw); go_simp; all_goals with_reducible rfl)
  simp only [Act.put, List.getElem_toArray, List.getElem_cons_zero, List.setIfInBounds_toArray, List.set_cons_zero, List.set_cons_succ]
  refine wpAnyH_take (i := 1) (v := .pointer (some ⟨b, off, none⟩)) rfl (by kernel_rfl) (by kernel_rfl) (by kernel_rfl) (fun _ _ _ h => h) (Or.inl ⟨by rfl, ?hy1203⟩) (by assumption) ?ty1203
  case hy1203 => (intro w5 hSw; (try dsimp only at hSw); obtain ⟨e0, e1⟩ := hSw; go_simp; all_goals (first | (simp; done) | (simp; omega) | omega))
  simp only [Act.put, List.getElem_toArray, List.getElem_cons_zero, List.getElem_cons_succ, List.setIfInBounds_toArray, List.set_cons_zero, List.set_cons_succ]
  refine wpAnyH_take (i := 2) (v := .int .u8 (y0 : Int)) rfl (by kernel_rfl) (by kernel_rfl) (by kernel_rfl) (fun _ _ _ h => h) (Or.inl ⟨by rfl, ?hy1204⟩) (by assumption) ?ty1204
  case hy1204 => (intro w5 hSw; (try dsimp only at hSw); obtain ⟨e0, e1⟩ := hSw; go_simp; all_goals (first | (simp; done) | (simp; omega) | omega))
  simp only [Act.put, List.getElem_toArray, List.getElem_cons_zero, List.getElem_cons_succ, List.setIfInBounds_toArray, List.set_cons_zero, List.set_cons_succ]
  refine wpAnyH_take (i := 3) (v := .int .i64 (y0 : Int)) rfl (by kernel_rfl) (by kernel_rfl) (by kernel_rfl) (fun _ _ _ h => h) (Or.inl ⟨by rfl, ?hy1205⟩) (by assumption) ?ty1205
  case hy1205 => (intro w5 hSw; (try dsimp only at hSw); obtain ⟨e0, e1⟩ := hSw; go_simp; all_goals (simp [hw0]))
  simp only [Act.put, List.getElem_toArray, List.getElem_cons_zero, List.getElem_cons_succ, List.setIfInBounds_toArray, List.set_cons_zero, List.set_cons_succ]
  refine wpAnyH_take (i := 4) (v := .int .i64 ((y0 : Int) * 256)) rfl (by kernel_rfl) (by kernel_rfl) (by kernel_rfl) (fun _ _ _ h => h) (Or.inl ⟨by rfl, ?hy1206⟩) (by assumption) ?ty1206
  case hy1206 => (intro w5 hSw; (try dsimp only at hSw); obtain ⟨e0, e1⟩ := hSw; go_simp; all_goals (simp [hw2]))
  simp only [Act.put, List.getElem_toArray, List.getElem_cons_zero, List.getElem_cons_succ, List.setIfInBounds_toArray, List.set_cons_zero, List.set_cons_succ]
  refine wpAnyH_take (i := 5) (v := ?_) rfl (by kernel_rfl) (by kernel_rfl) (by kernel_rfl) (fun _ _ _ h => h) (Or.inl ⟨by rfl, ?hy1207⟩) (by assumption) ?ty1207
  case hy1207 => (intro w5 hSw; (try dsimp only at hSw); go_simp; all_goals with_reducible rfl)
  simp only [Act.put, List.getElem_toArray, List.getElem_cons_zero, List.getElem_cons_succ, List.setIfInBounds_toArray, List.set_cons_zero, List.set_cons_succ]
  refine wpAnyH_take (i := 6) (v := .pointer (some ⟨b, off + 1, none⟩)) rfl (by kernel_rfl) (by kernel_rfl) (by kernel_rfl) (fun _ _ _ h => h) (Or.inl ⟨by rfl, ?hy1208⟩) (by assumption) ?ty1208
  case hy1208 => (intro w5 hSw; (try dsimp only at hSw); obtain ⟨e0, e1⟩ := hSw; go_simp; all_goals (first | (simp; done) | (simp; omega) | omega))
  simp only [Act.put, List.getElem_toArray, List.getElem_cons_zero, List.getElem_cons_succ, List.setIfInBounds_toArray, List.set_cons_zero, List.set_cons_succ]
  refine wpAnyH_take (i := 7) (v := .int .u8 (y1 : Int)) rfl (by kernel_rfl) (by kernel_rfl) (by kernel_rfl) (fun _ _ _ h => h) (Or.inl ⟨by rfl, ?hy1209⟩) (by assumption) ?ty1209
  case hy1209 => (intro w5 hSw; (try dsimp only at hSw); obtain ⟨e0, e1⟩ := hSw; go_simp; all_goals (first | (simp; done) | (simp; omega) | omega))
  simp only [Act.put, List.getElem_toArray, List.getElem_cons_zero, List.getElem_cons_succ, List.setIfInBounds_toArray, List.set_cons_zero, List.set_cons_succ]
  refine wpAnyH_take (i := 8) (v := .int .i64 (y1 : Int)) rfl (by kernel_rfl) (by kernel_rfl) (by kernel_rfl) (fun _ _ _ h => h) (Or.inl ⟨by rfl, ?hy1210⟩) (by assumption) ?ty1210
  case hy1210 => (intro w5 hSw; (try dsimp only at hSw); obtain ⟨e0, e1⟩ := hSw; go_simp; all_goals (simp [hw1]))
  simp only [Act.put, List.getElem_toArray, List.getElem_cons_zero, List.getElem_cons_succ, List.setIfInBounds_toArray, List.set_cons_zero, List.set_cons_succ]
  refine wpAnyH_take (i := 9) (v := .int .i64 (m : Int)) rfl (by kernel_rfl) (by kernel_rfl) (by kernel_rfl) (fun _ _ _ h => h) (Or.inl ⟨by rfl, ?hy1211⟩) (by assumption) ?ty1211
  case hy1211 => (intro w5 hSw; (try dsimp only at hSw); obtain ⟨e0, e1⟩ := hSw; go_simp; all_goals (simp [hw3]))
  simp only [Act.put, List.getElem_toArray, List.getElem_cons_zero, List.getElem_cons_succ, List.setIfInBounds_toArray, List.set_cons_zero, List.set_cons_succ]
  refine wpAnyH_take (i := 10) (v := ?_) rfl (by kernel_rfl) (by kernel_rfl) (by kernel_rfl) (fun _ _ _ h => h) (Or.inl ⟨by rfl, ?hy1212⟩) (by assumption) ?ty1212
  case hy1212 => (intro w5 hSw; (try dsimp only at hSw); go_simp; all_goals with_reducible rfl)
  simp only [Act.put, List.getElem_toArray, List.getElem_cons_zero, List.getElem_cons_succ, List.setIfInBounds_toArray, List.set_cons_zero, List.set_cons_succ]
  refine wpAnyH_done (by kernel_rfl) ?_ _
  clear hHeld
  generalize W.drew = W1 at *
  by_cases hm2 : m < 2
  ·have hm2' : (m : Int) < 2 := by omega
   go_wp2
   refine bodyPost_ret (v := .agg #[.int .i64 5, .int .i64 0, .int .i64 0, .string ⟨#[]⟩, .string ⟨#[]⟩, .slice none 0 0, .int .i64 0, .int .i64 0, .int .i64 0, .slice none 0 0]) (by simp [results, Tryd.results8, go_sem, q0, q1, q2, q3, q4, q5, q6, q7, q8, q9]) rfl ?_
   exact HBAD.out HR.out W1 hWd _ _ _ _ _ _ _ _ _ _
  ·have hm2' : ¬ (m : Int) < 2 := by omega
   have hm3 : (m : Int) > (n : Int) := by omega
   go_wp2
   refine bodyPost_ret (v := .agg #[.int .i64 5, .int .i64 0, .int .i64 0, .string ⟨#[]⟩, .string ⟨#[]⟩, .slice none 0 0, .int .i64 0, .int .i64 0, .int .i64 0, .slice none 0 0]) (by simp [results, Tryd.results8, go_sem, q0, q1, q2, q3, q4, q5, q6, q7, q8, q9]) rfl ?_
   exact HBAD.out HR.out W1 hWd _ _ _ _ _ _ _ _ _ _
 have hm2 : 2 ≤ m := by omega
 have hmn : m ≤ n := by omega
 have hm2' : ¬ (m : Int) < 2 := by omega
 have hmn' : ¬ (m : Int) > (n : Int) := by omega
 have hmc : m ≤ cap := by omega
 have HV2 : Hid (r = if ofV (rdM (l.take m)) = 0 ∧ pkO (rdM (l.take m)) = l.take m then (0, m, rdM (l.take m)) else (5, 0, opZ)) := by
  show _ = _
  rw [HV.out]
  by_cases hq : ofV (rdM (l.take m)) = 0 ∧ pkO (rdM (l.take m)) = l.take m
  ·rw [if_pos hq, if_pos ⟨by omega, hm2, by omega, hq⟩]
  ·rw [if_neg hq, if_neg (fun h => hq h.2.2.2)]
 have hrt : Rd W (some ⟨b, off, none⟩) (l.take m) := .inr ⟨b, off, rfl, Nat.lt_of_lt_of_le hblt hb0.size, fun i hi => by
  have hi' : i < m ∧ i < l.length := by rw [List.length_take] at hi; omega
  rw [hb0.cell (p := ⟨b, off + i, none⟩) hblt, hcc i hi'.2, nth_get hi'.2, nth_get hi, List.getElem_take]⟩
 have htl : (l.take m).length = m := by rw [List.length_take]; omega
 have hBt := isB_take hB m
 have hsz := rdM_sz (l.take m) hBt
 have HRT : Hid (∀ w', Below (w.heap.size + 1) W w' → Rd w' (some ⟨b, off, none⟩) (l.take m)) := fun w' hb => hrt.below (by rw [hsW]; exact hb)
 have C9 := HL9.out (some ⟨b, off, none⟩) m cap (l.take m) W.drew htl hm2 (by omega) (HRT.out _ hWd) hBt
 have HOF : Hid (∀ (p : SlO) (g lo : Nat) (w' : World), IsOp lo w' p (rdM (l.take m)) → Qo w' g (opQ (rdM (l.take m)) p) → Calls Tryd.prog 29 #[.pointer (some ⟨g, 0, none⟩)] w' fun e w'' => e = .returned (.int .i64 (ofV (rdM (l.take m)))) ∧ Below w'.heap.size w' w'') := fun p g lo w' h1 h2 => l8Fault_any _ p g w' h1 h2 hsz.1 hsz.2
 have HOP : Hid (ofV (rdM (l.take m)) = 0 → ∀ (p : SlO) (g lo : Nat) (w' : World), IsOp lo w' p (rdM (l.take m)) → Qo w' g (opQ (rdM (l.take m)) p) → Calls Tryd.prog 23 #[.pointer (some ⟨g, 0, none⟩)] w' fun e w'' => ApEnd w'.heap.size (pkO (rdM (l.take m))) w' e w'') := fun h0 p g lo w' h1 h2 => l9Pack_any _ p g w' h1 h2 (okJ h0)
 have HPB : Hid (ofV (rdM (l.take m)) = 0 → IsB (rdM (l.take m)).b → IsB (pkO (rdM (l.take m)))) := fun h0 hb => pkO_isB (okJ h0) hb
 have HBT : Hid (IsB (l.take m)) := hBt
 have HTL : Hid ((l.take m).length = m) := htl
 clear HV hm hrt htl hBt hsz HL9 hr hcc hl hB
 generalize pkO (rdM (l.take m)) = pk at *
 generalize ofV (rdM (l.take m)) = c at *
 generalize rdM (l.take m) = o at *
 generalize l.take m = tm at *
 go_enter Tryd.func8, Tryd.ntmps8
 go_wp2_with fail
 refine wp_region_held_drew (S := fun w' => w'.cell? ⟨b, off, none⟩ = some (.int .u8 (y0 : Int)) ∧ w'.cell? ⟨b, off + 1, none⟩ = some (.int .u8 (y1 : Int))) (by kernel_rfl) ?hS1213 (fun hHeld => ?_)
 case hS1213 => exact ⟨d0, d1⟩
 refine wpAnyH_take (i := 0) (v := ?_) rfl (by kernel_rfl) (by kernel_rfl) (by kernel_rfl) (fun _ _ _ h => h) (Or.inl ⟨by rfl, ?hy1214⟩) (by assumption) ?ty1214
 case hy1214 => (intro w5 hSw; (try dsimp only at hSw); go_simp; all_goals with_reducible rfl)
 simp only [Act.put, List.getElem_toArray, List.getElem_cons_zero, List.setIfInBounds_toArray, List.set_cons_zero, List.set_cons_succ]
 refine wpAnyH_take (i := 1) (v := .pointer (some ⟨b, off, none⟩)) rfl (by kernel_rfl) (by kernel_rfl) (by kernel_rfl) (fun _ _ _ h => h) (Or.inl ⟨by rfl, ?hy1215⟩) (by assumption) ?ty1215
 case hy1215 => (intro w5 hSw; (try dsimp only at hSw); obtain ⟨e0, e1⟩ := hSw; go_simp; all_goals (first | (simp; done) | (simp; omega) | omega))
 simp only [Act.put, List.getElem_toArray, List.getElem_cons_zero, List.getElem_cons_succ, List.setIfInBounds_toArray, List.set_cons_zero, List.set_cons_succ]
 refine wpAnyH_take (i := 2) (v := .int .u8 (y0 : Int)) rfl (by kernel_rfl) (by kernel_rfl) (by kernel_rfl) (fun _ _ _ h => h) (Or.inl ⟨by rfl, ?hy1216⟩) (by assumption) ?ty1216
 case hy1216 => (intro w5 hSw; (try dsimp only at hSw); obtain ⟨e0, e1⟩ := hSw; go_simp; all_goals (first | (simp; done) | (simp; omega) | omega))
 simp only [Act.put, List.getElem_toArray, List.getElem_cons_zero, List.getElem_cons_succ, List.setIfInBounds_toArray, List.set_cons_zero, List.set_cons_succ]
 refine wpAnyH_take (i := 3) (v := .int .i64 (y0 : Int)) rfl (by kernel_rfl) (by kernel_rfl) (by kernel_rfl) (fun _ _ _ h => h) (Or.inl ⟨by rfl, ?hy1217⟩) (by assumption) ?ty1217
 case hy1217 => (intro w5 hSw; (try dsimp only at hSw); obtain ⟨e0, e1⟩ := hSw; go_simp; all_goals (simp [hw0]))
 simp only [Act.put, List.getElem_toArray, List.getElem_cons_zero, List.getElem_cons_succ, List.setIfInBounds_toArray, List.set_cons_zero, List.set_cons_succ]
 refine wpAnyH_take (i := 4) (v := .int .i64 ((y0 : Int) * 256)) rfl (by kernel_rfl) (by kernel_rfl) (by kernel_rfl) (fun _ _ _ h => h) (Or.inl ⟨by rfl, ?hy1218⟩) (by assumption) ?ty1218
 case hy1218 => (intro w5 hSw; (try dsimp only at hSw); obtain ⟨e0, e1⟩ := hSw; go_simp; all_goals (simp [hw2]))
 simp only [Act.put, List.getElem_toArray, List.getElem_cons_zero, List.getElem_cons_succ, List.setIfInBounds_toArray, List.set_cons_zero, List.set_cons_succ]
 refine wpAnyH_take (i := 5) (v := ?_) rfl (by kernel_rfl) (by kernel_rfl) (by kernel_rfl) (fun _ _ _ h => h) (Or.inl ⟨by rfl, ?hy1219⟩) (by assumption) ?ty1219
 case hy1219 => (intro w5 hSw; (try dsimp only at hSw); go_simp; all_goals with_reducible rfl)
 simp only [Act.put, List.getElem_toArray, List.getElem_cons_zero, List.getElem_cons_succ, List.setIfInBounds_toArray, List.set_cons_zero, List.set_cons_succ]
 refine wpAnyH_take (i := 6) (v := .pointer (some ⟨b, off + 1, none⟩)) rfl (by kernel_rfl) (by kernel_rfl) (by kernel_rfl) (fun _ _ _ h => h) (Or.inl ⟨by rfl, ?hy1220⟩) (by assumption) ?ty1220
 case hy1220 => (intro w5 hSw; (try dsimp only at hSw); obtain ⟨e0, e1⟩ := hSw; go_simp; all_goals (first | (simp; done) | (simp; omega) | omega))
 simp only [Act.put, List.getElem_toArray, List.getElem_cons_zero, List.getElem_cons_succ, List.setIfInBounds_toArray, List.set_cons_zero, List.set_cons_succ]
 refine wpAnyH_take (i := 7) (v := .int .u8 (y1 : Int)) rfl (by kernel_rfl) (by kernel_rfl) (by kernel_rfl) (fun _ _ _ h => h) (Or.inl ⟨by rfl, ?hy1221⟩) (by assumption) ?ty1221
 case hy1221 => (intro w5 hSw; (try dsimp only at hSw); obtain ⟨e0, e1⟩ := hSw; go_simp; all_goals (first | (simp; done) | (simp; omega) | omega))
 simp only [Act.put, List.getElem_toArray, List.getElem_cons_zero, List.getElem_cons_succ, List.setIfInBounds_toArray, List.set_cons_zero, List.set_cons_succ]
 refine wpAnyH_take (i := 8) (v := .int .i64 (y1 : Int)) rfl (by kernel_rfl) (by kernel_rfl) (by kernel_rfl) (fun _ _ _ h => h) (Or.inl ⟨by rfl, ?hy1222⟩) (by assumption) ?ty1222
 case hy1222 => (intro w5 hSw; (try dsimp only at hSw); obtain ⟨e0, e1⟩ := hSw; go_simp; all_goals (simp [hw1]))
 simp only [Act.put, List.getElem_toArray, List.getElem_cons_zero, List.getElem_cons_succ, List.setIfInBounds_toArray, List.set_cons_zero, List.set_cons_succ]
 refine wpAnyH_take (i := 9) (v := .int .i64 (m : Int)) rfl (by kernel_rfl) (by kernel_rfl) (by kernel_rfl) (fun _ _ _ h => h) (Or.inl ⟨by rfl, ?hy1223⟩) (by assumption) ?ty1223
 case hy1223 => (intro w5 hSw; (try dsimp only at hSw); obtain ⟨e0, e1⟩ := hSw; go_simp; all_goals (simp [hw3]))
 simp only [Act.put, List.getElem_toArray, List.getElem_cons_zero, List.getElem_cons_succ, List.setIfInBounds_toArray, List.set_cons_zero, List.set_cons_succ]
 refine wpAnyH_take (i := 10) (v := ?_) rfl (by kernel_rfl) (by kernel_rfl) (by kernel_rfl) (fun _ _ _ h => h) (Or.inl ⟨by rfl, ?hy1224⟩) (by assumption) ?ty1224
 case hy1224 => (intro w5 hSw; (try dsimp only at hSw); go_simp; all_goals with_reducible rfl)
 simp only [Act.put, List.getElem_toArray, List.getElem_cons_zero, List.getElem_cons_succ, List.setIfInBounds_toArray, List.set_cons_zero, List.set_cons_succ]
 refine wpAnyH_done (by kernel_rfl) ?_ _
 clear hHeld
 go_wp2_with fail
 generalize W.drew = W1 at *
 refine C9.mono ?_
 rintro e w2 ⟨p2, rfl, ho2, ⟨hv1, hv2⟩, hsp2, hb2⟩
 have hz1 : w.heap.size + 1 ≤ W1.heap.size := by have := hWd.size; omega
 have hB2 := hWd.trans (hb2.mono hz1)
 obtain ⟨W4, hW4⟩ : ∃ W4, w2.alloc (.cells #[.int .i64 o.k, .string o.x, .string o.t, slW p2.1, .int .i64 o.m, .int .i64 o.f, .int .i64 o.d, slW p2.2] 27) = W4 := ⟨_, rfl⟩
 have b4 : Below w2.heap.size w2 W4 := by rw [← hW4]; exact (Below.refl _ _).alloc (Nat.le_refl _) _
 have hs4 : W4.heap.size = w2.heap.size + 1 := by rw [← hW4]; simp
 have hQ4 : Qo W4 w2.heap.size (opQ o p2) := by rw [← hW4]; exact Qo.new _ _ _ _ _ _ _ _ _ _
 have hB4 := hB2.trans (b4.mono (by have := hB2.size; omega))
 have hz4 : w.heap.size + 1 ≤ W4.heap.size := by have := hB4.size; omega
 have HB4 : Hid (∀ x, Below W4.heap.size W4 x → Below (w.heap.size + 1) W x) := fun x hx => hB4.trans (hx.mono hz4)
 have HQ : Hid (∀ x, Below W4.heap.size W4 x → Qo x w2.heap.size (opQ o p2) ∧ IsOp (w.heap.size + 1) x p2 o ∧ WrQ (w.heap.size + 1) x p2.1 ∧ WrQ (w.heap.size + 1) x p2.2) := fun x hx => ⟨hQ4.below hx (by omega), ((ho2.below b4).below hx).low hz1, ((hv1.below b4).below hx).low hz1, ((hv2.below b4).below hx).low hz1⟩
 have HFT : Hid (∀ x, Below W4.heap.size W4 x → Calls Tryd.prog 29 #[.pointer (some ⟨w2.heap.size, 0, none⟩)] x fun e w'' => e = .returned (.int .i64 c) ∧ Below x.heap.size x w'') := fun x hx => HOF.out p2 _ _ x (HQ.out x hx).2.1 (HQ.out x hx).1
 have HPK : Hid (c = 0 → ∀ x, Below W4.heap.size W4 x → Calls Tryd.prog 23 #[.pointer (some ⟨w2.heap.size, 0, none⟩)] x fun e w'' => ApEnd x.heap.size pk x e w'') := fun h0 x hx => HOP.out h0 p2 _ _ x (HQ.out x hx).2.1 (HQ.out x hx).1
 have HCV : Hid (∀ x, Below W4.heap.size W4 x → (convert 22 9 (.slice (some ⟨b, off, none⟩) m cap)).run Tryd.prog x = .ok (.string (str tm)) x) := fun x hx => run_str HTL.out (HRT.out x (HB4.out x hx))
 have HBO : Hid (IsB o.b) := ho2.2.2.2.2.1
 clear C9 HOF HOP ho2 hv1 hv2 hb2 hB2 b4 hQ4 HRT
 go_wp2_with fail
 generalize hOO : w2.heap.size = O at *
 by_cases hc : c = 0
 ·have HPK : Hid (∀ x, Below W4.heap.size W4 x → Calls Tryd.prog 23 #[.pointer (some ⟨O, 0, none⟩)] x fun e w'' => ApEnd x.heap.size pk x e w'') := HPK.out hc
  by_cases heq : pk = tm
  ·have HR : Hid (r = (0, m, o)) := HV2.out.trans (if_pos ⟨hc, heq⟩)
   have hcmp : ((str pk).toList == (str tm).toList) = true := by rw [heq]; exact beq_self_eq_true _
   clear heq
   refine wp_region_held_drew (S := fun w' => Below W4.heap.size W4 w') (by kernel_rfl) ?hS1229 (fun hHeld => ?_)
   case hS1229 => exact (Below.refl _ _).drew
   generalize hdr : W4.drew = x4 at *
   have hx4 : Below W4.heap.size W4 x4 := by rw [← hdr]; exact (Below.refl _ _).drew
   clear hdr
   refine wpAnyH_ready (rs := [0]) (by kernel_rfl) (by simp) ?_
   refine AllReadyH.cons rfl (fun K hK => ?_) AllReadyH.nil
   go_simp
   refine (HFT.out x4 hx4).mono ?_
   rintro e w5 ⟨rfl, hb5⟩
   have hB5 := hx4.trans (hb5.mono hx4.size)
   refine hK.out _ _ hB5 (fun hHeld => ?_)
   clear hK K hb5
   refine wpAnyH_take (i := 1) (v := .bool false) rfl (by kernel_rfl) (by kernel_rfl) (by kernel_rfl) (fun _ _ _ h => h) (Or.inl ⟨by rfl, ?hy1230⟩) (by assumption) ?ty1230
   case hy1230 => (intro w5 hSw; (try dsimp only at hSw); go_simp; all_goals (first | (simp; done) | (simp [hc]; done) | omega))
   simp only [Act.put, List.getElem_toArray, List.getElem_cons_zero, List.getElem_cons_succ, List.setIfInBounds_toArray, List.set_cons_zero, List.set_cons_succ]
   refine wpAnyH_take (i := 2) (v := ?_) rfl (by kernel_rfl) (by kernel_rfl) (by kernel_rfl) (fun _ _ _ h => h) (Or.inl ⟨by rfl, ?hy1231⟩) (by assumption) ?ty1231
   case hy1231 => (intro w5 hSw; (try dsimp only at hSw); go_simp; all_goals with_reducible rfl)
   simp only [Act.put, List.getElem_toArray, List.getElem_cons_zero, List.getElem_cons_succ, List.setIfInBounds_toArray, List.set_cons_zero, List.set_cons_succ]
   refine wpAnyH_take (i := 5) (v := ?_) rfl (by kernel_rfl) (by kernel_rfl) (by kernel_rfl) (fun _ _ _ h => h) (Or.inl ⟨by rfl, ?hy1232⟩) (by assumption) ?ty1232
   case hy1232 => (intro w5 hSw; (try dsimp only at hSw); go_simp; all_goals with_reducible rfl)
   simp only [Act.put, List.getElem_toArray, List.getElem_cons_zero, List.getElem_cons_succ, List.setIfInBounds_toArray, List.set_cons_zero, List.set_cons_succ]
   refine wpAnyH_take (i := 6) (v := ?_) rfl (by kernel_rfl) (by kernel_rfl) (by kernel_rfl) (fun _ _ _ h => h) (Or.inl ⟨by rfl, ?hy1233⟩) (by assumption) ?ty1233
   case hy1233 => (intro w5 hSw; (try dsimp only at hSw); go_simp; all_goals with_reducible rfl)
   simp only [Act.put, List.getElem_toArray, List.getElem_cons_zero, List.getElem_cons_succ, List.setIfInBounds_toArray, List.set_cons_zero, List.set_cons_succ]
   refine wpAnyH_take (i := 7) (v := .slice (some ⟨b, off, none⟩) m cap) rfl (by kernel_rfl) (by kernel_rfl) (by kernel_rfl) (fun _ _ _ h => h) (Or.inl ⟨by rfl, ?hy1234⟩) (by assumption) ?ty1234
   case hy1234 => (intro w5 hSw; (try dsimp only at hSw); go_simp; all_goals (first | (simp; done) | (simp; omega) | omega))
   simp only [Act.put, List.getElem_toArray, List.getElem_cons_zero, List.getElem_cons_succ, List.setIfInBounds_toArray, List.set_cons_zero, List.set_cons_succ]
   refine wpAnyH_take (i := 8) (v := .string (str tm)) rfl (by kernel_rfl) (by kernel_rfl) (by kernel_rfl) (fun _ _ _ h => h) (Or.inl ⟨by rfl, ?hy1235⟩) (by assumption) ?ty1235
   case hy1235 => (intro w5 hSw; (try dsimp only at hSw); have hcv := HCV.out w5 hSw; go_simp; all_goals (first | (simp; done) | rfl))
   simp only [Act.put, List.getElem_toArray, List.getElem_cons_zero, List.getElem_cons_succ, List.setIfInBounds_toArray, List.set_cons_zero, List.set_cons_succ]
   refine wpAnyH_ready (rs := [3]) (by kernel_rfl) (by simp) ?_
   refine AllReadyH.cons rfl (fun K hK => ?_) AllReadyH.nil
   go_simp
   refine (HPK.out w5 hB5).mono ?_
   rintro e w6 ⟨v6, rfl, hg6, hb6⟩
   have hB6 := hB5.trans (hb6.mono hB5.size)
   obtain ⟨g6, cp6, rfl, -, -, hc6⟩ := hg6
   have hcv6 := run_str (cap := cp6) (n := pk.length) rfl hc6.rd
   clear hc6
   refine hK.out _ _ hB6 (fun hHeld => ?_)
   clear hK K hb6
   refine wpAnyH_ready (rs := [4]) (by kernel_rfl) (by simp) ?_
   refine AllReadyH.cons rfl (fun K hK => ?_) AllReadyH.nil
   go_simp
   refine hK.out _ _ hB6 (fun hHeld => ?_)
   clear hK K hcv6
   refine wpAnyH_take (i := 9) (v := .bool false) rfl (by kernel_rfl) (by kernel_rfl) (by kernel_rfl) (fun _ _ _ h => h) (Or.inl ⟨by rfl, ?hy1236⟩) (by assumption) ?ty1236
   case hy1236 => (intro w5 hSw; (try dsimp only at hSw); go_simp; all_goals (simp [hcmp]))
   simp only [Act.put, List.getElem_toArray, List.getElem_cons_zero, List.getElem_cons_succ, List.setIfInBounds_toArray, List.set_cons_zero, List.set_cons_succ]
   refine wpAnyH_take (i := 10) (v := .bool false) rfl (by kernel_rfl) (by kernel_rfl) (by kernel_rfl) (fun _ _ _ h => h) (Or.inl ⟨by rfl, ?hy1237⟩) (by assumption) ?ty1237
   case hy1237 => (intro w5 hSw; (try dsimp only at hSw); go_simp; all_goals (first | (simp; done) | rfl))
   simp only [Act.put, List.getElem_toArray, List.getElem_cons_zero, List.getElem_cons_succ, List.setIfInBounds_toArray, List.set_cons_zero, List.set_cons_succ]
   refine wpAnyH_done (by kernel_rfl) ?_ _
   clear hHeld
   obtain ⟨⟨c0, c1, c2, c3, c4, c5, c6, c7⟩, hop⟩ := HQ.out w6 hB6
   dsimp only at c0 c1 c2 c3 c4 c5 c6 c7
   obtain ⟨hR, z0, z1, z2, z3, z4, z5, z6, z7, z8, z9⟩ := HRB.out w6 (HB4.out w6 hB6)
   obtain ⟨q0, q1, q2, q3, q4, q5, q6, q7, q8, q9⟩ := res_cells10 hR (.int .i64 0) (.int .i64 (m : Int)) (.int .i64 o.k) (.string o.x) (.string o.t) (slW p2.1) (.int .i64 o.m) (.int .i64 o.f) (.int .i64 o.d) (slW p2.2)
   obtain ⟨r0, r1, r2, r3, r4, r5, r6, r7, r8, r9⟩ := hR
   have HOP : Hid (_) := hop
   have HBE : Hid (Below w.heap.size w w6) := HBW.out w6 (HB4.out w6 hB6)
   clear hop
   go_wp2
   refine bodyPost_ret (v := orV 0 m o p2) (by simp [results, Tryd.results8, go_sem, q0, q1, q2, q3, q4, q5, q6, q7, q8, q9]) rfl ?_
   rw [HR.out]
   have h := or_fin (A := w.heap.size) (Nat.lt_succ_self _) (Nat.le_refl _) HBE.out HOP.out (.int .i64 0) (.int .i64 (m : Int)) (.int .i64 o.k) (.string o.x) (.string o.t) (slW p2.1) (.int .i64 o.m) (.int .i64 o.f) (.int .i64 o.d) (slW p2.2)
   exact ⟨p2, rfl, h.1.low (by omega), ⟨h.2.1.1.low (by omega), h.2.1.2.low (by omega)⟩, hsp2, h.2.2⟩
  ·have HR : Hid (r = (5, 0, opZ)) := HV2.out.trans (if_neg (fun h => heq h.2))
   have hcmp : ((str pk).toList == (str tm).toList) = false := txt_neJ (str_ne (HPB.out hc HBO.out) HBT.out heq)
   refine wp_region_held_drew (S := fun w' => Below W4.heap.size W4 w') (by kernel_rfl) ?hS1238 (fun hHeld => ?_)
   case hS1238 => exact (Below.refl _ _).drew
   generalize hdr : W4.drew = x4 at *
   have hx4 : Below W4.heap.size W4 x4 := by rw [← hdr]; exact (Below.refl _ _).drew
   clear hdr
   refine wpAnyH_ready (rs := [0]) (by kernel_rfl) (by simp) ?_
   refine AllReadyH.cons rfl (fun K hK => ?_) AllReadyH.nil
   go_simp
   refine (HFT.out x4 hx4).mono ?_
   rintro e w5 ⟨rfl, hb5⟩
   have hB5 := hx4.trans (hb5.mono hx4.size)
   refine hK.out _ _ hB5 (fun hHeld => ?_)
   clear hK K hb5
   refine wpAnyH_take (i := 1) (v := .bool false) rfl (by kernel_rfl) (by kernel_rfl) (by kernel_rfl) (fun _ _ _ h => h) (Or.inl ⟨by rfl, ?hy1239⟩) (by assumption) ?ty1239
   case hy1239 => (intro w5 hSw; (try dsimp only at hSw); go_simp; all_goals (first | (simp; done) | (simp [hc]; done) | omega))
   simp only [Act.put, List.getElem_toArray, List.getElem_cons_zero, List.getElem_cons_succ, List.setIfInBounds_toArray, List.set_cons_zero, List.set_cons_succ]
   refine wpAnyH_take (i := 2) (v := ?_) rfl (by kernel_rfl) (by kernel_rfl) (by kernel_rfl) (fun _ _ _ h => h) (Or.inl ⟨by rfl, ?hy1240⟩) (by assumption) ?ty1240
   case hy1240 => (intro w5 hSw; (try dsimp only at hSw); go_simp; all_goals with_reducible rfl)
   simp only [Act.put, List.getElem_toArray, List.getElem_cons_zero, List.getElem_cons_succ, List.setIfInBounds_toArray, List.set_cons_zero, List.set_cons_succ]
   refine wpAnyH_take (i := 5) (v := ?_) rfl (by kernel_rfl) (by kernel_rfl) (by kernel_rfl) (fun _ _ _ h => h) (Or.inl ⟨by rfl, ?hy1241⟩) (by assumption) ?ty1241
   case hy1241 => (intro w5 hSw; (try dsimp only at hSw); go_simp; all_goals with_reducible rfl)
   simp only [Act.put, List.getElem_toArray, List.getElem_cons_zero, List.getElem_cons_succ, List.setIfInBounds_toArray, List.set_cons_zero, List.set_cons_succ]
   refine wpAnyH_take (i := 6) (v := ?_) rfl (by kernel_rfl) (by kernel_rfl) (by kernel_rfl) (fun _ _ _ h => h) (Or.inl ⟨by rfl, ?hy1242⟩) (by assumption) ?ty1242
   case hy1242 => (intro w5 hSw; (try dsimp only at hSw); go_simp; all_goals with_reducible rfl)
   simp only [Act.put, List.getElem_toArray, List.getElem_cons_zero, List.getElem_cons_succ, List.setIfInBounds_toArray, List.set_cons_zero, List.set_cons_succ]
   refine wpAnyH_take (i := 7) (v := .slice (some ⟨b, off, none⟩) m cap) rfl (by kernel_rfl) (by kernel_rfl) (by kernel_rfl) (fun _ _ _ h => h) (Or.inl ⟨by rfl, ?hy1243⟩) (by assumption) ?ty1243
   case hy1243 => (intro w5 hSw; (try dsimp only at hSw); go_simp; all_goals (first | (simp; done) | (simp; omega) | omega))
   simp only [Act.put, List.getElem_toArray, List.getElem_cons_zero, List.getElem_cons_succ, List.setIfInBounds_toArray, List.set_cons_zero, List.set_cons_succ]
   refine wpAnyH_take (i := 8) (v := .string (str tm)) rfl (by kernel_rfl) (by kernel_rfl) (by kernel_rfl) (fun _ _ _ h => h) (Or.inl ⟨by rfl, ?hy1244⟩) (by assumption) ?ty1244
   case hy1244 => (intro w5 hSw; (try dsimp only at hSw); have hcv := HCV.out w5 hSw; go_simp; all_goals (first | (simp; done) | rfl))
   simp only [Act.put, List.getElem_toArray, List.getElem_cons_zero, List.getElem_cons_succ, List.setIfInBounds_toArray, List.set_cons_zero, List.set_cons_succ]
   refine wpAnyH_ready (rs := [3]) (by kernel_rfl) (by simp) ?_
   refine AllReadyH.cons rfl (fun K hK => ?_) AllReadyH.nil
   go_simp
   refine (HPK.out w5 hB5).mono ?_
   rintro e w6 ⟨v6, rfl, hg6, hb6⟩
   have hB6 := hB5.trans (hb6.mono hB5.size)
   obtain ⟨g6, cp6, rfl, -, -, hc6⟩ := hg6
   have hcv6 := run_str (cap := cp6) (n := pk.length) rfl hc6.rd
   clear hc6
   refine hK.out _ _ hB6 (fun hHeld => ?_)
   clear hK K hb6
   refine wpAnyH_ready (rs := [4]) (by kernel_rfl) (by simp) ?_
   refine AllReadyH.cons rfl (fun K hK => ?_) AllReadyH.nil
   go_simp
   refine hK.out _ _ hB6 (fun hHeld => ?_)
   clear hK K hcv6
   refine wpAnyH_take (i := 9) (v := .bool true) rfl (by kernel_rfl) (by kernel_rfl) (by kernel_rfl) (fun _ _ _ h => h) (Or.inl ⟨by rfl, ?hy1245⟩) (by assumption) ?ty1245
   case hy1245 => (intro w5 hSw; (try dsimp only at hSw); go_simp; all_goals (simp [hcmp]))
   simp only [Act.put, List.getElem_toArray, List.getElem_cons_zero, List.getElem_cons_succ, List.setIfInBounds_toArray, List.set_cons_zero, List.set_cons_succ]
   refine wpAnyH_take (i := 10) (v := .bool true) rfl (by kernel_rfl) (by kernel_rfl) (by kernel_rfl) (fun _ _ _ h => h) (Or.inl ⟨by rfl, ?hy1246⟩) (by assumption) ?ty1246
   case hy1246 => (intro w5 hSw; (try dsimp only at hSw); go_simp; all_goals (first | (simp; done) | rfl))
   simp only [Act.put, List.getElem_toArray, List.getElem_cons_zero, List.getElem_cons_succ, List.setIfInBounds_toArray, List.set_cons_zero, List.set_cons_succ]
   refine wpAnyH_done (by kernel_rfl) ?_ _
   clear hHeld
   obtain ⟨hR, z0, z1, z2, z3, z4, z5, z6, z7, z8, z9⟩ := HRB.out w6 (HB4.out w6 hB6)
   obtain ⟨q0, q1, q2, q3, q4, q5, q6, q7, q8, q9⟩ := res_cells10 hR (.int .i64 5) (.int .i64 0) (.int .i64 0) (.string ⟨#[]⟩) (.string ⟨#[]⟩) (.slice none 0 0) (.int .i64 0) (.int .i64 0) (.int .i64 0) (.slice none 0 0)
   obtain ⟨r0, r1, r2, r3, r4, r5, r6, r7, r8, r9⟩ := hR
   go_wp2
   refine bodyPost_ret (v := .agg #[.int .i64 5, .int .i64 0, .int .i64 0, .string ⟨#[]⟩, .string ⟨#[]⟩, .slice none 0 0, .int .i64 0, .int .i64 0, .int .i64 0, .slice none 0 0]) (by simp [results, Tryd.results8, go_sem, q0, q1, q2, q3, q4, q5, q6, q7, q8, q9]) rfl ?_
   exact HBAD.out HR.out w6 (HB4.out w6 hB6) _ _ _ _ _ _ _ _ _ _
 ·have HR : Hid (r = (5, 0, opZ)) := HV2.out.trans (if_neg (fun h => hc h.1))
  refine wp_region_held_drew (S := fun w' => Below W4.heap.size W4 w') (by kernel_rfl) ?hS1225 (fun hHeld => ?_)
  case hS1225 => exact (Below.refl _ _).drew
  generalize hdr : W4.drew = x4 at *
  have hx4 : Below W4.heap.size W4 x4 := by rw [← hdr]; exact (Below.refl _ _).drew
  clear hdr
  refine wpAnyH_ready (rs := [0]) (by kernel_rfl) (by simp) ?_
  refine AllReadyH.cons rfl (fun K hK => ?_) AllReadyH.nil
  go_simp
  refine (HFT.out x4 hx4).mono ?_
  rintro e w5 ⟨rfl, hb5⟩
  have hB5 := hx4.trans (hb5.mono hx4.size)
  refine hK.out _ _ hB5 (fun hHeld => ?_)
  clear hK K hb5
  refine wpAnyH_take (i := 1) (v := .bool true) rfl (by kernel_rfl) (by kernel_rfl) (by kernel_rfl) (fun _ _ _ h => h) (Or.inl ⟨by rfl, ?hy1226⟩) (by assumption) ?ty1226
  case hy1226 => (intro w5 hSw; (try dsimp only at hSw); go_simp; all_goals (first | (simp; done) | (simp [hc]; done) | omega))
  simp only [Act.put, List.getElem_toArray, List.getElem_cons_zero, List.getElem_cons_succ, List.setIfInBounds_toArray, List.set_cons_zero, List.set_cons_succ]
  refine wpAnyH_take (i := 2) (v := ?_) rfl (by kernel_rfl) (by kernel_rfl) (by kernel_rfl) (fun _ _ _ h => h) (Or.inl ⟨by rfl, ?hy1227⟩) (by assumption) ?ty1227
  case hy1227 => (intro w5 hSw; (try dsimp only at hSw); go_simp; all_goals with_reducible rfl)
  simp only [Act.put, List.getElem_toArray, List.getElem_cons_zero, List.getElem_cons_succ, List.setIfInBounds_toArray, List.set_cons_zero, List.set_cons_succ]
  refine wpAnyH_take (i := 3) (v := undef) rfl (by kernel_rfl) (by kernel_rfl) (by kernel_rfl) (fun _ _ _ h => h) (Or.inr ⟨by rfl, rfl⟩) (by assumption) ?_
  simp only [Act.put, List.getElem_toArray, List.getElem_cons_zero, List.getElem_cons_succ, List.setIfInBounds_toArray, List.set_cons_zero, List.set_cons_succ]
  refine wpAnyH_take (i := 4) (v := undef) rfl (by kernel_rfl) (by kernel_rfl) (by kernel_rfl) (fun _ _ _ h => h) (Or.inr ⟨by rfl, rfl⟩) (by assumption) ?_
  simp only [Act.put, List.getElem_toArray, List.getElem_cons_zero, List.getElem_cons_succ, List.setIfInBounds_toArray, List.set_cons_zero, List.set_cons_succ]
  refine wpAnyH_take (i := 5) (v := undef) rfl (by kernel_rfl) (by kernel_rfl) (by kernel_rfl) (fun _ _ _ h => h) (Or.inr ⟨by rfl, rfl⟩) (by assumption) ?_
  simp only [Act.put, List.getElem_toArray, List.getElem_cons_zero, List.getElem_cons_succ, List.setIfInBounds_toArray, List.set_cons_zero, List.set_cons_succ]
  refine wpAnyH_take (i := 6) (v := undef) rfl (by kernel_rfl) (by kernel_rfl) (by kernel_rfl) (fun _ _ _ h => h) (Or.inr ⟨by rfl, rfl⟩) (by assumption) ?_
  simp only [Act.put, List.getElem_toArray, List.getElem_cons_zero, List.getElem_cons_succ, List.setIfInBounds_toArray, List.set_cons_zero, List.set_cons_succ]
  refine wpAnyH_take (i := 7) (v := undef) rfl (by kernel_rfl) (by kernel_rfl) (by kernel_rfl) (fun _ _ _ h => h) (Or.inr ⟨by rfl, rfl⟩) (by assumption) ?_
  simp only [Act.put, List.getElem_toArray, List.getElem_cons_zero, List.getElem_cons_succ, List.setIfInBounds_toArray, List.set_cons_zero, List.set_cons_succ]
  refine wpAnyH_take (i := 8) (v := undef) rfl (by kernel_rfl) (by kernel_rfl) (by kernel_rfl) (fun _ _ _ h => h) (Or.inr ⟨by rfl, rfl⟩) (by assumption) ?_
  simp only [Act.put, List.getElem_toArray, List.getElem_cons_zero, List.getElem_cons_succ, List.setIfInBounds_toArray, List.set_cons_zero, List.set_cons_succ]
  refine wpAnyH_take (i := 9) (v := undef) rfl (by kernel_rfl) (by kernel_rfl) (by kernel_rfl) (fun _ _ _ h => h) (Or.inr ⟨by rfl, rfl⟩) (by assumption) ?_
  simp only [Act.put, List.getElem_toArray, List.getElem_cons_zero, List.getElem_cons_succ, List.setIfInBounds_toArray, List.set_cons_zero, List.set_cons_succ]
  refine wpAnyH_take (i := 10) (v := .bool true) rfl (by kernel_rfl) (by kernel_rfl) (by kernel_rfl) (fun _ _ _ h => h) (Or.inl ⟨by rfl, ?hy1228⟩) (by assumption) ?ty1228
  case hy1228 => (intro w5 hSw; (try dsimp only at hSw); go_simp; all_goals (first | (simp; done) | rfl))
  simp only [Act.put, List.getElem_toArray, List.getElem_cons_zero, List.getElem_cons_succ, List.setIfInBounds_toArray, List.set_cons_zero, List.set_cons_succ]
  refine wpAnyH_done (by kernel_rfl) ?_ _
  clear hHeld
  obtain ⟨hR, z0, z1, z2, z3, z4, z5, z6, z7, z8, z9⟩ := HRB.out w5 (HB4.out w5 hB5)
  obtain ⟨q0, q1, q2, q3, q4, q5, q6, q7, q8, q9⟩ := res_cells10 hR (.int .i64 5) (.int .i64 0) (.int .i64 0) (.string ⟨#[]⟩) (.string ⟨#[]⟩) (.slice none 0 0) (.int .i64 0) (.int .i64 0) (.int .i64 0) (.slice none 0 0)
  obtain ⟨r0, r1, r2, r3, r4, r5, r6, r7, r8, r9⟩ := hR
  go_wp2
  refine bodyPost_ret (v := .agg #[.int .i64 5, .int .i64 0, .int .i64 0, .string ⟨#[]⟩, .string ⟨#[]⟩, .slice none 0 0, .int .i64 0, .int .i64 0, .int .i64 0, .slice none 0 0]) (by simp [results, Tryd.results8, go_sem, q0, q1, q2, q3, q4, q5, q6, q7, q8, q9]) rfl ?_
  exact HBAD.out HR.out w5 (HB4.out w5 hB5) _ _ _ _ _ _ _ _ _ _
end Go.Proofs.YtdcgihcjiiemdaaDoor
