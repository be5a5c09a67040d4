/- An op as bytes: the model's; the op has no fault. -/
import Derived.Test.YtdcgihcjiiemdaaDoorPkdToPke
namespace Go.Proofs.YtdcgihcjiiemdaaDoor
open Go.RowKit
set_option linter.unusedVariables false
theorem rd_one (w : World) (b : Nat) : Rd (w.alloc (.cells #[.int .u8 (b : Int)] 5)) (some ⟨w.heap.size, 0, none⟩) [b] := .inr ⟨w.heap.size, 0, rfl, by simp, fun i hi => by
  obtain rfl : i = 0 := by simpa using hi
  simp [nth]⟩
theorem rd_two (w : World) (b c : Nat) : Rd (w.alloc (.cells #[.int .u8 (b : Int), .int .u8 (c : Int)] 5)) (some ⟨w.heap.size, 0, none⟩) [b, c] := .inr ⟨w.heap.size, 0, rfl, by simp, fun i hi => by
  have hi2 : i < 2 := by simpa using hi
  obtain rfl | rfl : i = 0 ∨ i = 1 := by omega
  ·simp [nth]
  ·simp [nth]⟩
theorem Gr.form2 {w : World} {B g n c : Nat} {l : List Nat} (h : Gr w B (.slice (some ⟨g, 0, none⟩) n c) l) : l.length = n ∧ Rd w (some ⟨g, 0, none⟩) l := by
 obtain ⟨g', cp', e, -, -, hc⟩ := h
 injection e with e1 e2 e3
 cases e1
 exact ⟨e2.symm, hc.rd⟩
set_option maxHeartbeats 3200000 in
set_option maxRecDepth 100000 in
theorem l9Pack_any (o : OpR) (p : SlO) (R : Nat) {lo : Nat} (w : World) (hs : IsOp lo w p o) (hq : Qo w R (opQ o p)) (hk : OkJ o) :
  Calls Tryd.prog 23 #[.pointer (some ⟨R, 0, none⟩)] w fun e w' => ApEnd w.heap.size (pkO o) w e w' := by
 have HBH : Hid (IsB (hdB o)) := inB_isB hk hs.2.2.2.2.1
 obtain ⟨k, x, t, u, m, f, d, b⟩ := o
 obtain ⟨⟨k1, k7⟩, hx, ht, hu, hv, ⟨m0, m3⟩, ⟨f0, f15⟩, ⟨d0, d9⟩, hb⟩ := hk
 dsimp only at *
 obtain ⟨tx, rfl, hBx⟩ := str_surj x
 obtain ⟨tt, rfl, hBt⟩ := str_surj t
 obtain ⟨k, rfl⟩ := Int.eq_ofNat_of_zero_le (show 0 ≤ k by omega)
 obtain ⟨m, rfl⟩ := Int.eq_ofNat_of_zero_le m0
 obtain ⟨f, rfl⟩ := Int.eq_ofNat_of_zero_le f0
 obtain ⟨d, rfl⟩ := Int.eq_ofNat_of_zero_le d0
 rw [str_size] at hx ht
 have hk' : k < 256 := by omega
 have hm' : m < 256 := by omega
 have hf' : f < 256 := by omega
 have hd' : d < 65536 := by omega
 obtain ⟨⟨ua, un, uc⟩, ⟨ba, bn, bc'⟩⟩ := p
 obtain ⟨hs1, hs2⟩ := hs
 have hun : u.length = un := hs1.1
 have hbn : b.length = bn := hs2.1
 have hul : un ≤ 6 := by omega
 have hbl : bn ≤ 600 := by omega
 obtain ⟨X, hX⟩ : ∃ X, X = (((((tx ++ [tt.length]) ++ tt) ++ [un]) ++ uiB u) ++ [m, f]) ++ twoB d ++ twoB bn ++ b := ⟨_, rfl⟩
 have HIN : Hid (inB ⟨(k : Int), str tx, str tt, u, (m : Int), (f : Int), (d : Int), b⟩ = [k, tx.length] ++ X) := by
  show _ = _
  rw [hX]
  simp only [inB, enB, str_size, txB_str hBx, txB_str hBt, hun, hbn, Int.toNat_natCast, List.append_assoc, List.cons_append, List.nil_append]
 have HPK : Hid (pkO ⟨(k : Int), str tx, str tt, u, (m : Int), (f : Int), (d : Int), b⟩ = (twoB (([k, tx.length] ++ X).length + 4) ++ ([k, tx.length] ++ X)) ++ twoB (smJ 1 (twoB (([k, tx.length] ++ X).length + 4) ++ ([k, tx.length] ++ X)))) := by
  show _ = _
  unfold pkO hdB
  rw [HIN.out]
 have HBH : Hid (IsB (twoB (([k, tx.length] ++ X).length + 4) ++ ([k, tx.length] ++ X))) := by
  have := HBH.out
  unfold hdB at this
  rw [HIN.out] at this
  exact this
 have HLX : Hid (X.length ≤ 636) := by
  show _ ≤ _
  rw [hX]
  simp only [List.length_append, uiB_len, hun, hbn, twoB, List.length_cons, List.length_nil]
  omega
 have HX : Hid (X = (((((tx ++ [tt.length]) ++ tt) ++ [un]) ++ uiB u) ++ [m, f]) ++ twoB d ++ twoB bn ++ b) := hX
 clear hX HIN
 generalize pkO ⟨(k : Int), str tx, str tt, u, (m : Int), (f : Int), (d : Int), b⟩ = PK at *
 have HQ : Hid (∀ wr, Below w.heap.size w wr → Qo wr R ⟨.int .i64 (k : Int), .string (str tx), .string (str tt), .slice ua un uc, .int .i64 (m : Int), .int .i64 (f : Int), .int .i64 (d : Int), .slice ba bn bc'⟩ ∧ RdI wr ua u ∧ Rd wr ba b) := fun wr hb => ⟨hq.below hb hq.lt, hs1.2.2.2.1.below hb, hs2.2.2.2.2.1.below hb⟩
 have HUL : Hid (u.length = un) := hun
 have HBL : Hid (b.length = bn) := hbn
 have HV : Hid (∀ z ∈ u, 1 ≤ z ∧ z ≤ 999) := hv
 have HB0 : Hid (ba = none → bn = 0) := fun h => by
  rcases hs2.2.2.2.2.1 with h' | ⟨_, _, h', _⟩
  ·rw [← hbn, show b = [] from h']; rfl
  ·rw [show ba = none from h] at h'; cases h'
 have hsx : (str tx).size = tx.length := str_size tx
 have hst : (str tt).size = tt.length := str_size tt
 have hwk : IntKind.u8.wrap (k : Int) = (k : Int) := by rw [IntKind.wrap_u8]; omega
 have hwx : IntKind.u8.wrap (tx.length : Int) = (tx.length : Int) := by rw [IntKind.wrap_u8]; omega
 have hwt : IntKind.u8.wrap (tt.length : Int) = (tt.length : Int) := by rw [IntKind.wrap_u8]; omega
 have hwm : IntKind.u8.wrap (m : Int) = (m : Int) := by rw [IntKind.wrap_u8]; omega
 have hwf : IntKind.u8.wrap (f : Int) = (f : Int) := by rw [IntKind.wrap_u8]; omega
 have HBx : Below w.heap.size w w.drew := (Below.refl _ _).drew
 clear hv hun hbn hs1 hs2
 go_enter Tryd.func23, Tryd.ntmps23
 go_wp2_with fail
 refine wp_region_held_drew (S := fun w' => Qo w' R ⟨.int .i64 (k : Int), .string (str tx), .string (str tt), .slice ua un uc, .int .i64 (m : Int), .int .i64 (f : Int), .int .i64 (d : Int), .slice ba bn bc'⟩) (by kernel_rfl) ?hS1 (fun hHeld => ?_)
 case hS1 => exact hq
 generalize w.drew = x0 at *
 refine wpAnyH_take (i := 0) (v := ?_) rfl (by kernel_rfl) (by kernel_rfl) (by kernel_rfl) (fun _ _ _ h => h) (Or.inl ⟨by rfl, ?hy2⟩) (by assumption) ?ty2
 case hy2 => (intro w5 hSw; (try dsimp only at hSw); obtain ⟨e0, e1, e2, e3, e4, e5, e6, e7⟩ := hSw; dsimp only at e0 e1 e2 e3 e4 e5 e6 e7; go_simp; all_goals with_reducible rfl)
 simp only [Act.put, List.getElem_toArray, List.getElem_cons_zero, List.setIfInBounds_toArray, List.set_cons_zero, List.set_cons_succ]
 refine wpAnyH_take (i := 1) (v := ?_) rfl (by kernel_rfl) (by kernel_rfl) (by kernel_rfl) (fun _ _ _ h => h) (Or.inl ⟨by rfl, ?hy3⟩) (by assumption) ?ty3
 case hy3 => (intro w5 hSw; (try dsimp only at hSw); obtain ⟨e0, e1, e2, e3, e4, e5, e6, e7⟩ := hSw; dsimp only at e0 e1 e2 e3 e4 e5 e6 e7; go_simp; all_goals with_reducible rfl)
 simp only [Act.put, List.getElem_toArray, List.getElem_cons_zero, List.getElem_cons_succ, List.setIfInBounds_toArray, List.set_cons_zero, List.set_cons_succ]
 refine wpAnyH_take (i := 2) (v := ?_) rfl (by kernel_rfl) (by kernel_rfl) (by kernel_rfl) (fun _ _ _ h => h) (Or.inl ⟨by rfl, ?hy4⟩) (by assumption) ?ty4
 case hy4 => (intro w5 hSw; (try dsimp only at hSw); obtain ⟨e0, e1, e2, e3, e4, e5, e6, e7⟩ := hSw; dsimp only at e0 e1 e2 e3 e4 e5 e6 e7; go_simp; all_goals with_reducible rfl)
 simp only [Act.put, List.getElem_toArray, List.getElem_cons_zero, List.getElem_cons_succ, List.setIfInBounds_toArray, List.set_cons_zero, List.set_cons_succ]
 refine wpAnyH_take (i := 3) (v := ?_) rfl (by kernel_rfl) (by kernel_rfl) (by kernel_rfl) (fun _ _ _ h => h) (Or.inl ⟨by rfl, ?hy5⟩) (by assumption) ?ty5
 case hy5 => (intro w5 hSw; (try dsimp only at hSw); obtain ⟨e0, e1, e2, e3, e4, e5, e6, e7⟩ := hSw; dsimp only at e0 e1 e2 e3 e4 e5 e6 e7; go_simp; all_goals with_reducible rfl)
 simp only [Act.put, List.getElem_toArray, List.getElem_cons_zero, List.getElem_cons_succ, List.setIfInBounds_toArray, List.set_cons_zero, List.set_cons_succ]
 refine wpAnyH_take (i := 4) (v := .int .u8 (k : Int)) rfl (by kernel_rfl) (by kernel_rfl) (by kernel_rfl) (fun _ _ _ h => h) (Or.inl ⟨by rfl, ?hy6⟩) (by assumption) ?ty6
 case hy6 => (intro w5 hSw; (try dsimp only at hSw); obtain ⟨e0, e1, e2, e3, e4, e5, e6, e7⟩ := hSw; dsimp only at e0 e1 e2 e3 e4 e5 e6 e7; go_simp; all_goals (simp [hwk]))
 simp only [Act.put, List.getElem_toArray, List.getElem_cons_zero, List.getElem_cons_succ, List.setIfInBounds_toArray, List.set_cons_zero, List.set_cons_succ]
 refine wpAnyH_take (i := 5) (v := ?_) rfl (by kernel_rfl) (by kernel_rfl) (by kernel_rfl) (fun _ _ _ h => h) (Or.inl ⟨by rfl, ?hy7⟩) (by assumption) ?ty7
 case hy7 => (intro w5 hSw; (try dsimp only at hSw); obtain ⟨e0, e1, e2, e3, e4, e5, e6, e7⟩ := hSw; dsimp only at e0 e1 e2 e3 e4 e5 e6 e7; go_simp; all_goals with_reducible rfl)
 simp only [Act.put, List.getElem_toArray, List.getElem_cons_zero, List.getElem_cons_succ, List.setIfInBounds_toArray, List.set_cons_zero, List.set_cons_succ]
 refine wpAnyH_take (i := 6) (v := ?_) rfl (by kernel_rfl) (by kernel_rfl) (by kernel_rfl) (fun _ _ _ h => h) (Or.inl ⟨by rfl, ?hy8⟩) (by assumption) ?ty8
 case hy8 => (intro w5 hSw; (try dsimp only at hSw); obtain ⟨e0, e1, e2, e3, e4, e5, e6, e7⟩ := hSw; dsimp only at e0 e1 e2 e3 e4 e5 e6 e7; go_simp; all_goals with_reducible rfl)
 simp only [Act.put, List.getElem_toArray, List.getElem_cons_zero, List.getElem_cons_succ, List.setIfInBounds_toArray, List.set_cons_zero, List.set_cons_succ]
 refine wpAnyH_take (i := 7) (v := ?_) rfl (by kernel_rfl) (by kernel_rfl) (by kernel_rfl) (fun _ _ _ h => h) (Or.inl ⟨by rfl, ?hy9⟩) (by assumption) ?ty9
 case hy9 => (intro w5 hSw; (try dsimp only at hSw); obtain ⟨e0, e1, e2, e3, e4, e5, e6, e7⟩ := hSw; dsimp only at e0 e1 e2 e3 e4 e5 e6 e7; go_simp; all_goals with_reducible rfl)
 simp only [Act.put, List.getElem_toArray, List.getElem_cons_zero, List.getElem_cons_succ, List.setIfInBounds_toArray, List.set_cons_zero, List.set_cons_succ]
 refine wpAnyH_take (i := 8) (v := ?_) rfl (by kernel_rfl) (by kernel_rfl) (by kernel_rfl) (fun _ _ _ h => h) (Or.inl ⟨by rfl, ?hy10⟩) (by assumption) ?ty10
 case hy10 => (intro w5 hSw; (try dsimp only at hSw); obtain ⟨e0, e1, e2, e3, e4, e5, e6, e7⟩ := hSw; dsimp only at e0 e1 e2 e3 e4 e5 e6 e7; go_simp; all_goals with_reducible rfl)
 simp only [Act.put, List.getElem_toArray, List.getElem_cons_zero, List.getElem_cons_succ, List.setIfInBounds_toArray, List.set_cons_zero, List.set_cons_succ]
 refine wpAnyH_take (i := 9) (v := .int .i64 (tx.length : Int)) rfl (by kernel_rfl) (by kernel_rfl) (by kernel_rfl) (fun _ _ _ h => h) (Or.inl ⟨by rfl, ?hy11⟩) (by assumption) ?ty11
 case hy11 => (intro w5 hSw; (try dsimp only at hSw); obtain ⟨e0, e1, e2, e3, e4, e5, e6, e7⟩ := hSw; dsimp only at e0 e1 e2 e3 e4 e5 e6 e7; go_simp; first | (simp; done) | (all_goals with_reducible rfl))
 simp only [Act.put, List.getElem_toArray, List.getElem_cons_zero, List.getElem_cons_succ, List.setIfInBounds_toArray, List.set_cons_zero, List.set_cons_succ]
 refine wpAnyH_take (i := 10) (v := .int .u8 (tx.length : Int)) rfl (by kernel_rfl) (by kernel_rfl) (by kernel_rfl) (fun _ _ _ h => h) (Or.inl ⟨by rfl, ?hy12⟩) (by assumption) ?ty12
 case hy12 => (intro w5 hSw; (try dsimp only at hSw); obtain ⟨e0, e1, e2, e3, e4, e5, e6, e7⟩ := hSw; dsimp only at e0 e1 e2 e3 e4 e5 e6 e7; go_simp; all_goals (simp [hwx]))
 simp only [Act.put, List.getElem_toArray, List.getElem_cons_zero, List.getElem_cons_succ, List.setIfInBounds_toArray, List.set_cons_zero, List.set_cons_succ]
 refine wpAnyH_ready (rs := [11]) (by kernel_rfl) (by simp) ?_
 refine AllReadyH.cons rfl (fun K hK => ?_) AllReadyH.nil
 have hy1 : Below x0.heap.size x0 (x0.alloc (.cells #[.int .u8 0, .int .u8 0, .int .u8 (k : Int), .int .u8 (tx.length : Int)] 5)) := (Below.refl _ _).alloc (Nat.le_refl _) _
 have hG1 : Gr (x0.alloc (.cells #[.int .u8 0, .int .u8 0, .int .u8 (k : Int), .int .u8 (tx.length : Int)] 5)) w.heap.size (.slice (some ⟨x0.heap.size, 0, none⟩) 4 4) [0, 0, k, tx.length] := Gr.own (Own.lit x0 w.heap.size HBx.size #[.int .u8 0, .int .u8 0, .int .u8 (k : Int), .int .u8 (tx.length : Int)] [0, 0, k, tx.length] rfl (by unfold maxLen; simp)) (by simp)
 go_simp
 generalize x0.alloc (.cells #[.int .u8 0, .int .u8 0, .int .u8 (k : Int), .int .u8 (tx.length : Int)] 5) = y0 at *
 have HB1 : Below w.heap.size w y0 := HBx.trans (hy1.mono HBx.size)
 refine hK.out _ _ (HQ.out _ HB1).1 (fun hHeld => ?_)
 clear hK K
 refine wpAnyH_take (i := 12) (v := ?_) rfl (by kernel_rfl) (by kernel_rfl) (by kernel_rfl) (fun _ _ _ h => h) (Or.inl ⟨by rfl, ?hy13⟩) (by assumption) ?ty13
 case hy13 => (intro w5 hSw; (try dsimp only at hSw); obtain ⟨e0, e1, e2, e3, e4, e5, e6, e7⟩ := hSw; dsimp only at e0 e1 e2 e3 e4 e5 e6 e7; go_simp; all_goals with_reducible rfl)
 simp only [Act.put, List.getElem_toArray, List.getElem_cons_zero, List.getElem_cons_succ, List.setIfInBounds_toArray, List.set_cons_zero, List.set_cons_succ]
 refine wpAnyH_done (by kernel_rfl) ?_ _
 clear hHeld hy1
 generalize (Value.slice (some ⟨x0.heap.size, 0, none⟩) 4 4) = v1 at *
 clear HBx
 have ln0 : [0, 0, k, tx.length].length ≤ 4 := by simp
 go_wp2_with fail
 refine wp_meetJ [3, 17, 18, 19, 20, 21, 22, 23, 24, 25, 26, 27, 28, 29, 30, 31, 32, 33, 34, 35, 36, 37] (fun vs w' => Gr w' w.heap.size (vs.getD 0 undef) ((([0, 0, k, tx.length] ++ tx) ++ [tt.length]) ++ tt) ∧ Below w.heap.size w w') ?hm2 (fun vs W hlv hR => ?_)
 case hm2 =>
  refine wp_region_held_drew (S := fun w' => Qo w' R ⟨.int .i64 (k : Int), .string (str tx), .string (str tt), .slice ua un uc, .int .i64 (m : Int), .int .i64 (f : Int), .int .i64 (d : Int), .slice ba bn bc'⟩) (by kernel_rfl) ?hS14 (fun hHeld => ?_)
  case hS14 => exact (HQ.out _ HB1).1
  have HBy : Below w.heap.size w y0.drew := HB1.drew
  have hGy : Gr y0.drew w.heap.size v1 [0, 0, k, tx.length] := hG1.drew
  generalize y0.drew = z0 at *
  refine wpAnyH_take (i := 0) (v := ?_) rfl (by kernel_rfl) (by kernel_rfl) (by kernel_rfl) (fun _ _ _ h => absurd h.1 (fun e => by cases e)) (Or.inl ⟨by rfl, ?hy15⟩) (by assumption) ?ty15
  case hy15 => (intro w5 hSw; (try dsimp only at hSw); obtain ⟨e0, e1, e2, e3, e4, e5, e6, e7⟩ := hSw; dsimp only at e0 e1 e2 e3 e4 e5 e6 e7; go_simp; all_goals with_reducible rfl)
  simp only [Act.put, List.getElem_toArray, List.getElem_cons_zero, List.setIfInBounds_toArray, List.set_cons_zero, List.set_cons_succ]
  refine wpAnyH_take (i := 1) (v := ?_) rfl (by kernel_rfl) (by kernel_rfl) (by kernel_rfl) (fun _ _ _ h => absurd h.1 (fun e => by cases e)) (Or.inl ⟨by rfl, ?hy16⟩) (by assumption) ?ty16
  case hy16 => (intro w5 hSw; (try dsimp only at hSw); obtain ⟨e0, e1, e2, e3, e4, e5, e6, e7⟩ := hSw; dsimp only at e0 e1 e2 e3 e4 e5 e6 e7; go_simp; all_goals with_reducible rfl)
  simp only [Act.put, List.getElem_toArray, List.getElem_cons_zero, List.getElem_cons_succ, List.setIfInBounds_toArray, List.set_cons_zero, List.set_cons_succ]
  refine wpAnyH_take (i := 2) (v := ?_) rfl (by kernel_rfl) (by kernel_rfl) (by kernel_rfl) (fun _ _ _ h => absurd h.1 (fun e => by cases e)) (Or.inl ⟨by rfl, ?hy17⟩) (by assumption) ?ty17
  case hy17 => (intro w5 hSw; (try dsimp only at hSw); obtain ⟨e0, e1, e2, e3, e4, e5, e6, e7⟩ := hSw; dsimp only at e0 e1 e2 e3 e4 e5 e6 e7; go_simp; all_goals with_reducible rfl)
  simp only [Act.put, List.getElem_toArray, List.getElem_cons_zero, List.getElem_cons_succ, List.setIfInBounds_toArray, List.set_cons_zero, List.set_cons_succ]
  refine wpAnyH_take (i := 3) (v := ?_) rfl (by kernel_rfl) (by kernel_rfl) (by kernel_rfl) (fun _ _ _ h => absurd h.1 (fun e => by cases e)) (Or.inl ⟨by rfl, ?hy18⟩) (by assumption) ?ty18
  case hy18 => (intro w5 hSw; (try dsimp only at hSw); obtain ⟨e0, e1, e2, e3, e4, e5, e6, e7⟩ := hSw; dsimp only at e0 e1 e2 e3 e4 e5 e6 e7; go_simp; all_goals with_reducible rfl)
  simp only [Act.put, List.getElem_toArray, List.getElem_cons_zero, List.getElem_cons_succ, List.setIfInBounds_toArray, List.set_cons_zero, List.set_cons_succ]
  refine wpAnyH_take (i := 4) (v := ?_) rfl (by kernel_rfl) (by kernel_rfl) (by kernel_rfl) (fun _ _ _ h => absurd h.1 (fun e => by cases e)) (Or.inl ⟨by rfl, ?hy19⟩) (by assumption) ?ty19
  case hy19 => (intro w5 hSw; (try dsimp only at hSw); obtain ⟨e0, e1, e2, e3, e4, e5, e6, e7⟩ := hSw; dsimp only at e0 e1 e2 e3 e4 e5 e6 e7; go_simp; all_goals with_reducible rfl)
  simp only [Act.put, List.getElem_toArray, List.getElem_cons_zero, List.getElem_cons_succ, List.setIfInBounds_toArray, List.set_cons_zero, List.set_cons_succ]
  refine wpAnyH_take (i := 7) (v := ?_) rfl (by kernel_rfl) (by kernel_rfl) (by kernel_rfl) (fun _ _ _ h => absurd h.1 (fun e => by cases e)) (Or.inl ⟨by rfl, ?hy20⟩) (by assumption) ?ty20
  case hy20 => (intro w5 hSw; (try dsimp only at hSw); obtain ⟨e0, e1, e2, e3, e4, e5, e6, e7⟩ := hSw; dsimp only at e0 e1 e2 e3 e4 e5 e6 e7; go_simp; all_goals with_reducible rfl)
  simp only [Act.put, List.getElem_toArray, List.getElem_cons_zero, List.getElem_cons_succ, List.setIfInBounds_toArray, List.set_cons_zero, List.set_cons_succ]
  refine wpAnyH_take (i := 8) (v := ?_) rfl (by kernel_rfl) (by kernel_rfl) (by kernel_rfl) (fun _ _ _ h => absurd h.1 (fun e => by cases e)) (Or.inl ⟨by rfl, ?hy21⟩) (by assumption) ?ty21
  case hy21 => (intro w5 hSw; (try dsimp only at hSw); obtain ⟨e0, e1, e2, e3, e4, e5, e6, e7⟩ := hSw; dsimp only at e0 e1 e2 e3 e4 e5 e6 e7; go_simp; all_goals with_reducible rfl)
  simp only [Act.put, List.getElem_toArray, List.getElem_cons_zero, List.getElem_cons_succ, List.setIfInBounds_toArray, List.set_cons_zero, List.set_cons_succ]
  refine wpAnyH_take (i := 9) (v := ?_) rfl (by kernel_rfl) (by kernel_rfl) (by kernel_rfl) (fun _ _ _ h => absurd h.1 (fun e => by cases e)) (Or.inl ⟨by rfl, ?hy22⟩) (by assumption) ?ty22
  case hy22 => (intro w5 hSw; (try dsimp only at hSw); obtain ⟨e0, e1, e2, e3, e4, e5, e6, e7⟩ := hSw; dsimp only at e0 e1 e2 e3 e4 e5 e6 e7; go_simp; all_goals with_reducible rfl)
  simp only [Act.put, List.getElem_toArray, List.getElem_cons_zero, List.getElem_cons_succ, List.setIfInBounds_toArray, List.set_cons_zero, List.set_cons_succ]
  refine wpAnyH_take (i := 10) (v := ?_) rfl (by kernel_rfl) (by kernel_rfl) (by kernel_rfl) (fun _ _ _ h => absurd h.1 (fun e => by cases e)) (Or.inl ⟨by rfl, ?hy23⟩) (by assumption) ?ty23
  case hy23 => (intro w5 hSw; (try dsimp only at hSw); obtain ⟨e0, e1, e2, e3, e4, e5, e6, e7⟩ := hSw; dsimp only at e0 e1 e2 e3 e4 e5 e6 e7; go_simp; all_goals with_reducible rfl)
  simp only [Act.put, List.getElem_toArray, List.getElem_cons_zero, List.getElem_cons_succ, List.setIfInBounds_toArray, List.set_cons_zero, List.set_cons_succ]
  refine wpAnyH_take (i := 11) (v := .int .i64 (tt.length : Int)) rfl (by kernel_rfl) (by kernel_rfl) (by kernel_rfl) (fun _ _ _ h => absurd h.1 (fun e => by cases e)) (Or.inl ⟨by rfl, ?hy24⟩) (by assumption) ?ty24
  case hy24 => (intro w5 hSw; (try dsimp only at hSw); obtain ⟨e0, e1, e2, e3, e4, e5, e6, e7⟩ := hSw; dsimp only at e0 e1 e2 e3 e4 e5 e6 e7; go_simp; first | (simp; done) | (all_goals with_reducible rfl))
  simp only [Act.put, List.getElem_toArray, List.getElem_cons_zero, List.getElem_cons_succ, List.setIfInBounds_toArray, List.set_cons_zero, List.set_cons_succ]
  refine wpAnyH_take (i := 12) (v := .int .u8 (tt.length : Int)) rfl (by kernel_rfl) (by kernel_rfl) (by kernel_rfl) (fun _ _ _ h => absurd h.1 (fun e => by cases e)) (Or.inl ⟨by rfl, ?hy25⟩) (by assumption) ?ty25
  case hy25 => (intro w5 hSw; (try dsimp only at hSw); obtain ⟨e0, e1, e2, e3, e4, e5, e6, e7⟩ := hSw; dsimp only at e0 e1 e2 e3 e4 e5 e6 e7; go_simp; all_goals (simp [hwt]))
  simp only [Act.put, List.getElem_toArray, List.getElem_cons_zero, List.getElem_cons_succ, List.setIfInBounds_toArray, List.set_cons_zero, List.set_cons_succ]
  refine wpAnyH_take (i := 15) (v := ?_) rfl (by kernel_rfl) (by kernel_rfl) (by kernel_rfl) (fun _ _ _ h => absurd h.1 (fun e => by cases e)) (Or.inl ⟨by rfl, ?hy26⟩) (by assumption) ?ty26
  case hy26 => (intro w5 hSw; (try dsimp only at hSw); obtain ⟨e0, e1, e2, e3, e4, e5, e6, e7⟩ := hSw; dsimp only at e0 e1 e2 e3 e4 e5 e6 e7; go_simp; all_goals with_reducible rfl)
  simp only [Act.put, List.getElem_toArray, List.getElem_cons_zero, List.getElem_cons_succ, List.setIfInBounds_toArray, List.set_cons_zero, List.set_cons_succ]
  refine wpAnyH_take (i := 16) (v := ?_) rfl (by kernel_rfl) (by kernel_rfl) (by kernel_rfl) (fun _ _ _ h => absurd h.1 (fun e => by cases e)) (Or.inl ⟨by rfl, ?hy27⟩) (by assumption) ?ty27
  case hy27 => (intro w5 hSw; (try dsimp only at hSw); obtain ⟨e0, e1, e2, e3, e4, e5, e6, e7⟩ := hSw; dsimp only at e0 e1 e2 e3 e4 e5 e6 e7; go_simp; all_goals with_reducible rfl)
  simp only [Act.put, List.getElem_toArray, List.getElem_cons_zero, List.getElem_cons_succ, List.setIfInBounds_toArray, List.set_cons_zero, List.set_cons_succ]
  refine wpAnyH_take (i := 17) (v := ?_) rfl (by kernel_rfl) (by kernel_rfl) (by kernel_rfl) (fun _ _ _ h => absurd h.1 (fun e => by cases e)) (Or.inl ⟨by rfl, ?hy28⟩) (by assumption) ?ty28
  case hy28 => (intro w5 hSw; (try dsimp only at hSw); obtain ⟨e0, e1, e2, e3, e4, e5, e6, e7⟩ := hSw; dsimp only at e0 e1 e2 e3 e4 e5 e6 e7; go_simp; all_goals with_reducible rfl)
  simp only [Act.put, List.getElem_toArray, List.getElem_cons_zero, List.getElem_cons_succ, List.setIfInBounds_toArray, List.set_cons_zero, List.set_cons_succ]
  refine wpAnyH_take (i := 18) (v := ?_) rfl (by kernel_rfl) (by kernel_rfl) (by kernel_rfl) (fun _ _ _ h => absurd h.1 (fun e => by cases e)) (Or.inl ⟨by rfl, ?hy29⟩) (by assumption) ?ty29
  case hy29 => (intro w5 hSw; (try dsimp only at hSw); obtain ⟨e0, e1, e2, e3, e4, e5, e6, e7⟩ := hSw; dsimp only at e0 e1 e2 e3 e4 e5 e6 e7; go_simp; all_goals with_reducible rfl)
  simp only [Act.put, List.getElem_toArray, List.getElem_cons_zero, List.getElem_cons_succ, List.setIfInBounds_toArray, List.set_cons_zero, List.set_cons_succ]
  refine wpAnyH_ready (rs := [5, 13, 19]) (by kernel_rfl) (by simp) ?_
  refine AllReadyH.cons rfl (fun K hK => ?_) (AllReadyH.cons rfl (fun K hK => ?_) (AllReadyH.cons rfl (fun K hK => ?_) AllReadyH.nil))
  ·refine step_conv rfl _ rfl tx hBx _ rfl (by rfl) (by omega) ?_
   intro cp1 y1 rdN1 hy1 hlt1
   have neN1 := hGy.ne (Nat.le_refl _)
   have HB1 : Below w.heap.size w y1 := HBy.trans (hy1.mono HBy.size)
   have hg1 := hGy.below hy1 (Nat.le_refl _)
   refine hK.out _ _ (HQ.out _ HB1).1 (fun hHeld => ?_)
   clear hK K
   refine wpAnyH_ready (rs := [6, 13, 19]) (by kernel_rfl) (by simp) ?_
   refine AllReadyH.cons rfl (fun K hK => ?_) (AllReadyH.cons rfl (fun K hK => ?_) (AllReadyH.cons rfl (fun K hK => ?_) AllReadyH.nil))
   ·refine step_app_grx rfl _ _ 22 rfl w.heap.size _ [0, 0, k, tx.length] (by rfl) hg1 _ _ tx (by rfl) (src_slice rfl rdN1 (fun h => by cases h)) rfl (by have := ln0; omega) HB1.size ?_
    intro v2 y2 hg2 hb2 hk2
    have HB2 : Below w.heap.size w y2 := HB1.trans hb2
    have ln2 : ([0, 0, k, tx.length] ++ tx).length ≤ 12 := by have := ln0; rw [List.length_append]; omega
    refine hK.out _ _ (HQ.out _ HB2).1 (fun hHeld => ?_)
    clear hK K
    refine wpAnyH_ready (rs := [13, 19]) (by kernel_rfl) (by simp) ?_
    refine AllReadyH.cons rfl (fun K hK => ?_) (AllReadyH.cons rfl (fun K hK => ?_) AllReadyH.nil)
    ·have hy3 : Below y2.heap.size y2 (y2.alloc (.cells #[.int .u8 (tt.length : Int)] 5)) := (Below.refl _ _).alloc (Nat.le_refl _) _
     have rdN3 : Rd (y2.alloc (.cells #[.int .u8 (tt.length : Int)] 5)) (some ⟨y2.heap.size, 0, none⟩) [tt.length] := rd_one y2 tt.length
     have hlt3 : y2.heap.size < (y2.alloc (.cells #[.int .u8 (tt.length : Int)] 5)).heap.size := by simp
     have neN3 := hg2.ne (Nat.le_refl _)
     go_simp
     generalize y2.alloc (.cells #[.int .u8 (tt.length : Int)] 5) = y3 at *
     have HB3 : Below w.heap.size w y3 := HB2.trans (hy3.mono HB2.size)
     have hg3 := hg2.below hy3 (Nat.le_refl _)
     refine hK.out _ _ (HQ.out _ HB3).1 (fun hHeld => ?_)
     clear hK K
     refine wpAnyH_ready (rs := [14, 19]) (by kernel_rfl) (by simp) ?_
     refine AllReadyH.cons rfl (fun K hK => ?_) (AllReadyH.cons rfl (fun K hK => ?_) AllReadyH.nil)
     ·refine step_app_grx rfl _ _ 22 rfl w.heap.size _ ([0, 0, k, tx.length] ++ tx) (by rfl) hg3 _ _ [tt.length] (by rfl) (src_slice rfl rdN3 (fun h => by cases h)) rfl (by have := ln2; simp only [List.length_cons, List.length_nil]; omega) HB3.size ?_
      intro v4 y4 hg4 hb4 hk4
      have HB4 : Below w.heap.size w y4 := HB3.trans hb4
      have ln4 : (([0, 0, k, tx.length] ++ tx) ++ [tt.length]).length ≤ 13 := by have := ln2; rw [List.length_append]; simp only [List.length_cons, List.length_nil]; omega
      refine hK.out _ _ (HQ.out _ HB4).1 (fun hHeld => ?_)
      clear hK K
      refine wpAnyH_ready (rs := [19]) (by kernel_rfl) (by simp) ?_
      refine AllReadyH.cons rfl (fun K hK => ?_) AllReadyH.nil
      refine step_conv rfl _ rfl tt hBt _ rfl (by rfl) (by omega) ?_
      intro cp5 y5 rdN5 hy5 hlt5
      have neN5 := hg4.ne (Nat.le_refl _)
      have HB5 : Below w.heap.size w y5 := HB4.trans (hy5.mono HB4.size)
      have hg5 := hg4.below hy5 (Nat.le_refl _)
      refine hK.out _ _ (HQ.out _ HB5).1 (fun hHeld => ?_)
      clear hK K
      refine wpAnyH_ready (rs := [20]) (by kernel_rfl) (by simp) ?_
      refine AllReadyH.cons rfl (fun K hK => ?_) AllReadyH.nil
      refine step_app_grx rfl _ _ 22 rfl w.heap.size _ (([0, 0, k, tx.length] ++ tx) ++ [tt.length]) (by rfl) hg5 _ _ tt (by rfl) (src_slice rfl rdN5 (fun h => by cases h)) rfl (by have := ln4; omega) HB5.size ?_
      intro v6 y6 hg6 hb6 hk6
      have HB6 : Below w.heap.size w y6 := HB5.trans hb6
      have ln6 : ((([0, 0, k, tx.length] ++ tx) ++ [tt.length]) ++ tt).length ≤ 21 := by have := ln4; rw [List.length_append]; omega
      refine hK.out _ _ (HQ.out _ HB6).1 (fun hHeld => ?_)
      clear hK K
      refine wpAnyH_take (i := 21) (v := ?_) rfl (by kernel_rfl) (by kernel_rfl) (by kernel_rfl) (fun _ _ _ h => absurd h.1 (fun e => by cases e)) (Or.inl ⟨by rfl, ?hy30⟩) (by assumption) ?ty30
      case hy30 => (intro w5 hSw; (try dsimp only at hSw); obtain ⟨e0, e1, e2, e3, e4, e5, e6, e7⟩ := hSw; dsimp only at e0 e1 e2 e3 e4 e5 e6 e7; go_simp; all_goals with_reducible rfl)
      simp only [Act.put, List.getElem_toArray, List.getElem_cons_zero, List.getElem_cons_succ, List.setIfInBounds_toArray, List.set_cons_zero, List.set_cons_succ]
      refine wpAnyH_done (by kernel_rfl) ?_ _
      exact ⟨rfl, ⟨hg6, HB6⟩, by kernel_rfl⟩
     ·refine step_conv rfl _ rfl tt hBt _ rfl (by rfl) (by omega) ?_
      intro cp7 y7 rdN7 hy7 hlt7
      have neN7 := hg3.ne (Nat.le_refl _)
      have HB7 : Below w.heap.size w y7 := HB3.trans (hy7.mono HB3.size)
      have hg7 := hg3.below hy7 (Nat.le_refl _)
      have rd137 := rdN3.below hy7
      have lt137 := Nat.lt_of_lt_of_le hlt3 hy7.size
      refine hK.out _ _ (HQ.out _ HB7).1 (fun hHeld => ?_)
      clear hK K
      refine wpAnyH_ready (rs := [14]) (by kernel_rfl) (by simp) ?_
      refine AllReadyH.cons rfl (fun K hK => ?_) AllReadyH.nil
      refine step_app_grx rfl _ _ 22 rfl w.heap.size _ ([0, 0, k, tx.length] ++ tx) (by rfl) hg7 _ _ [tt.length] (by rfl) (src_slice rfl rd137 (fun h => by cases h)) rfl (by have := ln2; simp only [List.length_cons, List.length_nil]; omega) HB7.size ?_
      intro v8 y8 hg8 hb8 hk8
      have HB8 : Below w.heap.size w y8 := HB7.trans hb8
      have ln8 : (([0, 0, k, tx.length] ++ tx) ++ [tt.length]).length ≤ 13 := by have := ln2; rw [List.length_append]; simp only [List.length_cons, List.length_nil]; omega
      have rd198 := hk8.1 _ _ _ hlt7 neN7 rdN7
      have ne198 := hk8.2 _ hlt7 neN7
      have lt198 := Nat.lt_of_lt_of_le hlt7 hb8.size
      refine hK.out _ _ (HQ.out _ HB8).1 (fun hHeld => ?_)
      clear hK K
      refine wpAnyH_ready (rs := [20]) (by kernel_rfl) (by simp) ?_
      refine AllReadyH.cons rfl (fun K hK => ?_) AllReadyH.nil
      refine step_app_grx rfl _ _ 22 rfl w.heap.size _ (([0, 0, k, tx.length] ++ tx) ++ [tt.length]) (by rfl) hg8 _ _ tt (by rfl) (src_slice rfl rd198 (fun h => by cases h)) rfl (by have := ln8; omega) HB8.size ?_
      intro v9 y9 hg9 hb9 hk9
      have HB9 : Below w.heap.size w y9 := HB8.trans hb9
      have ln9 : ((([0, 0, k, tx.length] ++ tx) ++ [tt.length]) ++ tt).length ≤ 21 := by have := ln8; rw [List.length_append]; omega
      refine hK.out _ _ (HQ.out _ HB9).1 (fun hHeld => ?_)
      clear hK K
      refine wpAnyH_take (i := 21) (v := ?_) rfl (by kernel_rfl) (by kernel_rfl) (by kernel_rfl) (fun _ _ _ h => absurd h.1 (fun e => by cases e)) (Or.inl ⟨by rfl, ?hy31⟩) (by assumption) ?ty31
      case hy31 => (intro w5 hSw; (try dsimp only at hSw); obtain ⟨e0, e1, e2, e3, e4, e5, e6, e7⟩ := hSw; dsimp only at e0 e1 e2 e3 e4 e5 e6 e7; go_simp; all_goals with_reducible rfl)
      simp only [Act.put, List.getElem_toArray, List.getElem_cons_zero, List.getElem_cons_succ, List.setIfInBounds_toArray, List.set_cons_zero, List.set_cons_succ]
      refine wpAnyH_done (by kernel_rfl) ?_ _
      exact ⟨rfl, ⟨hg9, HB9⟩, by kernel_rfl⟩
    ·refine step_conv rfl _ rfl tt hBt _ rfl (by rfl) (by omega) ?_
     intro cp10 y10 rdN10 hy10 hlt10
     have neN10 := hg2.ne (Nat.le_refl _)
     have HB10 : Below w.heap.size w y10 := HB2.trans (hy10.mono HB2.size)
     have hg10 := hg2.below hy10 (Nat.le_refl _)
     refine hK.out _ _ (HQ.out _ HB10).1 (fun hHeld => ?_)
     clear hK K
     refine wpAnyH_ready (rs := [13]) (by kernel_rfl) (by simp) ?_
     refine AllReadyH.cons rfl (fun K hK => ?_) AllReadyH.nil
     have hy11 : Below y10.heap.size y10 (y10.alloc (.cells #[.int .u8 (tt.length : Int)] 5)) := (Below.refl _ _).alloc (Nat.le_refl _) _
     have rdN11 : Rd (y10.alloc (.cells #[.int .u8 (tt.length : Int)] 5)) (some ⟨y10.heap.size, 0, none⟩) [tt.length] := rd_one y10 tt.length
     have hlt11 : y10.heap.size < (y10.alloc (.cells #[.int .u8 (tt.length : Int)] 5)).heap.size := by simp
     have neN11 := hg10.ne (Nat.le_refl _)
     go_simp
     generalize y10.alloc (.cells #[.int .u8 (tt.length : Int)] 5) = y11 at *
     have HB11 : Below w.heap.size w y11 := HB10.trans (hy11.mono HB10.size)
     have hg11 := hg10.below hy11 (Nat.le_refl _)
     have rd1911 := rdN10.below hy11
     have lt1911 := Nat.lt_of_lt_of_le hlt10 hy11.size
     refine hK.out _ _ (HQ.out _ HB11).1 (fun hHeld => ?_)
     clear hK K
     refine wpAnyH_ready (rs := [14]) (by kernel_rfl) (by simp) ?_
     refine AllReadyH.cons rfl (fun K hK => ?_) AllReadyH.nil
     refine step_app_grx rfl _ _ 22 rfl w.heap.size _ ([0, 0, k, tx.length] ++ tx) (by rfl) hg11 _ _ [tt.length] (by rfl) (src_slice rfl rdN11 (fun h => by cases h)) rfl (by have := ln2; simp only [List.length_cons, List.length_nil]; omega) HB11.size ?_
     intro v12 y12 hg12 hb12 hk12
     have HB12 : Below w.heap.size w y12 := HB11.trans hb12
     have ln12 : (([0, 0, k, tx.length] ++ tx) ++ [tt.length]).length ≤ 13 := by have := ln2; rw [List.length_append]; simp only [List.length_cons, List.length_nil]; omega
     have rd1912 := hk12.1 _ _ _ lt1911 neN10 rd1911
     have ne1912 := hk12.2 _ lt1911 neN10
     have lt1912 := Nat.lt_of_lt_of_le lt1911 hb12.size
     refine hK.out _ _ (HQ.out _ HB12).1 (fun hHeld => ?_)
     clear hK K
     refine wpAnyH_ready (rs := [20]) (by kernel_rfl) (by simp) ?_
     refine AllReadyH.cons rfl (fun K hK => ?_) AllReadyH.nil
     refine step_app_grx rfl _ _ 22 rfl w.heap.size _ (([0, 0, k, tx.length] ++ tx) ++ [tt.length]) (by rfl) hg12 _ _ tt (by rfl) (src_slice rfl rd1912 (fun h => by cases h)) rfl (by have := ln12; omega) HB12.size ?_
     intro v13 y13 hg13 hb13 hk13
     have HB13 : Below w.heap.size w y13 := HB12.trans hb13
     have ln13 : ((([0, 0, k, tx.length] ++ tx) ++ [tt.length]) ++ tt).length ≤ 21 := by have := ln12; rw [List.length_append]; omega
     refine hK.out _ _ (HQ.out _ HB13).1 (fun hHeld => ?_)
     clear hK K
     refine wpAnyH_take (i := 21) (v := ?_) rfl (by kernel_rfl) (by kernel_rfl) (by kernel_rfl) (fun _ _ _ h => absurd h.1 (fun e => by cases e)) (Or.inl ⟨by rfl, ?hy32⟩) (by assumption) ?ty32
     case hy32 => (intro w5 hSw; (try dsimp only at hSw); obtain ⟨e0, e1, e2, e3, e4, e5, e6, e7⟩ := hSw; dsimp only at e0 e1 e2 e3 e4 e5 e6 e7; go_simp; all_goals with_reducible rfl)
     simp only [Act.put, List.getElem_toArray, List.getElem_cons_zero, List.getElem_cons_succ, List.setIfInBounds_toArray, List.set_cons_zero, List.set_cons_succ]
     refine wpAnyH_done (by kernel_rfl) ?_ _
     exact ⟨rfl, ⟨hg13, HB13⟩, by kernel_rfl⟩
   ·have hy14 : Below y1.heap.size y1 (y1.alloc (.cells #[.int .u8 (tt.length : Int)] 5)) := (Below.refl _ _).alloc (Nat.le_refl _) _
    have rdN14 : Rd (y1.alloc (.cells #[.int .u8 (tt.length : Int)] 5)) (some ⟨y1.heap.size, 0, none⟩) [tt.length] := rd_one y1 tt.length
    have hlt14 : y1.heap.size < (y1.alloc (.cells #[.int .u8 (tt.length : Int)] 5)).heap.size := by simp
    have neN14 := hg1.ne (Nat.le_refl _)
    go_simp
    generalize y1.alloc (.cells #[.int .u8 (tt.length : Int)] 5) = y14 at *
    have HB14 : Below w.heap.size w y14 := HB1.trans (hy14.mono HB1.size)
    have hg14 := hg1.below hy14 (Nat.le_refl _)
    have rd514 := rdN1.below hy14
    have lt514 := Nat.lt_of_lt_of_le hlt1 hy14.size
    refine hK.out _ _ (HQ.out _ HB14).1 (fun hHeld => ?_)
    clear hK K
    refine wpAnyH_ready (rs := [6, 19]) (by kernel_rfl) (by simp) ?_
    refine AllReadyH.cons rfl (fun K hK => ?_) (AllReadyH.cons rfl (fun K hK => ?_) AllReadyH.nil)
    ·refine step_app_grx rfl _ _ 22 rfl w.heap.size _ [0, 0, k, tx.length] (by rfl) hg14 _ _ tx (by rfl) (src_slice rfl rd514 (fun h => by cases h)) rfl (by have := ln0; omega) HB14.size ?_
     intro v15 y15 hg15 hb15 hk15
     have HB15 : Below w.heap.size w y15 := HB14.trans hb15
     have ln15 : ([0, 0, k, tx.length] ++ tx).length ≤ 12 := by have := ln0; rw [List.length_append]; omega
     have rd1315 := hk15.1 _ _ _ hlt14 neN14 rdN14
     have ne1315 := hk15.2 _ hlt14 neN14
     have lt1315 := Nat.lt_of_lt_of_le hlt14 hb15.size
     refine hK.out _ _ (HQ.out _ HB15).1 (fun hHeld => ?_)
     clear hK K
     refine wpAnyH_ready (rs := [14, 19]) (by kernel_rfl) (by simp) ?_
     refine AllReadyH.cons rfl (fun K hK => ?_) (AllReadyH.cons rfl (fun K hK => ?_) AllReadyH.nil)
     ·refine step_app_grx rfl _ _ 22 rfl w.heap.size _ ([0, 0, k, tx.length] ++ tx) (by rfl) hg15 _ _ [tt.length] (by rfl) (src_slice rfl rd1315 (fun h => by cases h)) rfl (by have := ln15; simp only [List.length_cons, List.length_nil]; omega) HB15.size ?_
      intro v16 y16 hg16 hb16 hk16
      have HB16 : Below w.heap.size w y16 := HB15.trans hb16
      have ln16 : (([0, 0, k, tx.length] ++ tx) ++ [tt.length]).length ≤ 13 := by have := ln15; rw [List.length_append]; simp only [List.length_cons, List.length_nil]; omega
      refine hK.out _ _ (HQ.out _ HB16).1 (fun hHeld => ?_)
      clear hK K
      refine wpAnyH_ready (rs := [19]) (by kernel_rfl) (by simp) ?_
      refine AllReadyH.cons rfl (fun K hK => ?_) AllReadyH.nil
      refine step_conv rfl _ rfl tt hBt _ rfl (by rfl) (by omega) ?_
      intro cp17 y17 rdN17 hy17 hlt17
      have neN17 := hg16.ne (Nat.le_refl _)
      have HB17 : Below w.heap.size w y17 := HB16.trans (hy17.mono HB16.size)
      have hg17 := hg16.below hy17 (Nat.le_refl _)
      refine hK.out _ _ (HQ.out _ HB17).1 (fun hHeld => ?_)
      clear hK K
      refine wpAnyH_ready (rs := [20]) (by kernel_rfl) (by simp) ?_
      refine AllReadyH.cons rfl (fun K hK => ?_) AllReadyH.nil
      refine step_app_grx rfl _ _ 22 rfl w.heap.size _ (([0, 0, k, tx.length] ++ tx) ++ [tt.length]) (by rfl) hg17 _ _ tt (by rfl) (src_slice rfl rdN17 (fun h => by cases h)) rfl (by have := ln16; omega) HB17.size ?_
      intro v18 y18 hg18 hb18 hk18
      have HB18 : Below w.heap.size w y18 := HB17.trans hb18
      have ln18 : ((([0, 0, k, tx.length] ++ tx) ++ [tt.length]) ++ tt).length ≤ 21 := by have := ln16; rw [List.length_append]; omega
      refine hK.out _ _ (HQ.out _ HB18).1 (fun hHeld => ?_)
      clear hK K
      refine wpAnyH_take (i := 21) (v := ?_) rfl (by kernel_rfl) (by kernel_rfl) (by kernel_rfl) (fun _ _ _ h => absurd h.1 (fun e => by cases e)) (Or.inl ⟨by rfl, ?hy33⟩) (by assumption) ?ty33
      case hy33 => (intro w5 hSw; (try dsimp only at hSw); obtain ⟨e0, e1, e2, e3, e4, e5, e6, e7⟩ := hSw; dsimp only at e0 e1 e2 e3 e4 e5 e6 e7; go_simp; all_goals with_reducible rfl)
      simp only [Act.put, List.getElem_toArray, List.getElem_cons_zero, List.getElem_cons_succ, List.setIfInBounds_toArray, List.set_cons_zero, List.set_cons_succ]
      refine wpAnyH_done (by kernel_rfl) ?_ _
      exact ⟨rfl, ⟨hg18, HB18⟩, by kernel_rfl⟩
     ·refine step_conv rfl _ rfl tt hBt _ rfl (by rfl) (by omega) ?_
      intro cp19 y19 rdN19 hy19 hlt19
      have neN19 := hg15.ne (Nat.le_refl _)
      have HB19 : Below w.heap.size w y19 := HB15.trans (hy19.mono HB15.size)
      have hg19 := hg15.below hy19 (Nat.le_refl _)
      have rd1319 := rd1315.below hy19
      have lt1319 := Nat.lt_of_lt_of_le lt1315 hy19.size
      refine hK.out _ _ (HQ.out _ HB19).1 (fun hHeld => ?_)
      clear hK K
      refine wpAnyH_ready (rs := [14]) (by kernel_rfl) (by simp) ?_
      refine AllReadyH.cons rfl (fun K hK => ?_) AllReadyH.nil
      refine step_app_grx rfl _ _ 22 rfl w.heap.size _ ([0, 0, k, tx.length] ++ tx) (by rfl) hg19 _ _ [tt.length] (by rfl) (src_slice rfl rd1319 (fun h => by cases h)) rfl (by have := ln15; simp only [List.length_cons, List.length_nil]; omega) HB19.size ?_
      intro v20 y20 hg20 hb20 hk20
      have HB20 : Below w.heap.size w y20 := HB19.trans hb20
      have ln20 : (([0, 0, k, tx.length] ++ tx) ++ [tt.length]).length ≤ 13 := by have := ln15; rw [List.length_append]; simp only [List.length_cons, List.length_nil]; omega
      have rd1920 := hk20.1 _ _ _ hlt19 neN19 rdN19
      have ne1920 := hk20.2 _ hlt19 neN19
      have lt1920 := Nat.lt_of_lt_of_le hlt19 hb20.size
      refine hK.out _ _ (HQ.out _ HB20).1 (fun hHeld => ?_)
      clear hK K
      refine wpAnyH_ready (rs := [20]) (by kernel_rfl) (by simp) ?_
      refine AllReadyH.cons rfl (fun K hK => ?_) AllReadyH.nil
      refine step_app_grx rfl _ _ 22 rfl w.heap.size _ (([0, 0, k, tx.length] ++ tx) ++ [tt.length]) (by rfl) hg20 _ _ tt (by rfl) (src_slice rfl rd1920 (fun h => by cases h)) rfl (by have := ln20; omega) HB20.size ?_
      intro v21 y21 hg21 hb21 hk21
      have HB21 : Below w.heap.size w y21 := HB20.trans hb21
      have ln21 : ((([0, 0, k, tx.length] ++ tx) ++ [tt.length]) ++ tt).length ≤ 21 := by have := ln20; rw [List.length_append]; omega
      refine hK.out _ _ (HQ.out _ HB21).1 (fun hHeld => ?_)
      clear hK K
      refine wpAnyH_take (i := 21) (v := ?_) rfl (by kernel_rfl) (by kernel_rfl) (by kernel_rfl) (fun _ _ _ h => absurd h.1 (fun e => by cases e)) (Or.inl ⟨by rfl, ?hy34⟩) (by assumption) ?ty34
      case hy34 => (intro w5 hSw; (try dsimp only at hSw); obtain ⟨e0, e1, e2, e3, e4, e5, e6, e7⟩ := hSw; dsimp only at e0 e1 e2 e3 e4 e5 e6 e7; go_simp; all_goals with_reducible rfl)
      simp only [Act.put, List.getElem_toArray, List.getElem_cons_zero, List.getElem_cons_succ, List.setIfInBounds_toArray, List.set_cons_zero, List.set_cons_succ]
      refine wpAnyH_done (by kernel_rfl) ?_ _
      exact ⟨rfl, ⟨hg21, HB21⟩, by kernel_rfl⟩
    ·refine step_conv rfl _ rfl tt hBt _ rfl (by rfl) (by omega) ?_
     intro cp22 y22 rdN22 hy22 hlt22
     have neN22 := hg14.ne (Nat.le_refl _)
     have HB22 : Below w.heap.size w y22 := HB14.trans (hy22.mono HB14.size)
     have hg22 := hg14.below hy22 (Nat.le_refl _)
     have rd522 := rd514.below hy22
     have lt522 := Nat.lt_of_lt_of_le lt514 hy22.size
     have rd1322 := rdN14.below hy22
     have lt1322 := Nat.lt_of_lt_of_le hlt14 hy22.size
     refine hK.out _ _ (HQ.out _ HB22).1 (fun hHeld => ?_)
     clear hK K
     refine wpAnyH_ready (rs := [6]) (by kernel_rfl) (by simp) ?_
     refine AllReadyH.cons rfl (fun K hK => ?_) AllReadyH.nil
     refine step_app_grx rfl _ _ 22 rfl w.heap.size _ [0, 0, k, tx.length] (by rfl) hg22 _ _ tx (by rfl) (src_slice rfl rd522 (fun h => by cases h)) rfl (by have := ln0; omega) HB22.size ?_
     intro v23 y23 hg23 hb23 hk23
     have HB23 : Below w.heap.size w y23 := HB22.trans hb23
     have ln23 : ([0, 0, k, tx.length] ++ tx).length ≤ 12 := by have := ln0; rw [List.length_append]; omega
     have rd1323 := hk23.1 _ _ _ lt1322 neN14 rd1322
     have ne1323 := hk23.2 _ lt1322 neN14
     have lt1323 := Nat.lt_of_lt_of_le lt1322 hb23.size
     have rd1923 := hk23.1 _ _ _ hlt22 neN22 rdN22
     have ne1923 := hk23.2 _ hlt22 neN22
     have lt1923 := Nat.lt_of_lt_of_le hlt22 hb23.size
     refine hK.out _ _ (HQ.out _ HB23).1 (fun hHeld => ?_)
     clear hK K
     refine wpAnyH_ready (rs := [14]) (by kernel_rfl) (by simp) ?_
     refine AllReadyH.cons rfl (fun K hK => ?_) AllReadyH.nil
     refine step_app_grx rfl _ _ 22 rfl w.heap.size _ ([0, 0, k, tx.length] ++ tx) (by rfl) hg23 _ _ [tt.length] (by rfl) (src_slice rfl rd1323 (fun h => by cases h)) rfl (by have := ln23; simp only [List.length_cons, List.length_nil]; omega) HB23.size ?_
     intro v24 y24 hg24 hb24 hk24
     have HB24 : Below w.heap.size w y24 := HB23.trans hb24
     have ln24 : (([0, 0, k, tx.length] ++ tx) ++ [tt.length]).length ≤ 13 := by have := ln23; rw [List.length_append]; simp only [List.length_cons, List.length_nil]; omega
     have rd1924 := hk24.1 _ _ _ lt1923 ne1923 rd1923
     have ne1924 := hk24.2 _ lt1923 ne1923
     have lt1924 := Nat.lt_of_lt_of_le lt1923 hb24.size
     refine hK.out _ _ (HQ.out _ HB24).1 (fun hHeld => ?_)
     clear hK K
     refine wpAnyH_ready (rs := [20]) (by kernel_rfl) (by simp) ?_
     refine AllReadyH.cons rfl (fun K hK => ?_) AllReadyH.nil
     refine step_app_grx rfl _ _ 22 rfl w.heap.size _ (([0, 0, k, tx.length] ++ tx) ++ [tt.length]) (by rfl) hg24 _ _ tt (by rfl) (src_slice rfl rd1924 (fun h => by cases h)) rfl (by have := ln24; omega) HB24.size ?_
     intro v25 y25 hg25 hb25 hk25
     have HB25 : Below w.heap.size w y25 := HB24.trans hb25
     have ln25 : ((([0, 0, k, tx.length] ++ tx) ++ [tt.length]) ++ tt).length ≤ 21 := by have := ln24; rw [List.length_append]; omega
     refine hK.out _ _ (HQ.out _ HB25).1 (fun hHeld => ?_)
     clear hK K
     refine wpAnyH_take (i := 21) (v := ?_) rfl (by kernel_rfl) (by kernel_rfl) (by kernel_rfl) (fun _ _ _ h => absurd h.1 (fun e => by cases e)) (Or.inl ⟨by rfl, ?hy35⟩) (by assumption) ?ty35
     case hy35 => (intro w5 hSw; (try dsimp only at hSw); obtain ⟨e0, e1, e2, e3, e4, e5, e6, e7⟩ := hSw; dsimp only at e0 e1 e2 e3 e4 e5 e6 e7; go_simp; all_goals with_reducible rfl)
     simp only [Act.put, List.getElem_toArray, List.getElem_cons_zero, List.getElem_cons_succ, List.setIfInBounds_toArray, List.set_cons_zero, List.set_cons_succ]
     refine wpAnyH_done (by kernel_rfl) ?_ _
     exact ⟨rfl, ⟨hg25, HB25⟩, by kernel_rfl⟩
   ·refine step_conv rfl _ rfl tt hBt _ rfl (by rfl) (by omega) ?_
    intro cp26 y26 rdN26 hy26 hlt26
    have neN26 := hg1.ne (Nat.le_refl _)
    have HB26 : Below w.heap.size w y26 := HB1.trans (hy26.mono HB1.size)
    have hg26 := hg1.below hy26 (Nat.le_refl _)
    have rd526 := rdN1.below hy26
    have lt526 := Nat.lt_of_lt_of_le hlt1 hy26.size
    refine hK.out _ _ (HQ.out _ HB26).1 (fun hHeld => ?_)
    clear hK K
    refine wpAnyH_ready (rs := [6, 13]) (by kernel_rfl) (by simp) ?_
    refine AllReadyH.cons rfl (fun K hK => ?_) (AllReadyH.cons rfl (fun K hK => ?_) AllReadyH.nil)
    ·refine step_app_grx rfl _ _ 22 rfl w.heap.size _ [0, 0, k, tx.length] (by rfl) hg26 _ _ tx (by rfl) (src_slice rfl rd526 (fun h => by cases h)) rfl (by have := ln0; omega) HB26.size ?_
     intro v27 y27 hg27 hb27 hk27
     have HB27 : Below w.heap.size w y27 := HB26.trans hb27
     have ln27 : ([0, 0, k, tx.length] ++ tx).length ≤ 12 := by have := ln0; rw [List.length_append]; omega
     have rd1927 := hk27.1 _ _ _ hlt26 neN26 rdN26
     have ne1927 := hk27.2 _ hlt26 neN26
     have lt1927 := Nat.lt_of_lt_of_le hlt26 hb27.size
     refine hK.out _ _ (HQ.out _ HB27).1 (fun hHeld => ?_)
     clear hK K
     refine wpAnyH_ready (rs := [13]) (by kernel_rfl) (by simp) ?_
     refine AllReadyH.cons rfl (fun K hK => ?_) AllReadyH.nil
     have hy28 : Below y27.heap.size y27 (y27.alloc (.cells #[.int .u8 (tt.length : Int)] 5)) := (Below.refl _ _).alloc (Nat.le_refl _) _
     have rdN28 : Rd (y27.alloc (.cells #[.int .u8 (tt.length : Int)] 5)) (some ⟨y27.heap.size, 0, none⟩) [tt.length] := rd_one y27 tt.length
     have hlt28 : y27.heap.size < (y27.alloc (.cells #[.int .u8 (tt.length : Int)] 5)).heap.size := by simp
     have neN28 := hg27.ne (Nat.le_refl _)
     go_simp
     generalize y27.alloc (.cells #[.int .u8 (tt.length : Int)] 5) = y28 at *
     have HB28 : Below w.heap.size w y28 := HB27.trans (hy28.mono HB27.size)
     have hg28 := hg27.below hy28 (Nat.le_refl _)
     have rd1928 := rd1927.below hy28
     have lt1928 := Nat.lt_of_lt_of_le lt1927 hy28.size
     refine hK.out _ _ (HQ.out _ HB28).1 (fun hHeld => ?_)
     clear hK K
     refine wpAnyH_ready (rs := [14]) (by kernel_rfl) (by simp) ?_
     refine AllReadyH.cons rfl (fun K hK => ?_) AllReadyH.nil
     refine step_app_grx rfl _ _ 22 rfl w.heap.size _ ([0, 0, k, tx.length] ++ tx) (by rfl) hg28 _ _ [tt.length] (by rfl) (src_slice rfl rdN28 (fun h => by cases h)) rfl (by have := ln27; simp only [List.length_cons, List.length_nil]; omega) HB28.size ?_
     intro v29 y29 hg29 hb29 hk29
     have HB29 : Below w.heap.size w y29 := HB28.trans hb29
     have ln29 : (([0, 0, k, tx.length] ++ tx) ++ [tt.length]).length ≤ 13 := by have := ln27; rw [List.length_append]; simp only [List.length_cons, List.length_nil]; omega
     have rd1929 := hk29.1 _ _ _ lt1928 ne1927 rd1928
     have ne1929 := hk29.2 _ lt1928 ne1927
     have lt1929 := Nat.lt_of_lt_of_le lt1928 hb29.size
     refine hK.out _ _ (HQ.out _ HB29).1 (fun hHeld => ?_)
     clear hK K
     refine wpAnyH_ready (rs := [20]) (by kernel_rfl) (by simp) ?_
     refine AllReadyH.cons rfl (fun K hK => ?_) AllReadyH.nil
     refine step_app_grx rfl _ _ 22 rfl w.heap.size _ (([0, 0, k, tx.length] ++ tx) ++ [tt.length]) (by rfl) hg29 _ _ tt (by rfl) (src_slice rfl rd1929 (fun h => by cases h)) rfl (by have := ln29; omega) HB29.size ?_
     intro v30 y30 hg30 hb30 hk30
     have HB30 : Below w.heap.size w y30 := HB29.trans hb30
     have ln30 : ((([0, 0, k, tx.length] ++ tx) ++ [tt.length]) ++ tt).length ≤ 21 := by have := ln29; rw [List.length_append]; omega
     refine hK.out _ _ (HQ.out _ HB30).1 (fun hHeld => ?_)
     clear hK K
     refine wpAnyH_take (i := 21) (v := ?_) rfl (by kernel_rfl) (by kernel_rfl) (by kernel_rfl) (fun _ _ _ h => absurd h.1 (fun e => by cases e)) (Or.inl ⟨by rfl, ?hy36⟩) (by assumption) ?ty36
     case hy36 => (intro w5 hSw; (try dsimp only at hSw); obtain ⟨e0, e1, e2, e3, e4, e5, e6, e7⟩ := hSw; dsimp only at e0 e1 e2 e3 e4 e5 e6 e7; go_simp; all_goals with_reducible rfl)
     simp only [Act.put, List.getElem_toArray, List.getElem_cons_zero, List.getElem_cons_succ, List.setIfInBounds_toArray, List.set_cons_zero, List.set_cons_succ]
     refine wpAnyH_done (by kernel_rfl) ?_ _
     exact ⟨rfl, ⟨hg30, HB30⟩, by kernel_rfl⟩
    ·have hy31 : Below y26.heap.size y26 (y26.alloc (.cells #[.int .u8 (tt.length : Int)] 5)) := (Below.refl _ _).alloc (Nat.le_refl _) _
     have rdN31 : Rd (y26.alloc (.cells #[.int .u8 (tt.length : Int)] 5)) (some ⟨y26.heap.size, 0, none⟩) [tt.length] := rd_one y26 tt.length
     have hlt31 : y26.heap.size < (y26.alloc (.cells #[.int .u8 (tt.length : Int)] 5)).heap.size := by simp
     have neN31 := hg26.ne (Nat.le_refl _)
     go_simp
     generalize y26.alloc (.cells #[.int .u8 (tt.length : Int)] 5) = y31 at *
     have HB31 : Below w.heap.size w y31 := HB26.trans (hy31.mono HB26.size)
     have hg31 := hg26.below hy31 (Nat.le_refl _)
     have rd531 := rd526.below hy31
     have lt531 := Nat.lt_of_lt_of_le lt526 hy31.size
     have rd1931 := rdN26.below hy31
     have lt1931 := Nat.lt_of_lt_of_le hlt26 hy31.size
     refine hK.out _ _ (HQ.out _ HB31).1 (fun hHeld => ?_)
     clear hK K
     refine wpAnyH_ready (rs := [6]) (by kernel_rfl) (by simp) ?_
     refine AllReadyH.cons rfl (fun K hK => ?_) AllReadyH.nil
     refine step_app_grx rfl _ _ 22 rfl w.heap.size _ [0, 0, k, tx.length] (by rfl) hg31 _ _ tx (by rfl) (src_slice rfl rd531 (fun h => by cases h)) rfl (by have := ln0; omega) HB31.size ?_
     intro v32 y32 hg32 hb32 hk32
     have HB32 : Below w.heap.size w y32 := HB31.trans hb32
     have ln32 : ([0, 0, k, tx.length] ++ tx).length ≤ 12 := by have := ln0; rw [List.length_append]; omega
     have rd1932 := hk32.1 _ _ _ lt1931 neN26 rd1931
     have ne1932 := hk32.2 _ lt1931 neN26
     have lt1932 := Nat.lt_of_lt_of_le lt1931 hb32.size
     have rd1332 := hk32.1 _ _ _ hlt31 neN31 rdN31
     have ne1332 := hk32.2 _ hlt31 neN31
     have lt1332 := Nat.lt_of_lt_of_le hlt31 hb32.size
     refine hK.out _ _ (HQ.out _ HB32).1 (fun hHeld => ?_)
     clear hK K
     refine wpAnyH_ready (rs := [14]) (by kernel_rfl) (by simp) ?_
     refine AllReadyH.cons rfl (fun K hK => ?_) AllReadyH.nil
     refine step_app_grx rfl _ _ 22 rfl w.heap.size _ ([0, 0, k, tx.length] ++ tx) (by rfl) hg32 _ _ [tt.length] (by rfl) (src_slice rfl rd1332 (fun h => by cases h)) rfl (by have := ln32; simp only [List.length_cons, List.length_nil]; omega) HB32.size ?_
     intro v33 y33 hg33 hb33 hk33
     have HB33 : Below w.heap.size w y33 := HB32.trans hb33
     have ln33 : (([0, 0, k, tx.length] ++ tx) ++ [tt.length]).length ≤ 13 := by have := ln32; rw [List.length_append]; simp only [List.length_cons, List.length_nil]; omega
     have rd1933 := hk33.1 _ _ _ lt1932 ne1932 rd1932
     have ne1933 := hk33.2 _ lt1932 ne1932
     have lt1933 := Nat.lt_of_lt_of_le lt1932 hb33.size
     refine hK.out _ _ (HQ.out _ HB33).1 (fun hHeld => ?_)
     clear hK K
     refine wpAnyH_ready (rs := [20]) (by kernel_rfl) (by simp) ?_
     refine AllReadyH.cons rfl (fun K hK => ?_) AllReadyH.nil
     refine step_app_grx rfl _ _ 22 rfl w.heap.size _ (([0, 0, k, tx.length] ++ tx) ++ [tt.length]) (by rfl) hg33 _ _ tt (by rfl) (src_slice rfl rd1933 (fun h => by cases h)) rfl (by have := ln33; omega) HB33.size ?_
     intro v34 y34 hg34 hb34 hk34
     have HB34 : Below w.heap.size w y34 := HB33.trans hb34
     have ln34 : ((([0, 0, k, tx.length] ++ tx) ++ [tt.length]) ++ tt).length ≤ 21 := by have := ln33; rw [List.length_append]; omega
     refine hK.out _ _ (HQ.out _ HB34).1 (fun hHeld => ?_)
     clear hK K
     refine wpAnyH_take (i := 21) (v := ?_) rfl (by kernel_rfl) (by kernel_rfl) (by kernel_rfl) (fun _ _ _ h => absurd h.1 (fun e => by cases e)) (Or.inl ⟨by rfl, ?hy37⟩) (by assumption) ?ty37
     case hy37 => (intro w5 hSw; (try dsimp only at hSw); obtain ⟨e0, e1, e2, e3, e4, e5, e6, e7⟩ := hSw; dsimp only at e0 e1 e2 e3 e4 e5 e6 e7; go_simp; all_goals with_reducible rfl)
     simp only [Act.put, List.getElem_toArray, List.getElem_cons_zero, List.getElem_cons_succ, List.setIfInBounds_toArray, List.set_cons_zero, List.set_cons_succ]
     refine wpAnyH_done (by kernel_rfl) ?_ _
     exact ⟨rfl, ⟨hg34, HB34⟩, by kernel_rfl⟩
  ·have hy35 : Below z0.heap.size z0 (z0.alloc (.cells #[.int .u8 (tt.length : Int)] 5)) := (Below.refl _ _).alloc (Nat.le_refl _) _
   have rdN35 : Rd (z0.alloc (.cells #[.int .u8 (tt.length : Int)] 5)) (some ⟨z0.heap.size, 0, none⟩) [tt.length] := rd_one z0 tt.length
   have hlt35 : z0.heap.size < (z0.alloc (.cells #[.int .u8 (tt.length : Int)] 5)).heap.size := by simp
   have neN35 := hGy.ne (Nat.le_refl _)
   go_simp
   generalize z0.alloc (.cells #[.int .u8 (tt.length : Int)] 5) = y35 at *
   have HB35 : Below w.heap.size w y35 := HBy.trans (hy35.mono HBy.size)
   have hg35 := hGy.below hy35 (Nat.le_refl _)
   refine hK.out _ _ (HQ.out _ HB35).1 (fun hHeld => ?_)
   clear hK K
   refine wpAnyH_ready (rs := [5, 19]) (by kernel_rfl) (by simp) ?_
   refine AllReadyH.cons rfl (fun K hK => ?_) (AllReadyH.cons rfl (fun K hK => ?_) AllReadyH.nil)
   ·refine step_conv rfl _ rfl tx hBx _ rfl (by rfl) (by omega) ?_
    intro cp36 y36 rdN36 hy36 hlt36
    have neN36 := hg35.ne (Nat.le_refl _)
    have HB36 : Below w.heap.size w y36 := HB35.trans (hy36.mono HB35.size)
    have hg36 := hg35.below hy36 (Nat.le_refl _)
    have rd1336 := rdN35.below hy36
    have lt1336 := Nat.lt_of_lt_of_le hlt35 hy36.size
    refine hK.out _ _ (HQ.out _ HB36).1 (fun hHeld => ?_)
    clear hK K
    refine wpAnyH_ready (rs := [6, 19]) (by kernel_rfl) (by simp) ?_
    refine AllReadyH.cons rfl (fun K hK => ?_) (AllReadyH.cons rfl (fun K hK => ?_) AllReadyH.nil)
    ·refine step_app_grx rfl _ _ 22 rfl w.heap.size _ [0, 0, k, tx.length] (by rfl) hg36 _ _ tx (by rfl) (src_slice rfl rdN36 (fun h => by cases h)) rfl (by have := ln0; omega) HB36.size ?_
     intro v37 y37 hg37 hb37 hk37
     have HB37 : Below w.heap.size w y37 := HB36.trans hb37
     have ln37 : ([0, 0, k, tx.length] ++ tx).length ≤ 12 := by have := ln0; rw [List.length_append]; omega
     have rd1337 := hk37.1 _ _ _ lt1336 neN35 rd1336
     have ne1337 := hk37.2 _ lt1336 neN35
     have lt1337 := Nat.lt_of_lt_of_le lt1336 hb37.size
     refine hK.out _ _ (HQ.out _ HB37).1 (fun hHeld => ?_)
     clear hK K
     refine wpAnyH_ready (rs := [14, 19]) (by kernel_rfl) (by simp) ?_
     refine AllReadyH.cons rfl (fun K hK => ?_) (AllReadyH.cons rfl (fun K hK => ?_) AllReadyH.nil)
     ·refine step_app_grx rfl _ _ 22 rfl w.heap.size _ ([0, 0, k, tx.length] ++ tx) (by rfl) hg37 _ _ [tt.length] (by rfl) (src_slice rfl rd1337 (fun h => by cases h)) rfl (by have := ln37; simp only [List.length_cons, List.length_nil]; omega) HB37.size ?_
      intro v38 y38 hg38 hb38 hk38
      have HB38 : Below w.heap.size w y38 := HB37.trans hb38
      have ln38 : (([0, 0, k, tx.length] ++ tx) ++ [tt.length]).length ≤ 13 := by have := ln37; rw [List.length_append]; simp only [List.length_cons, List.length_nil]; omega
      refine hK.out _ _ (HQ.out _ HB38).1 (fun hHeld => ?_)
      clear hK K
      refine wpAnyH_ready (rs := [19]) (by kernel_rfl) (by simp) ?_
      refine AllReadyH.cons rfl (fun K hK => ?_) AllReadyH.nil
      refine step_conv rfl _ rfl tt hBt _ rfl (by rfl) (by omega) ?_
      intro cp39 y39 rdN39 hy39 hlt39
      have neN39 := hg38.ne (Nat.le_refl _)
      have HB39 : Below w.heap.size w y39 := HB38.trans (hy39.mono HB38.size)
      have hg39 := hg38.below hy39 (Nat.le_refl _)
      refine hK.out _ _ (HQ.out _ HB39).1 (fun hHeld => ?_)
      clear hK K
      refine wpAnyH_ready (rs := [20]) (by kernel_rfl) (by simp) ?_
      refine AllReadyH.cons rfl (fun K hK => ?_) AllReadyH.nil
      refine step_app_grx rfl _ _ 22 rfl w.heap.size _ (([0, 0, k, tx.length] ++ tx) ++ [tt.length]) (by rfl) hg39 _ _ tt (by rfl) (src_slice rfl rdN39 (fun h => by cases h)) rfl (by have := ln38; omega) HB39.size ?_
      intro v40 y40 hg40 hb40 hk40
      have HB40 : Below w.heap.size w y40 := HB39.trans hb40
      have ln40 : ((([0, 0, k, tx.length] ++ tx) ++ [tt.length]) ++ tt).length ≤ 21 := by have := ln38; rw [List.length_append]; omega
      refine hK.out _ _ (HQ.out _ HB40).1 (fun hHeld => ?_)
      clear hK K
      refine wpAnyH_take (i := 21) (v := ?_) rfl (by kernel_rfl) (by kernel_rfl) (by kernel_rfl) (fun _ _ _ h => absurd h.1 (fun e => by cases e)) (Or.inl ⟨by rfl, ?hy38⟩) (by assumption) ?ty38
      case hy38 => (intro w5 hSw; (try dsimp only at hSw); obtain ⟨e0, e1, e2, e3, e4, e5, e6, e7⟩ := hSw; dsimp only at e0 e1 e2 e3 e4 e5 e6 e7; go_simp; all_goals with_reducible rfl)
      simp only [Act.put, List.getElem_toArray, List.getElem_cons_zero, List.getElem_cons_succ, List.setIfInBounds_toArray, List.set_cons_zero, List.set_cons_succ]
      refine wpAnyH_done (by kernel_rfl) ?_ _
      exact ⟨rfl, ⟨hg40, HB40⟩, by kernel_rfl⟩
     ·refine step_conv rfl _ rfl tt hBt _ rfl (by rfl) (by omega) ?_
      intro cp41 y41 rdN41 hy41 hlt41
      have neN41 := hg37.ne (Nat.le_refl _)
      have HB41 : Below w.heap.size w y41 := HB37.trans (hy41.mono HB37.size)
      have hg41 := hg37.below hy41 (Nat.le_refl _)
      have rd1341 := rd1337.below hy41
      have lt1341 := Nat.lt_of_lt_of_le lt1337 hy41.size
      refine hK.out _ _ (HQ.out _ HB41).1 (fun hHeld => ?_)
      clear hK K
      refine wpAnyH_ready (rs := [14]) (by kernel_rfl) (by simp) ?_
      refine AllReadyH.cons rfl (fun K hK => ?_) AllReadyH.nil
      refine step_app_grx rfl _ _ 22 rfl w.heap.size _ ([0, 0, k, tx.length] ++ tx) (by rfl) hg41 _ _ [tt.length] (by rfl) (src_slice rfl rd1341 (fun h => by cases h)) rfl (by have := ln37; simp only [List.length_cons, List.length_nil]; omega) HB41.size ?_
      intro v42 y42 hg42 hb42 hk42
      have HB42 : Below w.heap.size w y42 := HB41.trans hb42
      have ln42 : (([0, 0, k, tx.length] ++ tx) ++ [tt.length]).length ≤ 13 := by have := ln37; rw [List.length_append]; simp only [List.length_cons, List.length_nil]; omega
      have rd1942 := hk42.1 _ _ _ hlt41 neN41 rdN41
      have ne1942 := hk42.2 _ hlt41 neN41
      have lt1942 := Nat.lt_of_lt_of_le hlt41 hb42.size
      refine hK.out _ _ (HQ.out _ HB42).1 (fun hHeld => ?_)
      clear hK K
      refine wpAnyH_ready (rs := [20]) (by kernel_rfl) (by simp) ?_
      refine AllReadyH.cons rfl (fun K hK => ?_) AllReadyH.nil
      refine step_app_grx rfl _ _ 22 rfl w.heap.size _ (([0, 0, k, tx.length] ++ tx) ++ [tt.length]) (by rfl) hg42 _ _ tt (by rfl) (src_slice rfl rd1942 (fun h => by cases h)) rfl (by have := ln42; omega) HB42.size ?_
      intro v43 y43 hg43 hb43 hk43
      have HB43 : Below w.heap.size w y43 := HB42.trans hb43
      have ln43 : ((([0, 0, k, tx.length] ++ tx) ++ [tt.length]) ++ tt).length ≤ 21 := by have := ln42; rw [List.length_append]; omega
      refine hK.out _ _ (HQ.out _ HB43).1 (fun hHeld => ?_)
      clear hK K
      refine wpAnyH_take (i := 21) (v := ?_) rfl (by kernel_rfl) (by kernel_rfl) (by kernel_rfl) (fun _ _ _ h => absurd h.1 (fun e => by cases e)) (Or.inl ⟨by rfl, ?hy39⟩) (by assumption) ?ty39
      case hy39 => (intro w5 hSw; (try dsimp only at hSw); obtain ⟨e0, e1, e2, e3, e4, e5, e6, e7⟩ := hSw; dsimp only at e0 e1 e2 e3 e4 e5 e6 e7; go_simp; all_goals with_reducible rfl)
      simp only [Act.put, List.getElem_toArray, List.getElem_cons_zero, List.getElem_cons_succ, List.setIfInBounds_toArray, List.set_cons_zero, List.set_cons_succ]
      refine wpAnyH_done (by kernel_rfl) ?_ _
      exact ⟨rfl, ⟨hg43, HB43⟩, by kernel_rfl⟩
    ·refine step_conv rfl _ rfl tt hBt _ rfl (by rfl) (by omega) ?_
     intro cp44 y44 rdN44 hy44 hlt44
     have neN44 := hg36.ne (Nat.le_refl _)
     have HB44 : Below w.heap.size w y44 := HB36.trans (hy44.mono HB36.size)
     have hg44 := hg36.below hy44 (Nat.le_refl _)
     have rd1344 := rd1336.below hy44
     have lt1344 := Nat.lt_of_lt_of_le lt1336 hy44.size
     have rd544 := rdN36.below hy44
     have lt544 := Nat.lt_of_lt_of_le hlt36 hy44.size
     refine hK.out _ _ (HQ.out _ HB44).1 (fun hHeld => ?_)
     clear hK K
     refine wpAnyH_ready (rs := [6]) (by kernel_rfl) (by simp) ?_
     refine AllReadyH.cons rfl (fun K hK => ?_) AllReadyH.nil
     refine step_app_grx rfl _ _ 22 rfl w.heap.size _ [0, 0, k, tx.length] (by rfl) hg44 _ _ tx (by rfl) (src_slice rfl rd544 (fun h => by cases h)) rfl (by have := ln0; omega) HB44.size ?_
     intro v45 y45 hg45 hb45 hk45
     have HB45 : Below w.heap.size w y45 := HB44.trans hb45
     have ln45 : ([0, 0, k, tx.length] ++ tx).length ≤ 12 := by have := ln0; rw [List.length_append]; omega
     have rd1345 := hk45.1 _ _ _ lt1344 neN35 rd1344
     have ne1345 := hk45.2 _ lt1344 neN35
     have lt1345 := Nat.lt_of_lt_of_le lt1344 hb45.size
     have rd1945 := hk45.1 _ _ _ hlt44 neN44 rdN44
     have ne1945 := hk45.2 _ hlt44 neN44
     have lt1945 := Nat.lt_of_lt_of_le hlt44 hb45.size
     refine hK.out _ _ (HQ.out _ HB45).1 (fun hHeld => ?_)
     clear hK K
     refine wpAnyH_ready (rs := [14]) (by kernel_rfl) (by simp) ?_
     refine AllReadyH.cons rfl (fun K hK => ?_) AllReadyH.nil
     refine step_app_grx rfl _ _ 22 rfl w.heap.size _ ([0, 0, k, tx.length] ++ tx) (by rfl) hg45 _ _ [tt.length] (by rfl) (src_slice rfl rd1345 (fun h => by cases h)) rfl (by have := ln45; simp only [List.length_cons, List.length_nil]; omega) HB45.size ?_
     intro v46 y46 hg46 hb46 hk46
     have HB46 : Below w.heap.size w y46 := HB45.trans hb46
     have ln46 : (([0, 0, k, tx.length] ++ tx) ++ [tt.length]).length ≤ 13 := by have := ln45; rw [List.length_append]; simp only [List.length_cons, List.length_nil]; omega
     have rd1946 := hk46.1 _ _ _ lt1945 ne1945 rd1945
     have ne1946 := hk46.2 _ lt1945 ne1945
     have lt1946 := Nat.lt_of_lt_of_le lt1945 hb46.size
     refine hK.out _ _ (HQ.out _ HB46).1 (fun hHeld => ?_)
     clear hK K
     refine wpAnyH_ready (rs := [20]) (by kernel_rfl) (by simp) ?_
     refine AllReadyH.cons rfl (fun K hK => ?_) AllReadyH.nil
     refine step_app_grx rfl _ _ 22 rfl w.heap.size _ (([0, 0, k, tx.length] ++ tx) ++ [tt.length]) (by rfl) hg46 _ _ tt (by rfl) (src_slice rfl rd1946 (fun h => by cases h)) rfl (by have := ln46; omega) HB46.size ?_
     intro v47 y47 hg47 hb47 hk47
     have HB47 : Below w.heap.size w y47 := HB46.trans hb47
     have ln47 : ((([0, 0, k, tx.length] ++ tx) ++ [tt.length]) ++ tt).length ≤ 21 := by have := ln46; rw [List.length_append]; omega
     refine hK.out _ _ (HQ.out _ HB47).1 (fun hHeld => ?_)
     clear hK K
     refine wpAnyH_take (i := 21) (v := ?_) rfl (by kernel_rfl) (by kernel_rfl) (by kernel_rfl) (fun _ _ _ h => absurd h.1 (fun e => by cases e)) (Or.inl ⟨by rfl, ?hy40⟩) (by assumption) ?ty40
     case hy40 => (intro w5 hSw; (try dsimp only at hSw); obtain ⟨e0, e1, e2, e3, e4, e5, e6, e7⟩ := hSw; dsimp only at e0 e1 e2 e3 e4 e5 e6 e7; go_simp; all_goals with_reducible rfl)
     simp only [Act.put, List.getElem_toArray, List.getElem_cons_zero, List.getElem_cons_succ, List.setIfInBounds_toArray, List.set_cons_zero, List.set_cons_succ]
     refine wpAnyH_done (by kernel_rfl) ?_ _
     exact ⟨rfl, ⟨hg47, HB47⟩, by kernel_rfl⟩
   ·refine step_conv rfl _ rfl tt hBt _ rfl (by rfl) (by omega) ?_
    intro cp48 y48 rdN48 hy48 hlt48
    have neN48 := hg35.ne (Nat.le_refl _)
    have HB48 : Below w.heap.size w y48 := HB35.trans (hy48.mono HB35.size)
    have hg48 := hg35.below hy48 (Nat.le_refl _)
    have rd1348 := rdN35.below hy48
    have lt1348 := Nat.lt_of_lt_of_le hlt35 hy48.size
    refine hK.out _ _ (HQ.out _ HB48).1 (fun hHeld => ?_)
    clear hK K
    refine wpAnyH_ready (rs := [5]) (by kernel_rfl) (by simp) ?_
    refine AllReadyH.cons rfl (fun K hK => ?_) AllReadyH.nil
    refine step_conv rfl _ rfl tx hBx _ rfl (by rfl) (by omega) ?_
    intro cp49 y49 rdN49 hy49 hlt49
    have neN49 := hg48.ne (Nat.le_refl _)
    have HB49 : Below w.heap.size w y49 := HB48.trans (hy49.mono HB48.size)
    have hg49 := hg48.below hy49 (Nat.le_refl _)
    have rd1349 := rd1348.below hy49
    have lt1349 := Nat.lt_of_lt_of_le lt1348 hy49.size
    have rd1949 := rdN48.below hy49
    have lt1949 := Nat.lt_of_lt_of_le hlt48 hy49.size
    refine hK.out _ _ (HQ.out _ HB49).1 (fun hHeld => ?_)
    clear hK K
    refine wpAnyH_ready (rs := [6]) (by kernel_rfl) (by simp) ?_
    refine AllReadyH.cons rfl (fun K hK => ?_) AllReadyH.nil
    refine step_app_grx rfl _ _ 22 rfl w.heap.size _ [0, 0, k, tx.length] (by rfl) hg49 _ _ tx (by rfl) (src_slice rfl rdN49 (fun h => by cases h)) rfl (by have := ln0; omega) HB49.size ?_
    intro v50 y50 hg50 hb50 hk50
    have HB50 : Below w.heap.size w y50 := HB49.trans hb50
    have ln50 : ([0, 0, k, tx.length] ++ tx).length ≤ 12 := by have := ln0; rw [List.length_append]; omega
    have rd1350 := hk50.1 _ _ _ lt1349 neN35 rd1349
    have ne1350 := hk50.2 _ lt1349 neN35
    have lt1350 := Nat.lt_of_lt_of_le lt1349 hb50.size
    have rd1950 := hk50.1 _ _ _ lt1949 neN48 rd1949
    have ne1950 := hk50.2 _ lt1949 neN48
    have lt1950 := Nat.lt_of_lt_of_le lt1949 hb50.size
    refine hK.out _ _ (HQ.out _ HB50).1 (fun hHeld => ?_)
    clear hK K
    refine wpAnyH_ready (rs := [14]) (by kernel_rfl) (by simp) ?_
    refine AllReadyH.cons rfl (fun K hK => ?_) AllReadyH.nil
    refine step_app_grx rfl _ _ 22 rfl w.heap.size _ ([0, 0, k, tx.length] ++ tx) (by rfl) hg50 _ _ [tt.length] (by rfl) (src_slice rfl rd1350 (fun h => by cases h)) rfl (by have := ln50; simp only [List.length_cons, List.length_nil]; omega) HB50.size ?_
    intro v51 y51 hg51 hb51 hk51
    have HB51 : Below w.heap.size w y51 := HB50.trans hb51
    have ln51 : (([0, 0, k, tx.length] ++ tx) ++ [tt.length]).length ≤ 13 := by have := ln50; rw [List.length_append]; simp only [List.length_cons, List.length_nil]; omega
    have rd1951 := hk51.1 _ _ _ lt1950 ne1950 rd1950
    have ne1951 := hk51.2 _ lt1950 ne1950
    have lt1951 := Nat.lt_of_lt_of_le lt1950 hb51.size
    refine hK.out _ _ (HQ.out _ HB51).1 (fun hHeld => ?_)
    clear hK K
    refine wpAnyH_ready (rs := [20]) (by kernel_rfl) (by simp) ?_
    refine AllReadyH.cons rfl (fun K hK => ?_) AllReadyH.nil
    refine step_app_grx rfl _ _ 22 rfl w.heap.size _ (([0, 0, k, tx.length] ++ tx) ++ [tt.length]) (by rfl) hg51 _ _ tt (by rfl) (src_slice rfl rd1951 (fun h => by cases h)) rfl (by have := ln51; omega) HB51.size ?_
    intro v52 y52 hg52 hb52 hk52
    have HB52 : Below w.heap.size w y52 := HB51.trans hb52
    have ln52 : ((([0, 0, k, tx.length] ++ tx) ++ [tt.length]) ++ tt).length ≤ 21 := by have := ln51; rw [List.length_append]; omega
    refine hK.out _ _ (HQ.out _ HB52).1 (fun hHeld => ?_)
    clear hK K
    refine wpAnyH_take (i := 21) (v := ?_) rfl (by kernel_rfl) (by kernel_rfl) (by kernel_rfl) (fun _ _ _ h => absurd h.1 (fun e => by cases e)) (Or.inl ⟨by rfl, ?hy41⟩) (by assumption) ?ty41
    case hy41 => (intro w5 hSw; (try dsimp only at hSw); obtain ⟨e0, e1, e2, e3, e4, e5, e6, e7⟩ := hSw; dsimp only at e0 e1 e2 e3 e4 e5 e6 e7; go_simp; all_goals with_reducible rfl)
    simp only [Act.put, List.getElem_toArray, List.getElem_cons_zero, List.getElem_cons_succ, List.setIfInBounds_toArray, List.set_cons_zero, List.set_cons_succ]
    refine wpAnyH_done (by kernel_rfl) ?_ _
    exact ⟨rfl, ⟨hg52, HB52⟩, by kernel_rfl⟩
  ·refine step_conv rfl _ rfl tt hBt _ rfl (by rfl) (by omega) ?_
   intro cp53 y53 rdN53 hy53 hlt53
   have neN53 := hGy.ne (Nat.le_refl _)
   have HB53 : Below w.heap.size w y53 := HBy.trans (hy53.mono HBy.size)
   have hg53 := hGy.below hy53 (Nat.le_refl _)
   refine hK.out _ _ (HQ.out _ HB53).1 (fun hHeld => ?_)
   clear hK K
   refine wpAnyH_ready (rs := [5, 13]) (by kernel_rfl) (by simp) ?_
   refine AllReadyH.cons rfl (fun K hK => ?_) (AllReadyH.cons rfl (fun K hK => ?_) AllReadyH.nil)
   ·refine step_conv rfl _ rfl tx hBx _ rfl (by rfl) (by omega) ?_
    intro cp54 y54 rdN54 hy54 hlt54
    have neN54 := hg53.ne (Nat.le_refl _)
    have HB54 : Below w.heap.size w y54 := HB53.trans (hy54.mono HB53.size)
    have hg54 := hg53.below hy54 (Nat.le_refl _)
    have rd1954 := rdN53.below hy54
    have lt1954 := Nat.lt_of_lt_of_le hlt53 hy54.size
    refine hK.out _ _ (HQ.out _ HB54).1 (fun hHeld => ?_)
    clear hK K
    refine wpAnyH_ready (rs := [6, 13]) (by kernel_rfl) (by simp) ?_
    refine AllReadyH.cons rfl (fun K hK => ?_) (AllReadyH.cons rfl (fun K hK => ?_) AllReadyH.nil)
    ·refine step_app_grx rfl _ _ 22 rfl w.heap.size _ [0, 0, k, tx.length] (by rfl) hg54 _ _ tx (by rfl) (src_slice rfl rdN54 (fun h => by cases h)) rfl (by have := ln0; omega) HB54.size ?_
     intro v55 y55 hg55 hb55 hk55
     have HB55 : Below w.heap.size w y55 := HB54.trans hb55
     have ln55 : ([0, 0, k, tx.length] ++ tx).length ≤ 12 := by have := ln0; rw [List.length_append]; omega
     have rd1955 := hk55.1 _ _ _ lt1954 neN53 rd1954
     have ne1955 := hk55.2 _ lt1954 neN53
     have lt1955 := Nat.lt_of_lt_of_le lt1954 hb55.size
     refine hK.out _ _ (HQ.out _ HB55).1 (fun hHeld => ?_)
     clear hK K
     refine wpAnyH_ready (rs := [13]) (by kernel_rfl) (by simp) ?_
     refine AllReadyH.cons rfl (fun K hK => ?_) AllReadyH.nil
     have hy56 : Below y55.heap.size y55 (y55.alloc (.cells #[.int .u8 (tt.length : Int)] 5)) := (Below.refl _ _).alloc (Nat.le_refl _) _
     have rdN56 : Rd (y55.alloc (.cells #[.int .u8 (tt.length : Int)] 5)) (some ⟨y55.heap.size, 0, none⟩) [tt.length] := rd_one y55 tt.length
     have hlt56 : y55.heap.size < (y55.alloc (.cells #[.int .u8 (tt.length : Int)] 5)).heap.size := by simp
     have neN56 := hg55.ne (Nat.le_refl _)
     go_simp
     generalize y55.alloc (.cells #[.int .u8 (tt.length : Int)] 5) = y56 at *
     have HB56 : Below w.heap.size w y56 := HB55.trans (hy56.mono HB55.size)
     have hg56 := hg55.below hy56 (Nat.le_refl _)
     have rd1956 := rd1955.below hy56
     have lt1956 := Nat.lt_of_lt_of_le lt1955 hy56.size
     refine hK.out _ _ (HQ.out _ HB56).1 (fun hHeld => ?_)
     clear hK K
     refine wpAnyH_ready (rs := [14]) (by kernel_rfl) (by simp) ?_
     refine AllReadyH.cons rfl (fun K hK => ?_) AllReadyH.nil
     refine step_app_grx rfl _ _ 22 rfl w.heap.size _ ([0, 0, k, tx.length] ++ tx) (by rfl) hg56 _ _ [tt.length] (by rfl) (src_slice rfl rdN56 (fun h => by cases h)) rfl (by have := ln55; simp only [List.length_cons, List.length_nil]; omega) HB56.size ?_
     intro v57 y57 hg57 hb57 hk57
     have HB57 : Below w.heap.size w y57 := HB56.trans hb57
     have ln57 : (([0, 0, k, tx.length] ++ tx) ++ [tt.length]).length ≤ 13 := by have := ln55; rw [List.length_append]; simp only [List.length_cons, List.length_nil]; omega
     have rd1957 := hk57.1 _ _ _ lt1956 ne1955 rd1956
     have ne1957 := hk57.2 _ lt1956 ne1955
     have lt1957 := Nat.lt_of_lt_of_le lt1956 hb57.size
     refine hK.out _ _ (HQ.out _ HB57).1 (fun hHeld => ?_)
     clear hK K
     refine wpAnyH_ready (rs := [20]) (by kernel_rfl) (by simp) ?_
     refine AllReadyH.cons rfl (fun K hK => ?_) AllReadyH.nil
     refine step_app_grx rfl _ _ 22 rfl w.heap.size _ (([0, 0, k, tx.length] ++ tx) ++ [tt.length]) (by rfl) hg57 _ _ tt (by rfl) (src_slice rfl rd1957 (fun h => by cases h)) rfl (by have := ln57; omega) HB57.size ?_
     intro v58 y58 hg58 hb58 hk58
     have HB58 : Below w.heap.size w y58 := HB57.trans hb58
     have ln58 : ((([0, 0, k, tx.length] ++ tx) ++ [tt.length]) ++ tt).length ≤ 21 := by have := ln57; rw [List.length_append]; omega
     refine hK.out _ _ (HQ.out _ HB58).1 (fun hHeld => ?_)
     clear hK K
     refine wpAnyH_take (i := 21) (v := ?_) rfl (by kernel_rfl) (by kernel_rfl) (by kernel_rfl) (fun _ _ _ h => absurd h.1 (fun e => by cases e)) (Or.inl ⟨by rfl, ?hy42⟩) (by assumption) ?ty42
     case hy42 => (intro w5 hSw; (try dsimp only at hSw); obtain ⟨e0, e1, e2, e3, e4, e5, e6, e7⟩ := hSw; dsimp only at e0 e1 e2 e3 e4 e5 e6 e7; go_simp; all_goals with_reducible rfl)
     simp only [Act.put, List.getElem_toArray, List.getElem_cons_zero, List.getElem_cons_succ, List.setIfInBounds_toArray, List.set_cons_zero, List.set_cons_succ]
     refine wpAnyH_done (by kernel_rfl) ?_ _
     exact ⟨rfl, ⟨hg58, HB58⟩, by kernel_rfl⟩
    ·have hy59 : Below y54.heap.size y54 (y54.alloc (.cells #[.int .u8 (tt.length : Int)] 5)) := (Below.refl _ _).alloc (Nat.le_refl _) _
     have rdN59 : Rd (y54.alloc (.cells #[.int .u8 (tt.length : Int)] 5)) (some ⟨y54.heap.size, 0, none⟩) [tt.length] := rd_one y54 tt.length
     have hlt59 : y54.heap.size < (y54.alloc (.cells #[.int .u8 (tt.length : Int)] 5)).heap.size := by simp
     have neN59 := hg54.ne (Nat.le_refl _)
     go_simp
     generalize y54.alloc (.cells #[.int .u8 (tt.length : Int)] 5) = y59 at *
     have HB59 : Below w.heap.size w y59 := HB54.trans (hy59.mono HB54.size)
     have hg59 := hg54.below hy59 (Nat.le_refl _)
     have rd1959 := rd1954.below hy59
     have lt1959 := Nat.lt_of_lt_of_le lt1954 hy59.size
     have rd559 := rdN54.below hy59
     have lt559 := Nat.lt_of_lt_of_le hlt54 hy59.size
     refine hK.out _ _ (HQ.out _ HB59).1 (fun hHeld => ?_)
     clear hK K
     refine wpAnyH_ready (rs := [6]) (by kernel_rfl) (by simp) ?_
     refine AllReadyH.cons rfl (fun K hK => ?_) AllReadyH.nil
     refine step_app_grx rfl _ _ 22 rfl w.heap.size _ [0, 0, k, tx.length] (by rfl) hg59 _ _ tx (by rfl) (src_slice rfl rd559 (fun h => by cases h)) rfl (by have := ln0; omega) HB59.size ?_
     intro v60 y60 hg60 hb60 hk60
     have HB60 : Below w.heap.size w y60 := HB59.trans hb60
     have ln60 : ([0, 0, k, tx.length] ++ tx).length ≤ 12 := by have := ln0; rw [List.length_append]; omega
     have rd1960 := hk60.1 _ _ _ lt1959 neN53 rd1959
     have ne1960 := hk60.2 _ lt1959 neN53
     have lt1960 := Nat.lt_of_lt_of_le lt1959 hb60.size
     have rd1360 := hk60.1 _ _ _ hlt59 neN59 rdN59
     have ne1360 := hk60.2 _ hlt59 neN59
     have lt1360 := Nat.lt_of_lt_of_le hlt59 hb60.size
     refine hK.out _ _ (HQ.out _ HB60).1 (fun hHeld => ?_)
     clear hK K
     refine wpAnyH_ready (rs := [14]) (by kernel_rfl) (by simp) ?_
     refine AllReadyH.cons rfl (fun K hK => ?_) AllReadyH.nil
     refine step_app_grx rfl _ _ 22 rfl w.heap.size _ ([0, 0, k, tx.length] ++ tx) (by rfl) hg60 _ _ [tt.length] (by rfl) (src_slice rfl rd1360 (fun h => by cases h)) rfl (by have := ln60; simp only [List.length_cons, List.length_nil]; omega) HB60.size ?_
     intro v61 y61 hg61 hb61 hk61
     have HB61 : Below w.heap.size w y61 := HB60.trans hb61
     have ln61 : (([0, 0, k, tx.length] ++ tx) ++ [tt.length]).length ≤ 13 := by have := ln60; rw [List.length_append]; simp only [List.length_cons, List.length_nil]; omega
     have rd1961 := hk61.1 _ _ _ lt1960 ne1960 rd1960
     have ne1961 := hk61.2 _ lt1960 ne1960
     have lt1961 := Nat.lt_of_lt_of_le lt1960 hb61.size
     refine hK.out _ _ (HQ.out _ HB61).1 (fun hHeld => ?_)
     clear hK K
     refine wpAnyH_ready (rs := [20]) (by kernel_rfl) (by simp) ?_
     refine AllReadyH.cons rfl (fun K hK => ?_) AllReadyH.nil
     refine step_app_grx rfl _ _ 22 rfl w.heap.size _ (([0, 0, k, tx.length] ++ tx) ++ [tt.length]) (by rfl) hg61 _ _ tt (by rfl) (src_slice rfl rd1961 (fun h => by cases h)) rfl (by have := ln61; omega) HB61.size ?_
     intro v62 y62 hg62 hb62 hk62
     have HB62 : Below w.heap.size w y62 := HB61.trans hb62
     have ln62 : ((([0, 0, k, tx.length] ++ tx) ++ [tt.length]) ++ tt).length ≤ 21 := by have := ln61; rw [List.length_append]; omega
     refine hK.out _ _ (HQ.out _ HB62).1 (fun hHeld => ?_)
     clear hK K
     refine wpAnyH_take (i := 21) (v := ?_) rfl (by kernel_rfl) (by kernel_rfl) (by kernel_rfl) (fun _ _ _ h => absurd h.1 (fun e => by cases e)) (Or.inl ⟨by rfl, ?hy43⟩) (by assumption) ?ty43
     case hy43 => (intro w5 hSw; (try dsimp only at hSw); obtain ⟨e0, e1, e2, e3, e4, e5, e6, e7⟩ := hSw; dsimp only at e0 e1 e2 e3 e4 e5 e6 e7; go_simp; all_goals with_reducible rfl)
     simp only [Act.put, List.getElem_toArray, List.getElem_cons_zero, List.getElem_cons_succ, List.setIfInBounds_toArray, List.set_cons_zero, List.set_cons_succ]
     refine wpAnyH_done (by kernel_rfl) ?_ _
     exact ⟨rfl, ⟨hg62, HB62⟩, by kernel_rfl⟩
   ·have hy63 : Below y53.heap.size y53 (y53.alloc (.cells #[.int .u8 (tt.length : Int)] 5)) := (Below.refl _ _).alloc (Nat.le_refl _) _
    have rdN63 : Rd (y53.alloc (.cells #[.int .u8 (tt.length : Int)] 5)) (some ⟨y53.heap.size, 0, none⟩) [tt.length] := rd_one y53 tt.length
    have hlt63 : y53.heap.size < (y53.alloc (.cells #[.int .u8 (tt.length : Int)] 5)).heap.size := by simp
    have neN63 := hg53.ne (Nat.le_refl _)
    go_simp
    generalize y53.alloc (.cells #[.int .u8 (tt.length : Int)] 5) = y63 at *
    have HB63 : Below w.heap.size w y63 := HB53.trans (hy63.mono HB53.size)
    have hg63 := hg53.below hy63 (Nat.le_refl _)
    have rd1963 := rdN53.below hy63
    have lt1963 := Nat.lt_of_lt_of_le hlt53 hy63.size
    refine hK.out _ _ (HQ.out _ HB63).1 (fun hHeld => ?_)
    clear hK K
    refine wpAnyH_ready (rs := [5]) (by kernel_rfl) (by simp) ?_
    refine AllReadyH.cons rfl (fun K hK => ?_) AllReadyH.nil
    refine step_conv rfl _ rfl tx hBx _ rfl (by rfl) (by omega) ?_
    intro cp64 y64 rdN64 hy64 hlt64
    have neN64 := hg63.ne (Nat.le_refl _)
    have HB64 : Below w.heap.size w y64 := HB63.trans (hy64.mono HB63.size)
    have hg64 := hg63.below hy64 (Nat.le_refl _)
    have rd1964 := rd1963.below hy64
    have lt1964 := Nat.lt_of_lt_of_le lt1963 hy64.size
    have rd1364 := rdN63.below hy64
    have lt1364 := Nat.lt_of_lt_of_le hlt63 hy64.size
    refine hK.out _ _ (HQ.out _ HB64).1 (fun hHeld => ?_)
    clear hK K
    refine wpAnyH_ready (rs := [6]) (by kernel_rfl) (by simp) ?_
    refine AllReadyH.cons rfl (fun K hK => ?_) AllReadyH.nil
    refine step_app_grx rfl _ _ 22 rfl w.heap.size _ [0, 0, k, tx.length] (by rfl) hg64 _ _ tx (by rfl) (src_slice rfl rdN64 (fun h => by cases h)) rfl (by have := ln0; omega) HB64.size ?_
    intro v65 y65 hg65 hb65 hk65
    have HB65 : Below w.heap.size w y65 := HB64.trans hb65
    have ln65 : ([0, 0, k, tx.length] ++ tx).length ≤ 12 := by have := ln0; rw [List.length_append]; omega
    have rd1965 := hk65.1 _ _ _ lt1964 neN53 rd1964
    have ne1965 := hk65.2 _ lt1964 neN53
    have lt1965 := Nat.lt_of_lt_of_le lt1964 hb65.size
    have rd1365 := hk65.1 _ _ _ lt1364 neN63 rd1364
    have ne1365 := hk65.2 _ lt1364 neN63
    have lt1365 := Nat.lt_of_lt_of_le lt1364 hb65.size
    refine hK.out _ _ (HQ.out _ HB65).1 (fun hHeld => ?_)
    clear hK K
    refine wpAnyH_ready (rs := [14]) (by kernel_rfl) (by simp) ?_
    refine AllReadyH.cons rfl (fun K hK => ?_) AllReadyH.nil
    refine step_app_grx rfl _ _ 22 rfl w.heap.size _ ([0, 0, k, tx.length] ++ tx) (by rfl) hg65 _ _ [tt.length] (by rfl) (src_slice rfl rd1365 (fun h => by cases h)) rfl (by have := ln65; simp only [List.length_cons, List.length_nil]; omega) HB65.size ?_
    intro v66 y66 hg66 hb66 hk66
    have HB66 : Below w.heap.size w y66 := HB65.trans hb66
    have ln66 : (([0, 0, k, tx.length] ++ tx) ++ [tt.length]).length ≤ 13 := by have := ln65; rw [List.length_append]; simp only [List.length_cons, List.length_nil]; omega
    have rd1966 := hk66.1 _ _ _ lt1965 ne1965 rd1965
    have ne1966 := hk66.2 _ lt1965 ne1965
    have lt1966 := Nat.lt_of_lt_of_le lt1965 hb66.size
    refine hK.out _ _ (HQ.out _ HB66).1 (fun hHeld => ?_)
    clear hK K
    refine wpAnyH_ready (rs := [20]) (by kernel_rfl) (by simp) ?_
    refine AllReadyH.cons rfl (fun K hK => ?_) AllReadyH.nil
    refine step_app_grx rfl _ _ 22 rfl w.heap.size _ (([0, 0, k, tx.length] ++ tx) ++ [tt.length]) (by rfl) hg66 _ _ tt (by rfl) (src_slice rfl rd1966 (fun h => by cases h)) rfl (by have := ln66; omega) HB66.size ?_
    intro v67 y67 hg67 hb67 hk67
    have HB67 : Below w.heap.size w y67 := HB66.trans hb67
    have ln67 : ((([0, 0, k, tx.length] ++ tx) ++ [tt.length]) ++ tt).length ≤ 21 := by have := ln66; rw [List.length_append]; omega
    refine hK.out _ _ (HQ.out _ HB67).1 (fun hHeld => ?_)
    clear hK K
    refine wpAnyH_take (i := 21) (v := ?_) rfl (by kernel_rfl) (by kernel_rfl) (by kernel_rfl) (fun _ _ _ h => absurd h.1 (fun e => by cases e)) (Or.inl ⟨by rfl, ?hy44⟩) (by assumption) ?ty44
    case hy44 => (intro w5 hSw; (try dsimp only at hSw); obtain ⟨e0, e1, e2, e3, e4, e5, e6, e7⟩ := hSw; dsimp only at e0 e1 e2 e3 e4 e5 e6 e7; go_simp; all_goals with_reducible rfl)
    simp only [Act.put, List.getElem_toArray, List.getElem_cons_zero, List.getElem_cons_succ, List.setIfInBounds_toArray, List.set_cons_zero, List.set_cons_succ]
    refine wpAnyH_done (by kernel_rfl) ?_ _
    exact ⟨rfl, ⟨hg67, HB67⟩, by kernel_rfl⟩
 rcases vs with _ | ⟨u0, vs⟩
 ·simp at hlv
 rcases vs with _ | ⟨u1, vs⟩
 ·simp at hlv
 rcases vs with _ | ⟨u2, vs⟩
 ·simp at hlv
 rcases vs with _ | ⟨u3, vs⟩
 ·simp at hlv
 rcases vs with _ | ⟨u4, vs⟩
 ·simp at hlv
 rcases vs with _ | ⟨u5, vs⟩
 ·simp at hlv
 rcases vs with _ | ⟨u6, vs⟩
 ·simp at hlv
 rcases vs with _ | ⟨u7, vs⟩
 ·simp at hlv
 rcases vs with _ | ⟨u8, vs⟩
 ·simp at hlv
 rcases vs with _ | ⟨u9, vs⟩
 ·simp at hlv
 rcases vs with _ | ⟨u10, vs⟩
 ·simp at hlv
 rcases vs with _ | ⟨u11, vs⟩
 ·simp at hlv
 rcases vs with _ | ⟨u12, vs⟩
 ·simp at hlv
 rcases vs with _ | ⟨u13, vs⟩
 ·simp at hlv
 rcases vs with _ | ⟨u14, vs⟩
 ·simp at hlv
 rcases vs with _ | ⟨u15, vs⟩
 ·simp at hlv
 rcases vs with _ | ⟨u16, vs⟩
 ·simp at hlv
 rcases vs with _ | ⟨u17, vs⟩
 ·simp at hlv
 rcases vs with _ | ⟨u18, vs⟩
 ·simp at hlv
 rcases vs with _ | ⟨u19, vs⟩
 ·simp at hlv
 rcases vs with _ | ⟨u20, vs⟩
 ·simp at hlv
 rcases vs with _ | ⟨u21, vs⟩
 ·simp at hlv
 rcases vs with _ | ⟨ux, vs⟩
 rotate_left
 ·simp at hlv
 clear hlv
 simp only [putJ, Act.put, List.setIfInBounds_toArray, List.set_cons_zero, List.set_cons_succ]
 obtain ⟨hgr, hbr⟩ := hR
 have hg3 : Gr W w.heap.size u0 ((([0, 0, k, tx.length] ++ tx) ++ [tt.length]) ++ tt) := hgr
 have hz3 : w.heap.size ≤ W.heap.size := hbr.size
 have hl3 : ((([0, 0, k, tx.length] ++ tx) ++ [tt.length]) ++ tt).length ≤ 21 := by simp; omega
 have HY : Hid (((((((([0, 0, k, tx.length] ++ tx) ++ [tt.length]) ++ tt) ++ [un]) ++ uiB u) ++ [m, f]) ++ twoB d) ++ twoB bn ++ b = [0, 0] ++ ([k, tx.length] ++ X)) := by
  show _ = _
  rw [HX.out]
  simp only [List.append_assoc, List.cons_append, List.nil_append]
 clear hgr HX HB1 hG1 ln0
 generalize (([0, 0, k, tx.length] ++ tx) ++ [tt.length]) ++ tt = pr1 at *
 obtain ⟨⟨q0, q1, q2, q3, q4, q5, q6, q7⟩, -, -⟩ := HQ.out _ hbr
 dsimp only at q0 q1 q2 q3 q4 q5 q6 q7
 go_wp2_with (at_builtin; refine wpList_app_grx rfl _ _ 22 rfl w.heap.size _ pr1 (by rfl) (hg3.alloc _) _ _ [un] (by rfl) (src_one un rfl) rfl (by omega) (by simp; omega) ?_; intro v4 w4 hg4 hb4; have hB4 : Below w.heap.size w w4 := hbr.trans (((Below.refl _ _).alloc hz3 _).trans hb4); obtain ⟨⟨x0, x1, x2, x3, x4, x5, x6, x7⟩, -, -⟩ := HQ.out _ hB4; dsimp only at x0 x1 x2 x3 x4 x5 x6 x7)
 have hpl : (pr1 ++ [un]).length ≤ 22 := by simp; omega
 generalize pr1 ++ [un] = pre at *
 clear q0 q1 q2 q3 q4 q5 q6 q7 x0 x1 x2 x3 x4 x5 x6 x7 hb4 hg3 hbr hz3 hsx hst
 go_loopw [3, 4] (fun q i wr => ∃ j : Nat, j ≤ un ∧ i = .int .i64 j ∧ Gr wr w.heap.size q (pre ++ uiB (u.take j)) ∧ Below w.heap.size w wr) (fun _ i _ => un - (intOf i).toNat)
 case atStart => exact ⟨0, Nat.zero_le _, rfl, by simpa [uiB] using hg4, hB4⟩
 case round =>
  obtain ⟨j, hj, rfl, hgr, hbr⟩ := hrel
  have hzr : w.heap.size ≤ wr.heap.size := hbr.size
  obtain ⟨⟨q0, q1, q2, q3, q4, q5, q6, q7⟩, hrU, hrB⟩ := HQ.out _ hbr
  dsimp only at q0 q1 q2 q3 q4 q5 q6 q7
  have hlj : (pre ++ uiB (u.take j)).length ≤ 40 := by rw [List.length_append, uiB_len, List.length_take]; omega
  by_cases hjn : j < un
  ·have hji : (j : Int) < (un : Int) := by omega
   obtain ⟨bb, off, ea, -, hc⟩ := hrU.at_ (by rw [HUL.out]; omega)
   subst ea
   have hcj := hc j (by rw [HUL.out]; omega)
   have hju : j < u.length := by rw [HUL.out]; omega
   have hyz := HV.out (nthI u j) (by rw [nthI_get hju]; exact List.getElem_mem hju)
   have HS : Hid ((pre ++ uiB (u.take j)) ++ twoB (nthI u j).toNat = pre ++ uiB (u.take (j + 1))) := by show _ = _; rw [uiB_snoc u j hju, List.append_assoc]
   generalize nthI u j = y at *
   obtain ⟨y, rfl⟩ := Int.eq_ofNat_of_zero_le (show 0 ≤ y by omega)
   rw [Int.toNat_natCast] at HS
   have HC := l9Two_any y wr (by omega)
   clear hc hrB
   go_wp2_with fail
   refine HC.mono ?_
   rintro e w5 ⟨rfl, hr5, -, hb5⟩
   have hB5 := hbr.trans (hb5.mono hzr)
   have hg5 := hgr.below hb5 (Nat.le_refl _)
   have HL2 : Hid ((twoB y).length = 2) := rfl
   clear HC hgr
   go_wp2_with (at_builtin; refine wpList_app_grx rfl _ _ 22 rfl w.heap.size _ _ (by rfl) hg5 _ _ (twoB y) (by rfl) (src_slice HL2.out hr5 (fun h => by cases h)) HL2.out (by omega) hB5.size ?_; intro v6 w6 hg6 hb6; have hB6 := hB5.trans hb6)
   rw [HS.out] at hg6
   go_roundw
   case rel => exact ⟨j + 1, by omega, by go_num, hg6, hB6⟩
   case measure => simp [intOf]; omega
  ·have hji : ¬ (j : Int) < (un : Int) := by omega
   rw [List.take_of_length_le (show u.length ≤ j by rw [HUL.out]; omega)] at hgr hlj
   generalize pre ++ uiB u = pr2 at *
   have hlp2 := hlj
   have HB3 := hbr
   clear hrU hrB
   go_wp2_with fail
   refine wp_region_held_drew (S := fun w' => Qo w' R ⟨.int .i64 (k : Int), .string (str tx), .string (str tt), .slice ua un uc, .int .i64 (m : Int), .int .i64 (f : Int), .int .i64 (d : Int), .slice ba bn bc'⟩) (by kernel_rfl) ?hS45 (fun hHeld => ?_)
   case hS45 => exact (HQ.out _ HB3).1
   have HBy : Below w.heap.size w wr.drew := HB3.drew
   have hGy := hgr.drew
   generalize wr.drew = z0 at *
   refine wpAnyH_take (i := 0) (v := ?_) rfl (by kernel_rfl) (by kernel_rfl) (by kernel_rfl) (fun _ _ _ h => h) (Or.inl ⟨by rfl, ?hy46⟩) (by assumption) ?ty46
   case hy46 => (intro w5 hSw; (try dsimp only at hSw); obtain ⟨e0, e1, e2, e3, e4, e5, e6, e7⟩ := hSw; dsimp only at e0 e1 e2 e3 e4 e5 e6 e7; go_simp; all_goals with_reducible rfl)
   simp only [Act.put, List.getElem_toArray, List.getElem_cons_zero, List.setIfInBounds_toArray, List.set_cons_zero, List.set_cons_succ]
   refine wpAnyH_take (i := 1) (v := ?_) rfl (by kernel_rfl) (by kernel_rfl) (by kernel_rfl) (fun _ _ _ h => h) (Or.inl ⟨by rfl, ?hy47⟩) (by assumption) ?ty47
   case hy47 => (intro w5 hSw; (try dsimp only at hSw); obtain ⟨e0, e1, e2, e3, e4, e5, e6, e7⟩ := hSw; dsimp only at e0 e1 e2 e3 e4 e5 e6 e7; go_simp; all_goals with_reducible rfl)
   simp only [Act.put, List.getElem_toArray, List.getElem_cons_zero, List.getElem_cons_succ, List.setIfInBounds_toArray, List.set_cons_zero, List.set_cons_succ]
   refine wpAnyH_take (i := 2) (v := ?_) rfl (by kernel_rfl) (by kernel_rfl) (by kernel_rfl) (fun _ _ _ h => h) (Or.inl ⟨by rfl, ?hy48⟩) (by assumption) ?ty48
   case hy48 => (intro w5 hSw; (try dsimp only at hSw); obtain ⟨e0, e1, e2, e3, e4, e5, e6, e7⟩ := hSw; dsimp only at e0 e1 e2 e3 e4 e5 e6 e7; go_simp; all_goals with_reducible rfl)
   simp only [Act.put, List.getElem_toArray, List.getElem_cons_zero, List.getElem_cons_succ, List.setIfInBounds_toArray, List.set_cons_zero, List.set_cons_succ]
   refine wpAnyH_take (i := 3) (v := ?_) rfl (by kernel_rfl) (by kernel_rfl) (by kernel_rfl) (fun _ _ _ h => h) (Or.inl ⟨by rfl, ?hy49⟩) (by assumption) ?ty49
   case hy49 => (intro w5 hSw; (try dsimp only at hSw); obtain ⟨e0, e1, e2, e3, e4, e5, e6, e7⟩ := hSw; dsimp only at e0 e1 e2 e3 e4 e5 e6 e7; go_simp; all_goals with_reducible rfl)
   simp only [Act.put, List.getElem_toArray, List.getElem_cons_zero, List.getElem_cons_succ, List.setIfInBounds_toArray, List.set_cons_zero, List.set_cons_succ]
   refine wpAnyH_take (i := 4) (v := ?_) rfl (by kernel_rfl) (by kernel_rfl) (by kernel_rfl) (fun _ _ _ h => h) (Or.inl ⟨by rfl, ?hy50⟩) (by assumption) ?ty50
   case hy50 => (intro w5 hSw; (try dsimp only at hSw); obtain ⟨e0, e1, e2, e3, e4, e5, e6, e7⟩ := hSw; dsimp only at e0 e1 e2 e3 e4 e5 e6 e7; go_simp; all_goals with_reducible rfl)
   simp only [Act.put, List.getElem_toArray, List.getElem_cons_zero, List.getElem_cons_succ, List.setIfInBounds_toArray, List.set_cons_zero, List.set_cons_succ]
   refine wpAnyH_take (i := 5) (v := .int .u8 (m : Int)) rfl (by kernel_rfl) (by kernel_rfl) (by kernel_rfl) (fun _ _ _ h => h) (Or.inl ⟨by rfl, ?hy51⟩) (by assumption) ?ty51
   case hy51 => (intro w5 hSw; (try dsimp only at hSw); obtain ⟨e0, e1, e2, e3, e4, e5, e6, e7⟩ := hSw; dsimp only at e0 e1 e2 e3 e4 e5 e6 e7; go_simp; all_goals (simp [hwm]))
   simp only [Act.put, List.getElem_toArray, List.getElem_cons_zero, List.getElem_cons_succ, List.setIfInBounds_toArray, List.set_cons_zero, List.set_cons_succ]
   refine wpAnyH_take (i := 6) (v := ?_) rfl (by kernel_rfl) (by kernel_rfl) (by kernel_rfl) (fun _ _ _ h => h) (Or.inl ⟨by rfl, ?hy52⟩) (by assumption) ?ty52
   case hy52 => (intro w5 hSw; (try dsimp only at hSw); obtain ⟨e0, e1, e2, e3, e4, e5, e6, e7⟩ := hSw; dsimp only at e0 e1 e2 e3 e4 e5 e6 e7; go_simp; all_goals with_reducible rfl)
   simp only [Act.put, List.getElem_toArray, List.getElem_cons_zero, List.getElem_cons_succ, List.setIfInBounds_toArray, List.set_cons_zero, List.set_cons_succ]
   refine wpAnyH_take (i := 7) (v := ?_) rfl (by kernel_rfl) (by kernel_rfl) (by kernel_rfl) (fun _ _ _ h => h) (Or.inl ⟨by rfl, ?hy53⟩) (by assumption) ?ty53
   case hy53 => (intro w5 hSw; (try dsimp only at hSw); obtain ⟨e0, e1, e2, e3, e4, e5, e6, e7⟩ := hSw; dsimp only at e0 e1 e2 e3 e4 e5 e6 e7; go_simp; all_goals with_reducible rfl)
   simp only [Act.put, List.getElem_toArray, List.getElem_cons_zero, List.getElem_cons_succ, List.setIfInBounds_toArray, List.set_cons_zero, List.set_cons_succ]
   refine wpAnyH_take (i := 8) (v := ?_) rfl (by kernel_rfl) (by kernel_rfl) (by kernel_rfl) (fun _ _ _ h => h) (Or.inl ⟨by rfl, ?hy54⟩) (by assumption) ?ty54
   case hy54 => (intro w5 hSw; (try dsimp only at hSw); obtain ⟨e0, e1, e2, e3, e4, e5, e6, e7⟩ := hSw; dsimp only at e0 e1 e2 e3 e4 e5 e6 e7; go_simp; all_goals with_reducible rfl)
   simp only [Act.put, List.getElem_toArray, List.getElem_cons_zero, List.getElem_cons_succ, List.setIfInBounds_toArray, List.set_cons_zero, List.set_cons_succ]
   refine wpAnyH_take (i := 9) (v := ?_) rfl (by kernel_rfl) (by kernel_rfl) (by kernel_rfl) (fun _ _ _ h => h) (Or.inl ⟨by rfl, ?hy55⟩) (by assumption) ?ty55
   case hy55 => (intro w5 hSw; (try dsimp only at hSw); obtain ⟨e0, e1, e2, e3, e4, e5, e6, e7⟩ := hSw; dsimp only at e0 e1 e2 e3 e4 e5 e6 e7; go_simp; all_goals with_reducible rfl)
   simp only [Act.put, List.getElem_toArray, List.getElem_cons_zero, List.getElem_cons_succ, List.setIfInBounds_toArray, List.set_cons_zero, List.set_cons_succ]
   refine wpAnyH_take (i := 10) (v := .int .u8 (f : Int)) rfl (by kernel_rfl) (by kernel_rfl) (by kernel_rfl) (fun _ _ _ h => h) (Or.inl ⟨by rfl, ?hy56⟩) (by assumption) ?ty56
   case hy56 => (intro w5 hSw; (try dsimp only at hSw); obtain ⟨e0, e1, e2, e3, e4, e5, e6, e7⟩ := hSw; dsimp only at e0 e1 e2 e3 e4 e5 e6 e7; go_simp; all_goals (simp [hwf]))
   simp only [Act.put, List.getElem_toArray, List.getElem_cons_zero, List.getElem_cons_succ, List.setIfInBounds_toArray, List.set_cons_zero, List.set_cons_succ]
   refine wpAnyH_take (i := 13) (v := ?_) rfl (by kernel_rfl) (by kernel_rfl) (by kernel_rfl) (fun _ _ _ h => h) (Or.inl ⟨by rfl, ?hy57⟩) (by assumption) ?ty57
   case hy57 => (intro w5 hSw; (try dsimp only at hSw); obtain ⟨e0, e1, e2, e3, e4, e5, e6, e7⟩ := hSw; dsimp only at e0 e1 e2 e3 e4 e5 e6 e7; go_simp; all_goals with_reducible rfl)
   simp only [Act.put, List.getElem_toArray, List.getElem_cons_zero, List.getElem_cons_succ, List.setIfInBounds_toArray, List.set_cons_zero, List.set_cons_succ]
   refine wpAnyH_take (i := 14) (v := ?_) rfl (by kernel_rfl) (by kernel_rfl) (by kernel_rfl) (fun _ _ _ h => h) (Or.inl ⟨by rfl, ?hy58⟩) (by assumption) ?ty58
   case hy58 => (intro w5 hSw; (try dsimp only at hSw); obtain ⟨e0, e1, e2, e3, e4, e5, e6, e7⟩ := hSw; dsimp only at e0 e1 e2 e3 e4 e5 e6 e7; go_simp; all_goals with_reducible rfl)
   simp only [Act.put, List.getElem_toArray, List.getElem_cons_zero, List.getElem_cons_succ, List.setIfInBounds_toArray, List.set_cons_zero, List.set_cons_succ]
   refine wpAnyH_take (i := 15) (v := ?_) rfl (by kernel_rfl) (by kernel_rfl) (by kernel_rfl) (fun _ _ _ h => h) (Or.inl ⟨by rfl, ?hy59⟩) (by assumption) ?ty59
   case hy59 => (intro w5 hSw; (try dsimp only at hSw); obtain ⟨e0, e1, e2, e3, e4, e5, e6, e7⟩ := hSw; dsimp only at e0 e1 e2 e3 e4 e5 e6 e7; go_simp; all_goals with_reducible rfl)
   simp only [Act.put, List.getElem_toArray, List.getElem_cons_zero, List.getElem_cons_succ, List.setIfInBounds_toArray, List.set_cons_zero, List.set_cons_succ]
   refine wpAnyH_take (i := 16) (v := ?_) rfl (by kernel_rfl) (by kernel_rfl) (by kernel_rfl) (fun _ _ _ h => h) (Or.inl ⟨by rfl, ?hy60⟩) (by assumption) ?ty60
   case hy60 => (intro w5 hSw; (try dsimp only at hSw); obtain ⟨e0, e1, e2, e3, e4, e5, e6, e7⟩ := hSw; dsimp only at e0 e1 e2 e3 e4 e5 e6 e7; go_simp; all_goals with_reducible rfl)
   simp only [Act.put, List.getElem_toArray, List.getElem_cons_zero, List.getElem_cons_succ, List.setIfInBounds_toArray, List.set_cons_zero, List.set_cons_succ]
   refine wpAnyH_ready (rs := [11]) (by kernel_rfl) (by simp) ?_
   refine AllReadyH.cons rfl (fun K hK => ?_) AllReadyH.nil
   have hy68 : Below z0.heap.size z0 (z0.alloc (.cells #[.int .u8 (m : Int), .int .u8 (f : Int)] 5)) := (Below.refl _ _).alloc (Nat.le_refl _) _
   have rdN68 : Rd (z0.alloc (.cells #[.int .u8 (m : Int), .int .u8 (f : Int)] 5)) (some ⟨z0.heap.size, 0, none⟩) [m, f] := rd_two z0 m f
   have hlt68 : z0.heap.size < (z0.alloc (.cells #[.int .u8 (m : Int), .int .u8 (f : Int)] 5)).heap.size := by simp
   have neN68 := hGy.ne (Nat.le_refl _)
   go_simp
   generalize z0.alloc (.cells #[.int .u8 (m : Int), .int .u8 (f : Int)] 5) = y68 at *
   have HB68 : Below w.heap.size w y68 := HBy.trans (hy68.mono HBy.size)
   have hg68 := hGy.below hy68 (Nat.le_refl _)
   refine hK.out _ _ (HQ.out _ HB68).1 (fun hHeld => ?_)
   clear hK K
   refine wpAnyH_ready (rs := [12]) (by kernel_rfl) (by simp) ?_
   refine AllReadyH.cons rfl (fun K hK => ?_) AllReadyH.nil
   refine step_app_grx rfl _ _ 22 rfl w.heap.size _ pr2 (by rfl) hg68 _ _ [m, f] (by rfl) (src_slice rfl rdN68 (fun h => by cases h)) rfl (by have := hlp2; simp only [List.length_cons, List.length_nil]; omega) HB68.size ?_
   intro v69 y69 hg69 hb69 hk69
   have HB69 : Below w.heap.size w y69 := HB68.trans hb69
   have ln69 : (pr2 ++ [m, f]).length ≤ 42 := by have := hlp2; rw [List.length_append]; simp only [List.length_cons, List.length_nil]; omega
   refine hK.out _ _ (HQ.out _ HB69).1 (fun hHeld => ?_)
   clear hK K
   refine wpAnyH_ready (rs := [17]) (by kernel_rfl) (by simp) ?_
   refine AllReadyH.cons rfl (fun K hK => ?_) AllReadyH.nil
   go_simp
   refine (l9Two_any d y69 (by omega)).mono ?_
   rintro e y70 ⟨rfl, rdN70, hlt70, hy70⟩
   have neN70 := hg69.ne (Nat.le_refl _)
   have HB70 : Below w.heap.size w y70 := HB69.trans (hy70.mono HB69.size)
   have hg70 := hg69.below hy70 (Nat.le_refl _)
   refine hK.out _ _ (HQ.out _ HB70).1 (fun hHeld => ?_)
   clear hK K
   refine wpAnyH_ready (rs := [18]) (by kernel_rfl) (by simp) ?_
   refine AllReadyH.cons rfl (fun K hK => ?_) AllReadyH.nil
   refine step_app_grx rfl _ _ 22 rfl w.heap.size _ (pr2 ++ [m, f]) (by rfl) hg70 _ _ (twoB d) (by rfl) (src_slice rfl rdN70 (fun h => by cases h)) rfl (by have := ln69; simp only [twoB, List.length_cons, List.length_nil]; omega) HB70.size ?_
   intro v71 y71 hg71 hb71 hk71
   have HB71 : Below w.heap.size w y71 := HB70.trans hb71
   have ln71 : ((pr2 ++ [m, f]) ++ (twoB d)).length ≤ 44 := by have := ln69; rw [List.length_append]; simp only [twoB, List.length_cons, List.length_nil]; omega
   refine hK.out _ _ (HQ.out _ HB71).1 (fun hHeld => ?_)
   clear hK K
   refine wpAnyH_take (i := 19) (v := ?_) rfl (by kernel_rfl) (by kernel_rfl) (by kernel_rfl) (fun _ _ _ h => h) (Or.inl ⟨by rfl, ?hy61⟩) (by assumption) ?ty61
   case hy61 => (intro w5 hSw; (try dsimp only at hSw); obtain ⟨e0, e1, e2, e3, e4, e5, e6, e7⟩ := hSw; dsimp only at e0 e1 e2 e3 e4 e5 e6 e7; go_simp; all_goals with_reducible rfl)
   simp only [Act.put, List.getElem_toArray, List.getElem_cons_zero, List.getElem_cons_succ, List.setIfInBounds_toArray, List.set_cons_zero, List.set_cons_succ]
   refine wpAnyH_done (by kernel_rfl) ?_ _
   clear hHeld
   have HB4 := HB71
   have hg4 := hg71
   have hl4 := ln71
   clear HB71 hg71 ln71
   generalize pr2 ++ [m, f] ++ twoB d = pr3 at *
   go_wp2_with fail
   refine wp_region_held_drew (S := fun w' => Qo w' R ⟨.int .i64 (k : Int), .string (str tx), .string (str tt), .slice ua un uc, .int .i64 (m : Int), .int .i64 (f : Int), .int .i64 (d : Int), .slice ba bn bc'⟩) (by kernel_rfl) ?hS62 (fun hHeld => ?_)
   case hS62 => exact (HQ.out _ HB4).1
   have HBy : Below w.heap.size w y71.drew := HB4.drew
   have hGy := hg4.drew
   generalize y71.drew = z1 at *
   refine wpAnyH_take (i := 0) (v := ?_) rfl (by kernel_rfl) (by kernel_rfl) (by kernel_rfl) (fun _ _ _ h => h) (Or.inl ⟨by rfl, ?hy63⟩) (by assumption) ?ty63
   case hy63 => (intro w5 hSw; (try dsimp only at hSw); obtain ⟨e0, e1, e2, e3, e4, e5, e6, e7⟩ := hSw; dsimp only at e0 e1 e2 e3 e4 e5 e6 e7; go_simp; all_goals with_reducible rfl)
   simp only [Act.put, List.getElem_toArray, List.getElem_cons_zero, List.setIfInBounds_toArray, List.set_cons_zero, List.set_cons_succ]
   refine wpAnyH_take (i := 1) (v := ?_) rfl (by kernel_rfl) (by kernel_rfl) (by kernel_rfl) (fun _ _ _ h => h) (Or.inl ⟨by rfl, ?hy64⟩) (by assumption) ?ty64
   case hy64 => (intro w5 hSw; (try dsimp only at hSw); obtain ⟨e0, e1, e2, e3, e4, e5, e6, e7⟩ := hSw; dsimp only at e0 e1 e2 e3 e4 e5 e6 e7; go_simp; all_goals with_reducible rfl)
   simp only [Act.put, List.getElem_toArray, List.getElem_cons_zero, List.getElem_cons_succ, List.setIfInBounds_toArray, List.set_cons_zero, List.set_cons_succ]
   refine wpAnyH_take (i := 2) (v := ?_) rfl (by kernel_rfl) (by kernel_rfl) (by kernel_rfl) (fun _ _ _ h => h) (Or.inl ⟨by rfl, ?hy65⟩) (by assumption) ?ty65
   case hy65 => (intro w5 hSw; (try dsimp only at hSw); obtain ⟨e0, e1, e2, e3, e4, e5, e6, e7⟩ := hSw; dsimp only at e0 e1 e2 e3 e4 e5 e6 e7; go_simp; all_goals with_reducible rfl)
   simp only [Act.put, List.getElem_toArray, List.getElem_cons_zero, List.getElem_cons_succ, List.setIfInBounds_toArray, List.set_cons_zero, List.set_cons_succ]
   refine wpAnyH_take (i := 3) (v := ?_) rfl (by kernel_rfl) (by kernel_rfl) (by kernel_rfl) (fun _ _ _ h => h) (Or.inl ⟨by rfl, ?hy66⟩) (by assumption) ?ty66
   case hy66 => (intro w5 hSw; (try dsimp only at hSw); obtain ⟨e0, e1, e2, e3, e4, e5, e6, e7⟩ := hSw; dsimp only at e0 e1 e2 e3 e4 e5 e6 e7; go_simp; all_goals with_reducible rfl)
   simp only [Act.put, List.getElem_toArray, List.getElem_cons_zero, List.getElem_cons_succ, List.setIfInBounds_toArray, List.set_cons_zero, List.set_cons_succ]
   refine wpAnyH_take (i := 4) (v := ?_) rfl (by kernel_rfl) (by kernel_rfl) (by kernel_rfl) (fun _ _ _ h => h) (Or.inl ⟨by rfl, ?hy67⟩) (by assumption) ?ty67
   case hy67 => (intro w5 hSw; (try dsimp only at hSw); obtain ⟨e0, e1, e2, e3, e4, e5, e6, e7⟩ := hSw; dsimp only at e0 e1 e2 e3 e4 e5 e6 e7; go_simp; all_goals with_reducible rfl)
   simp only [Act.put, List.getElem_toArray, List.getElem_cons_zero, List.getElem_cons_succ, List.setIfInBounds_toArray, List.set_cons_zero, List.set_cons_succ]
   refine wpAnyH_take (i := 5) (v := .int .i64 (bn : Int)) rfl (by kernel_rfl) (by kernel_rfl) (by kernel_rfl) (fun _ _ _ h => h) (Or.inl ⟨by rfl, ?hy68⟩) (by assumption) ?ty68
   case hy68 => (intro w5 hSw; (try dsimp only at hSw); obtain ⟨e0, e1, e2, e3, e4, e5, e6, e7⟩ := hSw; dsimp only at e0 e1 e2 e3 e4 e5 e6 e7; go_simp; first | (simp; done) | (all_goals with_reducible rfl))
   simp only [Act.put, List.getElem_toArray, List.getElem_cons_zero, List.getElem_cons_succ, List.setIfInBounds_toArray, List.set_cons_zero, List.set_cons_succ]
   refine wpAnyH_take (i := 8) (v := ?_) rfl (by kernel_rfl) (by kernel_rfl) (by kernel_rfl) (fun _ _ _ h => h) (Or.inl ⟨by rfl, ?hy69⟩) (by assumption) ?ty69
   case hy69 => (intro w5 hSw; (try dsimp only at hSw); obtain ⟨e0, e1, e2, e3, e4, e5, e6, e7⟩ := hSw; dsimp only at e0 e1 e2 e3 e4 e5 e6 e7; go_simp; all_goals with_reducible rfl)
   simp only [Act.put, List.getElem_toArray, List.getElem_cons_zero, List.getElem_cons_succ, List.setIfInBounds_toArray, List.set_cons_zero, List.set_cons_succ]
   refine wpAnyH_take (i := 9) (v := ?_) rfl (by kernel_rfl) (by kernel_rfl) (by kernel_rfl) (fun _ _ _ h => h) (Or.inl ⟨by rfl, ?hy70⟩) (by assumption) ?ty70
   case hy70 => (intro w5 hSw; (try dsimp only at hSw); obtain ⟨e0, e1, e2, e3, e4, e5, e6, e7⟩ := hSw; dsimp only at e0 e1 e2 e3 e4 e5 e6 e7; go_simp; all_goals with_reducible rfl)
   simp only [Act.put, List.getElem_toArray, List.getElem_cons_zero, List.getElem_cons_succ, List.setIfInBounds_toArray, List.set_cons_zero, List.set_cons_succ]
   refine wpAnyH_take (i := 10) (v := ?_) rfl (by kernel_rfl) (by kernel_rfl) (by kernel_rfl) (fun _ _ _ h => h) (Or.inl ⟨by rfl, ?hy71⟩) (by assumption) ?ty71
   case hy71 => (intro w5 hSw; (try dsimp only at hSw); obtain ⟨e0, e1, e2, e3, e4, e5, e6, e7⟩ := hSw; dsimp only at e0 e1 e2 e3 e4 e5 e6 e7; go_simp; all_goals with_reducible rfl)
   simp only [Act.put, List.getElem_toArray, List.getElem_cons_zero, List.getElem_cons_succ, List.setIfInBounds_toArray, List.set_cons_zero, List.set_cons_succ]
   refine wpAnyH_take (i := 11) (v := ?_) rfl (by kernel_rfl) (by kernel_rfl) (by kernel_rfl) (fun _ _ _ h => h) (Or.inl ⟨by rfl, ?hy72⟩) (by assumption) ?ty72
   case hy72 => (intro w5 hSw; (try dsimp only at hSw); obtain ⟨e0, e1, e2, e3, e4, e5, e6, e7⟩ := hSw; dsimp only at e0 e1 e2 e3 e4 e5 e6 e7; go_simp; all_goals with_reducible rfl)
   simp only [Act.put, List.getElem_toArray, List.getElem_cons_zero, List.getElem_cons_succ, List.setIfInBounds_toArray, List.set_cons_zero, List.set_cons_succ]
   refine wpAnyH_ready (rs := [6]) (by kernel_rfl) (by simp) ?_
   refine AllReadyH.cons rfl (fun K hK => ?_) AllReadyH.nil
   go_simp
   refine (l9Two_any bn z1 (by omega)).mono ?_
   rintro e y72 ⟨rfl, rdN72, hlt72, hy72⟩
   have neN72 := hGy.ne (Nat.le_refl _)
   have HB72 : Below w.heap.size w y72 := HBy.trans (hy72.mono HBy.size)
   have hg72 := hGy.below hy72 (Nat.le_refl _)
   refine hK.out _ _ (HQ.out _ HB72).1 (fun hHeld => ?_)
   clear hK K
   refine wpAnyH_ready (rs := [7]) (by kernel_rfl) (by simp) ?_
   refine AllReadyH.cons rfl (fun K hK => ?_) AllReadyH.nil
   refine step_app_grx rfl _ _ 22 rfl w.heap.size _ pr3 (by rfl) hg72 _ _ (twoB bn) (by rfl) (src_slice rfl rdN72 (fun h => by cases h)) rfl (by have := hl4; simp only [twoB, List.length_cons, List.length_nil]; omega) HB72.size ?_
   intro v73 y73 hg73 hb73 hk73
   have HB73 : Below w.heap.size w y73 := HB72.trans hb73
   have ln73 : (pr3 ++ (twoB bn)).length ≤ 46 := by have := hl4; rw [List.length_append]; simp only [twoB, List.length_cons, List.length_nil]; omega
   refine hK.out _ _ (HQ.out _ HB73).1 (fun hHeld => ?_)
   clear hK K
   refine wpAnyH_ready (rs := [12]) (by kernel_rfl) (by simp) ?_
   refine AllReadyH.cons rfl (fun K hK => ?_) AllReadyH.nil
   refine step_app_grx rfl _ _ 22 rfl w.heap.size _ (pr3 ++ (twoB bn)) (by rfl) hg73 _ _ b (by rfl) (src_slice HBL.out (HQ.out _ HB73).2.2 HB0.out) HBL.out (by have := ln73; omega) HB73.size ?_
   intro v74 y74 hg74 hb74 hk74
   have HB74 : Below w.heap.size w y74 := HB73.trans hb74
   refine hK.out _ _ (HQ.out _ HB74).1 (fun hHeld => ?_)
   clear hK K
   refine wpAnyH_take (i := 13) (v := ?_) rfl (by kernel_rfl) (by kernel_rfl) (by kernel_rfl) (fun _ _ _ h => h) (Or.inl ⟨by rfl, ?hy73⟩) (by assumption) ?ty73
   case hy73 => (intro w5 hSw; (try dsimp only at hSw); obtain ⟨e0, e1, e2, e3, e4, e5, e6, e7⟩ := hSw; dsimp only at e0 e1 e2 e3 e4 e5 e6 e7; go_simp; all_goals with_reducible rfl)
   simp only [Act.put, List.getElem_toArray, List.getElem_cons_zero, List.getElem_cons_succ, List.setIfInBounds_toArray, List.set_cons_zero, List.set_cons_succ]
   refine wpAnyH_done (by kernel_rfl) ?_ _
   clear hHeld
   have HB5 := HB74
   have hg5 := hg74
   clear HB74 hg74
   rw [HY.out] at hg5
   have HL := HLX.out
   have hlL : ([0, 0] ++ ([k, tx.length] ++ X)).length = X.length + 4 := by simp
   obtain ⟨M, hM⟩ : ∃ M, M = X.length + 4 + 2 := ⟨_, rfl⟩
   have HPK2 : Hid (PK = (twoB M ++ ([k, tx.length] ++ X)) ++ twoB (smJ 1 (twoB M ++ ([k, tx.length] ++ X)))) := by
    have e : ([k, tx.length] ++ X).length + 4 = M := by rw [hM]; simp
    show _ = _
    rw [HPK.out, e]
   have HBH2 : Hid (IsB (twoB M ++ ([k, tx.length] ++ X))) := by
    have e : ([k, tx.length] ++ X).length + 4 = M := by rw [hM]; simp
    have h := HBH.out
    rw [e] at h
    exact h
   have hM2 : M < 65536 := by omega
   have HT := l9Two_any M y74 hM2
   rw [show (M : Int) = (X.length : Int) + 4 + 2 by omega] at HT
   have hnL : X.length ≤ 636 := HL
   obtain ⟨g5, cp5, rfl, -⟩ := id hg5
   rw [hlL] at hg5 ⊢
   clear HPK HBH HL HLX hM
   generalize X.length = xn at *
   go_wp2_with fail
   refine HT.mono ?_
   rintro e w6 ⟨rfl, hr6, hlt6, hb6⟩
   have hB6 := HB5.trans (hb6.mono HB5.size)
   have hg6 := hg5.below hb6 (Nat.le_refl _)
   clear HT
   go_wp2_with (refine wpList_copy_gr rfl _ _ rfl w.heap.size _ ([0, 0] ++ ([k, tx.length] ++ X)) (twoB M) 2 2 ⟨y74.heap.size, 0, none⟩ rfl (by rw [hlL]; omega) (by rfl) hg6 (by rfl) (fun j hj => by (obtain ⟨b', off', e, -, hc⟩ := hr6.at_ (by simp [twoB]); cases e; rw [Go.WideShapes.add_plain]; exact hc j hj)) ?_; intro w7 hg7 hb7; have hB7 := hB6.trans hb7)
   have hg7 : Gr w7 w.heap.size (.slice (some ⟨g5, 0, none⟩) (xn + 4) cp5) (twoB M ++ ([k, tx.length] ++ X)) := hg7
   generalize twoB M ++ ([k, tx.length] ++ X) = hd at *
   obtain ⟨hhl, hrd7⟩ := hg7.form2
   have HS := l9Sum_any (some ⟨g5, 0, none⟩) (xn + 4) cp5 hd w7 hhl hrd7 HBH2.out (by omega)
   have hmm : smJ 1 hd < 65536 := smJ_lt _ _ (by omega)
   have HHL : Hid (hd.length = xn + 4) := hhl
   clear hhl hg6 hg5 HB5 hB6
   generalize smJ 1 hd = mm at *
   refine HS.mono ?_
   rintro e w8 ⟨rfl, rfl⟩
   go_wp2_with fail
   refine (l9Two_any mm w7 hmm).mono ?_
   rintro e w9 ⟨rfl, hr9, -, hb9⟩
   have hB9 := hB7.trans (hb9.mono hB7.size)
   have hg9 := hg7.below hb9 (Nat.le_refl _)
   have HL2 : Hid ((twoB mm).length = 2) := rfl
   clear hg7 HS
   go_wp2_with (at_builtin; refine wpList_app_grx rfl _ _ 22 rfl w.heap.size _ hd (by rfl) hg9 _ _ (twoB mm) (by rfl) (src_slice HL2.out hr9 (fun h => by cases h)) HL2.out (by rw [HHL.out]; omega) hB9.size ?_; intro v10 w10 hg10 hb10; have hB10 := hB9.trans hb10)
   go_ret
   refine ⟨_, rfl, ?_, hB10⟩
   rw [HPK2.out]
   exact hg10
end Go.Proofs.YtdcgihcjiiemdaaDoor
