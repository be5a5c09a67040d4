/- The model's digits of a number: at every number of at most five digits; no conditions beyond those that each fact names. -/
import Derived.Test.YtjogclofjollnaaGreatDoorJfzToApp
import Derived.Deep.RegionHeld3
import Derived.Handy
namespace Go.Proofs.YtjogclofjollnaaGreatDoor
open Go.RowKit
theorem str_plusY (a b : List Nat) : str a ++ str b = str (a ++ b) := by
 apply ByteArray.ext
 rw [ByteArray.data_append]
 simp [str]
def dgF : Nat → Nat → List Nat
 | 0, n => [48 + n]
 | d + 1, n => if n < 10 then [48 + n] else dgF d (n / 10) ++ [48 + n % 10]
theorem dgF_len : ∀ d n, (dgF d n).length ≤ d + 1
 | 0, _ => Nat.le_refl _
 | d + 1, n => by
  unfold dgF
  split
  ·simp
  ·have := dgF_len d (n / 10)
   rw [List.length_append]; simp; omega
theorem dgF_one {d n : Nat} (h : n < 10) : dgF d n = [48 + n] := by
 cases d with
 | zero => rfl
 | succ d => rw [dgF, if_pos h]
theorem run_one (W : World) (x : Nat) (c : Nat) : (convert 23 9 (.slice (some ⟨W.heap.size, 0, none⟩) 1 c)).run Tryz.prog (W.alloc (.cells #[.int .u8 (x : Int)] 5)) = .ok (.string (str [x])) (W.alloc (.cells #[.int .u8 (x : Int)] 5)) :=
 run_str (n := 1) (cap := c) (l := [x]) rfl (.inr ⟨W.heap.size, 0, rfl, by simp, fun i hi => by
  have : i = 0 := by simp at hi; omega
  subst this; simp [nth]⟩)
theorem run_old {w1 : World} {g : Nat} (hg : g < w1.heap.size) (x : Nat) (hc : w1.cell? ⟨g, 0, none⟩ = some (.int .u8 (x : Int))) (c : Nat) : (convert 23 9 (.slice (some ⟨g, 0, none⟩) 1 c)).run Tryz.prog w1 = .ok (.string (str [x])) w1 :=
 run_str (n := 1) (cap := c) (l := [x]) rfl (.inr ⟨g, 0, rfl, hg, fun i hi => by
  have : i = 0 := by simp at hi; omega
  subst this; simpa [nth] using hc⟩)
set_option maxHeartbeats 1600000 in
set_option maxRecDepth 100000 in
theorem l1Digits_low (d n : Nat) (w : World) (h : n < 10) : Calls Tryz.prog 55 #[.int .i64 (n : Int)] w fun e w' => e = .returned (.string (str (dgF d n))) ∧ Below w.heap.size w w' := by
 have hst := fun (c : Nat) => run_one w (48 + n) c
 rw [show ((48 + n : Nat) : Int) = 48 + (n : Int) by omega] at hst
 have HV : Hid (dgF d n = [48 + n]) := dgF_one h
 have c1 : (n : Int) < 10 := by omega
 have hb : Below w.heap.size w (w.alloc (.cells #[.int .u8 (48 + (n : Int))] 5)) := (Below.refl _ _).alloc (Nat.le_refl _) _
 go_enter Tryz.func55, Tryz.ntmps55
 go_wp2
 go_ret
 exact ⟨by rw [HV.out]; rfl, hb⟩
set_option maxHeartbeats 3200000 in
set_option maxRecDepth 100000 in
theorem l1Digits_step (d n : Nat) (w : World) (h10 : ¬ n < 10) (hn : n ≤ 1000000) (hd : d ≤ 5) (IH : ∀ w, Calls Tryz.prog 55 #[.int .i64 ((n / 10 : Nat) : Int)] w fun e w' => e = .returned (.string (str (dgF d (n / 10)))) ∧ Below w.heap.size w w') :
  Calls Tryz.prog 55 #[.int .i64 (n : Int)] w fun e w' => e = .returned (.string (str (dgF (d + 1) n))) ∧ Below w.heap.size w w' := by
 have HV : Hid (str (dgF d (n / 10)) ++ str [48 + n % 10] = str (dgF (d + 1) n)) := by
  show _ = _
  rw [str_plusY, dgF, if_neg h10]
 have hl := dgF_len d (n / 10)
 have hs : (str (dgF d (n / 10))).size ≤ 7 := by rw [str_size]; omega
 obtain ⟨q, hq⟩ : ∃ q, q = n / 10 := ⟨_, rfl⟩
 obtain ⟨r, hr⟩ : ∃ r, r = n % 10 := ⟨_, rfl⟩
 have hr10 : r < 10 := by omega
 have e1 : (n : Int) / 10 = (q : Int) := by omega
 have e2 : (n : Int) % 10 = (r : Int) := by omega
 have c1 : ¬ (n : Int) < 10 := by omega
 have c0 : 0 ≤ (n : Int) := by omega
 have hw5 : IntKind.i64.wrap (48 + (r : Int)) = 48 + (r : Int) := by rw [IntKind.wrap_i64]; omega
 have hw6 : IntKind.u8.wrap (48 + (r : Int)) = 48 + (r : Int) := by simp [IntKind.wrap, IntKind.bits, IntKind.signed]; omega
 have ew1 : IntKind.i64.wrap (q : Int) = (q : Int) := by rw [IntKind.wrap_i64]; omega
 have et2 : (n : Int).tmod 10 = (r : Int) := by rw [Int.tmod_eq_emod_of_nonneg c0]; exact e2
 have et1 : (n : Int).tdiv 10 = (q : Int) := by rw [Int.tdiv_eq_ediv_of_nonneg c0]; exact e1
 rw [← hq, ← hr] at HV
 rw [← hq] at IH hs
 have hs1 : (str [48 + r]).size = 1 := str_size _
 have hone := run_one
 have hold := fun (w1 : World) (g : Nat) (hg : g < w1.heap.size) (hc) (c : Nat) => run_old (w1 := w1) (g := g) hg (48 + r) hc c
 clear hl hq hr
 generalize dgF d q = ds at *
 generalize hso : str ds = so at *
 go_enter Tryz.func55, Tryz.ntmps55
 go_wp2_with fail
 refine wp_region_held_drew (S := fun _ => True) (by kernel_rfl) ?hS1 (fun hHeld => ?_)
 case hS1 => exact trivial
 refine wpAnyH_take (i := 0) (v := ?_) rfl (by kernel_rfl) (by kernel_rfl) (by kernel_rfl) (fun _ _ _ h => h) (Or.inl ⟨by rfl, ?hy2⟩) (by assumption) ?ty2
 case hy2 => (intro w5 hSw; (try dsimp only at hSw); (try obtain ⟨p0, p1, p2, p3, p4⟩ := hSw); go_simp; all_goals with_reducible rfl)
 simp only [Act.put, List.getElem_toArray, List.getElem_cons_zero, List.setIfInBounds_toArray, List.set_cons_zero, List.set_cons_succ]
 refine wpAnyH_take (i := 1) (v := .int .i64 (q : Int)) rfl (by kernel_rfl) (by kernel_rfl) (by kernel_rfl) (fun _ _ _ h => h) (Or.inl ⟨by rfl, ?hy3⟩) (by assumption) ?ty3
 case hy3 => (intro w5 hSw; (try dsimp only at hSw); (try obtain ⟨p0, p1, p2, p3, p4⟩ := hSw); go_simp; all_goals first | (simp [e1, ew1, et1]; done) | (rw [ew1]) | with_reducible rfl)
 simp only [Act.put, List.getElem_toArray, List.getElem_cons_zero, List.getElem_cons_succ, List.setIfInBounds_toArray, List.set_cons_zero, List.set_cons_succ]
 refine wpAnyH_take (i := 3) (v := ?_) rfl (by kernel_rfl) (by kernel_rfl) (by kernel_rfl) (fun _ _ _ h => h) (Or.inl ⟨by rfl, ?hy4⟩) (by assumption) ?ty4
 case hy4 => (intro w5 hSw; (try dsimp only at hSw); (try obtain ⟨p0, p1, p2, p3, p4⟩ := hSw); go_simp; all_goals with_reducible rfl)
 simp only [Act.put, List.getElem_toArray, List.getElem_cons_zero, List.getElem_cons_succ, List.setIfInBounds_toArray, List.set_cons_zero, List.set_cons_succ]
 refine wpAnyH_take (i := 4) (v := .int .i64 (r : Int)) rfl (by kernel_rfl) (by kernel_rfl) (by kernel_rfl) (fun _ _ _ h => h) (Or.inl ⟨by rfl, ?hy5⟩) (by assumption) ?ty5
 case hy5 => (intro w5 hSw; (try dsimp only at hSw); (try obtain ⟨p0, p1, p2, p3, p4⟩ := hSw); go_simp; all_goals first | (simp [e2, et2]; done) | (rw [et2]) | with_reducible rfl)
 simp only [Act.put, List.getElem_toArray, List.getElem_cons_zero, List.getElem_cons_succ, List.setIfInBounds_toArray, List.set_cons_zero, List.set_cons_succ]
 refine wpAnyH_take (i := 5) (v := .int .i64 (48 + (r : Int))) rfl (by kernel_rfl) (by kernel_rfl) (by kernel_rfl) (fun _ _ _ h => h) (Or.inl ⟨by rfl, ?hy6⟩) (by assumption) ?ty6
 case hy6 => (intro w5 hSw; (try dsimp only at hSw); (try obtain ⟨p0, p1, p2, p3, p4⟩ := hSw); go_simp; all_goals first | (rw [hw5]) | with_reducible rfl)
 simp only [Act.put, List.getElem_toArray, List.getElem_cons_zero, List.getElem_cons_succ, List.setIfInBounds_toArray, List.set_cons_zero, List.set_cons_succ]
 refine wpAnyH_take (i := 6) (v := .int .u8 (48 + (r : Int))) rfl (by kernel_rfl) (by kernel_rfl) (by kernel_rfl) (fun _ _ _ h => h) (Or.inl ⟨by rfl, ?hy7⟩) (by assumption) ?ty7
 case hy7 => (intro w5 hSw; (try dsimp only at hSw); (try obtain ⟨p0, p1, p2, p3, p4⟩ := hSw); go_simp; all_goals first | (rw [hw6]) | with_reducible rfl)
 simp only [Act.put, List.getElem_toArray, List.getElem_cons_zero, List.getElem_cons_succ, List.setIfInBounds_toArray, List.set_cons_zero, List.set_cons_succ]
 refine wpAnyH_ready (rs := [2, 7]) (by kernel_rfl) (by simp) ?_
 refine AllReadyH.cons rfl (fun K hK => ?_) (AllReadyH.cons rfl (fun K hK => ?_) AllReadyH.nil)
 ·go_simp
  refine (IH _).mono ?_
  rintro e w1 ⟨rfl, hb1⟩
  have hbw : Below w.heap.size w w1 := (Below.refl _ _).drew.trans hb1
  refine hK.out _ _ trivial (fun hHeld => ?_)
  clear hK K
  refine wpAnyH_ready (rs := [7]) (by kernel_rfl) (by simp) ?_
  refine AllReadyH.cons rfl (fun K hK => ?_) AllReadyH.nil
  go_simp
  refine hK.out _ _ trivial (fun hHeld => ?_)
  clear hK K
  have hst := hone w1 (48 + r) 1
  rw [show ((48 + r : Nat) : Int) = 48 + (r : Int) by omega] at hst
  refine wpAnyH_ready (rs := [8]) (by kernel_rfl) (by simp) ?_
  refine AllReadyH.cons rfl (fun K hK => ?_) AllReadyH.nil
  go_simp
  refine hK.out _ _ trivial (fun hHeld => ?_)
  clear hK K
  refine wpAnyH_take (i := 9) (v := ?_) rfl (by kernel_rfl) (by kernel_rfl) (by kernel_rfl) (fun _ _ _ h => h) (Or.inl ⟨by rfl, ?hy8⟩) (by assumption) ?ty8
  case hy8 => (intro w5 hSw; (try dsimp only at hSw); (try obtain ⟨p0, p1, p2, p3, p4⟩ := hSw); go_simp; all_goals first | (rw [if_neg (by omega)]) | with_reducible rfl)
  simp only [Act.put, List.getElem_toArray, List.getElem_cons_zero, List.getElem_cons_succ, List.setIfInBounds_toArray, List.set_cons_zero, List.set_cons_succ]
  refine wpAnyH_take (i := 10) (v := ?_) rfl (by kernel_rfl) (by kernel_rfl) (by kernel_rfl) (fun _ _ _ h => h) (Or.inl ⟨by rfl, ?hy9⟩) (by assumption) ?ty9
  case hy9 => (intro w5 hSw; (try dsimp only at hSw); (try obtain ⟨p0, p1, p2, p3, p4⟩ := hSw); go_simp; all_goals with_reducible rfl)
  simp only [Act.put, List.getElem_toArray, List.getElem_cons_zero, List.getElem_cons_succ, List.setIfInBounds_toArray, List.set_cons_zero, List.set_cons_succ]
  refine wpAnyH_done (by kernel_rfl) ?_ _
  have HB : Hid (Below w.heap.size w (w1.alloc (.cells #[.int .u8 (48 + (r : Int))] 5))) := hbw.alloc hbw.size _
  clear hHeld IH hone hold
  go_wp2
  go_ret
  exact ⟨by rw [← HV.out]; rfl, HB.out⟩
 ·go_simp
  refine hK.out _ _ trivial (fun hHeld => ?_)
  clear hK K
  have hst := hold (w.alloc (.cells #[.int .u8 (48 + (r : Int))] 5)).drew w.heap.size (by simp) (by rw [show ((48 + r : Nat) : Int) = 48 + (r : Int) by omega]; simp) 1
  refine wpAnyH_ready (rs := [2, 8]) (by kernel_rfl) (by simp) ?_
  refine AllReadyH.cons rfl (fun K hK => ?_) (AllReadyH.cons rfl (fun K hK => ?_) AllReadyH.nil)
  ·go_simp
   refine (IH _).mono ?_
   rintro e w1 ⟨rfl, hb1⟩
   have hz1 : w.heap.size + 1 ≤ w1.heap.size := by
    have := hb1.size
    simpa using this
   have hbw : Below w.heap.size w w1 := (((Below.refl w.heap.size w).alloc (Nat.le_refl _) _).drew.trans (hb1.mono (by simp)))
   have hcc : w1.cell? ⟨w.heap.size, 0, none⟩ = some (.int .u8 ((48 + r : Nat) : Int)) := by
    rw [hb1.cell (p := ⟨w.heap.size, 0, none⟩) (by simp)]
    rw [show ((48 + r : Nat) : Int) = 48 + (r : Int) by omega]
    simp
   have hst2 := hold w1 w.heap.size (by omega) hcc 1
   refine hK.out _ _ trivial (fun hHeld => ?_)
   clear hK K
   refine wpAnyH_ready (rs := [8]) (by kernel_rfl) (by simp) ?_
   refine AllReadyH.cons rfl (fun K hK => ?_) AllReadyH.nil
   go_simp
   refine hK.out _ _ trivial (fun hHeld => ?_)
   clear hK K
   refine wpAnyH_take (i := 9) (v := ?_) rfl (by kernel_rfl) (by kernel_rfl) (by kernel_rfl) (fun _ _ _ h => h) (Or.inl ⟨by rfl, ?hy12⟩) (by assumption) ?ty12
   case hy12 => (intro w5 hSw; (try dsimp only at hSw); (try obtain ⟨p0, p1, p2, p3, p4⟩ := hSw); go_simp; all_goals first | (rw [if_neg (by omega)]) | with_reducible rfl)
   simp only [Act.put, List.getElem_toArray, List.getElem_cons_zero, List.getElem_cons_succ, List.setIfInBounds_toArray, List.set_cons_zero, List.set_cons_succ]
   refine wpAnyH_take (i := 10) (v := ?_) rfl (by kernel_rfl) (by kernel_rfl) (by kernel_rfl) (fun _ _ _ h => h) (Or.inl ⟨by rfl, ?hy13⟩) (by assumption) ?ty13
   case hy13 => (intro w5 hSw; (try dsimp only at hSw); (try obtain ⟨p0, p1, p2, p3, p4⟩ := hSw); go_simp; all_goals with_reducible rfl)
   simp only [Act.put, List.getElem_toArray, List.getElem_cons_zero, List.getElem_cons_succ, List.setIfInBounds_toArray, List.set_cons_zero, List.set_cons_succ]
   refine wpAnyH_done (by kernel_rfl) ?_ _
   have HB : Hid (Below w.heap.size w w1) := hbw
   clear hHeld IH hone hold
   go_wp2
   go_ret
   exact ⟨by rw [← HV.out]; rfl, HB.out⟩
  ·go_simp
   refine hK.out _ _ trivial (fun hHeld => ?_)
   clear hK K
   refine wpAnyH_ready (rs := [2]) (by kernel_rfl) (by simp) ?_
   refine AllReadyH.cons rfl (fun K hK => ?_) AllReadyH.nil
   go_simp
   refine (IH _).mono ?_
   rintro e w1 ⟨rfl, hb1⟩
   have hbw : Below w.heap.size w w1 := (((Below.refl w.heap.size w).alloc (Nat.le_refl _) _).drew.trans (hb1.mono (by simp)))
   refine hK.out _ _ trivial (fun hHeld => ?_)
   clear hK K
   refine wpAnyH_take (i := 9) (v := ?_) rfl (by kernel_rfl) (by kernel_rfl) (by kernel_rfl) (fun _ _ _ h => h) (Or.inl ⟨by rfl, ?hy10⟩) (by assumption) ?ty10
   case hy10 => (intro w5 hSw; (try dsimp only at hSw); (try obtain ⟨p0, p1, p2, p3, p4⟩ := hSw); go_simp; all_goals first | (rw [if_neg (by omega)]) | with_reducible rfl)
   simp only [Act.put, List.getElem_toArray, List.getElem_cons_zero, List.getElem_cons_succ, List.setIfInBounds_toArray, List.set_cons_zero, List.set_cons_succ]
   refine wpAnyH_take (i := 10) (v := ?_) rfl (by kernel_rfl) (by kernel_rfl) (by kernel_rfl) (fun _ _ _ h => h) (Or.inl ⟨by rfl, ?hy11⟩) (by assumption) ?ty11
   case hy11 => (intro w5 hSw; (try dsimp only at hSw); (try obtain ⟨p0, p1, p2, p3, p4⟩ := hSw); go_simp; all_goals with_reducible rfl)
   simp only [Act.put, List.getElem_toArray, List.getElem_cons_zero, List.getElem_cons_succ, List.setIfInBounds_toArray, List.set_cons_zero, List.set_cons_succ]
   refine wpAnyH_done (by kernel_rfl) ?_ _
   have HB : Hid (Below w.heap.size w w1) := hbw
   clear hHeld IH hone hold
   go_wp2
   go_ret
   exact ⟨by rw [← HV.out]; rfl, HB.out⟩
theorem l1Digits_any : ∀ (d n : Nat) (w : World), n < 10 ^ (d + 1) → d ≤ 5 → Calls Tryz.prog 55 #[.int .i64 (n : Int)] w fun e w' => e = .returned (.string (str (dgF d n))) ∧ Below w.heap.size w w'
 | 0, n, w, h, _ => l1Digits_low 0 n w (by simpa using h)
 | d + 1, n, w, h, hd => by
  by_cases h10 : n < 10
  ·exact l1Digits_low (d + 1) n w h10
  ·have hp : (10 : Nat) ^ (d + 1 + 1) ≤ 1000000 := by
    have := Nat.pow_le_pow_right (show 0 < 10 by omega) (show d + 1 + 1 ≤ 6 by omega)
    exact this
   exact l1Digits_step d n w h10 (by omega) (by omega) fun w => l1Digits_any d (n / 10) w (by rw [Nat.pow_succ] at h; omega) (by omega)
end Go.Proofs.YtjogclofjollnaaGreatDoor
