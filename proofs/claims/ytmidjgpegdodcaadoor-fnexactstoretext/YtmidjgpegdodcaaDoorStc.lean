/- The fault of a store: StoreFault of the program; no conditions beyond those that each fact names. -/
import Derived.Test.YtmidjgpegdodcaaDoorStb
namespace Go.Proofs.YtmidjgpegdodcaaDoor
open Go.RowKit

set_option maxHeartbeats 800000 in
set_option maxRecDepth 100000 in
theorem shelfOf_any (v : Int) (s : SlQ) (w : World) :
    Calls Tryd.prog 24 #[.agg #[.int .i64 v, slW s]] w fun e w' => e = .returned (.agg #[.int .i64 v, slW s]) ∧ Below w.heap.size w w' := by
  go_enter Tryd.func24, Tryd.ntmps24
  go_wp2
  go_returns
  exact ⟨rfl, by go_grown⟩

set_option maxHeartbeats 3200000 in
set_option maxRecDepth 100000 in
theorem storeFault_any (v : Int) (s : SlQ) (l : List Bx) {lo : Nat} (w : World) (hs : IsXs lo w s l) (hf : FtXs l) :
    Calls Tryd.prog 14 #[.agg #[.int .i64 v, slW s]] w fun e w' => e = .returned (.int .i64 (stV v l)) ∧ Below w.heap.size w w' := by
  have hb0 : Below w.heap.size w (w.alloc (.cells #[.int .i64 v, slW s] 31)) := (Below.refl _ _).alloc (Nat.le_refl _) _
  have hD0 := Dc.new w (.int .i64 v) (slW s) 31
  have hs0 := hs.below hb0
  have HV : Hid (stV v l = if bt v 1 1000 = true then (if 3 < s.2.1 then 2 else sxV v l s.2.1 0) else 3) := by show _ = _; unfold stV; rw [hs.1]
  clear hs
  generalize stV v l = r at *
  go_enter Tryd.func14, Tryd.ntmps14
  obtain ⟨a, n, cap⟩ := s
  dsimp only [slW] at *
  obtain ⟨c0, c1⟩ := id hD0
  dsimp only at c0 c1
  cases h0 : bt v 1 1000 with
  | false =>
    have HM : Hid (r = 3) := HV.out.trans (by simp [h0])
    clear HV
    go_wp2_with (first | (go_at_call 23; refine (isBetween_bt _ _ _ _).mono ?_; rintro e w' ⟨rfl, rfl⟩))
    go_ret
    exact ⟨by rw [HM.out]; rfl, hb0⟩
  | true =>
    have hcm := hs0.2.2.1
    unfold maxLen at hcm
    have hnc := hs0.2.1
    dsimp only at hcm hnc
    by_cases h3 : 3 < n
    · have h3' : (3 : Int) < (n : Int) := by omega
      have HM : Hid (r = 2) := HV.out.trans (by simp [h0, h3])
      clear HV
      go_wp2_with (first | (go_at_call 23; refine (isBetween_bt _ _ _ _).mono ?_; rintro e w' ⟨rfl, rfl⟩))
      go_ret
      exact ⟨by rw [HM.out]; rfl, hb0⟩
    · have h3' : ¬ (3 : Int) < (n : Int) := by omega
      have HM : Hid (r = sxV v l (n - 0) 0) := HV.out.trans (by simp [h0, h3])
      clear HV
      go_wp2_with (first | (go_at_call 23; refine (isBetween_bt _ _ _ _).mono ?_; rintro e w' ⟨rfl, rfl⟩))
      generalize (w.alloc (.cells #[.int .i64 v, .slice a n cap] 31)) = W0 at *
      refine (shelfOf_any v (a, n, cap) W0).mono ?_
      rintro e w1 ⟨rfl, hb1⟩
      have hB1 := hb0.trans (hb1.mono hb0.size)
      have hs1 := hs0.below hb1
      have hbS : Below w1.heap.size w1 (w1.alloc (.cells #[.int .i64 v, .slice a n cap] 64)) := (Below.refl _ _).alloc (Nat.le_refl _) _
      have hDS := Dc.new w1 (.int .i64 v) (.slice a n cap) 64
      have hsS := hs1.below hbS
      have hBS : Below w.heap.size w _ := hB1.trans (hbS.mono hB1.size)
      obtain ⟨WS, hWS⟩ : ∃ W, (w1.alloc (.cells #[.int .i64 v, .slice a n cap] 64)) = W := ⟨_, rfl⟩
      rw [hWS] at hbS hDS hsS hBS
      clear hb0 hb1 hD0 c0 c1 hs0 hs1 hbS hB1
      obtain ⟨c0, c1⟩ := id hDS
      dsimp only at c0 c1
      go_wp2
      go_loopw [19] (fun i wr => ∃ k : Nat, k ≤ n ∧ i = .int .i64 k ∧ Hid (r = sxV v l (n - k) k) ∧ Below WS.heap.size WS wr) (fun i _ => n - (intOf i).toNat)
      case atStart => exact ⟨0, Nat.zero_le _, rfl, HM, Below.refl _ _⟩
      case round =>
        obtain ⟨k, hk, rfl, HR, hbel⟩ := hrel
        clear HM c0 c1
        have hB := hBS.trans (hbel.mono hBS.size)
        obtain ⟨c0, c1⟩ := hDS.below hbel hDS.lt
        dsimp only at c0 c1
        by_cases hkn : k < n
        · have hki : (k : Int) < (n : Int) := by omega
          have HCF := faultAt_any v (a, n, cap) l k wr (hsS.below hbel) (by rw [hsS.1]; exact hkn) hf
          have HST : Hid (r = if sbE v l k = 0 then sxV v l (n - (k + 1)) (k + 1) else sbE v l k) := HR.out.trans (sxV_step v l n k hkn)
          clear HR
          obtain ⟨rest, hrest⟩ : ∃ z, sxV v l (n - (k + 1)) (k + 1) = z := ⟨_, rfl⟩
          have HRR : Hid (r = rest → Hid (r = sxV v l (n - (k + 1)) (k + 1))) := fun h => h.trans hrest.symm
          rw [hrest] at HST
          clear hrest
          generalize sbE v l k = c at *
          go_wp2_with fail
          refine HCF.mono ?_
          rintro e w2 ⟨rfl, hb2⟩
          have hbel2 := hbel.trans (hb2.mono hbel.size)
          have hB2 := hBS.trans (hbel2.mono hBS.size)
          clear HCF hb2 c0 c1
          by_cases hc : c = 0
          · subst hc
            have HM : Hid (r = rest) := HST.out.trans (if_pos rfl)
            clear HST
            go_wp2
            go_roundw
            case rel => exact ⟨k + 1, by omega, by go_num, HRR.out HM.out, hbel2⟩
            case measure => simp [intOf]; omega
          · have HM : Hid (r = c) := HST.out.trans (if_neg hc)
            clear HST HRR
            go_wp2
            go_ret
            exact ⟨by rw [HM.out]; rfl, hB2⟩
        · have hki : ¬ (k : Int) < (n : Int) := by omega
          have HM : Hid (r = 0) := HR.out.trans (sxV_end v l n k (by omega))
          clear HR
          go_wp2
          go_ret
          exact ⟨by rw [HM.out]; rfl, hB⟩
end Go.Proofs.YtmidjgpegdodcaaDoor
