/- The law FnExpands returns true at every input, and changes nothing that was there. -/
import Derived.Test.YtcpdkganbgfpcaaYdr
import Derived.Test.YtcpdkganbgfpcaaYfx
import Derived.Test.YtcpdkganbgfpcaaLwy
import Derived.Test.YtcpdkganbgfpcaaDrw3a
import Derived.Deep.RegionHeld3
namespace Go.Proofs.Ytcpdkganbgfpcaa
open Go.RowKit

set_option maxHeartbeats 6400000 in
set_option maxRecDepth 100000 in
theorem walkExpands (a : Option Addr) (n cap : Nat) (l : List Nat) (w : World) (hl : l.length = n) (hr : Rd w a l) (hB : IsB l) :
    Calls Try.prog 3 #[.slice a n cap] w fun e w' => e = .returned (.bool true) ∧ Below w.heap.size w w' := by
  by_cases hbig : 1048576 < n
  · go_enter Try.func3, Try.ntmps3
    go_wp2_with fail
    refine (lwBig_any a n cap w).mono ?_
    rintro e w1 ⟨rfl, rfl⟩
    rw [decide_eq_true (by omega)]
    go_wp2
    go_ret
    exact ⟨rfl, Below.refl _ _⟩
  · have fN0 := fldN0
    have fN1 := fldN1
    go_enter Try.func3, Try.ntmps3
    go_wp2_with fail
    refine (lwBig_any a n cap w).mono ?_
    rintro e w1 ⟨rfl, rfl⟩
    rw [decide_eq_false (by omega)]
    go_wp2_with fail
    refine (drawExpandSet_any a n cap l w hl hr hB (by omega)).mono ?_
    rintro e w1 ⟨v1, out, most, rfl, ho1, hol, hb1⟩
    obtain ⟨a1, c1, hv, hc1, -⟩ := ho1.form
    subst hv
    have hr1 := ho1.rd.2
    have HEI : Hid (∀ w, RdY w a1 out → Calls Try.prog 10 #[.slice a1 out.length c1, .int .i64 most] w fun e w' => NumEndY (exV out most) w e w') := fun w hr => expandSet_any most a1 out.length c1 out w rfl hr (by omega)
    have HES : Hid (∀ w, RdY w a1 out → Calls Try.prog 11 #[.slice a1 out.length c1, .int .i64 most] w fun e w' => NumEndY (exV out most) w e w') := fun w hr => specExpandSet_any most a1 out.length c1 out w rfl hr (by omega)
    have HII : Hid (∀ x w, RdY w a1 out → Calls Try.prog 12 #[.slice a1 out.length c1, .int .i64 x, .int .i64 most] w fun e w' => e = .returned (.bool (isY out x most)) ∧ Below w.heap.size w w') := fun x w hr => inSet_any x most a1 out.length c1 out w rfl hr (by omega)
    have HRF : Hid (∀ w, RdY w a1 out → Calls Try.prog 17 #[.slice a1 out.length c1] w fun e w' => e = .returned (.int .i64 (rfV out)) ∧ Below w.heap.size w w') := fun w hr => rangesFault_any a1 out.length c1 out w rfl hr (by omega)
    have hrA := hr.below hb1
    have HB1 : Hid (Below w.heap.size w w1) := hb1
    clear ho1 hb1 hr
    by_cases hok : (exV out most).1 = 0
    · obtain ⟨hf0, hmo, hex⟩ := exV_ok hok
      obtain ⟨-, hm1, -⟩ := rfV_A hf0
      have hmb := of_decide_eq_true hmo
      obtain ⟨M, hM⟩ : ∃ M : Nat, most = (M : Int) := ⟨most.toNat, by omega⟩
      subst hM
      have hM9 : M ≤ 999 := by omega
      have HIN : Hid (∀ x : Int, 1 ≤ x → x ≤ (M : Int) → isY out x (M : Int) = decide (x ∈ xsY out (M : Int) M)) := fun x h1 h2 => in_has hf0 hmo h1 h2
      rw [hex] at HEI HES
      rw [hf0] at HRF
      simp only [Int.toNat_natCast] at HEI HES
      have hxl := xsY_len out (M : Int) M
      have HXA : Hid (∀ i, i < (xsY out (M : Int) M).length → 1 ≤ nthI (xsY out (M : Int) M) i ∧ nthI (xsY out (M : Int) M) i ≤ (M : Int)) := fun i h => xs_at h
      have HXU : Hid (∀ i, i + 1 < (xsY out (M : Int) M).length → nthI (xsY out (M : Int) M) i < nthI (xsY out (M : Int) M) (i + 1)) := fun i h => xs_up h
      generalize xsY out (M : Int) M = xs at *
      obtain ⟨N, hN⟩ : ∃ N, xs.length = N := ⟨_, rfl⟩
      rw [hN] at hxl HXA HXU
      obtain ⟨L, hL⟩ : ∃ L, out.length = L := ⟨_, rfl⟩
      rw [hL] at hol hm1 hc1 HEI HES HII HRF ⊢
      have hN6 : N ≤ 1048576 := by omega
      clear hok hex hmo hmb
      go_wp2_with fail
      refine (HEI.out _ hr1).mono ?_
      rintro e w5 ⟨v5, rfl, hown5, hb5⟩
      simp only at hown5 ⊢
      obtain ⟨b1, cc, hv, hcc, -⟩ := hown5.form
      rw [hN] at hv hcc
      rw [hv] at hown5 ⊢
      clear hv
      have hbA : Below w5.heap.size w5 (w5.alloc (.cells #[.int .i64 0, .slice b1 N cc] 29)) := (Below.refl _ _).alloc (Nat.le_refl _) _
      have hb5' : Below w1.heap.size w1 (w5.alloc (.cells #[.int .i64 0, .slice b1 N cc] 29)) := hb5.trans (hbA.mono hb5.size)
      have hr5 := hr1.below hb5'
      have hu5 := hown5.rd.2.below hbA
      have hrA5 := hrA.below hb5'
      have HB5 : Hid (Below w.heap.size w (w5.alloc (.cells #[.int .i64 0, .slice b1 N cc] 29))) := HB1.out.trans (hb5'.mono HB1.out.size)
      obtain ⟨k0, k1, -, -⟩ := res_block (w := w5) (wr := w5.alloc (.cells #[.int .i64 0, .slice b1 N cc] 29)) rfl (Below.refl _ _)
      have hsW : (w5.alloc (.cells #[.int .i64 0, .slice b1 N cc] 29)).heap.size = w5.heap.size + 1 := by simp
      clear hown5 hb5 hbA hb5' hr1 hrA HB1 HEI
      go_wp2
      generalize w5.alloc (.cells #[.int .i64 0, .slice b1 N cc] 29) = W at *
      generalize w5.heap.size = g7 at *
      have hg7 : g7 < W.heap.size := by omega
      clear k0 hsW
      go_loopw [6] (fun i wr => ∃ k : Nat, k ≤ 40 ∧ i = .int .i64 ((k : Int) + 1) ∧ Below W.heap.size W wr) (fun i _ => 41 - (intOf i).toNat)
      case atStart => exact ⟨0, by omega, rfl, Below.refl _ _⟩
      case round =>
        obtain ⟨k, hk, rfl, hbel⟩ := hrel
        by_cases hkM : (k : Int) + 1 ≤ (M : Int)
        · by_cases hk40 : (k : Int) + 1 < 40
          · have hcE : wr.cell? ⟨g7, 1, none⟩ = some (.slice b1 N cc) := (hbel.cell (p := ⟨g7, 1, none⟩) hg7).trans k1
            have hg7r : g7 < wr.heap.size := Nat.lt_of_lt_of_le hg7 hbel.size
            have hrY := hr5.below hbel
            have hrI := hu5.below hbel
            have hin := HIN.out ((k : Int) + 1) (by omega) hkM
            have HIx : Hid (_) := HII.out ((k : Int) + 1)
            have HHx : Hid (∀ w, RdI w b1 xs → Calls Try.prog 13 #[.slice b1 N cc, .int .i64 ((k : Int) + 1)] w fun e w' => e = .returned (.bool (isY out ((k : Int) + 1) (M : Int))) ∧ w = w') := fun w hr => by
              have h := lwHas_any ((k : Int) + 1) b1 N cc xs w hN hr hN6
              rw [← hin] at h; exact h
            clear hin
            generalize isY out ((k : Int) + 1) (M : Int) = bb at *
            go_wp2_with fail
            refine wp_region_held_drew (S := fun w' => w'.cell? ⟨g7, 1, none⟩ = some (.slice b1 N cc)) (by kernel_rfl) ?hS1 (fun hHeld => ?_)
            case hS1 => exact hcE
            refine wpAnyH_take (i := 0) (v := ?_) rfl (by kernel_rfl) (by kernel_rfl) (by kernel_rfl) (fun _ _ _ h => h) (Or.inl ⟨by rfl, ?hy2⟩) (by assumption) ?ty2
            case hy2 => (intro w hSw; (try dsimp only at hSw); go_simp; all_goals first | with_reducible rfl | (rw [if_pos (by omega)]))
            simp only [Act.put, List.getElem_toArray, List.getElem_cons_zero, List.setIfInBounds_toArray, List.set_cons_zero, List.set_cons_succ]
            refine wpAnyH_take (i := 1) (v := ?_) rfl (by kernel_rfl) (by kernel_rfl) (by kernel_rfl) (fun _ _ _ h => h) (Or.inl ⟨by rfl, ?hy3⟩) (by assumption) ?ty3
            case hy3 => (intro w hSw; (try dsimp only at hSw); go_simp; all_goals first | with_reducible rfl | (rw [if_pos (by omega)]))
            simp only [Act.put, List.getElem_toArray, List.getElem_cons_zero, List.getElem_cons_succ, List.setIfInBounds_toArray, List.set_cons_zero, List.set_cons_succ]
            refine wpAnyH_take (i := 2) (v := ?_) rfl (by kernel_rfl) (by kernel_rfl) (by kernel_rfl) (fun _ _ _ h => h) (Or.inl ⟨by rfl, ?hy4⟩) (by assumption) ?ty4
            case hy4 => (intro w hSw; (try dsimp only at hSw); go_simp; all_goals first | with_reducible rfl | (rw [if_pos (by omega)]))
            simp only [Act.put, List.getElem_toArray, List.getElem_cons_zero, List.getElem_cons_succ, List.setIfInBounds_toArray, List.set_cons_zero, List.set_cons_succ]
            refine wpAnyH_take (i := 4) (v := ?_) rfl (by kernel_rfl) (by kernel_rfl) (by kernel_rfl) (fun _ _ _ h => h) (Or.inl ⟨by rfl, ?hy5⟩) (by assumption) ?ty5
            case hy5 => (intro w hSw; (try dsimp only at hSw); go_simp; all_goals first | with_reducible rfl | (rw [if_pos (by omega)]))
            simp only [Act.put, List.getElem_toArray, List.getElem_cons_zero, List.getElem_cons_succ, List.setIfInBounds_toArray, List.set_cons_zero, List.set_cons_succ]
            refine wpAnyH_take (i := 5) (v := ?_) rfl (by kernel_rfl) (by kernel_rfl) (by kernel_rfl) (fun _ _ _ h => h) (Or.inl ⟨by rfl, ?hy6⟩) (by assumption) ?ty6
            case hy6 => (intro w hSw; (try dsimp only at hSw); go_simp; all_goals first | with_reducible rfl | (rw [if_pos (by omega)]))
            simp only [Act.put, List.getElem_toArray, List.getElem_cons_zero, List.getElem_cons_succ, List.setIfInBounds_toArray, List.set_cons_zero, List.set_cons_succ]
            refine wpAnyH_take (i := 6) (v := ?_) rfl (by kernel_rfl) (by kernel_rfl) (by kernel_rfl) (fun _ _ _ h => h) (Or.inl ⟨by rfl, ?hy7⟩) (by assumption) ?ty7
            case hy7 => (intro w hSw; (try dsimp only at hSw); go_simp; all_goals first | with_reducible rfl | (rw [if_pos (by omega)]))
            simp only [Act.put, List.getElem_toArray, List.getElem_cons_zero, List.getElem_cons_succ, List.setIfInBounds_toArray, List.set_cons_zero, List.set_cons_succ]
            refine wpAnyH_ready (rs := [3]) (by kernel_rfl) (by simp) ?_
            refine AllReadyH.cons rfl (fun K hK => ?_) AllReadyH.nil
            go_simp
            refine (HIx.out _ (by exact hrY)).mono ?_
            rintro e u1 ⟨rfl, hbx⟩
            have HW1 : Hid (Below wr.heap.size wr u1) := (Below.refl _ _).drew.trans hbx
            have hsS : u1.cell? ⟨g7, 1, none⟩ = some (.slice b1 N cc) := (HW1.out.cell (p := ⟨g7, 1, none⟩) hg7r).trans hcE
            refine hK.out _ _ hsS (fun hHeld => ?_)
            clear hK K
            clear hsS hbx
            refine wpAnyH_ready (rs := [7]) (by kernel_rfl) (by simp) ?_
            refine AllReadyH.cons rfl (fun K hK => ?_) AllReadyH.nil
            go_simp
            refine (HHx.out _ (by exact hrI.below HW1.out)).mono ?_
            rintro e u2 ⟨rfl, rfl⟩
            have hsS : u1.cell? ⟨g7, 1, none⟩ = some (.slice b1 N cc) := (HW1.out.cell (p := ⟨g7, 1, none⟩) hg7r).trans hcE
            refine hK.out _ _ hsS (fun hHeld => ?_)
            clear hK K
            clear hsS
            refine wpAnyH_take (i := 8) (v := .bool false) rfl (by kernel_rfl) (by kernel_rfl) (by kernel_rfl) (fun _ _ _ h => h) (Or.inl ⟨by rfl, ?hy8⟩) (by assumption) ?ty8
            case hy8 => (intro w hSw; (try dsimp only at hSw); go_simp; all_goals first | (simp; done) | (cases bb <;> rfl))
            simp only [Act.put, List.getElem_toArray, List.getElem_cons_zero, List.getElem_cons_succ, List.setIfInBounds_toArray, List.set_cons_zero, List.set_cons_succ]
            refine wpAnyH_done (by kernel_rfl) ?_ _
            have hbel2 := hbel.trans (HW1.out.mono hbel.size)
            clear hHeld HW1 HIx HHx hcE hrY hrI
            go_wp2
            go_roundw
            case rel => exact ⟨k + 1, by omega, by go_num, hbel2⟩
            case measure => simp [intOf]; omega
          · have HB6 : Hid (Below w.heap.size w wr) := HB5.out.trans (hbel.mono HB5.out.size)
            have k1r : wr.cell? ⟨g7, 1, none⟩ = some (.slice b1 N cc) := (hbel.cell (p := ⟨g7, 1, none⟩) hg7).trans k1
            have hg7r : g7 < wr.heap.size := Nat.lt_of_lt_of_le hg7 hbel.size
            have hrYr := hr5.below hbel
            have hrIr := hu5.below hbel
            have hrAr := hrA5.below hbel
            clear HIN HII hbel hr5 hu5 hrA5 HB5 k1 hg7
            go_wp2
            generalize wr = V at *
            go_loopw [7] (fun i wr => ∃ k : Nat, k ≤ N ∧ i = .int .i64 (k : Int) ∧ Below V.heap.size V wr) (fun i _ => N - (intOf i).toNat)
            case atStart => exact ⟨0, by omega, rfl, Below.refl _ _⟩
            case round =>
              obtain ⟨j, hj, rfl, hbel⟩ := hrel
              have hcE : wr.cell? ⟨g7, 1, none⟩ = some (.slice b1 N cc) := (hbel.cell (p := ⟨g7, 1, none⟩) hg7r).trans k1r
              by_cases hjN : j < N
              · obtain ⟨d, off, rfl, hdlt, hdc⟩ := hrIr.at_ (by omega)
                have hx : wr.cell? ⟨d, off + j, none⟩ = some (.int .i64 (nthI xs j)) := (hbel.cell (p := ⟨d, off + j, none⟩) hdlt).trans (hdc j (by omega))
                obtain ⟨hx1, hxM⟩ := HXA.out j hjN
                have hjN' : (j : Int) < (N : Int) := by omega
                by_cases hj0 : j = 0
                · subst hj0
                  rw [Nat.add_zero] at hx
                  generalize nthI xs 0 = x at *
                  have t1 : ¬ x < 1 := by omega
                  have t2 : ¬ x > (M : Int) := by omega
                  clear hdc
                  go_wp2_with fail
                  refine wp_region_held_drew (S := fun w' => w'.cell? ⟨g7, 1, none⟩ = some (.slice (some ⟨d, off, none⟩) N cc) ∧ w'.cell? ⟨d, off, none⟩ = some (.int .i64 x)) (by kernel_rfl) ?hS9 (fun hHeld => ?_)
                  case hS9 => exact ⟨hcE, hx⟩
                  refine wpAnyH_take (i := 0) (v := ?_) rfl (by kernel_rfl) (by kernel_rfl) (by kernel_rfl) (fun _ _ _ h => h) (Or.inl ⟨by rfl, ?hy10⟩) (by assumption) ?ty10
                  case hy10 => (intro w hSw; (try dsimp only at hSw); go_simp; all_goals first | with_reducible rfl | (rw [if_pos (by omega)]))
                  simp only [Act.put, List.getElem_toArray, List.getElem_cons_zero, List.setIfInBounds_toArray, List.set_cons_zero, List.set_cons_succ]
                  refine wpAnyH_take (i := 1) (v := ?_) rfl (by kernel_rfl) (by kernel_rfl) (by kernel_rfl) (fun _ _ _ h => h) (Or.inl ⟨by rfl, ?hy11⟩) (by assumption) ?ty11
                  case hy11 => (intro w hSw; (try dsimp only at hSw); go_simp; all_goals first | with_reducible rfl | (rw [if_pos (by omega)]))
                  simp only [Act.put, List.getElem_toArray, List.getElem_cons_zero, List.getElem_cons_succ, List.setIfInBounds_toArray, List.set_cons_zero, List.set_cons_succ]
                  refine wpAnyH_take (i := 2) (v := ?_) rfl (by kernel_rfl) (by kernel_rfl) (by kernel_rfl) (fun _ _ _ h => h) (Or.inl ⟨by rfl, ?hy12⟩) (by assumption) ?ty12
                  case hy12 => (intro w hSw; (try dsimp only at hSw); go_simp; all_goals first | with_reducible rfl | (rw [if_pos (by omega)]))
                  simp only [Act.put, List.getElem_toArray, List.getElem_cons_zero, List.getElem_cons_succ, List.setIfInBounds_toArray, List.set_cons_zero, List.set_cons_succ]
                  refine wpAnyH_take (i := 3) (v := ?_) rfl (by kernel_rfl) (by kernel_rfl) (by kernel_rfl) (fun _ _ _ h => h) (Or.inl ⟨by rfl, ?hy13⟩) (by assumption) ?ty13
                  case hy13 => (intro w hSw; (try dsimp only at hSw); go_simp; all_goals first | with_reducible rfl | (rw [if_pos (by omega)]))
                  simp only [Act.put, List.getElem_toArray, List.getElem_cons_zero, List.getElem_cons_succ, List.setIfInBounds_toArray, List.set_cons_zero, List.set_cons_succ]
                  refine wpAnyH_take (i := 4) (v := ?_) rfl (by kernel_rfl) (by kernel_rfl) (by kernel_rfl) (fun _ _ _ h => h) (Or.inl ⟨by rfl, ?hy14⟩) (by assumption) ?ty14
                  case hy14 => (intro w hSw; (try dsimp only at hSw); go_simp; all_goals first | with_reducible rfl | (rw [if_pos (by omega)]))
                  simp only [Act.put, List.getElem_toArray, List.getElem_cons_zero, List.getElem_cons_succ, List.setIfInBounds_toArray, List.set_cons_zero, List.set_cons_succ]
                  refine wpAnyH_take (i := 5) (v := .bool false) rfl (by kernel_rfl) (by kernel_rfl) (by kernel_rfl) (fun _ _ _ h => h) (Or.inl ⟨by rfl, ?hy15⟩) (by assumption) ?ty15
                  case hy15 => (intro w hSw; (try dsimp only at hSw); go_simp; all_goals first | omega | (simp; done) | (simp; omega) | with_reducible rfl)
                  simp only [Act.put, List.getElem_toArray, List.getElem_cons_zero, List.getElem_cons_succ, List.setIfInBounds_toArray, List.set_cons_zero, List.set_cons_succ]
                  refine wpAnyH_take (i := 6) (v := ?_) rfl (by kernel_rfl) (by kernel_rfl) (by kernel_rfl) (fun _ _ _ h => h) (Or.inl ⟨by rfl, ?hy16⟩) (by assumption) ?ty16
                  case hy16 => (intro w hSw; (try dsimp only at hSw); go_simp; all_goals first | with_reducible rfl | (rw [if_pos (by omega)]))
                  simp only [Act.put, List.getElem_toArray, List.getElem_cons_zero, List.getElem_cons_succ, List.setIfInBounds_toArray, List.set_cons_zero, List.set_cons_succ]
                  refine wpAnyH_take (i := 7) (v := ?_) rfl (by kernel_rfl) (by kernel_rfl) (by kernel_rfl) (fun _ _ _ h => h) (Or.inl ⟨by rfl, ?hy17⟩) (by assumption) ?ty17
                  case hy17 => (intro w hSw; (try dsimp only at hSw); go_simp; all_goals first | with_reducible rfl | (rw [if_pos (by omega)]))
                  simp only [Act.put, List.getElem_toArray, List.getElem_cons_zero, List.getElem_cons_succ, List.setIfInBounds_toArray, List.set_cons_zero, List.set_cons_succ]
                  refine wpAnyH_take (i := 8) (v := ?_) rfl (by kernel_rfl) (by kernel_rfl) (by kernel_rfl) (fun _ _ _ h => h) (Or.inl ⟨by rfl, ?hy18⟩) (by assumption) ?ty18
                  case hy18 => (intro w hSw; (try dsimp only at hSw); go_simp; all_goals first | with_reducible rfl | (rw [if_pos (by omega)]))
                  simp only [Act.put, List.getElem_toArray, List.getElem_cons_zero, List.getElem_cons_succ, List.setIfInBounds_toArray, List.set_cons_zero, List.set_cons_succ]
                  refine wpAnyH_take (i := 9) (v := ?_) rfl (by kernel_rfl) (by kernel_rfl) (by kernel_rfl) (fun _ _ _ h => h) (Or.inl ⟨by rfl, ?hy19⟩) (by assumption) ?ty19
                  case hy19 => (intro w hSw; (try dsimp only at hSw); go_simp; all_goals first | with_reducible rfl | (rw [if_pos (by omega)]))
                  simp only [Act.put, List.getElem_toArray, List.getElem_cons_zero, List.getElem_cons_succ, List.setIfInBounds_toArray, List.set_cons_zero, List.set_cons_succ]
                  refine wpAnyH_take (i := 10) (v := ?_) rfl (by kernel_rfl) (by kernel_rfl) (by kernel_rfl) (fun _ _ _ h => h) (Or.inl ⟨by rfl, ?hy20⟩) (by assumption) ?ty20
                  case hy20 => (intro w hSw; (try dsimp only at hSw); go_simp; all_goals first | with_reducible rfl | (rw [if_pos (by omega)]))
                  simp only [Act.put, List.getElem_toArray, List.getElem_cons_zero, List.getElem_cons_succ, List.setIfInBounds_toArray, List.set_cons_zero, List.set_cons_succ]
                  refine wpAnyH_take (i := 11) (v := ?_) rfl (by kernel_rfl) (by kernel_rfl) (by kernel_rfl) (fun _ _ _ h => h) (Or.inl ⟨by rfl, ?hy21⟩) (by assumption) ?ty21
                  case hy21 => (intro w hSw; (try dsimp only at hSw); go_simp; all_goals first | with_reducible rfl | (rw [if_pos (by omega)]))
                  simp only [Act.put, List.getElem_toArray, List.getElem_cons_zero, List.getElem_cons_succ, List.setIfInBounds_toArray, List.set_cons_zero, List.set_cons_succ]
                  refine wpAnyH_take (i := 12) (v := ?_) rfl (by kernel_rfl) (by kernel_rfl) (by kernel_rfl) (fun _ _ _ h => h) (Or.inl ⟨by rfl, ?hy22⟩) (by assumption) ?ty22
                  case hy22 => (intro w hSw; (try dsimp only at hSw); go_simp; all_goals first | with_reducible rfl | (rw [if_pos (by omega)]))
                  simp only [Act.put, List.getElem_toArray, List.getElem_cons_zero, List.getElem_cons_succ, List.setIfInBounds_toArray, List.set_cons_zero, List.set_cons_succ]
                  refine wpAnyH_take (i := 13) (v := .bool false) rfl (by kernel_rfl) (by kernel_rfl) (by kernel_rfl) (fun _ _ _ h => h) (Or.inl ⟨by rfl, ?hy23⟩) (by assumption) ?ty23
                  case hy23 => (intro w hSw; (try dsimp only at hSw); go_simp; all_goals first | omega | (simp; done) | (simp; omega) | with_reducible rfl)
                  simp only [Act.put, List.getElem_toArray, List.getElem_cons_zero, List.getElem_cons_succ, List.setIfInBounds_toArray, List.set_cons_zero, List.set_cons_succ]
                  refine wpAnyH_take (i := 14) (v := ?_) rfl (by kernel_rfl) (by kernel_rfl) (by kernel_rfl) (fun _ _ _ h => h) (Or.inl ⟨by rfl, ?hy24⟩) (by assumption) ?ty24
                  case hy24 => (intro w hSw; (try dsimp only at hSw); go_simp; all_goals first | with_reducible rfl | (rw [if_pos (by omega)]))
                  simp only [Act.put, List.getElem_toArray, List.getElem_cons_zero, List.getElem_cons_succ, List.setIfInBounds_toArray, List.set_cons_zero, List.set_cons_succ]
                  refine wpAnyH_take (i := 15) (v := ?_) rfl (by kernel_rfl) (by kernel_rfl) (by kernel_rfl) (fun _ _ _ h => h) (Or.inl ⟨by rfl, ?hy25⟩) (by assumption) ?ty25
                  case hy25 => (intro w hSw; (try dsimp only at hSw); go_simp; all_goals first | with_reducible rfl | (rw [if_pos (by omega)]))
                  simp only [Act.put, List.getElem_toArray, List.getElem_cons_zero, List.getElem_cons_succ, List.setIfInBounds_toArray, List.set_cons_zero, List.set_cons_succ]
                  refine wpAnyH_take (i := 16) (v := ?_) rfl (by kernel_rfl) (by kernel_rfl) (by kernel_rfl) (fun _ _ _ h => h) (Or.inl ⟨by rfl, ?hy26⟩) (by assumption) ?ty26
                  case hy26 => (intro w hSw; (try dsimp only at hSw); go_simp; all_goals first | with_reducible rfl | (rw [if_pos (by omega)]))
                  simp only [Act.put, List.getElem_toArray, List.getElem_cons_zero, List.getElem_cons_succ, List.setIfInBounds_toArray, List.set_cons_zero, List.set_cons_succ]
                  refine wpAnyH_take (i := 17) (v := .bool false) rfl (by kernel_rfl) (by kernel_rfl) (by kernel_rfl) (fun _ _ _ h => h) (Or.inl ⟨by rfl, ?hy27⟩) (by assumption) ?ty27
                  case hy27 => (intro w hSw; (try dsimp only at hSw); go_simp; all_goals first | omega | (simp; done) | (simp; omega) | with_reducible rfl)
                  simp only [Act.put, List.getElem_toArray, List.getElem_cons_zero, List.getElem_cons_succ, List.setIfInBounds_toArray, List.set_cons_zero, List.set_cons_succ]
                  refine wpAnyH_take (i := 18) (v := ?_) rfl (by kernel_rfl) (by kernel_rfl) (by kernel_rfl) (fun _ _ _ h => h) (Or.inl ⟨by rfl, ?hy28⟩) (by assumption) ?ty28
                  case hy28 => (intro w hSw; (try dsimp only at hSw); go_simp; all_goals first | with_reducible rfl | (rw [if_pos (by omega)]))
                  simp only [Act.put, List.getElem_toArray, List.getElem_cons_zero, List.getElem_cons_succ, List.setIfInBounds_toArray, List.set_cons_zero, List.set_cons_succ]
                  refine wpAnyH_take (i := 19) (v := undef) rfl (by kernel_rfl) (by kernel_rfl) (by kernel_rfl) (fun _ _ _ h => h) (Or.inr ⟨by rfl, rfl⟩) (by assumption) ?_
                  simp only [Act.put, List.getElem_toArray, List.getElem_cons_zero, List.getElem_cons_succ, List.setIfInBounds_toArray, List.set_cons_zero, List.set_cons_succ]
                  refine wpAnyH_take (i := 20) (v := undef) rfl (by kernel_rfl) (by kernel_rfl) (by kernel_rfl) (fun _ _ _ h => h) (Or.inr ⟨by rfl, rfl⟩) (by assumption) ?_
                  simp only [Act.put, List.getElem_toArray, List.getElem_cons_zero, List.getElem_cons_succ, List.setIfInBounds_toArray, List.set_cons_zero, List.set_cons_succ]
                  refine wpAnyH_take (i := 21) (v := undef) rfl (by kernel_rfl) (by kernel_rfl) (by kernel_rfl) (fun _ _ _ h => h) (Or.inr ⟨by rfl, rfl⟩) (by assumption) ?_
                  simp only [Act.put, List.getElem_toArray, List.getElem_cons_zero, List.getElem_cons_succ, List.setIfInBounds_toArray, List.set_cons_zero, List.set_cons_succ]
                  refine wpAnyH_take (i := 22) (v := undef) rfl (by kernel_rfl) (by kernel_rfl) (by kernel_rfl) (fun _ _ _ h => h) (Or.inr ⟨by rfl, rfl⟩) (by assumption) ?_
                  simp only [Act.put, List.getElem_toArray, List.getElem_cons_zero, List.getElem_cons_succ, List.setIfInBounds_toArray, List.set_cons_zero, List.set_cons_succ]
                  refine wpAnyH_take (i := 23) (v := undef) rfl (by kernel_rfl) (by kernel_rfl) (by kernel_rfl) (fun _ _ _ h => h) (Or.inr ⟨by rfl, rfl⟩) (by assumption) ?_
                  simp only [Act.put, List.getElem_toArray, List.getElem_cons_zero, List.getElem_cons_succ, List.setIfInBounds_toArray, List.set_cons_zero, List.set_cons_succ]
                  refine wpAnyH_take (i := 24) (v := undef) rfl (by kernel_rfl) (by kernel_rfl) (by kernel_rfl) (fun _ _ _ h => h) (Or.inr ⟨by rfl, rfl⟩) (by assumption) ?_
                  simp only [Act.put, List.getElem_toArray, List.getElem_cons_zero, List.getElem_cons_succ, List.setIfInBounds_toArray, List.set_cons_zero, List.set_cons_succ]
                  refine wpAnyH_take (i := 25) (v := undef) rfl (by kernel_rfl) (by kernel_rfl) (by kernel_rfl) (fun _ _ _ h => h) (Or.inr ⟨by rfl, rfl⟩) (by assumption) ?_
                  simp only [Act.put, List.getElem_toArray, List.getElem_cons_zero, List.getElem_cons_succ, List.setIfInBounds_toArray, List.set_cons_zero, List.set_cons_succ]
                  refine wpAnyH_take (i := 26) (v := undef) rfl (by kernel_rfl) (by kernel_rfl) (by kernel_rfl) (fun _ _ _ h => h) (Or.inr ⟨by rfl, rfl⟩) (by assumption) ?_
                  simp only [Act.put, List.getElem_toArray, List.getElem_cons_zero, List.getElem_cons_succ, List.setIfInBounds_toArray, List.set_cons_zero, List.set_cons_succ]
                  refine wpAnyH_take (i := 27) (v := undef) rfl (by kernel_rfl) (by kernel_rfl) (by kernel_rfl) (fun _ _ _ h => h) (Or.inr ⟨by rfl, rfl⟩) (by assumption) ?_
                  simp only [Act.put, List.getElem_toArray, List.getElem_cons_zero, List.getElem_cons_succ, List.setIfInBounds_toArray, List.set_cons_zero, List.set_cons_succ]
                  refine wpAnyH_take (i := 28) (v := undef) rfl (by kernel_rfl) (by kernel_rfl) (by kernel_rfl) (fun _ _ _ h => h) (Or.inr ⟨by rfl, rfl⟩) (by assumption) ?_
                  simp only [Act.put, List.getElem_toArray, List.getElem_cons_zero, List.getElem_cons_succ, List.setIfInBounds_toArray, List.set_cons_zero, List.set_cons_succ]
                  refine wpAnyH_take (i := 29) (v := undef) rfl (by kernel_rfl) (by kernel_rfl) (by kernel_rfl) (fun _ _ _ h => h) (Or.inr ⟨by rfl, rfl⟩) (by assumption) ?_
                  simp only [Act.put, List.getElem_toArray, List.getElem_cons_zero, List.getElem_cons_succ, List.setIfInBounds_toArray, List.set_cons_zero, List.set_cons_succ]
                  refine wpAnyH_take (i := 30) (v := undef) rfl (by kernel_rfl) (by kernel_rfl) (by kernel_rfl) (fun _ _ _ h => h) (Or.inr ⟨by rfl, rfl⟩) (by assumption) ?_
                  simp only [Act.put, List.getElem_toArray, List.getElem_cons_zero, List.getElem_cons_succ, List.setIfInBounds_toArray, List.set_cons_zero, List.set_cons_succ]
                  refine wpAnyH_take (i := 31) (v := ?_) rfl (by kernel_rfl) (by kernel_rfl) (by kernel_rfl) (fun _ _ _ h => h) (Or.inl ⟨by rfl, ?hy29⟩) (by assumption) ?ty29
                  case hy29 => (intro w hSw; (try dsimp only at hSw); go_simp; all_goals first | with_reducible rfl | (rw [if_pos (by omega)]))
                  simp only [Act.put, List.getElem_toArray, List.getElem_cons_zero, List.getElem_cons_succ, List.setIfInBounds_toArray, List.set_cons_zero, List.set_cons_succ]
                  refine wpAnyH_take (i := 32) (v := ?_) rfl (by kernel_rfl) (by kernel_rfl) (by kernel_rfl) (fun _ _ _ h => h) (Or.inl ⟨by rfl, ?hy30⟩) (by assumption) ?ty30
                  case hy30 => (intro w hSw; (try dsimp only at hSw); go_simp; all_goals first | with_reducible rfl | (rw [if_pos (by omega)]))
                  simp only [Act.put, List.getElem_toArray, List.getElem_cons_zero, List.getElem_cons_succ, List.setIfInBounds_toArray, List.set_cons_zero, List.set_cons_succ]
                  refine wpAnyH_done (by kernel_rfl) ?_ _
                  have hbel2 : Below V.heap.size V _ := hbel.drew
                  clear hHeld
                  go_wp2
                  go_roundw
                  case rel => exact ⟨1, by omega, by go_num, hbel2⟩
                  case measure => simp [intOf]; omega
                · obtain ⟨i, rfl⟩ : ∃ i, j = i + 1 := ⟨j - 1, by omega⟩
                  have hy : wr.cell? ⟨d, off + i, none⟩ = some (.int .i64 (nthI xs i)) := (hbel.cell (p := ⟨d, off + i, none⟩) hdlt).trans (hdc i (by omega))
                  have hyx := HXU.out i (by omega)
                  generalize nthI xs (i + 1) = x at *
                  generalize nthI xs i = y at *
                  have t1 : ¬ x < 1 := by omega
                  have t2 : ¬ x > (M : Int) := by omega
                  have t3 : ¬ x ≤ y := by omega
                  have hiN' : (i : Int) < (N : Int) := by omega
                  have hwi : IntKind.i64.wrap (i : Int) = (i : Int) := by rw [IntKind.wrap_i64]; omega
                  have hiN2 : (i : Int) + 1 < (N : Int) := by omega
                  clear hdc
                  go_wp2_with fail
                  refine wp_region_held_drew (S := fun w' => w'.cell? ⟨g7, 1, none⟩ = some (.slice (some ⟨d, off, none⟩) N cc) ∧ w'.cell? ⟨d, off + (i + 1), none⟩ = some (.int .i64 x) ∧ w'.cell? ⟨d, off + i, none⟩ = some (.int .i64 y)) (by kernel_rfl) ?hS31 (fun hHeld => ?_)
                  case hS31 => exact ⟨hcE, hx, hy⟩
                  refine wpAnyH_take (i := 0) (v := ?_) rfl (by kernel_rfl) (by kernel_rfl) (by kernel_rfl) (fun _ _ _ h => h) (Or.inl ⟨by rfl, ?hy32⟩) (by assumption) ?ty32
                  case hy32 => (intro w hSw; (try dsimp only at hSw); go_simp; all_goals first | with_reducible rfl | (rw [if_pos (by omega)]))
                  simp only [Act.put, List.getElem_toArray, List.getElem_cons_zero, List.setIfInBounds_toArray, List.set_cons_zero, List.set_cons_succ]
                  refine wpAnyH_take (i := 1) (v := ?_) rfl (by kernel_rfl) (by kernel_rfl) (by kernel_rfl) (fun _ _ _ h => h) (Or.inl ⟨by rfl, ?hy33⟩) (by assumption) ?ty33
                  case hy33 => (intro w hSw; (try dsimp only at hSw); go_simp; all_goals first | with_reducible rfl | (rw [if_pos (by omega)]))
                  simp only [Act.put, List.getElem_toArray, List.getElem_cons_zero, List.getElem_cons_succ, List.setIfInBounds_toArray, List.set_cons_zero, List.set_cons_succ]
                  refine wpAnyH_take (i := 2) (v := ?_) rfl (by kernel_rfl) (by kernel_rfl) (by kernel_rfl) (fun _ _ _ h => h) (Or.inl ⟨by rfl, ?hy34⟩) (by assumption) ?ty34
                  case hy34 => (intro w hSw; (try dsimp only at hSw); go_simp; all_goals first | with_reducible rfl | (rw [if_pos (by omega)]))
                  simp only [Act.put, List.getElem_toArray, List.getElem_cons_zero, List.getElem_cons_succ, List.setIfInBounds_toArray, List.set_cons_zero, List.set_cons_succ]
                  refine wpAnyH_take (i := 3) (v := ?_) rfl (by kernel_rfl) (by kernel_rfl) (by kernel_rfl) (fun _ _ _ h => h) (Or.inl ⟨by rfl, ?hy35⟩) (by assumption) ?ty35
                  case hy35 => (intro w hSw; (try dsimp only at hSw); go_simp; all_goals first | with_reducible rfl | (rw [if_pos (by omega)]))
                  simp only [Act.put, List.getElem_toArray, List.getElem_cons_zero, List.getElem_cons_succ, List.setIfInBounds_toArray, List.set_cons_zero, List.set_cons_succ]
                  refine wpAnyH_take (i := 4) (v := ?_) rfl (by kernel_rfl) (by kernel_rfl) (by kernel_rfl) (fun _ _ _ h => h) (Or.inl ⟨by rfl, ?hy36⟩) (by assumption) ?ty36
                  case hy36 => (intro w hSw; (try dsimp only at hSw); go_simp; all_goals first | with_reducible rfl | (rw [if_pos (by omega)]))
                  simp only [Act.put, List.getElem_toArray, List.getElem_cons_zero, List.getElem_cons_succ, List.setIfInBounds_toArray, List.set_cons_zero, List.set_cons_succ]
                  refine wpAnyH_take (i := 5) (v := .bool false) rfl (by kernel_rfl) (by kernel_rfl) (by kernel_rfl) (fun _ _ _ h => h) (Or.inl ⟨by rfl, ?hy37⟩) (by assumption) ?ty37
                  case hy37 => (intro w hSw; (try dsimp only at hSw); go_simp; all_goals first | omega | (simp; done) | (simp; omega) | with_reducible rfl)
                  simp only [Act.put, List.getElem_toArray, List.getElem_cons_zero, List.getElem_cons_succ, List.setIfInBounds_toArray, List.set_cons_zero, List.set_cons_succ]
                  refine wpAnyH_take (i := 6) (v := ?_) rfl (by kernel_rfl) (by kernel_rfl) (by kernel_rfl) (fun _ _ _ h => h) (Or.inl ⟨by rfl, ?hy38⟩) (by assumption) ?ty38
                  case hy38 => (intro w hSw; (try dsimp only at hSw); go_simp; all_goals first | with_reducible rfl | (rw [if_pos (by omega)]))
                  simp only [Act.put, List.getElem_toArray, List.getElem_cons_zero, List.getElem_cons_succ, List.setIfInBounds_toArray, List.set_cons_zero, List.set_cons_succ]
                  refine wpAnyH_take (i := 7) (v := ?_) rfl (by kernel_rfl) (by kernel_rfl) (by kernel_rfl) (fun _ _ _ h => h) (Or.inl ⟨by rfl, ?hy39⟩) (by assumption) ?ty39
                  case hy39 => (intro w hSw; (try dsimp only at hSw); go_simp; all_goals first | with_reducible rfl | (rw [if_pos (by omega)]))
                  simp only [Act.put, List.getElem_toArray, List.getElem_cons_zero, List.getElem_cons_succ, List.setIfInBounds_toArray, List.set_cons_zero, List.set_cons_succ]
                  refine wpAnyH_take (i := 8) (v := ?_) rfl (by kernel_rfl) (by kernel_rfl) (by kernel_rfl) (fun _ _ _ h => h) (Or.inl ⟨by rfl, ?hy40⟩) (by assumption) ?ty40
                  case hy40 => (intro w hSw; (try dsimp only at hSw); go_simp; all_goals first | with_reducible rfl | (rw [if_pos (by omega)]))
                  simp only [Act.put, List.getElem_toArray, List.getElem_cons_zero, List.getElem_cons_succ, List.setIfInBounds_toArray, List.set_cons_zero, List.set_cons_succ]
                  refine wpAnyH_take (i := 9) (v := ?_) rfl (by kernel_rfl) (by kernel_rfl) (by kernel_rfl) (fun _ _ _ h => h) (Or.inl ⟨by rfl, ?hy41⟩) (by assumption) ?ty41
                  case hy41 => (intro w hSw; (try dsimp only at hSw); go_simp; all_goals first | with_reducible rfl | (rw [if_pos (by omega)]))
                  simp only [Act.put, List.getElem_toArray, List.getElem_cons_zero, List.getElem_cons_succ, List.setIfInBounds_toArray, List.set_cons_zero, List.set_cons_succ]
                  refine wpAnyH_take (i := 10) (v := ?_) rfl (by kernel_rfl) (by kernel_rfl) (by kernel_rfl) (fun _ _ _ h => h) (Or.inl ⟨by rfl, ?hy42⟩) (by assumption) ?ty42
                  case hy42 => (intro w hSw; (try dsimp only at hSw); go_simp; all_goals first | with_reducible rfl | (rw [if_pos (by omega)]))
                  simp only [Act.put, List.getElem_toArray, List.getElem_cons_zero, List.getElem_cons_succ, List.setIfInBounds_toArray, List.set_cons_zero, List.set_cons_succ]
                  refine wpAnyH_take (i := 11) (v := ?_) rfl (by kernel_rfl) (by kernel_rfl) (by kernel_rfl) (fun _ _ _ h => h) (Or.inl ⟨by rfl, ?hy43⟩) (by assumption) ?ty43
                  case hy43 => (intro w hSw; (try dsimp only at hSw); go_simp; all_goals first | with_reducible rfl | (rw [if_pos (by omega)]))
                  simp only [Act.put, List.getElem_toArray, List.getElem_cons_zero, List.getElem_cons_succ, List.setIfInBounds_toArray, List.set_cons_zero, List.set_cons_succ]
                  refine wpAnyH_take (i := 12) (v := ?_) rfl (by kernel_rfl) (by kernel_rfl) (by kernel_rfl) (fun _ _ _ h => h) (Or.inl ⟨by rfl, ?hy44⟩) (by assumption) ?ty44
                  case hy44 => (intro w hSw; (try dsimp only at hSw); go_simp; all_goals first | with_reducible rfl | (rw [if_pos (by omega)]))
                  simp only [Act.put, List.getElem_toArray, List.getElem_cons_zero, List.getElem_cons_succ, List.setIfInBounds_toArray, List.set_cons_zero, List.set_cons_succ]
                  refine wpAnyH_take (i := 13) (v := .bool false) rfl (by kernel_rfl) (by kernel_rfl) (by kernel_rfl) (fun _ _ _ h => h) (Or.inl ⟨by rfl, ?hy45⟩) (by assumption) ?ty45
                  case hy45 => (intro w hSw; (try dsimp only at hSw); go_simp; all_goals first | omega | (simp; done) | (simp; omega) | with_reducible rfl)
                  simp only [Act.put, List.getElem_toArray, List.getElem_cons_zero, List.getElem_cons_succ, List.setIfInBounds_toArray, List.set_cons_zero, List.set_cons_succ]
                  refine wpAnyH_take (i := 14) (v := ?_) rfl (by kernel_rfl) (by kernel_rfl) (by kernel_rfl) (fun _ _ _ h => h) (Or.inl ⟨by rfl, ?hy46⟩) (by assumption) ?ty46
                  case hy46 => (intro w hSw; (try dsimp only at hSw); go_simp; all_goals first | with_reducible rfl | (rw [if_pos (by omega)]))
                  simp only [Act.put, List.getElem_toArray, List.getElem_cons_zero, List.getElem_cons_succ, List.setIfInBounds_toArray, List.set_cons_zero, List.set_cons_succ]
                  refine wpAnyH_take (i := 15) (v := ?_) rfl (by kernel_rfl) (by kernel_rfl) (by kernel_rfl) (fun _ _ _ h => h) (Or.inl ⟨by rfl, ?hy47⟩) (by assumption) ?ty47
                  case hy47 => (intro w hSw; (try dsimp only at hSw); go_simp; all_goals first | with_reducible rfl | (rw [if_pos (by omega)]))
                  simp only [Act.put, List.getElem_toArray, List.getElem_cons_zero, List.getElem_cons_succ, List.setIfInBounds_toArray, List.set_cons_zero, List.set_cons_succ]
                  refine wpAnyH_take (i := 16) (v := ?_) rfl (by kernel_rfl) (by kernel_rfl) (by kernel_rfl) (fun _ _ _ h => h) (Or.inl ⟨by rfl, ?hy48⟩) (by assumption) ?ty48
                  case hy48 => (intro w hSw; (try dsimp only at hSw); go_simp; all_goals first | with_reducible rfl | (rw [if_pos (by omega)]))
                  simp only [Act.put, List.getElem_toArray, List.getElem_cons_zero, List.getElem_cons_succ, List.setIfInBounds_toArray, List.set_cons_zero, List.set_cons_succ]
                  refine wpAnyH_take (i := 17) (v := .bool true) rfl (by kernel_rfl) (by kernel_rfl) (by kernel_rfl) (fun _ _ _ h => h) (Or.inl ⟨by rfl, ?hy49⟩) (by assumption) ?ty49
                  case hy49 => (intro w hSw; (try dsimp only at hSw); go_simp; all_goals first | omega | (simp; done) | (simp; omega) | with_reducible rfl)
                  simp only [Act.put, List.getElem_toArray, List.getElem_cons_zero, List.getElem_cons_succ, List.setIfInBounds_toArray, List.set_cons_zero, List.set_cons_succ]
                  refine wpAnyH_take (i := 18) (v := ?_) rfl (by kernel_rfl) (by kernel_rfl) (by kernel_rfl) (fun _ _ _ h => h) (Or.inl ⟨by rfl, ?hy50⟩) (by assumption) ?ty50
                  case hy50 => (intro w hSw; (try dsimp only at hSw); go_simp; all_goals first | with_reducible rfl | (rw [if_pos (by omega)]))
                  simp only [Act.put, List.getElem_toArray, List.getElem_cons_zero, List.getElem_cons_succ, List.setIfInBounds_toArray, List.set_cons_zero, List.set_cons_succ]
                  refine wpAnyH_take (i := 19) (v := ?_) rfl (by kernel_rfl) (by kernel_rfl) (by kernel_rfl) (fun _ _ _ h => h) (Or.inl ⟨by rfl, ?hy51⟩) (by assumption) ?ty51
                  case hy51 => (intro w hSw; (try dsimp only at hSw); go_simp; all_goals first | with_reducible rfl | (rw [if_pos (by omega)]))
                  simp only [Act.put, List.getElem_toArray, List.getElem_cons_zero, List.getElem_cons_succ, List.setIfInBounds_toArray, List.set_cons_zero, List.set_cons_succ]
                  refine wpAnyH_take (i := 20) (v := ?_) rfl (by kernel_rfl) (by kernel_rfl) (by kernel_rfl) (fun _ _ _ h => h) (Or.inl ⟨by rfl, ?hy52⟩) (by assumption) ?ty52
                  case hy52 => (intro w hSw; (try dsimp only at hSw); go_simp; all_goals first | with_reducible rfl | (rw [if_pos (by omega)]))
                  simp only [Act.put, List.getElem_toArray, List.getElem_cons_zero, List.getElem_cons_succ, List.setIfInBounds_toArray, List.set_cons_zero, List.set_cons_succ]
                  refine wpAnyH_take (i := 21) (v := ?_) rfl (by kernel_rfl) (by kernel_rfl) (by kernel_rfl) (fun _ _ _ h => h) (Or.inl ⟨by rfl, ?hy53⟩) (by assumption) ?ty53
                  case hy53 => (intro w hSw; (try dsimp only at hSw); go_simp; all_goals first | with_reducible rfl | (rw [if_pos (by omega)]))
                  simp only [Act.put, List.getElem_toArray, List.getElem_cons_zero, List.getElem_cons_succ, List.setIfInBounds_toArray, List.set_cons_zero, List.set_cons_succ]
                  refine wpAnyH_take (i := 22) (v := ?_) rfl (by kernel_rfl) (by kernel_rfl) (by kernel_rfl) (fun _ _ _ h => h) (Or.inl ⟨by rfl, ?hy54⟩) (by assumption) ?ty54
                  case hy54 => (intro w hSw; (try dsimp only at hSw); go_simp; all_goals first | with_reducible rfl | (rw [if_pos (by omega)]))
                  simp only [Act.put, List.getElem_toArray, List.getElem_cons_zero, List.getElem_cons_succ, List.setIfInBounds_toArray, List.set_cons_zero, List.set_cons_succ]
                  refine wpAnyH_take (i := 23) (v := ?_) rfl (by kernel_rfl) (by kernel_rfl) (by kernel_rfl) (fun _ _ _ h => h) (Or.inl ⟨by rfl, ?hy55⟩) (by assumption) ?ty55
                  case hy55 => (intro w hSw; (try dsimp only at hSw); go_simp; all_goals first | with_reducible rfl | (rw [if_pos (by omega)]))
                  simp only [Act.put, List.getElem_toArray, List.getElem_cons_zero, List.getElem_cons_succ, List.setIfInBounds_toArray, List.set_cons_zero, List.set_cons_succ]
                  refine wpAnyH_take (i := 24) (v := ?_) rfl (by kernel_rfl) (by kernel_rfl) (by kernel_rfl) (fun _ _ _ h => h) (Or.inl ⟨by rfl, ?hy56⟩) (by assumption) ?ty56
                  case hy56 => (intro w hSw; (try dsimp only at hSw); go_simp; all_goals first | with_reducible rfl | (rw [if_pos (by omega)]))
                  simp only [Act.put, List.getElem_toArray, List.getElem_cons_zero, List.getElem_cons_succ, List.setIfInBounds_toArray, List.set_cons_zero, List.set_cons_succ]
                  refine wpAnyH_take (i := 25) (v := ?_) rfl (by kernel_rfl) (by kernel_rfl) (by kernel_rfl) (fun _ _ _ h => h) (Or.inl ⟨by rfl, ?hy57⟩) (by assumption) ?ty57
                  case hy57 => (intro w hSw; (try dsimp only at hSw); go_simp; all_goals first | with_reducible rfl | (rw [if_pos (by omega)]))
                  simp only [Act.put, List.getElem_toArray, List.getElem_cons_zero, List.getElem_cons_succ, List.setIfInBounds_toArray, List.set_cons_zero, List.set_cons_succ]
                  refine wpAnyH_take (i := 26) (v := ?_) rfl (by kernel_rfl) (by kernel_rfl) (by kernel_rfl) (fun _ _ _ h => h) (Or.inl ⟨by rfl, ?hy58⟩) (by assumption) ?ty58
                  case hy58 => (intro w hSw; (try dsimp only at hSw); go_simp; all_goals first | with_reducible rfl | (rw [if_pos (by omega)]))
                  simp only [Act.put, List.getElem_toArray, List.getElem_cons_zero, List.getElem_cons_succ, List.setIfInBounds_toArray, List.set_cons_zero, List.set_cons_succ]
                  refine wpAnyH_take (i := 27) (v := .int .i64 (i : Int)) rfl (by kernel_rfl) (by kernel_rfl) (by kernel_rfl) (fun _ _ _ h => h) (Or.inl ⟨by rfl, ?hy59⟩) (by assumption) ?ty59
                  case hy59 => (intro w hSw; (try dsimp only at hSw); go_simp; all_goals first | (rw [hwi]) | (simp [hwi]; done) | with_reducible rfl)
                  simp only [Act.put, List.getElem_toArray, List.getElem_cons_zero, List.getElem_cons_succ, List.setIfInBounds_toArray, List.set_cons_zero, List.set_cons_succ]
                  refine wpAnyH_take (i := 28) (v := ?_) rfl (by kernel_rfl) (by kernel_rfl) (by kernel_rfl) (fun _ _ _ h => h) (Or.inl ⟨by rfl, ?hy60⟩) (by assumption) ?ty60
                  case hy60 => (intro w hSw; (try dsimp only at hSw); go_simp; all_goals first | with_reducible rfl | (rw [if_pos (by omega)]))
                  simp only [Act.put, List.getElem_toArray, List.getElem_cons_zero, List.getElem_cons_succ, List.setIfInBounds_toArray, List.set_cons_zero, List.set_cons_succ]
                  refine wpAnyH_take (i := 29) (v := ?_) rfl (by kernel_rfl) (by kernel_rfl) (by kernel_rfl) (fun _ _ _ h => h) (Or.inl ⟨by rfl, ?hy61⟩) (by assumption) ?ty61
                  case hy61 => (intro w hSw; (try dsimp only at hSw); go_simp; all_goals first | with_reducible rfl | (rw [if_pos (by omega)]))
                  simp only [Act.put, List.getElem_toArray, List.getElem_cons_zero, List.getElem_cons_succ, List.setIfInBounds_toArray, List.set_cons_zero, List.set_cons_succ]
                  refine wpAnyH_take (i := 30) (v := .bool false) rfl (by kernel_rfl) (by kernel_rfl) (by kernel_rfl) (fun _ _ _ h => h) (Or.inl ⟨by rfl, ?hy62⟩) (by assumption) ?ty62
                  case hy62 => (intro w hSw; (try dsimp only at hSw); go_simp; all_goals first | omega | (simp; done) | (simp; omega) | with_reducible rfl)
                  simp only [Act.put, List.getElem_toArray, List.getElem_cons_zero, List.getElem_cons_succ, List.setIfInBounds_toArray, List.set_cons_zero, List.set_cons_succ]
                  refine wpAnyH_take (i := 31) (v := ?_) rfl (by kernel_rfl) (by kernel_rfl) (by kernel_rfl) (fun _ _ _ h => h) (Or.inl ⟨by rfl, ?hy63⟩) (by assumption) ?ty63
                  case hy63 => (intro w hSw; (try dsimp only at hSw); go_simp; all_goals first | with_reducible rfl | (rw [if_pos (by omega)]))
                  simp only [Act.put, List.getElem_toArray, List.getElem_cons_zero, List.getElem_cons_succ, List.setIfInBounds_toArray, List.set_cons_zero, List.set_cons_succ]
                  refine wpAnyH_take (i := 32) (v := ?_) rfl (by kernel_rfl) (by kernel_rfl) (by kernel_rfl) (fun _ _ _ h => h) (Or.inl ⟨by rfl, ?hy64⟩) (by assumption) ?ty64
                  case hy64 => (intro w hSw; (try dsimp only at hSw); go_simp; all_goals first | with_reducible rfl | (rw [if_pos (by omega)]))
                  simp only [Act.put, List.getElem_toArray, List.getElem_cons_zero, List.getElem_cons_succ, List.setIfInBounds_toArray, List.set_cons_zero, List.set_cons_succ]
                  refine wpAnyH_done (by kernel_rfl) ?_ _
                  have hbel2 : Below V.heap.size V _ := hbel.drew
                  clear hHeld
                  go_wp2
                  go_roundw
                  case rel => exact ⟨i + 1 + 1, by omega, by go_num, hbel2⟩
                  case measure => simp [intOf]; omega
              · have hjN' : ¬ (j : Int) < (N : Int) := by omega
                have hrY := hrYr.below hbel
                have hrI := hrIr.below hbel
                have hrA := hrAr.below hbel
                have HB7 : Hid (Below w.heap.size w wr) := HB6.out.trans (hbel.mono HB6.out.size)
                have hg7w : g7 < wr.heap.size := Nat.lt_of_lt_of_le hg7r hbel.size
                clear hrYr hrIr hrAr HB6 k1r hbel
                go_wp2_with fail
                refine (drawInSet_any a n cap l _ hl hrA hB (by omega)).mono ?_
                rintro e w8 ⟨v8, ou, x, mo, rfl, ho8, hou, hb8⟩
                obtain ⟨a8, c8, hv, -, -⟩ := ho8.form
                subst hv
                have hr8 := ho8.rd.2
                have hcE8 : w8.cell? ⟨g7, 1, none⟩ = some (.slice b1 N cc) := (hb8.cell (p := ⟨g7, 1, none⟩) hg7w).trans hcE
                have hg8 : g7 < w8.heap.size := Nat.lt_of_lt_of_le hg7w hb8.size
                have HB8 : Hid (Below w.heap.size w w8) := HB7.out.trans (hb8.mono HB7.out.size)
                have hrY8 := hrY.below hb8
                have hrI8 := hrI.below hb8
                have HJ : Hid (∀ w, RdY w a8 ou → Calls Try.prog 12 #[.slice a8 ou.length c8, .int .i64 x, .int .i64 mo] w fun e w' => e = .returned (.bool (isY ou x mo)) ∧ Below w.heap.size w w') := fun w hr => inSet_any x mo a8 ou.length c8 ou w rfl hr (by omega)
                have HK : Hid (∀ w, RdY w a8 ou → Calls Try.prog 15 #[.slice a8 ou.length c8, .int .i64 x, .int .i64 mo] w fun e w' => e = .returned (.bool (isY ou x mo)) ∧ Below w.heap.size w w') := fun w hr => specInSet_any x mo a8 ou.length c8 ou w rfl hr (by omega)
                have HLN : Hid (∀ (d : Option Addr) (dc : Nat) w, RdI w b1 xs → RdI w d xs → Calls Try.prog 16 #[.slice b1 N cc, .slice d N dc] w fun e w' => e = .returned (.bool true) ∧ Below w.heap.size w w') := fun d dc w h1 h2 => by
                  have h := lwNums_any b1 d N N cc dc xs xs w hN hN h1 h2 hN6 hN6
                  rw [decide_eq_true rfl] at h; exact h
                generalize isY ou x mo = bb at *
                generalize ou.length = L8 at *
                have hL0 : (L : Int) > 0 := by omega
                clear ho8 hb8 hrY hrI hrA HB7 hcE hjN'
                go_wp2_with fail
                refine wp_region_held_drew (S := fun w' => w'.cell? ⟨g7, 1, none⟩ = some (.slice b1 N cc)) (by kernel_rfl) ?hS65 (fun hHeld => ?_)
                case hS65 => exact hcE8
                refine wpAnyH_take (i := 0) (v := ?_) rfl (by kernel_rfl) (by kernel_rfl) (by kernel_rfl) (fun _ _ _ h => h) (Or.inl ⟨by rfl, ?hy66⟩) (by assumption) ?ty66
                case hy66 => (intro w hSw; (try dsimp only at hSw); go_simp; all_goals first | with_reducible rfl | (rw [if_pos (by omega)]))
                simp only [Act.put, List.getElem_toArray, List.getElem_cons_zero, List.setIfInBounds_toArray, List.set_cons_zero, List.set_cons_succ]
                refine wpAnyH_take (i := 1) (v := ?_) rfl (by kernel_rfl) (by kernel_rfl) (by kernel_rfl) (fun _ _ _ h => h) (Or.inl ⟨by rfl, ?hy67⟩) (by assumption) ?ty67
                case hy67 => (intro w hSw; (try dsimp only at hSw); go_simp; all_goals first | with_reducible rfl | (rw [if_pos (by omega)]))
                simp only [Act.put, List.getElem_toArray, List.getElem_cons_zero, List.getElem_cons_succ, List.setIfInBounds_toArray, List.set_cons_zero, List.set_cons_succ]
                refine wpAnyH_take (i := 2) (v := ?_) rfl (by kernel_rfl) (by kernel_rfl) (by kernel_rfl) (fun _ _ _ h => h) (Or.inl ⟨by rfl, ?hy68⟩) (by assumption) ?ty68
                case hy68 => (intro w hSw; (try dsimp only at hSw); go_simp; all_goals first | with_reducible rfl | (rw [if_pos (by omega)]))
                simp only [Act.put, List.getElem_toArray, List.getElem_cons_zero, List.getElem_cons_succ, List.setIfInBounds_toArray, List.set_cons_zero, List.set_cons_succ]
                refine wpAnyH_take (i := 4) (v := ?_) rfl (by kernel_rfl) (by kernel_rfl) (by kernel_rfl) (fun _ _ _ h => h) (Or.inl ⟨by rfl, ?hy69⟩) (by assumption) ?ty69
                case hy69 => (intro w hSw; (try dsimp only at hSw); go_simp; all_goals first | with_reducible rfl | (rw [if_pos (by omega)]))
                simp only [Act.put, List.getElem_toArray, List.getElem_cons_zero, List.getElem_cons_succ, List.setIfInBounds_toArray, List.set_cons_zero, List.set_cons_succ]
                refine wpAnyH_take (i := 5) (v := ?_) rfl (by kernel_rfl) (by kernel_rfl) (by kernel_rfl) (fun _ _ _ h => h) (Or.inl ⟨by rfl, ?hy70⟩) (by assumption) ?ty70
                case hy70 => (intro w hSw; (try dsimp only at hSw); go_simp; all_goals first | with_reducible rfl | (rw [if_pos (by omega)]))
                simp only [Act.put, List.getElem_toArray, List.getElem_cons_zero, List.getElem_cons_succ, List.setIfInBounds_toArray, List.set_cons_zero, List.set_cons_succ]
                refine wpAnyH_take (i := 6) (v := ?_) rfl (by kernel_rfl) (by kernel_rfl) (by kernel_rfl) (fun _ _ _ h => h) (Or.inl ⟨by rfl, ?hy71⟩) (by assumption) ?ty71
                case hy71 => (intro w hSw; (try dsimp only at hSw); go_simp; all_goals first | with_reducible rfl | (rw [if_pos (by omega)]))
                simp only [Act.put, List.getElem_toArray, List.getElem_cons_zero, List.getElem_cons_succ, List.setIfInBounds_toArray, List.set_cons_zero, List.set_cons_succ]
                refine wpAnyH_ready (rs := [3]) (by kernel_rfl) (by simp) ?_
                refine AllReadyH.cons rfl (fun K hK => ?_) AllReadyH.nil
                go_simp
                refine (HJ.out _ (by exact hr8)).mono ?_
                rintro e u1 ⟨rfl, hbx⟩
                have HW_u1 : Hid (Below w8.heap.size w8 u1) := (Below.refl _ _).drew.trans hbx
                have hsS : u1.cell? ⟨g7, 1, none⟩ = some (.slice b1 N cc) := (HW_u1.out.cell (p := ⟨g7, 1, none⟩) hg8).trans hcE8
                refine hK.out _ _ hsS (fun hHeld => ?_)
                clear hK K
                clear hsS hbx
                refine wpAnyH_ready (rs := [7]) (by kernel_rfl) (by simp) ?_
                refine AllReadyH.cons rfl (fun K hK => ?_) AllReadyH.nil
                go_simp
                refine (HK.out _ (by exact hr8.below HW_u1.out)).mono ?_
                rintro e u2 ⟨rfl, hbx⟩
                have HW_u2 : Hid (Below w8.heap.size w8 u2) := HW_u1.out.trans (hbx.mono HW_u1.out.size)
                have hsS : u2.cell? ⟨g7, 1, none⟩ = some (.slice b1 N cc) := (HW_u2.out.cell (p := ⟨g7, 1, none⟩) hg8).trans hcE8
                refine hK.out _ _ hsS (fun hHeld => ?_)
                clear hK K
                clear hsS hbx
                refine wpAnyH_take (i := 8) (v := .bool true) rfl (by kernel_rfl) (by kernel_rfl) (by kernel_rfl) (fun _ _ _ h => h) (Or.inl ⟨by rfl, ?hy72⟩) (by assumption) ?ty72
                case hy72 => (intro w hSw; (try dsimp only at hSw); go_simp; all_goals first | (simp; done) | (cases bb <;> rfl))
                simp only [Act.put, List.getElem_toArray, List.getElem_cons_zero, List.getElem_cons_succ, List.setIfInBounds_toArray, List.set_cons_zero, List.set_cons_succ]
                refine wpAnyH_take (i := 9) (v := ?_) rfl (by kernel_rfl) (by kernel_rfl) (by kernel_rfl) (fun _ _ _ h => h) (Or.inl ⟨by rfl, ?hy73⟩) (by assumption) ?ty73
                case hy73 => (intro w hSw; (try dsimp only at hSw); go_simp; all_goals first | with_reducible rfl | (rw [if_pos (by omega)]))
                simp only [Act.put, List.getElem_toArray, List.getElem_cons_zero, List.getElem_cons_succ, List.setIfInBounds_toArray, List.set_cons_zero, List.set_cons_succ]
                refine wpAnyH_take (i := 10) (v := ?_) rfl (by kernel_rfl) (by kernel_rfl) (by kernel_rfl) (fun _ _ _ h => h) (Or.inl ⟨by rfl, ?hy74⟩) (by assumption) ?ty74
                case hy74 => (intro w hSw; (try dsimp only at hSw); go_simp; all_goals first | with_reducible rfl | (rw [if_pos (by omega)]))
                simp only [Act.put, List.getElem_toArray, List.getElem_cons_zero, List.getElem_cons_succ, List.setIfInBounds_toArray, List.set_cons_zero, List.set_cons_succ]
                refine wpAnyH_take (i := 11) (v := ?_) rfl (by kernel_rfl) (by kernel_rfl) (by kernel_rfl) (fun _ _ _ h => h) (Or.inl ⟨by rfl, ?hy75⟩) (by assumption) ?ty75
                case hy75 => (intro w hSw; (try dsimp only at hSw); go_simp; all_goals first | with_reducible rfl | (rw [if_pos (by omega)]))
                simp only [Act.put, List.getElem_toArray, List.getElem_cons_zero, List.getElem_cons_succ, List.setIfInBounds_toArray, List.set_cons_zero, List.set_cons_succ]
                refine wpAnyH_take (i := 12) (v := ?_) rfl (by kernel_rfl) (by kernel_rfl) (by kernel_rfl) (fun _ _ _ h => h) (Or.inl ⟨by rfl, ?hy76⟩) (by assumption) ?ty76
                case hy76 => (intro w hSw; (try dsimp only at hSw); go_simp; all_goals first | with_reducible rfl | (rw [if_pos (by omega)]))
                simp only [Act.put, List.getElem_toArray, List.getElem_cons_zero, List.getElem_cons_succ, List.setIfInBounds_toArray, List.set_cons_zero, List.set_cons_succ]
                refine wpAnyH_take (i := 13) (v := ?_) rfl (by kernel_rfl) (by kernel_rfl) (by kernel_rfl) (fun _ _ _ h => h) (Or.inl ⟨by rfl, ?hy77⟩) (by assumption) ?ty77
                case hy77 => (intro w hSw; (try dsimp only at hSw); go_simp; all_goals first | with_reducible rfl | (rw [if_pos (by omega)]))
                simp only [Act.put, List.getElem_toArray, List.getElem_cons_zero, List.getElem_cons_succ, List.setIfInBounds_toArray, List.set_cons_zero, List.set_cons_succ]
                refine wpAnyH_ready (rs := [14]) (by kernel_rfl) (by simp) ?_
                refine AllReadyH.cons rfl (fun K hK => ?_) AllReadyH.nil
                go_simp
                refine (HES.out _ (by exact hrY8.below HW_u2.out)).mono ?_
                rintro e u3 ⟨v7, rfl, hown7, hbx⟩
                simp only at hown7 ⊢
                obtain ⟨b3, c3, hv, -, -⟩ := hown7.form
                rw [hN] at hv
                rw [hv] at hown7 ⊢
                clear hv
                have HW_u3 : Hid (Below w8.heap.size w8 u3) := HW_u2.out.trans (hbx.mono HW_u2.out.size)
                have hsS : u3.cell? ⟨g7, 1, none⟩ = some (.slice b1 N cc) := (HW_u3.out.cell (p := ⟨g7, 1, none⟩) hg8).trans hcE8
                refine hK.out _ _ hsS (fun hHeld => ?_)
                clear hK K
                clear hsS hbx
                refine wpAnyH_take (i := 15) (v := ?_) rfl (by kernel_rfl) (by kernel_rfl) (by kernel_rfl) (fun _ _ _ h => h) (Or.inl ⟨by rfl, ?hy78⟩) (by assumption) ?ty78
                case hy78 => (intro w hSw; (try dsimp only at hSw); go_simp; all_goals first | with_reducible rfl | (rw [if_pos (by omega)]))
                simp only [Act.put, List.getElem_toArray, List.getElem_cons_zero, List.getElem_cons_succ, List.setIfInBounds_toArray, List.set_cons_zero, List.set_cons_succ]
                refine wpAnyH_ready (rs := [16]) (by kernel_rfl) (by simp) ?_
                refine AllReadyH.cons rfl (fun K hK => ?_) AllReadyH.nil
                go_simp
                refine (HLN.out _ _ _ (by exact hrI8.below HW_u3.out) (by exact hown7.rd.2)).mono ?_
                rintro e u4 ⟨rfl, hbx⟩
                have HW_u4 : Hid (Below w8.heap.size w8 u4) := HW_u3.out.trans (hbx.mono HW_u3.out.size)
                have hsS : u4.cell? ⟨g7, 1, none⟩ = some (.slice b1 N cc) := (HW_u4.out.cell (p := ⟨g7, 1, none⟩) hg8).trans hcE8
                refine hK.out _ _ hsS (fun hHeld => ?_)
                clear hK K
                clear hsS hbx
                refine wpAnyH_take (i := 17) (v := ?_) rfl (by kernel_rfl) (by kernel_rfl) (by kernel_rfl) (fun _ _ _ h => h) (Or.inl ⟨by rfl, ?hy79⟩) (by assumption) ?ty79
                case hy79 => (intro w hSw; (try dsimp only at hSw); go_simp; all_goals first | with_reducible rfl | (rw [if_pos (by omega)]))
                simp only [Act.put, List.getElem_toArray, List.getElem_cons_zero, List.getElem_cons_succ, List.setIfInBounds_toArray, List.set_cons_zero, List.set_cons_succ]
                refine wpAnyH_take (i := 18) (v := ?_) rfl (by kernel_rfl) (by kernel_rfl) (by kernel_rfl) (fun _ _ _ h => h) (Or.inl ⟨by rfl, ?hy80⟩) (by assumption) ?ty80
                case hy80 => (intro w hSw; (try dsimp only at hSw); go_simp; all_goals first | with_reducible rfl | (rw [if_pos (by omega)]))
                simp only [Act.put, List.getElem_toArray, List.getElem_cons_zero, List.getElem_cons_succ, List.setIfInBounds_toArray, List.set_cons_zero, List.set_cons_succ]
                refine wpAnyH_take (i := 19) (v := ?_) rfl (by kernel_rfl) (by kernel_rfl) (by kernel_rfl) (fun _ _ _ h => h) (Or.inl ⟨by rfl, ?hy81⟩) (by assumption) ?ty81
                case hy81 => (intro w hSw; (try dsimp only at hSw); go_simp; all_goals first | with_reducible rfl | (rw [if_pos (by omega)]))
                simp only [Act.put, List.getElem_toArray, List.getElem_cons_zero, List.getElem_cons_succ, List.setIfInBounds_toArray, List.set_cons_zero, List.set_cons_succ]
                refine wpAnyH_ready (rs := [20]) (by kernel_rfl) (by simp) ?_
                refine AllReadyH.cons rfl (fun K hK => ?_) AllReadyH.nil
                go_simp
                refine (HRF.out _ (by exact hrY8.below HW_u4.out)).mono ?_
                rintro e u5 ⟨rfl, hbx⟩
                have HW_u5 : Hid (Below w8.heap.size w8 u5) := HW_u4.out.trans (hbx.mono HW_u4.out.size)
                have hsS : u5.cell? ⟨g7, 1, none⟩ = some (.slice b1 N cc) := (HW_u5.out.cell (p := ⟨g7, 1, none⟩) hg8).trans hcE8
                refine hK.out _ _ hsS (fun hHeld => ?_)
                clear hK K
                clear hsS hbx
                refine wpAnyH_take (i := 21) (v := .bool true) rfl (by kernel_rfl) (by kernel_rfl) (by kernel_rfl) (fun _ _ _ h => h) (Or.inl ⟨by rfl, ?hy82⟩) (by assumption) ?ty82
                case hy82 => (intro w hSw; (try dsimp only at hSw); go_simp; first | (simp; done) | (all_goals with_reducible rfl))
                simp only [Act.put, List.getElem_toArray, List.getElem_cons_zero, List.getElem_cons_succ, List.setIfInBounds_toArray, List.set_cons_zero, List.set_cons_succ]
                refine wpAnyH_take (i := 22) (v := ?_) rfl (by kernel_rfl) (by kernel_rfl) (by kernel_rfl) (fun _ _ _ h => h) (Or.inl ⟨by rfl, ?hy83⟩) (by assumption) ?ty83
                case hy83 => (intro w hSw; (try dsimp only at hSw); go_simp; all_goals first | with_reducible rfl | (rw [if_pos (by omega)]))
                simp only [Act.put, List.getElem_toArray, List.getElem_cons_zero, List.getElem_cons_succ, List.setIfInBounds_toArray, List.set_cons_zero, List.set_cons_succ]
                refine wpAnyH_take (i := 23) (v := ?_) rfl (by kernel_rfl) (by kernel_rfl) (by kernel_rfl) (fun _ _ _ h => h) (Or.inl ⟨by rfl, ?hy84⟩) (by assumption) ?ty84
                case hy84 => (intro w hSw; (try dsimp only at hSw); go_simp; all_goals first | with_reducible rfl | (rw [if_pos (by omega)]))
                simp only [Act.put, List.getElem_toArray, List.getElem_cons_zero, List.getElem_cons_succ, List.setIfInBounds_toArray, List.set_cons_zero, List.set_cons_succ]
                refine wpAnyH_take (i := 24) (v := ?_) rfl (by kernel_rfl) (by kernel_rfl) (by kernel_rfl) (fun _ _ _ h => h) (Or.inl ⟨by rfl, ?hy85⟩) (by assumption) ?ty85
                case hy85 => (intro w hSw; (try dsimp only at hSw); go_simp; all_goals first | with_reducible rfl | (rw [if_pos (by omega)]))
                simp only [Act.put, List.getElem_toArray, List.getElem_cons_zero, List.getElem_cons_succ, List.setIfInBounds_toArray, List.set_cons_zero, List.set_cons_succ]
                refine wpAnyH_take (i := 25) (v := ?_) rfl (by kernel_rfl) (by kernel_rfl) (by kernel_rfl) (fun _ _ _ h => h) (Or.inl ⟨by rfl, ?hy86⟩) (by assumption) ?ty86
                case hy86 => (intro w hSw; (try dsimp only at hSw); go_simp; all_goals first | with_reducible rfl | (rw [if_pos (by omega)]))
                simp only [Act.put, List.getElem_toArray, List.getElem_cons_zero, List.getElem_cons_succ, List.setIfInBounds_toArray, List.set_cons_zero, List.set_cons_succ]
                refine wpAnyH_take (i := 26) (v := .bool true) rfl (by kernel_rfl) (by kernel_rfl) (by kernel_rfl) (fun _ _ _ h => h) (Or.inl ⟨by rfl, ?hy87⟩) (by assumption) ?ty87
                case hy87 => (intro w hSw; (try dsimp only at hSw); go_simp; all_goals first | omega | (simp; done) | (simp; omega) | with_reducible rfl)
                simp only [Act.put, List.getElem_toArray, List.getElem_cons_zero, List.getElem_cons_succ, List.setIfInBounds_toArray, List.set_cons_zero, List.set_cons_succ]
                refine wpAnyH_take (i := 27) (v := ?_) rfl (by kernel_rfl) (by kernel_rfl) (by kernel_rfl) (fun _ _ _ h => h) (Or.inl ⟨by rfl, ?hy88⟩) (by assumption) ?ty88
                case hy88 => (intro w hSw; (try dsimp only at hSw); go_simp; all_goals first | with_reducible rfl | (rw [if_pos (by omega)]))
                simp only [Act.put, List.getElem_toArray, List.getElem_cons_zero, List.getElem_cons_succ, List.setIfInBounds_toArray, List.set_cons_zero, List.set_cons_succ]
                refine wpAnyH_take (i := 28) (v := ?_) rfl (by kernel_rfl) (by kernel_rfl) (by kernel_rfl) (fun _ _ _ h => h) (Or.inl ⟨by rfl, ?hy89⟩) (by assumption) ?ty89
                case hy89 => (intro w hSw; (try dsimp only at hSw); go_simp; all_goals first | with_reducible rfl | (rw [if_pos (by omega)]))
                simp only [Act.put, List.getElem_toArray, List.getElem_cons_zero, List.getElem_cons_succ, List.setIfInBounds_toArray, List.set_cons_zero, List.set_cons_succ]
                refine wpAnyH_done (by kernel_rfl) ?_ _
                have HF : Hid (Below w.heap.size w u5) := HB8.out.trans (HW_u5.out.mono HB8.out.size)
                clear hHeld HW_u1 HW_u2 HW_u3 HW_u4 HW_u5 hown7 HES HJ HK HLN HRF HB8
                go_wp2
                go_ret
                exact ⟨rfl, HF.out⟩
        · have HB6 : Hid (Below w.heap.size w wr) := HB5.out.trans (hbel.mono HB5.out.size)
          have k1r : wr.cell? ⟨g7, 1, none⟩ = some (.slice b1 N cc) := (hbel.cell (p := ⟨g7, 1, none⟩) hg7).trans k1
          have hg7r : g7 < wr.heap.size := Nat.lt_of_lt_of_le hg7 hbel.size
          have hrYr := hr5.below hbel
          have hrIr := hu5.below hbel
          have hrAr := hrA5.below hbel
          clear HIN HII hbel hr5 hu5 hrA5 HB5 k1 hg7
          go_wp2
          generalize wr = V at *
          go_loopw [7] (fun i wr => ∃ k : Nat, k ≤ N ∧ i = .int .i64 (k : Int) ∧ Below V.heap.size V wr) (fun i _ => N - (intOf i).toNat)
          case atStart => exact ⟨0, by omega, rfl, Below.refl _ _⟩
          case round =>
            obtain ⟨j, hj, rfl, hbel⟩ := hrel
            have hcE : wr.cell? ⟨g7, 1, none⟩ = some (.slice b1 N cc) := (hbel.cell (p := ⟨g7, 1, none⟩) hg7r).trans k1r
            by_cases hjN : j < N
            · obtain ⟨d, off, rfl, hdlt, hdc⟩ := hrIr.at_ (by omega)
              have hx : wr.cell? ⟨d, off + j, none⟩ = some (.int .i64 (nthI xs j)) := (hbel.cell (p := ⟨d, off + j, none⟩) hdlt).trans (hdc j (by omega))
              obtain ⟨hx1, hxM⟩ := HXA.out j hjN
              have hjN' : (j : Int) < (N : Int) := by omega
              by_cases hj0 : j = 0
              · subst hj0
                rw [Nat.add_zero] at hx
                generalize nthI xs 0 = x at *
                have t1 : ¬ x < 1 := by omega
                have t2 : ¬ x > (M : Int) := by omega
                clear hdc
                go_wp2_with fail
                refine wp_region_held_drew (S := fun w' => w'.cell? ⟨g7, 1, none⟩ = some (.slice (some ⟨d, off, none⟩) N cc) ∧ w'.cell? ⟨d, off, none⟩ = some (.int .i64 x)) (by kernel_rfl) ?hS90 (fun hHeld => ?_)
                case hS90 => exact ⟨hcE, hx⟩
                refine wpAnyH_take (i := 0) (v := ?_) rfl (by kernel_rfl) (by kernel_rfl) (by kernel_rfl) (fun _ _ _ h => h) (Or.inl ⟨by rfl, ?hy91⟩) (by assumption) ?ty91
                case hy91 => (intro w hSw; (try dsimp only at hSw); go_simp; all_goals first | with_reducible rfl | (rw [if_pos (by omega)]))
                simp only [Act.put, List.getElem_toArray, List.getElem_cons_zero, List.setIfInBounds_toArray, List.set_cons_zero, List.set_cons_succ]
                refine wpAnyH_take (i := 1) (v := ?_) rfl (by kernel_rfl) (by kernel_rfl) (by kernel_rfl) (fun _ _ _ h => h) (Or.inl ⟨by rfl, ?hy92⟩) (by assumption) ?ty92
                case hy92 => (intro w hSw; (try dsimp only at hSw); go_simp; all_goals first | with_reducible rfl | (rw [if_pos (by omega)]))
                simp only [Act.put, List.getElem_toArray, List.getElem_cons_zero, List.getElem_cons_succ, List.setIfInBounds_toArray, List.set_cons_zero, List.set_cons_succ]
                refine wpAnyH_take (i := 2) (v := ?_) rfl (by kernel_rfl) (by kernel_rfl) (by kernel_rfl) (fun _ _ _ h => h) (Or.inl ⟨by rfl, ?hy93⟩) (by assumption) ?ty93
                case hy93 => (intro w hSw; (try dsimp only at hSw); go_simp; all_goals first | with_reducible rfl | (rw [if_pos (by omega)]))
                simp only [Act.put, List.getElem_toArray, List.getElem_cons_zero, List.getElem_cons_succ, List.setIfInBounds_toArray, List.set_cons_zero, List.set_cons_succ]
                refine wpAnyH_take (i := 3) (v := ?_) rfl (by kernel_rfl) (by kernel_rfl) (by kernel_rfl) (fun _ _ _ h => h) (Or.inl ⟨by rfl, ?hy94⟩) (by assumption) ?ty94
                case hy94 => (intro w hSw; (try dsimp only at hSw); go_simp; all_goals first | with_reducible rfl | (rw [if_pos (by omega)]))
                simp only [Act.put, List.getElem_toArray, List.getElem_cons_zero, List.getElem_cons_succ, List.setIfInBounds_toArray, List.set_cons_zero, List.set_cons_succ]
                refine wpAnyH_take (i := 4) (v := ?_) rfl (by kernel_rfl) (by kernel_rfl) (by kernel_rfl) (fun _ _ _ h => h) (Or.inl ⟨by rfl, ?hy95⟩) (by assumption) ?ty95
                case hy95 => (intro w hSw; (try dsimp only at hSw); go_simp; all_goals first | with_reducible rfl | (rw [if_pos (by omega)]))
                simp only [Act.put, List.getElem_toArray, List.getElem_cons_zero, List.getElem_cons_succ, List.setIfInBounds_toArray, List.set_cons_zero, List.set_cons_succ]
                refine wpAnyH_take (i := 5) (v := .bool false) rfl (by kernel_rfl) (by kernel_rfl) (by kernel_rfl) (fun _ _ _ h => h) (Or.inl ⟨by rfl, ?hy96⟩) (by assumption) ?ty96
                case hy96 => (intro w hSw; (try dsimp only at hSw); go_simp; all_goals first | omega | (simp; done) | (simp; omega) | with_reducible rfl)
                simp only [Act.put, List.getElem_toArray, List.getElem_cons_zero, List.getElem_cons_succ, List.setIfInBounds_toArray, List.set_cons_zero, List.set_cons_succ]
                refine wpAnyH_take (i := 6) (v := ?_) rfl (by kernel_rfl) (by kernel_rfl) (by kernel_rfl) (fun _ _ _ h => h) (Or.inl ⟨by rfl, ?hy97⟩) (by assumption) ?ty97
                case hy97 => (intro w hSw; (try dsimp only at hSw); go_simp; all_goals first | with_reducible rfl | (rw [if_pos (by omega)]))
                simp only [Act.put, List.getElem_toArray, List.getElem_cons_zero, List.getElem_cons_succ, List.setIfInBounds_toArray, List.set_cons_zero, List.set_cons_succ]
                refine wpAnyH_take (i := 7) (v := ?_) rfl (by kernel_rfl) (by kernel_rfl) (by kernel_rfl) (fun _ _ _ h => h) (Or.inl ⟨by rfl, ?hy98⟩) (by assumption) ?ty98
                case hy98 => (intro w hSw; (try dsimp only at hSw); go_simp; all_goals first | with_reducible rfl | (rw [if_pos (by omega)]))
                simp only [Act.put, List.getElem_toArray, List.getElem_cons_zero, List.getElem_cons_succ, List.setIfInBounds_toArray, List.set_cons_zero, List.set_cons_succ]
                refine wpAnyH_take (i := 8) (v := ?_) rfl (by kernel_rfl) (by kernel_rfl) (by kernel_rfl) (fun _ _ _ h => h) (Or.inl ⟨by rfl, ?hy99⟩) (by assumption) ?ty99
                case hy99 => (intro w hSw; (try dsimp only at hSw); go_simp; all_goals first | with_reducible rfl | (rw [if_pos (by omega)]))
                simp only [Act.put, List.getElem_toArray, List.getElem_cons_zero, List.getElem_cons_succ, List.setIfInBounds_toArray, List.set_cons_zero, List.set_cons_succ]
                refine wpAnyH_take (i := 9) (v := ?_) rfl (by kernel_rfl) (by kernel_rfl) (by kernel_rfl) (fun _ _ _ h => h) (Or.inl ⟨by rfl, ?hy100⟩) (by assumption) ?ty100
                case hy100 => (intro w hSw; (try dsimp only at hSw); go_simp; all_goals first | with_reducible rfl | (rw [if_pos (by omega)]))
                simp only [Act.put, List.getElem_toArray, List.getElem_cons_zero, List.getElem_cons_succ, List.setIfInBounds_toArray, List.set_cons_zero, List.set_cons_succ]
                refine wpAnyH_take (i := 10) (v := ?_) rfl (by kernel_rfl) (by kernel_rfl) (by kernel_rfl) (fun _ _ _ h => h) (Or.inl ⟨by rfl, ?hy101⟩) (by assumption) ?ty101
                case hy101 => (intro w hSw; (try dsimp only at hSw); go_simp; all_goals first | with_reducible rfl | (rw [if_pos (by omega)]))
                simp only [Act.put, List.getElem_toArray, List.getElem_cons_zero, List.getElem_cons_succ, List.setIfInBounds_toArray, List.set_cons_zero, List.set_cons_succ]
                refine wpAnyH_take (i := 11) (v := ?_) rfl (by kernel_rfl) (by kernel_rfl) (by kernel_rfl) (fun _ _ _ h => h) (Or.inl ⟨by rfl, ?hy102⟩) (by assumption) ?ty102
                case hy102 => (intro w hSw; (try dsimp only at hSw); go_simp; all_goals first | with_reducible rfl | (rw [if_pos (by omega)]))
                simp only [Act.put, List.getElem_toArray, List.getElem_cons_zero, List.getElem_cons_succ, List.setIfInBounds_toArray, List.set_cons_zero, List.set_cons_succ]
                refine wpAnyH_take (i := 12) (v := ?_) rfl (by kernel_rfl) (by kernel_rfl) (by kernel_rfl) (fun _ _ _ h => h) (Or.inl ⟨by rfl, ?hy103⟩) (by assumption) ?ty103
                case hy103 => (intro w hSw; (try dsimp only at hSw); go_simp; all_goals first | with_reducible rfl | (rw [if_pos (by omega)]))
                simp only [Act.put, List.getElem_toArray, List.getElem_cons_zero, List.getElem_cons_succ, List.setIfInBounds_toArray, List.set_cons_zero, List.set_cons_succ]
                refine wpAnyH_take (i := 13) (v := .bool false) rfl (by kernel_rfl) (by kernel_rfl) (by kernel_rfl) (fun _ _ _ h => h) (Or.inl ⟨by rfl, ?hy104⟩) (by assumption) ?ty104
                case hy104 => (intro w hSw; (try dsimp only at hSw); go_simp; all_goals first | omega | (simp; done) | (simp; omega) | with_reducible rfl)
                simp only [Act.put, List.getElem_toArray, List.getElem_cons_zero, List.getElem_cons_succ, List.setIfInBounds_toArray, List.set_cons_zero, List.set_cons_succ]
                refine wpAnyH_take (i := 14) (v := ?_) rfl (by kernel_rfl) (by kernel_rfl) (by kernel_rfl) (fun _ _ _ h => h) (Or.inl ⟨by rfl, ?hy105⟩) (by assumption) ?ty105
                case hy105 => (intro w hSw; (try dsimp only at hSw); go_simp; all_goals first | with_reducible rfl | (rw [if_pos (by omega)]))
                simp only [Act.put, List.getElem_toArray, List.getElem_cons_zero, List.getElem_cons_succ, List.setIfInBounds_toArray, List.set_cons_zero, List.set_cons_succ]
                refine wpAnyH_take (i := 15) (v := ?_) rfl (by kernel_rfl) (by kernel_rfl) (by kernel_rfl) (fun _ _ _ h => h) (Or.inl ⟨by rfl, ?hy106⟩) (by assumption) ?ty106
                case hy106 => (intro w hSw; (try dsimp only at hSw); go_simp; all_goals first | with_reducible rfl | (rw [if_pos (by omega)]))
                simp only [Act.put, List.getElem_toArray, List.getElem_cons_zero, List.getElem_cons_succ, List.setIfInBounds_toArray, List.set_cons_zero, List.set_cons_succ]
                refine wpAnyH_take (i := 16) (v := ?_) rfl (by kernel_rfl) (by kernel_rfl) (by kernel_rfl) (fun _ _ _ h => h) (Or.inl ⟨by rfl, ?hy107⟩) (by assumption) ?ty107
                case hy107 => (intro w hSw; (try dsimp only at hSw); go_simp; all_goals first | with_reducible rfl | (rw [if_pos (by omega)]))
                simp only [Act.put, List.getElem_toArray, List.getElem_cons_zero, List.getElem_cons_succ, List.setIfInBounds_toArray, List.set_cons_zero, List.set_cons_succ]
                refine wpAnyH_take (i := 17) (v := .bool false) rfl (by kernel_rfl) (by kernel_rfl) (by kernel_rfl) (fun _ _ _ h => h) (Or.inl ⟨by rfl, ?hy108⟩) (by assumption) ?ty108
                case hy108 => (intro w hSw; (try dsimp only at hSw); go_simp; all_goals first | omega | (simp; done) | (simp; omega) | with_reducible rfl)
                simp only [Act.put, List.getElem_toArray, List.getElem_cons_zero, List.getElem_cons_succ, List.setIfInBounds_toArray, List.set_cons_zero, List.set_cons_succ]
                refine wpAnyH_take (i := 18) (v := ?_) rfl (by kernel_rfl) (by kernel_rfl) (by kernel_rfl) (fun _ _ _ h => h) (Or.inl ⟨by rfl, ?hy109⟩) (by assumption) ?ty109
                case hy109 => (intro w hSw; (try dsimp only at hSw); go_simp; all_goals first | with_reducible rfl | (rw [if_pos (by omega)]))
                simp only [Act.put, List.getElem_toArray, List.getElem_cons_zero, List.getElem_cons_succ, List.setIfInBounds_toArray, List.set_cons_zero, List.set_cons_succ]
                refine wpAnyH_take (i := 19) (v := undef) rfl (by kernel_rfl) (by kernel_rfl) (by kernel_rfl) (fun _ _ _ h => h) (Or.inr ⟨by rfl, rfl⟩) (by assumption) ?_
                simp only [Act.put, List.getElem_toArray, List.getElem_cons_zero, List.getElem_cons_succ, List.setIfInBounds_toArray, List.set_cons_zero, List.set_cons_succ]
                refine wpAnyH_take (i := 20) (v := undef) rfl (by kernel_rfl) (by kernel_rfl) (by kernel_rfl) (fun _ _ _ h => h) (Or.inr ⟨by rfl, rfl⟩) (by assumption) ?_
                simp only [Act.put, List.getElem_toArray, List.getElem_cons_zero, List.getElem_cons_succ, List.setIfInBounds_toArray, List.set_cons_zero, List.set_cons_succ]
                refine wpAnyH_take (i := 21) (v := undef) rfl (by kernel_rfl) (by kernel_rfl) (by kernel_rfl) (fun _ _ _ h => h) (Or.inr ⟨by rfl, rfl⟩) (by assumption) ?_
                simp only [Act.put, List.getElem_toArray, List.getElem_cons_zero, List.getElem_cons_succ, List.setIfInBounds_toArray, List.set_cons_zero, List.set_cons_succ]
                refine wpAnyH_take (i := 22) (v := undef) rfl (by kernel_rfl) (by kernel_rfl) (by kernel_rfl) (fun _ _ _ h => h) (Or.inr ⟨by rfl, rfl⟩) (by assumption) ?_
                simp only [Act.put, List.getElem_toArray, List.getElem_cons_zero, List.getElem_cons_succ, List.setIfInBounds_toArray, List.set_cons_zero, List.set_cons_succ]
                refine wpAnyH_take (i := 23) (v := undef) rfl (by kernel_rfl) (by kernel_rfl) (by kernel_rfl) (fun _ _ _ h => h) (Or.inr ⟨by rfl, rfl⟩) (by assumption) ?_
                simp only [Act.put, List.getElem_toArray, List.getElem_cons_zero, List.getElem_cons_succ, List.setIfInBounds_toArray, List.set_cons_zero, List.set_cons_succ]
                refine wpAnyH_take (i := 24) (v := undef) rfl (by kernel_rfl) (by kernel_rfl) (by kernel_rfl) (fun _ _ _ h => h) (Or.inr ⟨by rfl, rfl⟩) (by assumption) ?_
                simp only [Act.put, List.getElem_toArray, List.getElem_cons_zero, List.getElem_cons_succ, List.setIfInBounds_toArray, List.set_cons_zero, List.set_cons_succ]
                refine wpAnyH_take (i := 25) (v := undef) rfl (by kernel_rfl) (by kernel_rfl) (by kernel_rfl) (fun _ _ _ h => h) (Or.inr ⟨by rfl, rfl⟩) (by assumption) ?_
                simp only [Act.put, List.getElem_toArray, List.getElem_cons_zero, List.getElem_cons_succ, List.setIfInBounds_toArray, List.set_cons_zero, List.set_cons_succ]
                refine wpAnyH_take (i := 26) (v := undef) rfl (by kernel_rfl) (by kernel_rfl) (by kernel_rfl) (fun _ _ _ h => h) (Or.inr ⟨by rfl, rfl⟩) (by assumption) ?_
                simp only [Act.put, List.getElem_toArray, List.getElem_cons_zero, List.getElem_cons_succ, List.setIfInBounds_toArray, List.set_cons_zero, List.set_cons_succ]
                refine wpAnyH_take (i := 27) (v := undef) rfl (by kernel_rfl) (by kernel_rfl) (by kernel_rfl) (fun _ _ _ h => h) (Or.inr ⟨by rfl, rfl⟩) (by assumption) ?_
                simp only [Act.put, List.getElem_toArray, List.getElem_cons_zero, List.getElem_cons_succ, List.setIfInBounds_toArray, List.set_cons_zero, List.set_cons_succ]
                refine wpAnyH_take (i := 28) (v := undef) rfl (by kernel_rfl) (by kernel_rfl) (by kernel_rfl) (fun _ _ _ h => h) (Or.inr ⟨by rfl, rfl⟩) (by assumption) ?_
                simp only [Act.put, List.getElem_toArray, List.getElem_cons_zero, List.getElem_cons_succ, List.setIfInBounds_toArray, List.set_cons_zero, List.set_cons_succ]
                refine wpAnyH_take (i := 29) (v := undef) rfl (by kernel_rfl) (by kernel_rfl) (by kernel_rfl) (fun _ _ _ h => h) (Or.inr ⟨by rfl, rfl⟩) (by assumption) ?_
                simp only [Act.put, List.getElem_toArray, List.getElem_cons_zero, List.getElem_cons_succ, List.setIfInBounds_toArray, List.set_cons_zero, List.set_cons_succ]
                refine wpAnyH_take (i := 30) (v := undef) rfl (by kernel_rfl) (by kernel_rfl) (by kernel_rfl) (fun _ _ _ h => h) (Or.inr ⟨by rfl, rfl⟩) (by assumption) ?_
                simp only [Act.put, List.getElem_toArray, List.getElem_cons_zero, List.getElem_cons_succ, List.setIfInBounds_toArray, List.set_cons_zero, List.set_cons_succ]
                refine wpAnyH_take (i := 31) (v := ?_) rfl (by kernel_rfl) (by kernel_rfl) (by kernel_rfl) (fun _ _ _ h => h) (Or.inl ⟨by rfl, ?hy110⟩) (by assumption) ?ty110
                case hy110 => (intro w hSw; (try dsimp only at hSw); go_simp; all_goals first | with_reducible rfl | (rw [if_pos (by omega)]))
                simp only [Act.put, List.getElem_toArray, List.getElem_cons_zero, List.getElem_cons_succ, List.setIfInBounds_toArray, List.set_cons_zero, List.set_cons_succ]
                refine wpAnyH_take (i := 32) (v := ?_) rfl (by kernel_rfl) (by kernel_rfl) (by kernel_rfl) (fun _ _ _ h => h) (Or.inl ⟨by rfl, ?hy111⟩) (by assumption) ?ty111
                case hy111 => (intro w hSw; (try dsimp only at hSw); go_simp; all_goals first | with_reducible rfl | (rw [if_pos (by omega)]))
                simp only [Act.put, List.getElem_toArray, List.getElem_cons_zero, List.getElem_cons_succ, List.setIfInBounds_toArray, List.set_cons_zero, List.set_cons_succ]
                refine wpAnyH_done (by kernel_rfl) ?_ _
                have hbel2 : Below V.heap.size V _ := hbel.drew
                clear hHeld
                go_wp2
                go_roundw
                case rel => exact ⟨1, by omega, by go_num, hbel2⟩
                case measure => simp [intOf]; omega
              · obtain ⟨i, rfl⟩ : ∃ i, j = i + 1 := ⟨j - 1, by omega⟩
                have hy : wr.cell? ⟨d, off + i, none⟩ = some (.int .i64 (nthI xs i)) := (hbel.cell (p := ⟨d, off + i, none⟩) hdlt).trans (hdc i (by omega))
                have hyx := HXU.out i (by omega)
                generalize nthI xs (i + 1) = x at *
                generalize nthI xs i = y at *
                have t1 : ¬ x < 1 := by omega
                have t2 : ¬ x > (M : Int) := by omega
                have t3 : ¬ x ≤ y := by omega
                have hiN' : (i : Int) < (N : Int) := by omega
                have hwi : IntKind.i64.wrap (i : Int) = (i : Int) := by rw [IntKind.wrap_i64]; omega
                have hiN2 : (i : Int) + 1 < (N : Int) := by omega
                clear hdc
                go_wp2_with fail
                refine wp_region_held_drew (S := fun w' => w'.cell? ⟨g7, 1, none⟩ = some (.slice (some ⟨d, off, none⟩) N cc) ∧ w'.cell? ⟨d, off + (i + 1), none⟩ = some (.int .i64 x) ∧ w'.cell? ⟨d, off + i, none⟩ = some (.int .i64 y)) (by kernel_rfl) ?hS112 (fun hHeld => ?_)
                case hS112 => exact ⟨hcE, hx, hy⟩
                refine wpAnyH_take (i := 0) (v := ?_) rfl (by kernel_rfl) (by kernel_rfl) (by kernel_rfl) (fun _ _ _ h => h) (Or.inl ⟨by rfl, ?hy113⟩) (by assumption) ?ty113
                case hy113 => (intro w hSw; (try dsimp only at hSw); go_simp; all_goals first | with_reducible rfl | (rw [if_pos (by omega)]))
                simp only [Act.put, List.getElem_toArray, List.getElem_cons_zero, List.setIfInBounds_toArray, List.set_cons_zero, List.set_cons_succ]
                refine wpAnyH_take (i := 1) (v := ?_) rfl (by kernel_rfl) (by kernel_rfl) (by kernel_rfl) (fun _ _ _ h => h) (Or.inl ⟨by rfl, ?hy114⟩) (by assumption) ?ty114
                case hy114 => (intro w hSw; (try dsimp only at hSw); go_simp; all_goals first | with_reducible rfl | (rw [if_pos (by omega)]))
                simp only [Act.put, List.getElem_toArray, List.getElem_cons_zero, List.getElem_cons_succ, List.setIfInBounds_toArray, List.set_cons_zero, List.set_cons_succ]
                refine wpAnyH_take (i := 2) (v := ?_) rfl (by kernel_rfl) (by kernel_rfl) (by kernel_rfl) (fun _ _ _ h => h) (Or.inl ⟨by rfl, ?hy115⟩) (by assumption) ?ty115
                case hy115 => (intro w hSw; (try dsimp only at hSw); go_simp; all_goals first | with_reducible rfl | (rw [if_pos (by omega)]))
                simp only [Act.put, List.getElem_toArray, List.getElem_cons_zero, List.getElem_cons_succ, List.setIfInBounds_toArray, List.set_cons_zero, List.set_cons_succ]
                refine wpAnyH_take (i := 3) (v := ?_) rfl (by kernel_rfl) (by kernel_rfl) (by kernel_rfl) (fun _ _ _ h => h) (Or.inl ⟨by rfl, ?hy116⟩) (by assumption) ?ty116
                case hy116 => (intro w hSw; (try dsimp only at hSw); go_simp; all_goals first | with_reducible rfl | (rw [if_pos (by omega)]))
                simp only [Act.put, List.getElem_toArray, List.getElem_cons_zero, List.getElem_cons_succ, List.setIfInBounds_toArray, List.set_cons_zero, List.set_cons_succ]
                refine wpAnyH_take (i := 4) (v := ?_) rfl (by kernel_rfl) (by kernel_rfl) (by kernel_rfl) (fun _ _ _ h => h) (Or.inl ⟨by rfl, ?hy117⟩) (by assumption) ?ty117
                case hy117 => (intro w hSw; (try dsimp only at hSw); go_simp; all_goals first | with_reducible rfl | (rw [if_pos (by omega)]))
                simp only [Act.put, List.getElem_toArray, List.getElem_cons_zero, List.getElem_cons_succ, List.setIfInBounds_toArray, List.set_cons_zero, List.set_cons_succ]
                refine wpAnyH_take (i := 5) (v := .bool false) rfl (by kernel_rfl) (by kernel_rfl) (by kernel_rfl) (fun _ _ _ h => h) (Or.inl ⟨by rfl, ?hy118⟩) (by assumption) ?ty118
                case hy118 => (intro w hSw; (try dsimp only at hSw); go_simp; all_goals first | omega | (simp; done) | (simp; omega) | with_reducible rfl)
                simp only [Act.put, List.getElem_toArray, List.getElem_cons_zero, List.getElem_cons_succ, List.setIfInBounds_toArray, List.set_cons_zero, List.set_cons_succ]
                refine wpAnyH_take (i := 6) (v := ?_) rfl (by kernel_rfl) (by kernel_rfl) (by kernel_rfl) (fun _ _ _ h => h) (Or.inl ⟨by rfl, ?hy119⟩) (by assumption) ?ty119
                case hy119 => (intro w hSw; (try dsimp only at hSw); go_simp; all_goals first | with_reducible rfl | (rw [if_pos (by omega)]))
                simp only [Act.put, List.getElem_toArray, List.getElem_cons_zero, List.getElem_cons_succ, List.setIfInBounds_toArray, List.set_cons_zero, List.set_cons_succ]
                refine wpAnyH_take (i := 7) (v := ?_) rfl (by kernel_rfl) (by kernel_rfl) (by kernel_rfl) (fun _ _ _ h => h) (Or.inl ⟨by rfl, ?hy120⟩) (by assumption) ?ty120
                case hy120 => (intro w hSw; (try dsimp only at hSw); go_simp; all_goals first | with_reducible rfl | (rw [if_pos (by omega)]))
                simp only [Act.put, List.getElem_toArray, List.getElem_cons_zero, List.getElem_cons_succ, List.setIfInBounds_toArray, List.set_cons_zero, List.set_cons_succ]
                refine wpAnyH_take (i := 8) (v := ?_) rfl (by kernel_rfl) (by kernel_rfl) (by kernel_rfl) (fun _ _ _ h => h) (Or.inl ⟨by rfl, ?hy121⟩) (by assumption) ?ty121
                case hy121 => (intro w hSw; (try dsimp only at hSw); go_simp; all_goals first | with_reducible rfl | (rw [if_pos (by omega)]))
                simp only [Act.put, List.getElem_toArray, List.getElem_cons_zero, List.getElem_cons_succ, List.setIfInBounds_toArray, List.set_cons_zero, List.set_cons_succ]
                refine wpAnyH_take (i := 9) (v := ?_) rfl (by kernel_rfl) (by kernel_rfl) (by kernel_rfl) (fun _ _ _ h => h) (Or.inl ⟨by rfl, ?hy122⟩) (by assumption) ?ty122
                case hy122 => (intro w hSw; (try dsimp only at hSw); go_simp; all_goals first | with_reducible rfl | (rw [if_pos (by omega)]))
                simp only [Act.put, List.getElem_toArray, List.getElem_cons_zero, List.getElem_cons_succ, List.setIfInBounds_toArray, List.set_cons_zero, List.set_cons_succ]
                refine wpAnyH_take (i := 10) (v := ?_) rfl (by kernel_rfl) (by kernel_rfl) (by kernel_rfl) (fun _ _ _ h => h) (Or.inl ⟨by rfl, ?hy123⟩) (by assumption) ?ty123
                case hy123 => (intro w hSw; (try dsimp only at hSw); go_simp; all_goals first | with_reducible rfl | (rw [if_pos (by omega)]))
                simp only [Act.put, List.getElem_toArray, List.getElem_cons_zero, List.getElem_cons_succ, List.setIfInBounds_toArray, List.set_cons_zero, List.set_cons_succ]
                refine wpAnyH_take (i := 11) (v := ?_) rfl (by kernel_rfl) (by kernel_rfl) (by kernel_rfl) (fun _ _ _ h => h) (Or.inl ⟨by rfl, ?hy124⟩) (by assumption) ?ty124
                case hy124 => (intro w hSw; (try dsimp only at hSw); go_simp; all_goals first | with_reducible rfl | (rw [if_pos (by omega)]))
                simp only [Act.put, List.getElem_toArray, List.getElem_cons_zero, List.getElem_cons_succ, List.setIfInBounds_toArray, List.set_cons_zero, List.set_cons_succ]
                refine wpAnyH_take (i := 12) (v := ?_) rfl (by kernel_rfl) (by kernel_rfl) (by kernel_rfl) (fun _ _ _ h => h) (Or.inl ⟨by rfl, ?hy125⟩) (by assumption) ?ty125
                case hy125 => (intro w hSw; (try dsimp only at hSw); go_simp; all_goals first | with_reducible rfl | (rw [if_pos (by omega)]))
                simp only [Act.put, List.getElem_toArray, List.getElem_cons_zero, List.getElem_cons_succ, List.setIfInBounds_toArray, List.set_cons_zero, List.set_cons_succ]
                refine wpAnyH_take (i := 13) (v := .bool false) rfl (by kernel_rfl) (by kernel_rfl) (by kernel_rfl) (fun _ _ _ h => h) (Or.inl ⟨by rfl, ?hy126⟩) (by assumption) ?ty126
                case hy126 => (intro w hSw; (try dsimp only at hSw); go_simp; all_goals first | omega | (simp; done) | (simp; omega) | with_reducible rfl)
                simp only [Act.put, List.getElem_toArray, List.getElem_cons_zero, List.getElem_cons_succ, List.setIfInBounds_toArray, List.set_cons_zero, List.set_cons_succ]
                refine wpAnyH_take (i := 14) (v := ?_) rfl (by kernel_rfl) (by kernel_rfl) (by kernel_rfl) (fun _ _ _ h => h) (Or.inl ⟨by rfl, ?hy127⟩) (by assumption) ?ty127
                case hy127 => (intro w hSw; (try dsimp only at hSw); go_simp; all_goals first | with_reducible rfl | (rw [if_pos (by omega)]))
                simp only [Act.put, List.getElem_toArray, List.getElem_cons_zero, List.getElem_cons_succ, List.setIfInBounds_toArray, List.set_cons_zero, List.set_cons_succ]
                refine wpAnyH_take (i := 15) (v := ?_) rfl (by kernel_rfl) (by kernel_rfl) (by kernel_rfl) (fun _ _ _ h => h) (Or.inl ⟨by rfl, ?hy128⟩) (by assumption) ?ty128
                case hy128 => (intro w hSw; (try dsimp only at hSw); go_simp; all_goals first | with_reducible rfl | (rw [if_pos (by omega)]))
                simp only [Act.put, List.getElem_toArray, List.getElem_cons_zero, List.getElem_cons_succ, List.setIfInBounds_toArray, List.set_cons_zero, List.set_cons_succ]
                refine wpAnyH_take (i := 16) (v := ?_) rfl (by kernel_rfl) (by kernel_rfl) (by kernel_rfl) (fun _ _ _ h => h) (Or.inl ⟨by rfl, ?hy129⟩) (by assumption) ?ty129
                case hy129 => (intro w hSw; (try dsimp only at hSw); go_simp; all_goals first | with_reducible rfl | (rw [if_pos (by omega)]))
                simp only [Act.put, List.getElem_toArray, List.getElem_cons_zero, List.getElem_cons_succ, List.setIfInBounds_toArray, List.set_cons_zero, List.set_cons_succ]
                refine wpAnyH_take (i := 17) (v := .bool true) rfl (by kernel_rfl) (by kernel_rfl) (by kernel_rfl) (fun _ _ _ h => h) (Or.inl ⟨by rfl, ?hy130⟩) (by assumption) ?ty130
                case hy130 => (intro w hSw; (try dsimp only at hSw); go_simp; all_goals first | omega | (simp; done) | (simp; omega) | with_reducible rfl)
                simp only [Act.put, List.getElem_toArray, List.getElem_cons_zero, List.getElem_cons_succ, List.setIfInBounds_toArray, List.set_cons_zero, List.set_cons_succ]
                refine wpAnyH_take (i := 18) (v := ?_) rfl (by kernel_rfl) (by kernel_rfl) (by kernel_rfl) (fun _ _ _ h => h) (Or.inl ⟨by rfl, ?hy131⟩) (by assumption) ?ty131
                case hy131 => (intro w hSw; (try dsimp only at hSw); go_simp; all_goals first | with_reducible rfl | (rw [if_pos (by omega)]))
                simp only [Act.put, List.getElem_toArray, List.getElem_cons_zero, List.getElem_cons_succ, List.setIfInBounds_toArray, List.set_cons_zero, List.set_cons_succ]
                refine wpAnyH_take (i := 19) (v := ?_) rfl (by kernel_rfl) (by kernel_rfl) (by kernel_rfl) (fun _ _ _ h => h) (Or.inl ⟨by rfl, ?hy132⟩) (by assumption) ?ty132
                case hy132 => (intro w hSw; (try dsimp only at hSw); go_simp; all_goals first | with_reducible rfl | (rw [if_pos (by omega)]))
                simp only [Act.put, List.getElem_toArray, List.getElem_cons_zero, List.getElem_cons_succ, List.setIfInBounds_toArray, List.set_cons_zero, List.set_cons_succ]
                refine wpAnyH_take (i := 20) (v := ?_) rfl (by kernel_rfl) (by kernel_rfl) (by kernel_rfl) (fun _ _ _ h => h) (Or.inl ⟨by rfl, ?hy133⟩) (by assumption) ?ty133
                case hy133 => (intro w hSw; (try dsimp only at hSw); go_simp; all_goals first | with_reducible rfl | (rw [if_pos (by omega)]))
                simp only [Act.put, List.getElem_toArray, List.getElem_cons_zero, List.getElem_cons_succ, List.setIfInBounds_toArray, List.set_cons_zero, List.set_cons_succ]
                refine wpAnyH_take (i := 21) (v := ?_) rfl (by kernel_rfl) (by kernel_rfl) (by kernel_rfl) (fun _ _ _ h => h) (Or.inl ⟨by rfl, ?hy134⟩) (by assumption) ?ty134
                case hy134 => (intro w hSw; (try dsimp only at hSw); go_simp; all_goals first | with_reducible rfl | (rw [if_pos (by omega)]))
                simp only [Act.put, List.getElem_toArray, List.getElem_cons_zero, List.getElem_cons_succ, List.setIfInBounds_toArray, List.set_cons_zero, List.set_cons_succ]
                refine wpAnyH_take (i := 22) (v := ?_) rfl (by kernel_rfl) (by kernel_rfl) (by kernel_rfl) (fun _ _ _ h => h) (Or.inl ⟨by rfl, ?hy135⟩) (by assumption) ?ty135
                case hy135 => (intro w hSw; (try dsimp only at hSw); go_simp; all_goals first | with_reducible rfl | (rw [if_pos (by omega)]))
                simp only [Act.put, List.getElem_toArray, List.getElem_cons_zero, List.getElem_cons_succ, List.setIfInBounds_toArray, List.set_cons_zero, List.set_cons_succ]
                refine wpAnyH_take (i := 23) (v := ?_) rfl (by kernel_rfl) (by kernel_rfl) (by kernel_rfl) (fun _ _ _ h => h) (Or.inl ⟨by rfl, ?hy136⟩) (by assumption) ?ty136
                case hy136 => (intro w hSw; (try dsimp only at hSw); go_simp; all_goals first | with_reducible rfl | (rw [if_pos (by omega)]))
                simp only [Act.put, List.getElem_toArray, List.getElem_cons_zero, List.getElem_cons_succ, List.setIfInBounds_toArray, List.set_cons_zero, List.set_cons_succ]
                refine wpAnyH_take (i := 24) (v := ?_) rfl (by kernel_rfl) (by kernel_rfl) (by kernel_rfl) (fun _ _ _ h => h) (Or.inl ⟨by rfl, ?hy137⟩) (by assumption) ?ty137
                case hy137 => (intro w hSw; (try dsimp only at hSw); go_simp; all_goals first | with_reducible rfl | (rw [if_pos (by omega)]))
                simp only [Act.put, List.getElem_toArray, List.getElem_cons_zero, List.getElem_cons_succ, List.setIfInBounds_toArray, List.set_cons_zero, List.set_cons_succ]
                refine wpAnyH_take (i := 25) (v := ?_) rfl (by kernel_rfl) (by kernel_rfl) (by kernel_rfl) (fun _ _ _ h => h) (Or.inl ⟨by rfl, ?hy138⟩) (by assumption) ?ty138
                case hy138 => (intro w hSw; (try dsimp only at hSw); go_simp; all_goals first | with_reducible rfl | (rw [if_pos (by omega)]))
                simp only [Act.put, List.getElem_toArray, List.getElem_cons_zero, List.getElem_cons_succ, List.setIfInBounds_toArray, List.set_cons_zero, List.set_cons_succ]
                refine wpAnyH_take (i := 26) (v := ?_) rfl (by kernel_rfl) (by kernel_rfl) (by kernel_rfl) (fun _ _ _ h => h) (Or.inl ⟨by rfl, ?hy139⟩) (by assumption) ?ty139
                case hy139 => (intro w hSw; (try dsimp only at hSw); go_simp; all_goals first | with_reducible rfl | (rw [if_pos (by omega)]))
                simp only [Act.put, List.getElem_toArray, List.getElem_cons_zero, List.getElem_cons_succ, List.setIfInBounds_toArray, List.set_cons_zero, List.set_cons_succ]
                refine wpAnyH_take (i := 27) (v := .int .i64 (i : Int)) rfl (by kernel_rfl) (by kernel_rfl) (by kernel_rfl) (fun _ _ _ h => h) (Or.inl ⟨by rfl, ?hy140⟩) (by assumption) ?ty140
                case hy140 => (intro w hSw; (try dsimp only at hSw); go_simp; all_goals first | (rw [hwi]) | (simp [hwi]; done) | with_reducible rfl)
                simp only [Act.put, List.getElem_toArray, List.getElem_cons_zero, List.getElem_cons_succ, List.setIfInBounds_toArray, List.set_cons_zero, List.set_cons_succ]
                refine wpAnyH_take (i := 28) (v := ?_) rfl (by kernel_rfl) (by kernel_rfl) (by kernel_rfl) (fun _ _ _ h => h) (Or.inl ⟨by rfl, ?hy141⟩) (by assumption) ?ty141
                case hy141 => (intro w hSw; (try dsimp only at hSw); go_simp; all_goals first | with_reducible rfl | (rw [if_pos (by omega)]))
                simp only [Act.put, List.getElem_toArray, List.getElem_cons_zero, List.getElem_cons_succ, List.setIfInBounds_toArray, List.set_cons_zero, List.set_cons_succ]
                refine wpAnyH_take (i := 29) (v := ?_) rfl (by kernel_rfl) (by kernel_rfl) (by kernel_rfl) (fun _ _ _ h => h) (Or.inl ⟨by rfl, ?hy142⟩) (by assumption) ?ty142
                case hy142 => (intro w hSw; (try dsimp only at hSw); go_simp; all_goals first | with_reducible rfl | (rw [if_pos (by omega)]))
                simp only [Act.put, List.getElem_toArray, List.getElem_cons_zero, List.getElem_cons_succ, List.setIfInBounds_toArray, List.set_cons_zero, List.set_cons_succ]
                refine wpAnyH_take (i := 30) (v := .bool false) rfl (by kernel_rfl) (by kernel_rfl) (by kernel_rfl) (fun _ _ _ h => h) (Or.inl ⟨by rfl, ?hy143⟩) (by assumption) ?ty143
                case hy143 => (intro w hSw; (try dsimp only at hSw); go_simp; all_goals first | omega | (simp; done) | (simp; omega) | with_reducible rfl)
                simp only [Act.put, List.getElem_toArray, List.getElem_cons_zero, List.getElem_cons_succ, List.setIfInBounds_toArray, List.set_cons_zero, List.set_cons_succ]
                refine wpAnyH_take (i := 31) (v := ?_) rfl (by kernel_rfl) (by kernel_rfl) (by kernel_rfl) (fun _ _ _ h => h) (Or.inl ⟨by rfl, ?hy144⟩) (by assumption) ?ty144
                case hy144 => (intro w hSw; (try dsimp only at hSw); go_simp; all_goals first | with_reducible rfl | (rw [if_pos (by omega)]))
                simp only [Act.put, List.getElem_toArray, List.getElem_cons_zero, List.getElem_cons_succ, List.setIfInBounds_toArray, List.set_cons_zero, List.set_cons_succ]
                refine wpAnyH_take (i := 32) (v := ?_) rfl (by kernel_rfl) (by kernel_rfl) (by kernel_rfl) (fun _ _ _ h => h) (Or.inl ⟨by rfl, ?hy145⟩) (by assumption) ?ty145
                case hy145 => (intro w hSw; (try dsimp only at hSw); go_simp; all_goals first | with_reducible rfl | (rw [if_pos (by omega)]))
                simp only [Act.put, List.getElem_toArray, List.getElem_cons_zero, List.getElem_cons_succ, List.setIfInBounds_toArray, List.set_cons_zero, List.set_cons_succ]
                refine wpAnyH_done (by kernel_rfl) ?_ _
                have hbel2 : Below V.heap.size V _ := hbel.drew
                clear hHeld
                go_wp2
                go_roundw
                case rel => exact ⟨i + 1 + 1, by omega, by go_num, hbel2⟩
                case measure => simp [intOf]; omega
            · have hjN' : ¬ (j : Int) < (N : Int) := by omega
              have hrY := hrYr.below hbel
              have hrI := hrIr.below hbel
              have hrA := hrAr.below hbel
              have HB7 : Hid (Below w.heap.size w wr) := HB6.out.trans (hbel.mono HB6.out.size)
              have hg7w : g7 < wr.heap.size := Nat.lt_of_lt_of_le hg7r hbel.size
              clear hrYr hrIr hrAr HB6 k1r hbel
              go_wp2_with fail
              refine (drawInSet_any a n cap l _ hl hrA hB (by omega)).mono ?_
              rintro e w8 ⟨v8, ou, x, mo, rfl, ho8, hou, hb8⟩
              obtain ⟨a8, c8, hv, -, -⟩ := ho8.form
              subst hv
              have hr8 := ho8.rd.2
              have hcE8 : w8.cell? ⟨g7, 1, none⟩ = some (.slice b1 N cc) := (hb8.cell (p := ⟨g7, 1, none⟩) hg7w).trans hcE
              have hg8 : g7 < w8.heap.size := Nat.lt_of_lt_of_le hg7w hb8.size
              have HB8 : Hid (Below w.heap.size w w8) := HB7.out.trans (hb8.mono HB7.out.size)
              have hrY8 := hrY.below hb8
              have hrI8 := hrI.below hb8
              have HJ : Hid (∀ w, RdY w a8 ou → Calls Try.prog 12 #[.slice a8 ou.length c8, .int .i64 x, .int .i64 mo] w fun e w' => e = .returned (.bool (isY ou x mo)) ∧ Below w.heap.size w w') := fun w hr => inSet_any x mo a8 ou.length c8 ou w rfl hr (by omega)
              have HK : Hid (∀ w, RdY w a8 ou → Calls Try.prog 15 #[.slice a8 ou.length c8, .int .i64 x, .int .i64 mo] w fun e w' => e = .returned (.bool (isY ou x mo)) ∧ Below w.heap.size w w') := fun w hr => specInSet_any x mo a8 ou.length c8 ou w rfl hr (by omega)
              have HLN : Hid (∀ (d : Option Addr) (dc : Nat) w, RdI w b1 xs → RdI w d xs → Calls Try.prog 16 #[.slice b1 N cc, .slice d N dc] w fun e w' => e = .returned (.bool true) ∧ Below w.heap.size w w') := fun d dc w h1 h2 => by
                have h := lwNums_any b1 d N N cc dc xs xs w hN hN h1 h2 hN6 hN6
                rw [decide_eq_true rfl] at h; exact h
              generalize isY ou x mo = bb at *
              generalize ou.length = L8 at *
              have hL0 : (L : Int) > 0 := by omega
              clear ho8 hb8 hrY hrI hrA HB7 hcE hjN'
              go_wp2_with fail
              refine wp_region_held_drew (S := fun w' => w'.cell? ⟨g7, 1, none⟩ = some (.slice b1 N cc)) (by kernel_rfl) ?hS146 (fun hHeld => ?_)
              case hS146 => exact hcE8
              refine wpAnyH_take (i := 0) (v := ?_) rfl (by kernel_rfl) (by kernel_rfl) (by kernel_rfl) (fun _ _ _ h => h) (Or.inl ⟨by rfl, ?hy147⟩) (by assumption) ?ty147
              case hy147 => (intro w hSw; (try dsimp only at hSw); go_simp; all_goals first | with_reducible rfl | (rw [if_pos (by omega)]))
              simp only [Act.put, List.getElem_toArray, List.getElem_cons_zero, List.setIfInBounds_toArray, List.set_cons_zero, List.set_cons_succ]
              refine wpAnyH_take (i := 1) (v := ?_) rfl (by kernel_rfl) (by kernel_rfl) (by kernel_rfl) (fun _ _ _ h => h) (Or.inl ⟨by rfl, ?hy148⟩) (by assumption) ?ty148
              case hy148 => (intro w hSw; (try dsimp only at hSw); go_simp; all_goals first | with_reducible rfl | (rw [if_pos (by omega)]))
              simp only [Act.put, List.getElem_toArray, List.getElem_cons_zero, List.getElem_cons_succ, List.setIfInBounds_toArray, List.set_cons_zero, List.set_cons_succ]
              refine wpAnyH_take (i := 2) (v := ?_) rfl (by kernel_rfl) (by kernel_rfl) (by kernel_rfl) (fun _ _ _ h => h) (Or.inl ⟨by rfl, ?hy149⟩) (by assumption) ?ty149
              case hy149 => (intro w hSw; (try dsimp only at hSw); go_simp; all_goals first | with_reducible rfl | (rw [if_pos (by omega)]))
              simp only [Act.put, List.getElem_toArray, List.getElem_cons_zero, List.getElem_cons_succ, List.setIfInBounds_toArray, List.set_cons_zero, List.set_cons_succ]
              refine wpAnyH_take (i := 4) (v := ?_) rfl (by kernel_rfl) (by kernel_rfl) (by kernel_rfl) (fun _ _ _ h => h) (Or.inl ⟨by rfl, ?hy150⟩) (by assumption) ?ty150
              case hy150 => (intro w hSw; (try dsimp only at hSw); go_simp; all_goals first | with_reducible rfl | (rw [if_pos (by omega)]))
              simp only [Act.put, List.getElem_toArray, List.getElem_cons_zero, List.getElem_cons_succ, List.setIfInBounds_toArray, List.set_cons_zero, List.set_cons_succ]
              refine wpAnyH_take (i := 5) (v := ?_) rfl (by kernel_rfl) (by kernel_rfl) (by kernel_rfl) (fun _ _ _ h => h) (Or.inl ⟨by rfl, ?hy151⟩) (by assumption) ?ty151
              case hy151 => (intro w hSw; (try dsimp only at hSw); go_simp; all_goals first | with_reducible rfl | (rw [if_pos (by omega)]))
              simp only [Act.put, List.getElem_toArray, List.getElem_cons_zero, List.getElem_cons_succ, List.setIfInBounds_toArray, List.set_cons_zero, List.set_cons_succ]
              refine wpAnyH_take (i := 6) (v := ?_) rfl (by kernel_rfl) (by kernel_rfl) (by kernel_rfl) (fun _ _ _ h => h) (Or.inl ⟨by rfl, ?hy152⟩) (by assumption) ?ty152
              case hy152 => (intro w hSw; (try dsimp only at hSw); go_simp; all_goals first | with_reducible rfl | (rw [if_pos (by omega)]))
              simp only [Act.put, List.getElem_toArray, List.getElem_cons_zero, List.getElem_cons_succ, List.setIfInBounds_toArray, List.set_cons_zero, List.set_cons_succ]
              refine wpAnyH_ready (rs := [3]) (by kernel_rfl) (by simp) ?_
              refine AllReadyH.cons rfl (fun K hK => ?_) AllReadyH.nil
              go_simp
              refine (HJ.out _ (by exact hr8)).mono ?_
              rintro e u1 ⟨rfl, hbx⟩
              have HW_u1 : Hid (Below w8.heap.size w8 u1) := (Below.refl _ _).drew.trans hbx
              have hsS : u1.cell? ⟨g7, 1, none⟩ = some (.slice b1 N cc) := (HW_u1.out.cell (p := ⟨g7, 1, none⟩) hg8).trans hcE8
              refine hK.out _ _ hsS (fun hHeld => ?_)
              clear hK K
              clear hsS hbx
              refine wpAnyH_ready (rs := [7]) (by kernel_rfl) (by simp) ?_
              refine AllReadyH.cons rfl (fun K hK => ?_) AllReadyH.nil
              go_simp
              refine (HK.out _ (by exact hr8.below HW_u1.out)).mono ?_
              rintro e u2 ⟨rfl, hbx⟩
              have HW_u2 : Hid (Below w8.heap.size w8 u2) := HW_u1.out.trans (hbx.mono HW_u1.out.size)
              have hsS : u2.cell? ⟨g7, 1, none⟩ = some (.slice b1 N cc) := (HW_u2.out.cell (p := ⟨g7, 1, none⟩) hg8).trans hcE8
              refine hK.out _ _ hsS (fun hHeld => ?_)
              clear hK K
              clear hsS hbx
              refine wpAnyH_take (i := 8) (v := .bool true) rfl (by kernel_rfl) (by kernel_rfl) (by kernel_rfl) (fun _ _ _ h => h) (Or.inl ⟨by rfl, ?hy153⟩) (by assumption) ?ty153
              case hy153 => (intro w hSw; (try dsimp only at hSw); go_simp; all_goals first | (simp; done) | (cases bb <;> rfl))
              simp only [Act.put, List.getElem_toArray, List.getElem_cons_zero, List.getElem_cons_succ, List.setIfInBounds_toArray, List.set_cons_zero, List.set_cons_succ]
              refine wpAnyH_take (i := 9) (v := ?_) rfl (by kernel_rfl) (by kernel_rfl) (by kernel_rfl) (fun _ _ _ h => h) (Or.inl ⟨by rfl, ?hy154⟩) (by assumption) ?ty154
              case hy154 => (intro w hSw; (try dsimp only at hSw); go_simp; all_goals first | with_reducible rfl | (rw [if_pos (by omega)]))
              simp only [Act.put, List.getElem_toArray, List.getElem_cons_zero, List.getElem_cons_succ, List.setIfInBounds_toArray, List.set_cons_zero, List.set_cons_succ]
              refine wpAnyH_take (i := 10) (v := ?_) rfl (by kernel_rfl) (by kernel_rfl) (by kernel_rfl) (fun _ _ _ h => h) (Or.inl ⟨by rfl, ?hy155⟩) (by assumption) ?ty155
              case hy155 => (intro w hSw; (try dsimp only at hSw); go_simp; all_goals first | with_reducible rfl | (rw [if_pos (by omega)]))
              simp only [Act.put, List.getElem_toArray, List.getElem_cons_zero, List.getElem_cons_succ, List.setIfInBounds_toArray, List.set_cons_zero, List.set_cons_succ]
              refine wpAnyH_take (i := 11) (v := ?_) rfl (by kernel_rfl) (by kernel_rfl) (by kernel_rfl) (fun _ _ _ h => h) (Or.inl ⟨by rfl, ?hy156⟩) (by assumption) ?ty156
              case hy156 => (intro w hSw; (try dsimp only at hSw); go_simp; all_goals first | with_reducible rfl | (rw [if_pos (by omega)]))
              simp only [Act.put, List.getElem_toArray, List.getElem_cons_zero, List.getElem_cons_succ, List.setIfInBounds_toArray, List.set_cons_zero, List.set_cons_succ]
              refine wpAnyH_take (i := 12) (v := ?_) rfl (by kernel_rfl) (by kernel_rfl) (by kernel_rfl) (fun _ _ _ h => h) (Or.inl ⟨by rfl, ?hy157⟩) (by assumption) ?ty157
              case hy157 => (intro w hSw; (try dsimp only at hSw); go_simp; all_goals first | with_reducible rfl | (rw [if_pos (by omega)]))
              simp only [Act.put, List.getElem_toArray, List.getElem_cons_zero, List.getElem_cons_succ, List.setIfInBounds_toArray, List.set_cons_zero, List.set_cons_succ]
              refine wpAnyH_take (i := 13) (v := ?_) rfl (by kernel_rfl) (by kernel_rfl) (by kernel_rfl) (fun _ _ _ h => h) (Or.inl ⟨by rfl, ?hy158⟩) (by assumption) ?ty158
              case hy158 => (intro w hSw; (try dsimp only at hSw); go_simp; all_goals first | with_reducible rfl | (rw [if_pos (by omega)]))
              simp only [Act.put, List.getElem_toArray, List.getElem_cons_zero, List.getElem_cons_succ, List.setIfInBounds_toArray, List.set_cons_zero, List.set_cons_succ]
              refine wpAnyH_ready (rs := [14]) (by kernel_rfl) (by simp) ?_
              refine AllReadyH.cons rfl (fun K hK => ?_) AllReadyH.nil
              go_simp
              refine (HES.out _ (by exact hrY8.below HW_u2.out)).mono ?_
              rintro e u3 ⟨v7, rfl, hown7, hbx⟩
              simp only at hown7 ⊢
              obtain ⟨b3, c3, hv, -, -⟩ := hown7.form
              rw [hN] at hv
              rw [hv] at hown7 ⊢
              clear hv
              have HW_u3 : Hid (Below w8.heap.size w8 u3) := HW_u2.out.trans (hbx.mono HW_u2.out.size)
              have hsS : u3.cell? ⟨g7, 1, none⟩ = some (.slice b1 N cc) := (HW_u3.out.cell (p := ⟨g7, 1, none⟩) hg8).trans hcE8
              refine hK.out _ _ hsS (fun hHeld => ?_)
              clear hK K
              clear hsS hbx
              refine wpAnyH_take (i := 15) (v := ?_) rfl (by kernel_rfl) (by kernel_rfl) (by kernel_rfl) (fun _ _ _ h => h) (Or.inl ⟨by rfl, ?hy159⟩) (by assumption) ?ty159
              case hy159 => (intro w hSw; (try dsimp only at hSw); go_simp; all_goals first | with_reducible rfl | (rw [if_pos (by omega)]))
              simp only [Act.put, List.getElem_toArray, List.getElem_cons_zero, List.getElem_cons_succ, List.setIfInBounds_toArray, List.set_cons_zero, List.set_cons_succ]
              refine wpAnyH_ready (rs := [16]) (by kernel_rfl) (by simp) ?_
              refine AllReadyH.cons rfl (fun K hK => ?_) AllReadyH.nil
              go_simp
              refine (HLN.out _ _ _ (by exact hrI8.below HW_u3.out) (by exact hown7.rd.2)).mono ?_
              rintro e u4 ⟨rfl, hbx⟩
              have HW_u4 : Hid (Below w8.heap.size w8 u4) := HW_u3.out.trans (hbx.mono HW_u3.out.size)
              have hsS : u4.cell? ⟨g7, 1, none⟩ = some (.slice b1 N cc) := (HW_u4.out.cell (p := ⟨g7, 1, none⟩) hg8).trans hcE8
              refine hK.out _ _ hsS (fun hHeld => ?_)
              clear hK K
              clear hsS hbx
              refine wpAnyH_take (i := 17) (v := ?_) rfl (by kernel_rfl) (by kernel_rfl) (by kernel_rfl) (fun _ _ _ h => h) (Or.inl ⟨by rfl, ?hy160⟩) (by assumption) ?ty160
              case hy160 => (intro w hSw; (try dsimp only at hSw); go_simp; all_goals first | with_reducible rfl | (rw [if_pos (by omega)]))
              simp only [Act.put, List.getElem_toArray, List.getElem_cons_zero, List.getElem_cons_succ, List.setIfInBounds_toArray, List.set_cons_zero, List.set_cons_succ]
              refine wpAnyH_take (i := 18) (v := ?_) rfl (by kernel_rfl) (by kernel_rfl) (by kernel_rfl) (fun _ _ _ h => h) (Or.inl ⟨by rfl, ?hy161⟩) (by assumption) ?ty161
              case hy161 => (intro w hSw; (try dsimp only at hSw); go_simp; all_goals first | with_reducible rfl | (rw [if_pos (by omega)]))
              simp only [Act.put, List.getElem_toArray, List.getElem_cons_zero, List.getElem_cons_succ, List.setIfInBounds_toArray, List.set_cons_zero, List.set_cons_succ]
              refine wpAnyH_take (i := 19) (v := ?_) rfl (by kernel_rfl) (by kernel_rfl) (by kernel_rfl) (fun _ _ _ h => h) (Or.inl ⟨by rfl, ?hy162⟩) (by assumption) ?ty162
              case hy162 => (intro w hSw; (try dsimp only at hSw); go_simp; all_goals first | with_reducible rfl | (rw [if_pos (by omega)]))
              simp only [Act.put, List.getElem_toArray, List.getElem_cons_zero, List.getElem_cons_succ, List.setIfInBounds_toArray, List.set_cons_zero, List.set_cons_succ]
              refine wpAnyH_ready (rs := [20]) (by kernel_rfl) (by simp) ?_
              refine AllReadyH.cons rfl (fun K hK => ?_) AllReadyH.nil
              go_simp
              refine (HRF.out _ (by exact hrY8.below HW_u4.out)).mono ?_
              rintro e u5 ⟨rfl, hbx⟩
              have HW_u5 : Hid (Below w8.heap.size w8 u5) := HW_u4.out.trans (hbx.mono HW_u4.out.size)
              have hsS : u5.cell? ⟨g7, 1, none⟩ = some (.slice b1 N cc) := (HW_u5.out.cell (p := ⟨g7, 1, none⟩) hg8).trans hcE8
              refine hK.out _ _ hsS (fun hHeld => ?_)
              clear hK K
              clear hsS hbx
              refine wpAnyH_take (i := 21) (v := .bool true) rfl (by kernel_rfl) (by kernel_rfl) (by kernel_rfl) (fun _ _ _ h => h) (Or.inl ⟨by rfl, ?hy163⟩) (by assumption) ?ty163
              case hy163 => (intro w hSw; (try dsimp only at hSw); go_simp; first | (simp; done) | (all_goals with_reducible rfl))
              simp only [Act.put, List.getElem_toArray, List.getElem_cons_zero, List.getElem_cons_succ, List.setIfInBounds_toArray, List.set_cons_zero, List.set_cons_succ]
              refine wpAnyH_take (i := 22) (v := ?_) rfl (by kernel_rfl) (by kernel_rfl) (by kernel_rfl) (fun _ _ _ h => h) (Or.inl ⟨by rfl, ?hy164⟩) (by assumption) ?ty164
              case hy164 => (intro w hSw; (try dsimp only at hSw); go_simp; all_goals first | with_reducible rfl | (rw [if_pos (by omega)]))
              simp only [Act.put, List.getElem_toArray, List.getElem_cons_zero, List.getElem_cons_succ, List.setIfInBounds_toArray, List.set_cons_zero, List.set_cons_succ]
              refine wpAnyH_take (i := 23) (v := ?_) rfl (by kernel_rfl) (by kernel_rfl) (by kernel_rfl) (fun _ _ _ h => h) (Or.inl ⟨by rfl, ?hy165⟩) (by assumption) ?ty165
              case hy165 => (intro w hSw; (try dsimp only at hSw); go_simp; all_goals first | with_reducible rfl | (rw [if_pos (by omega)]))
              simp only [Act.put, List.getElem_toArray, List.getElem_cons_zero, List.getElem_cons_succ, List.setIfInBounds_toArray, List.set_cons_zero, List.set_cons_succ]
              refine wpAnyH_take (i := 24) (v := ?_) rfl (by kernel_rfl) (by kernel_rfl) (by kernel_rfl) (fun _ _ _ h => h) (Or.inl ⟨by rfl, ?hy166⟩) (by assumption) ?ty166
              case hy166 => (intro w hSw; (try dsimp only at hSw); go_simp; all_goals first | with_reducible rfl | (rw [if_pos (by omega)]))
              simp only [Act.put, List.getElem_toArray, List.getElem_cons_zero, List.getElem_cons_succ, List.setIfInBounds_toArray, List.set_cons_zero, List.set_cons_succ]
              refine wpAnyH_take (i := 25) (v := ?_) rfl (by kernel_rfl) (by kernel_rfl) (by kernel_rfl) (fun _ _ _ h => h) (Or.inl ⟨by rfl, ?hy167⟩) (by assumption) ?ty167
              case hy167 => (intro w hSw; (try dsimp only at hSw); go_simp; all_goals first | with_reducible rfl | (rw [if_pos (by omega)]))
              simp only [Act.put, List.getElem_toArray, List.getElem_cons_zero, List.getElem_cons_succ, List.setIfInBounds_toArray, List.set_cons_zero, List.set_cons_succ]
              refine wpAnyH_take (i := 26) (v := .bool true) rfl (by kernel_rfl) (by kernel_rfl) (by kernel_rfl) (fun _ _ _ h => h) (Or.inl ⟨by rfl, ?hy168⟩) (by assumption) ?ty168
              case hy168 => (intro w hSw; (try dsimp only at hSw); go_simp; all_goals first | omega | (simp; done) | (simp; omega) | with_reducible rfl)
              simp only [Act.put, List.getElem_toArray, List.getElem_cons_zero, List.getElem_cons_succ, List.setIfInBounds_toArray, List.set_cons_zero, List.set_cons_succ]
              refine wpAnyH_take (i := 27) (v := ?_) rfl (by kernel_rfl) (by kernel_rfl) (by kernel_rfl) (fun _ _ _ h => h) (Or.inl ⟨by rfl, ?hy169⟩) (by assumption) ?ty169
              case hy169 => (intro w hSw; (try dsimp only at hSw); go_simp; all_goals first | with_reducible rfl | (rw [if_pos (by omega)]))
              simp only [Act.put, List.getElem_toArray, List.getElem_cons_zero, List.getElem_cons_succ, List.setIfInBounds_toArray, List.set_cons_zero, List.set_cons_succ]
              refine wpAnyH_take (i := 28) (v := ?_) rfl (by kernel_rfl) (by kernel_rfl) (by kernel_rfl) (fun _ _ _ h => h) (Or.inl ⟨by rfl, ?hy170⟩) (by assumption) ?ty170
              case hy170 => (intro w hSw; (try dsimp only at hSw); go_simp; all_goals first | with_reducible rfl | (rw [if_pos (by omega)]))
              simp only [Act.put, List.getElem_toArray, List.getElem_cons_zero, List.getElem_cons_succ, List.setIfInBounds_toArray, List.set_cons_zero, List.set_cons_succ]
              refine wpAnyH_done (by kernel_rfl) ?_ _
              have HF : Hid (Below w.heap.size w u5) := HB8.out.trans (HW_u5.out.mono HB8.out.size)
              clear hHeld HW_u1 HW_u2 HW_u3 HW_u4 HW_u5 hown7 HES HJ HK HLN HRF HB8
              go_wp2
              go_ret
              exact ⟨rfl, HF.out⟩
    · have hex := exV_bad hok
      rw [hex] at HEI HES
      generalize (exV out most).1 = c0 at *
      have e0 : (c0 != 0) = true := by simp; omega
      clear hex
      go_wp2_with fail
      refine (HEI.out _ hr1).mono ?_
      rintro e w5 ⟨v5, rfl, hown5, hb5⟩
      simp only at hown5 ⊢
      obtain ⟨b1, cc, hv, -, -⟩ := hown5.form
      rw [hv] at hown5 ⊢
      clear hv
      simp only [List.length_nil] at hown5 ⊢
      have hb5' : Below w1.heap.size w1 (w5.alloc (.cells #[.int .i64 c0, .slice b1 0 cc] 29)) := hb5.trans (((Below.refl _ _).alloc (Nat.le_refl _) _).mono hb5.size)
      have hr5 := hr1.below hb5'
      have HB5 : Hid (Below w.heap.size w (w5.alloc (.cells #[.int .i64 c0, .slice b1 0 cc] 29))) := HB1.out.trans (hb5'.mono HB1.out.size)
      obtain ⟨k0, k1, -, -⟩ := res_block (w := w5) (wr := w5.alloc (.cells #[.int .i64 c0, .slice b1 0 cc] 29)) rfl (Below.refl _ _)
      have hsW : (w5.alloc (.cells #[.int .i64 c0, .slice b1 0 cc] 29)).heap.size = w5.heap.size + 1 := by simp
      clear hown5 hb5 hb5' hr1 hrA HB1 HEI HII HRF
      go_wp2_with fail
      generalize w5.alloc (.cells #[.int .i64 c0, .slice b1 0 cc] 29) = W at *
      generalize w5.heap.size = g7 at *
      have hg7 : g7 < W.heap.size := by omega
      refine wp_region_held_drew (S := fun w' => w'.cell? ⟨g7, 0, none⟩ = some (.int .i64 c0)) (by kernel_rfl) ?hS171 (fun hHeld => ?_)
      case hS171 => exact k0
      refine wpAnyH_take (i := 0) (v := ?_) rfl (by kernel_rfl) (by kernel_rfl) (by kernel_rfl) (fun _ _ _ h => h) (Or.inl ⟨by rfl, ?hy172⟩) (by assumption) ?ty172
      case hy172 => (intro w hSw; (try dsimp only at hSw); go_simp; all_goals first | with_reducible rfl | (rw [if_pos (by omega)]))
      simp only [Act.put, List.getElem_toArray, List.getElem_cons_zero, List.setIfInBounds_toArray, List.set_cons_zero, List.set_cons_succ]
      refine wpAnyH_take (i := 1) (v := ?_) rfl (by kernel_rfl) (by kernel_rfl) (by kernel_rfl) (fun _ _ _ h => h) (Or.inl ⟨by rfl, ?hy173⟩) (by assumption) ?ty173
      case hy173 => (intro w hSw; (try dsimp only at hSw); go_simp; all_goals first | with_reducible rfl | (rw [if_pos (by omega)]))
      simp only [Act.put, List.getElem_toArray, List.getElem_cons_zero, List.getElem_cons_succ, List.setIfInBounds_toArray, List.set_cons_zero, List.set_cons_succ]
      refine wpAnyH_take (i := 4) (v := ?_) rfl (by kernel_rfl) (by kernel_rfl) (by kernel_rfl) (fun _ _ _ h => h) (Or.inl ⟨by rfl, ?hy174⟩) (by assumption) ?ty174
      case hy174 => (intro w hSw; (try dsimp only at hSw); go_simp; all_goals first | with_reducible rfl | (rw [if_pos (by omega)]))
      simp only [Act.put, List.getElem_toArray, List.getElem_cons_zero, List.getElem_cons_succ, List.setIfInBounds_toArray, List.set_cons_zero, List.set_cons_succ]
      refine wpAnyH_take (i := 5) (v := ?_) rfl (by kernel_rfl) (by kernel_rfl) (by kernel_rfl) (fun _ _ _ h => h) (Or.inl ⟨by rfl, ?hy175⟩) (by assumption) ?ty175
      case hy175 => (intro w hSw; (try dsimp only at hSw); go_simp; all_goals first | with_reducible rfl | (rw [if_pos (by omega)]))
      simp only [Act.put, List.getElem_toArray, List.getElem_cons_zero, List.getElem_cons_succ, List.setIfInBounds_toArray, List.set_cons_zero, List.set_cons_succ]
      refine wpAnyH_ready (rs := [2]) (by kernel_rfl) (by simp) ?_
      refine AllReadyH.cons rfl (fun K hK => ?_) AllReadyH.nil
      go_simp
      refine (HES.out _ (by exact hr5)).mono ?_
      rintro e u1 ⟨v7, rfl, hown7, hbx⟩
      simp only
      obtain ⟨b3, c3, rfl, -, -⟩ := hown7.form
      clear hown7
      have HW : Hid (Below W.heap.size W u1) := (Below.refl _ _).drew.trans hbx
      have hsS : u1.cell? ⟨g7, 0, none⟩ = some (.int .i64 c0) := (HW.out.cell (p := ⟨g7, 0, none⟩) hg7).trans k0
      refine hK.out _ _ hsS (fun hHeld => ?_)
      clear hK K
      clear hsS hbx
      refine wpAnyH_take (i := 3) (v := ?_) rfl (by kernel_rfl) (by kernel_rfl) (by kernel_rfl) (fun _ _ _ h => h) (Or.inl ⟨by rfl, ?hy176⟩) (by assumption) ?ty176
      case hy176 => (intro w hSw; (try dsimp only at hSw); go_simp; all_goals first | with_reducible rfl | (rw [if_pos (by omega)]))
      simp only [Act.put, List.getElem_toArray, List.getElem_cons_zero, List.getElem_cons_succ, List.setIfInBounds_toArray, List.set_cons_zero, List.set_cons_succ]
      refine wpAnyH_take (i := 6) (v := .bool true) rfl (by kernel_rfl) (by kernel_rfl) (by kernel_rfl) (fun _ _ _ h => h) (Or.inl ⟨by rfl, ?hy177⟩) (by assumption) ?ty177
      case hy177 => (intro w hSw; (try dsimp only at hSw); go_simp; first | (simp; done) | (all_goals with_reducible rfl))
      simp only [Act.put, List.getElem_toArray, List.getElem_cons_zero, List.getElem_cons_succ, List.setIfInBounds_toArray, List.set_cons_zero, List.set_cons_succ]
      refine wpAnyH_take (i := 7) (v := ?_) rfl (by kernel_rfl) (by kernel_rfl) (by kernel_rfl) (fun _ _ _ h => h) (Or.inl ⟨by rfl, ?hy178⟩) (by assumption) ?ty178
      case hy178 => (intro w hSw; (try dsimp only at hSw); go_simp; all_goals first | with_reducible rfl | (rw [if_pos (by omega)]))
      simp only [Act.put, List.getElem_toArray, List.getElem_cons_zero, List.getElem_cons_succ, List.setIfInBounds_toArray, List.set_cons_zero, List.set_cons_succ]
      refine wpAnyH_done (by kernel_rfl) ?_ _
      have HF : Hid (Below w.heap.size w u1) := HB5.out.trans (HW.out.mono HB5.out.size)
      clear hHeld HW HES HB5
      go_wp2
      go_ret
      exact ⟨rfl, HF.out⟩
end Go.Proofs.Ytcpdkganbgfpcaa
