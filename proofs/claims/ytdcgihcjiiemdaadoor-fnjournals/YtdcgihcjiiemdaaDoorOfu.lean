/- The fault of an op, whole, on both sides; no conditions beyond those that each fact names. -/
import Derived.Test.YtdcgihcjiiemdaaDoorOft
import Derived.Test.YtdcgihcjiiemdaaDoorBmbToDr12
namespace Go.Proofs.YtdcgihcjiiemdaaDoor
open Go.RowKit List
set_option linter.unusedVariables false
def pvU (l : List Int) (k : Nat) : Int := if k = 0 then 0 else nthI l (k - 1)
theorem pvU_succ (l : List Int) (k : Nat) : pvU l (k + 1) = nthI l k := rfl
set_option maxHeartbeats 1600000 in
set_option maxRecDepth 100000 in
theorem l8Uids_any (s : SlQ) (l : List Int) {lo : Nat} (w : World) (hs : IsIl lo w s l) :
  Calls Tryd.prog 56 #[slW s] w fun e w' => e = .returned (.bool (riU 0 l)) ∧ Below w.heap.size w w' := by
 obtain ⟨a, n, cap⟩ := s
 obtain ⟨hl, hnc, hcm, hr, -⟩ := hs
 dsimp only [slW] at *
 unfold maxLen at hcm
 have HL : Hid (l.length = n) := hl
 have HD : Hid (riU 0 (l.drop 0) = riU 0 l) := by show _ = _; rw [List.drop_zero]
 generalize riU 0 l = r at *
 clear hl
 go_enter Tryd.func56, Tryd.ntmps56
 go_wp2
 go_loopw [3] (fun v wr => ∃ k : Nat, k ≤ n ∧ v = .int .i64 k ∧ 0 ≤ pvU l k ∧ riU (pvU l k) (l.drop k) = r ∧ Below w.heap.size w wr) (fun v _ => n - (intOf v).toNat)
 case atStart => exact ⟨0, Nat.zero_le _, rfl, Int.le_refl _, HD.out, Below.refl _ _⟩
 case round =>
  obtain ⟨k, hk, rfl, hx0, hR, hbel⟩ := hrel
  by_cases hkn : k < n
  ·have hki : (k : Int) < (n : Int) := by omega
   have hkl : k < l.length := by have := HL.out; omega
   obtain ⟨b, off, rfl, hblt, hcell⟩ := (hr.below hbel).at_ (by omega)
   have hc := hcell k hkl
   rw [drop_consI l k hkl] at hR
   have HR : Hid (riU (pvU l k) (nthI l k :: l.drop (k + 1)) = r) := hR
   have HS : Hid (pvU l (k + 1) = nthI l k) := rfl
   have HC := l1In_bt (nthI l k) 1 999
   cases hb : bt (nthI l k) 1 999 with
   | false =>
    have HM : Hid (r = false) := HR.out.symm.trans (riU_bad (by
     have h := of_decide_eq_false hb
     exact decide_eq_false (by omega)))
    rw [hb] at HC
    clear HR hb hR hcell
    generalize nthI l k = y at *
    go_wp2_with fail
    refine wp_region_held_drew (S := fun w' => w'.cell? ⟨b, off + k, none⟩ = some (.int .i64 y)) (by kernel_rfl) ?hS1 (fun hHeld => ?_)
    case hS1 => exact hc
    refine tk (i := 0) (v := ?_) rfl (Or.inl ⟨by rfl, ?hy2⟩) ?ty2
    case hy2 => (intro w hSw; have s0 := hSw; go_simp; all_goals with_reducible rfl)
    simp only [Act.put, J1, J2, J4, J5, J6]
    refine tk (i := 1) (v := ?_) rfl (Or.inl ⟨by rfl, ?hy3⟩) ?ty3
    case hy3 => (intro w hSw; have s0 := hSw; go_simp; all_goals with_reducible rfl)
    simp only [Act.put, J1, J2, J3, J4, J5, J6]
    refine tk (i := 2) (v := ?_) rfl (Or.inl ⟨by rfl, ?hy4⟩) ?ty4
    case hy4 => (intro w hSw; have s0 := hSw; go_simp; all_goals with_reducible rfl)
    simp only [Act.put, J1, J2, J3, J4, J5, J6]
    refine tk (i := 3) (v := ?_) rfl (Or.inl ⟨by rfl, ?hy5⟩) ?ty5
    case hy5 => (intro w hSw; have s0 := hSw; go_simp; all_goals with_reducible rfl)
    simp only [Act.put, J1, J2, J3, J4, J5, J6]
    refine wpAnyH_ready (rs := [4]) (by kernel_rfl) (by simp) ?_
    refine AllReadyH.cons rfl (fun K hK => ?_) AllReadyH.nil
    go_simp
    refine (HC _).mono ?_
    rintro e w1 ⟨rfl, rfl⟩
    refine hK.out _ _ hc (fun hHeld => ?_)
    clear hK K
    refine tk (i := 5) (v := ?_) rfl (Or.inl ⟨by rfl, ?hy6⟩) ?ty6
    case hy6 => (intro w hSw; have s0 := hSw; go_simp; all_goals with_reducible rfl)
    simp only [Act.put, J1, J2, J3, J4, J5, J6]
    refine tk (i := 6) (v := ?_) rfl (Or.inl ⟨by rfl, ?hy7⟩) ?ty7
    case hy7 => (intro w hSw; have s0 := hSw; go_simp; all_goals with_reducible rfl)
    simp only [Act.put, J1, J2, J3, J4, J5, J6]
    refine tk (i := 7) (v := undef) rfl (Or.inr ⟨by rfl, rfl⟩) ?_
    simp only [Act.put, J1, J2, J3, J4, J5, J6]
    refine tk (i := 8) (v := undef) rfl (Or.inr ⟨by rfl, rfl⟩) ?_
    simp only [Act.put, J1, J2, J3, J4, J5, J6]
    refine tk (i := 9) (v := undef) rfl (Or.inr ⟨by rfl, rfl⟩) ?_
    simp only [Act.put, J1, J2, J3, J4, J5, J6]
    refine tk (i := 10) (v := undef) rfl (Or.inr ⟨by rfl, rfl⟩) ?_
    simp only [Act.put, J1, J2, J3, J4, J5, J6]
    refine tk (i := 11) (v := undef) rfl (Or.inr ⟨by rfl, rfl⟩) ?_
    simp only [Act.put, J1, J2, J3, J4, J5, J6]
    refine tk (i := 12) (v := undef) rfl (Or.inr ⟨by rfl, rfl⟩) ?_
    simp only [Act.put, J1, J2, J3, J4, J5, J6]
    refine tk (i := 13) (v := undef) rfl (Or.inr ⟨by rfl, rfl⟩) ?_
    simp only [Act.put, J1, J2, J3, J4, J5, J6]
    refine tk (i := 14) (v := undef) rfl (Or.inr ⟨by rfl, rfl⟩) ?_
    simp only [Act.put, J1, J2, J3, J4, J5, J6]
    refine tk (i := 15) (v := undef) rfl (Or.inr ⟨by rfl, rfl⟩) ?_
    simp only [Act.put, J1, J2, J3, J4, J5, J6]
    refine tk (i := 16) (v := undef) rfl (Or.inr ⟨by rfl, rfl⟩) ?_
    simp only [Act.put, J1, J2, J3, J4, J5, J6]
    refine tk (i := 17) (v := undef) rfl (Or.inr ⟨by rfl, rfl⟩) ?_
    simp only [Act.put, J1, J2, J3, J4, J5, J6]
    refine tk (i := 18) (v := undef) rfl (Or.inr ⟨by rfl, rfl⟩) ?_
    simp only [Act.put, J1, J2, J3, J4, J5, J6]
    refine tk (i := 19) (v := undef) rfl (Or.inr ⟨by rfl, rfl⟩) ?_
    simp only [Act.put, J1, J2, J3, J4, J5, J6]
    refine tk (i := 20) (v := undef) rfl (Or.inr ⟨by rfl, rfl⟩) ?_
    simp only [Act.put, J1, J2, J3, J4, J5, J6]
    refine tk (i := 21) (v := .bool true) rfl (Or.inl ⟨by rfl, ?hy8⟩) ?ty8
    case hy8 => (intro w hSw; have s0 := hSw; go_simp; first | (all_goals with_reducible rfl) | (rw [Go.IntWalk.i64_left, Go.IntWalk.wrap64_in _ (by omega)]) | (simp; omega) | (simp; done))
    simp only [Act.put, J1, J2, J3, J4, J5, J6]
    refine wpAnyH_done (by kernel_rfl) ?_ _
    clear hHeld
    go_wp2
    go_ret
    exact ⟨by rw [HM.out]; rfl, hbel.trans ((Below.refl _ _).drew)⟩
   | true =>
    have hbb := of_decide_eq_true hb
    rw [hb] at HC
    clear hb hR
    rcases Nat.eq_zero_or_pos k with hk0 | hkp
    ·subst hk0
     have HM : Hid (riU (nthI l 0) (l.drop (0 + 1)) = r) := (riU_ok (decide_eq_true (by unfold pvU; rw [if_pos rfl]; omega))).symm.trans HR.out
     have hc : wr.cell? ⟨b, off, none⟩ = some (.int .i64 (nthI l 0)) := by simpa using hc
     have hy0 : 0 ≤ nthI l 0 := by omega
     clear HR hcell
     have HX : Hid (0 ≤ pvU l (0 + 1) ∧ riU (pvU l (0 + 1)) (l.drop (0 + 1)) = r) := ⟨hy0, HM.out⟩
     clear HM
     generalize nthI l 0 = y at *
     go_wp2_with fail
     refine wp_region_held_drew (S := fun w' => w'.cell? ⟨b, off, none⟩ = some (.int .i64 y)) (by kernel_rfl) ?hS9 (fun hHeld => ?_)
     case hS9 => exact hc
     refine tk (i := 0) (v := ?_) rfl (Or.inl ⟨by rfl, ?hy10⟩) ?ty10
     case hy10 => (intro w hSw; have s0 := hSw; go_simp; all_goals with_reducible rfl)
     simp only [Act.put, J1, J2, J4, J5, J6]
     refine tk (i := 1) (v := ?_) rfl (Or.inl ⟨by rfl, ?hy11⟩) ?ty11
     case hy11 => (intro w hSw; have s0 := hSw; go_simp; all_goals with_reducible rfl)
     simp only [Act.put, J1, J2, J3, J4, J5, J6]
     refine tk (i := 2) (v := ?_) rfl (Or.inl ⟨by rfl, ?hy12⟩) ?ty12
     case hy12 => (intro w hSw; have s0 := hSw; go_simp; all_goals with_reducible rfl)
     simp only [Act.put, J1, J2, J3, J4, J5, J6]
     refine tk (i := 3) (v := ?_) rfl (Or.inl ⟨by rfl, ?hy13⟩) ?ty13
     case hy13 => (intro w hSw; have s0 := hSw; go_simp; all_goals with_reducible rfl)
     simp only [Act.put, J1, J2, J3, J4, J5, J6]
     refine wpAnyH_ready (rs := [4]) (by kernel_rfl) (by simp) ?_
     refine AllReadyH.cons rfl (fun K hK => ?_) AllReadyH.nil
     go_simp
     refine (HC _).mono ?_
     rintro e w1 ⟨rfl, rfl⟩
     refine hK.out _ _ hc (fun hHeld => ?_)
     clear hK K
     refine tk (i := 5) (v := ?_) rfl (Or.inl ⟨by rfl, ?hy14⟩) ?ty14
     case hy14 => (intro w hSw; have s0 := hSw; go_simp; all_goals with_reducible rfl)
     simp only [Act.put, J1, J2, J3, J4, J5, J6]
     refine tk (i := 6) (v := ?_) rfl (Or.inl ⟨by rfl, ?hy15⟩) ?ty15
     case hy15 => (intro w hSw; have s0 := hSw; go_simp; all_goals with_reducible rfl)
     simp only [Act.put, J1, J2, J3, J4, J5, J6]
     refine tk (i := 7) (v := ?_) rfl (Or.inl ⟨by rfl, ?hy16⟩) ?ty16
     case hy16 => (intro w hSw; have s0 := hSw; go_simp; all_goals with_reducible rfl)
     simp only [Act.put, J1, J2, J3, J4, J5, J6]
     refine tk (i := 8) (v := .bool false) rfl (Or.inl ⟨by rfl, ?hy17⟩) ?ty17
     case hy17 => (intro w hSw; have s0 := hSw; go_simp; first | (all_goals with_reducible rfl) | (rw [Go.IntWalk.i64_left, Go.IntWalk.wrap64_in _ (by omega)]) | (simp; omega) | (simp; done))
     simp only [Act.put, J1, J2, J3, J4, J5, J6]
     refine tk (i := 9) (v := ?_) rfl (Or.inl ⟨by rfl, ?hy18⟩) ?ty18
     case hy18 => (intro w hSw; have s0 := hSw; go_simp; all_goals with_reducible rfl)
     simp only [Act.put, J1, J2, J3, J4, J5, J6]
     refine tk (i := 10) (v := undef) rfl (Or.inr ⟨by rfl, rfl⟩) ?_
     simp only [Act.put, J1, J2, J3, J4, J5, J6]
     refine tk (i := 11) (v := undef) rfl (Or.inr ⟨by rfl, rfl⟩) ?_
     simp only [Act.put, J1, J2, J3, J4, J5, J6]
     refine tk (i := 12) (v := undef) rfl (Or.inr ⟨by rfl, rfl⟩) ?_
     simp only [Act.put, J1, J2, J3, J4, J5, J6]
     refine tk (i := 13) (v := undef) rfl (Or.inr ⟨by rfl, rfl⟩) ?_
     simp only [Act.put, J1, J2, J3, J4, J5, J6]
     refine tk (i := 14) (v := undef) rfl (Or.inr ⟨by rfl, rfl⟩) ?_
     simp only [Act.put, J1, J2, J3, J4, J5, J6]
     refine tk (i := 15) (v := undef) rfl (Or.inr ⟨by rfl, rfl⟩) ?_
     simp only [Act.put, J1, J2, J3, J4, J5, J6]
     refine tk (i := 16) (v := undef) rfl (Or.inr ⟨by rfl, rfl⟩) ?_
     simp only [Act.put, J1, J2, J3, J4, J5, J6]
     refine tk (i := 17) (v := undef) rfl (Or.inr ⟨by rfl, rfl⟩) ?_
     simp only [Act.put, J1, J2, J3, J4, J5, J6]
     refine tk (i := 18) (v := undef) rfl (Or.inr ⟨by rfl, rfl⟩) ?_
     simp only [Act.put, J1, J2, J3, J4, J5, J6]
     refine tk (i := 19) (v := undef) rfl (Or.inr ⟨by rfl, rfl⟩) ?_
     simp only [Act.put, J1, J2, J3, J4, J5, J6]
     refine tk (i := 20) (v := .bool false) rfl (Or.inl ⟨by rfl, ?hy19⟩) ?ty19
     case hy19 => (intro w hSw; have s0 := hSw; go_simp; first | (all_goals with_reducible rfl) | (rw [Go.IntWalk.i64_left, Go.IntWalk.wrap64_in _ (by omega)]) | (simp; omega) | (simp; done))
     simp only [Act.put, J1, J2, J3, J4, J5, J6]
     refine tk (i := 21) (v := .bool false) rfl (Or.inl ⟨by rfl, ?hy20⟩) ?ty20
     case hy20 => (intro w hSw; have s0 := hSw; go_simp; first | (all_goals with_reducible rfl) | (rw [Go.IntWalk.i64_left, Go.IntWalk.wrap64_in _ (by omega)]) | (simp; omega) | (simp; done))
     simp only [Act.put, J1, J2, J3, J4, J5, J6]
     refine wpAnyH_done (by kernel_rfl) ?_ _
     clear hHeld
     go_wp2
     go_roundw
     case rel => exact ⟨0 + 1, by omega, by go_num, HX.out.1, HX.out.2, hbel.trans ((Below.refl _ _).drew)⟩
     case measure => simp [intOf]; omega
    ·obtain ⟨j, rfl⟩ : ∃ j, k = j + 1 := ⟨k - 1, by omega⟩
     have hd := hcell j (by omega)
     rw [pvU_succ] at HR hx0
     have hj1 : j + 1 < n := hkn
     have hj1' : (j : Int) + 1 < (n : Int) := by omega
     have hj0 : (0 : Int) ≤ (j : Int) + 1 := by omega
     have hjn : j < n := by omega
     by_cases hle : nthI l (j + 1) ≤ nthI l j
     ·have HM : Hid (r = false) := HR.out.symm.trans (riU_bad (decide_eq_false (by omega)))
      clear HR hcell
      generalize nthI l (j + 1) = y at *
      generalize nthI l j = x at *
      go_wp2_with fail
      refine wp_region_held_drew (S := fun w' => w'.cell? ⟨b, off + (j + 1), none⟩ = some (.int .i64 y) ∧ w'.cell? ⟨b, off + j, none⟩ = some (.int .i64 x)) (by kernel_rfl) ?hS21 (fun hHeld => ?_)
      case hS21 => exact ⟨hc, hd⟩
      refine tk (i := 0) (v := ?_) rfl (Or.inl ⟨by rfl, ?hy22⟩) ?ty22
      case hy22 => (intro w hSw; obtain ⟨s0, s1⟩ := hSw; go_simp; all_goals with_reducible rfl)
      simp only [Act.put, J1, J2, J4, J5, J6]
      refine tk (i := 1) (v := ?_) rfl (Or.inl ⟨by rfl, ?hy23⟩) ?ty23
      case hy23 => (intro w hSw; obtain ⟨s0, s1⟩ := hSw; go_simp; all_goals with_reducible rfl)
      simp only [Act.put, J1, J2, J3, J4, J5, J6]
      refine tk (i := 2) (v := ?_) rfl (Or.inl ⟨by rfl, ?hy24⟩) ?ty24
      case hy24 => (intro w hSw; obtain ⟨s0, s1⟩ := hSw; go_simp; all_goals with_reducible rfl)
      simp only [Act.put, J1, J2, J3, J4, J5, J6]
      refine tk (i := 3) (v := ?_) rfl (Or.inl ⟨by rfl, ?hy25⟩) ?ty25
      case hy25 => (intro w hSw; obtain ⟨s0, s1⟩ := hSw; go_simp; all_goals with_reducible rfl)
      simp only [Act.put, J1, J2, J3, J4, J5, J6]
      refine wpAnyH_ready (rs := [4]) (by kernel_rfl) (by simp) ?_
      refine AllReadyH.cons rfl (fun K hK => ?_) AllReadyH.nil
      go_simp
      refine (HC _).mono ?_
      rintro e w1 ⟨rfl, rfl⟩
      refine hK.out _ _ ⟨hc, hd⟩ (fun hHeld => ?_)
      clear hK K
      refine tk (i := 5) (v := ?_) rfl (Or.inl ⟨by rfl, ?hy26⟩) ?ty26
      case hy26 => (intro w hSw; obtain ⟨s0, s1⟩ := hSw; go_simp; all_goals with_reducible rfl)
      simp only [Act.put, J1, J2, J3, J4, J5, J6]
      refine tk (i := 6) (v := ?_) rfl (Or.inl ⟨by rfl, ?hy27⟩) ?ty27
      case hy27 => (intro w hSw; obtain ⟨s0, s1⟩ := hSw; go_simp; all_goals with_reducible rfl)
      simp only [Act.put, J1, J2, J3, J4, J5, J6]
      refine tk (i := 7) (v := ?_) rfl (Or.inl ⟨by rfl, ?hy28⟩) ?ty28
      case hy28 => (intro w hSw; obtain ⟨s0, s1⟩ := hSw; go_simp; all_goals with_reducible rfl)
      simp only [Act.put, J1, J2, J3, J4, J5, J6]
      refine tk (i := 8) (v := .bool true) rfl (Or.inl ⟨by rfl, ?hy29⟩) ?ty29
      case hy29 => (intro w hSw; obtain ⟨s0, s1⟩ := hSw; go_simp; first | (all_goals with_reducible rfl) | (rw [Go.IntWalk.i64_left, Go.IntWalk.wrap64_in _ (by omega)]) | (simp; omega) | (simp; done))
      simp only [Act.put, J1, J2, J3, J4, J5, J6]
      refine tk (i := 9) (v := ?_) rfl (Or.inl ⟨by rfl, ?hy30⟩) ?ty30
      case hy30 => (intro w hSw; obtain ⟨s0, s1⟩ := hSw; go_simp; all_goals with_reducible rfl)
      simp only [Act.put, J1, J2, J3, J4, J5, J6]
      refine tk (i := 10) (v := ?_) rfl (Or.inl ⟨by rfl, ?hy31⟩) ?ty31
      case hy31 => (intro w hSw; obtain ⟨s0, s1⟩ := hSw; go_simp; all_goals with_reducible rfl)
      simp only [Act.put, J1, J2, J3, J4, J5, J6]
      refine tk (i := 11) (v := ?_) rfl (Or.inl ⟨by rfl, ?hy32⟩) ?ty32
      case hy32 => (intro w hSw; obtain ⟨s0, s1⟩ := hSw; go_simp; all_goals with_reducible rfl)
      simp only [Act.put, J1, J2, J3, J4, J5, J6]
      refine tk (i := 12) (v := ?_) rfl (Or.inl ⟨by rfl, ?hy33⟩) ?ty33
      case hy33 => (intro w hSw; obtain ⟨s0, s1⟩ := hSw; go_simp; all_goals with_reducible rfl)
      simp only [Act.put, J1, J2, J3, J4, J5, J6]
      refine tk (i := 13) (v := ?_) rfl (Or.inl ⟨by rfl, ?hy34⟩) ?ty34
      case hy34 => (intro w hSw; obtain ⟨s0, s1⟩ := hSw; go_simp; all_goals with_reducible rfl)
      simp only [Act.put, J1, J2, J3, J4, J5, J6]
      refine tk (i := 14) (v := ?_) rfl (Or.inl ⟨by rfl, ?hy35⟩) ?ty35
      case hy35 => (intro w hSw; obtain ⟨s0, s1⟩ := hSw; go_simp; all_goals with_reducible rfl)
      simp only [Act.put, J1, J2, J3, J4, J5, J6]
      refine tk (i := 15) (v := ?_) rfl (Or.inl ⟨by rfl, ?hy36⟩) ?ty36
      case hy36 => (intro w hSw; obtain ⟨s0, s1⟩ := hSw; go_simp; all_goals with_reducible rfl)
      simp only [Act.put, J1, J2, J3, J4, J5, J6]
      refine tk (i := 16) (v := .int .i64 (j : Int)) rfl (Or.inl ⟨by rfl, ?hy37⟩) ?ty37
      case hy37 => (intro w hSw; obtain ⟨s0, s1⟩ := hSw; go_simp; first | (all_goals with_reducible rfl) | (rw [Go.IntWalk.i64_left, Go.IntWalk.wrap64_in _ (by omega)]) | (simp; omega) | (simp; done))
      simp only [Act.put, J1, J2, J3, J4, J5, J6]
      refine tk (i := 17) (v := ?_) rfl (Or.inl ⟨by rfl, ?hy38⟩) ?ty38
      case hy38 => (intro w hSw; obtain ⟨s0, s1⟩ := hSw; go_simp; all_goals with_reducible rfl)
      simp only [Act.put, J1, J2, J3, J4, J5, J6]
      refine tk (i := 18) (v := ?_) rfl (Or.inl ⟨by rfl, ?hy39⟩) ?ty39
      case hy39 => (intro w hSw; obtain ⟨s0, s1⟩ := hSw; go_simp; all_goals with_reducible rfl)
      simp only [Act.put, J1, J2, J3, J4, J5, J6]
      refine tk (i := 19) (v := .bool true) rfl (Or.inl ⟨by rfl, ?hy40⟩) ?ty40
      case hy40 => (intro w hSw; obtain ⟨s0, s1⟩ := hSw; go_simp; first | (all_goals with_reducible rfl) | (rw [Go.IntWalk.i64_left, Go.IntWalk.wrap64_in _ (by omega)]) | (simp; omega) | (simp; done))
      simp only [Act.put, J1, J2, J3, J4, J5, J6]
      refine tk (i := 20) (v := .bool true) rfl (Or.inl ⟨by rfl, ?hy41⟩) ?ty41
      case hy41 => (intro w hSw; obtain ⟨s0, s1⟩ := hSw; go_simp; first | (all_goals with_reducible rfl) | (rw [Go.IntWalk.i64_left, Go.IntWalk.wrap64_in _ (by omega)]) | (simp; omega) | (simp; done))
      simp only [Act.put, J1, J2, J3, J4, J5, J6]
      refine tk (i := 21) (v := .bool true) rfl (Or.inl ⟨by rfl, ?hy42⟩) ?ty42
      case hy42 => (intro w hSw; obtain ⟨s0, s1⟩ := hSw; go_simp; first | (all_goals with_reducible rfl) | (rw [Go.IntWalk.i64_left, Go.IntWalk.wrap64_in _ (by omega)]) | (simp; omega) | (simp; done))
      simp only [Act.put, J1, J2, J3, J4, J5, J6]
      refine wpAnyH_done (by kernel_rfl) ?_ _
      clear hHeld
      go_wp2
      go_ret
      exact ⟨by rw [HM.out]; rfl, hbel.trans ((Below.refl _ _).drew)⟩
     ·have HX : Hid (0 ≤ pvU l (j + 1 + 1) ∧ riU (pvU l (j + 1 + 1)) (l.drop (j + 1 + 1)) = r) := ⟨by rw [pvU_succ]; omega, by rw [pvU_succ]; exact (riU_ok (decide_eq_true (by omega))).symm.trans HR.out⟩
      clear HR hcell
      generalize nthI l (j + 1) = y at *
      generalize nthI l j = x at *
      go_wp2_with fail
      refine wp_region_held_drew (S := fun w' => w'.cell? ⟨b, off + (j + 1), none⟩ = some (.int .i64 y) ∧ w'.cell? ⟨b, off + j, none⟩ = some (.int .i64 x)) (by kernel_rfl) ?hS43 (fun hHeld => ?_)
      case hS43 => exact ⟨hc, hd⟩
      refine tk (i := 0) (v := ?_) rfl (Or.inl ⟨by rfl, ?hy44⟩) ?ty44
      case hy44 => (intro w hSw; obtain ⟨s0, s1⟩ := hSw; go_simp; all_goals with_reducible rfl)
      simp only [Act.put, J1, J2, J4, J5, J6]
      refine tk (i := 1) (v := ?_) rfl (Or.inl ⟨by rfl, ?hy45⟩) ?ty45
      case hy45 => (intro w hSw; obtain ⟨s0, s1⟩ := hSw; go_simp; all_goals with_reducible rfl)
      simp only [Act.put, J1, J2, J3, J4, J5, J6]
      refine tk (i := 2) (v := ?_) rfl (Or.inl ⟨by rfl, ?hy46⟩) ?ty46
      case hy46 => (intro w hSw; obtain ⟨s0, s1⟩ := hSw; go_simp; all_goals with_reducible rfl)
      simp only [Act.put, J1, J2, J3, J4, J5, J6]
      refine tk (i := 3) (v := ?_) rfl (Or.inl ⟨by rfl, ?hy47⟩) ?ty47
      case hy47 => (intro w hSw; obtain ⟨s0, s1⟩ := hSw; go_simp; all_goals with_reducible rfl)
      simp only [Act.put, J1, J2, J3, J4, J5, J6]
      refine wpAnyH_ready (rs := [4]) (by kernel_rfl) (by simp) ?_
      refine AllReadyH.cons rfl (fun K hK => ?_) AllReadyH.nil
      go_simp
      refine (HC _).mono ?_
      rintro e w1 ⟨rfl, rfl⟩
      refine hK.out _ _ ⟨hc, hd⟩ (fun hHeld => ?_)
      clear hK K
      refine tk (i := 5) (v := ?_) rfl (Or.inl ⟨by rfl, ?hy48⟩) ?ty48
      case hy48 => (intro w hSw; obtain ⟨s0, s1⟩ := hSw; go_simp; all_goals with_reducible rfl)
      simp only [Act.put, J1, J2, J3, J4, J5, J6]
      refine tk (i := 6) (v := ?_) rfl (Or.inl ⟨by rfl, ?hy49⟩) ?ty49
      case hy49 => (intro w hSw; obtain ⟨s0, s1⟩ := hSw; go_simp; all_goals with_reducible rfl)
      simp only [Act.put, J1, J2, J3, J4, J5, J6]
      refine tk (i := 7) (v := ?_) rfl (Or.inl ⟨by rfl, ?hy50⟩) ?ty50
      case hy50 => (intro w hSw; obtain ⟨s0, s1⟩ := hSw; go_simp; all_goals with_reducible rfl)
      simp only [Act.put, J1, J2, J3, J4, J5, J6]
      refine tk (i := 8) (v := .bool true) rfl (Or.inl ⟨by rfl, ?hy51⟩) ?ty51
      case hy51 => (intro w hSw; obtain ⟨s0, s1⟩ := hSw; go_simp; first | (all_goals with_reducible rfl) | (rw [Go.IntWalk.i64_left, Go.IntWalk.wrap64_in _ (by omega)]) | (simp; omega) | (simp; done))
      simp only [Act.put, J1, J2, J3, J4, J5, J6]
      refine tk (i := 9) (v := ?_) rfl (Or.inl ⟨by rfl, ?hy52⟩) ?ty52
      case hy52 => (intro w hSw; obtain ⟨s0, s1⟩ := hSw; go_simp; all_goals with_reducible rfl)
      simp only [Act.put, J1, J2, J3, J4, J5, J6]
      refine tk (i := 10) (v := ?_) rfl (Or.inl ⟨by rfl, ?hy53⟩) ?ty53
      case hy53 => (intro w hSw; obtain ⟨s0, s1⟩ := hSw; go_simp; all_goals with_reducible rfl)
      simp only [Act.put, J1, J2, J3, J4, J5, J6]
      refine tk (i := 11) (v := ?_) rfl (Or.inl ⟨by rfl, ?hy54⟩) ?ty54
      case hy54 => (intro w hSw; obtain ⟨s0, s1⟩ := hSw; go_simp; all_goals with_reducible rfl)
      simp only [Act.put, J1, J2, J3, J4, J5, J6]
      refine tk (i := 12) (v := ?_) rfl (Or.inl ⟨by rfl, ?hy55⟩) ?ty55
      case hy55 => (intro w hSw; obtain ⟨s0, s1⟩ := hSw; go_simp; all_goals with_reducible rfl)
      simp only [Act.put, J1, J2, J3, J4, J5, J6]
      refine tk (i := 13) (v := ?_) rfl (Or.inl ⟨by rfl, ?hy56⟩) ?ty56
      case hy56 => (intro w hSw; obtain ⟨s0, s1⟩ := hSw; go_simp; all_goals with_reducible rfl)
      simp only [Act.put, J1, J2, J3, J4, J5, J6]
      refine tk (i := 14) (v := ?_) rfl (Or.inl ⟨by rfl, ?hy57⟩) ?ty57
      case hy57 => (intro w hSw; obtain ⟨s0, s1⟩ := hSw; go_simp; all_goals with_reducible rfl)
      simp only [Act.put, J1, J2, J3, J4, J5, J6]
      refine tk (i := 15) (v := ?_) rfl (Or.inl ⟨by rfl, ?hy58⟩) ?ty58
      case hy58 => (intro w hSw; obtain ⟨s0, s1⟩ := hSw; go_simp; all_goals with_reducible rfl)
      simp only [Act.put, J1, J2, J3, J4, J5, J6]
      refine tk (i := 16) (v := .int .i64 (j : Int)) rfl (Or.inl ⟨by rfl, ?hy59⟩) ?ty59
      case hy59 => (intro w hSw; obtain ⟨s0, s1⟩ := hSw; go_simp; first | (all_goals with_reducible rfl) | (rw [Go.IntWalk.i64_left, Go.IntWalk.wrap64_in _ (by omega)]) | (simp; omega) | (simp; done))
      simp only [Act.put, J1, J2, J3, J4, J5, J6]
      refine tk (i := 17) (v := ?_) rfl (Or.inl ⟨by rfl, ?hy60⟩) ?ty60
      case hy60 => (intro w hSw; obtain ⟨s0, s1⟩ := hSw; go_simp; all_goals with_reducible rfl)
      simp only [Act.put, J1, J2, J3, J4, J5, J6]
      refine tk (i := 18) (v := ?_) rfl (Or.inl ⟨by rfl, ?hy61⟩) ?ty61
      case hy61 => (intro w hSw; obtain ⟨s0, s1⟩ := hSw; go_simp; all_goals with_reducible rfl)
      simp only [Act.put, J1, J2, J3, J4, J5, J6]
      refine tk (i := 19) (v := .bool false) rfl (Or.inl ⟨by rfl, ?hy62⟩) ?ty62
      case hy62 => (intro w hSw; obtain ⟨s0, s1⟩ := hSw; go_simp; first | (all_goals with_reducible rfl) | (rw [Go.IntWalk.i64_left, Go.IntWalk.wrap64_in _ (by omega)]) | (simp; omega) | (simp; done))
      simp only [Act.put, J1, J2, J3, J4, J5, J6]
      refine tk (i := 20) (v := .bool false) rfl (Or.inl ⟨by rfl, ?hy63⟩) ?ty63
      case hy63 => (intro w hSw; obtain ⟨s0, s1⟩ := hSw; go_simp; first | (all_goals with_reducible rfl) | (rw [Go.IntWalk.i64_left, Go.IntWalk.wrap64_in _ (by omega)]) | (simp; omega) | (simp; done))
      simp only [Act.put, J1, J2, J3, J4, J5, J6]
      refine tk (i := 21) (v := .bool false) rfl (Or.inl ⟨by rfl, ?hy64⟩) ?ty64
      case hy64 => (intro w hSw; obtain ⟨s0, s1⟩ := hSw; go_simp; first | (all_goals with_reducible rfl) | (rw [Go.IntWalk.i64_left, Go.IntWalk.wrap64_in _ (by omega)]) | (simp; omega) | (simp; done))
      simp only [Act.put, J1, J2, J3, J4, J5, J6]
      refine wpAnyH_done (by kernel_rfl) ?_ _
      clear hHeld
      go_wp2
      go_roundw
      case rel => exact ⟨j + 1 + 1, by omega, by go_num, HX.out.1, HX.out.2, hbel.trans ((Below.refl _ _).drew)⟩
      case measure => simp [intOf]; omega
  ·have hki : ¬ (k : Int) < (n : Int) := by omega
   have HM : Hid (r = true) := by
    have h := hR
    rw [List.drop_eq_nil_of_le (by have := HL.out; omega)] at h
    exact h.symm
   clear hR
   go_wp2
   go_ret
   exact ⟨by rw [HM.out]; rfl, hbel⟩
end Go.Proofs.YtdcgihcjiiemdaaDoor
