/- The fault of a mailbox: the model's side; no conditions beyond those that each fact names. -/
import Derived.Test.YtmidjgpegdodcaaDoorBxf
import Derived.BigQuiet
import Derived.Test.YtmidjgpegdodcaaDoorTkw
namespace Go.Proofs.YtmidjgpegdodcaaDoor
open Go.RowKit List

theorem mfV_pos {m : Msg} (h : mfV m = 0) : 1 ≤ m.u := by
 unfold mfV at h
 split at h
 ·next hc => have := hc.1; unfold bt at this; exact (of_decide_eq_true this).1
 ·cases h
/-- The Uid ahead of the k-th message. -/
def pv (l : List Msg) (k : Nat) : Int := if k = 0 then 0 else (nthM l (k - 1)).u
theorem pv_zero (l : List Msg) : pv l 0 = 0 := rfl
theorem pv_succ (l : List Msg) (k : Nat) : pv l (k + 1) = (nthM l k).u := rfl

set_option maxHeartbeats 3200000 in
set_option maxRecDepth 100000 in
theorem l7Box_any (m : Bx) (s : SlQ) (g0 o : Nat) {lo : Nat} (w : World) (hs : IsMs lo w s m.m) (hn : m.n.size ≤ 1048576)
  (c0 : w.cell? ⟨g0, o, none⟩ = some (.string m.n)) (c1 : w.cell? ⟨g0, o + 1, none⟩ = some (.int .i64 m.v)) (c2 : w.cell? ⟨g0, o + 2, none⟩ = some (.int .i64 m.x)) (c3 : w.cell? ⟨g0, o + 3, none⟩ = some (slW s)) :
  Calls Tryd.prog 20 #[.pointer (some ⟨g0, o, none⟩)] w fun e w' => e = .returned (.int .i64 (bfV m)) ∧ Below w.heap.size w w' := by
 have HNM := l7Name_nm m.n w hn
 have HV : Hid (bfV m = if bnOk (txB m.n) = true then (if bt m.v 1 999 = true ∧ bt m.x 1 1000 = true then (if 6 < s.2.1 then 2 else bmV m.x 0 m.m) else 3) else 5) := by show _ = _; unfold bfV; rw [hs.1]
 have hg0 : g0 < w.heap.size := World.block_lt_of_cell? w ⟨g0, o, none⟩ c0
 have HQ : Hid (∀ w' : World, Below w.heap.size w w' → w'.cell? ⟨g0, o, none⟩ = some (.string m.n) ∧ w'.cell? ⟨g0, o + 1, none⟩ = some (.int .i64 m.v) ∧ w'.cell? ⟨g0, o + 2, none⟩ = some (.int .i64 m.x) ∧ w'.cell? ⟨g0, o + 3, none⟩ = some (slW s)) := fun w' hb =>
  ⟨(hb.cell (p := ⟨g0, o, none⟩) hg0).trans c0, (hb.cell (p := ⟨g0, o + 1, none⟩) hg0).trans c1, (hb.cell (p := ⟨g0, o + 2, none⟩) hg0).trans c2, (hb.cell (p := ⟨g0, o + 3, none⟩) hg0).trans c3⟩
 obtain ⟨a, n, cap⟩ := s
 obtain ⟨nm, v, x, l⟩ := m
 dsimp only [slW] at *
 obtain ⟨hl, hnc, hcm, hr⟩ := hs
 dsimp only at hl hnc hcm hr
 generalize bfV ⟨nm, v, x, l⟩ = r at *
 generalize bnOk (txB nm) = bn at *
 go_enter Tryd.func20, Tryd.ntmps20
 go_wp2_with fail
 refine HNM.mono ?_
 rintro e w1 ⟨rfl, hb1⟩
 clear HNM c0 c1 c2 c3
 obtain ⟨c0, c1, c2, c3⟩ := HQ.out w1 hb1
 cases bn with
 | false =>
  have HM : Hid (r = 5) := HV.out.trans (by simp)
  clear HV
  go_wp2
  go_ret
  exact ⟨by rw [HM.out]; rfl, hb1⟩
 | true =>
  cases h0 : bt v 1 999 with
  | false =>
   have HM : Hid (r = 3) := HV.out.trans (by simp [h0])
   clear HV
   go_wp2_with (first | (go_at_call 19; refine (l1In_bt _ _ _ _).mono ?_; rintro e w' ⟨rfl, rfl⟩))
   go_ret
   exact ⟨by rw [HM.out]; rfl, hb1⟩
  | true =>
   cases h1 : bt x 1 1000 with
   | false =>
    have HM : Hid (r = 3) := HV.out.trans (by simp [h0, h1])
    clear HV
    go_wp2_with (first | (go_at_call 19; refine (l1In_bt _ _ _ _).mono ?_; rintro e w' ⟨rfl, rfl⟩))
    go_ret
    exact ⟨by rw [HM.out]; rfl, hb1⟩
   | true =>
    by_cases h6 : 6 < n
    ·have h6' : (6 : Int) < (n : Int) := by omega
     have HM : Hid (r = 2) := HV.out.trans (by simp [h0, h1, h6])
     clear HV
     go_wp2_with (first | (go_at_call 19; refine (l1In_bt _ _ _ _).mono ?_; rintro e w' ⟨rfl, rfl⟩))
     go_ret
     exact ⟨by rw [HM.out]; rfl, hb1⟩
    ·have h6' : ¬ (6 : Int) < (n : Int) := by omega
     have HM : Hid (r = bmV x (pv l 0) (l.drop 0)) := HV.out.trans (by simp [h0, h1, h6, pv_zero])
     clear HV
     go_wp2_with (first | (go_at_call 19; refine (l1In_bt _ _ _ _).mono ?_; rintro e w' ⟨rfl, rfl⟩))
     go_loopw [3] (fun i wr => ∃ k : Nat, k ≤ n ∧ i = .int .i64 k ∧ Hid (r = bmV x (pv l k) (l.drop k)) ∧ Below w.heap.size w wr) (fun i _ => n - (intOf i).toNat)
     case atStart => exact ⟨0, Nat.zero_le _, rfl, HM, hb1⟩
     case round =>
      obtain ⟨k, hk, rfl, HR, hbel⟩ := hrel
      clear HM c0 c1 c2 c3
      obtain ⟨c0, c1, c2, c3⟩ := HQ.out wr hbel
      by_cases hkn : k < n
      ·have hki : (k : Int) < (n : Int) := by omega
       obtain ⟨g, off, rfl, -, hglt, hcell⟩ := (hr.below hbel).at_ (by omega)
       obtain ⟨sl, ⟨d0, d1, d2, d3⟩, hI⟩ := hcell k (by omega)
       have HCM := l7Message_any (nthM l k) sl g (off + k * 4) wr hI d0 d1 d2 d3
       have HST : Hid (r = if mfV (nthM l k) = 0 then (if (nthM l k).u ≤ pv l k ∨ x ≤ (nthM l k).u then 1 else bmV x (pv l (k + 1)) (l.drop (k + 1))) else mfV (nthM l k)) := HR.out.trans (by rw [pv_succ]; exact bmV_step x _ l k (by omega))
       have HPS : Hid (mfV (nthM l k) = 0 → 1 ≤ (nthM l k).u) := fun h => mfV_pos h
       have HPV : Hid (∀ j, k = j + 1 → pv l k = (nthM l j).u) := fun j h => by rw [h, pv_succ]
       have HP0 : Hid (k = 0 → pv l k = 0) := fun h => by rw [h, pv_zero]
       clear HR
       obtain ⟨rest, hrest⟩ : ∃ z, bmV x (pv l (k + 1)) (l.drop (k + 1)) = z := ⟨_, rfl⟩
       rw [hrest] at HST
       have HRR : Hid (r = rest → Hid (r = bmV x (pv l (k + 1)) (l.drop (k + 1)))) := fun h => h.trans hrest.symm
       clear hrest
       generalize mfV (nthM l k) = c at *
       go_wp2_with fail
       refine HCM.mono ?_
       rintro e w2 ⟨rfl, hb2⟩
       have hbel2 := hbel.trans (hb2.mono hbel.size)
       have e0 := (hb2.cell (p := ⟨g, off + k * 4, none⟩) hglt).trans d0
       clear c0 c1 c2 c3 d0 d1 d2 d3 HCM hI
       obtain ⟨c0, c1, c2, c3⟩ := HQ.out w2 hbel2
       by_cases hc : c = 0
       ·subst hc
        have hyp := HPS.out rfl
        clear HPS
        rcases Nat.eq_zero_or_pos k with hk0 | hkp
        ·have hp0 := HP0.out hk0
         rw [hp0] at HST
         subst hk0
         have hn0 : 0 < n := hkn
         have e0 : w2.cell? ⟨g, off, none⟩ = some (.int .i64 (nthM l 0).u) := by simpa using e0
         clear HP0 HPV hp0 hcell
         generalize (nthM l 0).u = yu at *
         have hy0 : ¬ yu ≤ 0 := by omega
         by_cases hx : x ≤ yu
         ·have HM : Hid (r = 1) := HST.out.trans (by simp [hx])
          clear HST
          go_wp2_with fail
          refine wp_region_held_drew (S := fun w' => w'.cell? ⟨g0, o + 2, none⟩ = some (.int .i64 x) ∧ w'.cell? ⟨g0, o + 3, none⟩ = some (.slice (some ⟨g, off, none⟩) n cap) ∧ w'.cell? ⟨g, off, none⟩ = some (.int .i64 yu)) (by kernel_rfl) ?hS1 (fun hHeld => ?_)
          case hS1 => exact ⟨c2, c3, e0⟩
          refine tk (i := 0) (v := ?_) rfl (Or.inl ⟨by rfl, ?hy2⟩) ?ty2
          case hy2 => (intro w hSw; obtain ⟨s0, s1, s2⟩ := hSw; go_simp; all_goals with_reducible rfl)
          simp only [Act.put, J1, J2, J4, J5, J6]
          refine tk (i := 1) (v := .bool false) rfl (Or.inl ⟨by rfl, ?hy3⟩) ?ty3
          case hy3 => (intro w hSw; obtain ⟨s0, s1, s2⟩ := hSw; go_simp; first | (all_goals with_reducible rfl) | (rw [Go.IntWalk.i64_left, Go.IntWalk.wrap64_in _ (by omega)]) | (simp; omega) | (simp; done))
          simp only [Act.put, J1, J2, J3, J4, J5, J6]
          refine tk (i := 2) (v := ?_) rfl (Or.inl ⟨by rfl, ?hy4⟩) ?ty4
          case hy4 => (intro w hSw; obtain ⟨s0, s1, s2⟩ := hSw; go_simp; all_goals with_reducible rfl)
          simp only [Act.put, J1, J2, J3, J4, J5, J6]
          refine tk (i := 3) (v := undef) rfl (Or.inr ⟨by rfl, rfl⟩) ?_
          simp only [Act.put, J1, J2, J3, J4, J5, J6]
          refine tk (i := 4) (v := undef) rfl (Or.inr ⟨by rfl, rfl⟩) ?_
          simp only [Act.put, J1, J2, J3, J4, J5, J6]
          refine tk (i := 5) (v := undef) rfl (Or.inr ⟨by rfl, rfl⟩) ?_
          simp only [Act.put, J1, J2, J3, J4, J5, J6]
          refine tk (i := 6) (v := undef) rfl (Or.inr ⟨by rfl, rfl⟩) ?_
          simp only [Act.put, J1, J2, J3, J4, J5, J6]
          refine tk (i := 7) (v := undef) rfl (Or.inr ⟨by rfl, rfl⟩) ?_
          simp only [Act.put, J1, J2, J3, J4, J5, J6]
          refine tk (i := 8) (v := undef) rfl (Or.inr ⟨by rfl, rfl⟩) ?_
          simp only [Act.put, J1, J2, J3, J4, J5, J6]
          refine tk (i := 9) (v := undef) rfl (Or.inr ⟨by rfl, rfl⟩) ?_
          simp only [Act.put, J1, J2, J3, J4, J5, J6]
          refine tk (i := 10) (v := undef) rfl (Or.inr ⟨by rfl, rfl⟩) ?_
          simp only [Act.put, J1, J2, J3, J4, J5, J6]
          refine tk (i := 11) (v := undef) rfl (Or.inr ⟨by rfl, rfl⟩) ?_
          simp only [Act.put, J1, J2, J3, J4, J5, J6]
          refine tk (i := 12) (v := undef) rfl (Or.inr ⟨by rfl, rfl⟩) ?_
          simp only [Act.put, J1, J2, J3, J4, J5, J6]
          refine tk (i := 13) (v := undef) rfl (Or.inr ⟨by rfl, rfl⟩) ?_
          simp only [Act.put, J1, J2, J3, J4, J5, J6]
          refine tk (i := 14) (v := undef) rfl (Or.inr ⟨by rfl, rfl⟩) ?_
          simp only [Act.put, J1, J2, J3, J4, J5, J6]
          refine tk (i := 15) (v := undef) rfl (Or.inr ⟨by rfl, rfl⟩) ?_
          simp only [Act.put, J1, J2, J3, J4, J5, J6]
          refine tk (i := 16) (v := undef) rfl (Or.inr ⟨by rfl, rfl⟩) ?_
          simp only [Act.put, J1, J2, J3, J4, J5, J6]
          refine tk (i := 17) (v := undef) rfl (Or.inr ⟨by rfl, rfl⟩) ?_
          simp only [Act.put, J1, J2, J3, J4, J5, J6]
          refine tk (i := 18) (v := undef) rfl (Or.inr ⟨by rfl, rfl⟩) ?_
          simp only [Act.put, J1, J2, J3, J4, J5, J6]
          refine tk (i := 19) (v := undef) rfl (Or.inr ⟨by rfl, rfl⟩) ?_
          simp only [Act.put, J1, J2, J3, J4, J5, J6]
          refine tk (i := 20) (v := undef) rfl (Or.inr ⟨by rfl, rfl⟩) ?_
          simp only [Act.put, J1, J2, J3, J4, J5, J6]
          refine tk (i := 21) (v := .bool false) rfl (Or.inl ⟨by rfl, ?hy5⟩) ?ty5
          case hy5 => (intro w hSw; obtain ⟨s0, s1, s2⟩ := hSw; go_simp; first | (all_goals with_reducible rfl) | (rw [Go.IntWalk.i64_left, Go.IntWalk.wrap64_in _ (by omega)]) | (simp; omega) | (simp; done))
          simp only [Act.put, J1, J2, J3, J4, J5, J6]
          refine tk (i := 22) (v := ?_) rfl (Or.inl ⟨by rfl, ?hy6⟩) ?ty6
          case hy6 => (intro w hSw; obtain ⟨s0, s1, s2⟩ := hSw; go_simp; all_goals with_reducible rfl)
          simp only [Act.put, J1, J2, J3, J4, J5, J6]
          refine tk (i := 23) (v := ?_) rfl (Or.inl ⟨by rfl, ?hy7⟩) ?ty7
          case hy7 => (intro w hSw; obtain ⟨s0, s1, s2⟩ := hSw; go_simp; all_goals with_reducible rfl)
          simp only [Act.put, J1, J2, J3, J4, J5, J6]
          refine tk (i := 24) (v := ?_) rfl (Or.inl ⟨by rfl, ?hy8⟩) ?ty8
          case hy8 => (intro w hSw; obtain ⟨s0, s1, s2⟩ := hSw; go_simp; all_goals with_reducible rfl)
          simp only [Act.put, J1, J2, J3, J4, J5, J6]
          refine tk (i := 25) (v := ?_) rfl (Or.inl ⟨by rfl, ?hy9⟩) ?ty9
          case hy9 => (intro w hSw; obtain ⟨s0, s1, s2⟩ := hSw; go_simp; all_goals with_reducible rfl)
          simp only [Act.put, J1, J2, J3, J4, J5, J6]
          refine tk (i := 26) (v := ?_) rfl (Or.inl ⟨by rfl, ?hy10⟩) ?ty10
          case hy10 => (intro w hSw; obtain ⟨s0, s1, s2⟩ := hSw; go_simp; all_goals with_reducible rfl)
          simp only [Act.put, J1, J2, J3, J4, J5, J6]
          refine tk (i := 27) (v := ?_) rfl (Or.inl ⟨by rfl, ?hy11⟩) ?ty11
          case hy11 => (intro w hSw; obtain ⟨s0, s1, s2⟩ := hSw; go_simp; all_goals with_reducible rfl)
          simp only [Act.put, J1, J2, J3, J4, J5, J6]
          refine tk (i := 28) (v := ?_) rfl (Or.inl ⟨by rfl, ?hy12⟩) ?ty12
          case hy12 => (intro w hSw; obtain ⟨s0, s1, s2⟩ := hSw; go_simp; all_goals with_reducible rfl)
          simp only [Act.put, J1, J2, J3, J4, J5, J6]
          refine tk (i := 29) (v := ?_) rfl (Or.inl ⟨by rfl, ?hy13⟩) ?ty13
          case hy13 => (intro w hSw; obtain ⟨s0, s1, s2⟩ := hSw; go_simp; all_goals with_reducible rfl)
          simp only [Act.put, J1, J2, J3, J4, J5, J6]
          refine tk (i := 30) (v := ?_) rfl (Or.inl ⟨by rfl, ?hy14⟩) ?ty14
          case hy14 => (intro w hSw; obtain ⟨s0, s1, s2⟩ := hSw; go_simp; all_goals with_reducible rfl)
          simp only [Act.put, J1, J2, J3, J4, J5, J6]
          refine tk (i := 31) (v := ?_) rfl (Or.inl ⟨by rfl, ?hy15⟩) ?ty15
          case hy15 => (intro w hSw; obtain ⟨s0, s1, s2⟩ := hSw; go_simp; all_goals with_reducible rfl)
          simp only [Act.put, J1, J2, J3, J4, J5, J6]
          refine tk (i := 32) (v := ?_) rfl (Or.inl ⟨by rfl, ?hy16⟩) ?ty16
          case hy16 => (intro w hSw; obtain ⟨s0, s1, s2⟩ := hSw; go_simp; all_goals with_reducible rfl)
          simp only [Act.put, J1, J2, J3, J4, J5, J6]
          refine tk (i := 33) (v := ?_) rfl (Or.inl ⟨by rfl, ?hy17⟩) ?ty17
          case hy17 => (intro w hSw; obtain ⟨s0, s1, s2⟩ := hSw; go_simp; all_goals with_reducible rfl)
          simp only [Act.put, J1, J2, J3, J4, J5, J6]
          refine tk (i := 34) (v := ?_) rfl (Or.inl ⟨by rfl, ?hy18⟩) ?ty18
          case hy18 => (intro w hSw; obtain ⟨s0, s1, s2⟩ := hSw; go_simp; all_goals with_reducible rfl)
          simp only [Act.put, J1, J2, J3, J4, J5, J6]
          refine tk (i := 35) (v := .bool true) rfl (Or.inl ⟨by rfl, ?hy19⟩) ?ty19
          case hy19 => (intro w hSw; obtain ⟨s0, s1, s2⟩ := hSw; go_simp; first | (all_goals with_reducible rfl) | (rw [Go.IntWalk.i64_left, Go.IntWalk.wrap64_in _ (by omega)]) | (simp; omega) | (simp; done))
          simp only [Act.put, J1, J2, J3, J4, J5, J6]
          refine tk (i := 36) (v := .bool true) rfl (Or.inl ⟨by rfl, ?hy20⟩) ?ty20
          case hy20 => (intro w hSw; obtain ⟨s0, s1, s2⟩ := hSw; go_simp; first | (all_goals with_reducible rfl) | (rw [Go.IntWalk.i64_left, Go.IntWalk.wrap64_in _ (by omega)]) | (simp; omega) | (simp; done))
          simp only [Act.put, J1, J2, J3, J4, J5, J6]
          refine wpAnyH_done (by kernel_rfl) ?_ _
          clear hHeld
          go_wp2
          go_ret
          exact ⟨by rw [HM.out]; rfl, hbel2.trans ((Below.refl _ _).drew)⟩
         ·have HM : Hid (r = rest) := HST.out.trans (by simp [hx, hy0])
          clear HST
          go_wp2_with fail
          refine wp_region_held_drew (S := fun w' => w'.cell? ⟨g0, o + 2, none⟩ = some (.int .i64 x) ∧ w'.cell? ⟨g0, o + 3, none⟩ = some (.slice (some ⟨g, off, none⟩) n cap) ∧ w'.cell? ⟨g, off, none⟩ = some (.int .i64 yu)) (by kernel_rfl) ?hS21 (fun hHeld => ?_)
          case hS21 => exact ⟨c2, c3, e0⟩
          refine tk (i := 0) (v := ?_) rfl (Or.inl ⟨by rfl, ?hy22⟩) ?ty22
          case hy22 => (intro w hSw; obtain ⟨s0, s1, s2⟩ := hSw; go_simp; all_goals with_reducible rfl)
          simp only [Act.put, J1, J2, J4, J5, J6]
          refine tk (i := 1) (v := .bool false) rfl (Or.inl ⟨by rfl, ?hy23⟩) ?ty23
          case hy23 => (intro w hSw; obtain ⟨s0, s1, s2⟩ := hSw; go_simp; first | (all_goals with_reducible rfl) | (rw [Go.IntWalk.i64_left, Go.IntWalk.wrap64_in _ (by omega)]) | (simp; omega) | (simp; done))
          simp only [Act.put, J1, J2, J3, J4, J5, J6]
          refine tk (i := 2) (v := ?_) rfl (Or.inl ⟨by rfl, ?hy24⟩) ?ty24
          case hy24 => (intro w hSw; obtain ⟨s0, s1, s2⟩ := hSw; go_simp; all_goals with_reducible rfl)
          simp only [Act.put, J1, J2, J3, J4, J5, J6]
          refine tk (i := 3) (v := undef) rfl (Or.inr ⟨by rfl, rfl⟩) ?_
          simp only [Act.put, J1, J2, J3, J4, J5, J6]
          refine tk (i := 4) (v := undef) rfl (Or.inr ⟨by rfl, rfl⟩) ?_
          simp only [Act.put, J1, J2, J3, J4, J5, J6]
          refine tk (i := 5) (v := undef) rfl (Or.inr ⟨by rfl, rfl⟩) ?_
          simp only [Act.put, J1, J2, J3, J4, J5, J6]
          refine tk (i := 6) (v := undef) rfl (Or.inr ⟨by rfl, rfl⟩) ?_
          simp only [Act.put, J1, J2, J3, J4, J5, J6]
          refine tk (i := 7) (v := undef) rfl (Or.inr ⟨by rfl, rfl⟩) ?_
          simp only [Act.put, J1, J2, J3, J4, J5, J6]
          refine tk (i := 8) (v := undef) rfl (Or.inr ⟨by rfl, rfl⟩) ?_
          simp only [Act.put, J1, J2, J3, J4, J5, J6]
          refine tk (i := 9) (v := undef) rfl (Or.inr ⟨by rfl, rfl⟩) ?_
          simp only [Act.put, J1, J2, J3, J4, J5, J6]
          refine tk (i := 10) (v := undef) rfl (Or.inr ⟨by rfl, rfl⟩) ?_
          simp only [Act.put, J1, J2, J3, J4, J5, J6]
          refine tk (i := 11) (v := undef) rfl (Or.inr ⟨by rfl, rfl⟩) ?_
          simp only [Act.put, J1, J2, J3, J4, J5, J6]
          refine tk (i := 12) (v := undef) rfl (Or.inr ⟨by rfl, rfl⟩) ?_
          simp only [Act.put, J1, J2, J3, J4, J5, J6]
          refine tk (i := 13) (v := undef) rfl (Or.inr ⟨by rfl, rfl⟩) ?_
          simp only [Act.put, J1, J2, J3, J4, J5, J6]
          refine tk (i := 14) (v := undef) rfl (Or.inr ⟨by rfl, rfl⟩) ?_
          simp only [Act.put, J1, J2, J3, J4, J5, J6]
          refine tk (i := 15) (v := undef) rfl (Or.inr ⟨by rfl, rfl⟩) ?_
          simp only [Act.put, J1, J2, J3, J4, J5, J6]
          refine tk (i := 16) (v := undef) rfl (Or.inr ⟨by rfl, rfl⟩) ?_
          simp only [Act.put, J1, J2, J3, J4, J5, J6]
          refine tk (i := 17) (v := undef) rfl (Or.inr ⟨by rfl, rfl⟩) ?_
          simp only [Act.put, J1, J2, J3, J4, J5, J6]
          refine tk (i := 18) (v := undef) rfl (Or.inr ⟨by rfl, rfl⟩) ?_
          simp only [Act.put, J1, J2, J3, J4, J5, J6]
          refine tk (i := 19) (v := undef) rfl (Or.inr ⟨by rfl, rfl⟩) ?_
          simp only [Act.put, J1, J2, J3, J4, J5, J6]
          refine tk (i := 20) (v := undef) rfl (Or.inr ⟨by rfl, rfl⟩) ?_
          simp only [Act.put, J1, J2, J3, J4, J5, J6]
          refine tk (i := 21) (v := .bool false) rfl (Or.inl ⟨by rfl, ?hy25⟩) ?ty25
          case hy25 => (intro w hSw; obtain ⟨s0, s1, s2⟩ := hSw; go_simp; first | (all_goals with_reducible rfl) | (rw [Go.IntWalk.i64_left, Go.IntWalk.wrap64_in _ (by omega)]) | (simp; omega) | (simp; done))
          simp only [Act.put, J1, J2, J3, J4, J5, J6]
          refine tk (i := 22) (v := ?_) rfl (Or.inl ⟨by rfl, ?hy26⟩) ?ty26
          case hy26 => (intro w hSw; obtain ⟨s0, s1, s2⟩ := hSw; go_simp; all_goals with_reducible rfl)
          simp only [Act.put, J1, J2, J3, J4, J5, J6]
          refine tk (i := 23) (v := ?_) rfl (Or.inl ⟨by rfl, ?hy27⟩) ?ty27
          case hy27 => (intro w hSw; obtain ⟨s0, s1, s2⟩ := hSw; go_simp; all_goals with_reducible rfl)
          simp only [Act.put, J1, J2, J3, J4, J5, J6]
          refine tk (i := 24) (v := ?_) rfl (Or.inl ⟨by rfl, ?hy28⟩) ?ty28
          case hy28 => (intro w hSw; obtain ⟨s0, s1, s2⟩ := hSw; go_simp; all_goals with_reducible rfl)
          simp only [Act.put, J1, J2, J3, J4, J5, J6]
          refine tk (i := 25) (v := ?_) rfl (Or.inl ⟨by rfl, ?hy29⟩) ?ty29
          case hy29 => (intro w hSw; obtain ⟨s0, s1, s2⟩ := hSw; go_simp; all_goals with_reducible rfl)
          simp only [Act.put, J1, J2, J3, J4, J5, J6]
          refine tk (i := 26) (v := ?_) rfl (Or.inl ⟨by rfl, ?hy30⟩) ?ty30
          case hy30 => (intro w hSw; obtain ⟨s0, s1, s2⟩ := hSw; go_simp; all_goals with_reducible rfl)
          simp only [Act.put, J1, J2, J3, J4, J5, J6]
          refine tk (i := 27) (v := ?_) rfl (Or.inl ⟨by rfl, ?hy31⟩) ?ty31
          case hy31 => (intro w hSw; obtain ⟨s0, s1, s2⟩ := hSw; go_simp; all_goals with_reducible rfl)
          simp only [Act.put, J1, J2, J3, J4, J5, J6]
          refine tk (i := 28) (v := ?_) rfl (Or.inl ⟨by rfl, ?hy32⟩) ?ty32
          case hy32 => (intro w hSw; obtain ⟨s0, s1, s2⟩ := hSw; go_simp; all_goals with_reducible rfl)
          simp only [Act.put, J1, J2, J3, J4, J5, J6]
          refine tk (i := 29) (v := ?_) rfl (Or.inl ⟨by rfl, ?hy33⟩) ?ty33
          case hy33 => (intro w hSw; obtain ⟨s0, s1, s2⟩ := hSw; go_simp; all_goals with_reducible rfl)
          simp only [Act.put, J1, J2, J3, J4, J5, J6]
          refine tk (i := 30) (v := ?_) rfl (Or.inl ⟨by rfl, ?hy34⟩) ?ty34
          case hy34 => (intro w hSw; obtain ⟨s0, s1, s2⟩ := hSw; go_simp; all_goals with_reducible rfl)
          simp only [Act.put, J1, J2, J3, J4, J5, J6]
          refine tk (i := 31) (v := ?_) rfl (Or.inl ⟨by rfl, ?hy35⟩) ?ty35
          case hy35 => (intro w hSw; obtain ⟨s0, s1, s2⟩ := hSw; go_simp; all_goals with_reducible rfl)
          simp only [Act.put, J1, J2, J3, J4, J5, J6]
          refine tk (i := 32) (v := ?_) rfl (Or.inl ⟨by rfl, ?hy36⟩) ?ty36
          case hy36 => (intro w hSw; obtain ⟨s0, s1, s2⟩ := hSw; go_simp; all_goals with_reducible rfl)
          simp only [Act.put, J1, J2, J3, J4, J5, J6]
          refine tk (i := 33) (v := ?_) rfl (Or.inl ⟨by rfl, ?hy37⟩) ?ty37
          case hy37 => (intro w hSw; obtain ⟨s0, s1, s2⟩ := hSw; go_simp; all_goals with_reducible rfl)
          simp only [Act.put, J1, J2, J3, J4, J5, J6]
          refine tk (i := 34) (v := ?_) rfl (Or.inl ⟨by rfl, ?hy38⟩) ?ty38
          case hy38 => (intro w hSw; obtain ⟨s0, s1, s2⟩ := hSw; go_simp; all_goals with_reducible rfl)
          simp only [Act.put, J1, J2, J3, J4, J5, J6]
          refine tk (i := 35) (v := .bool false) rfl (Or.inl ⟨by rfl, ?hy39⟩) ?ty39
          case hy39 => (intro w hSw; obtain ⟨s0, s1, s2⟩ := hSw; go_simp; first | (all_goals with_reducible rfl) | (rw [Go.IntWalk.i64_left, Go.IntWalk.wrap64_in _ (by omega)]) | (simp; omega) | (simp; done))
          simp only [Act.put, J1, J2, J3, J4, J5, J6]
          refine tk (i := 36) (v := .bool false) rfl (Or.inl ⟨by rfl, ?hy40⟩) ?ty40
          case hy40 => (intro w hSw; obtain ⟨s0, s1, s2⟩ := hSw; go_simp; first | (all_goals with_reducible rfl) | (rw [Go.IntWalk.i64_left, Go.IntWalk.wrap64_in _ (by omega)]) | (simp; omega) | (simp; done))
          simp only [Act.put, J1, J2, J3, J4, J5, J6]
          refine wpAnyH_done (by kernel_rfl) ?_ _
          clear hHeld
          go_wp2
          go_roundw
          case rel => exact ⟨0 + 1, by omega, by go_num, HRR.out HM.out, hbel2.trans ((Below.refl _ _).drew)⟩
          case measure => simp [intOf]; omega
        ·have hkz : (0 : Int) < (k : Int) := by omega
         obtain ⟨j, rfl⟩ : ∃ j, k = j + 1 := ⟨k - 1, by omega⟩
         have hpj := HPV.out j rfl
         obtain ⟨-, ⟨d0, -⟩, -⟩ := hcell j (by omega)
         have f0 := (hb2.cell (p := ⟨g, off + j * 4, none⟩) hglt).trans d0
         rw [hpj] at HST
         have hj1 : j + 1 < n := hkn
         have hj1' : (j : Int) + 1 < (n : Int) := by omega
         have hj0 : j < n := by omega
         have hj2 : (0 : Int) ≤ (j : Int) + 1 := by omega
         have hj0' : (j : Int) < (n : Int) := by omega
         clear HP0 HPV hpj hcell d0
         generalize (nthM l (j + 1)).u = yu at *
         generalize (nthM l j).u = pu at *
         by_cases hp : yu ≤ pu
         ·have HM : Hid (r = 1) := HST.out.trans (by simp [hp])
          clear HST
          go_wp2_with fail
          refine wp_region_held_drew (S := fun w' => w'.cell? ⟨g0, o + 2, none⟩ = some (.int .i64 x) ∧ w'.cell? ⟨g0, o + 3, none⟩ = some (.slice (some ⟨g, off, none⟩) n cap) ∧ w'.cell? ⟨g, off + (j + 1) * 4, none⟩ = some (.int .i64 yu) ∧ w'.cell? ⟨g, off + j * 4, none⟩ = some (.int .i64 pu)) (by kernel_rfl) ?hS41 (fun hHeld => ?_)
          case hS41 => exact ⟨c2, c3, e0, f0⟩
          refine tk (i := 0) (v := ?_) rfl (Or.inl ⟨by rfl, ?hy42⟩) ?ty42
          case hy42 => (intro w hSw; obtain ⟨s0, s1, s2, s3⟩ := hSw; go_simp; all_goals with_reducible rfl)
          simp only [Act.put, J1, J2, J4, J5, J6]
          refine tk (i := 1) (v := .bool true) rfl (Or.inl ⟨by rfl, ?hy43⟩) ?ty43
          case hy43 => (intro w hSw; obtain ⟨s0, s1, s2, s3⟩ := hSw; go_simp; first | (all_goals with_reducible rfl) | (rw [Go.IntWalk.i64_left, Go.IntWalk.wrap64_in _ (by omega)]) | (simp; omega) | (simp; done))
          simp only [Act.put, J1, J2, J3, J4, J5, J6]
          refine tk (i := 2) (v := ?_) rfl (Or.inl ⟨by rfl, ?hy44⟩) ?ty44
          case hy44 => (intro w hSw; obtain ⟨s0, s1, s2, s3⟩ := hSw; go_simp; all_goals with_reducible rfl)
          simp only [Act.put, J1, J2, J3, J4, J5, J6]
          refine tk (i := 3) (v := ?_) rfl (Or.inl ⟨by rfl, ?hy45⟩) ?ty45
          case hy45 => (intro w hSw; obtain ⟨s0, s1, s2, s3⟩ := hSw; go_simp; all_goals with_reducible rfl)
          simp only [Act.put, J1, J2, J3, J4, J5, J6]
          refine tk (i := 4) (v := ?_) rfl (Or.inl ⟨by rfl, ?hy46⟩) ?ty46
          case hy46 => (intro w hSw; obtain ⟨s0, s1, s2, s3⟩ := hSw; go_simp; all_goals with_reducible rfl)
          simp only [Act.put, J1, J2, J3, J4, J5, J6]
          refine tk (i := 5) (v := ?_) rfl (Or.inl ⟨by rfl, ?hy47⟩) ?ty47
          case hy47 => (intro w hSw; obtain ⟨s0, s1, s2, s3⟩ := hSw; go_simp; all_goals with_reducible rfl)
          simp only [Act.put, J1, J2, J3, J4, J5, J6]
          refine tk (i := 6) (v := ?_) rfl (Or.inl ⟨by rfl, ?hy48⟩) ?ty48
          case hy48 => (intro w hSw; obtain ⟨s0, s1, s2, s3⟩ := hSw; go_simp; all_goals with_reducible rfl)
          simp only [Act.put, J1, J2, J3, J4, J5, J6]
          refine tk (i := 7) (v := ?_) rfl (Or.inl ⟨by rfl, ?hy49⟩) ?ty49
          case hy49 => (intro w hSw; obtain ⟨s0, s1, s2, s3⟩ := hSw; go_simp; all_goals with_reducible rfl)
          simp only [Act.put, J1, J2, J3, J4, J5, J6]
          refine tk (i := 8) (v := ?_) rfl (Or.inl ⟨by rfl, ?hy50⟩) ?ty50
          case hy50 => (intro w hSw; obtain ⟨s0, s1, s2, s3⟩ := hSw; go_simp; all_goals with_reducible rfl)
          simp only [Act.put, J1, J2, J3, J4, J5, J6]
          refine tk (i := 9) (v := ?_) rfl (Or.inl ⟨by rfl, ?hy51⟩) ?ty51
          case hy51 => (intro w hSw; obtain ⟨s0, s1, s2, s3⟩ := hSw; go_simp; all_goals with_reducible rfl)
          simp only [Act.put, J1, J2, J3, J4, J5, J6]
          refine tk (i := 10) (v := ?_) rfl (Or.inl ⟨by rfl, ?hy52⟩) ?ty52
          case hy52 => (intro w hSw; obtain ⟨s0, s1, s2, s3⟩ := hSw; go_simp; all_goals with_reducible rfl)
          simp only [Act.put, J1, J2, J3, J4, J5, J6]
          refine tk (i := 11) (v := ?_) rfl (Or.inl ⟨by rfl, ?hy53⟩) ?ty53
          case hy53 => (intro w hSw; obtain ⟨s0, s1, s2, s3⟩ := hSw; go_simp; all_goals with_reducible rfl)
          simp only [Act.put, J1, J2, J3, J4, J5, J6]
          refine tk (i := 12) (v := ?_) rfl (Or.inl ⟨by rfl, ?hy54⟩) ?ty54
          case hy54 => (intro w hSw; obtain ⟨s0, s1, s2, s3⟩ := hSw; go_simp; all_goals with_reducible rfl)
          simp only [Act.put, J1, J2, J3, J4, J5, J6]
          refine tk (i := 13) (v := ?_) rfl (Or.inl ⟨by rfl, ?hy55⟩) ?ty55
          case hy55 => (intro w hSw; obtain ⟨s0, s1, s2, s3⟩ := hSw; go_simp; all_goals with_reducible rfl)
          simp only [Act.put, J1, J2, J3, J4, J5, J6]
          refine tk (i := 14) (v := ?_) rfl (Or.inl ⟨by rfl, ?hy56⟩) ?ty56
          case hy56 => (intro w hSw; obtain ⟨s0, s1, s2, s3⟩ := hSw; go_simp; all_goals with_reducible rfl)
          simp only [Act.put, J1, J2, J3, J4, J5, J6]
          refine tk (i := 15) (v := ?_) rfl (Or.inl ⟨by rfl, ?hy57⟩) ?ty57
          case hy57 => (intro w hSw; obtain ⟨s0, s1, s2, s3⟩ := hSw; go_simp; all_goals with_reducible rfl)
          simp only [Act.put, J1, J2, J3, J4, J5, J6]
          refine tk (i := 16) (v := .int .i64 (j : Int)) rfl (Or.inl ⟨by rfl, ?hy58⟩) ?ty58
          case hy58 => (intro w hSw; obtain ⟨s0, s1, s2, s3⟩ := hSw; go_simp; first | (all_goals with_reducible rfl) | (rw [Go.IntWalk.i64_left, Go.IntWalk.wrap64_in _ (by omega)]) | (simp; omega) | (simp; done))
          simp only [Act.put, J1, J2, J3, J4, J5, J6]
          refine tk (i := 17) (v := ?_) rfl (Or.inl ⟨by rfl, ?hy59⟩) ?ty59
          case hy59 => (intro w hSw; obtain ⟨s0, s1, s2, s3⟩ := hSw; go_simp; all_goals with_reducible rfl)
          simp only [Act.put, J1, J2, J3, J4, J5, J6]
          refine tk (i := 18) (v := ?_) rfl (Or.inl ⟨by rfl, ?hy60⟩) ?ty60
          case hy60 => (intro w hSw; obtain ⟨s0, s1, s2, s3⟩ := hSw; go_simp; all_goals with_reducible rfl)
          simp only [Act.put, J1, J2, J3, J4, J5, J6]
          refine tk (i := 19) (v := ?_) rfl (Or.inl ⟨by rfl, ?hy61⟩) ?ty61
          case hy61 => (intro w hSw; obtain ⟨s0, s1, s2, s3⟩ := hSw; go_simp; all_goals with_reducible rfl)
          simp only [Act.put, J1, J2, J3, J4, J5, J6]
          refine tk (i := 20) (v := .bool true) rfl (Or.inl ⟨by rfl, ?hy62⟩) ?ty62
          case hy62 => (intro w hSw; obtain ⟨s0, s1, s2, s3⟩ := hSw; go_simp; first | (all_goals with_reducible rfl) | (rw [Go.IntWalk.i64_left, Go.IntWalk.wrap64_in _ (by omega)]) | (simp; omega) | (simp; done))
          simp only [Act.put, J1, J2, J3, J4, J5, J6]
          refine tk (i := 21) (v := .bool true) rfl (Or.inl ⟨by rfl, ?hy63⟩) ?ty63
          case hy63 => (intro w hSw; obtain ⟨s0, s1, s2, s3⟩ := hSw; go_simp; first | (all_goals with_reducible rfl) | (rw [Go.IntWalk.i64_left, Go.IntWalk.wrap64_in _ (by omega)]) | (simp; omega) | (simp; done))
          simp only [Act.put, J1, J2, J3, J4, J5, J6]
          refine tk (i := 22) (v := ?_) rfl (Or.inl ⟨by rfl, ?hy64⟩) ?ty64
          case hy64 => (intro w hSw; obtain ⟨s0, s1, s2, s3⟩ := hSw; go_simp; all_goals with_reducible rfl)
          simp only [Act.put, J1, J2, J3, J4, J5, J6]
          refine tk (i := 23) (v := undef) rfl (Or.inr ⟨by rfl, rfl⟩) ?_
          simp only [Act.put, J1, J2, J3, J4, J5, J6]
          refine tk (i := 24) (v := undef) rfl (Or.inr ⟨by rfl, rfl⟩) ?_
          simp only [Act.put, J1, J2, J3, J4, J5, J6]
          refine tk (i := 25) (v := undef) rfl (Or.inr ⟨by rfl, rfl⟩) ?_
          simp only [Act.put, J1, J2, J3, J4, J5, J6]
          refine tk (i := 26) (v := undef) rfl (Or.inr ⟨by rfl, rfl⟩) ?_
          simp only [Act.put, J1, J2, J3, J4, J5, J6]
          refine tk (i := 27) (v := undef) rfl (Or.inr ⟨by rfl, rfl⟩) ?_
          simp only [Act.put, J1, J2, J3, J4, J5, J6]
          refine tk (i := 28) (v := undef) rfl (Or.inr ⟨by rfl, rfl⟩) ?_
          simp only [Act.put, J1, J2, J3, J4, J5, J6]
          refine tk (i := 29) (v := undef) rfl (Or.inr ⟨by rfl, rfl⟩) ?_
          simp only [Act.put, J1, J2, J3, J4, J5, J6]
          refine tk (i := 30) (v := undef) rfl (Or.inr ⟨by rfl, rfl⟩) ?_
          simp only [Act.put, J1, J2, J3, J4, J5, J6]
          refine tk (i := 31) (v := undef) rfl (Or.inr ⟨by rfl, rfl⟩) ?_
          simp only [Act.put, J1, J2, J3, J4, J5, J6]
          refine tk (i := 32) (v := undef) rfl (Or.inr ⟨by rfl, rfl⟩) ?_
          simp only [Act.put, J1, J2, J3, J4, J5, J6]
          refine tk (i := 33) (v := undef) rfl (Or.inr ⟨by rfl, rfl⟩) ?_
          simp only [Act.put, J1, J2, J3, J4, J5, J6]
          refine tk (i := 34) (v := undef) rfl (Or.inr ⟨by rfl, rfl⟩) ?_
          simp only [Act.put, J1, J2, J3, J4, J5, J6]
          refine tk (i := 35) (v := undef) rfl (Or.inr ⟨by rfl, rfl⟩) ?_
          simp only [Act.put, J1, J2, J3, J4, J5, J6]
          refine tk (i := 36) (v := .bool true) rfl (Or.inl ⟨by rfl, ?hy65⟩) ?ty65
          case hy65 => (intro w hSw; obtain ⟨s0, s1, s2, s3⟩ := hSw; go_simp; first | (all_goals with_reducible rfl) | (rw [Go.IntWalk.i64_left, Go.IntWalk.wrap64_in _ (by omega)]) | (simp; omega) | (simp; done))
          simp only [Act.put, J1, J2, J3, J4, J5, J6]
          refine wpAnyH_done (by kernel_rfl) ?_ _
          clear hHeld
          go_wp2
          go_ret
          exact ⟨by rw [HM.out]; rfl, hbel2.trans ((Below.refl _ _).drew)⟩
         ·by_cases hx : x ≤ yu
          ·have HM : Hid (r = 1) := HST.out.trans (by simp [hx])
           clear HST
           go_wp2_with fail
           refine wp_region_held_drew (S := fun w' => w'.cell? ⟨g0, o + 2, none⟩ = some (.int .i64 x) ∧ w'.cell? ⟨g0, o + 3, none⟩ = some (.slice (some ⟨g, off, none⟩) n cap) ∧ w'.cell? ⟨g, off + (j + 1) * 4, none⟩ = some (.int .i64 yu) ∧ w'.cell? ⟨g, off + j * 4, none⟩ = some (.int .i64 pu)) (by kernel_rfl) ?hS66 (fun hHeld => ?_)
           case hS66 => exact ⟨c2, c3, e0, f0⟩
           refine tk (i := 0) (v := ?_) rfl (Or.inl ⟨by rfl, ?hy67⟩) ?ty67
           case hy67 => (intro w hSw; obtain ⟨s0, s1, s2, s3⟩ := hSw; go_simp; all_goals with_reducible rfl)
           simp only [Act.put, J1, J2, J4, J5, J6]
           refine tk (i := 1) (v := .bool true) rfl (Or.inl ⟨by rfl, ?hy68⟩) ?ty68
           case hy68 => (intro w hSw; obtain ⟨s0, s1, s2, s3⟩ := hSw; go_simp; first | (all_goals with_reducible rfl) | (rw [Go.IntWalk.i64_left, Go.IntWalk.wrap64_in _ (by omega)]) | (simp; omega) | (simp; done))
           simp only [Act.put, J1, J2, J3, J4, J5, J6]
           refine tk (i := 2) (v := ?_) rfl (Or.inl ⟨by rfl, ?hy69⟩) ?ty69
           case hy69 => (intro w hSw; obtain ⟨s0, s1, s2, s3⟩ := hSw; go_simp; all_goals with_reducible rfl)
           simp only [Act.put, J1, J2, J3, J4, J5, J6]
           refine tk (i := 3) (v := ?_) rfl (Or.inl ⟨by rfl, ?hy70⟩) ?ty70
           case hy70 => (intro w hSw; obtain ⟨s0, s1, s2, s3⟩ := hSw; go_simp; all_goals with_reducible rfl)
           simp only [Act.put, J1, J2, J3, J4, J5, J6]
           refine tk (i := 4) (v := ?_) rfl (Or.inl ⟨by rfl, ?hy71⟩) ?ty71
           case hy71 => (intro w hSw; obtain ⟨s0, s1, s2, s3⟩ := hSw; go_simp; all_goals with_reducible rfl)
           simp only [Act.put, J1, J2, J3, J4, J5, J6]
           refine tk (i := 5) (v := ?_) rfl (Or.inl ⟨by rfl, ?hy72⟩) ?ty72
           case hy72 => (intro w hSw; obtain ⟨s0, s1, s2, s3⟩ := hSw; go_simp; all_goals with_reducible rfl)
           simp only [Act.put, J1, J2, J3, J4, J5, J6]
           refine tk (i := 6) (v := ?_) rfl (Or.inl ⟨by rfl, ?hy73⟩) ?ty73
           case hy73 => (intro w hSw; obtain ⟨s0, s1, s2, s3⟩ := hSw; go_simp; all_goals with_reducible rfl)
           simp only [Act.put, J1, J2, J3, J4, J5, J6]
           refine tk (i := 7) (v := ?_) rfl (Or.inl ⟨by rfl, ?hy74⟩) ?ty74
           case hy74 => (intro w hSw; obtain ⟨s0, s1, s2, s3⟩ := hSw; go_simp; all_goals with_reducible rfl)
           simp only [Act.put, J1, J2, J3, J4, J5, J6]
           refine tk (i := 8) (v := ?_) rfl (Or.inl ⟨by rfl, ?hy75⟩) ?ty75
           case hy75 => (intro w hSw; obtain ⟨s0, s1, s2, s3⟩ := hSw; go_simp; all_goals with_reducible rfl)
           simp only [Act.put, J1, J2, J3, J4, J5, J6]
           refine tk (i := 9) (v := ?_) rfl (Or.inl ⟨by rfl, ?hy76⟩) ?ty76
           case hy76 => (intro w hSw; obtain ⟨s0, s1, s2, s3⟩ := hSw; go_simp; all_goals with_reducible rfl)
           simp only [Act.put, J1, J2, J3, J4, J5, J6]
           refine tk (i := 10) (v := ?_) rfl (Or.inl ⟨by rfl, ?hy77⟩) ?ty77
           case hy77 => (intro w hSw; obtain ⟨s0, s1, s2, s3⟩ := hSw; go_simp; all_goals with_reducible rfl)
           simp only [Act.put, J1, J2, J3, J4, J5, J6]
           refine tk (i := 11) (v := ?_) rfl (Or.inl ⟨by rfl, ?hy78⟩) ?ty78
           case hy78 => (intro w hSw; obtain ⟨s0, s1, s2, s3⟩ := hSw; go_simp; all_goals with_reducible rfl)
           simp only [Act.put, J1, J2, J3, J4, J5, J6]
           refine tk (i := 12) (v := ?_) rfl (Or.inl ⟨by rfl, ?hy79⟩) ?ty79
           case hy79 => (intro w hSw; obtain ⟨s0, s1, s2, s3⟩ := hSw; go_simp; all_goals with_reducible rfl)
           simp only [Act.put, J1, J2, J3, J4, J5, J6]
           refine tk (i := 13) (v := ?_) rfl (Or.inl ⟨by rfl, ?hy80⟩) ?ty80
           case hy80 => (intro w hSw; obtain ⟨s0, s1, s2, s3⟩ := hSw; go_simp; all_goals with_reducible rfl)
           simp only [Act.put, J1, J2, J3, J4, J5, J6]
           refine tk (i := 14) (v := ?_) rfl (Or.inl ⟨by rfl, ?hy81⟩) ?ty81
           case hy81 => (intro w hSw; obtain ⟨s0, s1, s2, s3⟩ := hSw; go_simp; all_goals with_reducible rfl)
           simp only [Act.put, J1, J2, J3, J4, J5, J6]
           refine tk (i := 15) (v := ?_) rfl (Or.inl ⟨by rfl, ?hy82⟩) ?ty82
           case hy82 => (intro w hSw; obtain ⟨s0, s1, s2, s3⟩ := hSw; go_simp; all_goals with_reducible rfl)
           simp only [Act.put, J1, J2, J3, J4, J5, J6]
           refine tk (i := 16) (v := .int .i64 (j : Int)) rfl (Or.inl ⟨by rfl, ?hy83⟩) ?ty83
           case hy83 => (intro w hSw; obtain ⟨s0, s1, s2, s3⟩ := hSw; go_simp; first | (all_goals with_reducible rfl) | (rw [Go.IntWalk.i64_left, Go.IntWalk.wrap64_in _ (by omega)]) | (simp; omega) | (simp; done))
           simp only [Act.put, J1, J2, J3, J4, J5, J6]
           refine tk (i := 17) (v := ?_) rfl (Or.inl ⟨by rfl, ?hy84⟩) ?ty84
           case hy84 => (intro w hSw; obtain ⟨s0, s1, s2, s3⟩ := hSw; go_simp; all_goals with_reducible rfl)
           simp only [Act.put, J1, J2, J3, J4, J5, J6]
           refine tk (i := 18) (v := ?_) rfl (Or.inl ⟨by rfl, ?hy85⟩) ?ty85
           case hy85 => (intro w hSw; obtain ⟨s0, s1, s2, s3⟩ := hSw; go_simp; all_goals with_reducible rfl)
           simp only [Act.put, J1, J2, J3, J4, J5, J6]
           refine tk (i := 19) (v := ?_) rfl (Or.inl ⟨by rfl, ?hy86⟩) ?ty86
           case hy86 => (intro w hSw; obtain ⟨s0, s1, s2, s3⟩ := hSw; go_simp; all_goals with_reducible rfl)
           simp only [Act.put, J1, J2, J3, J4, J5, J6]
           refine tk (i := 20) (v := .bool false) rfl (Or.inl ⟨by rfl, ?hy87⟩) ?ty87
           case hy87 => (intro w hSw; obtain ⟨s0, s1, s2, s3⟩ := hSw; go_simp; first | (all_goals with_reducible rfl) | (rw [Go.IntWalk.i64_left, Go.IntWalk.wrap64_in _ (by omega)]) | (simp; omega) | (simp; done))
           simp only [Act.put, J1, J2, J3, J4, J5, J6]
           refine tk (i := 21) (v := .bool false) rfl (Or.inl ⟨by rfl, ?hy88⟩) ?ty88
           case hy88 => (intro w hSw; obtain ⟨s0, s1, s2, s3⟩ := hSw; go_simp; first | (all_goals with_reducible rfl) | (rw [Go.IntWalk.i64_left, Go.IntWalk.wrap64_in _ (by omega)]) | (simp; omega) | (simp; done))
           simp only [Act.put, J1, J2, J3, J4, J5, J6]
           refine tk (i := 22) (v := ?_) rfl (Or.inl ⟨by rfl, ?hy89⟩) ?ty89
           case hy89 => (intro w hSw; obtain ⟨s0, s1, s2, s3⟩ := hSw; go_simp; all_goals with_reducible rfl)
           simp only [Act.put, J1, J2, J3, J4, J5, J6]
           refine tk (i := 23) (v := ?_) rfl (Or.inl ⟨by rfl, ?hy90⟩) ?ty90
           case hy90 => (intro w hSw; obtain ⟨s0, s1, s2, s3⟩ := hSw; go_simp; all_goals with_reducible rfl)
           simp only [Act.put, J1, J2, J3, J4, J5, J6]
           refine tk (i := 24) (v := ?_) rfl (Or.inl ⟨by rfl, ?hy91⟩) ?ty91
           case hy91 => (intro w hSw; obtain ⟨s0, s1, s2, s3⟩ := hSw; go_simp; all_goals with_reducible rfl)
           simp only [Act.put, J1, J2, J3, J4, J5, J6]
           refine tk (i := 25) (v := ?_) rfl (Or.inl ⟨by rfl, ?hy92⟩) ?ty92
           case hy92 => (intro w hSw; obtain ⟨s0, s1, s2, s3⟩ := hSw; go_simp; all_goals with_reducible rfl)
           simp only [Act.put, J1, J2, J3, J4, J5, J6]
           refine tk (i := 26) (v := ?_) rfl (Or.inl ⟨by rfl, ?hy93⟩) ?ty93
           case hy93 => (intro w hSw; obtain ⟨s0, s1, s2, s3⟩ := hSw; go_simp; all_goals with_reducible rfl)
           simp only [Act.put, J1, J2, J3, J4, J5, J6]
           refine tk (i := 27) (v := ?_) rfl (Or.inl ⟨by rfl, ?hy94⟩) ?ty94
           case hy94 => (intro w hSw; obtain ⟨s0, s1, s2, s3⟩ := hSw; go_simp; all_goals with_reducible rfl)
           simp only [Act.put, J1, J2, J3, J4, J5, J6]
           refine tk (i := 28) (v := ?_) rfl (Or.inl ⟨by rfl, ?hy95⟩) ?ty95
           case hy95 => (intro w hSw; obtain ⟨s0, s1, s2, s3⟩ := hSw; go_simp; all_goals with_reducible rfl)
           simp only [Act.put, J1, J2, J3, J4, J5, J6]
           refine tk (i := 29) (v := ?_) rfl (Or.inl ⟨by rfl, ?hy96⟩) ?ty96
           case hy96 => (intro w hSw; obtain ⟨s0, s1, s2, s3⟩ := hSw; go_simp; all_goals with_reducible rfl)
           simp only [Act.put, J1, J2, J3, J4, J5, J6]
           refine tk (i := 30) (v := ?_) rfl (Or.inl ⟨by rfl, ?hy97⟩) ?ty97
           case hy97 => (intro w hSw; obtain ⟨s0, s1, s2, s3⟩ := hSw; go_simp; all_goals with_reducible rfl)
           simp only [Act.put, J1, J2, J3, J4, J5, J6]
           refine tk (i := 31) (v := ?_) rfl (Or.inl ⟨by rfl, ?hy98⟩) ?ty98
           case hy98 => (intro w hSw; obtain ⟨s0, s1, s2, s3⟩ := hSw; go_simp; all_goals with_reducible rfl)
           simp only [Act.put, J1, J2, J3, J4, J5, J6]
           refine tk (i := 32) (v := ?_) rfl (Or.inl ⟨by rfl, ?hy99⟩) ?ty99
           case hy99 => (intro w hSw; obtain ⟨s0, s1, s2, s3⟩ := hSw; go_simp; all_goals with_reducible rfl)
           simp only [Act.put, J1, J2, J3, J4, J5, J6]
           refine tk (i := 33) (v := ?_) rfl (Or.inl ⟨by rfl, ?hy100⟩) ?ty100
           case hy100 => (intro w hSw; obtain ⟨s0, s1, s2, s3⟩ := hSw; go_simp; all_goals with_reducible rfl)
           simp only [Act.put, J1, J2, J3, J4, J5, J6]
           refine tk (i := 34) (v := ?_) rfl (Or.inl ⟨by rfl, ?hy101⟩) ?ty101
           case hy101 => (intro w hSw; obtain ⟨s0, s1, s2, s3⟩ := hSw; go_simp; all_goals with_reducible rfl)
           simp only [Act.put, J1, J2, J3, J4, J5, J6]
           refine tk (i := 35) (v := .bool true) rfl (Or.inl ⟨by rfl, ?hy102⟩) ?ty102
           case hy102 => (intro w hSw; obtain ⟨s0, s1, s2, s3⟩ := hSw; go_simp; first | (all_goals with_reducible rfl) | (rw [Go.IntWalk.i64_left, Go.IntWalk.wrap64_in _ (by omega)]) | (simp; omega) | (simp; done))
           simp only [Act.put, J1, J2, J3, J4, J5, J6]
           refine tk (i := 36) (v := .bool true) rfl (Or.inl ⟨by rfl, ?hy103⟩) ?ty103
           case hy103 => (intro w hSw; obtain ⟨s0, s1, s2, s3⟩ := hSw; go_simp; first | (all_goals with_reducible rfl) | (rw [Go.IntWalk.i64_left, Go.IntWalk.wrap64_in _ (by omega)]) | (simp; omega) | (simp; done))
           simp only [Act.put, J1, J2, J3, J4, J5, J6]
           refine wpAnyH_done (by kernel_rfl) ?_ _
           clear hHeld
           go_wp2
           go_ret
           exact ⟨by rw [HM.out]; rfl, hbel2.trans ((Below.refl _ _).drew)⟩
          ·have HM : Hid (r = rest) := HST.out.trans (by simp [hx, hp])
           clear HST
           go_wp2_with fail
           refine wp_region_held_drew (S := fun w' => w'.cell? ⟨g0, o + 2, none⟩ = some (.int .i64 x) ∧ w'.cell? ⟨g0, o + 3, none⟩ = some (.slice (some ⟨g, off, none⟩) n cap) ∧ w'.cell? ⟨g, off + (j + 1) * 4, none⟩ = some (.int .i64 yu) ∧ w'.cell? ⟨g, off + j * 4, none⟩ = some (.int .i64 pu)) (by kernel_rfl) ?hS104 (fun hHeld => ?_)
           case hS104 => exact ⟨c2, c3, e0, f0⟩
           refine tk (i := 0) (v := ?_) rfl (Or.inl ⟨by rfl, ?hy105⟩) ?ty105
           case hy105 => (intro w hSw; obtain ⟨s0, s1, s2, s3⟩ := hSw; go_simp; all_goals with_reducible rfl)
           simp only [Act.put, J1, J2, J4, J5, J6]
           refine tk (i := 1) (v := .bool true) rfl (Or.inl ⟨by rfl, ?hy106⟩) ?ty106
           case hy106 => (intro w hSw; obtain ⟨s0, s1, s2, s3⟩ := hSw; go_simp; first | (all_goals with_reducible rfl) | (rw [Go.IntWalk.i64_left, Go.IntWalk.wrap64_in _ (by omega)]) | (simp; omega) | (simp; done))
           simp only [Act.put, J1, J2, J3, J4, J5, J6]
           refine tk (i := 2) (v := ?_) rfl (Or.inl ⟨by rfl, ?hy107⟩) ?ty107
           case hy107 => (intro w hSw; obtain ⟨s0, s1, s2, s3⟩ := hSw; go_simp; all_goals with_reducible rfl)
           simp only [Act.put, J1, J2, J3, J4, J5, J6]
           refine tk (i := 3) (v := ?_) rfl (Or.inl ⟨by rfl, ?hy108⟩) ?ty108
           case hy108 => (intro w hSw; obtain ⟨s0, s1, s2, s3⟩ := hSw; go_simp; all_goals with_reducible rfl)
           simp only [Act.put, J1, J2, J3, J4, J5, J6]
           refine tk (i := 4) (v := ?_) rfl (Or.inl ⟨by rfl, ?hy109⟩) ?ty109
           case hy109 => (intro w hSw; obtain ⟨s0, s1, s2, s3⟩ := hSw; go_simp; all_goals with_reducible rfl)
           simp only [Act.put, J1, J2, J3, J4, J5, J6]
           refine tk (i := 5) (v := ?_) rfl (Or.inl ⟨by rfl, ?hy110⟩) ?ty110
           case hy110 => (intro w hSw; obtain ⟨s0, s1, s2, s3⟩ := hSw; go_simp; all_goals with_reducible rfl)
           simp only [Act.put, J1, J2, J3, J4, J5, J6]
           refine tk (i := 6) (v := ?_) rfl (Or.inl ⟨by rfl, ?hy111⟩) ?ty111
           case hy111 => (intro w hSw; obtain ⟨s0, s1, s2, s3⟩ := hSw; go_simp; all_goals with_reducible rfl)
           simp only [Act.put, J1, J2, J3, J4, J5, J6]
           refine tk (i := 7) (v := ?_) rfl (Or.inl ⟨by rfl, ?hy112⟩) ?ty112
           case hy112 => (intro w hSw; obtain ⟨s0, s1, s2, s3⟩ := hSw; go_simp; all_goals with_reducible rfl)
           simp only [Act.put, J1, J2, J3, J4, J5, J6]
           refine tk (i := 8) (v := ?_) rfl (Or.inl ⟨by rfl, ?hy113⟩) ?ty113
           case hy113 => (intro w hSw; obtain ⟨s0, s1, s2, s3⟩ := hSw; go_simp; all_goals with_reducible rfl)
           simp only [Act.put, J1, J2, J3, J4, J5, J6]
           refine tk (i := 9) (v := ?_) rfl (Or.inl ⟨by rfl, ?hy114⟩) ?ty114
           case hy114 => (intro w hSw; obtain ⟨s0, s1, s2, s3⟩ := hSw; go_simp; all_goals with_reducible rfl)
           simp only [Act.put, J1, J2, J3, J4, J5, J6]
           refine tk (i := 10) (v := ?_) rfl (Or.inl ⟨by rfl, ?hy115⟩) ?ty115
           case hy115 => (intro w hSw; obtain ⟨s0, s1, s2, s3⟩ := hSw; go_simp; all_goals with_reducible rfl)
           simp only [Act.put, J1, J2, J3, J4, J5, J6]
           refine tk (i := 11) (v := ?_) rfl (Or.inl ⟨by rfl, ?hy116⟩) ?ty116
           case hy116 => (intro w hSw; obtain ⟨s0, s1, s2, s3⟩ := hSw; go_simp; all_goals with_reducible rfl)
           simp only [Act.put, J1, J2, J3, J4, J5, J6]
           refine tk (i := 12) (v := ?_) rfl (Or.inl ⟨by rfl, ?hy117⟩) ?ty117
           case hy117 => (intro w hSw; obtain ⟨s0, s1, s2, s3⟩ := hSw; go_simp; all_goals with_reducible rfl)
           simp only [Act.put, J1, J2, J3, J4, J5, J6]
           refine tk (i := 13) (v := ?_) rfl (Or.inl ⟨by rfl, ?hy118⟩) ?ty118
           case hy118 => (intro w hSw; obtain ⟨s0, s1, s2, s3⟩ := hSw; go_simp; all_goals with_reducible rfl)
           simp only [Act.put, J1, J2, J3, J4, J5, J6]
           refine tk (i := 14) (v := ?_) rfl (Or.inl ⟨by rfl, ?hy119⟩) ?ty119
           case hy119 => (intro w hSw; obtain ⟨s0, s1, s2, s3⟩ := hSw; go_simp; all_goals with_reducible rfl)
           simp only [Act.put, J1, J2, J3, J4, J5, J6]
           refine tk (i := 15) (v := ?_) rfl (Or.inl ⟨by rfl, ?hy120⟩) ?ty120
           case hy120 => (intro w hSw; obtain ⟨s0, s1, s2, s3⟩ := hSw; go_simp; all_goals with_reducible rfl)
           simp only [Act.put, J1, J2, J3, J4, J5, J6]
           refine tk (i := 16) (v := .int .i64 (j : Int)) rfl (Or.inl ⟨by rfl, ?hy121⟩) ?ty121
           case hy121 => (intro w hSw; obtain ⟨s0, s1, s2, s3⟩ := hSw; go_simp; first | (all_goals with_reducible rfl) | (rw [Go.IntWalk.i64_left, Go.IntWalk.wrap64_in _ (by omega)]) | (simp; omega) | (simp; done))
           simp only [Act.put, J1, J2, J3, J4, J5, J6]
           refine tk (i := 17) (v := ?_) rfl (Or.inl ⟨by rfl, ?hy122⟩) ?ty122
           case hy122 => (intro w hSw; obtain ⟨s0, s1, s2, s3⟩ := hSw; go_simp; all_goals with_reducible rfl)
           simp only [Act.put, J1, J2, J3, J4, J5, J6]
           refine tk (i := 18) (v := ?_) rfl (Or.inl ⟨by rfl, ?hy123⟩) ?ty123
           case hy123 => (intro w hSw; obtain ⟨s0, s1, s2, s3⟩ := hSw; go_simp; all_goals with_reducible rfl)
           simp only [Act.put, J1, J2, J3, J4, J5, J6]
           refine tk (i := 19) (v := ?_) rfl (Or.inl ⟨by rfl, ?hy124⟩) ?ty124
           case hy124 => (intro w hSw; obtain ⟨s0, s1, s2, s3⟩ := hSw; go_simp; all_goals with_reducible rfl)
           simp only [Act.put, J1, J2, J3, J4, J5, J6]
           refine tk (i := 20) (v := .bool false) rfl (Or.inl ⟨by rfl, ?hy125⟩) ?ty125
           case hy125 => (intro w hSw; obtain ⟨s0, s1, s2, s3⟩ := hSw; go_simp; first | (all_goals with_reducible rfl) | (rw [Go.IntWalk.i64_left, Go.IntWalk.wrap64_in _ (by omega)]) | (simp; omega) | (simp; done))
           simp only [Act.put, J1, J2, J3, J4, J5, J6]
           refine tk (i := 21) (v := .bool false) rfl (Or.inl ⟨by rfl, ?hy126⟩) ?ty126
           case hy126 => (intro w hSw; obtain ⟨s0, s1, s2, s3⟩ := hSw; go_simp; first | (all_goals with_reducible rfl) | (rw [Go.IntWalk.i64_left, Go.IntWalk.wrap64_in _ (by omega)]) | (simp; omega) | (simp; done))
           simp only [Act.put, J1, J2, J3, J4, J5, J6]
           refine tk (i := 22) (v := ?_) rfl (Or.inl ⟨by rfl, ?hy127⟩) ?ty127
           case hy127 => (intro w hSw; obtain ⟨s0, s1, s2, s3⟩ := hSw; go_simp; all_goals with_reducible rfl)
           simp only [Act.put, J1, J2, J3, J4, J5, J6]
           refine tk (i := 23) (v := ?_) rfl (Or.inl ⟨by rfl, ?hy128⟩) ?ty128
           case hy128 => (intro w hSw; obtain ⟨s0, s1, s2, s3⟩ := hSw; go_simp; all_goals with_reducible rfl)
           simp only [Act.put, J1, J2, J3, J4, J5, J6]
           refine tk (i := 24) (v := ?_) rfl (Or.inl ⟨by rfl, ?hy129⟩) ?ty129
           case hy129 => (intro w hSw; obtain ⟨s0, s1, s2, s3⟩ := hSw; go_simp; all_goals with_reducible rfl)
           simp only [Act.put, J1, J2, J3, J4, J5, J6]
           refine tk (i := 25) (v := ?_) rfl (Or.inl ⟨by rfl, ?hy130⟩) ?ty130
           case hy130 => (intro w hSw; obtain ⟨s0, s1, s2, s3⟩ := hSw; go_simp; all_goals with_reducible rfl)
           simp only [Act.put, J1, J2, J3, J4, J5, J6]
           refine tk (i := 26) (v := ?_) rfl (Or.inl ⟨by rfl, ?hy131⟩) ?ty131
           case hy131 => (intro w hSw; obtain ⟨s0, s1, s2, s3⟩ := hSw; go_simp; all_goals with_reducible rfl)
           simp only [Act.put, J1, J2, J3, J4, J5, J6]
           refine tk (i := 27) (v := ?_) rfl (Or.inl ⟨by rfl, ?hy132⟩) ?ty132
           case hy132 => (intro w hSw; obtain ⟨s0, s1, s2, s3⟩ := hSw; go_simp; all_goals with_reducible rfl)
           simp only [Act.put, J1, J2, J3, J4, J5, J6]
           refine tk (i := 28) (v := ?_) rfl (Or.inl ⟨by rfl, ?hy133⟩) ?ty133
           case hy133 => (intro w hSw; obtain ⟨s0, s1, s2, s3⟩ := hSw; go_simp; all_goals with_reducible rfl)
           simp only [Act.put, J1, J2, J3, J4, J5, J6]
           refine tk (i := 29) (v := ?_) rfl (Or.inl ⟨by rfl, ?hy134⟩) ?ty134
           case hy134 => (intro w hSw; obtain ⟨s0, s1, s2, s3⟩ := hSw; go_simp; all_goals with_reducible rfl)
           simp only [Act.put, J1, J2, J3, J4, J5, J6]
           refine tk (i := 30) (v := ?_) rfl (Or.inl ⟨by rfl, ?hy135⟩) ?ty135
           case hy135 => (intro w hSw; obtain ⟨s0, s1, s2, s3⟩ := hSw; go_simp; all_goals with_reducible rfl)
           simp only [Act.put, J1, J2, J3, J4, J5, J6]
           refine tk (i := 31) (v := ?_) rfl (Or.inl ⟨by rfl, ?hy136⟩) ?ty136
           case hy136 => (intro w hSw; obtain ⟨s0, s1, s2, s3⟩ := hSw; go_simp; all_goals with_reducible rfl)
           simp only [Act.put, J1, J2, J3, J4, J5, J6]
           refine tk (i := 32) (v := ?_) rfl (Or.inl ⟨by rfl, ?hy137⟩) ?ty137
           case hy137 => (intro w hSw; obtain ⟨s0, s1, s2, s3⟩ := hSw; go_simp; all_goals with_reducible rfl)
           simp only [Act.put, J1, J2, J3, J4, J5, J6]
           refine tk (i := 33) (v := ?_) rfl (Or.inl ⟨by rfl, ?hy138⟩) ?ty138
           case hy138 => (intro w hSw; obtain ⟨s0, s1, s2, s3⟩ := hSw; go_simp; all_goals with_reducible rfl)
           simp only [Act.put, J1, J2, J3, J4, J5, J6]
           refine tk (i := 34) (v := ?_) rfl (Or.inl ⟨by rfl, ?hy139⟩) ?ty139
           case hy139 => (intro w hSw; obtain ⟨s0, s1, s2, s3⟩ := hSw; go_simp; all_goals with_reducible rfl)
           simp only [Act.put, J1, J2, J3, J4, J5, J6]
           refine tk (i := 35) (v := .bool false) rfl (Or.inl ⟨by rfl, ?hy140⟩) ?ty140
           case hy140 => (intro w hSw; obtain ⟨s0, s1, s2, s3⟩ := hSw; go_simp; first | (all_goals with_reducible rfl) | (rw [Go.IntWalk.i64_left, Go.IntWalk.wrap64_in _ (by omega)]) | (simp; omega) | (simp; done))
           simp only [Act.put, J1, J2, J3, J4, J5, J6]
           refine tk (i := 36) (v := .bool false) rfl (Or.inl ⟨by rfl, ?hy141⟩) ?ty141
           case hy141 => (intro w hSw; obtain ⟨s0, s1, s2, s3⟩ := hSw; go_simp; first | (all_goals with_reducible rfl) | (rw [Go.IntWalk.i64_left, Go.IntWalk.wrap64_in _ (by omega)]) | (simp; omega) | (simp; done))
           simp only [Act.put, J1, J2, J3, J4, J5, J6]
           refine wpAnyH_done (by kernel_rfl) ?_ _
           clear hHeld
           go_wp2
           go_roundw
           case rel => exact ⟨j + 1 + 1, by omega, by go_num, HRR.out HM.out, hbel2.trans ((Below.refl _ _).drew)⟩
           case measure => simp [intOf]; omega
       ·have HM : Hid (r = c) := HST.out.trans (by simp [hc])
        clear HST
        go_wp2
        go_ret
        exact ⟨by rw [HM.out]; rfl, hbel2⟩
      ·have hki : ¬ (k : Int) < (n : Int) := by omega
       have HM : Hid (r = 0) := HR.out.trans (bmV_end x _ l k (by omega))
       clear HR
       go_wp2
       go_ret
       exact ⟨by rw [HM.out]; rfl, hbel⟩
end Go.Proofs.YtmidjgpegdodcaaDoor
