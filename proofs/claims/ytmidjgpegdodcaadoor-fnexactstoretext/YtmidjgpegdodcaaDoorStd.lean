/- The fault of a store: the model's side; no conditions beyond those that each fact names. -/
import Derived.Test.YtmidjgpegdodcaaDoorStc
import Derived.Test.YtmidjgpegdodcaaDoorTkw
namespace Go.Proofs.YtmidjgpegdodcaaDoor
open Go.RowKit List

set_option maxHeartbeats 6400000 in
set_option maxRecDepth 100000 in
theorem l7Fault_any (v : Int) (s : SlQ) (l : List Bx) (g0 : Nat) {lo : Nat} (w : World) (hs : IsXs lo w s l) (hf : FtXs l) (hD : Dc w g0 (.int .i64 v, slW s)) :
  Calls Tryd.prog 11 #[.pointer (some ⟨g0, 0, none⟩)] w fun e w' => e = .returned (.int .i64 (stV v l)) ∧ Below w.heap.size w w' := by
 have HV : Hid (stV v l = if bt v 1 1000 = true then (if 3 < s.2.1 then 2 else sxV v l s.2.1 0) else 3) := by show _ = _; unfold stV; rw [hs.1]
 generalize stV v l = r at *
 obtain ⟨a, n, cap⟩ := s
 dsimp only [slW] at *
 obtain ⟨hl, hnc, hcm, hr⟩ := hs
 dsimp only at hl hnc hcm hr
 unfold maxLen at hcm
 obtain ⟨c0, c1⟩ := id hD
 dsimp only at c0 c1
 go_enter Tryd.func11, Tryd.ntmps11
 cases h0 : bt v 1 1000 with
 | false =>
  have HM : Hid (r = 3) := HV.out.trans (by simp [h0])
  clear HV
  go_wp2_with (first | (go_at_call 19; refine (l1In_bt _ _ _ _).mono ?_; rintro e w' ⟨rfl, rfl⟩))
  go_ret
  exact ⟨by rw [HM.out]; rfl, Below.refl _ _⟩
 | true =>
  by_cases h3 : 3 < n
  ·have h3' : (3 : Int) < (n : Int) := by omega
   have HM : Hid (r = 2) := HV.out.trans (by simp [h0, h3])
   clear HV
   go_wp2_with (first | (go_at_call 19; refine (l1In_bt _ _ _ _).mono ?_; rintro e w' ⟨rfl, rfl⟩))
   go_ret
   exact ⟨by rw [HM.out]; rfl, Below.refl _ _⟩
  ·have h3' : ¬ (3 : Int) < (n : Int) := by omega
   have HM : Hid (r = sxV v l (n - 0) 0) := HV.out.trans (by simp [h0, h3])
   clear HV
   go_wp2_with (first | (go_at_call 19; refine (l1In_bt _ _ _ _).mono ?_; rintro e w' ⟨rfl, rfl⟩))
   go_loopw [3] (fun q wr => ∃ i : Nat, i ≤ n ∧ q = .int .i64 i ∧ Hid (r = sxV v l (n - i) i) ∧ Below w.heap.size w wr) (fun q _ => n - (intOf q).toNat)
   case atStart => exact ⟨0, Nat.zero_le _, rfl, HM, Below.refl _ _⟩
   case round =>
    obtain ⟨i, hi, rfl, HR, hbel⟩ := hrel
    clear HM c0 c1
    obtain ⟨c0, c1⟩ := hD.below hbel hD.lt
    dsimp only at c0 c1
    by_cases hin : i < n
    ·have hii : (i : Int) < (n : Int) := by omega
     obtain ⟨g, off, rfl, -, hglt, hcell⟩ := (hr.below hbel).at_ (by omega)
     obtain ⟨q, ⟨d0, d1, d2, d3⟩, hIq⟩ := hcell i (by omega)
     have HCB := l7Box_any (nthX l i) q g (off + i * 4) wr hIq (hf.2 i (by omega)).1 d0 d1 d2 d3
     have HST : Hid (r = if sbE v l i = 0 then sxV v l (n - (i + 1)) (i + 1) else sbE v l i) := HR.out.trans (sxV_step v l n i hin)
     clear HR hcell hIq
     obtain ⟨rest, hrest⟩ : ∃ z, sxV v l (n - (i + 1)) (i + 1) = z := ⟨_, rfl⟩
     have HRR : Hid (r = rest → Hid (r = sxV v l (n - (i + 1)) (i + 1))) := fun h => h.trans hrest.symm
     rw [hrest] at HST
     clear hrest
     have H9 : Hid (bfV (nthX l i) = 0 → v ≤ (nthX l i).v → r = 9) := fun h1 h2 => by
      have e : sbE v l i = 9 := by unfold sbE; rw [if_pos h1, if_pos h2]
      rw [HST.out, e]; rfl
     have HBX : Hid (bfV (nthX l i) ≠ 0 → r = bfV (nthX l i)) := fun h1 => by
      have e : sbE v l i = bfV (nthX l i) := by unfold sbE; rw [if_neg h1]
      rw [HST.out, e, if_neg h1]
     have H6 : Hid (bfV (nthX l i) = 0 → ¬ v ≤ (nthX l i).v → ∀ k, k < i → tkB l i k = true → r = 6) := fun h1 h2 k hk ht => by
      have hx : 0 ≤ ixG i (tkB l i) := by
       rcases ixG_cases i (tkB l i) with ⟨-, hno⟩ | ⟨j, -, e, -⟩
       ·rw [hno k hk] at ht; cases ht
       ·rw [e]; omega
      have e : sbE v l i = 6 := by unfold sbE; rw [if_pos h1, if_neg h2, if_pos hx]
      rw [HST.out, e]; rfl
     have H0 : Hid (bfV (nthX l i) = 0 → ¬ v ≤ (nthX l i).v → (∀ k, k < i → tkB l i k = false) → r = rest) := fun h1 h2 hall => by
      have e : sbE v l i = 0 := by unfold sbE; rw [if_pos h1, if_neg h2, if_neg (by rw [ixG_no hall]; omega)]
      rw [HST.out, e]; rfl
     have HTK : Hid (∀ k, tkB l i k = decide ((nthX l k).n = (nthX l i).n ∨ (nthX l k).v = (nthX l i).v)) := fun k => rfl
     clear HST
     generalize hyn : (nthX l i).n = yn at *
     generalize hyv : (nthX l i).v = yv at *
     clear hyn hyv
     generalize bfV (nthX l i) = c at *
     go_wp2_with fail
     refine HCB.mono ?_
     rintro e w2 ⟨rfl, hb2⟩
     have hbel2 := hbel.trans (hb2.mono hbel.size)
     have d0 := (hb2.cell (p := ⟨g, off + i * 4, none⟩) hglt).trans d0
     have d1 := (hb2.cell (p := ⟨g, off + i * 4 + 1, none⟩) hglt).trans d1
     clear HCB hb2 c0 c1 d2 d3
     obtain ⟨c0, c1⟩ := hD.below hbel2 hD.lt
     dsimp only at c0 c1
     by_cases hc : c = 0
     ·subst hc
      by_cases hv : v ≤ yv
      ·have HM : Hid (r = 9) := H9.out (by trivial) hv
       clear H9 HBX H6 H0 HTK HRR
       go_wp2_with fail
       refine wp_region_held_drew (S := fun w' => w'.cell? ⟨g0, 0, none⟩ = some (.int .i64 v) ∧ w'.cell? ⟨g0, 1, none⟩ = some (.slice (some ⟨g, off, none⟩) n cap) ∧ w'.cell? ⟨g, off + i * 4 + 1, none⟩ = some (.int .i64 yv)) (by kernel_rfl) ?hS1 (fun hHeld => ?_)
       case hS1 => exact ⟨c0, c1, d1⟩
       refine tk (i := 0) (v := ?_) rfl (Or.inl ⟨by rfl, ?hy2⟩) ?ty2
       case hy2 => (intro w hSw; obtain ⟨s0, s1, s2⟩ := hSw; go_simp; all_goals with_reducible rfl)
       simp only [Act.put, J1, J2, J4, J5, J6]
       refine tk (i := 1) (v := ?_) rfl (Or.inl ⟨by rfl, ?hy3⟩) ?ty3
       case hy3 => (intro w hSw; obtain ⟨s0, s1, s2⟩ := hSw; go_simp; all_goals with_reducible rfl)
       simp only [Act.put, J1, J2, J3, J4, J5, J6]
       refine tk (i := 2) (v := ?_) rfl (Or.inl ⟨by rfl, ?hy4⟩) ?ty4
       case hy4 => (intro w hSw; obtain ⟨s0, s1, s2⟩ := hSw; go_simp; all_goals with_reducible rfl)
       simp only [Act.put, J1, J2, J3, J4, J5, J6]
       refine tk (i := 3) (v := ?_) rfl (Or.inl ⟨by rfl, ?hy5⟩) ?ty5
       case hy5 => (intro w hSw; obtain ⟨s0, s1, s2⟩ := hSw; go_simp; all_goals with_reducible rfl)
       simp only [Act.put, J1, J2, J3, J4, J5, J6]
       refine tk (i := 4) (v := ?_) rfl (Or.inl ⟨by rfl, ?hy6⟩) ?ty6
       case hy6 => (intro w hSw; obtain ⟨s0, s1, s2⟩ := hSw; go_simp; all_goals with_reducible rfl)
       simp only [Act.put, J1, J2, J3, J4, J5, J6]
       refine tk (i := 5) (v := ?_) rfl (Or.inl ⟨by rfl, ?hy7⟩) ?ty7
       case hy7 => (intro w hSw; obtain ⟨s0, s1, s2⟩ := hSw; go_simp; all_goals with_reducible rfl)
       simp only [Act.put, J1, J2, J3, J4, J5, J6]
       refine tk (i := 6) (v := ?_) rfl (Or.inl ⟨by rfl, ?hy8⟩) ?ty8
       case hy8 => (intro w hSw; obtain ⟨s0, s1, s2⟩ := hSw; go_simp; all_goals with_reducible rfl)
       simp only [Act.put, J1, J2, J3, J4, J5, J6]
       refine tk (i := 7) (v := ?_) rfl (Or.inl ⟨by rfl, ?hy9⟩) ?ty9
       case hy9 => (intro w hSw; obtain ⟨s0, s1, s2⟩ := hSw; go_simp; all_goals with_reducible rfl)
       simp only [Act.put, J1, J2, J3, J4, J5, J6]
       refine tk (i := 8) (v := ?_) rfl (Or.inl ⟨by rfl, ?hy10⟩) ?ty10
       case hy10 => (intro w hSw; obtain ⟨s0, s1, s2⟩ := hSw; go_simp; all_goals with_reducible rfl)
       simp only [Act.put, J1, J2, J3, J4, J5, J6]
       refine tk (i := 9) (v := ?_) rfl (Or.inl ⟨by rfl, ?hy11⟩) ?ty11
       case hy11 => (intro w hSw; obtain ⟨s0, s1, s2⟩ := hSw; go_simp; all_goals with_reducible rfl)
       simp only [Act.put, J1, J2, J3, J4, J5, J6]
       refine tk (i := 10) (v := ?_) rfl (Or.inl ⟨by rfl, ?hy12⟩) ?ty12
       case hy12 => (intro w hSw; obtain ⟨s0, s1, s2⟩ := hSw; go_simp; all_goals with_reducible rfl)
       simp only [Act.put, J1, J2, J3, J4, J5, J6]
       refine tk (i := 11) (v := ?_) rfl (Or.inl ⟨by rfl, ?hy13⟩) ?ty13
       case hy13 => (intro w hSw; obtain ⟨s0, s1, s2⟩ := hSw; go_simp; all_goals with_reducible rfl)
       simp only [Act.put, J1, J2, J3, J4, J5, J6]
       refine tk (i := 12) (v := .bool true) rfl (Or.inl ⟨by rfl, ?hy14⟩) ?ty14
       case hy14 => (intro w hSw; obtain ⟨s0, s1, s2⟩ := hSw; go_simp; first | (all_goals with_reducible rfl) | (simp; done) | (simp; omega) | (simp [hnn]))
       simp only [Act.put, J1, J2, J3, J4, J5, J6]
       refine wpAnyH_done (by kernel_rfl) ?_ _
       clear hHeld
       go_wp2
       go_ret
       exact ⟨by rw [HM.out]; rfl, hbel2.trans ((Below.refl _ _).drew)⟩
      ·have H6' : Hid (∀ k, k < i → tkB l i k = true → r = 6) := fun k => H6.out (by trivial) (by omega) k
       have H0' : Hid ((∀ k, k < i → tkB l i k = false) → r = rest) := H0.out (by trivial) (by omega)
       clear H9 HBX H6 H0
       go_wp2_with fail
       refine wp_region_held_drew (S := fun w' => w'.cell? ⟨g0, 0, none⟩ = some (.int .i64 v) ∧ w'.cell? ⟨g0, 1, none⟩ = some (.slice (some ⟨g, off, none⟩) n cap) ∧ w'.cell? ⟨g, off + i * 4 + 1, none⟩ = some (.int .i64 yv)) (by kernel_rfl) ?hS15 (fun hHeld => ?_)
       case hS15 => exact ⟨c0, c1, d1⟩
       refine tk (i := 0) (v := ?_) rfl (Or.inl ⟨by rfl, ?hy16⟩) ?ty16
       case hy16 => (intro w hSw; obtain ⟨s0, s1, s2⟩ := hSw; go_simp; all_goals with_reducible rfl)
       simp only [Act.put, J1, J2, J4, J5, J6]
       refine tk (i := 1) (v := ?_) rfl (Or.inl ⟨by rfl, ?hy17⟩) ?ty17
       case hy17 => (intro w hSw; obtain ⟨s0, s1, s2⟩ := hSw; go_simp; all_goals with_reducible rfl)
       simp only [Act.put, J1, J2, J3, J4, J5, J6]
       refine tk (i := 2) (v := ?_) rfl (Or.inl ⟨by rfl, ?hy18⟩) ?ty18
       case hy18 => (intro w hSw; obtain ⟨s0, s1, s2⟩ := hSw; go_simp; all_goals with_reducible rfl)
       simp only [Act.put, J1, J2, J3, J4, J5, J6]
       refine tk (i := 3) (v := ?_) rfl (Or.inl ⟨by rfl, ?hy19⟩) ?ty19
       case hy19 => (intro w hSw; obtain ⟨s0, s1, s2⟩ := hSw; go_simp; all_goals with_reducible rfl)
       simp only [Act.put, J1, J2, J3, J4, J5, J6]
       refine tk (i := 4) (v := ?_) rfl (Or.inl ⟨by rfl, ?hy20⟩) ?ty20
       case hy20 => (intro w hSw; obtain ⟨s0, s1, s2⟩ := hSw; go_simp; all_goals with_reducible rfl)
       simp only [Act.put, J1, J2, J3, J4, J5, J6]
       refine tk (i := 5) (v := ?_) rfl (Or.inl ⟨by rfl, ?hy21⟩) ?ty21
       case hy21 => (intro w hSw; obtain ⟨s0, s1, s2⟩ := hSw; go_simp; all_goals with_reducible rfl)
       simp only [Act.put, J1, J2, J3, J4, J5, J6]
       refine tk (i := 6) (v := ?_) rfl (Or.inl ⟨by rfl, ?hy22⟩) ?ty22
       case hy22 => (intro w hSw; obtain ⟨s0, s1, s2⟩ := hSw; go_simp; all_goals with_reducible rfl)
       simp only [Act.put, J1, J2, J3, J4, J5, J6]
       refine tk (i := 7) (v := ?_) rfl (Or.inl ⟨by rfl, ?hy23⟩) ?ty23
       case hy23 => (intro w hSw; obtain ⟨s0, s1, s2⟩ := hSw; go_simp; all_goals with_reducible rfl)
       simp only [Act.put, J1, J2, J3, J4, J5, J6]
       refine tk (i := 8) (v := ?_) rfl (Or.inl ⟨by rfl, ?hy24⟩) ?ty24
       case hy24 => (intro w hSw; obtain ⟨s0, s1, s2⟩ := hSw; go_simp; all_goals with_reducible rfl)
       simp only [Act.put, J1, J2, J3, J4, J5, J6]
       refine tk (i := 9) (v := ?_) rfl (Or.inl ⟨by rfl, ?hy25⟩) ?ty25
       case hy25 => (intro w hSw; obtain ⟨s0, s1, s2⟩ := hSw; go_simp; all_goals with_reducible rfl)
       simp only [Act.put, J1, J2, J3, J4, J5, J6]
       refine tk (i := 10) (v := ?_) rfl (Or.inl ⟨by rfl, ?hy26⟩) ?ty26
       case hy26 => (intro w hSw; obtain ⟨s0, s1, s2⟩ := hSw; go_simp; all_goals with_reducible rfl)
       simp only [Act.put, J1, J2, J3, J4, J5, J6]
       refine tk (i := 11) (v := ?_) rfl (Or.inl ⟨by rfl, ?hy27⟩) ?ty27
       case hy27 => (intro w hSw; obtain ⟨s0, s1, s2⟩ := hSw; go_simp; all_goals with_reducible rfl)
       simp only [Act.put, J1, J2, J3, J4, J5, J6]
       refine tk (i := 12) (v := .bool false) rfl (Or.inl ⟨by rfl, ?hy28⟩) ?ty28
       case hy28 => (intro w hSw; obtain ⟨s0, s1, s2⟩ := hSw; go_simp; first | (all_goals with_reducible rfl) | (simp; done) | (simp; omega) | (simp [hnn]))
       simp only [Act.put, J1, J2, J3, J4, J5, J6]
       refine wpAnyH_done (by kernel_rfl) ?_ _
       clear hHeld
       have hbel3 : Below w.heap.size w w2.drew := hbel2.trans ((Below.refl _ _).drew)
       have hr3 := hr.below hbel3
       have d0 : w2.drew.cell? ⟨g, off + i * 4, none⟩ = some (.string yn) := d0
       have d1 : w2.drew.cell? ⟨g, off + i * 4 + 1, none⟩ = some (.int .i64 yv) := d1
       generalize w2.drew = w3 at *
       go_wp2
       go_loopw [5] (fun p wr => ∃ k : Nat, k ≤ i ∧ p = .int .i64 k ∧ (∀ j, j < k → tkB l i j = false) ∧ Below w3.heap.size w3 wr) (fun p _ => i - (intOf p).toNat)
       case atStart => exact ⟨0, Nat.zero_le _, rfl, fun j hj => absurd hj (Nat.not_lt_zero _), Below.refl _ _⟩
       case round =>
        obtain ⟨k, hk, rfl, hall, hbk⟩ := hrel
        have hbel4 := hbel3.trans (hbk.mono hbel3.size)
        have hgl3 : g < w3.heap.size := World.block_lt_of_cell? w3 ⟨g, off + i * 4, none⟩ d0
        have d0 := (hbk.cell (p := ⟨g, off + i * 4, none⟩) hgl3).trans d0
        have d1 := (hbk.cell (p := ⟨g, off + i * 4 + 1, none⟩) hgl3).trans d1
        clear c0 c1
        obtain ⟨c0, c1⟩ := hD.below hbel4 hD.lt
        dsimp only at c0 c1
        by_cases hki : k < i
        ·have hki' : (k : Int) < (i : Int) := by omega
         have hkn : k < n := by omega
         have hkn' : (k : Int) < (n : Int) := by omega
         obtain ⟨g', off', hgg, -, -, hcell⟩ := (hr3.below hbk).at_ (by omega)
         obtain ⟨rfl, rfl⟩ : g = g' ∧ off = off' := by simpa using hgg
         obtain ⟨q', ⟨k0, k1, -, -⟩, -⟩ := hcell k (by omega)
         have HY : Hid ((nthX l k).n = yn ∨ (nthX l k).v = yv → r = 6) := fun h => H6'.out k hki ((HTK.out k).trans (decide_eq_true h))
         have HN : Hid (¬ ((nthX l k).n = yn ∨ (nthX l k).v = yv) → ∀ j, j < k + 1 → tkB l i j = false) := fun h j hj => by
          rcases Nat.lt_or_ge j k with h' | h'
          ·exact hall j h'
          ·obtain rfl : j = k := by omega
           exact (HTK.out j).trans (decide_eq_false h)
         clear hall hcell hgg
         generalize (nthX l k).n = kn at *
         generalize (nthX l k).v = kv at *
         by_cases hn : kn = yn
         ·have HM : Hid (r = 6) := HY.out (.inl hn)
          clear HY HN
          subst hn
          have hnn : True := trivial
          go_wp2_with fail
          refine wp_region_held_drew (S := fun w' => w'.cell? ⟨g0, 1, none⟩ = some (.slice (some ⟨g, off, none⟩) n cap) ∧ w'.cell? ⟨g, off + k * 4, none⟩ = some (.string kn) ∧ w'.cell? ⟨g, off + k * 4 + 1, none⟩ = some (.int .i64 kv) ∧ w'.cell? ⟨g, off + i * 4, none⟩ = some (.string kn) ∧ w'.cell? ⟨g, off + i * 4 + 1, none⟩ = some (.int .i64 yv)) (by kernel_rfl) ?hS29 (fun hHeld => ?_)
          case hS29 => exact ⟨c1, k0, k1, d0, d1⟩
          refine tk (i := 0) (v := ?_) rfl (Or.inl ⟨by rfl, ?hy30⟩) ?ty30
          case hy30 => (intro w hSw; obtain ⟨s0, s1, s2, s3, s4⟩ := hSw; go_simp; all_goals with_reducible rfl)
          simp only [Act.put, J1, J2, J4, J5, J6]
          refine tk (i := 1) (v := ?_) rfl (Or.inl ⟨by rfl, ?hy31⟩) ?ty31
          case hy31 => (intro w hSw; obtain ⟨s0, s1, s2, s3, s4⟩ := hSw; go_simp; all_goals with_reducible rfl)
          simp only [Act.put, J1, J2, J3, J4, J5, J6]
          refine tk (i := 2) (v := ?_) rfl (Or.inl ⟨by rfl, ?hy32⟩) ?ty32
          case hy32 => (intro w hSw; obtain ⟨s0, s1, s2, s3, s4⟩ := hSw; go_simp; all_goals with_reducible rfl)
          simp only [Act.put, J1, J2, J3, J4, J5, J6]
          refine tk (i := 3) (v := ?_) rfl (Or.inl ⟨by rfl, ?hy33⟩) ?ty33
          case hy33 => (intro w hSw; obtain ⟨s0, s1, s2, s3, s4⟩ := hSw; go_simp; all_goals with_reducible rfl)
          simp only [Act.put, J1, J2, J3, J4, J5, J6]
          refine tk (i := 4) (v := ?_) rfl (Or.inl ⟨by rfl, ?hy34⟩) ?ty34
          case hy34 => (intro w hSw; obtain ⟨s0, s1, s2, s3, s4⟩ := hSw; go_simp; all_goals with_reducible rfl)
          simp only [Act.put, J1, J2, J3, J4, J5, J6]
          refine tk (i := 5) (v := ?_) rfl (Or.inl ⟨by rfl, ?hy35⟩) ?ty35
          case hy35 => (intro w hSw; obtain ⟨s0, s1, s2, s3, s4⟩ := hSw; go_simp; all_goals with_reducible rfl)
          simp only [Act.put, J1, J2, J3, J4, J5, J6]
          refine tk (i := 6) (v := ?_) rfl (Or.inl ⟨by rfl, ?hy36⟩) ?ty36
          case hy36 => (intro w hSw; obtain ⟨s0, s1, s2, s3, s4⟩ := hSw; go_simp; all_goals with_reducible rfl)
          simp only [Act.put, J1, J2, J3, J4, J5, J6]
          refine tk (i := 7) (v := ?_) rfl (Or.inl ⟨by rfl, ?hy37⟩) ?ty37
          case hy37 => (intro w hSw; obtain ⟨s0, s1, s2, s3, s4⟩ := hSw; go_simp; all_goals with_reducible rfl)
          simp only [Act.put, J1, J2, J3, J4, J5, J6]
          refine tk (i := 8) (v := ?_) rfl (Or.inl ⟨by rfl, ?hy38⟩) ?ty38
          case hy38 => (intro w hSw; obtain ⟨s0, s1, s2, s3, s4⟩ := hSw; go_simp; all_goals with_reducible rfl)
          simp only [Act.put, J1, J2, J3, J4, J5, J6]
          refine tk (i := 9) (v := ?_) rfl (Or.inl ⟨by rfl, ?hy39⟩) ?ty39
          case hy39 => (intro w hSw; obtain ⟨s0, s1, s2, s3, s4⟩ := hSw; go_simp; all_goals with_reducible rfl)
          simp only [Act.put, J1, J2, J3, J4, J5, J6]
          refine tk (i := 10) (v := ?_) rfl (Or.inl ⟨by rfl, ?hy40⟩) ?ty40
          case hy40 => (intro w hSw; obtain ⟨s0, s1, s2, s3, s4⟩ := hSw; go_simp; all_goals with_reducible rfl)
          simp only [Act.put, J1, J2, J3, J4, J5, J6]
          refine tk (i := 11) (v := ?_) rfl (Or.inl ⟨by rfl, ?hy41⟩) ?ty41
          case hy41 => (intro w hSw; obtain ⟨s0, s1, s2, s3, s4⟩ := hSw; go_simp; all_goals with_reducible rfl)
          simp only [Act.put, J1, J2, J3, J4, J5, J6]
          refine tk (i := 12) (v := ?_) rfl (Or.inl ⟨by rfl, ?hy42⟩) ?ty42
          case hy42 => (intro w hSw; obtain ⟨s0, s1, s2, s3, s4⟩ := hSw; go_simp; all_goals with_reducible rfl)
          simp only [Act.put, J1, J2, J3, J4, J5, J6]
          refine tk (i := 13) (v := ?_) rfl (Or.inl ⟨by rfl, ?hy43⟩) ?ty43
          case hy43 => (intro w hSw; obtain ⟨s0, s1, s2, s3, s4⟩ := hSw; go_simp; all_goals with_reducible rfl)
          simp only [Act.put, J1, J2, J3, J4, J5, J6]
          refine tk (i := 14) (v := ?_) rfl (Or.inl ⟨by rfl, ?hy44⟩) ?ty44
          case hy44 => (intro w hSw; obtain ⟨s0, s1, s2, s3, s4⟩ := hSw; go_simp; all_goals with_reducible rfl)
          simp only [Act.put, J1, J2, J3, J4, J5, J6]
          refine tk (i := 15) (v := ?_) rfl (Or.inl ⟨by rfl, ?hy45⟩) ?ty45
          case hy45 => (intro w hSw; obtain ⟨s0, s1, s2, s3, s4⟩ := hSw; go_simp; all_goals with_reducible rfl)
          simp only [Act.put, J1, J2, J3, J4, J5, J6]
          refine tk (i := 16) (v := .bool true) rfl (Or.inl ⟨by rfl, ?hy46⟩) ?ty46
          case hy46 => (intro w hSw; obtain ⟨s0, s1, s2, s3, s4⟩ := hSw; go_simp; first | (all_goals with_reducible rfl) | (simp; done) | (simp; omega) | (simp [hnn]))
          simp only [Act.put, J1, J2, J3, J4, J5, J6]
          refine tk (i := 17) (v := ?_) rfl (Or.inl ⟨by rfl, ?hy47⟩) ?ty47
          case hy47 => (intro w hSw; obtain ⟨s0, s1, s2, s3, s4⟩ := hSw; go_simp; all_goals with_reducible rfl)
          simp only [Act.put, J1, J2, J3, J4, J5, J6]
          refine tk (i := 18) (v := undef) rfl (Or.inr ⟨by rfl, rfl⟩) ?_
          simp only [Act.put, J1, J2, J3, J4, J5, J6]
          refine tk (i := 19) (v := undef) rfl (Or.inr ⟨by rfl, rfl⟩) ?_
          simp only [Act.put, J1, J2, J3, J4, J5, J6]
          refine tk (i := 20) (v := undef) rfl (Or.inr ⟨by rfl, rfl⟩) ?_
          simp only [Act.put, J1, J2, J3, J4, J5, J6]
          refine tk (i := 21) (v := undef) rfl (Or.inr ⟨by rfl, rfl⟩) ?_
          simp only [Act.put, J1, J2, J3, J4, J5, J6]
          refine tk (i := 22) (v := undef) rfl (Or.inr ⟨by rfl, rfl⟩) ?_
          simp only [Act.put, J1, J2, J3, J4, J5, J6]
          refine tk (i := 23) (v := undef) rfl (Or.inr ⟨by rfl, rfl⟩) ?_
          simp only [Act.put, J1, J2, J3, J4, J5, J6]
          refine tk (i := 24) (v := undef) rfl (Or.inr ⟨by rfl, rfl⟩) ?_
          simp only [Act.put, J1, J2, J3, J4, J5, J6]
          refine tk (i := 25) (v := undef) rfl (Or.inr ⟨by rfl, rfl⟩) ?_
          simp only [Act.put, J1, J2, J3, J4, J5, J6]
          refine tk (i := 26) (v := undef) rfl (Or.inr ⟨by rfl, rfl⟩) ?_
          simp only [Act.put, J1, J2, J3, J4, J5, J6]
          refine tk (i := 27) (v := undef) rfl (Or.inr ⟨by rfl, rfl⟩) ?_
          simp only [Act.put, J1, J2, J3, J4, J5, J6]
          refine tk (i := 28) (v := undef) rfl (Or.inr ⟨by rfl, rfl⟩) ?_
          simp only [Act.put, J1, J2, J3, J4, J5, J6]
          refine tk (i := 29) (v := undef) rfl (Or.inr ⟨by rfl, rfl⟩) ?_
          simp only [Act.put, J1, J2, J3, J4, J5, J6]
          refine tk (i := 30) (v := undef) rfl (Or.inr ⟨by rfl, rfl⟩) ?_
          simp only [Act.put, J1, J2, J3, J4, J5, J6]
          refine tk (i := 31) (v := undef) rfl (Or.inr ⟨by rfl, rfl⟩) ?_
          simp only [Act.put, J1, J2, J3, J4, J5, J6]
          refine tk (i := 32) (v := undef) rfl (Or.inr ⟨by rfl, rfl⟩) ?_
          simp only [Act.put, J1, J2, J3, J4, J5, J6]
          refine tk (i := 33) (v := undef) rfl (Or.inr ⟨by rfl, rfl⟩) ?_
          simp only [Act.put, J1, J2, J3, J4, J5, J6]
          refine tk (i := 34) (v := undef) rfl (Or.inr ⟨by rfl, rfl⟩) ?_
          simp only [Act.put, J1, J2, J3, J4, J5, J6]
          refine tk (i := 35) (v := .bool true) rfl (Or.inl ⟨by rfl, ?hy48⟩) ?ty48
          case hy48 => (intro w hSw; obtain ⟨s0, s1, s2, s3, s4⟩ := hSw; go_simp; first | (all_goals with_reducible rfl) | (simp; done) | (simp; omega) | (simp [hnn]))
          simp only [Act.put, J1, J2, J3, J4, J5, J6]
          refine wpAnyH_done (by kernel_rfl) ?_ _
          clear hHeld
          go_wp2
          go_ret
          exact ⟨by rw [HM.out]; rfl, hbel4.trans ((Below.refl _ _).drew)⟩
         ·have hnn : (kn.toList == yn.toList) = false := by simpa using toList_ne hn
          by_cases hvv : kv = yv
          ·have HM : Hid (r = 6) := HY.out (.inr hvv)
           clear HY HN
           subst hvv
           go_wp2_with fail
           refine wp_region_held_drew (S := fun w' => w'.cell? ⟨g0, 1, none⟩ = some (.slice (some ⟨g, off, none⟩) n cap) ∧ w'.cell? ⟨g, off + k * 4, none⟩ = some (.string kn) ∧ w'.cell? ⟨g, off + k * 4 + 1, none⟩ = some (.int .i64 kv) ∧ w'.cell? ⟨g, off + i * 4, none⟩ = some (.string yn) ∧ w'.cell? ⟨g, off + i * 4 + 1, none⟩ = some (.int .i64 kv)) (by kernel_rfl) ?hS49 (fun hHeld => ?_)
           case hS49 => exact ⟨c1, k0, k1, d0, d1⟩
           refine tk (i := 0) (v := ?_) rfl (Or.inl ⟨by rfl, ?hy50⟩) ?ty50
           case hy50 => (intro w hSw; obtain ⟨s0, s1, s2, s3, s4⟩ := hSw; go_simp; all_goals with_reducible rfl)
           simp only [Act.put, J1, J2, J4, J5, J6]
           refine tk (i := 1) (v := ?_) rfl (Or.inl ⟨by rfl, ?hy51⟩) ?ty51
           case hy51 => (intro w hSw; obtain ⟨s0, s1, s2, s3, s4⟩ := hSw; go_simp; all_goals with_reducible rfl)
           simp only [Act.put, J1, J2, J3, J4, J5, J6]
           refine tk (i := 2) (v := ?_) rfl (Or.inl ⟨by rfl, ?hy52⟩) ?ty52
           case hy52 => (intro w hSw; obtain ⟨s0, s1, s2, s3, s4⟩ := hSw; go_simp; all_goals with_reducible rfl)
           simp only [Act.put, J1, J2, J3, J4, J5, J6]
           refine tk (i := 3) (v := ?_) rfl (Or.inl ⟨by rfl, ?hy53⟩) ?ty53
           case hy53 => (intro w hSw; obtain ⟨s0, s1, s2, s3, s4⟩ := hSw; go_simp; all_goals with_reducible rfl)
           simp only [Act.put, J1, J2, J3, J4, J5, J6]
           refine tk (i := 4) (v := ?_) rfl (Or.inl ⟨by rfl, ?hy54⟩) ?ty54
           case hy54 => (intro w hSw; obtain ⟨s0, s1, s2, s3, s4⟩ := hSw; go_simp; all_goals with_reducible rfl)
           simp only [Act.put, J1, J2, J3, J4, J5, J6]
           refine tk (i := 5) (v := ?_) rfl (Or.inl ⟨by rfl, ?hy55⟩) ?ty55
           case hy55 => (intro w hSw; obtain ⟨s0, s1, s2, s3, s4⟩ := hSw; go_simp; all_goals with_reducible rfl)
           simp only [Act.put, J1, J2, J3, J4, J5, J6]
           refine tk (i := 6) (v := ?_) rfl (Or.inl ⟨by rfl, ?hy56⟩) ?ty56
           case hy56 => (intro w hSw; obtain ⟨s0, s1, s2, s3, s4⟩ := hSw; go_simp; all_goals with_reducible rfl)
           simp only [Act.put, J1, J2, J3, J4, J5, J6]
           refine tk (i := 7) (v := ?_) rfl (Or.inl ⟨by rfl, ?hy57⟩) ?ty57
           case hy57 => (intro w hSw; obtain ⟨s0, s1, s2, s3, s4⟩ := hSw; go_simp; all_goals with_reducible rfl)
           simp only [Act.put, J1, J2, J3, J4, J5, J6]
           refine tk (i := 8) (v := ?_) rfl (Or.inl ⟨by rfl, ?hy58⟩) ?ty58
           case hy58 => (intro w hSw; obtain ⟨s0, s1, s2, s3, s4⟩ := hSw; go_simp; all_goals with_reducible rfl)
           simp only [Act.put, J1, J2, J3, J4, J5, J6]
           refine tk (i := 9) (v := ?_) rfl (Or.inl ⟨by rfl, ?hy59⟩) ?ty59
           case hy59 => (intro w hSw; obtain ⟨s0, s1, s2, s3, s4⟩ := hSw; go_simp; all_goals with_reducible rfl)
           simp only [Act.put, J1, J2, J3, J4, J5, J6]
           refine tk (i := 10) (v := ?_) rfl (Or.inl ⟨by rfl, ?hy60⟩) ?ty60
           case hy60 => (intro w hSw; obtain ⟨s0, s1, s2, s3, s4⟩ := hSw; go_simp; all_goals with_reducible rfl)
           simp only [Act.put, J1, J2, J3, J4, J5, J6]
           refine tk (i := 11) (v := ?_) rfl (Or.inl ⟨by rfl, ?hy61⟩) ?ty61
           case hy61 => (intro w hSw; obtain ⟨s0, s1, s2, s3, s4⟩ := hSw; go_simp; all_goals with_reducible rfl)
           simp only [Act.put, J1, J2, J3, J4, J5, J6]
           refine tk (i := 12) (v := ?_) rfl (Or.inl ⟨by rfl, ?hy62⟩) ?ty62
           case hy62 => (intro w hSw; obtain ⟨s0, s1, s2, s3, s4⟩ := hSw; go_simp; all_goals with_reducible rfl)
           simp only [Act.put, J1, J2, J3, J4, J5, J6]
           refine tk (i := 13) (v := ?_) rfl (Or.inl ⟨by rfl, ?hy63⟩) ?ty63
           case hy63 => (intro w hSw; obtain ⟨s0, s1, s2, s3, s4⟩ := hSw; go_simp; all_goals with_reducible rfl)
           simp only [Act.put, J1, J2, J3, J4, J5, J6]
           refine tk (i := 14) (v := ?_) rfl (Or.inl ⟨by rfl, ?hy64⟩) ?ty64
           case hy64 => (intro w hSw; obtain ⟨s0, s1, s2, s3, s4⟩ := hSw; go_simp; all_goals with_reducible rfl)
           simp only [Act.put, J1, J2, J3, J4, J5, J6]
           refine tk (i := 15) (v := ?_) rfl (Or.inl ⟨by rfl, ?hy65⟩) ?ty65
           case hy65 => (intro w hSw; obtain ⟨s0, s1, s2, s3, s4⟩ := hSw; go_simp; all_goals with_reducible rfl)
           simp only [Act.put, J1, J2, J3, J4, J5, J6]
           refine tk (i := 16) (v := .bool false) rfl (Or.inl ⟨by rfl, ?hy66⟩) ?ty66
           case hy66 => (intro w hSw; obtain ⟨s0, s1, s2, s3, s4⟩ := hSw; go_simp; first | (all_goals with_reducible rfl) | (simp; done) | (simp; omega) | (simp [hnn]))
           simp only [Act.put, J1, J2, J3, J4, J5, J6]
           refine tk (i := 17) (v := ?_) rfl (Or.inl ⟨by rfl, ?hy67⟩) ?ty67
           case hy67 => (intro w hSw; obtain ⟨s0, s1, s2, s3, s4⟩ := hSw; go_simp; all_goals with_reducible rfl)
           simp only [Act.put, J1, J2, J3, J4, J5, J6]
           refine tk (i := 18) (v := ?_) rfl (Or.inl ⟨by rfl, ?hy68⟩) ?ty68
           case hy68 => (intro w hSw; obtain ⟨s0, s1, s2, s3, s4⟩ := hSw; go_simp; all_goals with_reducible rfl)
           simp only [Act.put, J1, J2, J3, J4, J5, J6]
           refine tk (i := 19) (v := ?_) rfl (Or.inl ⟨by rfl, ?hy69⟩) ?ty69
           case hy69 => (intro w hSw; obtain ⟨s0, s1, s2, s3, s4⟩ := hSw; go_simp; all_goals with_reducible rfl)
           simp only [Act.put, J1, J2, J3, J4, J5, J6]
           refine tk (i := 20) (v := ?_) rfl (Or.inl ⟨by rfl, ?hy70⟩) ?ty70
           case hy70 => (intro w hSw; obtain ⟨s0, s1, s2, s3, s4⟩ := hSw; go_simp; all_goals with_reducible rfl)
           simp only [Act.put, J1, J2, J3, J4, J5, J6]
           refine tk (i := 21) (v := ?_) rfl (Or.inl ⟨by rfl, ?hy71⟩) ?ty71
           case hy71 => (intro w hSw; obtain ⟨s0, s1, s2, s3, s4⟩ := hSw; go_simp; all_goals with_reducible rfl)
           simp only [Act.put, J1, J2, J3, J4, J5, J6]
           refine tk (i := 22) (v := ?_) rfl (Or.inl ⟨by rfl, ?hy72⟩) ?ty72
           case hy72 => (intro w hSw; obtain ⟨s0, s1, s2, s3, s4⟩ := hSw; go_simp; all_goals with_reducible rfl)
           simp only [Act.put, J1, J2, J3, J4, J5, J6]
           refine tk (i := 23) (v := ?_) rfl (Or.inl ⟨by rfl, ?hy73⟩) ?ty73
           case hy73 => (intro w hSw; obtain ⟨s0, s1, s2, s3, s4⟩ := hSw; go_simp; all_goals with_reducible rfl)
           simp only [Act.put, J1, J2, J3, J4, J5, J6]
           refine tk (i := 24) (v := ?_) rfl (Or.inl ⟨by rfl, ?hy74⟩) ?ty74
           case hy74 => (intro w hSw; obtain ⟨s0, s1, s2, s3, s4⟩ := hSw; go_simp; all_goals with_reducible rfl)
           simp only [Act.put, J1, J2, J3, J4, J5, J6]
           refine tk (i := 25) (v := ?_) rfl (Or.inl ⟨by rfl, ?hy75⟩) ?ty75
           case hy75 => (intro w hSw; obtain ⟨s0, s1, s2, s3, s4⟩ := hSw; go_simp; all_goals with_reducible rfl)
           simp only [Act.put, J1, J2, J3, J4, J5, J6]
           refine tk (i := 26) (v := ?_) rfl (Or.inl ⟨by rfl, ?hy76⟩) ?ty76
           case hy76 => (intro w hSw; obtain ⟨s0, s1, s2, s3, s4⟩ := hSw; go_simp; all_goals with_reducible rfl)
           simp only [Act.put, J1, J2, J3, J4, J5, J6]
           refine tk (i := 27) (v := ?_) rfl (Or.inl ⟨by rfl, ?hy77⟩) ?ty77
           case hy77 => (intro w hSw; obtain ⟨s0, s1, s2, s3, s4⟩ := hSw; go_simp; all_goals with_reducible rfl)
           simp only [Act.put, J1, J2, J3, J4, J5, J6]
           refine tk (i := 28) (v := ?_) rfl (Or.inl ⟨by rfl, ?hy78⟩) ?ty78
           case hy78 => (intro w hSw; obtain ⟨s0, s1, s2, s3, s4⟩ := hSw; go_simp; all_goals with_reducible rfl)
           simp only [Act.put, J1, J2, J3, J4, J5, J6]
           refine tk (i := 29) (v := ?_) rfl (Or.inl ⟨by rfl, ?hy79⟩) ?ty79
           case hy79 => (intro w hSw; obtain ⟨s0, s1, s2, s3, s4⟩ := hSw; go_simp; all_goals with_reducible rfl)
           simp only [Act.put, J1, J2, J3, J4, J5, J6]
           refine tk (i := 30) (v := ?_) rfl (Or.inl ⟨by rfl, ?hy80⟩) ?ty80
           case hy80 => (intro w hSw; obtain ⟨s0, s1, s2, s3, s4⟩ := hSw; go_simp; all_goals with_reducible rfl)
           simp only [Act.put, J1, J2, J3, J4, J5, J6]
           refine tk (i := 31) (v := ?_) rfl (Or.inl ⟨by rfl, ?hy81⟩) ?ty81
           case hy81 => (intro w hSw; obtain ⟨s0, s1, s2, s3, s4⟩ := hSw; go_simp; all_goals with_reducible rfl)
           simp only [Act.put, J1, J2, J3, J4, J5, J6]
           refine tk (i := 32) (v := ?_) rfl (Or.inl ⟨by rfl, ?hy82⟩) ?ty82
           case hy82 => (intro w hSw; obtain ⟨s0, s1, s2, s3, s4⟩ := hSw; go_simp; all_goals with_reducible rfl)
           simp only [Act.put, J1, J2, J3, J4, J5, J6]
           refine tk (i := 33) (v := ?_) rfl (Or.inl ⟨by rfl, ?hy83⟩) ?ty83
           case hy83 => (intro w hSw; obtain ⟨s0, s1, s2, s3, s4⟩ := hSw; go_simp; all_goals with_reducible rfl)
           simp only [Act.put, J1, J2, J3, J4, J5, J6]
           refine tk (i := 34) (v := .bool true) rfl (Or.inl ⟨by rfl, ?hy84⟩) ?ty84
           case hy84 => (intro w hSw; obtain ⟨s0, s1, s2, s3, s4⟩ := hSw; go_simp; first | (all_goals with_reducible rfl) | (simp; done) | (simp; omega) | (simp [hnn]))
           simp only [Act.put, J1, J2, J3, J4, J5, J6]
           refine tk (i := 35) (v := .bool true) rfl (Or.inl ⟨by rfl, ?hy85⟩) ?ty85
           case hy85 => (intro w hSw; obtain ⟨s0, s1, s2, s3, s4⟩ := hSw; go_simp; first | (all_goals with_reducible rfl) | (simp; done) | (simp; omega) | (simp [hnn]))
           simp only [Act.put, J1, J2, J3, J4, J5, J6]
           refine wpAnyH_done (by kernel_rfl) ?_ _
           clear hHeld
           go_wp2
           go_ret
           exact ⟨by rw [HM.out]; rfl, hbel4.trans ((Below.refl _ _).drew)⟩
          ·have hvv' : (kv == yv) = false := by simpa using hvv
           have HM : Hid (_) := HN.out (fun h => h.elim hn hvv)
           clear HY HN
           go_wp2_with fail
           refine wp_region_held_drew (S := fun w' => w'.cell? ⟨g0, 1, none⟩ = some (.slice (some ⟨g, off, none⟩) n cap) ∧ w'.cell? ⟨g, off + k * 4, none⟩ = some (.string kn) ∧ w'.cell? ⟨g, off + k * 4 + 1, none⟩ = some (.int .i64 kv) ∧ w'.cell? ⟨g, off + i * 4, none⟩ = some (.string yn) ∧ w'.cell? ⟨g, off + i * 4 + 1, none⟩ = some (.int .i64 yv)) (by kernel_rfl) ?hS86 (fun hHeld => ?_)
           case hS86 => exact ⟨c1, k0, k1, d0, d1⟩
           refine tk (i := 0) (v := ?_) rfl (Or.inl ⟨by rfl, ?hy87⟩) ?ty87
           case hy87 => (intro w hSw; obtain ⟨s0, s1, s2, s3, s4⟩ := hSw; go_simp; all_goals with_reducible rfl)
           simp only [Act.put, J1, J2, J4, J5, J6]
           refine tk (i := 1) (v := ?_) rfl (Or.inl ⟨by rfl, ?hy88⟩) ?ty88
           case hy88 => (intro w hSw; obtain ⟨s0, s1, s2, s3, s4⟩ := hSw; go_simp; all_goals with_reducible rfl)
           simp only [Act.put, J1, J2, J3, J4, J5, J6]
           refine tk (i := 2) (v := ?_) rfl (Or.inl ⟨by rfl, ?hy89⟩) ?ty89
           case hy89 => (intro w hSw; obtain ⟨s0, s1, s2, s3, s4⟩ := hSw; go_simp; all_goals with_reducible rfl)
           simp only [Act.put, J1, J2, J3, J4, J5, J6]
           refine tk (i := 3) (v := ?_) rfl (Or.inl ⟨by rfl, ?hy90⟩) ?ty90
           case hy90 => (intro w hSw; obtain ⟨s0, s1, s2, s3, s4⟩ := hSw; go_simp; all_goals with_reducible rfl)
           simp only [Act.put, J1, J2, J3, J4, J5, J6]
           refine tk (i := 4) (v := ?_) rfl (Or.inl ⟨by rfl, ?hy91⟩) ?ty91
           case hy91 => (intro w hSw; obtain ⟨s0, s1, s2, s3, s4⟩ := hSw; go_simp; all_goals with_reducible rfl)
           simp only [Act.put, J1, J2, J3, J4, J5, J6]
           refine tk (i := 5) (v := ?_) rfl (Or.inl ⟨by rfl, ?hy92⟩) ?ty92
           case hy92 => (intro w hSw; obtain ⟨s0, s1, s2, s3, s4⟩ := hSw; go_simp; all_goals with_reducible rfl)
           simp only [Act.put, J1, J2, J3, J4, J5, J6]
           refine tk (i := 6) (v := ?_) rfl (Or.inl ⟨by rfl, ?hy93⟩) ?ty93
           case hy93 => (intro w hSw; obtain ⟨s0, s1, s2, s3, s4⟩ := hSw; go_simp; all_goals with_reducible rfl)
           simp only [Act.put, J1, J2, J3, J4, J5, J6]
           refine tk (i := 7) (v := ?_) rfl (Or.inl ⟨by rfl, ?hy94⟩) ?ty94
           case hy94 => (intro w hSw; obtain ⟨s0, s1, s2, s3, s4⟩ := hSw; go_simp; all_goals with_reducible rfl)
           simp only [Act.put, J1, J2, J3, J4, J5, J6]
           refine tk (i := 8) (v := ?_) rfl (Or.inl ⟨by rfl, ?hy95⟩) ?ty95
           case hy95 => (intro w hSw; obtain ⟨s0, s1, s2, s3, s4⟩ := hSw; go_simp; all_goals with_reducible rfl)
           simp only [Act.put, J1, J2, J3, J4, J5, J6]
           refine tk (i := 9) (v := ?_) rfl (Or.inl ⟨by rfl, ?hy96⟩) ?ty96
           case hy96 => (intro w hSw; obtain ⟨s0, s1, s2, s3, s4⟩ := hSw; go_simp; all_goals with_reducible rfl)
           simp only [Act.put, J1, J2, J3, J4, J5, J6]
           refine tk (i := 10) (v := ?_) rfl (Or.inl ⟨by rfl, ?hy97⟩) ?ty97
           case hy97 => (intro w hSw; obtain ⟨s0, s1, s2, s3, s4⟩ := hSw; go_simp; all_goals with_reducible rfl)
           simp only [Act.put, J1, J2, J3, J4, J5, J6]
           refine tk (i := 11) (v := ?_) rfl (Or.inl ⟨by rfl, ?hy98⟩) ?ty98
           case hy98 => (intro w hSw; obtain ⟨s0, s1, s2, s3, s4⟩ := hSw; go_simp; all_goals with_reducible rfl)
           simp only [Act.put, J1, J2, J3, J4, J5, J6]
           refine tk (i := 12) (v := ?_) rfl (Or.inl ⟨by rfl, ?hy99⟩) ?ty99
           case hy99 => (intro w hSw; obtain ⟨s0, s1, s2, s3, s4⟩ := hSw; go_simp; all_goals with_reducible rfl)
           simp only [Act.put, J1, J2, J3, J4, J5, J6]
           refine tk (i := 13) (v := ?_) rfl (Or.inl ⟨by rfl, ?hy100⟩) ?ty100
           case hy100 => (intro w hSw; obtain ⟨s0, s1, s2, s3, s4⟩ := hSw; go_simp; all_goals with_reducible rfl)
           simp only [Act.put, J1, J2, J3, J4, J5, J6]
           refine tk (i := 14) (v := ?_) rfl (Or.inl ⟨by rfl, ?hy101⟩) ?ty101
           case hy101 => (intro w hSw; obtain ⟨s0, s1, s2, s3, s4⟩ := hSw; go_simp; all_goals with_reducible rfl)
           simp only [Act.put, J1, J2, J3, J4, J5, J6]
           refine tk (i := 15) (v := ?_) rfl (Or.inl ⟨by rfl, ?hy102⟩) ?ty102
           case hy102 => (intro w hSw; obtain ⟨s0, s1, s2, s3, s4⟩ := hSw; go_simp; all_goals with_reducible rfl)
           simp only [Act.put, J1, J2, J3, J4, J5, J6]
           refine tk (i := 16) (v := .bool false) rfl (Or.inl ⟨by rfl, ?hy103⟩) ?ty103
           case hy103 => (intro w hSw; obtain ⟨s0, s1, s2, s3, s4⟩ := hSw; go_simp; first | (all_goals with_reducible rfl) | (simp; done) | (simp; omega) | (simp [hnn]))
           simp only [Act.put, J1, J2, J3, J4, J5, J6]
           refine tk (i := 17) (v := ?_) rfl (Or.inl ⟨by rfl, ?hy104⟩) ?ty104
           case hy104 => (intro w hSw; obtain ⟨s0, s1, s2, s3, s4⟩ := hSw; go_simp; all_goals with_reducible rfl)
           simp only [Act.put, J1, J2, J3, J4, J5, J6]
           refine tk (i := 18) (v := ?_) rfl (Or.inl ⟨by rfl, ?hy105⟩) ?ty105
           case hy105 => (intro w hSw; obtain ⟨s0, s1, s2, s3, s4⟩ := hSw; go_simp; all_goals with_reducible rfl)
           simp only [Act.put, J1, J2, J3, J4, J5, J6]
           refine tk (i := 19) (v := ?_) rfl (Or.inl ⟨by rfl, ?hy106⟩) ?ty106
           case hy106 => (intro w hSw; obtain ⟨s0, s1, s2, s3, s4⟩ := hSw; go_simp; all_goals with_reducible rfl)
           simp only [Act.put, J1, J2, J3, J4, J5, J6]
           refine tk (i := 20) (v := ?_) rfl (Or.inl ⟨by rfl, ?hy107⟩) ?ty107
           case hy107 => (intro w hSw; obtain ⟨s0, s1, s2, s3, s4⟩ := hSw; go_simp; all_goals with_reducible rfl)
           simp only [Act.put, J1, J2, J3, J4, J5, J6]
           refine tk (i := 21) (v := ?_) rfl (Or.inl ⟨by rfl, ?hy108⟩) ?ty108
           case hy108 => (intro w hSw; obtain ⟨s0, s1, s2, s3, s4⟩ := hSw; go_simp; all_goals with_reducible rfl)
           simp only [Act.put, J1, J2, J3, J4, J5, J6]
           refine tk (i := 22) (v := ?_) rfl (Or.inl ⟨by rfl, ?hy109⟩) ?ty109
           case hy109 => (intro w hSw; obtain ⟨s0, s1, s2, s3, s4⟩ := hSw; go_simp; all_goals with_reducible rfl)
           simp only [Act.put, J1, J2, J3, J4, J5, J6]
           refine tk (i := 23) (v := ?_) rfl (Or.inl ⟨by rfl, ?hy110⟩) ?ty110
           case hy110 => (intro w hSw; obtain ⟨s0, s1, s2, s3, s4⟩ := hSw; go_simp; all_goals with_reducible rfl)
           simp only [Act.put, J1, J2, J3, J4, J5, J6]
           refine tk (i := 24) (v := ?_) rfl (Or.inl ⟨by rfl, ?hy111⟩) ?ty111
           case hy111 => (intro w hSw; obtain ⟨s0, s1, s2, s3, s4⟩ := hSw; go_simp; all_goals with_reducible rfl)
           simp only [Act.put, J1, J2, J3, J4, J5, J6]
           refine tk (i := 25) (v := ?_) rfl (Or.inl ⟨by rfl, ?hy112⟩) ?ty112
           case hy112 => (intro w hSw; obtain ⟨s0, s1, s2, s3, s4⟩ := hSw; go_simp; all_goals with_reducible rfl)
           simp only [Act.put, J1, J2, J3, J4, J5, J6]
           refine tk (i := 26) (v := ?_) rfl (Or.inl ⟨by rfl, ?hy113⟩) ?ty113
           case hy113 => (intro w hSw; obtain ⟨s0, s1, s2, s3, s4⟩ := hSw; go_simp; all_goals with_reducible rfl)
           simp only [Act.put, J1, J2, J3, J4, J5, J6]
           refine tk (i := 27) (v := ?_) rfl (Or.inl ⟨by rfl, ?hy114⟩) ?ty114
           case hy114 => (intro w hSw; obtain ⟨s0, s1, s2, s3, s4⟩ := hSw; go_simp; all_goals with_reducible rfl)
           simp only [Act.put, J1, J2, J3, J4, J5, J6]
           refine tk (i := 28) (v := ?_) rfl (Or.inl ⟨by rfl, ?hy115⟩) ?ty115
           case hy115 => (intro w hSw; obtain ⟨s0, s1, s2, s3, s4⟩ := hSw; go_simp; all_goals with_reducible rfl)
           simp only [Act.put, J1, J2, J3, J4, J5, J6]
           refine tk (i := 29) (v := ?_) rfl (Or.inl ⟨by rfl, ?hy116⟩) ?ty116
           case hy116 => (intro w hSw; obtain ⟨s0, s1, s2, s3, s4⟩ := hSw; go_simp; all_goals with_reducible rfl)
           simp only [Act.put, J1, J2, J3, J4, J5, J6]
           refine tk (i := 30) (v := ?_) rfl (Or.inl ⟨by rfl, ?hy117⟩) ?ty117
           case hy117 => (intro w hSw; obtain ⟨s0, s1, s2, s3, s4⟩ := hSw; go_simp; all_goals with_reducible rfl)
           simp only [Act.put, J1, J2, J3, J4, J5, J6]
           refine tk (i := 31) (v := ?_) rfl (Or.inl ⟨by rfl, ?hy118⟩) ?ty118
           case hy118 => (intro w hSw; obtain ⟨s0, s1, s2, s3, s4⟩ := hSw; go_simp; all_goals with_reducible rfl)
           simp only [Act.put, J1, J2, J3, J4, J5, J6]
           refine tk (i := 32) (v := ?_) rfl (Or.inl ⟨by rfl, ?hy119⟩) ?ty119
           case hy119 => (intro w hSw; obtain ⟨s0, s1, s2, s3, s4⟩ := hSw; go_simp; all_goals with_reducible rfl)
           simp only [Act.put, J1, J2, J3, J4, J5, J6]
           refine tk (i := 33) (v := ?_) rfl (Or.inl ⟨by rfl, ?hy120⟩) ?ty120
           case hy120 => (intro w hSw; obtain ⟨s0, s1, s2, s3, s4⟩ := hSw; go_simp; all_goals with_reducible rfl)
           simp only [Act.put, J1, J2, J3, J4, J5, J6]
           refine tk (i := 34) (v := .bool false) rfl (Or.inl ⟨by rfl, ?hy121⟩) ?ty121
           case hy121 => (intro w hSw; obtain ⟨s0, s1, s2, s3, s4⟩ := hSw; go_simp; first | (all_goals with_reducible rfl) | (simp; done) | (simp; omega) | (simp [hnn]))
           simp only [Act.put, J1, J2, J3, J4, J5, J6]
           refine tk (i := 35) (v := .bool false) rfl (Or.inl ⟨by rfl, ?hy122⟩) ?ty122
           case hy122 => (intro w hSw; obtain ⟨s0, s1, s2, s3, s4⟩ := hSw; go_simp; first | (all_goals with_reducible rfl) | (simp; done) | (simp; omega) | (simp [hnn]))
           simp only [Act.put, J1, J2, J3, J4, J5, J6]
           refine wpAnyH_done (by kernel_rfl) ?_ _
           clear hHeld
           go_wp2
           go_roundw
           case rel => exact ⟨k + 1, by omega, by go_num, HM.out, hbk.trans ((Below.refl _ _).drew)⟩
           case measure => simp [intOf]; omega
        ·have hki' : ¬ (k : Int) < (i : Int) := by omega
         have HM : Hid (r = rest) := H0'.out (fun j hj => hall j (by omega))
         clear hall
         go_wp2
         go_roundw
         case rel => exact ⟨i + 1, by omega, by go_num, HRR.out HM.out, hbel4⟩
         case measure => simp [intOf]; omega
     ·have HM : Hid (r = c) := HBX.out hc
      clear H9 HBX H6 H0 HTK HRR
      go_wp2
      go_ret
      exact ⟨by rw [HM.out]; rfl, hbel2⟩
    ·have hii : ¬ (i : Int) < (n : Int) := by omega
     have HM : Hid (r = 0) := HR.out.trans (sxV_end v l n i (by omega))
     clear HR
     go_wp2
     go_ret
     exact ⟨by rw [HM.out]; rfl, hbel⟩
end Go.Proofs.YtmidjgpegdodcaaDoor
