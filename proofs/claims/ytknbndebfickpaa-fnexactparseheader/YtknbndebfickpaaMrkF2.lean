/- The laws' marks in answers with fields: what is marked is found again; two that are alike are held to be the same. -/
import Derived.Test.YtknbndebfickpaaMrkF
namespace Go.Proofs.Ytknbndebfickpaa
open Go.RowKit

set_option maxHeartbeats 1600000 in
set_option maxRecDepth 100000 in
theorem heldFieldS_any (a : Option Addr) (n cap k : Nat) (w : World) (hr : RdF w a (marksF n k)) (hn : n ≤ 1048576) (h1 : 1 ≤ k) (hk : k ≤ 1048576) :
    Calls Try.prog 53 #[.slice a n cap, .int .i64 (k : Int)] w fun e w' => e = .returned (.int .i64 ((k + 2 * n : Nat) : Int)) ∧ Below w.heap.size w w' := by
  go_enter Try.func53, Try.ntmps53
  go_wp2
  go_loopw [1, 5] (fun q i wr => ∃ j : Nat, j ≤ n ∧ i = .int .i64 j ∧ q = .int .i64 ((k + 2 * j : Nat) : Int) ∧ Below w.heap.size w wr) (fun _ i _ => n - (intOf i).toNat)
  case atStart => exact ⟨0, Nat.zero_le _, rfl, rfl, Below.refl _ _⟩
  case round =>
    obtain ⟨j, hj, rfl, rfl, hbel⟩ := hrel
    by_cases hjn : j < n
    · obtain ⟨b, off, rfl, hblt, hcell⟩ := hr.at_ (by rw [marksF_len]; omega)
      have hc := hcell j (by rw [marksF_len]; exact hjn)
      rw [marksF_nth hjn] at hc
      simp only at hc
      have hc0 : wr.cell? ⟨b, off + j * 2, none⟩ = some (.string (mtx (k + 2 * j))) := (hbel.cell (p := ⟨b, off + j * 2, none⟩) hblt).trans hc.1
      have hc1 : wr.cell? ⟨b, off + j * 2 + 1, none⟩ = some (.string (mtx (k + 2 * j + 1))) := (hbel.cell (p := ⟨b, off + j * 2 + 1, none⟩) hblt).trans hc.2
      have hji : (j : Int) < (n : Int) := by omega
      have HT1 : Hid (∀ w, Calls Try.prog 51 #[.int .i64 ((k + 2 * j : Nat) : Int)] w fun e w' => e = .returned (.string (mtx (k + 2 * j))) ∧ Below w.heap.size w w') := fun w => markText_any (k + 2 * j) w (by omega) (by omega)
      have HT2 : Hid (∀ w, Calls Try.prog 51 #[.int .i64 (((k + 2 * j : Nat) : Int) + 1)] w fun e w' => e = .returned (.string (mtx (k + 2 * j + 1))) ∧ Below w.heap.size w w') := fun w => markText_any (k + 2 * j + 1) w (by omega) (by omega)
      have hb0 : ((k + 2 * j : Nat) : Int) ≤ 4194302 := by omega
      have hb1 : 0 ≤ ((k + 2 * j : Nat) : Int) := by omega
      have HK : Hid (((k + 2 * j : Nat) : Int) + 1 + 1 = ((k + 2 * (j + 1) : Nat) : Int)) := by
        show _ = _
        omega
      have lb : b < wr.heap.size := Nat.lt_of_lt_of_le hblt hbel.size
      clear hcell hc hr
      generalize mtx (k + 2 * j) = t0 at *
      generalize mtx (k + 2 * j + 1) = t1 at *
      generalize hK0 : ((k + 2 * j : Nat) : Int) = kk at *
      clear hK0
      go_wp2_with fail
      refine wp_region_held_drew (S := fun w' => w'.cell? ⟨b, off + j * 2, none⟩ = some (.string t0)) (by kernel_rfl) ?hS1 (fun hHeld => ?_)
      case hS1 => exact hc0
      refine wpAnyH_take (i := 0) (v := ?_) rfl (by kernel_rfl) (by kernel_rfl) (by kernel_rfl) (fun _ _ _ h => h) (Or.inl ⟨by rfl, ?hy2⟩) (by assumption) ?ty2
      case hy2 => (intro w hSw; (try dsimp only at hSw); go_simp; all_goals with_reducible rfl)
      simp only [Act.put, List.getElem_toArray, List.getElem_cons_zero, List.setIfInBounds_toArray, List.set_cons_zero, List.set_cons_succ]
      refine wpAnyH_take (i := 1) (v := ?_) rfl (by kernel_rfl) (by kernel_rfl) (by kernel_rfl) (fun _ _ _ h => h) (Or.inl ⟨by rfl, ?hy3⟩) (by assumption) ?ty3
      case hy3 => (intro w hSw; (try dsimp only at hSw); go_simp; all_goals with_reducible rfl)
      simp only [Act.put, List.getElem_toArray, List.getElem_cons_zero, List.getElem_cons_succ, List.setIfInBounds_toArray, List.set_cons_zero, List.set_cons_succ]
      refine wpAnyH_take (i := 2) (v := ?_) rfl (by kernel_rfl) (by kernel_rfl) (by kernel_rfl) (fun _ _ _ h => h) (Or.inl ⟨by rfl, ?hy4⟩) (by assumption) ?ty4
      case hy4 => (intro w hSw; (try dsimp only at hSw); go_simp; all_goals with_reducible rfl)
      simp only [Act.put, List.getElem_toArray, List.getElem_cons_zero, List.getElem_cons_succ, List.setIfInBounds_toArray, List.set_cons_zero, List.set_cons_succ]
      refine wpAnyH_take (i := 3) (v := ?_) rfl (by kernel_rfl) (by kernel_rfl) (by kernel_rfl) (fun _ _ _ h => h) (Or.inl ⟨by rfl, ?hy5⟩) (by assumption) ?ty5
      case hy5 => (intro w hSw; (try dsimp only at hSw); go_simp; all_goals with_reducible rfl)
      simp only [Act.put, List.getElem_toArray, List.getElem_cons_zero, List.getElem_cons_succ, List.setIfInBounds_toArray, List.set_cons_zero, List.set_cons_succ]
      refine wpAnyH_take (i := 4) (v := ?_) rfl (by kernel_rfl) (by kernel_rfl) (by kernel_rfl) (fun _ _ _ h => h) (Or.inl ⟨by rfl, ?hy6⟩) (by assumption) ?ty6
      case hy6 => (intro w hSw; (try dsimp only at hSw); go_simp; all_goals with_reducible rfl)
      simp only [Act.put, List.getElem_toArray, List.getElem_cons_zero, List.getElem_cons_succ, List.setIfInBounds_toArray, List.set_cons_zero, List.set_cons_succ]
      refine wpAnyH_take (i := 5) (v := ?_) rfl (by kernel_rfl) (by kernel_rfl) (by kernel_rfl) (fun _ _ _ h => h) (Or.inl ⟨by rfl, ?hy7⟩) (by assumption) ?ty7
      case hy7 => (intro w hSw; (try dsimp only at hSw); go_simp; all_goals with_reducible rfl)
      simp only [Act.put, List.getElem_toArray, List.getElem_cons_zero, List.getElem_cons_succ, List.setIfInBounds_toArray, List.set_cons_zero, List.set_cons_succ]
      refine wpAnyH_ready (rs := [6]) (by kernel_rfl) (by simp) ?_
      refine AllReadyH.cons rfl (fun K hK => ?_) AllReadyH.nil
      go_simp
      refine (HT1.out _).mono ?_
      rintro e w1 ⟨rfl, hbx⟩
      have HWw1 : Hid (Below wr.heap.size wr w1) := (Below.refl _ _).drew.trans hbx
      have hsS : w1.cell? ⟨b, off + j * 2, none⟩ = some (.string t0) := (HWw1.out.cell (p := ⟨b, off + j * 2, none⟩) lb).trans hc0
      refine hK.out _ _ hsS (fun hHeld => ?_)
      clear hK K
      refine wpAnyH_take (i := 7) (v := .bool false) rfl (by kernel_rfl) (by kernel_rfl) (by kernel_rfl) (fun _ _ _ h => h) (Or.inl ⟨by rfl, ?hy8⟩) (by assumption) ?ty8
      case hy8 => (intro w hSw; (try dsimp only at hSw); go_simp; first | (simp; done) | (all_goals with_reducible rfl))
      simp only [Act.put, List.getElem_toArray, List.getElem_cons_zero, List.getElem_cons_succ, List.setIfInBounds_toArray, List.set_cons_zero, List.set_cons_succ]
      refine wpAnyH_done (by kernel_rfl) ?_ _
      clear hHeld hbx hsS HT1
      have hd1 := (HWw1.out.cell (p := ⟨b, off + j * 2 + 1, none⟩) lb).trans hc1
      have lb1 : b < w1.heap.size := Nat.lt_of_lt_of_le lb HWw1.out.size
      have HB1 : Hid (Below w.heap.size w w1) := hbel.trans (HWw1.out.mono hbel.size)
      clear HWw1 hc0 hc1 lb hbel
      go_wp2_with fail
      refine wp_region_held_drew (S := fun w' => w'.cell? ⟨b, off + j * 2 + 1, none⟩ = some (.string t1)) (by kernel_rfl) ?hS9 (fun hHeld => ?_)
      case hS9 => exact hd1
      refine wpAnyH_take (i := 0) (v := ?_) rfl (by kernel_rfl) (by kernel_rfl) (by kernel_rfl) (fun _ _ _ h => h) (Or.inl ⟨by rfl, ?hy10⟩) (by assumption) ?ty10
      case hy10 => (intro w hSw; (try dsimp only at hSw); go_simp; all_goals with_reducible rfl)
      simp only [Act.put, List.getElem_toArray, List.getElem_cons_zero, List.setIfInBounds_toArray, List.set_cons_zero, List.set_cons_succ]
      refine wpAnyH_take (i := 1) (v := ?_) rfl (by kernel_rfl) (by kernel_rfl) (by kernel_rfl) (fun _ _ _ h => h) (Or.inl ⟨by rfl, ?hy11⟩) (by assumption) ?ty11
      case hy11 => (intro w hSw; (try dsimp only at hSw); go_simp; all_goals with_reducible rfl)
      simp only [Act.put, List.getElem_toArray, List.getElem_cons_zero, List.getElem_cons_succ, List.setIfInBounds_toArray, List.set_cons_zero, List.set_cons_succ]
      refine wpAnyH_take (i := 2) (v := ?_) rfl (by kernel_rfl) (by kernel_rfl) (by kernel_rfl) (fun _ _ _ h => h) (Or.inl ⟨by rfl, ?hy12⟩) (by assumption) ?ty12
      case hy12 => (intro w hSw; (try dsimp only at hSw); go_simp; all_goals with_reducible rfl)
      simp only [Act.put, List.getElem_toArray, List.getElem_cons_zero, List.getElem_cons_succ, List.setIfInBounds_toArray, List.set_cons_zero, List.set_cons_succ]
      refine wpAnyH_take (i := 3) (v := ?_) rfl (by kernel_rfl) (by kernel_rfl) (by kernel_rfl) (fun _ _ _ h => h) (Or.inl ⟨by rfl, ?hy13⟩) (by assumption) ?ty13
      case hy13 => (intro w hSw; (try dsimp only at hSw); go_simp; all_goals with_reducible rfl)
      simp only [Act.put, List.getElem_toArray, List.getElem_cons_zero, List.getElem_cons_succ, List.setIfInBounds_toArray, List.set_cons_zero, List.set_cons_succ]
      refine wpAnyH_take (i := 4) (v := ?_) rfl (by kernel_rfl) (by kernel_rfl) (by kernel_rfl) (fun _ _ _ h => h) (Or.inl ⟨by rfl, ?hy14⟩) (by assumption) ?ty14
      case hy14 => (intro w hSw; (try dsimp only at hSw); go_simp; all_goals with_reducible rfl)
      simp only [Act.put, List.getElem_toArray, List.getElem_cons_zero, List.getElem_cons_succ, List.setIfInBounds_toArray, List.set_cons_zero, List.set_cons_succ]
      refine wpAnyH_take (i := 5) (v := ?_) rfl (by kernel_rfl) (by kernel_rfl) (by kernel_rfl) (fun _ _ _ h => h) (Or.inl ⟨by rfl, ?hy15⟩) (by assumption) ?ty15
      case hy15 => (intro w hSw; (try dsimp only at hSw); go_simp; all_goals with_reducible rfl)
      simp only [Act.put, List.getElem_toArray, List.getElem_cons_zero, List.getElem_cons_succ, List.setIfInBounds_toArray, List.set_cons_zero, List.set_cons_succ]
      refine wpAnyH_ready (rs := [6]) (by kernel_rfl) (by simp) ?_
      refine AllReadyH.cons rfl (fun K hK => ?_) AllReadyH.nil
      go_simp
      refine (HT2.out _).mono ?_
      rintro e w2 ⟨rfl, hbx⟩
      have HWw2 : Hid (Below w1.heap.size w1 w2) := (Below.refl _ _).drew.trans hbx
      have hsS : w2.cell? ⟨b, off + j * 2 + 1, none⟩ = some (.string t1) := (HWw2.out.cell (p := ⟨b, off + j * 2 + 1, none⟩) lb1).trans hd1
      refine hK.out _ _ hsS (fun hHeld => ?_)
      clear hK K
      refine wpAnyH_take (i := 7) (v := .bool false) rfl (by kernel_rfl) (by kernel_rfl) (by kernel_rfl) (fun _ _ _ h => h) (Or.inl ⟨by rfl, ?hy16⟩) (by assumption) ?ty16
      case hy16 => (intro w hSw; (try dsimp only at hSw); go_simp; first | (simp; done) | (all_goals with_reducible rfl))
      simp only [Act.put, List.getElem_toArray, List.getElem_cons_zero, List.getElem_cons_succ, List.setIfInBounds_toArray, List.set_cons_zero, List.set_cons_succ]
      refine wpAnyH_done (by kernel_rfl) ?_ _
      clear hHeld hbx hsS HT2
      have HB2 : Hid (Below w.heap.size w w2) := HB1.out.trans (HWw2.out.mono HB1.out.size)
      clear HWw2 hd1 lb1 HB1
      go_wp2
      go_roundw
      case rel => exact ⟨j + 1, by omega, by go_num, by rw [HK.out], HB2.out⟩
      case measure => simp [intOf]; omega
    · have hjj : j = n := by omega
      subst hjj
      have hji : ¬ (j : Int) < (j : Int) := by omega
      go_wp2
      go_ret
      exact ⟨rfl, hbel⟩

set_option maxHeartbeats 800000 in
set_option maxRecDepth 100000 in
theorem markHeaderResult_any (c d : Int) (a : Option Addr) (n cap B : Nat) (l : List FldP) (w : World) (hown : OwnF w B (.slice a n cap) l) (hn : n ≤ 1048576) :
    Calls Try.prog 31 #[.agg #[.int .i64 c, .int .i64 d, .slice a n cap], .int .i64 1] w fun e w' =>
      e = .returned (.int .i64 ((1 + 2 * n : Nat) : Int)) ∧ OwnF w' B (.slice a n cap) (marksF n 1) ∧ w.grownBy w' (Value.slice a n cap).ownBlock := by
  go_enter Try.func31, Try.ntmps31
  go_wp2_with fail
  refine (markFieldS_any a n cap 1 B l _ (by exact hown.alloc _) hn (by omega) (by omega)).mono ?_
  rintro e w1 ⟨rfl, h1, h2⟩
  have h3 := grown_alloc h2
  clear h2
  go_wp2
  go_ret
  exact ⟨rfl, h1, h3⟩

set_option maxHeartbeats 800000 in
set_option maxRecDepth 100000 in
theorem heldHeaderResult_any (c d : Int) (a : Option Addr) (n cap : Nat) (w : World) (hr : RdF w a (marksF n 1)) (hn : n ≤ 1048576) :
    Calls Try.prog 32 #[.agg #[.int .i64 c, .int .i64 d, .slice a n cap], .int .i64 1] w fun e w' =>
      e = .returned (.int .i64 ((1 + 2 * n : Nat) : Int)) ∧ Below w.heap.size w w' := by
  have hpos : ¬ (((1 + 2 * n : Nat) : Int)) < 0 := by omega
  have hb : Below w.heap.size w (w.alloc (.cells #[.int .i64 c, .int .i64 d, .slice a n cap] 27)) := (Below.refl _ _).alloc (Nat.le_refl _) _
  go_enter Try.func32, Try.ntmps32
  go_wp2_with fail
  refine (heldFieldS_any a n cap 1 _ (by exact hr.below hb) hn (by omega) (by omega)).mono ?_
  rintro e w1 ⟨rfl, hb1⟩
  have hb2 : Below w.heap.size w w1 := hb.trans (hb1.mono (by simp))
  go_wp2
  go_ret
  exact ⟨rfl, hb2⟩

set_option maxHeartbeats 800000 in
set_option maxRecDepth 100000 in
theorem eqHeaderResult_same (c d : Int) (a b : Option Addr) (n cap cap' : Nat) (l : List FldP) (w : World) (hl : l.length = n) (hr : RdF w a l) (hs : RdF w b l) (hn : n ≤ 1048576) :
    Calls Try.prog 28 #[.agg #[.int .i64 c, .int .i64 d, .slice a n cap], .agg #[.int .i64 c, .int .i64 d, .slice b n cap']] w fun e w' => e = .returned (.bool true) ∧ Below w.heap.size w w' := by
  have hb : Below w.heap.size w ((w.alloc (.cells #[.int .i64 c, .int .i64 d, .slice a n cap] 27)).alloc (.cells #[.int .i64 c, .int .i64 d, .slice b n cap'] 27)) := ((Below.refl _ _).alloc (Nat.le_refl _) _).alloc (by simp) _
  go_enter Try.func28, Try.ntmps28
  go_wp2_with fail
  refine (eqFieldS_same a b n cap cap' l _ hl (by exact hr.below hb) (by exact hs.below hb) hn).mono ?_
  rintro e w1 ⟨rfl, hb1⟩
  have hb2 : Below w.heap.size w w1 := hb.trans (hb1.mono (by simp; omega))
  go_wp2
  go_ret
  exact ⟨rfl, hb2⟩
end Go.Proofs.Ytknbndebfickpaa
