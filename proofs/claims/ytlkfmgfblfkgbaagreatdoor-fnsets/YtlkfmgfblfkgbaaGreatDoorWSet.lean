/- The law FnSets returns true at every input, and changes nothing that was there; the library's table and errors are there. -/
import Derived.Test.YtlkfmgfblfkgbaaGreatDoorYds
import Derived.Test.YtlkfmgfblfkgbaaGreatDoorYpi
import Derived.Test.YtlkfmgfblfkgbaaGreatDoorYfs
import Derived.Test.YtlkfmgfblfkgbaaGreatDoorLwy
import Derived.Test.YtlkfmgfblfkgbaaGreatDoorDrw3a
import Derived.Test.YtlkfmgfblfkgbaaGreatDoorFld
import Derived.Deep.RegionHeld3
namespace Go.Proofs.YtlkfmgfblfkgbaaGreatDoor
open Go.RowKit

theorem fldR0 (x y : Value) (w : World) : (Instr.field 27 (.agg #[x, y]) 0).run Tryz.prog w = .ok x w := by
  simp [Instr.field, asAgg, go_sem]
theorem fldR1 (x y : Value) (w : World) : (Instr.field 27 (.agg #[x, y]) 1).run Tryz.prog w = .ok y w := by
  simp [Instr.field, asAgg, go_sem]
theorem soV_bad {l : List Int} (h : (soV l).1 ≠ 0) : soV l = ((soV l).1, []) := by
  unfold soV at h ⊢
  split
  · rename_i h1
    rw [if_pos h1] at h
    split
    · rename_i h2
      rw [if_pos h2] at h
      split
      · rename_i h3
        rw [if_pos h3] at h
        exact absurd rfl h
      · rfl
    · rfl
  · rfl
theorem stT_bad {l : List YgP} (h : rfV l ≠ 0) : stT l = (rfV l, []) := if_neg h
theorem stT_ok {l : List YgP} (h : rfV l = 0) : stT l = (0, txY l) := if_pos h
theorem str_toList (t : List Nat) : (str t).toList = t.map UInt8.ofNat := by rw [ByteArray.toList_eq, str_list]

set_option maxHeartbeats 12800000 in
set_option maxRecDepth 100000 in
theorem walkSets (a : Option Addr) (n cap : Nat) (l : List Nat) (w : World) (hl : l.length = n) (hr : Rd w a l) (hB : IsB l) (htE : VarE w) (htW : TabW w) :
    Calls Tryz.prog 3 #[.slice a n cap] w fun e w' => e = .returned (.bool true) ∧ Below w.heap.size w w' := by
  by_cases hbig : 1048576 < n
  · go_enter Tryz.func3, Tryz.ntmps3
    go_wp2_with fail
    refine (lwBig_any a n cap w).mono ?_
    rintro e w1 ⟨rfl, rfl⟩
    rw [decide_eq_true (by omega)]
    go_wp2
    go_ret
    exact ⟨rfl, Below.refl _ _⟩
  · have fR0 := fldR0
    have fR1 := fldR1
    have fT0 := fldT0
    have fT1 := fldT1
    have fN1 := fldN1
    go_enter Tryz.func3, Tryz.ntmps3
    go_wp2_with fail
    refine (lwBig_any a n cap w).mono ?_
    rintro e w1 ⟨rfl, rfl⟩
    rw [decide_eq_false (by omega)]
    go_wp2_with fail
    refine (drawParseSet_any a n cap l w hl hr hB (by omega)).mono ?_
    rintro e w1 ⟨t, rfl, htB, htl, hb1⟩
    have hpv : ppV (str t) = pmV t := by rw [pp_pm, bsN_str htB]
    have hsz : (str t).size ≤ 64 := by rw [str_size]; exact htl
    have HPI : Hid (Calls Tryz.prog 6 #[.string (str t)] w1 fun e w' => RngEndY (pmV t) w1 e w') := by
      have h := parseSet_any (str t) w1 (by omega) (htE.below hb1) (TabW.below htW hb1)
      rw [hpv] at h; exact h
    have HPS : Hid (∀ w, Calls Tryz.prog 7 #[.string (str t)] w fun e w' => RngEndY (pmV t) w e w') := fun w => specParseSet_any t _ w rfl htB (by omega)
    have HST : Hid (∀ (a : Option Addr) (c : Nat) (L : List YgP) w, L.length ≤ 9 → RdY w a L → TabW w → Calls Tryz.prog 8 #[.slice a L.length c] w fun e w' => e = .returned (.agg #[.int .i64 (stT L).1, .string (str (stT L).2)]) ∧ Below w.heap.size w w') := fun a c L w hL hr ht => setText_any a L.length c L w rfl hr (by omega) ht
    have hfew := pmV_few t
    have HBK : Hid ((pmV t).1 = 0 → rfV (pmV t).2 = 0 ∧ txY (pmV t).2 = t) := fun h => pmV_back h
    have HBN : Hid ((pmV t).1 ≠ 0 → pmV t = (5, [])) := fun h => pmV_no h
    clear hpv
    generalize pmV t = u at *
    obtain ⟨c, L⟩ := u
    simp only at hfew HBK HBN HPI HPS
    go_wp2_with fail
    refine Calls.mono HPI.out ?_
    rintro e w2 ⟨v2, rfl, ho2, hb2⟩
    simp only at ho2 ⊢
    obtain ⟨a2, c2, hv, -, -⟩ := ho2.form
    subst hv
    have hbA : Below w2.heap.size w2 (w2.alloc (.cells #[.int .i64 c, .slice a2 L.length c2] 27)) := (Below.refl _ _).alloc (Nat.le_refl _) _
    have hb2' := hb2.trans (hbA.mono hb2.size)
    have hr2 := ho2.rd.2.below hbA
    have HB2 : Hid (Below w.heap.size w (w2.alloc (.cells #[.int .i64 c, .slice a2 L.length c2] 27))) := hb1.trans (hb2'.mono hb1.size)
    obtain ⟨k0, k1, -, -⟩ := res_block (w := w2) (wr := w2.alloc (.cells #[.int .i64 c, .slice a2 L.length c2] 27)) rfl (Below.refl _ _)
    have hg2 : w2.heap.size < (w2.alloc (.cells #[.int .i64 c, .slice a2 L.length c2] 27)).heap.size := by simp
    clear hb1 hb2 hb2' hbA ho2 HPI htB htl
    generalize hsT : str t = sT at *
    go_wp2_with fail
    generalize w2.alloc (.cells #[.int .i64 c, .slice a2 L.length c2] 27) = W at *
    generalize w2.heap.size = g4 at *
    by_cases hc : c = 0
    · subst hc
      obtain ⟨hf0, htx⟩ := HBK.out rfl
      have HSTx : Hid (∀ w, RdY w a2 L → TabW w → Calls Tryz.prog 8 #[.slice a2 L.length c2] w fun e w' => e = .returned (.agg #[.int .i64 0, .string sT]) ∧ Below w.heap.size w w') := fun w hr ht => by
        have h := HST.out a2 c2 L w (by omega) hr ht
        rw [stT_ok hf0] at h
        simp only at h
        rw [htx, hsT] at h
        exact h
      clear hf0 htx
      refine wp_region_held_drew (S := fun w' => w'.cell? ⟨g4, 0, none⟩ = some (.int .i64 0) ∧ w'.cell? ⟨g4, 1, none⟩ = some (.slice a2 L.length c2)) (by kernel_rfl) ?hS1 (fun hHeld => ?_)
      case hS1 => exact ⟨k0, k1⟩
      refine wpAnyH_take (i := 0) (v := ?_) rfl (by kernel_rfl) (by kernel_rfl) (by kernel_rfl) (fun _ _ _ h => h) (Or.inl ⟨by rfl, ?hy2⟩) (by assumption) ?ty2
      case hy2 => (intro w hSw; (try dsimp only at hSw); go_simp; all_goals first | with_reducible rfl | (rw [if_pos (by omega)]))
      simp only [Act.put, List.getElem_toArray, List.getElem_cons_zero, List.setIfInBounds_toArray, List.set_cons_zero, List.set_cons_succ]
      refine wpAnyH_take (i := 1) (v := ?_) rfl (by kernel_rfl) (by kernel_rfl) (by kernel_rfl) (fun _ _ _ h => h) (Or.inl ⟨by rfl, ?hy3⟩) (by assumption) ?ty3
      case hy3 => (intro w hSw; (try dsimp only at hSw); go_simp; all_goals first | with_reducible rfl | (rw [if_pos (by omega)]))
      simp only [Act.put, List.getElem_toArray, List.getElem_cons_zero, List.getElem_cons_succ, List.setIfInBounds_toArray, List.set_cons_zero, List.set_cons_succ]
      refine wpAnyH_take (i := 2) (v := ?_) rfl (by kernel_rfl) (by kernel_rfl) (by kernel_rfl) (fun _ _ _ h => h) (Or.inl ⟨by rfl, ?hy4⟩) (by assumption) ?ty4
      case hy4 => (intro w hSw; (try dsimp only at hSw); go_simp; all_goals first | with_reducible rfl | (rw [if_pos (by omega)]))
      simp only [Act.put, List.getElem_toArray, List.getElem_cons_zero, List.getElem_cons_succ, List.setIfInBounds_toArray, List.set_cons_zero, List.set_cons_succ]
      refine wpAnyH_ready (rs := [3]) (by kernel_rfl) (by simp) ?_
      refine AllReadyH.cons rfl (fun K hK => ?_) AllReadyH.nil
      go_simp
      refine (HPS.out _).mono ?_
      rintro e u1 ⟨v7, rfl, hown7, hbx⟩
      simp only
      obtain ⟨b3, c3, hv, -, -⟩ := hown7.form
      rw [hv]
      clear hv hown7
      have HW_u1 : Hid (Below W.heap.size W u1) := (Below.refl _ _).drew.trans hbx
      have hsS : u1.cell? ⟨g4, 0, none⟩ = some (.int .i64 0) ∧ u1.cell? ⟨g4, 1, none⟩ = some (.slice a2 L.length c2) := ⟨(HW_u1.out.cell (p := ⟨g4, 0, none⟩) hg2).trans k0, (HW_u1.out.cell (p := ⟨g4, 1, none⟩) hg2).trans k1⟩
      refine hK.out _ _ hsS (fun hHeld => ?_)
      clear hK K
      clear hsS hbx
      refine wpAnyH_take (i := 4) (v := ?_) rfl (by kernel_rfl) (by kernel_rfl) (by kernel_rfl) (fun _ _ _ h => h) (Or.inl ⟨by rfl, ?hy5⟩) (by assumption) ?ty5
      case hy5 => (intro w hSw; (try dsimp only at hSw); go_simp; all_goals first | with_reducible rfl | (rw [if_pos (by omega)]))
      simp only [Act.put, List.getElem_toArray, List.getElem_cons_zero, List.getElem_cons_succ, List.setIfInBounds_toArray, List.set_cons_zero, List.set_cons_succ]
      refine wpAnyH_take (i := 5) (v := .bool false) rfl (by kernel_rfl) (by kernel_rfl) (by kernel_rfl) (fun _ _ _ h => h) (Or.inl ⟨by rfl, ?hy6⟩) (by assumption) ?ty6
      case hy6 => (intro w hSw; (try dsimp only at hSw); go_simp; all_goals first | omega | (simp; done) | (simp; omega) | with_reducible rfl)
      simp only [Act.put, List.getElem_toArray, List.getElem_cons_zero, List.getElem_cons_succ, List.setIfInBounds_toArray, List.set_cons_zero, List.set_cons_succ]
      refine wpAnyH_take (i := 6) (v := ?_) rfl (by kernel_rfl) (by kernel_rfl) (by kernel_rfl) (fun _ _ _ h => h) (Or.inl ⟨by rfl, ?hy7⟩) (by assumption) ?ty7
      case hy7 => (intro w hSw; (try dsimp only at hSw); go_simp; all_goals first | with_reducible rfl | (rw [if_pos (by omega)]))
      simp only [Act.put, List.getElem_toArray, List.getElem_cons_zero, List.getElem_cons_succ, List.setIfInBounds_toArray, List.set_cons_zero, List.set_cons_succ]
      refine wpAnyH_take (i := 7) (v := ?_) rfl (by kernel_rfl) (by kernel_rfl) (by kernel_rfl) (fun _ _ _ h => h) (Or.inl ⟨by rfl, ?hy8⟩) (by assumption) ?ty8
      case hy8 => (intro w hSw; (try dsimp only at hSw); go_simp; all_goals first | with_reducible rfl | (rw [if_pos (by omega)]))
      simp only [Act.put, List.getElem_toArray, List.getElem_cons_zero, List.getElem_cons_succ, List.setIfInBounds_toArray, List.set_cons_zero, List.set_cons_succ]
      refine wpAnyH_take (i := 8) (v := ?_) rfl (by kernel_rfl) (by kernel_rfl) (by kernel_rfl) (fun _ _ _ h => h) (Or.inl ⟨by rfl, ?hy9⟩) (by assumption) ?ty9
      case hy9 => (intro w hSw; (try dsimp only at hSw); go_simp; all_goals first | with_reducible rfl | (rw [if_pos (by omega)]))
      simp only [Act.put, List.getElem_toArray, List.getElem_cons_zero, List.getElem_cons_succ, List.setIfInBounds_toArray, List.set_cons_zero, List.set_cons_succ]
      refine wpAnyH_take (i := 9) (v := .bool true) rfl (by kernel_rfl) (by kernel_rfl) (by kernel_rfl) (fun _ _ _ h => h) (Or.inl ⟨by rfl, ?hy10⟩) (by assumption) ?ty10
      case hy10 => (intro w hSw; (try dsimp only at hSw); go_simp; all_goals first | omega | (simp; done) | (simp; omega) | with_reducible rfl)
      simp only [Act.put, List.getElem_toArray, List.getElem_cons_zero, List.getElem_cons_succ, List.setIfInBounds_toArray, List.set_cons_zero, List.set_cons_succ]
      refine wpAnyH_take (i := 10) (v := ?_) rfl (by kernel_rfl) (by kernel_rfl) (by kernel_rfl) (fun _ _ _ h => h) (Or.inl ⟨by rfl, ?hy11⟩) (by assumption) ?ty11
      case hy11 => (intro w hSw; (try dsimp only at hSw); go_simp; all_goals first | with_reducible rfl | (rw [if_pos (by omega)]))
      simp only [Act.put, List.getElem_toArray, List.getElem_cons_zero, List.getElem_cons_succ, List.setIfInBounds_toArray, List.set_cons_zero, List.set_cons_succ]
      refine wpAnyH_take (i := 11) (v := ?_) rfl (by kernel_rfl) (by kernel_rfl) (by kernel_rfl) (fun _ _ _ h => h) (Or.inl ⟨by rfl, ?hy12⟩) (by assumption) ?ty12
      case hy12 => (intro w hSw; (try dsimp only at hSw); go_simp; all_goals first | with_reducible rfl | (rw [if_pos (by omega)]))
      simp only [Act.put, List.getElem_toArray, List.getElem_cons_zero, List.getElem_cons_succ, List.setIfInBounds_toArray, List.set_cons_zero, List.set_cons_succ]
      refine wpAnyH_take (i := 12) (v := ?_) rfl (by kernel_rfl) (by kernel_rfl) (by kernel_rfl) (fun _ _ _ h => h) (Or.inl ⟨by rfl, ?hy13⟩) (by assumption) ?ty13
      case hy13 => (intro w hSw; (try dsimp only at hSw); go_simp; all_goals first | with_reducible rfl | (rw [if_pos (by omega)]))
      simp only [Act.put, List.getElem_toArray, List.getElem_cons_zero, List.getElem_cons_succ, List.setIfInBounds_toArray, List.set_cons_zero, List.set_cons_succ]
      refine wpAnyH_take (i := 15) (v := ?_) rfl (by kernel_rfl) (by kernel_rfl) (by kernel_rfl) (fun _ _ _ h => h) (Or.inl ⟨by rfl, ?hy14⟩) (by assumption) ?ty14
      case hy14 => (intro w hSw; (try dsimp only at hSw); go_simp; all_goals first | with_reducible rfl | (rw [if_pos (by omega)]))
      simp only [Act.put, List.getElem_toArray, List.getElem_cons_zero, List.getElem_cons_succ, List.setIfInBounds_toArray, List.set_cons_zero, List.set_cons_succ]
      refine wpAnyH_ready (rs := [13]) (by kernel_rfl) (by simp) ?_
      refine AllReadyH.cons rfl (fun K hK => ?_) AllReadyH.nil
      go_simp
      refine (HSTx.out _ (by exact hr2.below HW_u1.out) (by exact TabW.below htW (HB2.out.trans (HW_u1.out.mono HB2.out.size)))).mono ?_
      rintro e u2 ⟨rfl, hbx⟩
      have HW_u2 : Hid (Below W.heap.size W u2) := HW_u1.out.trans (hbx.mono HW_u1.out.size)
      have hsS : u2.cell? ⟨g4, 0, none⟩ = some (.int .i64 0) ∧ u2.cell? ⟨g4, 1, none⟩ = some (.slice a2 L.length c2) := ⟨(HW_u2.out.cell (p := ⟨g4, 0, none⟩) hg2).trans k0, (HW_u2.out.cell (p := ⟨g4, 1, none⟩) hg2).trans k1⟩
      refine hK.out _ _ hsS (fun hHeld => ?_)
      clear hK K
      clear hsS hbx
      refine wpAnyH_take (i := 14) (v := ?_) rfl (by kernel_rfl) (by kernel_rfl) (by kernel_rfl) (fun _ _ _ h => h) (Or.inl ⟨by rfl, ?hy15⟩) (by assumption) ?ty15
      case hy15 => (intro w hSw; (try dsimp only at hSw); go_simp; all_goals first | with_reducible rfl | (rw [if_pos (by omega)]))
      simp only [Act.put, List.getElem_toArray, List.getElem_cons_zero, List.getElem_cons_succ, List.setIfInBounds_toArray, List.set_cons_zero, List.set_cons_succ]
      refine wpAnyH_take (i := 16) (v := .bool false) rfl (by kernel_rfl) (by kernel_rfl) (by kernel_rfl) (fun _ _ _ h => h) (Or.inl ⟨by rfl, ?hy16⟩) (by assumption) ?ty16
      case hy16 => (intro w hSw; (try dsimp only at hSw); go_simp; all_goals first | omega | (simp; done) | (simp; omega) | with_reducible rfl)
      simp only [Act.put, List.getElem_toArray, List.getElem_cons_zero, List.getElem_cons_succ, List.setIfInBounds_toArray, List.set_cons_zero, List.set_cons_succ]
      refine wpAnyH_take (i := 17) (v := ?_) rfl (by kernel_rfl) (by kernel_rfl) (by kernel_rfl) (fun _ _ _ h => h) (Or.inl ⟨by rfl, ?hy17⟩) (by assumption) ?ty17
      case hy17 => (intro w hSw; (try dsimp only at hSw); go_simp; all_goals first | with_reducible rfl | (rw [if_pos (by omega)]))
      simp only [Act.put, List.getElem_toArray, List.getElem_cons_zero, List.getElem_cons_succ, List.setIfInBounds_toArray, List.set_cons_zero, List.set_cons_succ]
      refine wpAnyH_take (i := 18) (v := ?_) rfl (by kernel_rfl) (by kernel_rfl) (by kernel_rfl) (fun _ _ _ h => h) (Or.inl ⟨by rfl, ?hy18⟩) (by assumption) ?ty18
      case hy18 => (intro w hSw; (try dsimp only at hSw); go_simp; all_goals first | with_reducible rfl | (rw [if_pos (by omega)]))
      simp only [Act.put, List.getElem_toArray, List.getElem_cons_zero, List.getElem_cons_succ, List.setIfInBounds_toArray, List.set_cons_zero, List.set_cons_succ]
      refine wpAnyH_done (by kernel_rfl) ?_ _
      have HB5 : Hid (Below w.heap.size w u2) := HB2.out.trans (HW_u2.out.mono HB2.out.size)
      clear hHeld HW_u1 HW_u2 HSTx HB2 HPS hr2 k0 k1 hg2 HBK HBN
      generalize u2 = V5 at *
      go_wp2_with fail
      refine (drawSetOf_any a n cap l V5 hl (hr.below HB5.out) hB (by omega)).mono ?_
      rintro e w6 ⟨v6, ns, rfl, ho6, hnl, hb6⟩
      obtain ⟨a6, c6, hv, -, -⟩ := ho6.form
      subst hv
      have hr6 := ho6.rd.2
      have HB6 : Hid (Below w.heap.size w w6) := HB5.out.trans (hb6.mono HB5.out.size)
      have HSI : Hid (∀ w, RdI w a6 ns → Calls Tryz.prog 10 #[.slice a6 ns.length c6] w fun e w' => RngEndY (soV ns) w e w') := fun w hr => setOf_any a6 ns.length c6 ns w rfl hr (by omega)
      have HSP : Hid (∀ w, RdI w a6 ns → Calls Tryz.prog 11 #[.slice a6 ns.length c6] w fun e w' => RngEndY (soV ns) w e w') := fun w hr => specSetOf_any a6 ns.length c6 ns w rfl hr (by omega)
      have hsf := soV_few ns
      have HSB : Hid ((soV ns).1 = 0 → exV (soV ns).2 999 = (0, ns)) := fun h => so_back h
      have HSN : Hid ((soV ns).1 ≠ 0 → soV ns = ((soV ns).1, [])) := fun h => soV_bad h
      have HLN : Hid (∀ (d : Option Addr) (dc : Nat) w, RdI w d ns → RdI w a6 ns → Calls Tryz.prog 12 #[.slice d ns.length dc, .slice a6 ns.length c6] w fun e w' => e = .returned (.bool true) ∧ Below w.heap.size w w') := fun d dc w h1 h2 => by
        have h := lwNums_any d a6 ns.length ns.length dc c6 ns ns w rfl rfl h1 h2 (by omega) (by omega)
        rw [decide_eq_true rfl] at h; exact h
      have HEX : Hid (∀ (d : Option Addr) (dc : Nat) (R : List YgP) w, R.length ≤ 8 → RdY w d R → Calls Tryz.prog 13 #[.slice d R.length dc, .int .i64 999] w fun e w' => NumEndY (exV R 999) w e w') := fun d dc R w hR hr => expandSet_any 999 d R.length dc R w rfl hr (by omega)
      clear ho6 hb6 HB5
      generalize soV ns = u at *
      obtain ⟨c, R⟩ := u
      simp only at hsf HSB HSN HSI HSP
      go_wp2_with fail
      refine (HSI.out _ hr6).mono ?_
      rintro e w7 ⟨v7, rfl, ho7, hb7⟩
      simp only at ho7 ⊢
      obtain ⟨a7, c7, hv, -, -⟩ := ho7.form
      subst hv
      have hbA : Below w7.heap.size w7 (w7.alloc (.cells #[.int .i64 c, .slice a7 R.length c7] 27)) := (Below.refl _ _).alloc (Nat.le_refl _) _
      have hb7' := hb7.trans (hbA.mono hb7.size)
      have hrR := ho7.rd.2.below hbA
      have hrN := hr6.below hb7'
      have HB7 : Hid (Below w.heap.size w (w7.alloc (.cells #[.int .i64 c, .slice a7 R.length c7] 27))) := HB6.out.trans (hb7'.mono HB6.out.size)
      obtain ⟨k0, k1, -, -⟩ := res_block (w := w7) (wr := w7.alloc (.cells #[.int .i64 c, .slice a7 R.length c7] 27)) rfl (Below.refl _ _)
      have hg6 : w7.heap.size < (w7.alloc (.cells #[.int .i64 c, .slice a7 R.length c7] 27)).heap.size := by simp
      clear hb7 hb7' hbA ho7 HSI hr6 HB6
      go_wp2_with fail
      generalize w7.alloc (.cells #[.int .i64 c, .slice a7 R.length c7] 27) = X at *
      generalize w7.heap.size = g6 at *
      by_cases hc : c = 0
      · subst hc
        have hex := HSB.out rfl
        have HEXx : Hid (∀ w, RdY w a7 R → Calls Tryz.prog 13 #[.slice a7 R.length c7, .int .i64 999] w fun e w' => NumEndY (0, ns) w e w') := fun w hr => by
          have h := HEX.out a7 c7 R w hsf hr
          rw [hex] at h; exact h
        clear hex
        refine wp_region_held_drew (S := fun w' => w'.cell? ⟨g6, 0, none⟩ = some (.int .i64 0) ∧ w'.cell? ⟨g6, 1, none⟩ = some (.slice a7 R.length c7)) (by kernel_rfl) ?hS19 (fun hHeld => ?_)
        case hS19 => exact ⟨k0, k1⟩
        refine wpAnyH_take (i := 0) (v := ?_) rfl (by kernel_rfl) (by kernel_rfl) (by kernel_rfl) (fun _ _ _ h => h) (Or.inl ⟨by rfl, ?hy20⟩) (by assumption) ?ty20
        case hy20 => (intro w hSw; (try dsimp only at hSw); go_simp; all_goals first | with_reducible rfl | (rw [if_pos (by omega)]))
        simp only [Act.put, List.getElem_toArray, List.getElem_cons_zero, List.setIfInBounds_toArray, List.set_cons_zero, List.set_cons_succ]
        refine wpAnyH_take (i := 1) (v := ?_) rfl (by kernel_rfl) (by kernel_rfl) (by kernel_rfl) (fun _ _ _ h => h) (Or.inl ⟨by rfl, ?hy21⟩) (by assumption) ?ty21
        case hy21 => (intro w hSw; (try dsimp only at hSw); go_simp; all_goals first | with_reducible rfl | (rw [if_pos (by omega)]))
        simp only [Act.put, List.getElem_toArray, List.getElem_cons_zero, List.getElem_cons_succ, List.setIfInBounds_toArray, List.set_cons_zero, List.set_cons_succ]
        refine wpAnyH_take (i := 2) (v := ?_) rfl (by kernel_rfl) (by kernel_rfl) (by kernel_rfl) (fun _ _ _ h => h) (Or.inl ⟨by rfl, ?hy22⟩) (by assumption) ?ty22
        case hy22 => (intro w hSw; (try dsimp only at hSw); go_simp; all_goals first | with_reducible rfl | (rw [if_pos (by omega)]))
        simp only [Act.put, List.getElem_toArray, List.getElem_cons_zero, List.getElem_cons_succ, List.setIfInBounds_toArray, List.set_cons_zero, List.set_cons_succ]
        refine wpAnyH_ready (rs := [3]) (by kernel_rfl) (by simp) ?_
        refine AllReadyH.cons rfl (fun K hK => ?_) AllReadyH.nil
        go_simp
        refine (HSP.out _ (by exact hrN)).mono ?_
        rintro e u1 ⟨v8, rfl, hown8, hbx⟩
        simp only
        obtain ⟨b3, c3, hv, -, -⟩ := hown8.form
        rw [hv]
        clear hv hown8
        have HW_u1 : Hid (Below X.heap.size X u1) := (Below.refl _ _).drew.trans hbx
        have hsS : u1.cell? ⟨g6, 0, none⟩ = some (.int .i64 0) ∧ u1.cell? ⟨g6, 1, none⟩ = some (.slice a7 R.length c7) := ⟨(HW_u1.out.cell (p := ⟨g6, 0, none⟩) hg6).trans k0, (HW_u1.out.cell (p := ⟨g6, 1, none⟩) hg6).trans k1⟩
        refine hK.out _ _ hsS (fun hHeld => ?_)
        clear hK K
        clear hsS hbx
        refine wpAnyH_take (i := 4) (v := ?_) rfl (by kernel_rfl) (by kernel_rfl) (by kernel_rfl) (fun _ _ _ h => h) (Or.inl ⟨by rfl, ?hy23⟩) (by assumption) ?ty23
        case hy23 => (intro w hSw; (try dsimp only at hSw); go_simp; all_goals first | with_reducible rfl | (rw [if_pos (by omega)]))
        simp only [Act.put, List.getElem_toArray, List.getElem_cons_zero, List.getElem_cons_succ, List.setIfInBounds_toArray, List.set_cons_zero, List.set_cons_succ]
        refine wpAnyH_take (i := 5) (v := .bool false) rfl (by kernel_rfl) (by kernel_rfl) (by kernel_rfl) (fun _ _ _ h => h) (Or.inl ⟨by rfl, ?hy24⟩) (by assumption) ?ty24
        case hy24 => (intro w hSw; (try dsimp only at hSw); go_simp; all_goals first | omega | (simp; done) | (simp; omega) | with_reducible rfl)
        simp only [Act.put, List.getElem_toArray, List.getElem_cons_zero, List.getElem_cons_succ, List.setIfInBounds_toArray, List.set_cons_zero, List.set_cons_succ]
        refine wpAnyH_take (i := 6) (v := ?_) rfl (by kernel_rfl) (by kernel_rfl) (by kernel_rfl) (fun _ _ _ h => h) (Or.inl ⟨by rfl, ?hy25⟩) (by assumption) ?ty25
        case hy25 => (intro w hSw; (try dsimp only at hSw); go_simp; all_goals first | with_reducible rfl | (rw [if_pos (by omega)]))
        simp only [Act.put, List.getElem_toArray, List.getElem_cons_zero, List.getElem_cons_succ, List.setIfInBounds_toArray, List.set_cons_zero, List.set_cons_succ]
        refine wpAnyH_take (i := 7) (v := ?_) rfl (by kernel_rfl) (by kernel_rfl) (by kernel_rfl) (fun _ _ _ h => h) (Or.inl ⟨by rfl, ?hy26⟩) (by assumption) ?ty26
        case hy26 => (intro w hSw; (try dsimp only at hSw); go_simp; all_goals first | with_reducible rfl | (rw [if_pos (by omega)]))
        simp only [Act.put, List.getElem_toArray, List.getElem_cons_zero, List.getElem_cons_succ, List.setIfInBounds_toArray, List.set_cons_zero, List.set_cons_succ]
        refine wpAnyH_take (i := 8) (v := ?_) rfl (by kernel_rfl) (by kernel_rfl) (by kernel_rfl) (fun _ _ _ h => h) (Or.inl ⟨by rfl, ?hy27⟩) (by assumption) ?ty27
        case hy27 => (intro w hSw; (try dsimp only at hSw); go_simp; all_goals first | with_reducible rfl | (rw [if_pos (by omega)]))
        simp only [Act.put, List.getElem_toArray, List.getElem_cons_zero, List.getElem_cons_succ, List.setIfInBounds_toArray, List.set_cons_zero, List.set_cons_succ]
        refine wpAnyH_take (i := 9) (v := .bool true) rfl (by kernel_rfl) (by kernel_rfl) (by kernel_rfl) (fun _ _ _ h => h) (Or.inl ⟨by rfl, ?hy28⟩) (by assumption) ?ty28
        case hy28 => (intro w hSw; (try dsimp only at hSw); go_simp; all_goals first | omega | (simp; done) | (simp; omega) | with_reducible rfl)
        simp only [Act.put, List.getElem_toArray, List.getElem_cons_zero, List.getElem_cons_succ, List.setIfInBounds_toArray, List.set_cons_zero, List.set_cons_succ]
        refine wpAnyH_take (i := 10) (v := ?_) rfl (by kernel_rfl) (by kernel_rfl) (by kernel_rfl) (fun _ _ _ h => h) (Or.inl ⟨by rfl, ?hy29⟩) (by assumption) ?ty29
        case hy29 => (intro w hSw; (try dsimp only at hSw); go_simp; all_goals first | with_reducible rfl | (rw [if_pos (by omega)]))
        simp only [Act.put, List.getElem_toArray, List.getElem_cons_zero, List.getElem_cons_succ, List.setIfInBounds_toArray, List.set_cons_zero, List.set_cons_succ]
        refine wpAnyH_take (i := 11) (v := ?_) rfl (by kernel_rfl) (by kernel_rfl) (by kernel_rfl) (fun _ _ _ h => h) (Or.inl ⟨by rfl, ?hy30⟩) (by assumption) ?ty30
        case hy30 => (intro w hSw; (try dsimp only at hSw); go_simp; all_goals first | with_reducible rfl | (rw [if_pos (by omega)]))
        simp only [Act.put, List.getElem_toArray, List.getElem_cons_zero, List.getElem_cons_succ, List.setIfInBounds_toArray, List.set_cons_zero, List.set_cons_succ]
        refine wpAnyH_take (i := 12) (v := ?_) rfl (by kernel_rfl) (by kernel_rfl) (by kernel_rfl) (fun _ _ _ h => h) (Or.inl ⟨by rfl, ?hy31⟩) (by assumption) ?ty31
        case hy31 => (intro w hSw; (try dsimp only at hSw); go_simp; all_goals first | with_reducible rfl | (rw [if_pos (by omega)]))
        simp only [Act.put, List.getElem_toArray, List.getElem_cons_zero, List.getElem_cons_succ, List.setIfInBounds_toArray, List.set_cons_zero, List.set_cons_succ]
        refine wpAnyH_take (i := 15) (v := ?_) rfl (by kernel_rfl) (by kernel_rfl) (by kernel_rfl) (fun _ _ _ h => h) (Or.inl ⟨by rfl, ?hy32⟩) (by assumption) ?ty32
        case hy32 => (intro w hSw; (try dsimp only at hSw); go_simp; all_goals first | with_reducible rfl | (rw [if_pos (by omega)]))
        simp only [Act.put, List.getElem_toArray, List.getElem_cons_zero, List.getElem_cons_succ, List.setIfInBounds_toArray, List.set_cons_zero, List.set_cons_succ]
        refine wpAnyH_ready (rs := [13]) (by kernel_rfl) (by simp) ?_
        refine AllReadyH.cons rfl (fun K hK => ?_) AllReadyH.nil
        go_simp
        refine (HEXx.out _ (by exact hrR.below HW_u1.out)).mono ?_
        rintro e u2 ⟨v9, rfl, hown9, hbx⟩
        simp only at hown9 ⊢
        obtain ⟨b4, c4, hv, -, -⟩ := hown9.form
        rw [hv] at hown9 ⊢
        clear hv
        have HW_u2 : Hid (Below X.heap.size X u2) := HW_u1.out.trans (hbx.mono HW_u1.out.size)
        have hsS : u2.cell? ⟨g6, 0, none⟩ = some (.int .i64 0) ∧ u2.cell? ⟨g6, 1, none⟩ = some (.slice a7 R.length c7) := ⟨(HW_u2.out.cell (p := ⟨g6, 0, none⟩) hg6).trans k0, (HW_u2.out.cell (p := ⟨g6, 1, none⟩) hg6).trans k1⟩
        refine hK.out _ _ hsS (fun hHeld => ?_)
        clear hK K
        clear hsS hbx
        refine wpAnyH_take (i := 14) (v := ?_) rfl (by kernel_rfl) (by kernel_rfl) (by kernel_rfl) (fun _ _ _ h => h) (Or.inl ⟨by rfl, ?hy33⟩) (by assumption) ?ty33
        case hy33 => (intro w hSw; (try dsimp only at hSw); go_simp; all_goals first | with_reducible rfl | (rw [if_pos (by omega)]))
        simp only [Act.put, List.getElem_toArray, List.getElem_cons_zero, List.getElem_cons_succ, List.setIfInBounds_toArray, List.set_cons_zero, List.set_cons_succ]
        refine wpAnyH_ready (rs := [16]) (by kernel_rfl) (by simp) ?_
        refine AllReadyH.cons rfl (fun K hK => ?_) AllReadyH.nil
        go_simp
        refine (HLN.out _ _ _ (by exact hown9.rd.2) (by exact hrN.below HW_u2.out)).mono ?_
        rintro e u3 ⟨rfl, hbx⟩
        have HW_u3 : Hid (Below X.heap.size X u3) := HW_u2.out.trans (hbx.mono HW_u2.out.size)
        have hsS : u3.cell? ⟨g6, 0, none⟩ = some (.int .i64 0) ∧ u3.cell? ⟨g6, 1, none⟩ = some (.slice a7 R.length c7) := ⟨(HW_u3.out.cell (p := ⟨g6, 0, none⟩) hg6).trans k0, (HW_u3.out.cell (p := ⟨g6, 1, none⟩) hg6).trans k1⟩
        refine hK.out _ _ hsS (fun hHeld => ?_)
        clear hK K
        clear hsS hbx
        refine wpAnyH_take (i := 17) (v := .bool false) rfl (by kernel_rfl) (by kernel_rfl) (by kernel_rfl) (fun _ _ _ h => h) (Or.inl ⟨by rfl, ?hy34⟩) (by assumption) ?ty34
        case hy34 => (intro w hSw; (try dsimp only at hSw); go_simp; all_goals first | omega | (simp; done) | (simp; omega) | with_reducible rfl)
        simp only [Act.put, List.getElem_toArray, List.getElem_cons_zero, List.getElem_cons_succ, List.setIfInBounds_toArray, List.set_cons_zero, List.set_cons_succ]
        refine wpAnyH_take (i := 18) (v := ?_) rfl (by kernel_rfl) (by kernel_rfl) (by kernel_rfl) (fun _ _ _ h => h) (Or.inl ⟨by rfl, ?hy35⟩) (by assumption) ?ty35
        case hy35 => (intro w hSw; (try dsimp only at hSw); go_simp; all_goals first | with_reducible rfl | (rw [if_pos (by omega)]))
        simp only [Act.put, List.getElem_toArray, List.getElem_cons_zero, List.getElem_cons_succ, List.setIfInBounds_toArray, List.set_cons_zero, List.set_cons_succ]
        refine wpAnyH_take (i := 19) (v := ?_) rfl (by kernel_rfl) (by kernel_rfl) (by kernel_rfl) (fun _ _ _ h => h) (Or.inl ⟨by rfl, ?hy36⟩) (by assumption) ?ty36
        case hy36 => (intro w hSw; (try dsimp only at hSw); go_simp; all_goals first | with_reducible rfl | (rw [if_pos (by omega)]))
        simp only [Act.put, List.getElem_toArray, List.getElem_cons_zero, List.getElem_cons_succ, List.setIfInBounds_toArray, List.set_cons_zero, List.set_cons_succ]
        refine wpAnyH_done (by kernel_rfl) ?_ _
        have HB9 : Hid (Below w.heap.size w u3) := HB7.out.trans (HW_u3.out.mono HB7.out.size)
        clear hHeld HW_u1 HW_u2 HW_u3 HEXx hown9 HB7 HSP hrR hrN k0 k1 hg6 HSB HSN HLN HEX
        generalize u3 = V9 at *
        go_wp2_with fail
        refine (drawSetText_any a n cap l V9 hl (hr.below HB9.out) hB (by omega)).mono ?_
        rintro e wA ⟨vA, Q, rfl, hoA, hQl, hbX⟩
        obtain ⟨aA, cA, hv, -, -⟩ := hoA.form
        subst hv
        have hrA := hoA.rd.2
        have HBA : Hid (Below w.heap.size w wA) := HB9.out.trans (hbX.mono HB9.out.size)
        have HSX : Hid (∀ w, RdY w aA Q → Calls Tryz.prog 15 #[.slice aA Q.length cA] w fun e w' => e = .returned (.agg #[.int .i64 (stT Q).1, .string (str (stT Q).2)]) ∧ Below w.heap.size w w') := fun w hr => specSetText_any aA Q.length cA Q w rfl hr (by omega)
        have HRF : Hid (∀ w, RdY w aA Q → Calls Tryz.prog 16 #[.slice aA Q.length cA] w fun e w' => e = .returned (.int .i64 (rfV Q)) ∧ Below w.heap.size w w') := fun w hr => rangesFault_any aA Q.length cA Q w rfl hr (by omega)
        have HSY : Hid (∀ w, RdY w aA Q → TabW w → Calls Tryz.prog 8 #[.slice aA Q.length cA] w fun e w' => e = .returned (.agg #[.int .i64 (stT Q).1, .string (str (stT Q).2)]) ∧ Below w.heap.size w w') := fun w hr ht => HST.out aA cA Q w hQl hr ht
        clear hoA hbX HB9 HST
        by_cases h0 : rfV Q = 0
        · rw [stT_ok h0] at HSX HSY
          simp only at HSX HSY
          obtain ⟨hQA, hQ1, hQ8⟩ := rfV_A h0
          have hpt := pmV_tx h0
          have hsmall := txY_small hQA
          have htl8 := txY_len Q
          have hpos := txY_pos hQ1
          have hszQ : (str (txY Q)).size ≤ 72 := by rw [str_size]; omega
          have HPQ : Hid (∀ w, VarE w → TabW w → Calls Tryz.prog 6 #[.string (str (txY Q))] w fun e w' => RngEndY (0, Q) w e w') := fun w hv ht => by
            have h := parseSet_any (str (txY Q)) w (by omega) hv ht
            rw [pp_pm, bsN_str hsmall, hpt] at h; exact h
          have hne1 : (str (txY Q)).toList.isEmpty = false := by
            rw [str_toList]
            cases hq : txY Q with
            | nil => rw [hq] at hpos; simp at hpos
            | cons x r => rfl
          have hne2 : ((str (txY Q)).toList == []) = false := by
            rw [str_toList]
            cases hq : txY Q with
            | nil => rw [hq] at hpos; simp at hpos
            | cons x r => rfl
          have hne3 : ((str (txY Q)).toList != []) = true := by rw [bne, hne2]; rfl
          clear hpt hsmall htl8 hpos HSX HRF
          generalize str (txY Q) = sQ at *
          go_wp2_with fail
          refine (HSY.out _ hrA (TabW.below htW HBA.out)).mono ?_
          rintro e wB ⟨rfl, hbB⟩
          have hbN : Below wB.heap.size wB (wB.alloc (.cells #[.int .i64 0, .string sQ] 30)) := (Below.refl _ _).alloc (Nat.le_refl _) _
          have hbB' := hbB.trans (hbN.mono hbB.size)
          have hrB := hrA.below hbB'
          have HBB : Hid (Below w.heap.size w (wB.alloc (.cells #[.int .i64 0, .string sQ] 30))) := HBA.out.trans (hbB'.mono HBA.out.size)
          obtain ⟨k0, k1, -, -⟩ := res_block (w := wB) (wr := wB.alloc (.cells #[.int .i64 0, .string sQ] 30)) rfl (Below.refl _ _)
          have hg8 : wB.heap.size < (wB.alloc (.cells #[.int .i64 0, .string sQ] 30)).heap.size := by simp
          clear hbB hbB' hbN hrA HBA HSY
          go_wp2_with fail
          generalize wB.alloc (.cells #[.int .i64 0, .string sQ] 30) = Y at *
          generalize wB.heap.size = g8 at *
          refine (HPQ.out _ (htE.below HBB.out) (TabW.below htW HBB.out)).mono ?_
          rintro e wC ⟨vC, rfl, hoC, hbC⟩
          simp only at hoC ⊢
          obtain ⟨aC, cC, hv, -, -⟩ := hoC.form
          subst hv
          have hbN : Below wC.heap.size wC (wC.alloc (.cells #[.int .i64 0, .slice aC Q.length cC] 27)) := (Below.refl _ _).alloc (Nat.le_refl _) _
          have hbC' := hbC.trans (hbN.mono hbC.size)
          have hrC := hrB.below hbC'
          have hrD := hoC.rd.2.below hbN
          have HBC : Hid (Below w.heap.size w (wC.alloc (.cells #[.int .i64 0, .slice aC Q.length cC] 27))) := HBB.out.trans (hbC'.mono HBB.out.size)
          have j1 := (hbC'.cell (p := ⟨g8, 1, none⟩) hg8).trans k1
          have hg8' : g8 < (wC.alloc (.cells #[.int .i64 0, .slice aC Q.length cC] 27)).heap.size := Nat.lt_of_lt_of_le hg8 hbC'.size
          obtain ⟨m0, m1, -, -⟩ := res_block (w := wC) (wr := wC.alloc (.cells #[.int .i64 0, .slice aC Q.length cC] 27)) rfl (Below.refl _ _)
          have hg9 : wC.heap.size < (wC.alloc (.cells #[.int .i64 0, .slice aC Q.length cC] 27)).heap.size := by simp
          clear hbC hbC' hbN hoC hrB HBB k0 k1 hg8 HPQ
          go_wp2
          generalize wC.alloc (.cells #[.int .i64 0, .slice aC Q.length cC] 27) = Z at *
          generalize wC.heap.size = g9 at *
          obtain ⟨M, hM⟩ : ∃ M, Q.length = M := ⟨_, rfl⟩
          rw [hM] at m1 hQl hQ8 hQ1 ⊢
          obtain ⟨bA, oA, eA, hbAl, hcA⟩ := hrC.at_ (by omega)
          obtain ⟨bC, oC, eC, hbCl, hcC⟩ := hrD.at_ (by omega)
          subst eA
          subst eC
          go_loopw [10] (fun i wr => ∃ k : Nat, k ≤ M ∧ i = .int .i64 (k : Int) ∧ Below Z.heap.size Z wr) (fun i _ => M - (intOf i).toNat)
          case atStart => exact ⟨0, by omega, rfl, Below.refl _ _⟩
          case round =>
            obtain ⟨k, hk, rfl, hbel⟩ := hrel
            by_cases hkM : k < M
            · have hki : (k : Int) < (M : Int) := by omega
              have x1 : wr.cell? ⟨g9, 1, none⟩ = some (.slice (some ⟨bC, oC, none⟩) M cC) := (hbel.cell (p := ⟨g9, 1, none⟩) hg9).trans m1
              have p0 : wr.cell? ⟨bA, oA + k * 2, none⟩ = some (.int .i64 (nthY Q k).1) := (hbel.cell (p := ⟨bA, oA + k * 2, none⟩) hbAl).trans (hcA k (by omega)).1
              have p1 : wr.cell? ⟨bA, oA + k * 2 + 1, none⟩ = some (.int .i64 (nthY Q k).2) := (hbel.cell (p := ⟨bA, oA + k * 2 + 1, none⟩) hbAl).trans (hcA k (by omega)).2
              have q0 : wr.cell? ⟨bC, oC + k * 2, none⟩ = some (.int .i64 (nthY Q k).1) := (hbel.cell (p := ⟨bC, oC + k * 2, none⟩) hbCl).trans (hcC k (by omega)).1
              have q1 : wr.cell? ⟨bC, oC + k * 2 + 1, none⟩ = some (.int .i64 (nthY Q k).2) := (hbel.cell (p := ⟨bC, oC + k * 2 + 1, none⟩) hbCl).trans (hcC k (by omega)).2
              generalize (nthY Q k).1 = f at *
              generalize (nthY Q k).2 = g at *
              go_wp2_with fail
              refine wp_region_held_drew (S := fun w' => w'.cell? ⟨g9, 1, none⟩ = some (.slice (some ⟨bC, oC, none⟩) M cC) ∧ (w'.cell? ⟨bA, oA + k * 2, none⟩ = some (.int .i64 f) ∧ w'.cell? ⟨bA, oA + k * 2 + 1, none⟩ = some (.int .i64 g)) ∧ (w'.cell? ⟨bC, oC + k * 2, none⟩ = some (.int .i64 f) ∧ w'.cell? ⟨bC, oC + k * 2 + 1, none⟩ = some (.int .i64 g))) (by kernel_rfl) ?hS37 (fun hHeld => ?_)
              case hS37 => exact ⟨x1, ⟨p0, p1⟩, ⟨q0, q1⟩⟩
              refine wpAnyH_take (i := 0) (v := ?_) rfl (by kernel_rfl) (by kernel_rfl) (by kernel_rfl) (fun _ _ _ h => h) (Or.inl ⟨by rfl, ?hy38⟩) (by assumption) ?ty38
              case hy38 => (intro w hSw; (try dsimp only at hSw); go_simp; all_goals first | with_reducible rfl | (rw [if_pos (by omega)]))
              simp only [Act.put, List.getElem_toArray, List.getElem_cons_zero, List.setIfInBounds_toArray, List.set_cons_zero, List.set_cons_succ]
              refine wpAnyH_take (i := 1) (v := ?_) rfl (by kernel_rfl) (by kernel_rfl) (by kernel_rfl) (fun _ _ _ h => h) (Or.inl ⟨by rfl, ?hy39⟩) (by assumption) ?ty39
              case hy39 => (intro w hSw; (try dsimp only at hSw); go_simp; all_goals first | with_reducible rfl | (rw [if_pos (by omega)]))
              simp only [Act.put, List.getElem_toArray, List.getElem_cons_zero, List.getElem_cons_succ, List.setIfInBounds_toArray, List.set_cons_zero, List.set_cons_succ]
              refine wpAnyH_take (i := 2) (v := ?_) rfl (by kernel_rfl) (by kernel_rfl) (by kernel_rfl) (fun _ _ _ h => h) (Or.inl ⟨by rfl, ?hy40⟩) (by assumption) ?ty40
              case hy40 => (intro w hSw; (try dsimp only at hSw); go_simp; all_goals first | with_reducible rfl | (rw [if_pos (by omega)]))
              simp only [Act.put, List.getElem_toArray, List.getElem_cons_zero, List.getElem_cons_succ, List.setIfInBounds_toArray, List.set_cons_zero, List.set_cons_succ]
              refine wpAnyH_take (i := 3) (v := ?_) rfl (by kernel_rfl) (by kernel_rfl) (by kernel_rfl) (fun _ _ _ h => h) (Or.inl ⟨by rfl, ?hy41⟩) (by assumption) ?ty41
              case hy41 => (intro w hSw; (try dsimp only at hSw); go_simp; all_goals first | with_reducible rfl | (rw [if_pos (by omega)]))
              simp only [Act.put, List.getElem_toArray, List.getElem_cons_zero, List.getElem_cons_succ, List.setIfInBounds_toArray, List.set_cons_zero, List.set_cons_succ]
              refine wpAnyH_take (i := 4) (v := ?_) rfl (by kernel_rfl) (by kernel_rfl) (by kernel_rfl) (fun _ _ _ h => h) (Or.inl ⟨by rfl, ?hy42⟩) (by assumption) ?ty42
              case hy42 => (intro w hSw; (try dsimp only at hSw); go_simp; all_goals first | with_reducible rfl | (rw [if_pos (by omega)]))
              simp only [Act.put, List.getElem_toArray, List.getElem_cons_zero, List.getElem_cons_succ, List.setIfInBounds_toArray, List.set_cons_zero, List.set_cons_succ]
              refine wpAnyH_take (i := 5) (v := ?_) rfl (by kernel_rfl) (by kernel_rfl) (by kernel_rfl) (fun _ _ _ h => h) (Or.inl ⟨by rfl, ?hy43⟩) (by assumption) ?ty43
              case hy43 => (intro w hSw; (try dsimp only at hSw); go_simp; all_goals first | with_reducible rfl | (rw [if_pos (by omega)]))
              simp only [Act.put, List.getElem_toArray, List.getElem_cons_zero, List.getElem_cons_succ, List.setIfInBounds_toArray, List.set_cons_zero, List.set_cons_succ]
              refine wpAnyH_take (i := 6) (v := ?_) rfl (by kernel_rfl) (by kernel_rfl) (by kernel_rfl) (fun _ _ _ h => h) (Or.inl ⟨by rfl, ?hy44⟩) (by assumption) ?ty44
              case hy44 => (intro w hSw; (try dsimp only at hSw); go_simp; all_goals first | with_reducible rfl | (rw [if_pos (by omega)]))
              simp only [Act.put, List.getElem_toArray, List.getElem_cons_zero, List.getElem_cons_succ, List.setIfInBounds_toArray, List.set_cons_zero, List.set_cons_succ]
              refine wpAnyH_take (i := 7) (v := ?_) rfl (by kernel_rfl) (by kernel_rfl) (by kernel_rfl) (fun _ _ _ h => h) (Or.inl ⟨by rfl, ?hy45⟩) (by assumption) ?ty45
              case hy45 => (intro w hSw; (try dsimp only at hSw); go_simp; all_goals first | with_reducible rfl | (rw [if_pos (by omega)]))
              simp only [Act.put, List.getElem_toArray, List.getElem_cons_zero, List.getElem_cons_succ, List.setIfInBounds_toArray, List.set_cons_zero, List.set_cons_succ]
              refine wpAnyH_take (i := 8) (v := ?_) rfl (by kernel_rfl) (by kernel_rfl) (by kernel_rfl) (fun _ _ _ h => h) (Or.inl ⟨by rfl, ?hy46⟩) (by assumption) ?ty46
              case hy46 => (intro w hSw; (try dsimp only at hSw); go_simp; all_goals first | with_reducible rfl | (rw [if_pos (by omega)]))
              simp only [Act.put, List.getElem_toArray, List.getElem_cons_zero, List.getElem_cons_succ, List.setIfInBounds_toArray, List.set_cons_zero, List.set_cons_succ]
              refine wpAnyH_take (i := 9) (v := .bool false) rfl (by kernel_rfl) (by kernel_rfl) (by kernel_rfl) (fun _ _ _ h => h) (Or.inl ⟨by rfl, ?hy47⟩) (by assumption) ?ty47
              case hy47 => (intro w hSw; (try dsimp only at hSw); go_simp; all_goals first | omega | (simp; done) | (simp; omega) | with_reducible rfl)
              simp only [Act.put, List.getElem_toArray, List.getElem_cons_zero, List.getElem_cons_succ, List.setIfInBounds_toArray, List.set_cons_zero, List.set_cons_succ]
              refine wpAnyH_done (by kernel_rfl) ?_ _
              have hbel2 := hbel.drew
              clear hHeld
              go_wp2
              go_roundw
              case rel => exact ⟨k + 1, by omega, by go_num, hbel2⟩
              case measure => simp [intOf]; omega
            · have hki : ¬ (k : Int) < (M : Int) := by omega
              have x1 : wr.cell? ⟨g8, 1, none⟩ = some (.string sQ) := (hbel.cell (p := ⟨g8, 1, none⟩) hg8').trans j1
              have HF : Hid (Below w.heap.size w wr) := HBC.out.trans (hbel.mono HBC.out.size)
              clear hbel
              go_wp2
              go_ret
              exact ⟨rfl, HF.out⟩
        · rw [stT_bad h0] at HSX HSY
          simp only at HSX HSY
          obtain ⟨q, hq⟩ : ∃ q, q = rfV Q := ⟨_, rfl⟩
          rw [← hq] at HSX HSY HRF h0
          clear hq
          generalize str [] = sx at *
          have e0 : (q != 0) = true := by simp [h0]
          go_wp2_with fail
          refine (HSY.out _ hrA (TabW.below htW HBA.out)).mono ?_
          rintro e wB ⟨rfl, hbB⟩
          have hbN : Below wB.heap.size wB (wB.alloc (.cells #[.int .i64 q, .string sx] 30)) := (Below.refl _ _).alloc (Nat.le_refl _) _
          have hbB' := hbB.trans (hbN.mono hbB.size)
          have hrB := hrA.below hbB'
          have HBB : Hid (Below w.heap.size w (wB.alloc (.cells #[.int .i64 q, .string sx] 30))) := HBA.out.trans (hbB'.mono HBA.out.size)
          obtain ⟨k0, k1, -, -⟩ := res_block (w := wB) (wr := wB.alloc (.cells #[.int .i64 q, .string sx] 30)) rfl (Below.refl _ _)
          have hg8 : wB.heap.size < (wB.alloc (.cells #[.int .i64 q, .string sx] 30)).heap.size := by simp
          clear hbB hbB' hbN hrA HBA HSY
          go_wp2_with fail
          generalize wB.alloc (.cells #[.int .i64 q, .string sx] 30) = Y at *
          generalize wB.heap.size = g8 at *
          refine wp_region_held_drew (S := fun w' => w'.cell? ⟨g8, 0, none⟩ = some (.int .i64 q)) (by kernel_rfl) ?hS48 (fun hHeld => ?_)
          case hS48 => exact k0
          refine wpAnyH_take (i := 0) (v := ?_) rfl (by kernel_rfl) (by kernel_rfl) (by kernel_rfl) (fun _ _ _ h => h) (Or.inl ⟨by rfl, ?hy49⟩) (by assumption) ?ty49
          case hy49 => (intro w hSw; (try dsimp only at hSw); go_simp; all_goals first | with_reducible rfl | (rw [if_pos (by omega)]))
          simp only [Act.put, List.getElem_toArray, List.getElem_cons_zero, List.setIfInBounds_toArray, List.set_cons_zero, List.set_cons_succ]
          refine wpAnyH_take (i := 3) (v := ?_) rfl (by kernel_rfl) (by kernel_rfl) (by kernel_rfl) (fun _ _ _ h => h) (Or.inl ⟨by rfl, ?hy50⟩) (by assumption) ?ty50
          case hy50 => (intro w hSw; (try dsimp only at hSw); go_simp; all_goals first | with_reducible rfl | (rw [if_pos (by omega)]))
          simp only [Act.put, List.getElem_toArray, List.getElem_cons_zero, List.getElem_cons_succ, List.setIfInBounds_toArray, List.set_cons_zero, List.set_cons_succ]
          refine wpAnyH_take (i := 4) (v := ?_) rfl (by kernel_rfl) (by kernel_rfl) (by kernel_rfl) (fun _ _ _ h => h) (Or.inl ⟨by rfl, ?hy51⟩) (by assumption) ?ty51
          case hy51 => (intro w hSw; (try dsimp only at hSw); go_simp; all_goals first | with_reducible rfl | (rw [if_pos (by omega)]))
          simp only [Act.put, List.getElem_toArray, List.getElem_cons_zero, List.getElem_cons_succ, List.setIfInBounds_toArray, List.set_cons_zero, List.set_cons_succ]
          refine wpAnyH_ready (rs := [1]) (by kernel_rfl) (by simp) ?_
          refine AllReadyH.cons rfl (fun K hK => ?_) AllReadyH.nil
          go_simp
          refine (HSX.out _ (by exact hrB)).mono ?_
          rintro e u1 ⟨rfl, hbx⟩
          have HW_u1 : Hid (Below Y.heap.size Y u1) := (Below.refl _ _).drew.trans hbx
          have hsS : u1.cell? ⟨g8, 0, none⟩ = some (.int .i64 q) := (HW_u1.out.cell (p := ⟨g8, 0, none⟩) hg8).trans k0
          refine hK.out _ _ hsS (fun hHeld => ?_)
          clear hK K
          clear hsS hbx
          refine wpAnyH_take (i := 2) (v := ?_) rfl (by kernel_rfl) (by kernel_rfl) (by kernel_rfl) (fun _ _ _ h => h) (Or.inl ⟨by rfl, ?hy52⟩) (by assumption) ?ty52
          case hy52 => (intro w hSw; (try dsimp only at hSw); go_simp; all_goals first | with_reducible rfl | (rw [if_pos (by omega)]))
          simp only [Act.put, List.getElem_toArray, List.getElem_cons_zero, List.getElem_cons_succ, List.setIfInBounds_toArray, List.set_cons_zero, List.set_cons_succ]
          refine wpAnyH_take (i := 5) (v := .bool true) rfl (by kernel_rfl) (by kernel_rfl) (by kernel_rfl) (fun _ _ _ h => h) (Or.inl ⟨by rfl, ?hy53⟩) (by assumption) ?ty53
          case hy53 => (intro w hSw; (try dsimp only at hSw); go_simp; all_goals first | omega | (simp; done) | (simp; omega) | with_reducible rfl)
          simp only [Act.put, List.getElem_toArray, List.getElem_cons_zero, List.getElem_cons_succ, List.setIfInBounds_toArray, List.set_cons_zero, List.set_cons_succ]
          refine wpAnyH_take (i := 6) (v := ?_) rfl (by kernel_rfl) (by kernel_rfl) (by kernel_rfl) (fun _ _ _ h => h) (Or.inl ⟨by rfl, ?hy54⟩) (by assumption) ?ty54
          case hy54 => (intro w hSw; (try dsimp only at hSw); go_simp; all_goals first | with_reducible rfl | (rw [if_pos (by omega)]))
          simp only [Act.put, List.getElem_toArray, List.getElem_cons_zero, List.getElem_cons_succ, List.setIfInBounds_toArray, List.set_cons_zero, List.set_cons_succ]
          refine wpAnyH_take (i := 7) (v := ?_) rfl (by kernel_rfl) (by kernel_rfl) (by kernel_rfl) (fun _ _ _ h => h) (Or.inl ⟨by rfl, ?hy55⟩) (by assumption) ?ty55
          case hy55 => (intro w hSw; (try dsimp only at hSw); go_simp; all_goals first | with_reducible rfl | (rw [if_pos (by omega)]))
          simp only [Act.put, List.getElem_toArray, List.getElem_cons_zero, List.getElem_cons_succ, List.setIfInBounds_toArray, List.set_cons_zero, List.set_cons_succ]
          refine wpAnyH_take (i := 9) (v := ?_) rfl (by kernel_rfl) (by kernel_rfl) (by kernel_rfl) (fun _ _ _ h => h) (Or.inl ⟨by rfl, ?hy56⟩) (by assumption) ?ty56
          case hy56 => (intro w hSw; (try dsimp only at hSw); go_simp; all_goals first | with_reducible rfl | (rw [if_pos (by omega)]))
          simp only [Act.put, List.getElem_toArray, List.getElem_cons_zero, List.getElem_cons_succ, List.setIfInBounds_toArray, List.set_cons_zero, List.set_cons_succ]
          refine wpAnyH_take (i := 10) (v := ?_) rfl (by kernel_rfl) (by kernel_rfl) (by kernel_rfl) (fun _ _ _ h => h) (Or.inl ⟨by rfl, ?hy57⟩) (by assumption) ?ty57
          case hy57 => (intro w hSw; (try dsimp only at hSw); go_simp; all_goals first | with_reducible rfl | (rw [if_pos (by omega)]))
          simp only [Act.put, List.getElem_toArray, List.getElem_cons_zero, List.getElem_cons_succ, List.setIfInBounds_toArray, List.set_cons_zero, List.set_cons_succ]
          refine wpAnyH_ready (rs := [8]) (by kernel_rfl) (by simp) ?_
          refine AllReadyH.cons rfl (fun K hK => ?_) AllReadyH.nil
          go_simp
          refine (HRF.out _ (by exact hrB.below HW_u1.out)).mono ?_
          rintro e u2 ⟨rfl, hbx⟩
          have HW_u2 : Hid (Below Y.heap.size Y u2) := HW_u1.out.trans (hbx.mono HW_u1.out.size)
          have hsS : u2.cell? ⟨g8, 0, none⟩ = some (.int .i64 q) := (HW_u2.out.cell (p := ⟨g8, 0, none⟩) hg8).trans k0
          refine hK.out _ _ hsS (fun hHeld => ?_)
          clear hK K
          clear hsS hbx
          refine wpAnyH_take (i := 11) (v := .bool true) rfl (by kernel_rfl) (by kernel_rfl) (by kernel_rfl) (fun _ _ _ h => h) (Or.inl ⟨by rfl, ?hy58⟩) (by assumption) ?ty58
          case hy58 => (intro w hSw; (try dsimp only at hSw); go_simp; all_goals first | omega | (simp; done) | (simp; omega) | with_reducible rfl)
          simp only [Act.put, List.getElem_toArray, List.getElem_cons_zero, List.getElem_cons_succ, List.setIfInBounds_toArray, List.set_cons_zero, List.set_cons_succ]
          refine wpAnyH_take (i := 12) (v := ?_) rfl (by kernel_rfl) (by kernel_rfl) (by kernel_rfl) (fun _ _ _ h => h) (Or.inl ⟨by rfl, ?hy59⟩) (by assumption) ?ty59
          case hy59 => (intro w hSw; (try dsimp only at hSw); go_simp; all_goals first | with_reducible rfl | (rw [if_pos (by omega)]))
          simp only [Act.put, List.getElem_toArray, List.getElem_cons_zero, List.getElem_cons_succ, List.setIfInBounds_toArray, List.set_cons_zero, List.set_cons_succ]
          refine wpAnyH_take (i := 13) (v := ?_) rfl (by kernel_rfl) (by kernel_rfl) (by kernel_rfl) (fun _ _ _ h => h) (Or.inl ⟨by rfl, ?hy60⟩) (by assumption) ?ty60
          case hy60 => (intro w hSw; (try dsimp only at hSw); go_simp; all_goals first | with_reducible rfl | (rw [if_pos (by omega)]))
          simp only [Act.put, List.getElem_toArray, List.getElem_cons_zero, List.getElem_cons_succ, List.setIfInBounds_toArray, List.set_cons_zero, List.set_cons_succ]
          refine wpAnyH_done (by kernel_rfl) ?_ _
          have HF : Hid (Below w.heap.size w u2) := HBB.out.trans (HW_u2.out.mono HBB.out.size)
          clear hHeld HW_u1 HW_u2 HSX HRF HBB hrB
          go_wp2
          go_ret
          exact ⟨rfl, HF.out⟩
      · have e0 : (c == 0) = false := beq_eq_false_iff_ne.2 hc
        refine wp_region_held_drew (S := fun w' => w'.cell? ⟨g6, 0, none⟩ = some (.int .i64 c) ∧ w'.cell? ⟨g6, 1, none⟩ = some (.slice a7 R.length c7)) (by kernel_rfl) ?hS61 (fun hHeld => ?_)
        case hS61 => exact ⟨k0, k1⟩
        refine wpAnyH_take (i := 0) (v := ?_) rfl (by kernel_rfl) (by kernel_rfl) (by kernel_rfl) (fun _ _ _ h => h) (Or.inl ⟨by rfl, ?hy62⟩) (by assumption) ?ty62
        case hy62 => (intro w hSw; (try dsimp only at hSw); go_simp; all_goals first | with_reducible rfl | (rw [if_pos (by omega)]))
        simp only [Act.put, List.getElem_toArray, List.getElem_cons_zero, List.setIfInBounds_toArray, List.set_cons_zero, List.set_cons_succ]
        refine wpAnyH_take (i := 1) (v := ?_) rfl (by kernel_rfl) (by kernel_rfl) (by kernel_rfl) (fun _ _ _ h => h) (Or.inl ⟨by rfl, ?hy63⟩) (by assumption) ?ty63
        case hy63 => (intro w hSw; (try dsimp only at hSw); go_simp; all_goals first | with_reducible rfl | (rw [if_pos (by omega)]))
        simp only [Act.put, List.getElem_toArray, List.getElem_cons_zero, List.getElem_cons_succ, List.setIfInBounds_toArray, List.set_cons_zero, List.set_cons_succ]
        refine wpAnyH_take (i := 2) (v := ?_) rfl (by kernel_rfl) (by kernel_rfl) (by kernel_rfl) (fun _ _ _ h => h) (Or.inl ⟨by rfl, ?hy64⟩) (by assumption) ?ty64
        case hy64 => (intro w hSw; (try dsimp only at hSw); go_simp; all_goals first | with_reducible rfl | (rw [if_pos (by omega)]))
        simp only [Act.put, List.getElem_toArray, List.getElem_cons_zero, List.getElem_cons_succ, List.setIfInBounds_toArray, List.set_cons_zero, List.set_cons_succ]
        refine wpAnyH_ready (rs := [3]) (by kernel_rfl) (by simp) ?_
        refine AllReadyH.cons rfl (fun K hK => ?_) AllReadyH.nil
        go_simp
        refine (HSP.out _ (by exact hrN)).mono ?_
        rintro e u1 ⟨v8, rfl, hown8, hbx⟩
        simp only
        obtain ⟨b3, c3, hv, -, -⟩ := hown8.form
        rw [hv]
        clear hv hown8
        have HW_u1 : Hid (Below X.heap.size X u1) := (Below.refl _ _).drew.trans hbx
        have hsS : u1.cell? ⟨g6, 0, none⟩ = some (.int .i64 c) ∧ u1.cell? ⟨g6, 1, none⟩ = some (.slice a7 R.length c7) := ⟨(HW_u1.out.cell (p := ⟨g6, 0, none⟩) hg6).trans k0, (HW_u1.out.cell (p := ⟨g6, 1, none⟩) hg6).trans k1⟩
        refine hK.out _ _ hsS (fun hHeld => ?_)
        clear hK K
        clear hsS hbx
        refine wpAnyH_take (i := 4) (v := ?_) rfl (by kernel_rfl) (by kernel_rfl) (by kernel_rfl) (fun _ _ _ h => h) (Or.inl ⟨by rfl, ?hy65⟩) (by assumption) ?ty65
        case hy65 => (intro w hSw; (try dsimp only at hSw); go_simp; all_goals first | with_reducible rfl | (rw [if_pos (by omega)]))
        simp only [Act.put, List.getElem_toArray, List.getElem_cons_zero, List.getElem_cons_succ, List.setIfInBounds_toArray, List.set_cons_zero, List.set_cons_succ]
        refine wpAnyH_take (i := 5) (v := .bool false) rfl (by kernel_rfl) (by kernel_rfl) (by kernel_rfl) (fun _ _ _ h => h) (Or.inl ⟨by rfl, ?hy66⟩) (by assumption) ?ty66
        case hy66 => (intro w hSw; (try dsimp only at hSw); go_simp; all_goals first | omega | (simp; done) | (simp; omega) | with_reducible rfl)
        simp only [Act.put, List.getElem_toArray, List.getElem_cons_zero, List.getElem_cons_succ, List.setIfInBounds_toArray, List.set_cons_zero, List.set_cons_succ]
        refine wpAnyH_take (i := 6) (v := ?_) rfl (by kernel_rfl) (by kernel_rfl) (by kernel_rfl) (fun _ _ _ h => h) (Or.inl ⟨by rfl, ?hy67⟩) (by assumption) ?ty67
        case hy67 => (intro w hSw; (try dsimp only at hSw); go_simp; all_goals first | with_reducible rfl | (rw [if_pos (by omega)]))
        simp only [Act.put, List.getElem_toArray, List.getElem_cons_zero, List.getElem_cons_succ, List.setIfInBounds_toArray, List.set_cons_zero, List.set_cons_succ]
        refine wpAnyH_take (i := 7) (v := ?_) rfl (by kernel_rfl) (by kernel_rfl) (by kernel_rfl) (fun _ _ _ h => h) (Or.inl ⟨by rfl, ?hy68⟩) (by assumption) ?ty68
        case hy68 => (intro w hSw; (try dsimp only at hSw); go_simp; all_goals first | with_reducible rfl | (rw [if_pos (by omega)]))
        simp only [Act.put, List.getElem_toArray, List.getElem_cons_zero, List.getElem_cons_succ, List.setIfInBounds_toArray, List.set_cons_zero, List.set_cons_succ]
        refine wpAnyH_take (i := 8) (v := ?_) rfl (by kernel_rfl) (by kernel_rfl) (by kernel_rfl) (fun _ _ _ h => h) (Or.inl ⟨by rfl, ?hy69⟩) (by assumption) ?ty69
        case hy69 => (intro w hSw; (try dsimp only at hSw); go_simp; all_goals first | with_reducible rfl | (rw [if_pos (by omega)]))
        simp only [Act.put, List.getElem_toArray, List.getElem_cons_zero, List.getElem_cons_succ, List.setIfInBounds_toArray, List.set_cons_zero, List.set_cons_succ]
        refine wpAnyH_take (i := 9) (v := .bool false) rfl (by kernel_rfl) (by kernel_rfl) (by kernel_rfl) (fun _ _ _ h => h) (Or.inl ⟨by rfl, ?hy70⟩) (by assumption) ?ty70
        case hy70 => (intro w hSw; (try dsimp only at hSw); go_simp; all_goals first | (simp; done) | (rw [e0]) | (simp [e0]; done) | with_reducible rfl)
        simp only [Act.put, List.getElem_toArray, List.getElem_cons_zero, List.getElem_cons_succ, List.setIfInBounds_toArray, List.set_cons_zero, List.set_cons_succ]
        refine wpAnyH_take (i := 10) (v := ?_) rfl (by kernel_rfl) (by kernel_rfl) (by kernel_rfl) (fun _ _ _ h => h) (Or.inl ⟨by rfl, ?hy71⟩) (by assumption) ?ty71
        case hy71 => (intro w hSw; (try dsimp only at hSw); go_simp; all_goals first | with_reducible rfl | (rw [if_pos (by omega)]))
        simp only [Act.put, List.getElem_toArray, List.getElem_cons_zero, List.getElem_cons_succ, List.setIfInBounds_toArray, List.set_cons_zero, List.set_cons_succ]
        refine wpAnyH_take (i := 11) (v := undef) rfl (by kernel_rfl) (by kernel_rfl) (by kernel_rfl) (fun _ _ _ h => h) (Or.inr ⟨by rfl, rfl⟩) (by assumption) ?_
        simp only [Act.put, List.getElem_toArray, List.getElem_cons_zero, List.getElem_cons_succ, List.setIfInBounds_toArray, List.set_cons_zero, List.set_cons_succ]
        refine wpAnyH_take (i := 12) (v := undef) rfl (by kernel_rfl) (by kernel_rfl) (by kernel_rfl) (fun _ _ _ h => h) (Or.inr ⟨by rfl, rfl⟩) (by assumption) ?_
        simp only [Act.put, List.getElem_toArray, List.getElem_cons_zero, List.getElem_cons_succ, List.setIfInBounds_toArray, List.set_cons_zero, List.set_cons_succ]
        refine wpAnyH_take (i := 13) (v := undef) rfl (by kernel_rfl) (by kernel_rfl) (by kernel_rfl) (fun _ _ _ h => h) (Or.inr ⟨by rfl, rfl⟩) (by assumption) ?_
        simp only [Act.put, List.getElem_toArray, List.getElem_cons_zero, List.getElem_cons_succ, List.setIfInBounds_toArray, List.set_cons_zero, List.set_cons_succ]
        refine wpAnyH_take (i := 14) (v := undef) rfl (by kernel_rfl) (by kernel_rfl) (by kernel_rfl) (fun _ _ _ h => h) (Or.inr ⟨by rfl, rfl⟩) (by assumption) ?_
        simp only [Act.put, List.getElem_toArray, List.getElem_cons_zero, List.getElem_cons_succ, List.setIfInBounds_toArray, List.set_cons_zero, List.set_cons_succ]
        refine wpAnyH_take (i := 15) (v := undef) rfl (by kernel_rfl) (by kernel_rfl) (by kernel_rfl) (fun _ _ _ h => h) (Or.inr ⟨by rfl, rfl⟩) (by assumption) ?_
        simp only [Act.put, List.getElem_toArray, List.getElem_cons_zero, List.getElem_cons_succ, List.setIfInBounds_toArray, List.set_cons_zero, List.set_cons_succ]
        refine wpAnyH_take (i := 16) (v := undef) rfl (by kernel_rfl) (by kernel_rfl) (by kernel_rfl) (fun _ _ _ h => h) (Or.inr ⟨by rfl, rfl⟩) (by assumption) ?_
        simp only [Act.put, List.getElem_toArray, List.getElem_cons_zero, List.getElem_cons_succ, List.setIfInBounds_toArray, List.set_cons_zero, List.set_cons_succ]
        refine wpAnyH_take (i := 17) (v := undef) rfl (by kernel_rfl) (by kernel_rfl) (by kernel_rfl) (fun _ _ _ h => h) (Or.inr ⟨by rfl, rfl⟩) (by assumption) ?_
        simp only [Act.put, List.getElem_toArray, List.getElem_cons_zero, List.getElem_cons_succ, List.setIfInBounds_toArray, List.set_cons_zero, List.set_cons_succ]
        refine wpAnyH_take (i := 18) (v := ?_) rfl (by kernel_rfl) (by kernel_rfl) (by kernel_rfl) (fun _ _ _ h => h) (Or.inl ⟨by rfl, ?hy72⟩) (by assumption) ?ty72
        case hy72 => (intro w hSw; (try dsimp only at hSw); go_simp; all_goals first | with_reducible rfl | (rw [if_pos (by omega)]))
        simp only [Act.put, List.getElem_toArray, List.getElem_cons_zero, List.getElem_cons_succ, List.setIfInBounds_toArray, List.set_cons_zero, List.set_cons_succ]
        refine wpAnyH_take (i := 19) (v := ?_) rfl (by kernel_rfl) (by kernel_rfl) (by kernel_rfl) (fun _ _ _ h => h) (Or.inl ⟨by rfl, ?hy73⟩) (by assumption) ?ty73
        case hy73 => (intro w hSw; (try dsimp only at hSw); go_simp; all_goals first | with_reducible rfl | (rw [if_pos (by omega)]))
        simp only [Act.put, List.getElem_toArray, List.getElem_cons_zero, List.getElem_cons_succ, List.setIfInBounds_toArray, List.set_cons_zero, List.set_cons_succ]
        refine wpAnyH_done (by kernel_rfl) ?_ _
        have HB9 : Hid (Below w.heap.size w u1) := HB7.out.trans (HW_u1.out.mono HB7.out.size)
        clear hHeld HW_u1 HB7 HSP hrR hrN k0 k1 hg6 HSB HSN HLN HEX
        generalize u1 = V9 at *
        go_wp2_with fail
        refine (drawSetText_any a n cap l V9 hl (hr.below HB9.out) hB (by omega)).mono ?_
        rintro e wA ⟨vA, Q, rfl, hoA, hQl, hbX⟩
        obtain ⟨aA, cA, hv, -, -⟩ := hoA.form
        subst hv
        have hrA := hoA.rd.2
        have HBA : Hid (Below w.heap.size w wA) := HB9.out.trans (hbX.mono HB9.out.size)
        have HSX : Hid (∀ w, RdY w aA Q → Calls Tryz.prog 15 #[.slice aA Q.length cA] w fun e w' => e = .returned (.agg #[.int .i64 (stT Q).1, .string (str (stT Q).2)]) ∧ Below w.heap.size w w') := fun w hr => specSetText_any aA Q.length cA Q w rfl hr (by omega)
        have HRF : Hid (∀ w, RdY w aA Q → Calls Tryz.prog 16 #[.slice aA Q.length cA] w fun e w' => e = .returned (.int .i64 (rfV Q)) ∧ Below w.heap.size w w') := fun w hr => rangesFault_any aA Q.length cA Q w rfl hr (by omega)
        have HSY : Hid (∀ w, RdY w aA Q → TabW w → Calls Tryz.prog 8 #[.slice aA Q.length cA] w fun e w' => e = .returned (.agg #[.int .i64 (stT Q).1, .string (str (stT Q).2)]) ∧ Below w.heap.size w w') := fun w hr ht => HST.out aA cA Q w hQl hr ht
        clear hoA hbX HB9 HST
        by_cases h0 : rfV Q = 0
        · rw [stT_ok h0] at HSX HSY
          simp only at HSX HSY
          obtain ⟨hQA, hQ1, hQ8⟩ := rfV_A h0
          have hpt := pmV_tx h0
          have hsmall := txY_small hQA
          have htl8 := txY_len Q
          have hpos := txY_pos hQ1
          have hszQ : (str (txY Q)).size ≤ 72 := by rw [str_size]; omega
          have HPQ : Hid (∀ w, VarE w → TabW w → Calls Tryz.prog 6 #[.string (str (txY Q))] w fun e w' => RngEndY (0, Q) w e w') := fun w hv ht => by
            have h := parseSet_any (str (txY Q)) w (by omega) hv ht
            rw [pp_pm, bsN_str hsmall, hpt] at h; exact h
          have hne1 : (str (txY Q)).toList.isEmpty = false := by
            rw [str_toList]
            cases hq : txY Q with
            | nil => rw [hq] at hpos; simp at hpos
            | cons x r => rfl
          have hne2 : ((str (txY Q)).toList == []) = false := by
            rw [str_toList]
            cases hq : txY Q with
            | nil => rw [hq] at hpos; simp at hpos
            | cons x r => rfl
          have hne3 : ((str (txY Q)).toList != []) = true := by rw [bne, hne2]; rfl
          clear hpt hsmall htl8 hpos HSX HRF
          generalize str (txY Q) = sQ at *
          go_wp2_with fail
          refine (HSY.out _ hrA (TabW.below htW HBA.out)).mono ?_
          rintro e wB ⟨rfl, hbB⟩
          have hbN : Below wB.heap.size wB (wB.alloc (.cells #[.int .i64 0, .string sQ] 30)) := (Below.refl _ _).alloc (Nat.le_refl _) _
          have hbB' := hbB.trans (hbN.mono hbB.size)
          have hrB := hrA.below hbB'
          have HBB : Hid (Below w.heap.size w (wB.alloc (.cells #[.int .i64 0, .string sQ] 30))) := HBA.out.trans (hbB'.mono HBA.out.size)
          obtain ⟨k0, k1, -, -⟩ := res_block (w := wB) (wr := wB.alloc (.cells #[.int .i64 0, .string sQ] 30)) rfl (Below.refl _ _)
          have hg8 : wB.heap.size < (wB.alloc (.cells #[.int .i64 0, .string sQ] 30)).heap.size := by simp
          clear hbB hbB' hbN hrA HBA HSY
          go_wp2_with fail
          generalize wB.alloc (.cells #[.int .i64 0, .string sQ] 30) = Y at *
          generalize wB.heap.size = g8 at *
          refine (HPQ.out _ (htE.below HBB.out) (TabW.below htW HBB.out)).mono ?_
          rintro e wC ⟨vC, rfl, hoC, hbC⟩
          simp only at hoC ⊢
          obtain ⟨aC, cC, hv, -, -⟩ := hoC.form
          subst hv
          have hbN : Below wC.heap.size wC (wC.alloc (.cells #[.int .i64 0, .slice aC Q.length cC] 27)) := (Below.refl _ _).alloc (Nat.le_refl _) _
          have hbC' := hbC.trans (hbN.mono hbC.size)
          have hrC := hrB.below hbC'
          have hrD := hoC.rd.2.below hbN
          have HBC : Hid (Below w.heap.size w (wC.alloc (.cells #[.int .i64 0, .slice aC Q.length cC] 27))) := HBB.out.trans (hbC'.mono HBB.out.size)
          have j1 := (hbC'.cell (p := ⟨g8, 1, none⟩) hg8).trans k1
          have hg8' : g8 < (wC.alloc (.cells #[.int .i64 0, .slice aC Q.length cC] 27)).heap.size := Nat.lt_of_lt_of_le hg8 hbC'.size
          obtain ⟨m0, m1, -, -⟩ := res_block (w := wC) (wr := wC.alloc (.cells #[.int .i64 0, .slice aC Q.length cC] 27)) rfl (Below.refl _ _)
          have hg9 : wC.heap.size < (wC.alloc (.cells #[.int .i64 0, .slice aC Q.length cC] 27)).heap.size := by simp
          clear hbC hbC' hbN hoC hrB HBB k0 k1 hg8 HPQ
          go_wp2
          generalize wC.alloc (.cells #[.int .i64 0, .slice aC Q.length cC] 27) = Z at *
          generalize wC.heap.size = g9 at *
          obtain ⟨M, hM⟩ : ∃ M, Q.length = M := ⟨_, rfl⟩
          rw [hM] at m1 hQl hQ8 hQ1 ⊢
          obtain ⟨bA, oA, eA, hbAl, hcA⟩ := hrC.at_ (by omega)
          obtain ⟨bC, oC, eC, hbCl, hcC⟩ := hrD.at_ (by omega)
          subst eA
          subst eC
          go_loopw [10] (fun i wr => ∃ k : Nat, k ≤ M ∧ i = .int .i64 (k : Int) ∧ Below Z.heap.size Z wr) (fun i _ => M - (intOf i).toNat)
          case atStart => exact ⟨0, by omega, rfl, Below.refl _ _⟩
          case round =>
            obtain ⟨k, hk, rfl, hbel⟩ := hrel
            by_cases hkM : k < M
            · have hki : (k : Int) < (M : Int) := by omega
              have x1 : wr.cell? ⟨g9, 1, none⟩ = some (.slice (some ⟨bC, oC, none⟩) M cC) := (hbel.cell (p := ⟨g9, 1, none⟩) hg9).trans m1
              have p0 : wr.cell? ⟨bA, oA + k * 2, none⟩ = some (.int .i64 (nthY Q k).1) := (hbel.cell (p := ⟨bA, oA + k * 2, none⟩) hbAl).trans (hcA k (by omega)).1
              have p1 : wr.cell? ⟨bA, oA + k * 2 + 1, none⟩ = some (.int .i64 (nthY Q k).2) := (hbel.cell (p := ⟨bA, oA + k * 2 + 1, none⟩) hbAl).trans (hcA k (by omega)).2
              have q0 : wr.cell? ⟨bC, oC + k * 2, none⟩ = some (.int .i64 (nthY Q k).1) := (hbel.cell (p := ⟨bC, oC + k * 2, none⟩) hbCl).trans (hcC k (by omega)).1
              have q1 : wr.cell? ⟨bC, oC + k * 2 + 1, none⟩ = some (.int .i64 (nthY Q k).2) := (hbel.cell (p := ⟨bC, oC + k * 2 + 1, none⟩) hbCl).trans (hcC k (by omega)).2
              generalize (nthY Q k).1 = f at *
              generalize (nthY Q k).2 = g at *
              go_wp2_with fail
              refine wp_region_held_drew (S := fun w' => w'.cell? ⟨g9, 1, none⟩ = some (.slice (some ⟨bC, oC, none⟩) M cC) ∧ (w'.cell? ⟨bA, oA + k * 2, none⟩ = some (.int .i64 f) ∧ w'.cell? ⟨bA, oA + k * 2 + 1, none⟩ = some (.int .i64 g)) ∧ (w'.cell? ⟨bC, oC + k * 2, none⟩ = some (.int .i64 f) ∧ w'.cell? ⟨bC, oC + k * 2 + 1, none⟩ = some (.int .i64 g))) (by kernel_rfl) ?hS74 (fun hHeld => ?_)
              case hS74 => exact ⟨x1, ⟨p0, p1⟩, ⟨q0, q1⟩⟩
              refine wpAnyH_take (i := 0) (v := ?_) rfl (by kernel_rfl) (by kernel_rfl) (by kernel_rfl) (fun _ _ _ h => h) (Or.inl ⟨by rfl, ?hy75⟩) (by assumption) ?ty75
              case hy75 => (intro w hSw; (try dsimp only at hSw); go_simp; all_goals first | with_reducible rfl | (rw [if_pos (by omega)]))
              simp only [Act.put, List.getElem_toArray, List.getElem_cons_zero, List.setIfInBounds_toArray, List.set_cons_zero, List.set_cons_succ]
              refine wpAnyH_take (i := 1) (v := ?_) rfl (by kernel_rfl) (by kernel_rfl) (by kernel_rfl) (fun _ _ _ h => h) (Or.inl ⟨by rfl, ?hy76⟩) (by assumption) ?ty76
              case hy76 => (intro w hSw; (try dsimp only at hSw); go_simp; all_goals first | with_reducible rfl | (rw [if_pos (by omega)]))
              simp only [Act.put, List.getElem_toArray, List.getElem_cons_zero, List.getElem_cons_succ, List.setIfInBounds_toArray, List.set_cons_zero, List.set_cons_succ]
              refine wpAnyH_take (i := 2) (v := ?_) rfl (by kernel_rfl) (by kernel_rfl) (by kernel_rfl) (fun _ _ _ h => h) (Or.inl ⟨by rfl, ?hy77⟩) (by assumption) ?ty77
              case hy77 => (intro w hSw; (try dsimp only at hSw); go_simp; all_goals first | with_reducible rfl | (rw [if_pos (by omega)]))
              simp only [Act.put, List.getElem_toArray, List.getElem_cons_zero, List.getElem_cons_succ, List.setIfInBounds_toArray, List.set_cons_zero, List.set_cons_succ]
              refine wpAnyH_take (i := 3) (v := ?_) rfl (by kernel_rfl) (by kernel_rfl) (by kernel_rfl) (fun _ _ _ h => h) (Or.inl ⟨by rfl, ?hy78⟩) (by assumption) ?ty78
              case hy78 => (intro w hSw; (try dsimp only at hSw); go_simp; all_goals first | with_reducible rfl | (rw [if_pos (by omega)]))
              simp only [Act.put, List.getElem_toArray, List.getElem_cons_zero, List.getElem_cons_succ, List.setIfInBounds_toArray, List.set_cons_zero, List.set_cons_succ]
              refine wpAnyH_take (i := 4) (v := ?_) rfl (by kernel_rfl) (by kernel_rfl) (by kernel_rfl) (fun _ _ _ h => h) (Or.inl ⟨by rfl, ?hy79⟩) (by assumption) ?ty79
              case hy79 => (intro w hSw; (try dsimp only at hSw); go_simp; all_goals first | with_reducible rfl | (rw [if_pos (by omega)]))
              simp only [Act.put, List.getElem_toArray, List.getElem_cons_zero, List.getElem_cons_succ, List.setIfInBounds_toArray, List.set_cons_zero, List.set_cons_succ]
              refine wpAnyH_take (i := 5) (v := ?_) rfl (by kernel_rfl) (by kernel_rfl) (by kernel_rfl) (fun _ _ _ h => h) (Or.inl ⟨by rfl, ?hy80⟩) (by assumption) ?ty80
              case hy80 => (intro w hSw; (try dsimp only at hSw); go_simp; all_goals first | with_reducible rfl | (rw [if_pos (by omega)]))
              simp only [Act.put, List.getElem_toArray, List.getElem_cons_zero, List.getElem_cons_succ, List.setIfInBounds_toArray, List.set_cons_zero, List.set_cons_succ]
              refine wpAnyH_take (i := 6) (v := ?_) rfl (by kernel_rfl) (by kernel_rfl) (by kernel_rfl) (fun _ _ _ h => h) (Or.inl ⟨by rfl, ?hy81⟩) (by assumption) ?ty81
              case hy81 => (intro w hSw; (try dsimp only at hSw); go_simp; all_goals first | with_reducible rfl | (rw [if_pos (by omega)]))
              simp only [Act.put, List.getElem_toArray, List.getElem_cons_zero, List.getElem_cons_succ, List.setIfInBounds_toArray, List.set_cons_zero, List.set_cons_succ]
              refine wpAnyH_take (i := 7) (v := ?_) rfl (by kernel_rfl) (by kernel_rfl) (by kernel_rfl) (fun _ _ _ h => h) (Or.inl ⟨by rfl, ?hy82⟩) (by assumption) ?ty82
              case hy82 => (intro w hSw; (try dsimp only at hSw); go_simp; all_goals first | with_reducible rfl | (rw [if_pos (by omega)]))
              simp only [Act.put, List.getElem_toArray, List.getElem_cons_zero, List.getElem_cons_succ, List.setIfInBounds_toArray, List.set_cons_zero, List.set_cons_succ]
              refine wpAnyH_take (i := 8) (v := ?_) rfl (by kernel_rfl) (by kernel_rfl) (by kernel_rfl) (fun _ _ _ h => h) (Or.inl ⟨by rfl, ?hy83⟩) (by assumption) ?ty83
              case hy83 => (intro w hSw; (try dsimp only at hSw); go_simp; all_goals first | with_reducible rfl | (rw [if_pos (by omega)]))
              simp only [Act.put, List.getElem_toArray, List.getElem_cons_zero, List.getElem_cons_succ, List.setIfInBounds_toArray, List.set_cons_zero, List.set_cons_succ]
              refine wpAnyH_take (i := 9) (v := .bool false) rfl (by kernel_rfl) (by kernel_rfl) (by kernel_rfl) (fun _ _ _ h => h) (Or.inl ⟨by rfl, ?hy84⟩) (by assumption) ?ty84
              case hy84 => (intro w hSw; (try dsimp only at hSw); go_simp; all_goals first | omega | (simp; done) | (simp; omega) | with_reducible rfl)
              simp only [Act.put, List.getElem_toArray, List.getElem_cons_zero, List.getElem_cons_succ, List.setIfInBounds_toArray, List.set_cons_zero, List.set_cons_succ]
              refine wpAnyH_done (by kernel_rfl) ?_ _
              have hbel2 := hbel.drew
              clear hHeld
              go_wp2
              go_roundw
              case rel => exact ⟨k + 1, by omega, by go_num, hbel2⟩
              case measure => simp [intOf]; omega
            · have hki : ¬ (k : Int) < (M : Int) := by omega
              have x1 : wr.cell? ⟨g8, 1, none⟩ = some (.string sQ) := (hbel.cell (p := ⟨g8, 1, none⟩) hg8').trans j1
              have HF : Hid (Below w.heap.size w wr) := HBC.out.trans (hbel.mono HBC.out.size)
              clear hbel
              go_wp2
              go_ret
              exact ⟨rfl, HF.out⟩
        · rw [stT_bad h0] at HSX HSY
          simp only at HSX HSY
          obtain ⟨q, hq⟩ : ∃ q, q = rfV Q := ⟨_, rfl⟩
          rw [← hq] at HSX HSY HRF h0
          clear hq
          generalize str [] = sx at *
          have e0 : (q != 0) = true := by simp [h0]
          go_wp2_with fail
          refine (HSY.out _ hrA (TabW.below htW HBA.out)).mono ?_
          rintro e wB ⟨rfl, hbB⟩
          have hbN : Below wB.heap.size wB (wB.alloc (.cells #[.int .i64 q, .string sx] 30)) := (Below.refl _ _).alloc (Nat.le_refl _) _
          have hbB' := hbB.trans (hbN.mono hbB.size)
          have hrB := hrA.below hbB'
          have HBB : Hid (Below w.heap.size w (wB.alloc (.cells #[.int .i64 q, .string sx] 30))) := HBA.out.trans (hbB'.mono HBA.out.size)
          obtain ⟨k0, k1, -, -⟩ := res_block (w := wB) (wr := wB.alloc (.cells #[.int .i64 q, .string sx] 30)) rfl (Below.refl _ _)
          have hg8 : wB.heap.size < (wB.alloc (.cells #[.int .i64 q, .string sx] 30)).heap.size := by simp
          clear hbB hbB' hbN hrA HBA HSY
          go_wp2_with fail
          generalize wB.alloc (.cells #[.int .i64 q, .string sx] 30) = Y at *
          generalize wB.heap.size = g8 at *
          refine wp_region_held_drew (S := fun w' => w'.cell? ⟨g8, 0, none⟩ = some (.int .i64 q)) (by kernel_rfl) ?hS85 (fun hHeld => ?_)
          case hS85 => exact k0
          refine wpAnyH_take (i := 0) (v := ?_) rfl (by kernel_rfl) (by kernel_rfl) (by kernel_rfl) (fun _ _ _ h => h) (Or.inl ⟨by rfl, ?hy86⟩) (by assumption) ?ty86
          case hy86 => (intro w hSw; (try dsimp only at hSw); go_simp; all_goals first | with_reducible rfl | (rw [if_pos (by omega)]))
          simp only [Act.put, List.getElem_toArray, List.getElem_cons_zero, List.setIfInBounds_toArray, List.set_cons_zero, List.set_cons_succ]
          refine wpAnyH_take (i := 3) (v := ?_) rfl (by kernel_rfl) (by kernel_rfl) (by kernel_rfl) (fun _ _ _ h => h) (Or.inl ⟨by rfl, ?hy87⟩) (by assumption) ?ty87
          case hy87 => (intro w hSw; (try dsimp only at hSw); go_simp; all_goals first | with_reducible rfl | (rw [if_pos (by omega)]))
          simp only [Act.put, List.getElem_toArray, List.getElem_cons_zero, List.getElem_cons_succ, List.setIfInBounds_toArray, List.set_cons_zero, List.set_cons_succ]
          refine wpAnyH_take (i := 4) (v := ?_) rfl (by kernel_rfl) (by kernel_rfl) (by kernel_rfl) (fun _ _ _ h => h) (Or.inl ⟨by rfl, ?hy88⟩) (by assumption) ?ty88
          case hy88 => (intro w hSw; (try dsimp only at hSw); go_simp; all_goals first | with_reducible rfl | (rw [if_pos (by omega)]))
          simp only [Act.put, List.getElem_toArray, List.getElem_cons_zero, List.getElem_cons_succ, List.setIfInBounds_toArray, List.set_cons_zero, List.set_cons_succ]
          refine wpAnyH_ready (rs := [1]) (by kernel_rfl) (by simp) ?_
          refine AllReadyH.cons rfl (fun K hK => ?_) AllReadyH.nil
          go_simp
          refine (HSX.out _ (by exact hrB)).mono ?_
          rintro e u1 ⟨rfl, hbx⟩
          have HW_u1 : Hid (Below Y.heap.size Y u1) := (Below.refl _ _).drew.trans hbx
          have hsS : u1.cell? ⟨g8, 0, none⟩ = some (.int .i64 q) := (HW_u1.out.cell (p := ⟨g8, 0, none⟩) hg8).trans k0
          refine hK.out _ _ hsS (fun hHeld => ?_)
          clear hK K
          clear hsS hbx
          refine wpAnyH_take (i := 2) (v := ?_) rfl (by kernel_rfl) (by kernel_rfl) (by kernel_rfl) (fun _ _ _ h => h) (Or.inl ⟨by rfl, ?hy89⟩) (by assumption) ?ty89
          case hy89 => (intro w hSw; (try dsimp only at hSw); go_simp; all_goals first | with_reducible rfl | (rw [if_pos (by omega)]))
          simp only [Act.put, List.getElem_toArray, List.getElem_cons_zero, List.getElem_cons_succ, List.setIfInBounds_toArray, List.set_cons_zero, List.set_cons_succ]
          refine wpAnyH_take (i := 5) (v := .bool true) rfl (by kernel_rfl) (by kernel_rfl) (by kernel_rfl) (fun _ _ _ h => h) (Or.inl ⟨by rfl, ?hy90⟩) (by assumption) ?ty90
          case hy90 => (intro w hSw; (try dsimp only at hSw); go_simp; all_goals first | omega | (simp; done) | (simp; omega) | with_reducible rfl)
          simp only [Act.put, List.getElem_toArray, List.getElem_cons_zero, List.getElem_cons_succ, List.setIfInBounds_toArray, List.set_cons_zero, List.set_cons_succ]
          refine wpAnyH_take (i := 6) (v := ?_) rfl (by kernel_rfl) (by kernel_rfl) (by kernel_rfl) (fun _ _ _ h => h) (Or.inl ⟨by rfl, ?hy91⟩) (by assumption) ?ty91
          case hy91 => (intro w hSw; (try dsimp only at hSw); go_simp; all_goals first | with_reducible rfl | (rw [if_pos (by omega)]))
          simp only [Act.put, List.getElem_toArray, List.getElem_cons_zero, List.getElem_cons_succ, List.setIfInBounds_toArray, List.set_cons_zero, List.set_cons_succ]
          refine wpAnyH_take (i := 7) (v := ?_) rfl (by kernel_rfl) (by kernel_rfl) (by kernel_rfl) (fun _ _ _ h => h) (Or.inl ⟨by rfl, ?hy92⟩) (by assumption) ?ty92
          case hy92 => (intro w hSw; (try dsimp only at hSw); go_simp; all_goals first | with_reducible rfl | (rw [if_pos (by omega)]))
          simp only [Act.put, List.getElem_toArray, List.getElem_cons_zero, List.getElem_cons_succ, List.setIfInBounds_toArray, List.set_cons_zero, List.set_cons_succ]
          refine wpAnyH_take (i := 9) (v := ?_) rfl (by kernel_rfl) (by kernel_rfl) (by kernel_rfl) (fun _ _ _ h => h) (Or.inl ⟨by rfl, ?hy93⟩) (by assumption) ?ty93
          case hy93 => (intro w hSw; (try dsimp only at hSw); go_simp; all_goals first | with_reducible rfl | (rw [if_pos (by omega)]))
          simp only [Act.put, List.getElem_toArray, List.getElem_cons_zero, List.getElem_cons_succ, List.setIfInBounds_toArray, List.set_cons_zero, List.set_cons_succ]
          refine wpAnyH_take (i := 10) (v := ?_) rfl (by kernel_rfl) (by kernel_rfl) (by kernel_rfl) (fun _ _ _ h => h) (Or.inl ⟨by rfl, ?hy94⟩) (by assumption) ?ty94
          case hy94 => (intro w hSw; (try dsimp only at hSw); go_simp; all_goals first | with_reducible rfl | (rw [if_pos (by omega)]))
          simp only [Act.put, List.getElem_toArray, List.getElem_cons_zero, List.getElem_cons_succ, List.setIfInBounds_toArray, List.set_cons_zero, List.set_cons_succ]
          refine wpAnyH_ready (rs := [8]) (by kernel_rfl) (by simp) ?_
          refine AllReadyH.cons rfl (fun K hK => ?_) AllReadyH.nil
          go_simp
          refine (HRF.out _ (by exact hrB.below HW_u1.out)).mono ?_
          rintro e u2 ⟨rfl, hbx⟩
          have HW_u2 : Hid (Below Y.heap.size Y u2) := HW_u1.out.trans (hbx.mono HW_u1.out.size)
          have hsS : u2.cell? ⟨g8, 0, none⟩ = some (.int .i64 q) := (HW_u2.out.cell (p := ⟨g8, 0, none⟩) hg8).trans k0
          refine hK.out _ _ hsS (fun hHeld => ?_)
          clear hK K
          clear hsS hbx
          refine wpAnyH_take (i := 11) (v := .bool true) rfl (by kernel_rfl) (by kernel_rfl) (by kernel_rfl) (fun _ _ _ h => h) (Or.inl ⟨by rfl, ?hy95⟩) (by assumption) ?ty95
          case hy95 => (intro w hSw; (try dsimp only at hSw); go_simp; all_goals first | omega | (simp; done) | (simp; omega) | with_reducible rfl)
          simp only [Act.put, List.getElem_toArray, List.getElem_cons_zero, List.getElem_cons_succ, List.setIfInBounds_toArray, List.set_cons_zero, List.set_cons_succ]
          refine wpAnyH_take (i := 12) (v := ?_) rfl (by kernel_rfl) (by kernel_rfl) (by kernel_rfl) (fun _ _ _ h => h) (Or.inl ⟨by rfl, ?hy96⟩) (by assumption) ?ty96
          case hy96 => (intro w hSw; (try dsimp only at hSw); go_simp; all_goals first | with_reducible rfl | (rw [if_pos (by omega)]))
          simp only [Act.put, List.getElem_toArray, List.getElem_cons_zero, List.getElem_cons_succ, List.setIfInBounds_toArray, List.set_cons_zero, List.set_cons_succ]
          refine wpAnyH_take (i := 13) (v := ?_) rfl (by kernel_rfl) (by kernel_rfl) (by kernel_rfl) (fun _ _ _ h => h) (Or.inl ⟨by rfl, ?hy97⟩) (by assumption) ?ty97
          case hy97 => (intro w hSw; (try dsimp only at hSw); go_simp; all_goals first | with_reducible rfl | (rw [if_pos (by omega)]))
          simp only [Act.put, List.getElem_toArray, List.getElem_cons_zero, List.getElem_cons_succ, List.setIfInBounds_toArray, List.set_cons_zero, List.set_cons_succ]
          refine wpAnyH_done (by kernel_rfl) ?_ _
          have HF : Hid (Below w.heap.size w u2) := HBB.out.trans (HW_u2.out.mono HBB.out.size)
          clear hHeld HW_u1 HW_u2 HSX HRF HBB hrB
          go_wp2
          go_ret
          exact ⟨rfl, HF.out⟩
    · obtain ⟨rfl, rfl⟩ := Prod.mk.inj (HBN.out hc)
      refine wp_region_held_drew (S := fun w' => w'.cell? ⟨g4, 0, none⟩ = some (.int .i64 5)) (by kernel_rfl) ?hS98 (fun hHeld => ?_)
      case hS98 => exact k0
      refine wpAnyH_take (i := 0) (v := ?_) rfl (by kernel_rfl) (by kernel_rfl) (by kernel_rfl) (fun _ _ _ h => h) (Or.inl ⟨by rfl, ?hy99⟩) (by assumption) ?ty99
      case hy99 => (intro w hSw; (try dsimp only at hSw); go_simp; all_goals first | with_reducible rfl | (rw [if_pos (by omega)]))
      simp only [Act.put, List.getElem_toArray, List.getElem_cons_zero, List.setIfInBounds_toArray, List.set_cons_zero, List.set_cons_succ]
      refine wpAnyH_take (i := 1) (v := ?_) rfl (by kernel_rfl) (by kernel_rfl) (by kernel_rfl) (fun _ _ _ h => h) (Or.inl ⟨by rfl, ?hy100⟩) (by assumption) ?ty100
      case hy100 => (intro w hSw; (try dsimp only at hSw); go_simp; all_goals first | with_reducible rfl | (rw [if_pos (by omega)]))
      simp only [Act.put, List.getElem_toArray, List.getElem_cons_zero, List.getElem_cons_succ, List.setIfInBounds_toArray, List.set_cons_zero, List.set_cons_succ]
      refine wpAnyH_take (i := 2) (v := ?_) rfl (by kernel_rfl) (by kernel_rfl) (by kernel_rfl) (fun _ _ _ h => h) (Or.inl ⟨by rfl, ?hy101⟩) (by assumption) ?ty101
      case hy101 => (intro w hSw; (try dsimp only at hSw); go_simp; all_goals first | with_reducible rfl | (rw [if_pos (by omega)]))
      simp only [Act.put, List.getElem_toArray, List.getElem_cons_zero, List.getElem_cons_succ, List.setIfInBounds_toArray, List.set_cons_zero, List.set_cons_succ]
      refine wpAnyH_ready (rs := [3]) (by kernel_rfl) (by simp) ?_
      refine AllReadyH.cons rfl (fun K hK => ?_) AllReadyH.nil
      go_simp
      refine (HPS.out _).mono ?_
      rintro e u1 ⟨v7, rfl, hown7, hbx⟩
      simp only
      obtain ⟨b3, c3, hv, -, -⟩ := hown7.form
      rw [hv]
      clear hv hown7
      have HW_u1 : Hid (Below W.heap.size W u1) := (Below.refl _ _).drew.trans hbx
      have hsS : u1.cell? ⟨g4, 0, none⟩ = some (.int .i64 5) := (HW_u1.out.cell (p := ⟨g4, 0, none⟩) hg2).trans k0
      refine hK.out _ _ hsS (fun hHeld => ?_)
      clear hK K
      clear hsS hbx
      refine wpAnyH_take (i := 4) (v := ?_) rfl (by kernel_rfl) (by kernel_rfl) (by kernel_rfl) (fun _ _ _ h => h) (Or.inl ⟨by rfl, ?hy102⟩) (by assumption) ?ty102
      case hy102 => (intro w hSw; (try dsimp only at hSw); go_simp; all_goals first | with_reducible rfl | (rw [if_pos (by omega)]))
      simp only [Act.put, List.getElem_toArray, List.getElem_cons_zero, List.getElem_cons_succ, List.setIfInBounds_toArray, List.set_cons_zero, List.set_cons_succ]
      refine wpAnyH_take (i := 5) (v := .bool false) rfl (by kernel_rfl) (by kernel_rfl) (by kernel_rfl) (fun _ _ _ h => h) (Or.inl ⟨by rfl, ?hy103⟩) (by assumption) ?ty103
      case hy103 => (intro w hSw; (try dsimp only at hSw); go_simp; all_goals first | omega | (simp; done) | (simp; omega) | with_reducible rfl)
      simp only [Act.put, List.getElem_toArray, List.getElem_cons_zero, List.getElem_cons_succ, List.setIfInBounds_toArray, List.set_cons_zero, List.set_cons_succ]
      refine wpAnyH_take (i := 6) (v := ?_) rfl (by kernel_rfl) (by kernel_rfl) (by kernel_rfl) (fun _ _ _ h => h) (Or.inl ⟨by rfl, ?hy104⟩) (by assumption) ?ty104
      case hy104 => (intro w hSw; (try dsimp only at hSw); go_simp; all_goals first | with_reducible rfl | (rw [if_pos (by omega)]))
      simp only [Act.put, List.getElem_toArray, List.getElem_cons_zero, List.getElem_cons_succ, List.setIfInBounds_toArray, List.set_cons_zero, List.set_cons_succ]
      refine wpAnyH_take (i := 7) (v := ?_) rfl (by kernel_rfl) (by kernel_rfl) (by kernel_rfl) (fun _ _ _ h => h) (Or.inl ⟨by rfl, ?hy105⟩) (by assumption) ?ty105
      case hy105 => (intro w hSw; (try dsimp only at hSw); go_simp; all_goals first | with_reducible rfl | (rw [if_pos (by omega)]))
      simp only [Act.put, List.getElem_toArray, List.getElem_cons_zero, List.getElem_cons_succ, List.setIfInBounds_toArray, List.set_cons_zero, List.set_cons_succ]
      refine wpAnyH_take (i := 8) (v := ?_) rfl (by kernel_rfl) (by kernel_rfl) (by kernel_rfl) (fun _ _ _ h => h) (Or.inl ⟨by rfl, ?hy106⟩) (by assumption) ?ty106
      case hy106 => (intro w hSw; (try dsimp only at hSw); go_simp; all_goals first | with_reducible rfl | (rw [if_pos (by omega)]))
      simp only [Act.put, List.getElem_toArray, List.getElem_cons_zero, List.getElem_cons_succ, List.setIfInBounds_toArray, List.set_cons_zero, List.set_cons_succ]
      refine wpAnyH_take (i := 9) (v := .bool false) rfl (by kernel_rfl) (by kernel_rfl) (by kernel_rfl) (fun _ _ _ h => h) (Or.inl ⟨by rfl, ?hy107⟩) (by assumption) ?ty107
      case hy107 => (intro w hSw; (try dsimp only at hSw); go_simp; all_goals first | omega | (simp; done) | (simp; omega) | with_reducible rfl)
      simp only [Act.put, List.getElem_toArray, List.getElem_cons_zero, List.getElem_cons_succ, List.setIfInBounds_toArray, List.set_cons_zero, List.set_cons_succ]
      refine wpAnyH_take (i := 10) (v := ?_) rfl (by kernel_rfl) (by kernel_rfl) (by kernel_rfl) (fun _ _ _ h => h) (Or.inl ⟨by rfl, ?hy108⟩) (by assumption) ?ty108
      case hy108 => (intro w hSw; (try dsimp only at hSw); go_simp; all_goals first | with_reducible rfl | (rw [if_pos (by omega)]))
      simp only [Act.put, List.getElem_toArray, List.getElem_cons_zero, List.getElem_cons_succ, List.setIfInBounds_toArray, List.set_cons_zero, List.set_cons_succ]
      refine wpAnyH_take (i := 11) (v := undef) rfl (by kernel_rfl) (by kernel_rfl) (by kernel_rfl) (fun _ _ _ h => h) (Or.inr ⟨by rfl, rfl⟩) (by assumption) ?_
      simp only [Act.put, List.getElem_toArray, List.getElem_cons_zero, List.getElem_cons_succ, List.setIfInBounds_toArray, List.set_cons_zero, List.set_cons_succ]
      refine wpAnyH_take (i := 12) (v := undef) rfl (by kernel_rfl) (by kernel_rfl) (by kernel_rfl) (fun _ _ _ h => h) (Or.inr ⟨by rfl, rfl⟩) (by assumption) ?_
      simp only [Act.put, List.getElem_toArray, List.getElem_cons_zero, List.getElem_cons_succ, List.setIfInBounds_toArray, List.set_cons_zero, List.set_cons_succ]
      refine wpAnyH_take (i := 13) (v := undef) rfl (by kernel_rfl) (by kernel_rfl) (by kernel_rfl) (fun _ _ _ h => h) (Or.inr ⟨by rfl, rfl⟩) (by assumption) ?_
      simp only [Act.put, List.getElem_toArray, List.getElem_cons_zero, List.getElem_cons_succ, List.setIfInBounds_toArray, List.set_cons_zero, List.set_cons_succ]
      refine wpAnyH_take (i := 14) (v := undef) rfl (by kernel_rfl) (by kernel_rfl) (by kernel_rfl) (fun _ _ _ h => h) (Or.inr ⟨by rfl, rfl⟩) (by assumption) ?_
      simp only [Act.put, List.getElem_toArray, List.getElem_cons_zero, List.getElem_cons_succ, List.setIfInBounds_toArray, List.set_cons_zero, List.set_cons_succ]
      refine wpAnyH_take (i := 15) (v := undef) rfl (by kernel_rfl) (by kernel_rfl) (by kernel_rfl) (fun _ _ _ h => h) (Or.inr ⟨by rfl, rfl⟩) (by assumption) ?_
      simp only [Act.put, List.getElem_toArray, List.getElem_cons_zero, List.getElem_cons_succ, List.setIfInBounds_toArray, List.set_cons_zero, List.set_cons_succ]
      refine wpAnyH_take (i := 16) (v := undef) rfl (by kernel_rfl) (by kernel_rfl) (by kernel_rfl) (fun _ _ _ h => h) (Or.inr ⟨by rfl, rfl⟩) (by assumption) ?_
      simp only [Act.put, List.getElem_toArray, List.getElem_cons_zero, List.getElem_cons_succ, List.setIfInBounds_toArray, List.set_cons_zero, List.set_cons_succ]
      refine wpAnyH_take (i := 17) (v := ?_) rfl (by kernel_rfl) (by kernel_rfl) (by kernel_rfl) (fun _ _ _ h => h) (Or.inl ⟨by rfl, ?hy109⟩) (by assumption) ?ty109
      case hy109 => (intro w hSw; (try dsimp only at hSw); go_simp; all_goals first | with_reducible rfl | (rw [if_pos (by omega)]))
      simp only [Act.put, List.getElem_toArray, List.getElem_cons_zero, List.getElem_cons_succ, List.setIfInBounds_toArray, List.set_cons_zero, List.set_cons_succ]
      refine wpAnyH_take (i := 18) (v := ?_) rfl (by kernel_rfl) (by kernel_rfl) (by kernel_rfl) (fun _ _ _ h => h) (Or.inl ⟨by rfl, ?hy110⟩) (by assumption) ?ty110
      case hy110 => (intro w hSw; (try dsimp only at hSw); go_simp; all_goals first | with_reducible rfl | (rw [if_pos (by omega)]))
      simp only [Act.put, List.getElem_toArray, List.getElem_cons_zero, List.getElem_cons_succ, List.setIfInBounds_toArray, List.set_cons_zero, List.set_cons_succ]
      refine wpAnyH_done (by kernel_rfl) ?_ _
      have HB5 : Hid (Below w.heap.size w u1) := HB2.out.trans (HW_u1.out.mono HB2.out.size)
      clear hHeld HW_u1 HB2 HPS hr2 k0 k1 hg2 HBK HBN
      generalize u1 = V5 at *
      go_wp2_with fail
      refine (drawSetOf_any a n cap l V5 hl (hr.below HB5.out) hB (by omega)).mono ?_
      rintro e w6 ⟨v6, ns, rfl, ho6, hnl, hb6⟩
      obtain ⟨a6, c6, hv, -, -⟩ := ho6.form
      subst hv
      have hr6 := ho6.rd.2
      have HB6 : Hid (Below w.heap.size w w6) := HB5.out.trans (hb6.mono HB5.out.size)
      have HSI : Hid (∀ w, RdI w a6 ns → Calls Tryz.prog 10 #[.slice a6 ns.length c6] w fun e w' => RngEndY (soV ns) w e w') := fun w hr => setOf_any a6 ns.length c6 ns w rfl hr (by omega)
      have HSP : Hid (∀ w, RdI w a6 ns → Calls Tryz.prog 11 #[.slice a6 ns.length c6] w fun e w' => RngEndY (soV ns) w e w') := fun w hr => specSetOf_any a6 ns.length c6 ns w rfl hr (by omega)
      have hsf := soV_few ns
      have HSB : Hid ((soV ns).1 = 0 → exV (soV ns).2 999 = (0, ns)) := fun h => so_back h
      have HSN : Hid ((soV ns).1 ≠ 0 → soV ns = ((soV ns).1, [])) := fun h => soV_bad h
      have HLN : Hid (∀ (d : Option Addr) (dc : Nat) w, RdI w d ns → RdI w a6 ns → Calls Tryz.prog 12 #[.slice d ns.length dc, .slice a6 ns.length c6] w fun e w' => e = .returned (.bool true) ∧ Below w.heap.size w w') := fun d dc w h1 h2 => by
        have h := lwNums_any d a6 ns.length ns.length dc c6 ns ns w rfl rfl h1 h2 (by omega) (by omega)
        rw [decide_eq_true rfl] at h; exact h
      have HEX : Hid (∀ (d : Option Addr) (dc : Nat) (R : List YgP) w, R.length ≤ 8 → RdY w d R → Calls Tryz.prog 13 #[.slice d R.length dc, .int .i64 999] w fun e w' => NumEndY (exV R 999) w e w') := fun d dc R w hR hr => expandSet_any 999 d R.length dc R w rfl hr (by omega)
      clear ho6 hb6 HB5
      generalize soV ns = u at *
      obtain ⟨c, R⟩ := u
      simp only at hsf HSB HSN HSI HSP
      go_wp2_with fail
      refine (HSI.out _ hr6).mono ?_
      rintro e w7 ⟨v7, rfl, ho7, hb7⟩
      simp only at ho7 ⊢
      obtain ⟨a7, c7, hv, -, -⟩ := ho7.form
      subst hv
      have hbA : Below w7.heap.size w7 (w7.alloc (.cells #[.int .i64 c, .slice a7 R.length c7] 27)) := (Below.refl _ _).alloc (Nat.le_refl _) _
      have hb7' := hb7.trans (hbA.mono hb7.size)
      have hrR := ho7.rd.2.below hbA
      have hrN := hr6.below hb7'
      have HB7 : Hid (Below w.heap.size w (w7.alloc (.cells #[.int .i64 c, .slice a7 R.length c7] 27))) := HB6.out.trans (hb7'.mono HB6.out.size)
      obtain ⟨k0, k1, -, -⟩ := res_block (w := w7) (wr := w7.alloc (.cells #[.int .i64 c, .slice a7 R.length c7] 27)) rfl (Below.refl _ _)
      have hg6 : w7.heap.size < (w7.alloc (.cells #[.int .i64 c, .slice a7 R.length c7] 27)).heap.size := by simp
      clear hb7 hb7' hbA ho7 HSI hr6 HB6
      go_wp2_with fail
      generalize w7.alloc (.cells #[.int .i64 c, .slice a7 R.length c7] 27) = X at *
      generalize w7.heap.size = g6 at *
      by_cases hc : c = 0
      · subst hc
        have hex := HSB.out rfl
        have HEXx : Hid (∀ w, RdY w a7 R → Calls Tryz.prog 13 #[.slice a7 R.length c7, .int .i64 999] w fun e w' => NumEndY (0, ns) w e w') := fun w hr => by
          have h := HEX.out a7 c7 R w hsf hr
          rw [hex] at h; exact h
        clear hex
        refine wp_region_held_drew (S := fun w' => w'.cell? ⟨g6, 0, none⟩ = some (.int .i64 0) ∧ w'.cell? ⟨g6, 1, none⟩ = some (.slice a7 R.length c7)) (by kernel_rfl) ?hS111 (fun hHeld => ?_)
        case hS111 => exact ⟨k0, k1⟩
        refine wpAnyH_take (i := 0) (v := ?_) rfl (by kernel_rfl) (by kernel_rfl) (by kernel_rfl) (fun _ _ _ h => h) (Or.inl ⟨by rfl, ?hy112⟩) (by assumption) ?ty112
        case hy112 => (intro w hSw; (try dsimp only at hSw); go_simp; all_goals first | with_reducible rfl | (rw [if_pos (by omega)]))
        simp only [Act.put, List.getElem_toArray, List.getElem_cons_zero, List.setIfInBounds_toArray, List.set_cons_zero, List.set_cons_succ]
        refine wpAnyH_take (i := 1) (v := ?_) rfl (by kernel_rfl) (by kernel_rfl) (by kernel_rfl) (fun _ _ _ h => h) (Or.inl ⟨by rfl, ?hy113⟩) (by assumption) ?ty113
        case hy113 => (intro w hSw; (try dsimp only at hSw); go_simp; all_goals first | with_reducible rfl | (rw [if_pos (by omega)]))
        simp only [Act.put, List.getElem_toArray, List.getElem_cons_zero, List.getElem_cons_succ, List.setIfInBounds_toArray, List.set_cons_zero, List.set_cons_succ]
        refine wpAnyH_take (i := 2) (v := ?_) rfl (by kernel_rfl) (by kernel_rfl) (by kernel_rfl) (fun _ _ _ h => h) (Or.inl ⟨by rfl, ?hy114⟩) (by assumption) ?ty114
        case hy114 => (intro w hSw; (try dsimp only at hSw); go_simp; all_goals first | with_reducible rfl | (rw [if_pos (by omega)]))
        simp only [Act.put, List.getElem_toArray, List.getElem_cons_zero, List.getElem_cons_succ, List.setIfInBounds_toArray, List.set_cons_zero, List.set_cons_succ]
        refine wpAnyH_ready (rs := [3]) (by kernel_rfl) (by simp) ?_
        refine AllReadyH.cons rfl (fun K hK => ?_) AllReadyH.nil
        go_simp
        refine (HSP.out _ (by exact hrN)).mono ?_
        rintro e u1 ⟨v8, rfl, hown8, hbx⟩
        simp only
        obtain ⟨b3, c3, hv, -, -⟩ := hown8.form
        rw [hv]
        clear hv hown8
        have HW_u1 : Hid (Below X.heap.size X u1) := (Below.refl _ _).drew.trans hbx
        have hsS : u1.cell? ⟨g6, 0, none⟩ = some (.int .i64 0) ∧ u1.cell? ⟨g6, 1, none⟩ = some (.slice a7 R.length c7) := ⟨(HW_u1.out.cell (p := ⟨g6, 0, none⟩) hg6).trans k0, (HW_u1.out.cell (p := ⟨g6, 1, none⟩) hg6).trans k1⟩
        refine hK.out _ _ hsS (fun hHeld => ?_)
        clear hK K
        clear hsS hbx
        refine wpAnyH_take (i := 4) (v := ?_) rfl (by kernel_rfl) (by kernel_rfl) (by kernel_rfl) (fun _ _ _ h => h) (Or.inl ⟨by rfl, ?hy115⟩) (by assumption) ?ty115
        case hy115 => (intro w hSw; (try dsimp only at hSw); go_simp; all_goals first | with_reducible rfl | (rw [if_pos (by omega)]))
        simp only [Act.put, List.getElem_toArray, List.getElem_cons_zero, List.getElem_cons_succ, List.setIfInBounds_toArray, List.set_cons_zero, List.set_cons_succ]
        refine wpAnyH_take (i := 5) (v := .bool false) rfl (by kernel_rfl) (by kernel_rfl) (by kernel_rfl) (fun _ _ _ h => h) (Or.inl ⟨by rfl, ?hy116⟩) (by assumption) ?ty116
        case hy116 => (intro w hSw; (try dsimp only at hSw); go_simp; all_goals first | omega | (simp; done) | (simp; omega) | with_reducible rfl)
        simp only [Act.put, List.getElem_toArray, List.getElem_cons_zero, List.getElem_cons_succ, List.setIfInBounds_toArray, List.set_cons_zero, List.set_cons_succ]
        refine wpAnyH_take (i := 6) (v := ?_) rfl (by kernel_rfl) (by kernel_rfl) (by kernel_rfl) (fun _ _ _ h => h) (Or.inl ⟨by rfl, ?hy117⟩) (by assumption) ?ty117
        case hy117 => (intro w hSw; (try dsimp only at hSw); go_simp; all_goals first | with_reducible rfl | (rw [if_pos (by omega)]))
        simp only [Act.put, List.getElem_toArray, List.getElem_cons_zero, List.getElem_cons_succ, List.setIfInBounds_toArray, List.set_cons_zero, List.set_cons_succ]
        refine wpAnyH_take (i := 7) (v := ?_) rfl (by kernel_rfl) (by kernel_rfl) (by kernel_rfl) (fun _ _ _ h => h) (Or.inl ⟨by rfl, ?hy118⟩) (by assumption) ?ty118
        case hy118 => (intro w hSw; (try dsimp only at hSw); go_simp; all_goals first | with_reducible rfl | (rw [if_pos (by omega)]))
        simp only [Act.put, List.getElem_toArray, List.getElem_cons_zero, List.getElem_cons_succ, List.setIfInBounds_toArray, List.set_cons_zero, List.set_cons_succ]
        refine wpAnyH_take (i := 8) (v := ?_) rfl (by kernel_rfl) (by kernel_rfl) (by kernel_rfl) (fun _ _ _ h => h) (Or.inl ⟨by rfl, ?hy119⟩) (by assumption) ?ty119
        case hy119 => (intro w hSw; (try dsimp only at hSw); go_simp; all_goals first | with_reducible rfl | (rw [if_pos (by omega)]))
        simp only [Act.put, List.getElem_toArray, List.getElem_cons_zero, List.getElem_cons_succ, List.setIfInBounds_toArray, List.set_cons_zero, List.set_cons_succ]
        refine wpAnyH_take (i := 9) (v := .bool true) rfl (by kernel_rfl) (by kernel_rfl) (by kernel_rfl) (fun _ _ _ h => h) (Or.inl ⟨by rfl, ?hy120⟩) (by assumption) ?ty120
        case hy120 => (intro w hSw; (try dsimp only at hSw); go_simp; all_goals first | omega | (simp; done) | (simp; omega) | with_reducible rfl)
        simp only [Act.put, List.getElem_toArray, List.getElem_cons_zero, List.getElem_cons_succ, List.setIfInBounds_toArray, List.set_cons_zero, List.set_cons_succ]
        refine wpAnyH_take (i := 10) (v := ?_) rfl (by kernel_rfl) (by kernel_rfl) (by kernel_rfl) (fun _ _ _ h => h) (Or.inl ⟨by rfl, ?hy121⟩) (by assumption) ?ty121
        case hy121 => (intro w hSw; (try dsimp only at hSw); go_simp; all_goals first | with_reducible rfl | (rw [if_pos (by omega)]))
        simp only [Act.put, List.getElem_toArray, List.getElem_cons_zero, List.getElem_cons_succ, List.setIfInBounds_toArray, List.set_cons_zero, List.set_cons_succ]
        refine wpAnyH_take (i := 11) (v := ?_) rfl (by kernel_rfl) (by kernel_rfl) (by kernel_rfl) (fun _ _ _ h => h) (Or.inl ⟨by rfl, ?hy122⟩) (by assumption) ?ty122
        case hy122 => (intro w hSw; (try dsimp only at hSw); go_simp; all_goals first | with_reducible rfl | (rw [if_pos (by omega)]))
        simp only [Act.put, List.getElem_toArray, List.getElem_cons_zero, List.getElem_cons_succ, List.setIfInBounds_toArray, List.set_cons_zero, List.set_cons_succ]
        refine wpAnyH_take (i := 12) (v := ?_) rfl (by kernel_rfl) (by kernel_rfl) (by kernel_rfl) (fun _ _ _ h => h) (Or.inl ⟨by rfl, ?hy123⟩) (by assumption) ?ty123
        case hy123 => (intro w hSw; (try dsimp only at hSw); go_simp; all_goals first | with_reducible rfl | (rw [if_pos (by omega)]))
        simp only [Act.put, List.getElem_toArray, List.getElem_cons_zero, List.getElem_cons_succ, List.setIfInBounds_toArray, List.set_cons_zero, List.set_cons_succ]
        refine wpAnyH_take (i := 15) (v := ?_) rfl (by kernel_rfl) (by kernel_rfl) (by kernel_rfl) (fun _ _ _ h => h) (Or.inl ⟨by rfl, ?hy124⟩) (by assumption) ?ty124
        case hy124 => (intro w hSw; (try dsimp only at hSw); go_simp; all_goals first | with_reducible rfl | (rw [if_pos (by omega)]))
        simp only [Act.put, List.getElem_toArray, List.getElem_cons_zero, List.getElem_cons_succ, List.setIfInBounds_toArray, List.set_cons_zero, List.set_cons_succ]
        refine wpAnyH_ready (rs := [13]) (by kernel_rfl) (by simp) ?_
        refine AllReadyH.cons rfl (fun K hK => ?_) AllReadyH.nil
        go_simp
        refine (HEXx.out _ (by exact hrR.below HW_u1.out)).mono ?_
        rintro e u2 ⟨v9, rfl, hown9, hbx⟩
        simp only at hown9 ⊢
        obtain ⟨b4, c4, hv, -, -⟩ := hown9.form
        rw [hv] at hown9 ⊢
        clear hv
        have HW_u2 : Hid (Below X.heap.size X u2) := HW_u1.out.trans (hbx.mono HW_u1.out.size)
        have hsS : u2.cell? ⟨g6, 0, none⟩ = some (.int .i64 0) ∧ u2.cell? ⟨g6, 1, none⟩ = some (.slice a7 R.length c7) := ⟨(HW_u2.out.cell (p := ⟨g6, 0, none⟩) hg6).trans k0, (HW_u2.out.cell (p := ⟨g6, 1, none⟩) hg6).trans k1⟩
        refine hK.out _ _ hsS (fun hHeld => ?_)
        clear hK K
        clear hsS hbx
        refine wpAnyH_take (i := 14) (v := ?_) rfl (by kernel_rfl) (by kernel_rfl) (by kernel_rfl) (fun _ _ _ h => h) (Or.inl ⟨by rfl, ?hy125⟩) (by assumption) ?ty125
        case hy125 => (intro w hSw; (try dsimp only at hSw); go_simp; all_goals first | with_reducible rfl | (rw [if_pos (by omega)]))
        simp only [Act.put, List.getElem_toArray, List.getElem_cons_zero, List.getElem_cons_succ, List.setIfInBounds_toArray, List.set_cons_zero, List.set_cons_succ]
        refine wpAnyH_ready (rs := [16]) (by kernel_rfl) (by simp) ?_
        refine AllReadyH.cons rfl (fun K hK => ?_) AllReadyH.nil
        go_simp
        refine (HLN.out _ _ _ (by exact hown9.rd.2) (by exact hrN.below HW_u2.out)).mono ?_
        rintro e u3 ⟨rfl, hbx⟩
        have HW_u3 : Hid (Below X.heap.size X u3) := HW_u2.out.trans (hbx.mono HW_u2.out.size)
        have hsS : u3.cell? ⟨g6, 0, none⟩ = some (.int .i64 0) ∧ u3.cell? ⟨g6, 1, none⟩ = some (.slice a7 R.length c7) := ⟨(HW_u3.out.cell (p := ⟨g6, 0, none⟩) hg6).trans k0, (HW_u3.out.cell (p := ⟨g6, 1, none⟩) hg6).trans k1⟩
        refine hK.out _ _ hsS (fun hHeld => ?_)
        clear hK K
        clear hsS hbx
        refine wpAnyH_take (i := 17) (v := .bool false) rfl (by kernel_rfl) (by kernel_rfl) (by kernel_rfl) (fun _ _ _ h => h) (Or.inl ⟨by rfl, ?hy126⟩) (by assumption) ?ty126
        case hy126 => (intro w hSw; (try dsimp only at hSw); go_simp; all_goals first | omega | (simp; done) | (simp; omega) | with_reducible rfl)
        simp only [Act.put, List.getElem_toArray, List.getElem_cons_zero, List.getElem_cons_succ, List.setIfInBounds_toArray, List.set_cons_zero, List.set_cons_succ]
        refine wpAnyH_take (i := 18) (v := ?_) rfl (by kernel_rfl) (by kernel_rfl) (by kernel_rfl) (fun _ _ _ h => h) (Or.inl ⟨by rfl, ?hy127⟩) (by assumption) ?ty127
        case hy127 => (intro w hSw; (try dsimp only at hSw); go_simp; all_goals first | with_reducible rfl | (rw [if_pos (by omega)]))
        simp only [Act.put, List.getElem_toArray, List.getElem_cons_zero, List.getElem_cons_succ, List.setIfInBounds_toArray, List.set_cons_zero, List.set_cons_succ]
        refine wpAnyH_take (i := 19) (v := ?_) rfl (by kernel_rfl) (by kernel_rfl) (by kernel_rfl) (fun _ _ _ h => h) (Or.inl ⟨by rfl, ?hy128⟩) (by assumption) ?ty128
        case hy128 => (intro w hSw; (try dsimp only at hSw); go_simp; all_goals first | with_reducible rfl | (rw [if_pos (by omega)]))
        simp only [Act.put, List.getElem_toArray, List.getElem_cons_zero, List.getElem_cons_succ, List.setIfInBounds_toArray, List.set_cons_zero, List.set_cons_succ]
        refine wpAnyH_done (by kernel_rfl) ?_ _
        have HB9 : Hid (Below w.heap.size w u3) := HB7.out.trans (HW_u3.out.mono HB7.out.size)
        clear hHeld HW_u1 HW_u2 HW_u3 HEXx hown9 HB7 HSP hrR hrN k0 k1 hg6 HSB HSN HLN HEX
        generalize u3 = V9 at *
        go_wp2_with fail
        refine (drawSetText_any a n cap l V9 hl (hr.below HB9.out) hB (by omega)).mono ?_
        rintro e wA ⟨vA, Q, rfl, hoA, hQl, hbX⟩
        obtain ⟨aA, cA, hv, -, -⟩ := hoA.form
        subst hv
        have hrA := hoA.rd.2
        have HBA : Hid (Below w.heap.size w wA) := HB9.out.trans (hbX.mono HB9.out.size)
        have HSX : Hid (∀ w, RdY w aA Q → Calls Tryz.prog 15 #[.slice aA Q.length cA] w fun e w' => e = .returned (.agg #[.int .i64 (stT Q).1, .string (str (stT Q).2)]) ∧ Below w.heap.size w w') := fun w hr => specSetText_any aA Q.length cA Q w rfl hr (by omega)
        have HRF : Hid (∀ w, RdY w aA Q → Calls Tryz.prog 16 #[.slice aA Q.length cA] w fun e w' => e = .returned (.int .i64 (rfV Q)) ∧ Below w.heap.size w w') := fun w hr => rangesFault_any aA Q.length cA Q w rfl hr (by omega)
        have HSY : Hid (∀ w, RdY w aA Q → TabW w → Calls Tryz.prog 8 #[.slice aA Q.length cA] w fun e w' => e = .returned (.agg #[.int .i64 (stT Q).1, .string (str (stT Q).2)]) ∧ Below w.heap.size w w') := fun w hr ht => HST.out aA cA Q w hQl hr ht
        clear hoA hbX HB9 HST
        by_cases h0 : rfV Q = 0
        · rw [stT_ok h0] at HSX HSY
          simp only at HSX HSY
          obtain ⟨hQA, hQ1, hQ8⟩ := rfV_A h0
          have hpt := pmV_tx h0
          have hsmall := txY_small hQA
          have htl8 := txY_len Q
          have hpos := txY_pos hQ1
          have hszQ : (str (txY Q)).size ≤ 72 := by rw [str_size]; omega
          have HPQ : Hid (∀ w, VarE w → TabW w → Calls Tryz.prog 6 #[.string (str (txY Q))] w fun e w' => RngEndY (0, Q) w e w') := fun w hv ht => by
            have h := parseSet_any (str (txY Q)) w (by omega) hv ht
            rw [pp_pm, bsN_str hsmall, hpt] at h; exact h
          have hne1 : (str (txY Q)).toList.isEmpty = false := by
            rw [str_toList]
            cases hq : txY Q with
            | nil => rw [hq] at hpos; simp at hpos
            | cons x r => rfl
          have hne2 : ((str (txY Q)).toList == []) = false := by
            rw [str_toList]
            cases hq : txY Q with
            | nil => rw [hq] at hpos; simp at hpos
            | cons x r => rfl
          have hne3 : ((str (txY Q)).toList != []) = true := by rw [bne, hne2]; rfl
          clear hpt hsmall htl8 hpos HSX HRF
          generalize str (txY Q) = sQ at *
          go_wp2_with fail
          refine (HSY.out _ hrA (TabW.below htW HBA.out)).mono ?_
          rintro e wB ⟨rfl, hbB⟩
          have hbN : Below wB.heap.size wB (wB.alloc (.cells #[.int .i64 0, .string sQ] 30)) := (Below.refl _ _).alloc (Nat.le_refl _) _
          have hbB' := hbB.trans (hbN.mono hbB.size)
          have hrB := hrA.below hbB'
          have HBB : Hid (Below w.heap.size w (wB.alloc (.cells #[.int .i64 0, .string sQ] 30))) := HBA.out.trans (hbB'.mono HBA.out.size)
          obtain ⟨k0, k1, -, -⟩ := res_block (w := wB) (wr := wB.alloc (.cells #[.int .i64 0, .string sQ] 30)) rfl (Below.refl _ _)
          have hg8 : wB.heap.size < (wB.alloc (.cells #[.int .i64 0, .string sQ] 30)).heap.size := by simp
          clear hbB hbB' hbN hrA HBA HSY
          go_wp2_with fail
          generalize wB.alloc (.cells #[.int .i64 0, .string sQ] 30) = Y at *
          generalize wB.heap.size = g8 at *
          refine (HPQ.out _ (htE.below HBB.out) (TabW.below htW HBB.out)).mono ?_
          rintro e wC ⟨vC, rfl, hoC, hbC⟩
          simp only at hoC ⊢
          obtain ⟨aC, cC, hv, -, -⟩ := hoC.form
          subst hv
          have hbN : Below wC.heap.size wC (wC.alloc (.cells #[.int .i64 0, .slice aC Q.length cC] 27)) := (Below.refl _ _).alloc (Nat.le_refl _) _
          have hbC' := hbC.trans (hbN.mono hbC.size)
          have hrC := hrB.below hbC'
          have hrD := hoC.rd.2.below hbN
          have HBC : Hid (Below w.heap.size w (wC.alloc (.cells #[.int .i64 0, .slice aC Q.length cC] 27))) := HBB.out.trans (hbC'.mono HBB.out.size)
          have j1 := (hbC'.cell (p := ⟨g8, 1, none⟩) hg8).trans k1
          have hg8' : g8 < (wC.alloc (.cells #[.int .i64 0, .slice aC Q.length cC] 27)).heap.size := Nat.lt_of_lt_of_le hg8 hbC'.size
          obtain ⟨m0, m1, -, -⟩ := res_block (w := wC) (wr := wC.alloc (.cells #[.int .i64 0, .slice aC Q.length cC] 27)) rfl (Below.refl _ _)
          have hg9 : wC.heap.size < (wC.alloc (.cells #[.int .i64 0, .slice aC Q.length cC] 27)).heap.size := by simp
          clear hbC hbC' hbN hoC hrB HBB k0 k1 hg8 HPQ
          go_wp2
          generalize wC.alloc (.cells #[.int .i64 0, .slice aC Q.length cC] 27) = Z at *
          generalize wC.heap.size = g9 at *
          obtain ⟨M, hM⟩ : ∃ M, Q.length = M := ⟨_, rfl⟩
          rw [hM] at m1 hQl hQ8 hQ1 ⊢
          obtain ⟨bA, oA, eA, hbAl, hcA⟩ := hrC.at_ (by omega)
          obtain ⟨bC, oC, eC, hbCl, hcC⟩ := hrD.at_ (by omega)
          subst eA
          subst eC
          go_loopw [10] (fun i wr => ∃ k : Nat, k ≤ M ∧ i = .int .i64 (k : Int) ∧ Below Z.heap.size Z wr) (fun i _ => M - (intOf i).toNat)
          case atStart => exact ⟨0, by omega, rfl, Below.refl _ _⟩
          case round =>
            obtain ⟨k, hk, rfl, hbel⟩ := hrel
            by_cases hkM : k < M
            · have hki : (k : Int) < (M : Int) := by omega
              have x1 : wr.cell? ⟨g9, 1, none⟩ = some (.slice (some ⟨bC, oC, none⟩) M cC) := (hbel.cell (p := ⟨g9, 1, none⟩) hg9).trans m1
              have p0 : wr.cell? ⟨bA, oA + k * 2, none⟩ = some (.int .i64 (nthY Q k).1) := (hbel.cell (p := ⟨bA, oA + k * 2, none⟩) hbAl).trans (hcA k (by omega)).1
              have p1 : wr.cell? ⟨bA, oA + k * 2 + 1, none⟩ = some (.int .i64 (nthY Q k).2) := (hbel.cell (p := ⟨bA, oA + k * 2 + 1, none⟩) hbAl).trans (hcA k (by omega)).2
              have q0 : wr.cell? ⟨bC, oC + k * 2, none⟩ = some (.int .i64 (nthY Q k).1) := (hbel.cell (p := ⟨bC, oC + k * 2, none⟩) hbCl).trans (hcC k (by omega)).1
              have q1 : wr.cell? ⟨bC, oC + k * 2 + 1, none⟩ = some (.int .i64 (nthY Q k).2) := (hbel.cell (p := ⟨bC, oC + k * 2 + 1, none⟩) hbCl).trans (hcC k (by omega)).2
              generalize (nthY Q k).1 = f at *
              generalize (nthY Q k).2 = g at *
              go_wp2_with fail
              refine wp_region_held_drew (S := fun w' => w'.cell? ⟨g9, 1, none⟩ = some (.slice (some ⟨bC, oC, none⟩) M cC) ∧ (w'.cell? ⟨bA, oA + k * 2, none⟩ = some (.int .i64 f) ∧ w'.cell? ⟨bA, oA + k * 2 + 1, none⟩ = some (.int .i64 g)) ∧ (w'.cell? ⟨bC, oC + k * 2, none⟩ = some (.int .i64 f) ∧ w'.cell? ⟨bC, oC + k * 2 + 1, none⟩ = some (.int .i64 g))) (by kernel_rfl) ?hS129 (fun hHeld => ?_)
              case hS129 => exact ⟨x1, ⟨p0, p1⟩, ⟨q0, q1⟩⟩
              refine wpAnyH_take (i := 0) (v := ?_) rfl (by kernel_rfl) (by kernel_rfl) (by kernel_rfl) (fun _ _ _ h => h) (Or.inl ⟨by rfl, ?hy130⟩) (by assumption) ?ty130
              case hy130 => (intro w hSw; (try dsimp only at hSw); go_simp; all_goals first | with_reducible rfl | (rw [if_pos (by omega)]))
              simp only [Act.put, List.getElem_toArray, List.getElem_cons_zero, List.setIfInBounds_toArray, List.set_cons_zero, List.set_cons_succ]
              refine wpAnyH_take (i := 1) (v := ?_) rfl (by kernel_rfl) (by kernel_rfl) (by kernel_rfl) (fun _ _ _ h => h) (Or.inl ⟨by rfl, ?hy131⟩) (by assumption) ?ty131
              case hy131 => (intro w hSw; (try dsimp only at hSw); go_simp; all_goals first | with_reducible rfl | (rw [if_pos (by omega)]))
              simp only [Act.put, List.getElem_toArray, List.getElem_cons_zero, List.getElem_cons_succ, List.setIfInBounds_toArray, List.set_cons_zero, List.set_cons_succ]
              refine wpAnyH_take (i := 2) (v := ?_) rfl (by kernel_rfl) (by kernel_rfl) (by kernel_rfl) (fun _ _ _ h => h) (Or.inl ⟨by rfl, ?hy132⟩) (by assumption) ?ty132
              case hy132 => (intro w hSw; (try dsimp only at hSw); go_simp; all_goals first | with_reducible rfl | (rw [if_pos (by omega)]))
              simp only [Act.put, List.getElem_toArray, List.getElem_cons_zero, List.getElem_cons_succ, List.setIfInBounds_toArray, List.set_cons_zero, List.set_cons_succ]
              refine wpAnyH_take (i := 3) (v := ?_) rfl (by kernel_rfl) (by kernel_rfl) (by kernel_rfl) (fun _ _ _ h => h) (Or.inl ⟨by rfl, ?hy133⟩) (by assumption) ?ty133
              case hy133 => (intro w hSw; (try dsimp only at hSw); go_simp; all_goals first | with_reducible rfl | (rw [if_pos (by omega)]))
              simp only [Act.put, List.getElem_toArray, List.getElem_cons_zero, List.getElem_cons_succ, List.setIfInBounds_toArray, List.set_cons_zero, List.set_cons_succ]
              refine wpAnyH_take (i := 4) (v := ?_) rfl (by kernel_rfl) (by kernel_rfl) (by kernel_rfl) (fun _ _ _ h => h) (Or.inl ⟨by rfl, ?hy134⟩) (by assumption) ?ty134
              case hy134 => (intro w hSw; (try dsimp only at hSw); go_simp; all_goals first | with_reducible rfl | (rw [if_pos (by omega)]))
              simp only [Act.put, List.getElem_toArray, List.getElem_cons_zero, List.getElem_cons_succ, List.setIfInBounds_toArray, List.set_cons_zero, List.set_cons_succ]
              refine wpAnyH_take (i := 5) (v := ?_) rfl (by kernel_rfl) (by kernel_rfl) (by kernel_rfl) (fun _ _ _ h => h) (Or.inl ⟨by rfl, ?hy135⟩) (by assumption) ?ty135
              case hy135 => (intro w hSw; (try dsimp only at hSw); go_simp; all_goals first | with_reducible rfl | (rw [if_pos (by omega)]))
              simp only [Act.put, List.getElem_toArray, List.getElem_cons_zero, List.getElem_cons_succ, List.setIfInBounds_toArray, List.set_cons_zero, List.set_cons_succ]
              refine wpAnyH_take (i := 6) (v := ?_) rfl (by kernel_rfl) (by kernel_rfl) (by kernel_rfl) (fun _ _ _ h => h) (Or.inl ⟨by rfl, ?hy136⟩) (by assumption) ?ty136
              case hy136 => (intro w hSw; (try dsimp only at hSw); go_simp; all_goals first | with_reducible rfl | (rw [if_pos (by omega)]))
              simp only [Act.put, List.getElem_toArray, List.getElem_cons_zero, List.getElem_cons_succ, List.setIfInBounds_toArray, List.set_cons_zero, List.set_cons_succ]
              refine wpAnyH_take (i := 7) (v := ?_) rfl (by kernel_rfl) (by kernel_rfl) (by kernel_rfl) (fun _ _ _ h => h) (Or.inl ⟨by rfl, ?hy137⟩) (by assumption) ?ty137
              case hy137 => (intro w hSw; (try dsimp only at hSw); go_simp; all_goals first | with_reducible rfl | (rw [if_pos (by omega)]))
              simp only [Act.put, List.getElem_toArray, List.getElem_cons_zero, List.getElem_cons_succ, List.setIfInBounds_toArray, List.set_cons_zero, List.set_cons_succ]
              refine wpAnyH_take (i := 8) (v := ?_) rfl (by kernel_rfl) (by kernel_rfl) (by kernel_rfl) (fun _ _ _ h => h) (Or.inl ⟨by rfl, ?hy138⟩) (by assumption) ?ty138
              case hy138 => (intro w hSw; (try dsimp only at hSw); go_simp; all_goals first | with_reducible rfl | (rw [if_pos (by omega)]))
              simp only [Act.put, List.getElem_toArray, List.getElem_cons_zero, List.getElem_cons_succ, List.setIfInBounds_toArray, List.set_cons_zero, List.set_cons_succ]
              refine wpAnyH_take (i := 9) (v := .bool false) rfl (by kernel_rfl) (by kernel_rfl) (by kernel_rfl) (fun _ _ _ h => h) (Or.inl ⟨by rfl, ?hy139⟩) (by assumption) ?ty139
              case hy139 => (intro w hSw; (try dsimp only at hSw); go_simp; all_goals first | omega | (simp; done) | (simp; omega) | with_reducible rfl)
              simp only [Act.put, List.getElem_toArray, List.getElem_cons_zero, List.getElem_cons_succ, List.setIfInBounds_toArray, List.set_cons_zero, List.set_cons_succ]
              refine wpAnyH_done (by kernel_rfl) ?_ _
              have hbel2 := hbel.drew
              clear hHeld
              go_wp2
              go_roundw
              case rel => exact ⟨k + 1, by omega, by go_num, hbel2⟩
              case measure => simp [intOf]; omega
            · have hki : ¬ (k : Int) < (M : Int) := by omega
              have x1 : wr.cell? ⟨g8, 1, none⟩ = some (.string sQ) := (hbel.cell (p := ⟨g8, 1, none⟩) hg8').trans j1
              have HF : Hid (Below w.heap.size w wr) := HBC.out.trans (hbel.mono HBC.out.size)
              clear hbel
              go_wp2
              go_ret
              exact ⟨rfl, HF.out⟩
        · rw [stT_bad h0] at HSX HSY
          simp only at HSX HSY
          obtain ⟨q, hq⟩ : ∃ q, q = rfV Q := ⟨_, rfl⟩
          rw [← hq] at HSX HSY HRF h0
          clear hq
          generalize str [] = sx at *
          have e0 : (q != 0) = true := by simp [h0]
          go_wp2_with fail
          refine (HSY.out _ hrA (TabW.below htW HBA.out)).mono ?_
          rintro e wB ⟨rfl, hbB⟩
          have hbN : Below wB.heap.size wB (wB.alloc (.cells #[.int .i64 q, .string sx] 30)) := (Below.refl _ _).alloc (Nat.le_refl _) _
          have hbB' := hbB.trans (hbN.mono hbB.size)
          have hrB := hrA.below hbB'
          have HBB : Hid (Below w.heap.size w (wB.alloc (.cells #[.int .i64 q, .string sx] 30))) := HBA.out.trans (hbB'.mono HBA.out.size)
          obtain ⟨k0, k1, -, -⟩ := res_block (w := wB) (wr := wB.alloc (.cells #[.int .i64 q, .string sx] 30)) rfl (Below.refl _ _)
          have hg8 : wB.heap.size < (wB.alloc (.cells #[.int .i64 q, .string sx] 30)).heap.size := by simp
          clear hbB hbB' hbN hrA HBA HSY
          go_wp2_with fail
          generalize wB.alloc (.cells #[.int .i64 q, .string sx] 30) = Y at *
          generalize wB.heap.size = g8 at *
          refine wp_region_held_drew (S := fun w' => w'.cell? ⟨g8, 0, none⟩ = some (.int .i64 q)) (by kernel_rfl) ?hS140 (fun hHeld => ?_)
          case hS140 => exact k0
          refine wpAnyH_take (i := 0) (v := ?_) rfl (by kernel_rfl) (by kernel_rfl) (by kernel_rfl) (fun _ _ _ h => h) (Or.inl ⟨by rfl, ?hy141⟩) (by assumption) ?ty141
          case hy141 => (intro w hSw; (try dsimp only at hSw); go_simp; all_goals first | with_reducible rfl | (rw [if_pos (by omega)]))
          simp only [Act.put, List.getElem_toArray, List.getElem_cons_zero, List.setIfInBounds_toArray, List.set_cons_zero, List.set_cons_succ]
          refine wpAnyH_take (i := 3) (v := ?_) rfl (by kernel_rfl) (by kernel_rfl) (by kernel_rfl) (fun _ _ _ h => h) (Or.inl ⟨by rfl, ?hy142⟩) (by assumption) ?ty142
          case hy142 => (intro w hSw; (try dsimp only at hSw); go_simp; all_goals first | with_reducible rfl | (rw [if_pos (by omega)]))
          simp only [Act.put, List.getElem_toArray, List.getElem_cons_zero, List.getElem_cons_succ, List.setIfInBounds_toArray, List.set_cons_zero, List.set_cons_succ]
          refine wpAnyH_take (i := 4) (v := ?_) rfl (by kernel_rfl) (by kernel_rfl) (by kernel_rfl) (fun _ _ _ h => h) (Or.inl ⟨by rfl, ?hy143⟩) (by assumption) ?ty143
          case hy143 => (intro w hSw; (try dsimp only at hSw); go_simp; all_goals first | with_reducible rfl | (rw [if_pos (by omega)]))
          simp only [Act.put, List.getElem_toArray, List.getElem_cons_zero, List.getElem_cons_succ, List.setIfInBounds_toArray, List.set_cons_zero, List.set_cons_succ]
          refine wpAnyH_ready (rs := [1]) (by kernel_rfl) (by simp) ?_
          refine AllReadyH.cons rfl (fun K hK => ?_) AllReadyH.nil
          go_simp
          refine (HSX.out _ (by exact hrB)).mono ?_
          rintro e u1 ⟨rfl, hbx⟩
          have HW_u1 : Hid (Below Y.heap.size Y u1) := (Below.refl _ _).drew.trans hbx
          have hsS : u1.cell? ⟨g8, 0, none⟩ = some (.int .i64 q) := (HW_u1.out.cell (p := ⟨g8, 0, none⟩) hg8).trans k0
          refine hK.out _ _ hsS (fun hHeld => ?_)
          clear hK K
          clear hsS hbx
          refine wpAnyH_take (i := 2) (v := ?_) rfl (by kernel_rfl) (by kernel_rfl) (by kernel_rfl) (fun _ _ _ h => h) (Or.inl ⟨by rfl, ?hy144⟩) (by assumption) ?ty144
          case hy144 => (intro w hSw; (try dsimp only at hSw); go_simp; all_goals first | with_reducible rfl | (rw [if_pos (by omega)]))
          simp only [Act.put, List.getElem_toArray, List.getElem_cons_zero, List.getElem_cons_succ, List.setIfInBounds_toArray, List.set_cons_zero, List.set_cons_succ]
          refine wpAnyH_take (i := 5) (v := .bool true) rfl (by kernel_rfl) (by kernel_rfl) (by kernel_rfl) (fun _ _ _ h => h) (Or.inl ⟨by rfl, ?hy145⟩) (by assumption) ?ty145
          case hy145 => (intro w hSw; (try dsimp only at hSw); go_simp; all_goals first | omega | (simp; done) | (simp; omega) | with_reducible rfl)
          simp only [Act.put, List.getElem_toArray, List.getElem_cons_zero, List.getElem_cons_succ, List.setIfInBounds_toArray, List.set_cons_zero, List.set_cons_succ]
          refine wpAnyH_take (i := 6) (v := ?_) rfl (by kernel_rfl) (by kernel_rfl) (by kernel_rfl) (fun _ _ _ h => h) (Or.inl ⟨by rfl, ?hy146⟩) (by assumption) ?ty146
          case hy146 => (intro w hSw; (try dsimp only at hSw); go_simp; all_goals first | with_reducible rfl | (rw [if_pos (by omega)]))
          simp only [Act.put, List.getElem_toArray, List.getElem_cons_zero, List.getElem_cons_succ, List.setIfInBounds_toArray, List.set_cons_zero, List.set_cons_succ]
          refine wpAnyH_take (i := 7) (v := ?_) rfl (by kernel_rfl) (by kernel_rfl) (by kernel_rfl) (fun _ _ _ h => h) (Or.inl ⟨by rfl, ?hy147⟩) (by assumption) ?ty147
          case hy147 => (intro w hSw; (try dsimp only at hSw); go_simp; all_goals first | with_reducible rfl | (rw [if_pos (by omega)]))
          simp only [Act.put, List.getElem_toArray, List.getElem_cons_zero, List.getElem_cons_succ, List.setIfInBounds_toArray, List.set_cons_zero, List.set_cons_succ]
          refine wpAnyH_take (i := 9) (v := ?_) rfl (by kernel_rfl) (by kernel_rfl) (by kernel_rfl) (fun _ _ _ h => h) (Or.inl ⟨by rfl, ?hy148⟩) (by assumption) ?ty148
          case hy148 => (intro w hSw; (try dsimp only at hSw); go_simp; all_goals first | with_reducible rfl | (rw [if_pos (by omega)]))
          simp only [Act.put, List.getElem_toArray, List.getElem_cons_zero, List.getElem_cons_succ, List.setIfInBounds_toArray, List.set_cons_zero, List.set_cons_succ]
          refine wpAnyH_take (i := 10) (v := ?_) rfl (by kernel_rfl) (by kernel_rfl) (by kernel_rfl) (fun _ _ _ h => h) (Or.inl ⟨by rfl, ?hy149⟩) (by assumption) ?ty149
          case hy149 => (intro w hSw; (try dsimp only at hSw); go_simp; all_goals first | with_reducible rfl | (rw [if_pos (by omega)]))
          simp only [Act.put, List.getElem_toArray, List.getElem_cons_zero, List.getElem_cons_succ, List.setIfInBounds_toArray, List.set_cons_zero, List.set_cons_succ]
          refine wpAnyH_ready (rs := [8]) (by kernel_rfl) (by simp) ?_
          refine AllReadyH.cons rfl (fun K hK => ?_) AllReadyH.nil
          go_simp
          refine (HRF.out _ (by exact hrB.below HW_u1.out)).mono ?_
          rintro e u2 ⟨rfl, hbx⟩
          have HW_u2 : Hid (Below Y.heap.size Y u2) := HW_u1.out.trans (hbx.mono HW_u1.out.size)
          have hsS : u2.cell? ⟨g8, 0, none⟩ = some (.int .i64 q) := (HW_u2.out.cell (p := ⟨g8, 0, none⟩) hg8).trans k0
          refine hK.out _ _ hsS (fun hHeld => ?_)
          clear hK K
          clear hsS hbx
          refine wpAnyH_take (i := 11) (v := .bool true) rfl (by kernel_rfl) (by kernel_rfl) (by kernel_rfl) (fun _ _ _ h => h) (Or.inl ⟨by rfl, ?hy150⟩) (by assumption) ?ty150
          case hy150 => (intro w hSw; (try dsimp only at hSw); go_simp; all_goals first | omega | (simp; done) | (simp; omega) | with_reducible rfl)
          simp only [Act.put, List.getElem_toArray, List.getElem_cons_zero, List.getElem_cons_succ, List.setIfInBounds_toArray, List.set_cons_zero, List.set_cons_succ]
          refine wpAnyH_take (i := 12) (v := ?_) rfl (by kernel_rfl) (by kernel_rfl) (by kernel_rfl) (fun _ _ _ h => h) (Or.inl ⟨by rfl, ?hy151⟩) (by assumption) ?ty151
          case hy151 => (intro w hSw; (try dsimp only at hSw); go_simp; all_goals first | with_reducible rfl | (rw [if_pos (by omega)]))
          simp only [Act.put, List.getElem_toArray, List.getElem_cons_zero, List.getElem_cons_succ, List.setIfInBounds_toArray, List.set_cons_zero, List.set_cons_succ]
          refine wpAnyH_take (i := 13) (v := ?_) rfl (by kernel_rfl) (by kernel_rfl) (by kernel_rfl) (fun _ _ _ h => h) (Or.inl ⟨by rfl, ?hy152⟩) (by assumption) ?ty152
          case hy152 => (intro w hSw; (try dsimp only at hSw); go_simp; all_goals first | with_reducible rfl | (rw [if_pos (by omega)]))
          simp only [Act.put, List.getElem_toArray, List.getElem_cons_zero, List.getElem_cons_succ, List.setIfInBounds_toArray, List.set_cons_zero, List.set_cons_succ]
          refine wpAnyH_done (by kernel_rfl) ?_ _
          have HF : Hid (Below w.heap.size w u2) := HBB.out.trans (HW_u2.out.mono HBB.out.size)
          clear hHeld HW_u1 HW_u2 HSX HRF HBB hrB
          go_wp2
          go_ret
          exact ⟨rfl, HF.out⟩
      · have e0 : (c == 0) = false := beq_eq_false_iff_ne.2 hc
        refine wp_region_held_drew (S := fun w' => w'.cell? ⟨g6, 0, none⟩ = some (.int .i64 c) ∧ w'.cell? ⟨g6, 1, none⟩ = some (.slice a7 R.length c7)) (by kernel_rfl) ?hS153 (fun hHeld => ?_)
        case hS153 => exact ⟨k0, k1⟩
        refine wpAnyH_take (i := 0) (v := ?_) rfl (by kernel_rfl) (by kernel_rfl) (by kernel_rfl) (fun _ _ _ h => h) (Or.inl ⟨by rfl, ?hy154⟩) (by assumption) ?ty154
        case hy154 => (intro w hSw; (try dsimp only at hSw); go_simp; all_goals first | with_reducible rfl | (rw [if_pos (by omega)]))
        simp only [Act.put, List.getElem_toArray, List.getElem_cons_zero, List.setIfInBounds_toArray, List.set_cons_zero, List.set_cons_succ]
        refine wpAnyH_take (i := 1) (v := ?_) rfl (by kernel_rfl) (by kernel_rfl) (by kernel_rfl) (fun _ _ _ h => h) (Or.inl ⟨by rfl, ?hy155⟩) (by assumption) ?ty155
        case hy155 => (intro w hSw; (try dsimp only at hSw); go_simp; all_goals first | with_reducible rfl | (rw [if_pos (by omega)]))
        simp only [Act.put, List.getElem_toArray, List.getElem_cons_zero, List.getElem_cons_succ, List.setIfInBounds_toArray, List.set_cons_zero, List.set_cons_succ]
        refine wpAnyH_take (i := 2) (v := ?_) rfl (by kernel_rfl) (by kernel_rfl) (by kernel_rfl) (fun _ _ _ h => h) (Or.inl ⟨by rfl, ?hy156⟩) (by assumption) ?ty156
        case hy156 => (intro w hSw; (try dsimp only at hSw); go_simp; all_goals first | with_reducible rfl | (rw [if_pos (by omega)]))
        simp only [Act.put, List.getElem_toArray, List.getElem_cons_zero, List.getElem_cons_succ, List.setIfInBounds_toArray, List.set_cons_zero, List.set_cons_succ]
        refine wpAnyH_ready (rs := [3]) (by kernel_rfl) (by simp) ?_
        refine AllReadyH.cons rfl (fun K hK => ?_) AllReadyH.nil
        go_simp
        refine (HSP.out _ (by exact hrN)).mono ?_
        rintro e u1 ⟨v8, rfl, hown8, hbx⟩
        simp only
        obtain ⟨b3, c3, hv, -, -⟩ := hown8.form
        rw [hv]
        clear hv hown8
        have HW_u1 : Hid (Below X.heap.size X u1) := (Below.refl _ _).drew.trans hbx
        have hsS : u1.cell? ⟨g6, 0, none⟩ = some (.int .i64 c) ∧ u1.cell? ⟨g6, 1, none⟩ = some (.slice a7 R.length c7) := ⟨(HW_u1.out.cell (p := ⟨g6, 0, none⟩) hg6).trans k0, (HW_u1.out.cell (p := ⟨g6, 1, none⟩) hg6).trans k1⟩
        refine hK.out _ _ hsS (fun hHeld => ?_)
        clear hK K
        clear hsS hbx
        refine wpAnyH_take (i := 4) (v := ?_) rfl (by kernel_rfl) (by kernel_rfl) (by kernel_rfl) (fun _ _ _ h => h) (Or.inl ⟨by rfl, ?hy157⟩) (by assumption) ?ty157
        case hy157 => (intro w hSw; (try dsimp only at hSw); go_simp; all_goals first | with_reducible rfl | (rw [if_pos (by omega)]))
        simp only [Act.put, List.getElem_toArray, List.getElem_cons_zero, List.getElem_cons_succ, List.setIfInBounds_toArray, List.set_cons_zero, List.set_cons_succ]
        refine wpAnyH_take (i := 5) (v := .bool false) rfl (by kernel_rfl) (by kernel_rfl) (by kernel_rfl) (fun _ _ _ h => h) (Or.inl ⟨by rfl, ?hy158⟩) (by assumption) ?ty158
        case hy158 => (intro w hSw; (try dsimp only at hSw); go_simp; all_goals first | omega | (simp; done) | (simp; omega) | with_reducible rfl)
        simp only [Act.put, List.getElem_toArray, List.getElem_cons_zero, List.getElem_cons_succ, List.setIfInBounds_toArray, List.set_cons_zero, List.set_cons_succ]
        refine wpAnyH_take (i := 6) (v := ?_) rfl (by kernel_rfl) (by kernel_rfl) (by kernel_rfl) (fun _ _ _ h => h) (Or.inl ⟨by rfl, ?hy159⟩) (by assumption) ?ty159
        case hy159 => (intro w hSw; (try dsimp only at hSw); go_simp; all_goals first | with_reducible rfl | (rw [if_pos (by omega)]))
        simp only [Act.put, List.getElem_toArray, List.getElem_cons_zero, List.getElem_cons_succ, List.setIfInBounds_toArray, List.set_cons_zero, List.set_cons_succ]
        refine wpAnyH_take (i := 7) (v := ?_) rfl (by kernel_rfl) (by kernel_rfl) (by kernel_rfl) (fun _ _ _ h => h) (Or.inl ⟨by rfl, ?hy160⟩) (by assumption) ?ty160
        case hy160 => (intro w hSw; (try dsimp only at hSw); go_simp; all_goals first | with_reducible rfl | (rw [if_pos (by omega)]))
        simp only [Act.put, List.getElem_toArray, List.getElem_cons_zero, List.getElem_cons_succ, List.setIfInBounds_toArray, List.set_cons_zero, List.set_cons_succ]
        refine wpAnyH_take (i := 8) (v := ?_) rfl (by kernel_rfl) (by kernel_rfl) (by kernel_rfl) (fun _ _ _ h => h) (Or.inl ⟨by rfl, ?hy161⟩) (by assumption) ?ty161
        case hy161 => (intro w hSw; (try dsimp only at hSw); go_simp; all_goals first | with_reducible rfl | (rw [if_pos (by omega)]))
        simp only [Act.put, List.getElem_toArray, List.getElem_cons_zero, List.getElem_cons_succ, List.setIfInBounds_toArray, List.set_cons_zero, List.set_cons_succ]
        refine wpAnyH_take (i := 9) (v := .bool false) rfl (by kernel_rfl) (by kernel_rfl) (by kernel_rfl) (fun _ _ _ h => h) (Or.inl ⟨by rfl, ?hy162⟩) (by assumption) ?ty162
        case hy162 => (intro w hSw; (try dsimp only at hSw); go_simp; all_goals first | (simp; done) | (rw [e0]) | (simp [e0]; done) | with_reducible rfl)
        simp only [Act.put, List.getElem_toArray, List.getElem_cons_zero, List.getElem_cons_succ, List.setIfInBounds_toArray, List.set_cons_zero, List.set_cons_succ]
        refine wpAnyH_take (i := 10) (v := ?_) rfl (by kernel_rfl) (by kernel_rfl) (by kernel_rfl) (fun _ _ _ h => h) (Or.inl ⟨by rfl, ?hy163⟩) (by assumption) ?ty163
        case hy163 => (intro w hSw; (try dsimp only at hSw); go_simp; all_goals first | with_reducible rfl | (rw [if_pos (by omega)]))
        simp only [Act.put, List.getElem_toArray, List.getElem_cons_zero, List.getElem_cons_succ, List.setIfInBounds_toArray, List.set_cons_zero, List.set_cons_succ]
        refine wpAnyH_take (i := 11) (v := undef) rfl (by kernel_rfl) (by kernel_rfl) (by kernel_rfl) (fun _ _ _ h => h) (Or.inr ⟨by rfl, rfl⟩) (by assumption) ?_
        simp only [Act.put, List.getElem_toArray, List.getElem_cons_zero, List.getElem_cons_succ, List.setIfInBounds_toArray, List.set_cons_zero, List.set_cons_succ]
        refine wpAnyH_take (i := 12) (v := undef) rfl (by kernel_rfl) (by kernel_rfl) (by kernel_rfl) (fun _ _ _ h => h) (Or.inr ⟨by rfl, rfl⟩) (by assumption) ?_
        simp only [Act.put, List.getElem_toArray, List.getElem_cons_zero, List.getElem_cons_succ, List.setIfInBounds_toArray, List.set_cons_zero, List.set_cons_succ]
        refine wpAnyH_take (i := 13) (v := undef) rfl (by kernel_rfl) (by kernel_rfl) (by kernel_rfl) (fun _ _ _ h => h) (Or.inr ⟨by rfl, rfl⟩) (by assumption) ?_
        simp only [Act.put, List.getElem_toArray, List.getElem_cons_zero, List.getElem_cons_succ, List.setIfInBounds_toArray, List.set_cons_zero, List.set_cons_succ]
        refine wpAnyH_take (i := 14) (v := undef) rfl (by kernel_rfl) (by kernel_rfl) (by kernel_rfl) (fun _ _ _ h => h) (Or.inr ⟨by rfl, rfl⟩) (by assumption) ?_
        simp only [Act.put, List.getElem_toArray, List.getElem_cons_zero, List.getElem_cons_succ, List.setIfInBounds_toArray, List.set_cons_zero, List.set_cons_succ]
        refine wpAnyH_take (i := 15) (v := undef) rfl (by kernel_rfl) (by kernel_rfl) (by kernel_rfl) (fun _ _ _ h => h) (Or.inr ⟨by rfl, rfl⟩) (by assumption) ?_
        simp only [Act.put, List.getElem_toArray, List.getElem_cons_zero, List.getElem_cons_succ, List.setIfInBounds_toArray, List.set_cons_zero, List.set_cons_succ]
        refine wpAnyH_take (i := 16) (v := undef) rfl (by kernel_rfl) (by kernel_rfl) (by kernel_rfl) (fun _ _ _ h => h) (Or.inr ⟨by rfl, rfl⟩) (by assumption) ?_
        simp only [Act.put, List.getElem_toArray, List.getElem_cons_zero, List.getElem_cons_succ, List.setIfInBounds_toArray, List.set_cons_zero, List.set_cons_succ]
        refine wpAnyH_take (i := 17) (v := undef) rfl (by kernel_rfl) (by kernel_rfl) (by kernel_rfl) (fun _ _ _ h => h) (Or.inr ⟨by rfl, rfl⟩) (by assumption) ?_
        simp only [Act.put, List.getElem_toArray, List.getElem_cons_zero, List.getElem_cons_succ, List.setIfInBounds_toArray, List.set_cons_zero, List.set_cons_succ]
        refine wpAnyH_take (i := 18) (v := ?_) rfl (by kernel_rfl) (by kernel_rfl) (by kernel_rfl) (fun _ _ _ h => h) (Or.inl ⟨by rfl, ?hy164⟩) (by assumption) ?ty164
        case hy164 => (intro w hSw; (try dsimp only at hSw); go_simp; all_goals first | with_reducible rfl | (rw [if_pos (by omega)]))
        simp only [Act.put, List.getElem_toArray, List.getElem_cons_zero, List.getElem_cons_succ, List.setIfInBounds_toArray, List.set_cons_zero, List.set_cons_succ]
        refine wpAnyH_take (i := 19) (v := ?_) rfl (by kernel_rfl) (by kernel_rfl) (by kernel_rfl) (fun _ _ _ h => h) (Or.inl ⟨by rfl, ?hy165⟩) (by assumption) ?ty165
        case hy165 => (intro w hSw; (try dsimp only at hSw); go_simp; all_goals first | with_reducible rfl | (rw [if_pos (by omega)]))
        simp only [Act.put, List.getElem_toArray, List.getElem_cons_zero, List.getElem_cons_succ, List.setIfInBounds_toArray, List.set_cons_zero, List.set_cons_succ]
        refine wpAnyH_done (by kernel_rfl) ?_ _
        have HB9 : Hid (Below w.heap.size w u1) := HB7.out.trans (HW_u1.out.mono HB7.out.size)
        clear hHeld HW_u1 HB7 HSP hrR hrN k0 k1 hg6 HSB HSN HLN HEX
        generalize u1 = V9 at *
        go_wp2_with fail
        refine (drawSetText_any a n cap l V9 hl (hr.below HB9.out) hB (by omega)).mono ?_
        rintro e wA ⟨vA, Q, rfl, hoA, hQl, hbX⟩
        obtain ⟨aA, cA, hv, -, -⟩ := hoA.form
        subst hv
        have hrA := hoA.rd.2
        have HBA : Hid (Below w.heap.size w wA) := HB9.out.trans (hbX.mono HB9.out.size)
        have HSX : Hid (∀ w, RdY w aA Q → Calls Tryz.prog 15 #[.slice aA Q.length cA] w fun e w' => e = .returned (.agg #[.int .i64 (stT Q).1, .string (str (stT Q).2)]) ∧ Below w.heap.size w w') := fun w hr => specSetText_any aA Q.length cA Q w rfl hr (by omega)
        have HRF : Hid (∀ w, RdY w aA Q → Calls Tryz.prog 16 #[.slice aA Q.length cA] w fun e w' => e = .returned (.int .i64 (rfV Q)) ∧ Below w.heap.size w w') := fun w hr => rangesFault_any aA Q.length cA Q w rfl hr (by omega)
        have HSY : Hid (∀ w, RdY w aA Q → TabW w → Calls Tryz.prog 8 #[.slice aA Q.length cA] w fun e w' => e = .returned (.agg #[.int .i64 (stT Q).1, .string (str (stT Q).2)]) ∧ Below w.heap.size w w') := fun w hr ht => HST.out aA cA Q w hQl hr ht
        clear hoA hbX HB9 HST
        by_cases h0 : rfV Q = 0
        · rw [stT_ok h0] at HSX HSY
          simp only at HSX HSY
          obtain ⟨hQA, hQ1, hQ8⟩ := rfV_A h0
          have hpt := pmV_tx h0
          have hsmall := txY_small hQA
          have htl8 := txY_len Q
          have hpos := txY_pos hQ1
          have hszQ : (str (txY Q)).size ≤ 72 := by rw [str_size]; omega
          have HPQ : Hid (∀ w, VarE w → TabW w → Calls Tryz.prog 6 #[.string (str (txY Q))] w fun e w' => RngEndY (0, Q) w e w') := fun w hv ht => by
            have h := parseSet_any (str (txY Q)) w (by omega) hv ht
            rw [pp_pm, bsN_str hsmall, hpt] at h; exact h
          have hne1 : (str (txY Q)).toList.isEmpty = false := by
            rw [str_toList]
            cases hq : txY Q with
            | nil => rw [hq] at hpos; simp at hpos
            | cons x r => rfl
          have hne2 : ((str (txY Q)).toList == []) = false := by
            rw [str_toList]
            cases hq : txY Q with
            | nil => rw [hq] at hpos; simp at hpos
            | cons x r => rfl
          have hne3 : ((str (txY Q)).toList != []) = true := by rw [bne, hne2]; rfl
          clear hpt hsmall htl8 hpos HSX HRF
          generalize str (txY Q) = sQ at *
          go_wp2_with fail
          refine (HSY.out _ hrA (TabW.below htW HBA.out)).mono ?_
          rintro e wB ⟨rfl, hbB⟩
          have hbN : Below wB.heap.size wB (wB.alloc (.cells #[.int .i64 0, .string sQ] 30)) := (Below.refl _ _).alloc (Nat.le_refl _) _
          have hbB' := hbB.trans (hbN.mono hbB.size)
          have hrB := hrA.below hbB'
          have HBB : Hid (Below w.heap.size w (wB.alloc (.cells #[.int .i64 0, .string sQ] 30))) := HBA.out.trans (hbB'.mono HBA.out.size)
          obtain ⟨k0, k1, -, -⟩ := res_block (w := wB) (wr := wB.alloc (.cells #[.int .i64 0, .string sQ] 30)) rfl (Below.refl _ _)
          have hg8 : wB.heap.size < (wB.alloc (.cells #[.int .i64 0, .string sQ] 30)).heap.size := by simp
          clear hbB hbB' hbN hrA HBA HSY
          go_wp2_with fail
          generalize wB.alloc (.cells #[.int .i64 0, .string sQ] 30) = Y at *
          generalize wB.heap.size = g8 at *
          refine (HPQ.out _ (htE.below HBB.out) (TabW.below htW HBB.out)).mono ?_
          rintro e wC ⟨vC, rfl, hoC, hbC⟩
          simp only at hoC ⊢
          obtain ⟨aC, cC, hv, -, -⟩ := hoC.form
          subst hv
          have hbN : Below wC.heap.size wC (wC.alloc (.cells #[.int .i64 0, .slice aC Q.length cC] 27)) := (Below.refl _ _).alloc (Nat.le_refl _) _
          have hbC' := hbC.trans (hbN.mono hbC.size)
          have hrC := hrB.below hbC'
          have hrD := hoC.rd.2.below hbN
          have HBC : Hid (Below w.heap.size w (wC.alloc (.cells #[.int .i64 0, .slice aC Q.length cC] 27))) := HBB.out.trans (hbC'.mono HBB.out.size)
          have j1 := (hbC'.cell (p := ⟨g8, 1, none⟩) hg8).trans k1
          have hg8' : g8 < (wC.alloc (.cells #[.int .i64 0, .slice aC Q.length cC] 27)).heap.size := Nat.lt_of_lt_of_le hg8 hbC'.size
          obtain ⟨m0, m1, -, -⟩ := res_block (w := wC) (wr := wC.alloc (.cells #[.int .i64 0, .slice aC Q.length cC] 27)) rfl (Below.refl _ _)
          have hg9 : wC.heap.size < (wC.alloc (.cells #[.int .i64 0, .slice aC Q.length cC] 27)).heap.size := by simp
          clear hbC hbC' hbN hoC hrB HBB k0 k1 hg8 HPQ
          go_wp2
          generalize wC.alloc (.cells #[.int .i64 0, .slice aC Q.length cC] 27) = Z at *
          generalize wC.heap.size = g9 at *
          obtain ⟨M, hM⟩ : ∃ M, Q.length = M := ⟨_, rfl⟩
          rw [hM] at m1 hQl hQ8 hQ1 ⊢
          obtain ⟨bA, oA, eA, hbAl, hcA⟩ := hrC.at_ (by omega)
          obtain ⟨bC, oC, eC, hbCl, hcC⟩ := hrD.at_ (by omega)
          subst eA
          subst eC
          go_loopw [10] (fun i wr => ∃ k : Nat, k ≤ M ∧ i = .int .i64 (k : Int) ∧ Below Z.heap.size Z wr) (fun i _ => M - (intOf i).toNat)
          case atStart => exact ⟨0, by omega, rfl, Below.refl _ _⟩
          case round =>
            obtain ⟨k, hk, rfl, hbel⟩ := hrel
            by_cases hkM : k < M
            · have hki : (k : Int) < (M : Int) := by omega
              have x1 : wr.cell? ⟨g9, 1, none⟩ = some (.slice (some ⟨bC, oC, none⟩) M cC) := (hbel.cell (p := ⟨g9, 1, none⟩) hg9).trans m1
              have p0 : wr.cell? ⟨bA, oA + k * 2, none⟩ = some (.int .i64 (nthY Q k).1) := (hbel.cell (p := ⟨bA, oA + k * 2, none⟩) hbAl).trans (hcA k (by omega)).1
              have p1 : wr.cell? ⟨bA, oA + k * 2 + 1, none⟩ = some (.int .i64 (nthY Q k).2) := (hbel.cell (p := ⟨bA, oA + k * 2 + 1, none⟩) hbAl).trans (hcA k (by omega)).2
              have q0 : wr.cell? ⟨bC, oC + k * 2, none⟩ = some (.int .i64 (nthY Q k).1) := (hbel.cell (p := ⟨bC, oC + k * 2, none⟩) hbCl).trans (hcC k (by omega)).1
              have q1 : wr.cell? ⟨bC, oC + k * 2 + 1, none⟩ = some (.int .i64 (nthY Q k).2) := (hbel.cell (p := ⟨bC, oC + k * 2 + 1, none⟩) hbCl).trans (hcC k (by omega)).2
              generalize (nthY Q k).1 = f at *
              generalize (nthY Q k).2 = g at *
              go_wp2_with fail
              refine wp_region_held_drew (S := fun w' => w'.cell? ⟨g9, 1, none⟩ = some (.slice (some ⟨bC, oC, none⟩) M cC) ∧ (w'.cell? ⟨bA, oA + k * 2, none⟩ = some (.int .i64 f) ∧ w'.cell? ⟨bA, oA + k * 2 + 1, none⟩ = some (.int .i64 g)) ∧ (w'.cell? ⟨bC, oC + k * 2, none⟩ = some (.int .i64 f) ∧ w'.cell? ⟨bC, oC + k * 2 + 1, none⟩ = some (.int .i64 g))) (by kernel_rfl) ?hS166 (fun hHeld => ?_)
              case hS166 => exact ⟨x1, ⟨p0, p1⟩, ⟨q0, q1⟩⟩
              refine wpAnyH_take (i := 0) (v := ?_) rfl (by kernel_rfl) (by kernel_rfl) (by kernel_rfl) (fun _ _ _ h => h) (Or.inl ⟨by rfl, ?hy167⟩) (by assumption) ?ty167
              case hy167 => (intro w hSw; (try dsimp only at hSw); go_simp; all_goals first | with_reducible rfl | (rw [if_pos (by omega)]))
              simp only [Act.put, List.getElem_toArray, List.getElem_cons_zero, List.setIfInBounds_toArray, List.set_cons_zero, List.set_cons_succ]
              refine wpAnyH_take (i := 1) (v := ?_) rfl (by kernel_rfl) (by kernel_rfl) (by kernel_rfl) (fun _ _ _ h => h) (Or.inl ⟨by rfl, ?hy168⟩) (by assumption) ?ty168
              case hy168 => (intro w hSw; (try dsimp only at hSw); go_simp; all_goals first | with_reducible rfl | (rw [if_pos (by omega)]))
              simp only [Act.put, List.getElem_toArray, List.getElem_cons_zero, List.getElem_cons_succ, List.setIfInBounds_toArray, List.set_cons_zero, List.set_cons_succ]
              refine wpAnyH_take (i := 2) (v := ?_) rfl (by kernel_rfl) (by kernel_rfl) (by kernel_rfl) (fun _ _ _ h => h) (Or.inl ⟨by rfl, ?hy169⟩) (by assumption) ?ty169
              case hy169 => (intro w hSw; (try dsimp only at hSw); go_simp; all_goals first | with_reducible rfl | (rw [if_pos (by omega)]))
              simp only [Act.put, List.getElem_toArray, List.getElem_cons_zero, List.getElem_cons_succ, List.setIfInBounds_toArray, List.set_cons_zero, List.set_cons_succ]
              refine wpAnyH_take (i := 3) (v := ?_) rfl (by kernel_rfl) (by kernel_rfl) (by kernel_rfl) (fun _ _ _ h => h) (Or.inl ⟨by rfl, ?hy170⟩) (by assumption) ?ty170
              case hy170 => (intro w hSw; (try dsimp only at hSw); go_simp; all_goals first | with_reducible rfl | (rw [if_pos (by omega)]))
              simp only [Act.put, List.getElem_toArray, List.getElem_cons_zero, List.getElem_cons_succ, List.setIfInBounds_toArray, List.set_cons_zero, List.set_cons_succ]
              refine wpAnyH_take (i := 4) (v := ?_) rfl (by kernel_rfl) (by kernel_rfl) (by kernel_rfl) (fun _ _ _ h => h) (Or.inl ⟨by rfl, ?hy171⟩) (by assumption) ?ty171
              case hy171 => (intro w hSw; (try dsimp only at hSw); go_simp; all_goals first | with_reducible rfl | (rw [if_pos (by omega)]))
              simp only [Act.put, List.getElem_toArray, List.getElem_cons_zero, List.getElem_cons_succ, List.setIfInBounds_toArray, List.set_cons_zero, List.set_cons_succ]
              refine wpAnyH_take (i := 5) (v := ?_) rfl (by kernel_rfl) (by kernel_rfl) (by kernel_rfl) (fun _ _ _ h => h) (Or.inl ⟨by rfl, ?hy172⟩) (by assumption) ?ty172
              case hy172 => (intro w hSw; (try dsimp only at hSw); go_simp; all_goals first | with_reducible rfl | (rw [if_pos (by omega)]))
              simp only [Act.put, List.getElem_toArray, List.getElem_cons_zero, List.getElem_cons_succ, List.setIfInBounds_toArray, List.set_cons_zero, List.set_cons_succ]
              refine wpAnyH_take (i := 6) (v := ?_) rfl (by kernel_rfl) (by kernel_rfl) (by kernel_rfl) (fun _ _ _ h => h) (Or.inl ⟨by rfl, ?hy173⟩) (by assumption) ?ty173
              case hy173 => (intro w hSw; (try dsimp only at hSw); go_simp; all_goals first | with_reducible rfl | (rw [if_pos (by omega)]))
              simp only [Act.put, List.getElem_toArray, List.getElem_cons_zero, List.getElem_cons_succ, List.setIfInBounds_toArray, List.set_cons_zero, List.set_cons_succ]
              refine wpAnyH_take (i := 7) (v := ?_) rfl (by kernel_rfl) (by kernel_rfl) (by kernel_rfl) (fun _ _ _ h => h) (Or.inl ⟨by rfl, ?hy174⟩) (by assumption) ?ty174
              case hy174 => (intro w hSw; (try dsimp only at hSw); go_simp; all_goals first | with_reducible rfl | (rw [if_pos (by omega)]))
              simp only [Act.put, List.getElem_toArray, List.getElem_cons_zero, List.getElem_cons_succ, List.setIfInBounds_toArray, List.set_cons_zero, List.set_cons_succ]
              refine wpAnyH_take (i := 8) (v := ?_) rfl (by kernel_rfl) (by kernel_rfl) (by kernel_rfl) (fun _ _ _ h => h) (Or.inl ⟨by rfl, ?hy175⟩) (by assumption) ?ty175
              case hy175 => (intro w hSw; (try dsimp only at hSw); go_simp; all_goals first | with_reducible rfl | (rw [if_pos (by omega)]))
              simp only [Act.put, List.getElem_toArray, List.getElem_cons_zero, List.getElem_cons_succ, List.setIfInBounds_toArray, List.set_cons_zero, List.set_cons_succ]
              refine wpAnyH_take (i := 9) (v := .bool false) rfl (by kernel_rfl) (by kernel_rfl) (by kernel_rfl) (fun _ _ _ h => h) (Or.inl ⟨by rfl, ?hy176⟩) (by assumption) ?ty176
              case hy176 => (intro w hSw; (try dsimp only at hSw); go_simp; all_goals first | omega | (simp; done) | (simp; omega) | with_reducible rfl)
              simp only [Act.put, List.getElem_toArray, List.getElem_cons_zero, List.getElem_cons_succ, List.setIfInBounds_toArray, List.set_cons_zero, List.set_cons_succ]
              refine wpAnyH_done (by kernel_rfl) ?_ _
              have hbel2 := hbel.drew
              clear hHeld
              go_wp2
              go_roundw
              case rel => exact ⟨k + 1, by omega, by go_num, hbel2⟩
              case measure => simp [intOf]; omega
            · have hki : ¬ (k : Int) < (M : Int) := by omega
              have x1 : wr.cell? ⟨g8, 1, none⟩ = some (.string sQ) := (hbel.cell (p := ⟨g8, 1, none⟩) hg8').trans j1
              have HF : Hid (Below w.heap.size w wr) := HBC.out.trans (hbel.mono HBC.out.size)
              clear hbel
              go_wp2
              go_ret
              exact ⟨rfl, HF.out⟩
        · rw [stT_bad h0] at HSX HSY
          simp only at HSX HSY
          obtain ⟨q, hq⟩ : ∃ q, q = rfV Q := ⟨_, rfl⟩
          rw [← hq] at HSX HSY HRF h0
          clear hq
          generalize str [] = sx at *
          have e0 : (q != 0) = true := by simp [h0]
          go_wp2_with fail
          refine (HSY.out _ hrA (TabW.below htW HBA.out)).mono ?_
          rintro e wB ⟨rfl, hbB⟩
          have hbN : Below wB.heap.size wB (wB.alloc (.cells #[.int .i64 q, .string sx] 30)) := (Below.refl _ _).alloc (Nat.le_refl _) _
          have hbB' := hbB.trans (hbN.mono hbB.size)
          have hrB := hrA.below hbB'
          have HBB : Hid (Below w.heap.size w (wB.alloc (.cells #[.int .i64 q, .string sx] 30))) := HBA.out.trans (hbB'.mono HBA.out.size)
          obtain ⟨k0, k1, -, -⟩ := res_block (w := wB) (wr := wB.alloc (.cells #[.int .i64 q, .string sx] 30)) rfl (Below.refl _ _)
          have hg8 : wB.heap.size < (wB.alloc (.cells #[.int .i64 q, .string sx] 30)).heap.size := by simp
          clear hbB hbB' hbN hrA HBA HSY
          go_wp2_with fail
          generalize wB.alloc (.cells #[.int .i64 q, .string sx] 30) = Y at *
          generalize wB.heap.size = g8 at *
          refine wp_region_held_drew (S := fun w' => w'.cell? ⟨g8, 0, none⟩ = some (.int .i64 q)) (by kernel_rfl) ?hS177 (fun hHeld => ?_)
          case hS177 => exact k0
          refine wpAnyH_take (i := 0) (v := ?_) rfl (by kernel_rfl) (by kernel_rfl) (by kernel_rfl) (fun _ _ _ h => h) (Or.inl ⟨by rfl, ?hy178⟩) (by assumption) ?ty178
          case hy178 => (intro w hSw; (try dsimp only at hSw); go_simp; all_goals first | with_reducible rfl | (rw [if_pos (by omega)]))
          simp only [Act.put, List.getElem_toArray, List.getElem_cons_zero, List.setIfInBounds_toArray, List.set_cons_zero, List.set_cons_succ]
          refine wpAnyH_take (i := 3) (v := ?_) rfl (by kernel_rfl) (by kernel_rfl) (by kernel_rfl) (fun _ _ _ h => h) (Or.inl ⟨by rfl, ?hy179⟩) (by assumption) ?ty179
          case hy179 => (intro w hSw; (try dsimp only at hSw); go_simp; all_goals first | with_reducible rfl | (rw [if_pos (by omega)]))
          simp only [Act.put, List.getElem_toArray, List.getElem_cons_zero, List.getElem_cons_succ, List.setIfInBounds_toArray, List.set_cons_zero, List.set_cons_succ]
          refine wpAnyH_take (i := 4) (v := ?_) rfl (by kernel_rfl) (by kernel_rfl) (by kernel_rfl) (fun _ _ _ h => h) (Or.inl ⟨by rfl, ?hy180⟩) (by assumption) ?ty180
          case hy180 => (intro w hSw; (try dsimp only at hSw); go_simp; all_goals first | with_reducible rfl | (rw [if_pos (by omega)]))
          simp only [Act.put, List.getElem_toArray, List.getElem_cons_zero, List.getElem_cons_succ, List.setIfInBounds_toArray, List.set_cons_zero, List.set_cons_succ]
          refine wpAnyH_ready (rs := [1]) (by kernel_rfl) (by simp) ?_
          refine AllReadyH.cons rfl (fun K hK => ?_) AllReadyH.nil
          go_simp
          refine (HSX.out _ (by exact hrB)).mono ?_
          rintro e u1 ⟨rfl, hbx⟩
          have HW_u1 : Hid (Below Y.heap.size Y u1) := (Below.refl _ _).drew.trans hbx
          have hsS : u1.cell? ⟨g8, 0, none⟩ = some (.int .i64 q) := (HW_u1.out.cell (p := ⟨g8, 0, none⟩) hg8).trans k0
          refine hK.out _ _ hsS (fun hHeld => ?_)
          clear hK K
          clear hsS hbx
          refine wpAnyH_take (i := 2) (v := ?_) rfl (by kernel_rfl) (by kernel_rfl) (by kernel_rfl) (fun _ _ _ h => h) (Or.inl ⟨by rfl, ?hy181⟩) (by assumption) ?ty181
          case hy181 => (intro w hSw; (try dsimp only at hSw); go_simp; all_goals first | with_reducible rfl | (rw [if_pos (by omega)]))
          simp only [Act.put, List.getElem_toArray, List.getElem_cons_zero, List.getElem_cons_succ, List.setIfInBounds_toArray, List.set_cons_zero, List.set_cons_succ]
          refine wpAnyH_take (i := 5) (v := .bool true) rfl (by kernel_rfl) (by kernel_rfl) (by kernel_rfl) (fun _ _ _ h => h) (Or.inl ⟨by rfl, ?hy182⟩) (by assumption) ?ty182
          case hy182 => (intro w hSw; (try dsimp only at hSw); go_simp; all_goals first | omega | (simp; done) | (simp; omega) | with_reducible rfl)
          simp only [Act.put, List.getElem_toArray, List.getElem_cons_zero, List.getElem_cons_succ, List.setIfInBounds_toArray, List.set_cons_zero, List.set_cons_succ]
          refine wpAnyH_take (i := 6) (v := ?_) rfl (by kernel_rfl) (by kernel_rfl) (by kernel_rfl) (fun _ _ _ h => h) (Or.inl ⟨by rfl, ?hy183⟩) (by assumption) ?ty183
          case hy183 => (intro w hSw; (try dsimp only at hSw); go_simp; all_goals first | with_reducible rfl | (rw [if_pos (by omega)]))
          simp only [Act.put, List.getElem_toArray, List.getElem_cons_zero, List.getElem_cons_succ, List.setIfInBounds_toArray, List.set_cons_zero, List.set_cons_succ]
          refine wpAnyH_take (i := 7) (v := ?_) rfl (by kernel_rfl) (by kernel_rfl) (by kernel_rfl) (fun _ _ _ h => h) (Or.inl ⟨by rfl, ?hy184⟩) (by assumption) ?ty184
          case hy184 => (intro w hSw; (try dsimp only at hSw); go_simp; all_goals first | with_reducible rfl | (rw [if_pos (by omega)]))
          simp only [Act.put, List.getElem_toArray, List.getElem_cons_zero, List.getElem_cons_succ, List.setIfInBounds_toArray, List.set_cons_zero, List.set_cons_succ]
          refine wpAnyH_take (i := 9) (v := ?_) rfl (by kernel_rfl) (by kernel_rfl) (by kernel_rfl) (fun _ _ _ h => h) (Or.inl ⟨by rfl, ?hy185⟩) (by assumption) ?ty185
          case hy185 => (intro w hSw; (try dsimp only at hSw); go_simp; all_goals first | with_reducible rfl | (rw [if_pos (by omega)]))
          simp only [Act.put, List.getElem_toArray, List.getElem_cons_zero, List.getElem_cons_succ, List.setIfInBounds_toArray, List.set_cons_zero, List.set_cons_succ]
          refine wpAnyH_take (i := 10) (v := ?_) rfl (by kernel_rfl) (by kernel_rfl) (by kernel_rfl) (fun _ _ _ h => h) (Or.inl ⟨by rfl, ?hy186⟩) (by assumption) ?ty186
          case hy186 => (intro w hSw; (try dsimp only at hSw); go_simp; all_goals first | with_reducible rfl | (rw [if_pos (by omega)]))
          simp only [Act.put, List.getElem_toArray, List.getElem_cons_zero, List.getElem_cons_succ, List.setIfInBounds_toArray, List.set_cons_zero, List.set_cons_succ]
          refine wpAnyH_ready (rs := [8]) (by kernel_rfl) (by simp) ?_
          refine AllReadyH.cons rfl (fun K hK => ?_) AllReadyH.nil
          go_simp
          refine (HRF.out _ (by exact hrB.below HW_u1.out)).mono ?_
          rintro e u2 ⟨rfl, hbx⟩
          have HW_u2 : Hid (Below Y.heap.size Y u2) := HW_u1.out.trans (hbx.mono HW_u1.out.size)
          have hsS : u2.cell? ⟨g8, 0, none⟩ = some (.int .i64 q) := (HW_u2.out.cell (p := ⟨g8, 0, none⟩) hg8).trans k0
          refine hK.out _ _ hsS (fun hHeld => ?_)
          clear hK K
          clear hsS hbx
          refine wpAnyH_take (i := 11) (v := .bool true) rfl (by kernel_rfl) (by kernel_rfl) (by kernel_rfl) (fun _ _ _ h => h) (Or.inl ⟨by rfl, ?hy187⟩) (by assumption) ?ty187
          case hy187 => (intro w hSw; (try dsimp only at hSw); go_simp; all_goals first | omega | (simp; done) | (simp; omega) | with_reducible rfl)
          simp only [Act.put, List.getElem_toArray, List.getElem_cons_zero, List.getElem_cons_succ, List.setIfInBounds_toArray, List.set_cons_zero, List.set_cons_succ]
          refine wpAnyH_take (i := 12) (v := ?_) rfl (by kernel_rfl) (by kernel_rfl) (by kernel_rfl) (fun _ _ _ h => h) (Or.inl ⟨by rfl, ?hy188⟩) (by assumption) ?ty188
          case hy188 => (intro w hSw; (try dsimp only at hSw); go_simp; all_goals first | with_reducible rfl | (rw [if_pos (by omega)]))
          simp only [Act.put, List.getElem_toArray, List.getElem_cons_zero, List.getElem_cons_succ, List.setIfInBounds_toArray, List.set_cons_zero, List.set_cons_succ]
          refine wpAnyH_take (i := 13) (v := ?_) rfl (by kernel_rfl) (by kernel_rfl) (by kernel_rfl) (fun _ _ _ h => h) (Or.inl ⟨by rfl, ?hy189⟩) (by assumption) ?ty189
          case hy189 => (intro w hSw; (try dsimp only at hSw); go_simp; all_goals first | with_reducible rfl | (rw [if_pos (by omega)]))
          simp only [Act.put, List.getElem_toArray, List.getElem_cons_zero, List.getElem_cons_succ, List.setIfInBounds_toArray, List.set_cons_zero, List.set_cons_succ]
          refine wpAnyH_done (by kernel_rfl) ?_ _
          have HF : Hid (Below w.heap.size w u2) := HBB.out.trans (HW_u2.out.mono HBB.out.size)
          clear hHeld HW_u1 HW_u2 HSX HRF HBB hrB
          go_wp2
          go_ret
          exact ⟨rfl, HF.out⟩
end Go.Proofs.YtlkfmgfblfkgbaaGreatDoor
