/- DrawDecodeWords: some text; sources of at most 1048576 bytes. -/
import Derived.Test.YtknbndebfickpaaGreatDoorDrv
import Derived.Test.YtknbndebfickpaaGreatDoorMemFToHdr
namespace Go.Proofs.YtknbndebfickpaaGreatDoor
open Go.RowKit

theorem gfrom {w w1 : World} {row : Option Nat} (h : w.drew.grownBy w1 row) : w.grownBy w1 row := ⟨h.os, h.tape, h.output, h.size, h.block⟩
theorem str_appD (a b : List Nat) : str (a ++ b) = str a ++ str b := by
  apply ByteArray.ext
  simp [str]
theorem three_txt {a b c : List Nat} (ha : IsB a) (hb : IsB b) (hc : IsB c) (hl : a.length + b.length + c.length ≤ 1048576) : ∃ t, (str a ++ str b) ++ str c = str t ∧ IsB t ∧ t.length ≤ 1048576 := by
  refine ⟨(a ++ b) ++ c, by rw [str_appD, str_appD], ?_, by simp; omega⟩
  intro x hx
  rcases List.mem_append.1 hx with hx | hx
  · rcases List.mem_append.1 hx with hx | hx
    · exact ha x hx
    · exact hb x hx
  · exact hc x hx

set_option maxHeartbeats 3200000 in
set_option maxRecDepth 100000 in
theorem drawDecodeWords_any (a : Option Addr) (n cap : Nat) (l : List Nat) (w : World) (hl : l.length = n) (hr : Rd w a l) (hB : IsB l) (hn : n ≤ 1048576) :
    Calls Tryz.prog 5 #[.slice a n cap] w fun e w' => ∃ t : List Nat, e = .returned (.string (str t)) ∧ IsB t ∧ t.length ≤ 1048576 ∧ Below w.heap.size w w' := by
  obtain ⟨i0, hi, hz0, hz1, hz2⟩ := info_parts infoB
  go_enter Tryz.func5, Tryz.ntmps5
  go_wp2_with fail
  refine (l1Source_any a n cap l _ hl hr hB hn).mono ?_
  rintro e w1 ⟨rfl, hs1, hb⟩
  have hlt : w.heap.size < w1.heap.size := (id hs1).2.1
  have hzb := hb.size
  clear hl hr hB hn
  go_wp2_with fail
  refine (l4DrawValue_any w.heap.size w.heap.size 0 _ hs1 (by omega)).mono ?_
  rintro e w2 ⟨t1, rfl, hB1, hl1, hs2, hg2⟩
  go_wp2_with fail
  refine (l1Chance_any w.heap.size w.heap.size 7 3 _ hs2 (by omega) (by omega) (by omega)).mono ?_
  rintro e w3 ⟨q, rfl, hs_w3, hg3⟩
  have hg_w3 : w1.grownBy w3 (some w.heap.size) := gthen hg2 hg3
  clear hs1 hs2 hg2 hg3
  cases q with
  | false =>
    have HS : Hid (Src w3 w.heap.size w.heap.size 16 ∧ w1.grownBy w3 (some w.heap.size)) := ⟨hs_w3.more (by omega), hg_w3⟩
    have HT : Hid (∃ t3, str t1 = str t3 ∧ IsB t3 ∧ t3.length ≤ 1048576) := ⟨t1, rfl, hB1, by omega⟩
    clear hs_w3 hg_w3
    generalize str t1 = tx at *
    go_wp2_with fail
    refine (l1Chance_any w.heap.size w.heap.size 16 40 _ HS.out.1 (by omega) (by omega) (by omega)).mono ?_
    rintro e w8 ⟨q8, rfl, hs8, hg8⟩
    have hbz : Below w.heap.size w w8 := hb.trans (gbelow (gthen HS.out.2 hg8) hlt)
    have hz8 := hg8.size
    have hzX := HS.out.2.size
    clear hs8 hg8 HS
    cases q8 with
    | true =>
      go_wp2_with (at_make; refine wpList_make_full _ rfl _ _ 22 rfl w.heap.size 5 i0 (.int .u8 0) 1 Tryz.underlying22 hi hz0 hz1 .i64 .i64 _ _ 401 rfl rfl rfl rfl (by rw [hz2]; omega) (by unfold maxLen; omega) (by omega) ?_; intro w9 hown9 hgrow9)
      rw [made_bytes] at hown9
      have ho : Own w9 w.heap.size (.slice (some ⟨w8.heap.size, 0, none⟩) 401 401) (List.replicate 401 0) := by unfold Own; rw [List.length_replicate]; exact hown9
      have hb9 : Below w.heap.size w w9 := hbz.grown hgrow9 (by omega) (by intro k hk; cases hk)
      have hzl : (List.replicate 401 0).length = 401 := List.length_replicate
      have hzB : IsB (List.replicate 401 0) := fun z hz => by rw [List.mem_replicate] at hz; omega
      clear hown9 hgrow9 hi hz0 hz1 hz2
      generalize List.replicate 401 0 = zs at *
      have hst := fun c' => run_str (cap := c') (n := 401) hzl ho.rd.2
      clear ho
      go_wp2
      rw [hst]
      go_wp2
      go_ret
      exact ⟨zs, rfl, hzB, by omega, hb9⟩
    | false =>
      have HF : Hid (∃ t : List Nat, Ending.returned (.string tx) = .returned (.string (str t)) ∧ IsB t ∧ t.length ≤ 1048576 ∧ Below w.heap.size w w8) := by
        obtain ⟨t3, e3, hB3, hl3⟩ := HT.out
        exact ⟨t3, by rw [e3], hB3, hl3, hbz⟩
      go_wp2
      go_ret
      exact HF.out
  | true =>
    go_wp2_with fail
    refine wp_region_held_drew (S := fun _ => True) (by kernel_rfl) ?hS19 (fun hHeld => ?_)
    case hS19 => exact trivial
    refine wpAnyH_take (i := 0) (v := ?_) rfl (by kernel_rfl) (by kernel_rfl) (by kernel_rfl) (fun _ _ _ h => h) (Or.inl ⟨by rfl, ?hy20⟩) (by assumption) ?ty20
    case hy20 => (intro w hSw; (try dsimp only at hSw); go_simp; all_goals with_reducible rfl)
    simp only [Act.put, List.getElem_toArray, List.getElem_cons_zero, List.setIfInBounds_toArray, List.set_cons_zero, List.set_cons_succ]
    refine wpAnyH_take (i := 2) (v := ?_) rfl (by kernel_rfl) (by kernel_rfl) (by kernel_rfl) (fun _ _ _ h => h) (Or.inl ⟨by rfl, ?hy21⟩) (by assumption) ?ty21
    case hy21 => (intro w hSw; (try dsimp only at hSw); go_simp; all_goals with_reducible rfl)
    simp only [Act.put, List.getElem_toArray, List.getElem_cons_zero, List.getElem_cons_succ, List.setIfInBounds_toArray, List.set_cons_zero, List.set_cons_succ]
    refine wpAnyH_take (i := 7) (v := ?_) rfl (by kernel_rfl) (by kernel_rfl) (by kernel_rfl) (fun _ _ _ h => h) (Or.inl ⟨by rfl, ?hy22⟩) (by assumption) ?ty22
    case hy22 => (intro w hSw; (try dsimp only at hSw); go_simp; all_goals with_reducible rfl)
    simp only [Act.put, List.getElem_toArray, List.getElem_cons_zero, List.getElem_cons_succ, List.setIfInBounds_toArray, List.set_cons_zero, List.set_cons_succ]
    refine wpAnyH_ready (rs := [1, 3]) (by kernel_rfl) (by simp) ?_
    refine AllReadyH.cons rfl (fun K hK => ?_) (AllReadyH.cons rfl (fun K hK => ?_) AllReadyH.nil)
    · go_simp
      refine hK.out _ _ trivial (fun hHeld => ?_)
      clear hK K
      have hs_W9 : Src (w3.alloc (.cells #[.string ⟨#[32]⟩, .string ⟨#[]⟩, .string ⟨#[63, 61]⟩] 9)) w.heap.size w.heap.size 8 := hs_w3.below ((Below.refl _ _).alloc (by have := (id hs_w3).2.1; omega) _)
      have hg_W9 : w1.grownBy (w3.alloc (.cells #[.string ⟨#[32]⟩, .string ⟨#[]⟩, .string ⟨#[63, 61]⟩] 9)) (some w.heap.size) := gnew hg_w3 _
      have hrow := fun i hi => row_wordV (w := w3) (t := 9) (cs := #[.string ⟨#[32]⟩, .string ⟨#[]⟩, .string ⟨#[63, 61]⟩]) (ss := [⟨#[32]⟩, ⟨#[]⟩, ⟨#[63, 61]⟩]) rfl (by intro s hs; simp only [List.mem_cons, List.not_mem_nil, or_false] at hs; rcases hs with rfl | rfl | rfl <;> decide) i hi
      have hbR : w.heap.size < w3.heap.size := (id hs_w3).2.1
      have hzR : (w3.alloc (.cells #[.string ⟨#[32]⟩, .string ⟨#[]⟩, .string ⟨#[63, 61]⟩] 9)).heap.size = w3.heap.size + 1 := by simp
      generalize w3.alloc (.cells #[.string ⟨#[32]⟩, .string ⟨#[]⟩, .string ⟨#[63, 61]⟩] 9) = W9 at *
      generalize w3.heap.size = R at *
      refine wpAnyH_ready (rs := [3]) (by kernel_rfl) (by simp) ?_
      refine AllReadyH.cons rfl (fun K hK => ?_) AllReadyH.nil
      go_simp
      refine (l1Next_any w.heap.size w.heap.size 8 3 _ (by exact hs_W9) (by omega) (by omega) (by omega)).mono ?_
      rintro e w4 ⟨r, rfl, r0, r1, _, hs_w4, hgx⟩
      obtain ⟨j, rfl⟩ := Int.eq_ofNat_of_zero_le r0
      have hj : j < 3 := by have := r1 (by omega); omega
      have hj' : (j : Int) < 3 := by omega
      have hgy : W9.grownBy w4 (some w.heap.size) := by first | exact gfrom hgx | exact hgx
      have hg_w4 : w1.grownBy w4 (some w.heap.size) := gthen hg_W9 hgy
      refine hK.out _ _ trivial (fun hHeld => ?_)
      clear hK K
      obtain ⟨ts, hcs, hBs, hls⟩ := hrow j hj
      have hc4 : w4.cell? ⟨R, j, none⟩ = some (.string (str ts)) := (hgy.cell_far ⟨R, j, none⟩ (by simp; omega) (by simp; omega)).trans hcs
      have hz4 := hgy.size
      clear hrow hcs
      refine wpAnyH_take (i := 4) (v := .pointer (some ⟨R, j, none⟩)) rfl (by kernel_rfl) (by kernel_rfl) (by kernel_rfl) (fun _ _ _ h => h) (Or.inl ⟨by rfl, ?hy1⟩) (by assumption) ?ty1
      case hy1 => (intro w hSw; (try dsimp only at hSw); go_simp; first | (simp [hj']; done) | (all_goals first | (with_reducible rfl) | omega))
      simp only [Act.put, List.getElem_toArray, List.getElem_cons_zero, List.getElem_cons_succ, List.setIfInBounds_toArray, List.set_cons_zero, List.set_cons_succ]
      refine wpAnyH_ready (rs := [5, 8]) (by kernel_rfl) (by simp) ?_
      refine AllReadyH.cons rfl (fun K hK => ?_) (AllReadyH.cons rfl (fun K hK => ?_) AllReadyH.nil)
      · go_simp
        refine hK.out _ _ trivial (fun hHeld => ?_)
        clear hK K
        have hcat1 : ¬ 9223372036854775807 < (str t1).size + (str ts).size := by rw [str_size, str_size]; omega
        refine wpAnyH_take (i := 6) (v := .string (str t1 ++ str ts)) rfl (by kernel_rfl) (by kernel_rfl) (by kernel_rfl) (fun _ _ _ h => h) (Or.inl ⟨by rfl, ?hy2⟩) (by assumption) ?ty2
        case hy2 => (intro w hSw; (try dsimp only at hSw); go_simp; first | (simp [hcat1]; done) | (rw [if_neg hcat1]; done) | (all_goals with_reducible rfl))
        simp only [Act.put, List.getElem_toArray, List.getElem_cons_zero, List.getElem_cons_succ, List.setIfInBounds_toArray, List.set_cons_zero, List.set_cons_succ]
        refine wpAnyH_ready (rs := [8]) (by kernel_rfl) (by simp) ?_
        refine AllReadyH.cons rfl (fun K hK => ?_) AllReadyH.nil
        go_simp
        refine (l4DrawValue_any w.heap.size w.heap.size 9 _ (by exact hs_w4) (by omega)).mono ?_
        rintro e w5 ⟨t2, rfl, hB2, hl2, hs_w5, hgx2⟩
        have hgz : w4.grownBy w5 (some w.heap.size) := by first | exact gfrom hgx2 | exact hgx2
        have hg_w5 : w1.grownBy w5 (some w.heap.size) := gthen hg_w4 hgz
        refine hK.out _ _ trivial (fun hHeld => ?_)
        clear hK K
        have hcat2 : ¬ 9223372036854775807 < (str t1).size + (str ts).size + (str t2).size := by rw [str_size, str_size, str_size]; omega
        have hcat3 : ¬ 9223372036854775807 < (str t1 ++ str ts).size + (str t2).size := by rw [ByteArray.size_append]; exact hcat2
        refine wpAnyH_take (i := 9) (v := .string ((str t1 ++ str ts) ++ str t2)) rfl (by kernel_rfl) (by kernel_rfl) (by kernel_rfl) (fun _ _ _ h => h) (Or.inl ⟨by rfl, ?hy3⟩) (by assumption) ?ty3
        case hy3 => (intro w hSw; (try dsimp only at hSw); go_simp; first | (simp [hcat2]; done) | (simp [hcat3]; done) | (rw [if_neg hcat3]; done) | (all_goals with_reducible rfl))
        simp only [Act.put, List.getElem_toArray, List.getElem_cons_zero, List.getElem_cons_succ, List.setIfInBounds_toArray, List.set_cons_zero, List.set_cons_succ]
        refine wpAnyH_take (i := 10) (v := ?_) rfl (by kernel_rfl) (by kernel_rfl) (by kernel_rfl) (fun _ _ _ h => h) (Or.inl ⟨by rfl, ?hy4⟩) (by assumption) ?ty4
        case hy4 => (intro w hSw; (try dsimp only at hSw); go_simp; all_goals with_reducible rfl)
        simp only [Act.put, List.getElem_toArray, List.getElem_cons_zero, List.getElem_cons_succ, List.setIfInBounds_toArray, List.set_cons_zero, List.set_cons_succ]
        refine wpAnyH_done (by kernel_rfl) ?_ _
        have HS : Hid (Src w5 w.heap.size w.heap.size 16 ∧ w1.grownBy w5 (some w.heap.size)) := ⟨(by exact hs_w5.more (by omega)), hg_w5⟩
        have HT : Hid (∃ t3, ((str t1) ++ (str ts)) ++ (str t2) = str t3 ∧ IsB t3 ∧ t3.length ≤ 1048576) := three_txt hB1 hBs hB2 (by omega)
        clear hHeld
        generalize ((str t1) ++ (str ts)) ++ (str t2) = tx at *
        generalize w5 = X at HS ⊢
        go_wp2_with fail
        refine (l1Chance_any w.heap.size w.heap.size 16 40 _ HS.out.1 (by omega) (by omega) (by omega)).mono ?_
        rintro e w8 ⟨q8, rfl, hs8, hg8⟩
        have hbz : Below w.heap.size w w8 := hb.trans (gbelow (gthen HS.out.2 hg8) hlt)
        have hz8 := hg8.size
        have hzX := HS.out.2.size
        clear hs8 hg8 HS
        cases q8 with
        | true =>
          go_wp2_with (at_make; refine wpList_make_full _ rfl _ _ 22 rfl w.heap.size 5 i0 (.int .u8 0) 1 Tryz.underlying22 hi hz0 hz1 .i64 .i64 _ _ 401 rfl rfl rfl rfl (by rw [hz2]; omega) (by unfold maxLen; omega) (by omega) ?_; intro w9 hown9 hgrow9)
          rw [made_bytes] at hown9
          have ho : Own w9 w.heap.size (.slice (some ⟨w8.heap.size, 0, none⟩) 401 401) (List.replicate 401 0) := by unfold Own; rw [List.length_replicate]; exact hown9
          have hb9 : Below w.heap.size w w9 := hbz.grown hgrow9 (by omega) (by intro k hk; cases hk)
          have hzl : (List.replicate 401 0).length = 401 := List.length_replicate
          have hzB : IsB (List.replicate 401 0) := fun z hz => by rw [List.mem_replicate] at hz; omega
          clear hown9 hgrow9 hi hz0 hz1 hz2
          generalize List.replicate 401 0 = zs at *
          have hst := fun c' => run_str (cap := c') (n := 401) hzl ho.rd.2
          clear ho
          go_wp2
          rw [hst]
          go_wp2
          go_ret
          exact ⟨zs, rfl, hzB, by omega, hb9⟩
        | false =>
          have HF : Hid (∃ t : List Nat, Ending.returned (.string tx) = .returned (.string (str t)) ∧ IsB t ∧ t.length ≤ 1048576 ∧ Below w.heap.size w w8) := by
            obtain ⟨t3, e3, hB3, hl3⟩ := HT.out
            exact ⟨t3, by rw [e3], hB3, hl3, hbz⟩
          go_wp2
          go_ret
          exact HF.out
      · go_simp
        refine (l4DrawValue_any w.heap.size w.heap.size 9 _ (by exact hs_w4) (by omega)).mono ?_
        rintro e w5 ⟨t2, rfl, hB2, hl2, hs_w5, hgx2⟩
        have hgz : w4.grownBy w5 (some w.heap.size) := by first | exact gfrom hgx2 | exact hgx2
        have hg_w5 : w1.grownBy w5 (some w.heap.size) := gthen hg_w4 hgz
        refine hK.out _ _ trivial (fun hHeld => ?_)
        clear hK K
        have hc5 : w5.cell? ⟨R, j, none⟩ = some (.string (str ts)) := (hgz.cell_far ⟨R, j, none⟩ (by simp; omega) (by simp; omega)).trans hc4
        refine wpAnyH_ready (rs := [5]) (by kernel_rfl) (by simp) ?_
        refine AllReadyH.cons rfl (fun K hK => ?_) AllReadyH.nil
        go_simp
        refine hK.out _ _ trivial (fun hHeld => ?_)
        clear hK K
        have hcat1 : ¬ 9223372036854775807 < (str t1).size + (str ts).size := by rw [str_size, str_size]; omega
        refine wpAnyH_take (i := 6) (v := .string (str t1 ++ str ts)) rfl (by kernel_rfl) (by kernel_rfl) (by kernel_rfl) (fun _ _ _ h => h) (Or.inl ⟨by rfl, ?hy5⟩) (by assumption) ?ty5
        case hy5 => (intro w hSw; (try dsimp only at hSw); go_simp; first | (simp [hcat1]; done) | (rw [if_neg hcat1]; done) | (all_goals with_reducible rfl))
        simp only [Act.put, List.getElem_toArray, List.getElem_cons_zero, List.getElem_cons_succ, List.setIfInBounds_toArray, List.set_cons_zero, List.set_cons_succ]
        have hcat2 : ¬ 9223372036854775807 < (str t1).size + (str ts).size + (str t2).size := by rw [str_size, str_size, str_size]; omega
        have hcat3 : ¬ 9223372036854775807 < (str t1 ++ str ts).size + (str t2).size := by rw [ByteArray.size_append]; exact hcat2
        refine wpAnyH_take (i := 9) (v := .string ((str t1 ++ str ts) ++ str t2)) rfl (by kernel_rfl) (by kernel_rfl) (by kernel_rfl) (fun _ _ _ h => h) (Or.inl ⟨by rfl, ?hy6⟩) (by assumption) ?ty6
        case hy6 => (intro w hSw; (try dsimp only at hSw); go_simp; first | (simp [hcat2]; done) | (simp [hcat3]; done) | (rw [if_neg hcat3]; done) | (all_goals with_reducible rfl))
        simp only [Act.put, List.getElem_toArray, List.getElem_cons_zero, List.getElem_cons_succ, List.setIfInBounds_toArray, List.set_cons_zero, List.set_cons_succ]
        refine wpAnyH_take (i := 10) (v := ?_) rfl (by kernel_rfl) (by kernel_rfl) (by kernel_rfl) (fun _ _ _ h => h) (Or.inl ⟨by rfl, ?hy7⟩) (by assumption) ?ty7
        case hy7 => (intro w hSw; (try dsimp only at hSw); go_simp; all_goals with_reducible rfl)
        simp only [Act.put, List.getElem_toArray, List.getElem_cons_zero, List.getElem_cons_succ, List.setIfInBounds_toArray, List.set_cons_zero, List.set_cons_succ]
        refine wpAnyH_done (by kernel_rfl) ?_ _
        have HS : Hid (Src w5 w.heap.size w.heap.size 16 ∧ w1.grownBy w5 (some w.heap.size)) := ⟨(by exact hs_w5.more (by omega)), hg_w5⟩
        have HT : Hid (∃ t3, ((str t1) ++ (str ts)) ++ (str t2) = str t3 ∧ IsB t3 ∧ t3.length ≤ 1048576) := three_txt hB1 hBs hB2 (by omega)
        clear hHeld
        generalize ((str t1) ++ (str ts)) ++ (str t2) = tx at *
        generalize w5 = X at HS ⊢
        go_wp2_with fail
        refine (l1Chance_any w.heap.size w.heap.size 16 40 _ HS.out.1 (by omega) (by omega) (by omega)).mono ?_
        rintro e w8 ⟨q8, rfl, hs8, hg8⟩
        have hbz : Below w.heap.size w w8 := hb.trans (gbelow (gthen HS.out.2 hg8) hlt)
        have hz8 := hg8.size
        have hzX := HS.out.2.size
        clear hs8 hg8 HS
        cases q8 with
        | true =>
          go_wp2_with (at_make; refine wpList_make_full _ rfl _ _ 22 rfl w.heap.size 5 i0 (.int .u8 0) 1 Tryz.underlying22 hi hz0 hz1 .i64 .i64 _ _ 401 rfl rfl rfl rfl (by rw [hz2]; omega) (by unfold maxLen; omega) (by omega) ?_; intro w9 hown9 hgrow9)
          rw [made_bytes] at hown9
          have ho : Own w9 w.heap.size (.slice (some ⟨w8.heap.size, 0, none⟩) 401 401) (List.replicate 401 0) := by unfold Own; rw [List.length_replicate]; exact hown9
          have hb9 : Below w.heap.size w w9 := hbz.grown hgrow9 (by omega) (by intro k hk; cases hk)
          have hzl : (List.replicate 401 0).length = 401 := List.length_replicate
          have hzB : IsB (List.replicate 401 0) := fun z hz => by rw [List.mem_replicate] at hz; omega
          clear hown9 hgrow9 hi hz0 hz1 hz2
          generalize List.replicate 401 0 = zs at *
          have hst := fun c' => run_str (cap := c') (n := 401) hzl ho.rd.2
          clear ho
          go_wp2
          rw [hst]
          go_wp2
          go_ret
          exact ⟨zs, rfl, hzB, by omega, hb9⟩
        | false =>
          have HF : Hid (∃ t : List Nat, Ending.returned (.string tx) = .returned (.string (str t)) ∧ IsB t ∧ t.length ≤ 1048576 ∧ Below w.heap.size w w8) := by
            obtain ⟨t3, e3, hB3, hl3⟩ := HT.out
            exact ⟨t3, by rw [e3], hB3, hl3, hbz⟩
          go_wp2
          go_ret
          exact HF.out
    · go_simp
      refine (l1Next_any w.heap.size w.heap.size 8 3 _ (by exact hs_w3) (by omega) (by omega) (by omega)).mono ?_
      rintro e w4 ⟨r, rfl, r0, r1, _, hs_w4, hgx⟩
      obtain ⟨j, rfl⟩ := Int.eq_ofNat_of_zero_le r0
      have hj : j < 3 := by have := r1 (by omega); omega
      have hj' : (j : Int) < 3 := by omega
      have hgy : w3.grownBy w4 (some w.heap.size) := by first | exact gfrom hgx | exact hgx
      have hg_w4 : w1.grownBy w4 (some w.heap.size) := gthen hg_w3 hgy
      refine hK.out _ _ trivial (fun hHeld => ?_)
      clear hK K
      have hz4 := hgy.size
      refine wpAnyH_ready (rs := [1, 8]) (by kernel_rfl) (by simp) ?_
      refine AllReadyH.cons rfl (fun K hK => ?_) (AllReadyH.cons rfl (fun K hK => ?_) AllReadyH.nil)
      · go_simp
        refine hK.out _ _ trivial (fun hHeld => ?_)
        clear hK K
        have hs_W9 : Src (w4.alloc (.cells #[.string ⟨#[32]⟩, .string ⟨#[]⟩, .string ⟨#[63, 61]⟩] 9)) w.heap.size w.heap.size 9 := hs_w4.below ((Below.refl _ _).alloc (by have := (id hs_w4).2.1; omega) _)
        have hg_W9 : w1.grownBy (w4.alloc (.cells #[.string ⟨#[32]⟩, .string ⟨#[]⟩, .string ⟨#[63, 61]⟩] 9)) (some w.heap.size) := gnew hg_w4 _
        have hrow := fun i hi => row_wordV (w := w4) (t := 9) (cs := #[.string ⟨#[32]⟩, .string ⟨#[]⟩, .string ⟨#[63, 61]⟩]) (ss := [⟨#[32]⟩, ⟨#[]⟩, ⟨#[63, 61]⟩]) rfl (by intro s hs; simp only [List.mem_cons, List.not_mem_nil, or_false] at hs; rcases hs with rfl | rfl | rfl <;> decide) i hi
        have hbR : w.heap.size < w4.heap.size := (id hs_w4).2.1
        have hzR : (w4.alloc (.cells #[.string ⟨#[32]⟩, .string ⟨#[]⟩, .string ⟨#[63, 61]⟩] 9)).heap.size = w4.heap.size + 1 := by simp
        generalize w4.alloc (.cells #[.string ⟨#[32]⟩, .string ⟨#[]⟩, .string ⟨#[63, 61]⟩] 9) = W9 at *
        generalize w4.heap.size = R at *
        obtain ⟨ts, hcs, hBs, hls⟩ := hrow j hj
        clear hrow
        refine wpAnyH_take (i := 4) (v := .pointer (some ⟨R, j, none⟩)) rfl (by kernel_rfl) (by kernel_rfl) (by kernel_rfl) (fun _ _ _ h => h) (Or.inl ⟨by rfl, ?hy8⟩) (by assumption) ?ty8
        case hy8 => (intro w hSw; (try dsimp only at hSw); go_simp; first | (simp [hj']; done) | (all_goals first | (with_reducible rfl) | omega))
        simp only [Act.put, List.getElem_toArray, List.getElem_cons_zero, List.getElem_cons_succ, List.setIfInBounds_toArray, List.set_cons_zero, List.set_cons_succ]
        refine wpAnyH_ready (rs := [5, 8]) (by kernel_rfl) (by simp) ?_
        refine AllReadyH.cons rfl (fun K hK => ?_) (AllReadyH.cons rfl (fun K hK => ?_) AllReadyH.nil)
        · go_simp
          refine hK.out _ _ trivial (fun hHeld => ?_)
          clear hK K
          have hcat1 : ¬ 9223372036854775807 < (str t1).size + (str ts).size := by rw [str_size, str_size]; omega
          refine wpAnyH_take (i := 6) (v := .string (str t1 ++ str ts)) rfl (by kernel_rfl) (by kernel_rfl) (by kernel_rfl) (fun _ _ _ h => h) (Or.inl ⟨by rfl, ?hy9⟩) (by assumption) ?ty9
          case hy9 => (intro w hSw; (try dsimp only at hSw); go_simp; first | (simp [hcat1]; done) | (rw [if_neg hcat1]; done) | (all_goals with_reducible rfl))
          simp only [Act.put, List.getElem_toArray, List.getElem_cons_zero, List.getElem_cons_succ, List.setIfInBounds_toArray, List.set_cons_zero, List.set_cons_succ]
          refine wpAnyH_ready (rs := [8]) (by kernel_rfl) (by simp) ?_
          refine AllReadyH.cons rfl (fun K hK => ?_) AllReadyH.nil
          go_simp
          refine (l4DrawValue_any w.heap.size w.heap.size 9 _ (by exact hs_W9) (by omega)).mono ?_
          rintro e w5 ⟨t2, rfl, hB2, hl2, hs_w5, hgx2⟩
          have hgz : W9.grownBy w5 (some w.heap.size) := by first | exact gfrom hgx2 | exact hgx2
          have hg_w5 : w1.grownBy w5 (some w.heap.size) := gthen hg_W9 hgz
          refine hK.out _ _ trivial (fun hHeld => ?_)
          clear hK K
          have hcat2 : ¬ 9223372036854775807 < (str t1).size + (str ts).size + (str t2).size := by rw [str_size, str_size, str_size]; omega
          have hcat3 : ¬ 9223372036854775807 < (str t1 ++ str ts).size + (str t2).size := by rw [ByteArray.size_append]; exact hcat2
          refine wpAnyH_take (i := 9) (v := .string ((str t1 ++ str ts) ++ str t2)) rfl (by kernel_rfl) (by kernel_rfl) (by kernel_rfl) (fun _ _ _ h => h) (Or.inl ⟨by rfl, ?hy10⟩) (by assumption) ?ty10
          case hy10 => (intro w hSw; (try dsimp only at hSw); go_simp; first | (simp [hcat2]; done) | (simp [hcat3]; done) | (rw [if_neg hcat3]; done) | (all_goals with_reducible rfl))
          simp only [Act.put, List.getElem_toArray, List.getElem_cons_zero, List.getElem_cons_succ, List.setIfInBounds_toArray, List.set_cons_zero, List.set_cons_succ]
          refine wpAnyH_take (i := 10) (v := ?_) rfl (by kernel_rfl) (by kernel_rfl) (by kernel_rfl) (fun _ _ _ h => h) (Or.inl ⟨by rfl, ?hy11⟩) (by assumption) ?ty11
          case hy11 => (intro w hSw; (try dsimp only at hSw); go_simp; all_goals with_reducible rfl)
          simp only [Act.put, List.getElem_toArray, List.getElem_cons_zero, List.getElem_cons_succ, List.setIfInBounds_toArray, List.set_cons_zero, List.set_cons_succ]
          refine wpAnyH_done (by kernel_rfl) ?_ _
          have HS : Hid (Src w5 w.heap.size w.heap.size 16 ∧ w1.grownBy w5 (some w.heap.size)) := ⟨(by exact hs_w5.more (by omega)), hg_w5⟩
          have HT : Hid (∃ t3, ((str t1) ++ (str ts)) ++ (str t2) = str t3 ∧ IsB t3 ∧ t3.length ≤ 1048576) := three_txt hB1 hBs hB2 (by omega)
          clear hHeld
          generalize ((str t1) ++ (str ts)) ++ (str t2) = tx at *
          generalize w5 = X at HS ⊢
          go_wp2_with fail
          refine (l1Chance_any w.heap.size w.heap.size 16 40 _ HS.out.1 (by omega) (by omega) (by omega)).mono ?_
          rintro e w8 ⟨q8, rfl, hs8, hg8⟩
          have hbz : Below w.heap.size w w8 := hb.trans (gbelow (gthen HS.out.2 hg8) hlt)
          have hz8 := hg8.size
          have hzX := HS.out.2.size
          clear hs8 hg8 HS
          cases q8 with
          | true =>
            go_wp2_with (at_make; refine wpList_make_full _ rfl _ _ 22 rfl w.heap.size 5 i0 (.int .u8 0) 1 Tryz.underlying22 hi hz0 hz1 .i64 .i64 _ _ 401 rfl rfl rfl rfl (by rw [hz2]; omega) (by unfold maxLen; omega) (by omega) ?_; intro w9 hown9 hgrow9)
            rw [made_bytes] at hown9
            have ho : Own w9 w.heap.size (.slice (some ⟨w8.heap.size, 0, none⟩) 401 401) (List.replicate 401 0) := by unfold Own; rw [List.length_replicate]; exact hown9
            have hb9 : Below w.heap.size w w9 := hbz.grown hgrow9 (by omega) (by intro k hk; cases hk)
            have hzl : (List.replicate 401 0).length = 401 := List.length_replicate
            have hzB : IsB (List.replicate 401 0) := fun z hz => by rw [List.mem_replicate] at hz; omega
            clear hown9 hgrow9 hi hz0 hz1 hz2
            generalize List.replicate 401 0 = zs at *
            have hst := fun c' => run_str (cap := c') (n := 401) hzl ho.rd.2
            clear ho
            go_wp2
            rw [hst]
            go_wp2
            go_ret
            exact ⟨zs, rfl, hzB, by omega, hb9⟩
          | false =>
            have HF : Hid (∃ t : List Nat, Ending.returned (.string tx) = .returned (.string (str t)) ∧ IsB t ∧ t.length ≤ 1048576 ∧ Below w.heap.size w w8) := by
              obtain ⟨t3, e3, hB3, hl3⟩ := HT.out
              exact ⟨t3, by rw [e3], hB3, hl3, hbz⟩
            go_wp2
            go_ret
            exact HF.out
        · go_simp
          refine (l4DrawValue_any w.heap.size w.heap.size 9 _ (by exact hs_W9) (by omega)).mono ?_
          rintro e w5 ⟨t2, rfl, hB2, hl2, hs_w5, hgx2⟩
          have hgz : W9.grownBy w5 (some w.heap.size) := by first | exact gfrom hgx2 | exact hgx2
          have hg_w5 : w1.grownBy w5 (some w.heap.size) := gthen hg_W9 hgz
          refine hK.out _ _ trivial (fun hHeld => ?_)
          clear hK K
          have hc5 : w5.cell? ⟨R, j, none⟩ = some (.string (str ts)) := (hgz.cell_far ⟨R, j, none⟩ (by simp; omega) (by simp; omega)).trans hcs
          refine wpAnyH_ready (rs := [5]) (by kernel_rfl) (by simp) ?_
          refine AllReadyH.cons rfl (fun K hK => ?_) AllReadyH.nil
          go_simp
          refine hK.out _ _ trivial (fun hHeld => ?_)
          clear hK K
          have hcat1 : ¬ 9223372036854775807 < (str t1).size + (str ts).size := by rw [str_size, str_size]; omega
          refine wpAnyH_take (i := 6) (v := .string (str t1 ++ str ts)) rfl (by kernel_rfl) (by kernel_rfl) (by kernel_rfl) (fun _ _ _ h => h) (Or.inl ⟨by rfl, ?hy12⟩) (by assumption) ?ty12
          case hy12 => (intro w hSw; (try dsimp only at hSw); go_simp; first | (simp [hcat1]; done) | (rw [if_neg hcat1]; done) | (all_goals with_reducible rfl))
          simp only [Act.put, List.getElem_toArray, List.getElem_cons_zero, List.getElem_cons_succ, List.setIfInBounds_toArray, List.set_cons_zero, List.set_cons_succ]
          have hcat2 : ¬ 9223372036854775807 < (str t1).size + (str ts).size + (str t2).size := by rw [str_size, str_size, str_size]; omega
          have hcat3 : ¬ 9223372036854775807 < (str t1 ++ str ts).size + (str t2).size := by rw [ByteArray.size_append]; exact hcat2
          refine wpAnyH_take (i := 9) (v := .string ((str t1 ++ str ts) ++ str t2)) rfl (by kernel_rfl) (by kernel_rfl) (by kernel_rfl) (fun _ _ _ h => h) (Or.inl ⟨by rfl, ?hy13⟩) (by assumption) ?ty13
          case hy13 => (intro w hSw; (try dsimp only at hSw); go_simp; first | (simp [hcat2]; done) | (simp [hcat3]; done) | (rw [if_neg hcat3]; done) | (all_goals with_reducible rfl))
          simp only [Act.put, List.getElem_toArray, List.getElem_cons_zero, List.getElem_cons_succ, List.setIfInBounds_toArray, List.set_cons_zero, List.set_cons_succ]
          refine wpAnyH_take (i := 10) (v := ?_) rfl (by kernel_rfl) (by kernel_rfl) (by kernel_rfl) (fun _ _ _ h => h) (Or.inl ⟨by rfl, ?hy14⟩) (by assumption) ?ty14
          case hy14 => (intro w hSw; (try dsimp only at hSw); go_simp; all_goals with_reducible rfl)
          simp only [Act.put, List.getElem_toArray, List.getElem_cons_zero, List.getElem_cons_succ, List.setIfInBounds_toArray, List.set_cons_zero, List.set_cons_succ]
          refine wpAnyH_done (by kernel_rfl) ?_ _
          have HS : Hid (Src w5 w.heap.size w.heap.size 16 ∧ w1.grownBy w5 (some w.heap.size)) := ⟨(by exact hs_w5.more (by omega)), hg_w5⟩
          have HT : Hid (∃ t3, ((str t1) ++ (str ts)) ++ (str t2) = str t3 ∧ IsB t3 ∧ t3.length ≤ 1048576) := three_txt hB1 hBs hB2 (by omega)
          clear hHeld
          generalize ((str t1) ++ (str ts)) ++ (str t2) = tx at *
          generalize w5 = X at HS ⊢
          go_wp2_with fail
          refine (l1Chance_any w.heap.size w.heap.size 16 40 _ HS.out.1 (by omega) (by omega) (by omega)).mono ?_
          rintro e w8 ⟨q8, rfl, hs8, hg8⟩
          have hbz : Below w.heap.size w w8 := hb.trans (gbelow (gthen HS.out.2 hg8) hlt)
          have hz8 := hg8.size
          have hzX := HS.out.2.size
          clear hs8 hg8 HS
          cases q8 with
          | true =>
            go_wp2_with (at_make; refine wpList_make_full _ rfl _ _ 22 rfl w.heap.size 5 i0 (.int .u8 0) 1 Tryz.underlying22 hi hz0 hz1 .i64 .i64 _ _ 401 rfl rfl rfl rfl (by rw [hz2]; omega) (by unfold maxLen; omega) (by omega) ?_; intro w9 hown9 hgrow9)
            rw [made_bytes] at hown9
            have ho : Own w9 w.heap.size (.slice (some ⟨w8.heap.size, 0, none⟩) 401 401) (List.replicate 401 0) := by unfold Own; rw [List.length_replicate]; exact hown9
            have hb9 : Below w.heap.size w w9 := hbz.grown hgrow9 (by omega) (by intro k hk; cases hk)
            have hzl : (List.replicate 401 0).length = 401 := List.length_replicate
            have hzB : IsB (List.replicate 401 0) := fun z hz => by rw [List.mem_replicate] at hz; omega
            clear hown9 hgrow9 hi hz0 hz1 hz2
            generalize List.replicate 401 0 = zs at *
            have hst := fun c' => run_str (cap := c') (n := 401) hzl ho.rd.2
            clear ho
            go_wp2
            rw [hst]
            go_wp2
            go_ret
            exact ⟨zs, rfl, hzB, by omega, hb9⟩
          | false =>
            have HF : Hid (∃ t : List Nat, Ending.returned (.string tx) = .returned (.string (str t)) ∧ IsB t ∧ t.length ≤ 1048576 ∧ Below w.heap.size w w8) := by
              obtain ⟨t3, e3, hB3, hl3⟩ := HT.out
              exact ⟨t3, by rw [e3], hB3, hl3, hbz⟩
            go_wp2
            go_ret
            exact HF.out
      · go_simp
        refine (l4DrawValue_any w.heap.size w.heap.size 9 _ (by exact hs_w4) (by omega)).mono ?_
        rintro e w5 ⟨t2, rfl, hB2, hl2, hs_w5, hgx2⟩
        have hgz : w4.grownBy w5 (some w.heap.size) := by first | exact gfrom hgx2 | exact hgx2
        have hg_w5 : w1.grownBy w5 (some w.heap.size) := gthen hg_w4 hgz
        refine hK.out _ _ trivial (fun hHeld => ?_)
        clear hK K
        refine wpAnyH_ready (rs := [1]) (by kernel_rfl) (by simp) ?_
        refine AllReadyH.cons rfl (fun K hK => ?_) AllReadyH.nil
        go_simp
        refine hK.out _ _ trivial (fun hHeld => ?_)
        clear hK K
        have hs_W9 : Src (w5.alloc (.cells #[.string ⟨#[32]⟩, .string ⟨#[]⟩, .string ⟨#[63, 61]⟩] 9)) w.heap.size w.heap.size 16 := hs_w5.below ((Below.refl _ _).alloc (by have := (id hs_w5).2.1; omega) _)
        have hg_W9 : w1.grownBy (w5.alloc (.cells #[.string ⟨#[32]⟩, .string ⟨#[]⟩, .string ⟨#[63, 61]⟩] 9)) (some w.heap.size) := gnew hg_w5 _
        have hrow := fun i hi => row_wordV (w := w5) (t := 9) (cs := #[.string ⟨#[32]⟩, .string ⟨#[]⟩, .string ⟨#[63, 61]⟩]) (ss := [⟨#[32]⟩, ⟨#[]⟩, ⟨#[63, 61]⟩]) rfl (by intro s hs; simp only [List.mem_cons, List.not_mem_nil, or_false] at hs; rcases hs with rfl | rfl | rfl <;> decide) i hi
        have hbR : w.heap.size < w5.heap.size := (id hs_w5).2.1
        have hzR : (w5.alloc (.cells #[.string ⟨#[32]⟩, .string ⟨#[]⟩, .string ⟨#[63, 61]⟩] 9)).heap.size = w5.heap.size + 1 := by simp
        generalize w5.alloc (.cells #[.string ⟨#[32]⟩, .string ⟨#[]⟩, .string ⟨#[63, 61]⟩] 9) = W9 at *
        generalize w5.heap.size = R at *
        obtain ⟨ts, hcs, hBs, hls⟩ := hrow j hj
        clear hrow
        refine wpAnyH_take (i := 4) (v := .pointer (some ⟨R, j, none⟩)) rfl (by kernel_rfl) (by kernel_rfl) (by kernel_rfl) (fun _ _ _ h => h) (Or.inl ⟨by rfl, ?hy15⟩) (by assumption) ?ty15
        case hy15 => (intro w hSw; (try dsimp only at hSw); go_simp; first | (simp [hj']; done) | (all_goals first | (with_reducible rfl) | omega))
        simp only [Act.put, List.getElem_toArray, List.getElem_cons_zero, List.getElem_cons_succ, List.setIfInBounds_toArray, List.set_cons_zero, List.set_cons_succ]
        refine wpAnyH_ready (rs := [5]) (by kernel_rfl) (by simp) ?_
        refine AllReadyH.cons rfl (fun K hK => ?_) AllReadyH.nil
        go_simp
        refine hK.out _ _ trivial (fun hHeld => ?_)
        clear hK K
        have hcat1 : ¬ 9223372036854775807 < (str t1).size + (str ts).size := by rw [str_size, str_size]; omega
        refine wpAnyH_take (i := 6) (v := .string (str t1 ++ str ts)) rfl (by kernel_rfl) (by kernel_rfl) (by kernel_rfl) (fun _ _ _ h => h) (Or.inl ⟨by rfl, ?hy16⟩) (by assumption) ?ty16
        case hy16 => (intro w hSw; (try dsimp only at hSw); go_simp; first | (simp [hcat1]; done) | (rw [if_neg hcat1]; done) | (all_goals with_reducible rfl))
        simp only [Act.put, List.getElem_toArray, List.getElem_cons_zero, List.getElem_cons_succ, List.setIfInBounds_toArray, List.set_cons_zero, List.set_cons_succ]
        have hcat2 : ¬ 9223372036854775807 < (str t1).size + (str ts).size + (str t2).size := by rw [str_size, str_size, str_size]; omega
        have hcat3 : ¬ 9223372036854775807 < (str t1 ++ str ts).size + (str t2).size := by rw [ByteArray.size_append]; exact hcat2
        refine wpAnyH_take (i := 9) (v := .string ((str t1 ++ str ts) ++ str t2)) rfl (by kernel_rfl) (by kernel_rfl) (by kernel_rfl) (fun _ _ _ h => h) (Or.inl ⟨by rfl, ?hy17⟩) (by assumption) ?ty17
        case hy17 => (intro w hSw; (try dsimp only at hSw); go_simp; first | (simp [hcat2]; done) | (simp [hcat3]; done) | (rw [if_neg hcat3]; done) | (all_goals with_reducible rfl))
        simp only [Act.put, List.getElem_toArray, List.getElem_cons_zero, List.getElem_cons_succ, List.setIfInBounds_toArray, List.set_cons_zero, List.set_cons_succ]
        refine wpAnyH_take (i := 10) (v := ?_) rfl (by kernel_rfl) (by kernel_rfl) (by kernel_rfl) (fun _ _ _ h => h) (Or.inl ⟨by rfl, ?hy18⟩) (by assumption) ?ty18
        case hy18 => (intro w hSw; (try dsimp only at hSw); go_simp; all_goals with_reducible rfl)
        simp only [Act.put, List.getElem_toArray, List.getElem_cons_zero, List.getElem_cons_succ, List.setIfInBounds_toArray, List.set_cons_zero, List.set_cons_succ]
        refine wpAnyH_done (by kernel_rfl) ?_ _
        have HS : Hid (Src W9 w.heap.size w.heap.size 16 ∧ w1.grownBy W9 (some w.heap.size)) := ⟨(by exact hs_W9.more (by omega)), hg_W9⟩
        have HT : Hid (∃ t3, ((str t1) ++ (str ts)) ++ (str t2) = str t3 ∧ IsB t3 ∧ t3.length ≤ 1048576) := three_txt hB1 hBs hB2 (by omega)
        clear hHeld
        generalize ((str t1) ++ (str ts)) ++ (str t2) = tx at *
        generalize W9 = X at HS ⊢
        go_wp2_with fail
        refine (l1Chance_any w.heap.size w.heap.size 16 40 _ HS.out.1 (by omega) (by omega) (by omega)).mono ?_
        rintro e w8 ⟨q8, rfl, hs8, hg8⟩
        have hbz : Below w.heap.size w w8 := hb.trans (gbelow (gthen HS.out.2 hg8) hlt)
        have hz8 := hg8.size
        have hzX := HS.out.2.size
        clear hs8 hg8 HS
        cases q8 with
        | true =>
          go_wp2_with (at_make; refine wpList_make_full _ rfl _ _ 22 rfl w.heap.size 5 i0 (.int .u8 0) 1 Tryz.underlying22 hi hz0 hz1 .i64 .i64 _ _ 401 rfl rfl rfl rfl (by rw [hz2]; omega) (by unfold maxLen; omega) (by omega) ?_; intro w9 hown9 hgrow9)
          rw [made_bytes] at hown9
          have ho : Own w9 w.heap.size (.slice (some ⟨w8.heap.size, 0, none⟩) 401 401) (List.replicate 401 0) := by unfold Own; rw [List.length_replicate]; exact hown9
          have hb9 : Below w.heap.size w w9 := hbz.grown hgrow9 (by omega) (by intro k hk; cases hk)
          have hzl : (List.replicate 401 0).length = 401 := List.length_replicate
          have hzB : IsB (List.replicate 401 0) := fun z hz => by rw [List.mem_replicate] at hz; omega
          clear hown9 hgrow9 hi hz0 hz1 hz2
          generalize List.replicate 401 0 = zs at *
          have hst := fun c' => run_str (cap := c') (n := 401) hzl ho.rd.2
          clear ho
          go_wp2
          rw [hst]
          go_wp2
          go_ret
          exact ⟨zs, rfl, hzB, by omega, hb9⟩
        | false =>
          have HF : Hid (∃ t : List Nat, Ending.returned (.string tx) = .returned (.string (str t)) ∧ IsB t ∧ t.length ≤ 1048576 ∧ Below w.heap.size w w8) := by
            obtain ⟨t3, e3, hB3, hl3⟩ := HT.out
            exact ⟨t3, by rw [e3], hB3, hl3, hbz⟩
          go_wp2
          go_ret
          exact HF.out
end Go.Proofs.YtknbndebfickpaaGreatDoor
