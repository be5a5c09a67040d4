/- The law FnMaps returns true at every input, and changes nothing that was there. -/
import Derived.Test.YtjkhlkmibajhiaaDrl3
import Derived.Test.YtjkhlkmibajhiaaHas2
import Derived.Test.YtjkhlkmibajhiaaLwn
import Derived.Test.YtjkhlkmibajhiaaFldC
import Derived.Deep.RegionHeld3
namespace Go.Proofs.Ytjkhlkmibajhiaa
open Go.RowKit

theorem maps_ok {k : Int} {l : List Int} (hk : 1 ≤ k ∧ k ≤ 3) (hf : flt l = 0) : mapT k (l.map (mapC k)) = (0, l.map (mapC k)) ∧ cmpT k l (l.map (mapC k)) = (0, 0) ∧ hasT k l (l.map (mapC k)) = true := by
  refine ⟨?_, ?_, ?_⟩
  · rw [mapT_ok hk (flt_map hf), map_again]
  · rw [cmpT_ok hk hf (flt_map hf), map_again, cmpL_refl]
  · unfold hasT
    rw [map_again, hasP_self, hf, flt_map hf, decide_eq_true hk]
    rfl
theorem mapT_bad {k : Int} {l : List Int} (h : ¬ ((1 ≤ k ∧ k ≤ 3) ∧ flt l = 0)) : ∃ c, mapT k l = (c, []) ∧ c ≠ 0 := by
  by_cases hk : 1 ≤ k ∧ k ≤ 3
  · have hf : flt l ≠ 0 := fun h' => h ⟨hk, h'⟩
    exact ⟨_, mapT_fault hk hf, hf⟩
  · exact ⟨4, mapT_none hk, by decide⟩

set_option maxHeartbeats 6400000 in
set_option maxRecDepth 100000 in
theorem walkMaps (a : Option Addr) (n cap : Nat) (l : List Nat) (w : World) (hl : l.length = n) (hr : Rd w a l) (hB : IsB l) :
    Calls Try.prog 4 #[.slice a n cap] w fun e w' => e = .returned (.bool true) ∧ Below w.heap.size w w' := by
  by_cases hbig : 1048576 < n
  · go_enter Try.func4, Try.ntmps4
    go_wp2_with fail
    refine (lwBig_any a n cap w).mono ?_
    rintro e w1 ⟨rfl, rfl⟩
    rw [decide_eq_true (by omega)]
    go_wp2
    go_ret
    exact ⟨rfl, Below.refl _ _⟩
  · have fI0 := fldI0
    have fI1 := fldI1
    have fC0 := fldC0
    have fC1 := fldC1
    go_enter Try.func4, Try.ntmps4
    go_wp2_with fail
    refine (lwBig_any a n cap w).mono ?_
    rintro e w1 ⟨rfl, rfl⟩
    rw [decide_eq_false (by omega)]
    go_wp2_with fail
    refine (drawMapChar_any a n cap l w hl hr hB (by omega)).mono ?_
    rintro e w1 ⟨k, c, rfl, hb1⟩
    have HI : Hid (_) := mapChar_any k c
    have HS : Hid (_) := specMapChar_any k c
    generalize mapV k c = r at *
    obtain ⟨x, y⟩ := r
    go_wp2_with fail
    refine (HI.out _).mono ?_
    rintro e w2 ⟨rfl, hb2⟩
    simp only
    go_wp2_with fail
    refine (HS.out _).mono ?_
    rintro e w3 ⟨rfl, hb3⟩
    simp only
    have HB3 : Hid (Below w.heap.size w w3) := (hb1.trans (hb2.mono hb1.size)).trans (hb3.mono (by have := hb1.size; have := hb2.size; omega))
    clear hb1 hb2 hb3 HI HS
    go_wp2_with fail
    refine (drawMapCodes_any a n cap l _ hl (hr.below HB3.out) hB (by omega)).mono ?_
    rintro e w4 ⟨q, v, s, rfl, ⟨ac, m, mc, rfl, hsl, hmc, hm1, hrs⟩, hb4⟩
    have HB4 : Hid (Below w.heap.size w w4) := HB3.out.trans (hb4.mono HB3.out.size)
    clear hb4 HB3
    have HMI : Hid (∀ w, RdI w ac s → Calls Try.prog 28 #[.int .i64 q, .slice ac m mc] w fun e w' => NumEnd (mapT q s) w e w') := fun w hr => mapCodes_any q ac m mc s w hsl hr (by omega)
    have HMS : Hid (∀ w, RdI w ac s → Calls Try.prog 29 #[.int .i64 q, .slice ac m mc] w fun e w' => NumEnd (mapT q s) w e w') := fun w hr => specMapCodes_any q ac m mc s w hsl hr (by omega)
    by_cases hok : (1 ≤ q ∧ q ≤ 3) ∧ flt s = 0
    · obtain ⟨hq, hf⟩ := hok
      rw [mapT_ok hq hf] at HMI HMS
      obtain ⟨ho1, ho2, ho3⟩ := maps_ok hq hf
      have hfew : s.length ≤ 400 := fltZero hf
      have hul : (s.map (mapC q)).length = m := by rw [List.length_map]; exact hsl
      have HA : Hid (∀ (b : Option Addr) (bc : Nat) w, RdI w b (s.map (mapC q)) → Calls Try.prog 28 #[.int .i64 q, .slice b m bc] w fun e w' => NumEnd (0, s.map (mapC q)) w e w') := fun b bc w hr => by
        have h := mapCodes_any q b m bc (s.map (mapC q)) w hul hr (by omega)
        rw [ho1] at h; exact h
      have HC : Hid (∀ (b : Option Addr) (bc : Nat) w, RdI w ac s → RdI w b (s.map (mapC q)) → Calls Try.prog 30 #[.int .i64 q, .slice ac m mc, .slice b m bc] w fun e w' => e = .returned (.agg #[.int .i64 0, .int .i64 0]) ∧ Below w.heap.size w w') := fun b bc w hr hr' => by
        have h := compareCodes_any q ac b m m mc bc s (s.map (mapC q)) w hsl hul hr hr' (by omega) (by omega)
        rw [ho2] at h; exact h
      have HH : Hid (∀ (b : Option Addr) (bc : Nat) w, RdI w ac s → RdI w b (s.map (mapC q)) → Calls Try.prog 31 #[.int .i64 q, .slice ac m mc, .slice b m bc] w fun e w' => e = .returned (.bool true) ∧ Below w.heap.size w w') := fun b bc w hr hr' => by
        have h := hasCodes_any q ac b m m mc bc s (s.map (mapC q)) w hsl hul hr hr' (by omega) (by omega)
        rw [ho3] at h; exact h
      have HN : Hid (∀ (b d : Option Addr) (bc dc : Nat) w, RdI w b (s.map (mapC q)) → RdI w d (s.map (mapC q)) → Calls Try.prog 21 #[.slice b m bc, .slice d m dc] w fun e w' => e = .returned (.bool true) ∧ Below w.heap.size w w') := fun b d bc dc w hr hr' => by
        have h := lwNums_any b d m m bc dc (s.map (mapC q)) (s.map (mapC q)) w hul hul hr hr' (by omega) (by omega)
        rw [decide_eq_true rfl] at h; exact h
      have HU : Hid ((s.map (mapC q)).length = m) := hul
      generalize s.map (mapC q) = u at *
      clear hul ho1 ho2 ho3 hq hf hsl
      go_wp2_with fail
      refine (HMI.out _ hrs).mono ?_
      rintro e w5 ⟨v5, rfl, hown5, hb5⟩
      simp only at hown5 ⊢
      obtain ⟨b1, c1, hv, hc1, -⟩ := hown5.form
      rw [HU.out] at hv hc1
      rw [hv] at hown5 ⊢
      clear hv
      have hbA : Below w5.heap.size w5 (w5.alloc (.cells #[.int .i64 0, .slice b1 m c1] 28)) := (Below.refl _ _).alloc (Nat.le_refl _) _
      have hb5' : Below w4.heap.size w4 (w5.alloc (.cells #[.int .i64 0, .slice b1 m c1] 28)) := hb5.trans (hbA.mono hb5.size)
      have hr5 := hrs.below hb5'
      have hu5 := hown5.rd.2.below hbA
      have HB5 : Hid (Below w.heap.size w (w5.alloc (.cells #[.int .i64 0, .slice b1 m c1] 28))) := HB4.out.trans (hb5'.mono HB4.out.size)
      obtain ⟨k0, k1, -, -⟩ := res_block (w := w5) (wr := w5.alloc (.cells #[.int .i64 0, .slice b1 m c1] 28)) rfl (Below.refl _ _)
      have hsW : (w5.alloc (.cells #[.int .i64 0, .slice b1 m c1] 28)).heap.size = w5.heap.size + 1 := by simp
      clear hown5 hb5 hbA hb5' hrs HB4 HMI
      go_wp2_with fail
      generalize w5.alloc (.cells #[.int .i64 0, .slice b1 m c1] 28) = W5 at *
      generalize w5.heap.size = g7 at *
      refine (HA.out _ _ _ hu5).mono ?_
      rintro e w6 ⟨v6, rfl, hown6, hb6⟩
      simp only at hown6 ⊢
      obtain ⟨b2, c2, hv, -, -⟩ := hown6.form
      rw [HU.out] at hv
      rw [hv] at hown6 ⊢
      clear hv HA
      have hbA : Below w6.heap.size w6 (w6.alloc (.cells #[.int .i64 0, .slice b2 m c2] 28)) := (Below.refl _ _).alloc (Nat.le_refl _) _
      have hb6' : Below W5.heap.size W5 (w6.alloc (.cells #[.int .i64 0, .slice b2 m c2] 28)) := hb6.trans (hbA.mono hb6.size)
      have hr6 := hr5.below hb6'
      have hu6 := hu5.below hb6'
      have hv6 := hown6.rd.2.below hbA
      have HB6 : Hid (Below w.heap.size w (w6.alloc (.cells #[.int .i64 0, .slice b2 m c2] 28))) := HB5.out.trans (hb6'.mono HB5.out.size)
      have j0 := (hb6'.cell (p := ⟨g7, 0, none⟩) (by simp; omega)).trans k0
      have j1 := (hb6'.cell (p := ⟨g7, 1, none⟩) (by simp; omega)).trans k1
      obtain ⟨i0, i1, -, -⟩ := res_block (w := w6) (wr := w6.alloc (.cells #[.int .i64 0, .slice b2 m c2] 28)) rfl (Below.refl _ _)
      have hs6 : (w6.alloc (.cells #[.int .i64 0, .slice b2 m c2] 28)).heap.size = w6.heap.size + 1 := by simp
      have hz6 := hb6.size
      clear hown6 hb6 hbA hb6' hr5 hu5 HB5 k0 k1
      go_wp2_with fail
      generalize w6.alloc (.cells #[.int .i64 0, .slice b2 m c2] 28) = W at *
      generalize w6.heap.size = g8 at *
      have hg7 : g7 < W.heap.size := by omega
      have hg8 : g8 < W.heap.size := by omega
      refine wp_region_held_drew (S := fun w' => (w'.cell? ⟨g7, 0, none⟩ = some (.int .i64 0) ∧ w'.cell? ⟨g7, 1, none⟩ = some (.slice b1 m c1)) ∧ (w'.cell? ⟨g8, 0, none⟩ = some (.int .i64 0) ∧ w'.cell? ⟨g8, 1, none⟩ = some (.slice b2 m c2))) (by kernel_rfl) ?hS1 (fun hHeld => ?_)
      case hS1 => exact ⟨⟨j0, j1⟩, ⟨i0, i1⟩⟩
      refine wpAnyH_take (i := 0) (v := ?_) rfl (by kernel_rfl) (by kernel_rfl) (by kernel_rfl) (fun _ _ _ h => h) (Or.inl ⟨by rfl, ?hy2⟩) (by assumption) ?ty2
      case hy2 => (intro w hSw; (try dsimp only at hSw); go_simp; all_goals with_reducible rfl)
      simp only [Act.put, List.getElem_toArray, List.getElem_cons_zero, List.setIfInBounds_toArray, List.set_cons_zero, List.set_cons_succ]
      refine wpAnyH_take (i := 1) (v := ?_) rfl (by kernel_rfl) (by kernel_rfl) (by kernel_rfl) (fun _ _ _ h => h) (Or.inl ⟨by rfl, ?hy3⟩) (by assumption) ?ty3
      case hy3 => (intro w hSw; (try dsimp only at hSw); go_simp; all_goals with_reducible rfl)
      simp only [Act.put, List.getElem_toArray, List.getElem_cons_zero, List.getElem_cons_succ, List.setIfInBounds_toArray, List.set_cons_zero, List.set_cons_succ]
      refine wpAnyH_take (i := 2) (v := .bool true) rfl (by kernel_rfl) (by kernel_rfl) (by kernel_rfl) (fun _ _ _ h => h) (Or.inl ⟨by rfl, ?hy4⟩) (by assumption) ?ty4
      case hy4 => (intro w hSw; (try dsimp only at hSw); go_simp; first | (simp; done) | (all_goals with_reducible rfl))
      simp only [Act.put, List.getElem_toArray, List.getElem_cons_zero, List.getElem_cons_succ, List.setIfInBounds_toArray, List.set_cons_zero, List.set_cons_succ]
      refine wpAnyH_take (i := 3) (v := ?_) rfl (by kernel_rfl) (by kernel_rfl) (by kernel_rfl) (fun _ _ _ h => h) (Or.inl ⟨by rfl, ?hy5⟩) (by assumption) ?ty5
      case hy5 => (intro w hSw; (try dsimp only at hSw); go_simp; all_goals with_reducible rfl)
      simp only [Act.put, List.getElem_toArray, List.getElem_cons_zero, List.getElem_cons_succ, List.setIfInBounds_toArray, List.set_cons_zero, List.set_cons_succ]
      refine wpAnyH_take (i := 4) (v := ?_) rfl (by kernel_rfl) (by kernel_rfl) (by kernel_rfl) (fun _ _ _ h => h) (Or.inl ⟨by rfl, ?hy6⟩) (by assumption) ?ty6
      case hy6 => (intro w hSw; (try dsimp only at hSw); go_simp; all_goals with_reducible rfl)
      simp only [Act.put, List.getElem_toArray, List.getElem_cons_zero, List.getElem_cons_succ, List.setIfInBounds_toArray, List.set_cons_zero, List.set_cons_succ]
      refine wpAnyH_take (i := 5) (v := ?_) rfl (by kernel_rfl) (by kernel_rfl) (by kernel_rfl) (fun _ _ _ h => h) (Or.inl ⟨by rfl, ?hy7⟩) (by assumption) ?ty7
      case hy7 => (intro w hSw; (try dsimp only at hSw); go_simp; all_goals with_reducible rfl)
      simp only [Act.put, List.getElem_toArray, List.getElem_cons_zero, List.getElem_cons_succ, List.setIfInBounds_toArray, List.set_cons_zero, List.set_cons_succ]
      refine wpAnyH_take (i := 6) (v := ?_) rfl (by kernel_rfl) (by kernel_rfl) (by kernel_rfl) (fun _ _ _ h => h) (Or.inl ⟨by rfl, ?hy8⟩) (by assumption) ?ty8
      case hy8 => (intro w hSw; (try dsimp only at hSw); go_simp; all_goals with_reducible rfl)
      simp only [Act.put, List.getElem_toArray, List.getElem_cons_zero, List.getElem_cons_succ, List.setIfInBounds_toArray, List.set_cons_zero, List.set_cons_succ]
      refine wpAnyH_take (i := 7) (v := ?_) rfl (by kernel_rfl) (by kernel_rfl) (by kernel_rfl) (fun _ _ _ h => h) (Or.inl ⟨by rfl, ?hy9⟩) (by assumption) ?ty9
      case hy9 => (intro w hSw; (try dsimp only at hSw); go_simp; all_goals with_reducible rfl)
      simp only [Act.put, List.getElem_toArray, List.getElem_cons_zero, List.getElem_cons_succ, List.setIfInBounds_toArray, List.set_cons_zero, List.set_cons_succ]
      refine wpAnyH_ready (rs := [8]) (by kernel_rfl) (by simp) ?_
      refine AllReadyH.cons rfl (fun K hK => ?_) AllReadyH.nil
      go_simp
      refine (HN.out _ _ _ _ _ (by exact hv6) (by exact hu6)).mono ?_
      rintro e u1 ⟨rfl, hbx⟩
      have HW_u1 : Hid (Below W.heap.size W u1) := (Below.refl _ _).drew.trans hbx
      have hsS : (u1.cell? ⟨g7, 0, none⟩ = some (.int .i64 0) ∧ u1.cell? ⟨g7, 1, none⟩ = some (.slice b1 m c1)) ∧ (u1.cell? ⟨g8, 0, none⟩ = some (.int .i64 0) ∧ u1.cell? ⟨g8, 1, none⟩ = some (.slice b2 m c2)) := ⟨⟨(HW_u1.out.cell (p := ⟨g7, 0, none⟩) hg7).trans j0, (HW_u1.out.cell (p := ⟨g7, 1, none⟩) hg7).trans j1⟩, ⟨(HW_u1.out.cell (p := ⟨g8, 0, none⟩) hg8).trans i0, (HW_u1.out.cell (p := ⟨g8, 1, none⟩) hg8).trans i1⟩⟩
      refine hK.out _ _ hsS (fun hHeld => ?_)
      clear hK K
      clear hsS hbx
      refine wpAnyH_take (i := 9) (v := ?_) rfl (by kernel_rfl) (by kernel_rfl) (by kernel_rfl) (fun _ _ _ h => h) (Or.inl ⟨by rfl, ?hy10⟩) (by assumption) ?ty10
      case hy10 => (intro w hSw; (try dsimp only at hSw); go_simp; all_goals with_reducible rfl)
      simp only [Act.put, List.getElem_toArray, List.getElem_cons_zero, List.getElem_cons_succ, List.setIfInBounds_toArray, List.set_cons_zero, List.set_cons_succ]
      refine wpAnyH_take (i := 10) (v := ?_) rfl (by kernel_rfl) (by kernel_rfl) (by kernel_rfl) (fun _ _ _ h => h) (Or.inl ⟨by rfl, ?hy11⟩) (by assumption) ?ty11
      case hy11 => (intro w hSw; (try dsimp only at hSw); go_simp; all_goals with_reducible rfl)
      simp only [Act.put, List.getElem_toArray, List.getElem_cons_zero, List.getElem_cons_succ, List.setIfInBounds_toArray, List.set_cons_zero, List.set_cons_succ]
      refine wpAnyH_take (i := 11) (v := ?_) rfl (by kernel_rfl) (by kernel_rfl) (by kernel_rfl) (fun _ _ _ h => h) (Or.inl ⟨by rfl, ?hy12⟩) (by assumption) ?ty12
      case hy12 => (intro w hSw; (try dsimp only at hSw); go_simp; all_goals with_reducible rfl)
      simp only [Act.put, List.getElem_toArray, List.getElem_cons_zero, List.getElem_cons_succ, List.setIfInBounds_toArray, List.set_cons_zero, List.set_cons_succ]
      refine wpAnyH_take (i := 12) (v := ?_) rfl (by kernel_rfl) (by kernel_rfl) (by kernel_rfl) (fun _ _ _ h => h) (Or.inl ⟨by rfl, ?hy13⟩) (by assumption) ?ty13
      case hy13 => (intro w hSw; (try dsimp only at hSw); go_simp; all_goals with_reducible rfl)
      simp only [Act.put, List.getElem_toArray, List.getElem_cons_zero, List.getElem_cons_succ, List.setIfInBounds_toArray, List.set_cons_zero, List.set_cons_succ]
      refine wpAnyH_take (i := 13) (v := ?_) rfl (by kernel_rfl) (by kernel_rfl) (by kernel_rfl) (fun _ _ _ h => h) (Or.inl ⟨by rfl, ?hy14⟩) (by assumption) ?ty14
      case hy14 => (intro w hSw; (try dsimp only at hSw); go_simp; all_goals with_reducible rfl)
      simp only [Act.put, List.getElem_toArray, List.getElem_cons_zero, List.getElem_cons_succ, List.setIfInBounds_toArray, List.set_cons_zero, List.set_cons_succ]
      refine wpAnyH_take (i := 14) (v := ?_) rfl (by kernel_rfl) (by kernel_rfl) (by kernel_rfl) (fun _ _ _ h => h) (Or.inl ⟨by rfl, ?hy15⟩) (by assumption) ?ty15
      case hy15 => (intro w hSw; (try dsimp only at hSw); go_simp; all_goals with_reducible rfl)
      simp only [Act.put, List.getElem_toArray, List.getElem_cons_zero, List.getElem_cons_succ, List.setIfInBounds_toArray, List.set_cons_zero, List.set_cons_succ]
      refine wpAnyH_take (i := 15) (v := ?_) rfl (by kernel_rfl) (by kernel_rfl) (by kernel_rfl) (fun _ _ _ h => h) (Or.inl ⟨by rfl, ?hy16⟩) (by assumption) ?ty16
      case hy16 => (intro w hSw; (try dsimp only at hSw); go_simp; all_goals with_reducible rfl)
      simp only [Act.put, List.getElem_toArray, List.getElem_cons_zero, List.getElem_cons_succ, List.setIfInBounds_toArray, List.set_cons_zero, List.set_cons_succ]
      refine wpAnyH_take (i := 16) (v := .bool true) rfl (by kernel_rfl) (by kernel_rfl) (by kernel_rfl) (fun _ _ _ h => h) (Or.inl ⟨by rfl, ?hy17⟩) (by assumption) ?ty17
      case hy17 => (intro w hSw; (try dsimp only at hSw); go_simp; first | (simp; done) | (all_goals with_reducible rfl))
      simp only [Act.put, List.getElem_toArray, List.getElem_cons_zero, List.getElem_cons_succ, List.setIfInBounds_toArray, List.set_cons_zero, List.set_cons_succ]
      refine wpAnyH_take (i := 17) (v := ?_) rfl (by kernel_rfl) (by kernel_rfl) (by kernel_rfl) (fun _ _ _ h => h) (Or.inl ⟨by rfl, ?hy18⟩) (by assumption) ?ty18
      case hy18 => (intro w hSw; (try dsimp only at hSw); go_simp; all_goals with_reducible rfl)
      simp only [Act.put, List.getElem_toArray, List.getElem_cons_zero, List.getElem_cons_succ, List.setIfInBounds_toArray, List.set_cons_zero, List.set_cons_succ]
      refine wpAnyH_take (i := 18) (v := ?_) rfl (by kernel_rfl) (by kernel_rfl) (by kernel_rfl) (fun _ _ _ h => h) (Or.inl ⟨by rfl, ?hy19⟩) (by assumption) ?ty19
      case hy19 => (intro w hSw; (try dsimp only at hSw); go_simp; all_goals with_reducible rfl)
      simp only [Act.put, List.getElem_toArray, List.getElem_cons_zero, List.getElem_cons_succ, List.setIfInBounds_toArray, List.set_cons_zero, List.set_cons_succ]
      refine wpAnyH_take (i := 19) (v := ?_) rfl (by kernel_rfl) (by kernel_rfl) (by kernel_rfl) (fun _ _ _ h => h) (Or.inl ⟨by rfl, ?hy20⟩) (by assumption) ?ty20
      case hy20 => (intro w hSw; (try dsimp only at hSw); go_simp; all_goals with_reducible rfl)
      simp only [Act.put, List.getElem_toArray, List.getElem_cons_zero, List.getElem_cons_succ, List.setIfInBounds_toArray, List.set_cons_zero, List.set_cons_succ]
      refine wpAnyH_take (i := 20) (v := ?_) rfl (by kernel_rfl) (by kernel_rfl) (by kernel_rfl) (fun _ _ _ h => h) (Or.inl ⟨by rfl, ?hy21⟩) (by assumption) ?ty21
      case hy21 => (intro w hSw; (try dsimp only at hSw); go_simp; all_goals with_reducible rfl)
      simp only [Act.put, List.getElem_toArray, List.getElem_cons_zero, List.getElem_cons_succ, List.setIfInBounds_toArray, List.set_cons_zero, List.set_cons_succ]
      refine wpAnyH_take (i := 21) (v := ?_) rfl (by kernel_rfl) (by kernel_rfl) (by kernel_rfl) (fun _ _ _ h => h) (Or.inl ⟨by rfl, ?hy22⟩) (by assumption) ?ty22
      case hy22 => (intro w hSw; (try dsimp only at hSw); go_simp; all_goals with_reducible rfl)
      simp only [Act.put, List.getElem_toArray, List.getElem_cons_zero, List.getElem_cons_succ, List.setIfInBounds_toArray, List.set_cons_zero, List.set_cons_succ]
      refine wpAnyH_take (i := 22) (v := ?_) rfl (by kernel_rfl) (by kernel_rfl) (by kernel_rfl) (fun _ _ _ h => h) (Or.inl ⟨by rfl, ?hy23⟩) (by assumption) ?ty23
      case hy23 => (intro w hSw; (try dsimp only at hSw); go_simp; all_goals with_reducible rfl)
      simp only [Act.put, List.getElem_toArray, List.getElem_cons_zero, List.getElem_cons_succ, List.setIfInBounds_toArray, List.set_cons_zero, List.set_cons_succ]
      refine wpAnyH_ready (rs := [23]) (by kernel_rfl) (by simp) ?_
      refine AllReadyH.cons rfl (fun K hK => ?_) AllReadyH.nil
      go_simp
      refine (HC.out _ _ _ (by exact hr6.below HW_u1.out) (by exact hu6.below HW_u1.out)).mono ?_
      rintro e u2 ⟨rfl, hbx⟩
      have HW_u2 : Hid (Below W.heap.size W u2) := HW_u1.out.trans (hbx.mono HW_u1.out.size)
      have hsS : (u2.cell? ⟨g7, 0, none⟩ = some (.int .i64 0) ∧ u2.cell? ⟨g7, 1, none⟩ = some (.slice b1 m c1)) ∧ (u2.cell? ⟨g8, 0, none⟩ = some (.int .i64 0) ∧ u2.cell? ⟨g8, 1, none⟩ = some (.slice b2 m c2)) := ⟨⟨(HW_u2.out.cell (p := ⟨g7, 0, none⟩) hg7).trans j0, (HW_u2.out.cell (p := ⟨g7, 1, none⟩) hg7).trans j1⟩, ⟨(HW_u2.out.cell (p := ⟨g8, 0, none⟩) hg8).trans i0, (HW_u2.out.cell (p := ⟨g8, 1, none⟩) hg8).trans i1⟩⟩
      refine hK.out _ _ hsS (fun hHeld => ?_)
      clear hK K
      clear hsS hbx
      refine wpAnyH_take (i := 24) (v := ?_) rfl (by kernel_rfl) (by kernel_rfl) (by kernel_rfl) (fun _ _ _ h => h) (Or.inl ⟨by rfl, ?hy24⟩) (by assumption) ?ty24
      case hy24 => (intro w hSw; (try dsimp only at hSw); go_simp; all_goals with_reducible rfl)
      simp only [Act.put, List.getElem_toArray, List.getElem_cons_zero, List.getElem_cons_succ, List.setIfInBounds_toArray, List.set_cons_zero, List.set_cons_succ]
      refine wpAnyH_take (i := 25) (v := .bool true) rfl (by kernel_rfl) (by kernel_rfl) (by kernel_rfl) (fun _ _ _ h => h) (Or.inl ⟨by rfl, ?hy25⟩) (by assumption) ?ty25
      case hy25 => (intro w hSw; (try dsimp only at hSw); go_simp; first | (simp; done) | (all_goals with_reducible rfl))
      simp only [Act.put, List.getElem_toArray, List.getElem_cons_zero, List.getElem_cons_succ, List.setIfInBounds_toArray, List.set_cons_zero, List.set_cons_succ]
      refine wpAnyH_take (i := 26) (v := ?_) rfl (by kernel_rfl) (by kernel_rfl) (by kernel_rfl) (fun _ _ _ h => h) (Or.inl ⟨by rfl, ?hy26⟩) (by assumption) ?ty26
      case hy26 => (intro w hSw; (try dsimp only at hSw); go_simp; all_goals with_reducible rfl)
      simp only [Act.put, List.getElem_toArray, List.getElem_cons_zero, List.getElem_cons_succ, List.setIfInBounds_toArray, List.set_cons_zero, List.set_cons_succ]
      refine wpAnyH_take (i := 27) (v := ?_) rfl (by kernel_rfl) (by kernel_rfl) (by kernel_rfl) (fun _ _ _ h => h) (Or.inl ⟨by rfl, ?hy27⟩) (by assumption) ?ty27
      case hy27 => (intro w hSw; (try dsimp only at hSw); go_simp; all_goals with_reducible rfl)
      simp only [Act.put, List.getElem_toArray, List.getElem_cons_zero, List.getElem_cons_succ, List.setIfInBounds_toArray, List.set_cons_zero, List.set_cons_succ]
      refine wpAnyH_take (i := 28) (v := ?_) rfl (by kernel_rfl) (by kernel_rfl) (by kernel_rfl) (fun _ _ _ h => h) (Or.inl ⟨by rfl, ?hy28⟩) (by assumption) ?ty28
      case hy28 => (intro w hSw; (try dsimp only at hSw); go_simp; all_goals with_reducible rfl)
      simp only [Act.put, List.getElem_toArray, List.getElem_cons_zero, List.getElem_cons_succ, List.setIfInBounds_toArray, List.set_cons_zero, List.set_cons_succ]
      refine wpAnyH_take (i := 29) (v := ?_) rfl (by kernel_rfl) (by kernel_rfl) (by kernel_rfl) (fun _ _ _ h => h) (Or.inl ⟨by rfl, ?hy29⟩) (by assumption) ?ty29
      case hy29 => (intro w hSw; (try dsimp only at hSw); go_simp; all_goals with_reducible rfl)
      simp only [Act.put, List.getElem_toArray, List.getElem_cons_zero, List.getElem_cons_succ, List.setIfInBounds_toArray, List.set_cons_zero, List.set_cons_succ]
      refine wpAnyH_take (i := 30) (v := ?_) rfl (by kernel_rfl) (by kernel_rfl) (by kernel_rfl) (fun _ _ _ h => h) (Or.inl ⟨by rfl, ?hy30⟩) (by assumption) ?ty30
      case hy30 => (intro w hSw; (try dsimp only at hSw); go_simp; all_goals with_reducible rfl)
      simp only [Act.put, List.getElem_toArray, List.getElem_cons_zero, List.getElem_cons_succ, List.setIfInBounds_toArray, List.set_cons_zero, List.set_cons_succ]
      refine wpAnyH_take (i := 31) (v := ?_) rfl (by kernel_rfl) (by kernel_rfl) (by kernel_rfl) (fun _ _ _ h => h) (Or.inl ⟨by rfl, ?hy31⟩) (by assumption) ?ty31
      case hy31 => (intro w hSw; (try dsimp only at hSw); go_simp; all_goals with_reducible rfl)
      simp only [Act.put, List.getElem_toArray, List.getElem_cons_zero, List.getElem_cons_succ, List.setIfInBounds_toArray, List.set_cons_zero, List.set_cons_succ]
      refine wpAnyH_ready (rs := [32]) (by kernel_rfl) (by simp) ?_
      refine AllReadyH.cons rfl (fun K hK => ?_) AllReadyH.nil
      go_simp
      refine (HC.out _ _ _ (by exact hr6.below HW_u2.out) (by exact hu6.below HW_u2.out)).mono ?_
      rintro e u3 ⟨rfl, hbx⟩
      have HW_u3 : Hid (Below W.heap.size W u3) := HW_u2.out.trans (hbx.mono HW_u2.out.size)
      have hsS : (u3.cell? ⟨g7, 0, none⟩ = some (.int .i64 0) ∧ u3.cell? ⟨g7, 1, none⟩ = some (.slice b1 m c1)) ∧ (u3.cell? ⟨g8, 0, none⟩ = some (.int .i64 0) ∧ u3.cell? ⟨g8, 1, none⟩ = some (.slice b2 m c2)) := ⟨⟨(HW_u3.out.cell (p := ⟨g7, 0, none⟩) hg7).trans j0, (HW_u3.out.cell (p := ⟨g7, 1, none⟩) hg7).trans j1⟩, ⟨(HW_u3.out.cell (p := ⟨g8, 0, none⟩) hg8).trans i0, (HW_u3.out.cell (p := ⟨g8, 1, none⟩) hg8).trans i1⟩⟩
      refine hK.out _ _ hsS (fun hHeld => ?_)
      clear hK K
      clear hsS hbx
      refine wpAnyH_take (i := 33) (v := ?_) rfl (by kernel_rfl) (by kernel_rfl) (by kernel_rfl) (fun _ _ _ h => h) (Or.inl ⟨by rfl, ?hy32⟩) (by assumption) ?ty32
      case hy32 => (intro w hSw; (try dsimp only at hSw); go_simp; all_goals with_reducible rfl)
      simp only [Act.put, List.getElem_toArray, List.getElem_cons_zero, List.getElem_cons_succ, List.setIfInBounds_toArray, List.set_cons_zero, List.set_cons_succ]
      refine wpAnyH_take (i := 34) (v := .bool true) rfl (by kernel_rfl) (by kernel_rfl) (by kernel_rfl) (fun _ _ _ h => h) (Or.inl ⟨by rfl, ?hy33⟩) (by assumption) ?ty33
      case hy33 => (intro w hSw; (try dsimp only at hSw); go_simp; first | (simp; done) | (all_goals with_reducible rfl))
      simp only [Act.put, List.getElem_toArray, List.getElem_cons_zero, List.getElem_cons_succ, List.setIfInBounds_toArray, List.set_cons_zero, List.set_cons_succ]
      refine wpAnyH_take (i := 35) (v := ?_) rfl (by kernel_rfl) (by kernel_rfl) (by kernel_rfl) (fun _ _ _ h => h) (Or.inl ⟨by rfl, ?hy34⟩) (by assumption) ?ty34
      case hy34 => (intro w hSw; (try dsimp only at hSw); go_simp; all_goals with_reducible rfl)
      simp only [Act.put, List.getElem_toArray, List.getElem_cons_zero, List.getElem_cons_succ, List.setIfInBounds_toArray, List.set_cons_zero, List.set_cons_succ]
      refine wpAnyH_take (i := 36) (v := ?_) rfl (by kernel_rfl) (by kernel_rfl) (by kernel_rfl) (fun _ _ _ h => h) (Or.inl ⟨by rfl, ?hy35⟩) (by assumption) ?ty35
      case hy35 => (intro w hSw; (try dsimp only at hSw); go_simp; all_goals with_reducible rfl)
      simp only [Act.put, List.getElem_toArray, List.getElem_cons_zero, List.getElem_cons_succ, List.setIfInBounds_toArray, List.set_cons_zero, List.set_cons_succ]
      refine wpAnyH_take (i := 37) (v := ?_) rfl (by kernel_rfl) (by kernel_rfl) (by kernel_rfl) (fun _ _ _ h => h) (Or.inl ⟨by rfl, ?hy36⟩) (by assumption) ?ty36
      case hy36 => (intro w hSw; (try dsimp only at hSw); go_simp; all_goals with_reducible rfl)
      simp only [Act.put, List.getElem_toArray, List.getElem_cons_zero, List.getElem_cons_succ, List.setIfInBounds_toArray, List.set_cons_zero, List.set_cons_succ]
      refine wpAnyH_take (i := 38) (v := ?_) rfl (by kernel_rfl) (by kernel_rfl) (by kernel_rfl) (fun _ _ _ h => h) (Or.inl ⟨by rfl, ?hy37⟩) (by assumption) ?ty37
      case hy37 => (intro w hSw; (try dsimp only at hSw); go_simp; all_goals with_reducible rfl)
      simp only [Act.put, List.getElem_toArray, List.getElem_cons_zero, List.getElem_cons_succ, List.setIfInBounds_toArray, List.set_cons_zero, List.set_cons_succ]
      refine wpAnyH_take (i := 39) (v := ?_) rfl (by kernel_rfl) (by kernel_rfl) (by kernel_rfl) (fun _ _ _ h => h) (Or.inl ⟨by rfl, ?hy38⟩) (by assumption) ?ty38
      case hy38 => (intro w hSw; (try dsimp only at hSw); go_simp; all_goals with_reducible rfl)
      simp only [Act.put, List.getElem_toArray, List.getElem_cons_zero, List.getElem_cons_succ, List.setIfInBounds_toArray, List.set_cons_zero, List.set_cons_succ]
      refine wpAnyH_take (i := 40) (v := ?_) rfl (by kernel_rfl) (by kernel_rfl) (by kernel_rfl) (fun _ _ _ h => h) (Or.inl ⟨by rfl, ?hy39⟩) (by assumption) ?ty39
      case hy39 => (intro w hSw; (try dsimp only at hSw); go_simp; all_goals with_reducible rfl)
      simp only [Act.put, List.getElem_toArray, List.getElem_cons_zero, List.getElem_cons_succ, List.setIfInBounds_toArray, List.set_cons_zero, List.set_cons_succ]
      refine wpAnyH_ready (rs := [41]) (by kernel_rfl) (by simp) ?_
      refine AllReadyH.cons rfl (fun K hK => ?_) AllReadyH.nil
      go_simp
      refine (HH.out _ _ _ (by exact hr6.below HW_u3.out) (by exact hu6.below HW_u3.out)).mono ?_
      rintro e u4 ⟨rfl, hbx⟩
      have HW_u4 : Hid (Below W.heap.size W u4) := HW_u3.out.trans (hbx.mono HW_u3.out.size)
      have hsS : (u4.cell? ⟨g7, 0, none⟩ = some (.int .i64 0) ∧ u4.cell? ⟨g7, 1, none⟩ = some (.slice b1 m c1)) ∧ (u4.cell? ⟨g8, 0, none⟩ = some (.int .i64 0) ∧ u4.cell? ⟨g8, 1, none⟩ = some (.slice b2 m c2)) := ⟨⟨(HW_u4.out.cell (p := ⟨g7, 0, none⟩) hg7).trans j0, (HW_u4.out.cell (p := ⟨g7, 1, none⟩) hg7).trans j1⟩, ⟨(HW_u4.out.cell (p := ⟨g8, 0, none⟩) hg8).trans i0, (HW_u4.out.cell (p := ⟨g8, 1, none⟩) hg8).trans i1⟩⟩
      refine hK.out _ _ hsS (fun hHeld => ?_)
      clear hK K
      clear hsS hbx
      refine wpAnyH_take (i := 42) (v := ?_) rfl (by kernel_rfl) (by kernel_rfl) (by kernel_rfl) (fun _ _ _ h => h) (Or.inl ⟨by rfl, ?hy40⟩) (by assumption) ?ty40
      case hy40 => (intro w hSw; (try dsimp only at hSw); go_simp; all_goals with_reducible rfl)
      simp only [Act.put, List.getElem_toArray, List.getElem_cons_zero, List.getElem_cons_succ, List.setIfInBounds_toArray, List.set_cons_zero, List.set_cons_succ]
      refine wpAnyH_take (i := 43) (v := ?_) rfl (by kernel_rfl) (by kernel_rfl) (by kernel_rfl) (fun _ _ _ h => h) (Or.inl ⟨by rfl, ?hy41⟩) (by assumption) ?ty41
      case hy41 => (intro w hSw; (try dsimp only at hSw); go_simp; all_goals with_reducible rfl)
      simp only [Act.put, List.getElem_toArray, List.getElem_cons_zero, List.getElem_cons_succ, List.setIfInBounds_toArray, List.set_cons_zero, List.set_cons_succ]
      refine wpAnyH_take (i := 44) (v := ?_) rfl (by kernel_rfl) (by kernel_rfl) (by kernel_rfl) (fun _ _ _ h => h) (Or.inl ⟨by rfl, ?hy42⟩) (by assumption) ?ty42
      case hy42 => (intro w hSw; (try dsimp only at hSw); go_simp; all_goals with_reducible rfl)
      simp only [Act.put, List.getElem_toArray, List.getElem_cons_zero, List.getElem_cons_succ, List.setIfInBounds_toArray, List.set_cons_zero, List.set_cons_succ]
      refine wpAnyH_take (i := 45) (v := ?_) rfl (by kernel_rfl) (by kernel_rfl) (by kernel_rfl) (fun _ _ _ h => h) (Or.inl ⟨by rfl, ?hy43⟩) (by assumption) ?ty43
      case hy43 => (intro w hSw; (try dsimp only at hSw); go_simp; all_goals with_reducible rfl)
      simp only [Act.put, List.getElem_toArray, List.getElem_cons_zero, List.getElem_cons_succ, List.setIfInBounds_toArray, List.set_cons_zero, List.set_cons_succ]
      refine wpAnyH_take (i := 46) (v := ?_) rfl (by kernel_rfl) (by kernel_rfl) (by kernel_rfl) (fun _ _ _ h => h) (Or.inl ⟨by rfl, ?hy44⟩) (by assumption) ?ty44
      case hy44 => (intro w hSw; (try dsimp only at hSw); go_simp; all_goals with_reducible rfl)
      simp only [Act.put, List.getElem_toArray, List.getElem_cons_zero, List.getElem_cons_succ, List.setIfInBounds_toArray, List.set_cons_zero, List.set_cons_succ]
      refine wpAnyH_take (i := 47) (v := ?_) rfl (by kernel_rfl) (by kernel_rfl) (by kernel_rfl) (fun _ _ _ h => h) (Or.inl ⟨by rfl, ?hy45⟩) (by assumption) ?ty45
      case hy45 => (intro w hSw; (try dsimp only at hSw); go_simp; all_goals with_reducible rfl)
      simp only [Act.put, List.getElem_toArray, List.getElem_cons_zero, List.getElem_cons_succ, List.setIfInBounds_toArray, List.set_cons_zero, List.set_cons_succ]
      refine wpAnyH_ready (rs := [48]) (by kernel_rfl) (by simp) ?_
      refine AllReadyH.cons rfl (fun K hK => ?_) AllReadyH.nil
      go_simp
      refine (HMS.out _ (by exact hr6.below HW_u4.out)).mono ?_
      rintro e u5 ⟨v7, rfl, hown7, hbx⟩
      simp only at hown7 ⊢
      obtain ⟨b3, c3, hv, -, -⟩ := hown7.form
      rw [HU.out] at hv
      rw [hv] at hown7 ⊢
      clear hv
      have HW_u5 : Hid (Below W.heap.size W u5) := HW_u4.out.trans (hbx.mono HW_u4.out.size)
      have hsS : (u5.cell? ⟨g7, 0, none⟩ = some (.int .i64 0) ∧ u5.cell? ⟨g7, 1, none⟩ = some (.slice b1 m c1)) ∧ (u5.cell? ⟨g8, 0, none⟩ = some (.int .i64 0) ∧ u5.cell? ⟨g8, 1, none⟩ = some (.slice b2 m c2)) := ⟨⟨(HW_u5.out.cell (p := ⟨g7, 0, none⟩) hg7).trans j0, (HW_u5.out.cell (p := ⟨g7, 1, none⟩) hg7).trans j1⟩, ⟨(HW_u5.out.cell (p := ⟨g8, 0, none⟩) hg8).trans i0, (HW_u5.out.cell (p := ⟨g8, 1, none⟩) hg8).trans i1⟩⟩
      refine hK.out _ _ hsS (fun hHeld => ?_)
      clear hK K
      clear hsS hbx
      refine wpAnyH_take (i := 49) (v := ?_) rfl (by kernel_rfl) (by kernel_rfl) (by kernel_rfl) (fun _ _ _ h => h) (Or.inl ⟨by rfl, ?hy46⟩) (by assumption) ?ty46
      case hy46 => (intro w hSw; (try dsimp only at hSw); go_simp; all_goals with_reducible rfl)
      simp only [Act.put, List.getElem_toArray, List.getElem_cons_zero, List.getElem_cons_succ, List.setIfInBounds_toArray, List.set_cons_zero, List.set_cons_succ]
      refine wpAnyH_ready (rs := [50]) (by kernel_rfl) (by simp) ?_
      refine AllReadyH.cons rfl (fun K hK => ?_) AllReadyH.nil
      go_simp
      refine (HN.out _ _ _ _ _ (by exact hu6.below HW_u5.out) (by exact hown7.rd.2)).mono ?_
      rintro e u6 ⟨rfl, hbx⟩
      have HW_u6 : Hid (Below W.heap.size W u6) := HW_u5.out.trans (hbx.mono HW_u5.out.size)
      have hsS : (u6.cell? ⟨g7, 0, none⟩ = some (.int .i64 0) ∧ u6.cell? ⟨g7, 1, none⟩ = some (.slice b1 m c1)) ∧ (u6.cell? ⟨g8, 0, none⟩ = some (.int .i64 0) ∧ u6.cell? ⟨g8, 1, none⟩ = some (.slice b2 m c2)) := ⟨⟨(HW_u6.out.cell (p := ⟨g7, 0, none⟩) hg7).trans j0, (HW_u6.out.cell (p := ⟨g7, 1, none⟩) hg7).trans j1⟩, ⟨(HW_u6.out.cell (p := ⟨g8, 0, none⟩) hg8).trans i0, (HW_u6.out.cell (p := ⟨g8, 1, none⟩) hg8).trans i1⟩⟩
      refine hK.out _ _ hsS (fun hHeld => ?_)
      clear hK K
      clear hsS hbx
      refine wpAnyH_take (i := 51) (v := ?_) rfl (by kernel_rfl) (by kernel_rfl) (by kernel_rfl) (fun _ _ _ h => h) (Or.inl ⟨by rfl, ?hy47⟩) (by assumption) ?ty47
      case hy47 => (intro w hSw; (try dsimp only at hSw); go_simp; all_goals with_reducible rfl)
      simp only [Act.put, List.getElem_toArray, List.getElem_cons_zero, List.getElem_cons_succ, List.setIfInBounds_toArray, List.set_cons_zero, List.set_cons_succ]
      refine wpAnyH_take (i := 52) (v := ?_) rfl (by kernel_rfl) (by kernel_rfl) (by kernel_rfl) (fun _ _ _ h => h) (Or.inl ⟨by rfl, ?hy48⟩) (by assumption) ?ty48
      case hy48 => (intro w hSw; (try dsimp only at hSw); go_simp; all_goals with_reducible rfl)
      simp only [Act.put, List.getElem_toArray, List.getElem_cons_zero, List.getElem_cons_succ, List.setIfInBounds_toArray, List.set_cons_zero, List.set_cons_succ]
      refine wpAnyH_done (by kernel_rfl) ?_ _
      have HF : Hid (Below w.heap.size w u6) := HB6.out.trans (HW_u6.out.mono HB6.out.size)
      clear hHeld HW_u1 HW_u2 HW_u3 HW_u4 HW_u5 HW_u6 hown7 HMS HC HH HN HB6
      go_wp2
      go_ret
      exact ⟨rfl, HF.out⟩
    · obtain ⟨c0, hc0, hne⟩ := mapT_bad hok
      rw [hc0] at HMI HMS
      have e0 : (c0 != 0) = true := by simp; omega
      clear hok hc0
      go_wp2_with fail
      refine (HMI.out _ hrs).mono ?_
      rintro e w5 ⟨v5, rfl, hown5, hb5⟩
      simp only at hown5 ⊢
      obtain ⟨b1, c1, hv, -, -⟩ := hown5.form
      rw [hv] at hown5 ⊢
      clear hv
      simp only [List.length_nil] at hown5 ⊢
      have hb5' : Below w4.heap.size w4 (w5.alloc (.cells #[.int .i64 c0, .slice b1 0 c1] 28)) := hb5.trans (((Below.refl _ _).alloc (Nat.le_refl _) _).mono hb5.size)
      have hr5 := hrs.below hb5'
      have HB5 : Hid (Below w.heap.size w (w5.alloc (.cells #[.int .i64 c0, .slice b1 0 c1] 28))) := HB4.out.trans (hb5'.mono HB4.out.size)
      obtain ⟨k0, k1, -, -⟩ := res_block (w := w5) (wr := w5.alloc (.cells #[.int .i64 c0, .slice b1 0 c1] 28)) rfl (Below.refl _ _)
      have hsW : (w5.alloc (.cells #[.int .i64 c0, .slice b1 0 c1] 28)).heap.size = w5.heap.size + 1 := by simp
      clear hown5 hb5 hb5' hrs HB4 HMI
      go_wp2_with fail
      generalize w5.alloc (.cells #[.int .i64 c0, .slice b1 0 c1] 28) = W at *
      generalize w5.heap.size = g7 at *
      have hg7 : g7 < W.heap.size := by omega
      refine wp_region_held_drew (S := fun w' => w'.cell? ⟨g7, 0, none⟩ = some (.int .i64 c0)) (by kernel_rfl) ?hS49 (fun hHeld => ?_)
      case hS49 => exact k0
      refine wpAnyH_take (i := 0) (v := ?_) rfl (by kernel_rfl) (by kernel_rfl) (by kernel_rfl) (fun _ _ _ h => h) (Or.inl ⟨by rfl, ?hy50⟩) (by assumption) ?ty50
      case hy50 => (intro w hSw; (try dsimp only at hSw); go_simp; all_goals with_reducible rfl)
      simp only [Act.put, List.getElem_toArray, List.getElem_cons_zero, List.setIfInBounds_toArray, List.set_cons_zero, List.set_cons_succ]
      refine wpAnyH_take (i := 1) (v := ?_) rfl (by kernel_rfl) (by kernel_rfl) (by kernel_rfl) (fun _ _ _ h => h) (Or.inl ⟨by rfl, ?hy51⟩) (by assumption) ?ty51
      case hy51 => (intro w hSw; (try dsimp only at hSw); go_simp; all_goals with_reducible rfl)
      simp only [Act.put, List.getElem_toArray, List.getElem_cons_zero, List.getElem_cons_succ, List.setIfInBounds_toArray, List.set_cons_zero, List.set_cons_succ]
      refine wpAnyH_take (i := 4) (v := ?_) rfl (by kernel_rfl) (by kernel_rfl) (by kernel_rfl) (fun _ _ _ h => h) (Or.inl ⟨by rfl, ?hy52⟩) (by assumption) ?ty52
      case hy52 => (intro w hSw; (try dsimp only at hSw); go_simp; all_goals with_reducible rfl)
      simp only [Act.put, List.getElem_toArray, List.getElem_cons_zero, List.getElem_cons_succ, List.setIfInBounds_toArray, List.set_cons_zero, List.set_cons_succ]
      refine wpAnyH_take (i := 5) (v := ?_) rfl (by kernel_rfl) (by kernel_rfl) (by kernel_rfl) (fun _ _ _ h => h) (Or.inl ⟨by rfl, ?hy53⟩) (by assumption) ?ty53
      case hy53 => (intro w hSw; (try dsimp only at hSw); go_simp; all_goals with_reducible rfl)
      simp only [Act.put, List.getElem_toArray, List.getElem_cons_zero, List.getElem_cons_succ, List.setIfInBounds_toArray, List.set_cons_zero, List.set_cons_succ]
      refine wpAnyH_ready (rs := [2]) (by kernel_rfl) (by simp) ?_
      refine AllReadyH.cons rfl (fun K hK => ?_) AllReadyH.nil
      go_simp
      refine (HMS.out _ (by exact hr5)).mono ?_
      rintro e u1 ⟨v7, rfl, hown7, hbx⟩
      simp only
      obtain ⟨b3, c3, rfl, -, -⟩ := hown7.form
      clear hown7
      have HW : Hid (Below W.heap.size W u1) := (Below.refl _ _).drew.trans hbx
      have hsS : u1.cell? ⟨g7, 0, none⟩ = some (.int .i64 c0) := (HW.out.cell (p := ⟨g7, 0, none⟩) hg7).trans k0
      refine hK.out _ _ hsS (fun hHeld => ?_)
      clear hK K
      clear hsS hbx
      refine wpAnyH_take (i := 3) (v := ?_) rfl (by kernel_rfl) (by kernel_rfl) (by kernel_rfl) (fun _ _ _ h => h) (Or.inl ⟨by rfl, ?hy54⟩) (by assumption) ?ty54
      case hy54 => (intro w hSw; (try dsimp only at hSw); go_simp; all_goals with_reducible rfl)
      simp only [Act.put, List.getElem_toArray, List.getElem_cons_zero, List.getElem_cons_succ, List.setIfInBounds_toArray, List.set_cons_zero, List.set_cons_succ]
      refine wpAnyH_take (i := 6) (v := .bool true) rfl (by kernel_rfl) (by kernel_rfl) (by kernel_rfl) (fun _ _ _ h => h) (Or.inl ⟨by rfl, ?hy55⟩) (by assumption) ?ty55
      case hy55 => (intro w hSw; (try dsimp only at hSw); go_simp; first | (simp; done) | (all_goals with_reducible rfl))
      simp only [Act.put, List.getElem_toArray, List.getElem_cons_zero, List.getElem_cons_succ, List.setIfInBounds_toArray, List.set_cons_zero, List.set_cons_succ]
      refine wpAnyH_take (i := 7) (v := ?_) rfl (by kernel_rfl) (by kernel_rfl) (by kernel_rfl) (fun _ _ _ h => h) (Or.inl ⟨by rfl, ?hy56⟩) (by assumption) ?ty56
      case hy56 => (intro w hSw; (try dsimp only at hSw); go_simp; all_goals with_reducible rfl)
      simp only [Act.put, List.getElem_toArray, List.getElem_cons_zero, List.getElem_cons_succ, List.setIfInBounds_toArray, List.set_cons_zero, List.set_cons_succ]
      refine wpAnyH_done (by kernel_rfl) ?_ _
      have HF : Hid (Below w.heap.size w u1) := HB5.out.trans (HW.out.mono HB5.out.size)
      clear hHeld HW HMS HB5
      go_wp2
      go_ret
      exact ⟨rfl, HF.out⟩
end Go.Proofs.Ytjkhlkmibajhiaa
