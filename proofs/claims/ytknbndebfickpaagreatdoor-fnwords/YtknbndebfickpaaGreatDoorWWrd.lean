/- The law FnWords returns true at every input, and changes nothing that was there: over contracts that are handed in. -/
import Derived.Test.YtknbndebfickpaaGreatDoorFltToPln
import Derived.Test.YtknbndebfickpaaGreatDoorByeToTel
import Derived.Test.YtknbndebfickpaaGreatDoorDecLToDrw3a
import Derived.Deep.RegionHeld3
namespace Go.Proofs.YtknbndebfickpaaGreatDoor
open Go.RowKit

theorem fldWC0 (x y : Value) (w : World) : (Instr.field 27 (.agg #[x, y]) 0).run Tryz.prog w = .ok x w := by
  simp [Instr.field, asAgg, go_sem]
theorem fldWC1 (x y : Value) (w : World) : (Instr.field 27 (.agg #[x, y]) 1).run Tryz.prog w = .ok y w := by
  simp [Instr.field, asAgg, go_sem]
theorem fldWT0 (x y : Value) (w : World) : (Instr.field 33 (.agg #[x, y]) 0).run Tryz.prog w = .ok x w := by
  simp [Instr.field, asAgg, go_sem]
theorem fldWT1 (x y : Value) (w : World) : (Instr.field 33 (.agg #[x, y]) 1).run Tryz.prog w = .ok y w := by
  simp [Instr.field, asAgg, go_sem]
theorem str_fullW {t : List Nat} (h : t ≠ []) : (str t).toList.isEmpty = false := by
  rw [ByteArray.toList_eq, show (str t).data.toList = t.map UInt8.ofNat by simp [str]]
  cases t with
  | nil => exact absurd rfl h
  | cons => rfl
theorem str_noneW : (str []).toList.isEmpty = true := by rw [ByteArray.toList_eq]; rfl
/-- What is known of words. -/
structure WdKit (dw : List Nat → Int × List Int) (ew : List Int → Int × List Nat) (TT : World → Prop) : Prop where
  below : ∀ w w', TT w → Below w.heap.size w w' → TT w'
  few : ∀ t, IsB t → (dw t).2.length ≤ 400
  fault : ∀ t, IsB t → (dw t).1 = 0 → flt (dw t).2 = 0
  back : ∀ s, (ew s).1 = 0 → dw (ew s).2 = (0, s)
  plain : ∀ s, ∀ x ∈ (ew s).2, 1 ≤ x ∧ x ≤ 127
  len : ∀ s, (ew s).2.length ≤ 400
  di : ∀ t w, IsB t → t.length ≤ 1048576 → TT w → Calls Tryz.prog 6 #[.string (str t)] w fun e w' => CodEnd (dw t) w e w'
  ds : ∀ t w, IsB t → t.length ≤ 1048576 → Calls Tryz.prog 7 #[.string (str t)] w fun e w' => CodEnd (dw t) w e w'
  ei : ∀ (a : Option Addr) (n cap : Nat) (s : List Int) w, s.length = n → RdI w a s → n ≤ 1048576 → TT w → Calls Tryz.prog 11 #[.slice a n cap] w fun e w' => e = .returned (.agg #[.int .i64 (ew s).1, .string (str (ew s).2)]) ∧ Below w.heap.size w w'
  es : ∀ (a : Option Addr) (n cap : Nat) (s : List Int) w, s.length = n → RdI w a s → n ≤ 1048576 → Calls Tryz.prog 12 #[.slice a n cap] w fun e w' => e = .returned (.agg #[.int .i64 (ew s).1, .string (str (ew s).2)]) ∧ Below w.heap.size w w'
  dd : ∀ (a : Option Addr) (n cap : Nat) (l : List Nat) w, l.length = n → Rd w a l → IsB l → n ≤ 1048576 → Calls Tryz.prog 5 #[.slice a n cap] w fun e w' => ∃ t : List Nat, e = .returned (.string (str t)) ∧ IsB t ∧ t.length ≤ 1048576 ∧ Below w.heap.size w w'
  de : ∀ (a : Option Addr) (n cap : Nat) (l : List Nat) w, l.length = n → Rd w a l → IsB l → n ≤ 1048576 → Calls Tryz.prog 10 #[.slice a n cap] w fun e w' => ∃ (v : Value) (out : List Int), e = .returned v ∧ OwnI w' w.heap.size v out ∧ out.length ≤ 403 ∧ Below w.heap.size w w'

set_option maxHeartbeats 12800000 in
set_option maxRecDepth 100000 in
theorem walkWords {dw : List Nat → Int × List Int} {ew : List Int → Int × List Nat} {TT : World → Prop} (KT : Hid (WdKit dw ew TT)) (a : Option Addr) (n cap : Nat) (l : List Nat) (w : World) (hl : l.length = n) (hr : Rd w a l) (hB : IsB l) (hT : Hid (TT w)) :
    Calls Tryz.prog 3 #[.slice a n cap] w fun e w' => e = .returned (.bool true) ∧ Below w.heap.size w w' := by
  by_cases hbig : 1048576 < n
  · go_enter Tryz.func3, Tryz.ntmps3
    go_wp2_with fail
    refine (lwBig_any a n cap w).mono ?_
    rintro e w1 ⟨rfl, rfl⟩
    rw [decide_eq_true (by omega)]
    go_wp2
    go_ret
    exact ⟨rfl, Below.refl _ _⟩
  · have fC0 := fldWC0
    have fC1 := fldWC1
    have fT0 := fldWT0
    have fT1 := fldWT1
    go_enter Tryz.func3, Tryz.ntmps3
    go_wp2_with fail
    refine (lwBig_any a n cap w).mono ?_
    rintro e w1 ⟨rfl, rfl⟩
    rw [decide_eq_false (by omega)]
    go_wp2_with fail
    refine (KT.out.dd a n cap l w hl hr hB (by omega)).mono ?_
    rintro e w1 ⟨t, rfl, hBt, htl, hb1⟩
    have hfew := KT.out.few t hBt
    have HFT : Hid ((dw t).1 = 0 → flt (dw t).2 = 0) := KT.out.fault t hBt
    have HDI : Hid (∀ w, TT w → Calls Tryz.prog 6 #[.string (str t)] w fun e w' => CodEnd (dw t) w e w') := fun w h => KT.out.di t w hBt htl h
    have HDS : Hid (∀ w, Calls Tryz.prog 7 #[.string (str t)] w fun e w' => CodEnd (dw t) w e w') := fun w => KT.out.ds t w hBt htl
    generalize dw t = D at *
    obtain ⟨d0, u⟩ := D
    simp only at hfew HFT
    generalize str t = tx at *
    clear hBt htl
    obtain ⟨N, hN⟩ : ∃ N, u.length = N := ⟨_, rfl⟩
    have HN : Hid (u.length = N) := hN
    rw [hN] at hfew
    clear hN
    go_wp2_with fail
    refine (HDI.out _ (KT.out.below _ _ hT.out hb1)).mono ?_
    rintro e w2 ⟨v2, rfl, hown2, hb2⟩
    simp only at hown2 ⊢
    obtain ⟨b2, c2, hv, -, -⟩ := hown2.form
    rw [HN.out] at hv
    rw [hv] at hown2 ⊢
    clear hv
    have hbA : Below w2.heap.size w2 (w2.alloc (.cells #[.int .i64 d0, .slice b2 N c2] 27)) := (Below.refl _ _).alloc (Nat.le_refl _) _
    have hX2 : Below w1.heap.size w1 (w2.alloc (.cells #[.int .i64 d0, .slice b2 N c2] 27)) := hb2.trans (hbA.mono hb2.size)
    have HB2 : Hid (Below w.heap.size w (w2.alloc (.cells #[.int .i64 d0, .slice b2 N c2] 27))) := hb1.trans (hX2.mono hb1.size)
    have hu2 := hown2.rd.2.below hbA
    obtain ⟨k0, k1, -, -⟩ := res_block (w := w2) (wr := w2.alloc (.cells #[.int .i64 d0, .slice b2 N c2] 27)) rfl (Below.refl _ _)
    have hsW : (w2.alloc (.cells #[.int .i64 d0, .slice b2 N c2] 27)).heap.size = w2.heap.size + 1 := by simp
    clear hb1 hb2 hX2 HDI hown2 hbA
    go_wp2_with fail
    generalize w2.alloc (.cells #[.int .i64 d0, .slice b2 N c2] 27) = W at *
    generalize w2.heap.size = g at *
    have hgg : g < W.heap.size := by omega
    have HLN : Hid (∀ (b d : Option Addr) (bc dc : Nat) w, RdI w b u → RdI w d u → Calls Tryz.prog 8 #[.slice b N bc, .slice d N dc] w fun e w' => e = .returned (.bool true) ∧ Below w.heap.size w w') := fun b d bc dc w h1 h2 => by
      have h := lwNums_any b d N N bc dc u u w HN.out HN.out h1 h2 (by omega) (by omega)
      rw [decide_eq_true rfl] at h; exact h
    have HCF : Hid (d0 = 0 → ∀ w, RdI w b2 u → Calls Tryz.prog 9 #[.slice b2 N c2] w fun e w' => e = .returned (.int .i64 0) ∧ Below w.heap.size w w') := fun h0 w h1 => by
      have h := codesFault_any b2 N c2 u w HN.out h1 (by omega)
      rw [HFT.out h0] at h; exact h
    clear HFT
    by_cases hd0 : d0 = 0
    · subst hd0
      refine wp_region_held_drew (S := fun w' => w'.cell? ⟨g, 0, none⟩ = some (.int .i64 0) ∧ w'.cell? ⟨g, 1, none⟩ = some (.slice b2 N c2)) (by kernel_rfl) ?hS1 (fun hHeld => ?_)
      case hS1 => exact ⟨k0, k1⟩
      refine wpAnyH_take (i := 0) (v := ?_) rfl (by kernel_rfl) (by kernel_rfl) (by kernel_rfl) (fun _ _ _ h => h) (Or.inl ⟨by rfl, ?hy2⟩) (by assumption) ?ty2
      case hy2 => (intro w hSw; (try dsimp only at hSw); go_simp; all_goals with_reducible rfl)
      simp only [Act.put, List.getElem_toArray, List.getElem_cons_zero, List.setIfInBounds_toArray, List.set_cons_zero, List.set_cons_succ]
      refine wpAnyH_take (i := 1) (v := ?_) rfl (by kernel_rfl) (by kernel_rfl) (by kernel_rfl) (fun _ _ _ h => h) (Or.inl ⟨by rfl, ?hy3⟩) (by assumption) ?ty3
      case hy3 => (intro w hSw; (try dsimp only at hSw); go_simp; all_goals with_reducible rfl)
      simp only [Act.put, List.getElem_toArray, List.getElem_cons_zero, List.getElem_cons_succ, List.setIfInBounds_toArray, List.set_cons_zero, List.set_cons_succ]
      refine wpAnyH_take (i := 2) (v := ?_) rfl (by kernel_rfl) (by kernel_rfl) (by kernel_rfl) (fun _ _ _ h => h) (Or.inl ⟨by rfl, ?hy4⟩) (by assumption) ?ty4
      case hy4 => (intro w hSw; (try dsimp only at hSw); go_simp; all_goals with_reducible rfl)
      simp only [Act.put, List.getElem_toArray, List.getElem_cons_zero, List.getElem_cons_succ, List.setIfInBounds_toArray, List.set_cons_zero, List.set_cons_succ]
      refine wpAnyH_ready (rs := [3]) (by kernel_rfl) (by simp) ?_
      refine AllReadyH.cons rfl (fun K hK => ?_) AllReadyH.nil
      go_simp
      refine (HDS.out _).mono ?_
      rintro e y1 ⟨v3, rfl, hown3, hbx⟩
      simp only at hown3 ⊢
      obtain ⟨b3, c3, hv, -, -⟩ := hown3.form
      rw [HN.out] at hv
      rw [hv] at hown3 ⊢
      clear hv
      have HW_y1 : Hid (Below W.heap.size W y1) := (Below.refl _ _).drew.trans hbx
      have hsS : y1.cell? ⟨g, 0, none⟩ = some (.int .i64 0) ∧ y1.cell? ⟨g, 1, none⟩ = some (.slice b2 N c2) := ⟨(HW_y1.out.cell (p := ⟨g, 0, none⟩) hgg).trans k0, (HW_y1.out.cell (p := ⟨g, 1, none⟩) hgg).trans k1⟩
      refine hK.out _ _ hsS (fun hHeld => ?_)
      clear hK K
      clear hsS
      clear hown3 hbx
      refine wpAnyH_take (i := 4) (v := ?_) rfl (by kernel_rfl) (by kernel_rfl) (by kernel_rfl) (fun _ _ _ h => h) (Or.inl ⟨by rfl, ?hy5⟩) (by assumption) ?ty5
      case hy5 => (intro w hSw; (try dsimp only at hSw); go_simp; all_goals with_reducible rfl)
      simp only [Act.put, List.getElem_toArray, List.getElem_cons_zero, List.getElem_cons_succ, List.setIfInBounds_toArray, List.set_cons_zero, List.set_cons_succ]
      refine wpAnyH_take (i := 5) (v := .bool false) rfl (by kernel_rfl) (by kernel_rfl) (by kernel_rfl) (fun _ _ _ h => h) (Or.inl ⟨by rfl, ?hy6⟩) (by assumption) ?ty6
      case hy6 => (intro w hSw; (try dsimp only at hSw); go_simp; first | (simp; done) | (all_goals with_reducible rfl))
      simp only [Act.put, List.getElem_toArray, List.getElem_cons_zero, List.getElem_cons_succ, List.setIfInBounds_toArray, List.set_cons_zero, List.set_cons_succ]
      refine wpAnyH_take (i := 6) (v := ?_) rfl (by kernel_rfl) (by kernel_rfl) (by kernel_rfl) (fun _ _ _ h => h) (Or.inl ⟨by rfl, ?hy7⟩) (by assumption) ?ty7
      case hy7 => (intro w hSw; (try dsimp only at hSw); go_simp; all_goals with_reducible rfl)
      simp only [Act.put, List.getElem_toArray, List.getElem_cons_zero, List.getElem_cons_succ, List.setIfInBounds_toArray, List.set_cons_zero, List.set_cons_succ]
      refine wpAnyH_take (i := 7) (v := ?_) rfl (by kernel_rfl) (by kernel_rfl) (by kernel_rfl) (fun _ _ _ h => h) (Or.inl ⟨by rfl, ?hy8⟩) (by assumption) ?ty8
      case hy8 => (intro w hSw; (try dsimp only at hSw); go_simp; all_goals with_reducible rfl)
      simp only [Act.put, List.getElem_toArray, List.getElem_cons_zero, List.getElem_cons_succ, List.setIfInBounds_toArray, List.set_cons_zero, List.set_cons_succ]
      refine wpAnyH_take (i := 8) (v := ?_) rfl (by kernel_rfl) (by kernel_rfl) (by kernel_rfl) (fun _ _ _ h => h) (Or.inl ⟨by rfl, ?hy9⟩) (by assumption) ?ty9
      case hy9 => (intro w hSw; (try dsimp only at hSw); go_simp; all_goals with_reducible rfl)
      simp only [Act.put, List.getElem_toArray, List.getElem_cons_zero, List.getElem_cons_succ, List.setIfInBounds_toArray, List.set_cons_zero, List.set_cons_succ]
      refine wpAnyH_take (i := 9) (v := ?_) rfl (by kernel_rfl) (by kernel_rfl) (by kernel_rfl) (fun _ _ _ h => h) (Or.inl ⟨by rfl, ?hy10⟩) (by assumption) ?ty10
      case hy10 => (intro w hSw; (try dsimp only at hSw); go_simp; all_goals with_reducible rfl)
      simp only [Act.put, List.getElem_toArray, List.getElem_cons_zero, List.getElem_cons_succ, List.setIfInBounds_toArray, List.set_cons_zero, List.set_cons_succ]
      refine wpAnyH_ready (rs := [10]) (by kernel_rfl) (by simp) ?_
      refine AllReadyH.cons rfl (fun K hK => ?_) AllReadyH.nil
      go_simp
      refine (HDS.out _).mono ?_
      rintro e y2 ⟨v3, rfl, hown3, hbx⟩
      simp only at hown3 ⊢
      obtain ⟨b3, c3, hv, -, -⟩ := hown3.form
      rw [HN.out] at hv
      rw [hv] at hown3 ⊢
      clear hv
      have HW_y2 : Hid (Below W.heap.size W y2) := HW_y1.out.trans (hbx.mono HW_y1.out.size)
      have hsS : y2.cell? ⟨g, 0, none⟩ = some (.int .i64 0) ∧ y2.cell? ⟨g, 1, none⟩ = some (.slice b2 N c2) := ⟨(HW_y2.out.cell (p := ⟨g, 0, none⟩) hgg).trans k0, (HW_y2.out.cell (p := ⟨g, 1, none⟩) hgg).trans k1⟩
      refine hK.out _ _ hsS (fun hHeld => ?_)
      clear hK K
      clear hsS
      clear hbx
      refine wpAnyH_take (i := 11) (v := ?_) rfl (by kernel_rfl) (by kernel_rfl) (by kernel_rfl) (fun _ _ _ h => h) (Or.inl ⟨by rfl, ?hy11⟩) (by assumption) ?ty11
      case hy11 => (intro w hSw; (try dsimp only at hSw); go_simp; all_goals with_reducible rfl)
      simp only [Act.put, List.getElem_toArray, List.getElem_cons_zero, List.getElem_cons_succ, List.setIfInBounds_toArray, List.set_cons_zero, List.set_cons_succ]
      refine wpAnyH_ready (rs := [12]) (by kernel_rfl) (by simp) ?_
      refine AllReadyH.cons rfl (fun K hK => ?_) AllReadyH.nil
      go_simp
      refine (HLN.out _ _ _ _ _ (by exact hu2.below HW_y2.out) (by exact hown3.rd.2)).mono ?_
      rintro e y3 ⟨rfl, hbx⟩
      have HW_y3 : Hid (Below W.heap.size W y3) := HW_y2.out.trans (hbx.mono HW_y2.out.size)
      have hsS : y3.cell? ⟨g, 0, none⟩ = some (.int .i64 0) ∧ y3.cell? ⟨g, 1, none⟩ = some (.slice b2 N c2) := ⟨(HW_y3.out.cell (p := ⟨g, 0, none⟩) hgg).trans k0, (HW_y3.out.cell (p := ⟨g, 1, none⟩) hgg).trans k1⟩
      refine hK.out _ _ hsS (fun hHeld => ?_)
      clear hK K
      clear hsS
      clear hbx hown3
      refine wpAnyH_take (i := 13) (v := ?_) rfl (by kernel_rfl) (by kernel_rfl) (by kernel_rfl) (fun _ _ _ h => h) (Or.inl ⟨by rfl, ?hy12⟩) (by assumption) ?ty12
      case hy12 => (intro w hSw; (try dsimp only at hSw); go_simp; all_goals with_reducible rfl)
      simp only [Act.put, List.getElem_toArray, List.getElem_cons_zero, List.getElem_cons_succ, List.setIfInBounds_toArray, List.set_cons_zero, List.set_cons_succ]
      refine wpAnyH_take (i := 14) (v := ?_) rfl (by kernel_rfl) (by kernel_rfl) (by kernel_rfl) (fun _ _ _ h => h) (Or.inl ⟨by rfl, ?hy13⟩) (by assumption) ?ty13
      case hy13 => (intro w hSw; (try dsimp only at hSw); go_simp; all_goals with_reducible rfl)
      simp only [Act.put, List.getElem_toArray, List.getElem_cons_zero, List.getElem_cons_succ, List.setIfInBounds_toArray, List.set_cons_zero, List.set_cons_succ]
      refine wpAnyH_take (i := 15) (v := ?_) rfl (by kernel_rfl) (by kernel_rfl) (by kernel_rfl) (fun _ _ _ h => h) (Or.inl ⟨by rfl, ?hy14⟩) (by assumption) ?ty14
      case hy14 => (intro w hSw; (try dsimp only at hSw); go_simp; all_goals with_reducible rfl)
      simp only [Act.put, List.getElem_toArray, List.getElem_cons_zero, List.getElem_cons_succ, List.setIfInBounds_toArray, List.set_cons_zero, List.set_cons_succ]
      refine wpAnyH_take (i := 16) (v := ?_) rfl (by kernel_rfl) (by kernel_rfl) (by kernel_rfl) (fun _ _ _ h => h) (Or.inl ⟨by rfl, ?hy15⟩) (by assumption) ?ty15
      case hy15 => (intro w hSw; (try dsimp only at hSw); go_simp; all_goals with_reducible rfl)
      simp only [Act.put, List.getElem_toArray, List.getElem_cons_zero, List.getElem_cons_succ, List.setIfInBounds_toArray, List.set_cons_zero, List.set_cons_succ]
      refine wpAnyH_take (i := 17) (v := ?_) rfl (by kernel_rfl) (by kernel_rfl) (by kernel_rfl) (fun _ _ _ h => h) (Or.inl ⟨by rfl, ?hy16⟩) (by assumption) ?ty16
      case hy16 => (intro w hSw; (try dsimp only at hSw); go_simp; all_goals with_reducible rfl)
      simp only [Act.put, List.getElem_toArray, List.getElem_cons_zero, List.getElem_cons_succ, List.setIfInBounds_toArray, List.set_cons_zero, List.set_cons_succ]
      refine wpAnyH_take (i := 18) (v := .bool true) rfl (by kernel_rfl) (by kernel_rfl) (by kernel_rfl) (fun _ _ _ h => h) (Or.inl ⟨by rfl, ?hy17⟩) (by assumption) ?ty17
      case hy17 => (intro w hSw; (try dsimp only at hSw); go_simp; first | (simp; done) | (all_goals with_reducible rfl))
      simp only [Act.put, List.getElem_toArray, List.getElem_cons_zero, List.getElem_cons_succ, List.setIfInBounds_toArray, List.set_cons_zero, List.set_cons_succ]
      refine wpAnyH_take (i := 19) (v := ?_) rfl (by kernel_rfl) (by kernel_rfl) (by kernel_rfl) (fun _ _ _ h => h) (Or.inl ⟨by rfl, ?hy18⟩) (by assumption) ?ty18
      case hy18 => (intro w hSw; (try dsimp only at hSw); go_simp; all_goals with_reducible rfl)
      simp only [Act.put, List.getElem_toArray, List.getElem_cons_zero, List.getElem_cons_succ, List.setIfInBounds_toArray, List.set_cons_zero, List.set_cons_succ]
      refine wpAnyH_take (i := 20) (v := ?_) rfl (by kernel_rfl) (by kernel_rfl) (by kernel_rfl) (fun _ _ _ h => h) (Or.inl ⟨by rfl, ?hy19⟩) (by assumption) ?ty19
      case hy19 => (intro w hSw; (try dsimp only at hSw); go_simp; all_goals with_reducible rfl)
      simp only [Act.put, List.getElem_toArray, List.getElem_cons_zero, List.getElem_cons_succ, List.setIfInBounds_toArray, List.set_cons_zero, List.set_cons_succ]
      refine wpAnyH_take (i := 21) (v := ?_) rfl (by kernel_rfl) (by kernel_rfl) (by kernel_rfl) (fun _ _ _ h => h) (Or.inl ⟨by rfl, ?hy20⟩) (by assumption) ?ty20
      case hy20 => (intro w hSw; (try dsimp only at hSw); go_simp; all_goals with_reducible rfl)
      simp only [Act.put, List.getElem_toArray, List.getElem_cons_zero, List.getElem_cons_succ, List.setIfInBounds_toArray, List.set_cons_zero, List.set_cons_succ]
      refine wpAnyH_ready (rs := [22]) (by kernel_rfl) (by simp) ?_
      refine AllReadyH.cons rfl (fun K hK => ?_) AllReadyH.nil
      go_simp
      refine (HCF.out rfl _ (by exact hu2.below HW_y3.out)).mono ?_
      rintro e y4 ⟨rfl, hbx⟩
      have HW_y4 : Hid (Below W.heap.size W y4) := HW_y3.out.trans (hbx.mono HW_y3.out.size)
      have hsS : y4.cell? ⟨g, 0, none⟩ = some (.int .i64 0) ∧ y4.cell? ⟨g, 1, none⟩ = some (.slice b2 N c2) := ⟨(HW_y4.out.cell (p := ⟨g, 0, none⟩) hgg).trans k0, (HW_y4.out.cell (p := ⟨g, 1, none⟩) hgg).trans k1⟩
      refine hK.out _ _ hsS (fun hHeld => ?_)
      clear hK K
      clear hsS
      clear hbx
      refine wpAnyH_take (i := 23) (v := .bool false) rfl (by kernel_rfl) (by kernel_rfl) (by kernel_rfl) (fun _ _ _ h => h) (Or.inl ⟨by rfl, ?hy21⟩) (by assumption) ?ty21
      case hy21 => (intro w hSw; (try dsimp only at hSw); go_simp; first | (simp; done) | (all_goals with_reducible rfl))
      simp only [Act.put, List.getElem_toArray, List.getElem_cons_zero, List.getElem_cons_succ, List.setIfInBounds_toArray, List.set_cons_zero, List.set_cons_succ]
      refine wpAnyH_take (i := 24) (v := ?_) rfl (by kernel_rfl) (by kernel_rfl) (by kernel_rfl) (fun _ _ _ h => h) (Or.inl ⟨by rfl, ?hy22⟩) (by assumption) ?ty22
      case hy22 => (intro w hSw; (try dsimp only at hSw); go_simp; all_goals with_reducible rfl)
      simp only [Act.put, List.getElem_toArray, List.getElem_cons_zero, List.getElem_cons_succ, List.setIfInBounds_toArray, List.set_cons_zero, List.set_cons_succ]
      refine wpAnyH_take (i := 25) (v := ?_) rfl (by kernel_rfl) (by kernel_rfl) (by kernel_rfl) (fun _ _ _ h => h) (Or.inl ⟨by rfl, ?hy23⟩) (by assumption) ?ty23
      case hy23 => (intro w hSw; (try dsimp only at hSw); go_simp; all_goals with_reducible rfl)
      simp only [Act.put, List.getElem_toArray, List.getElem_cons_zero, List.getElem_cons_succ, List.setIfInBounds_toArray, List.set_cons_zero, List.set_cons_succ]
      refine wpAnyH_done (by kernel_rfl) ?_ _
      have HBF : Hid (Below w.heap.size w y4) := HB2.out.trans (HW_y4.out.mono HB2.out.size)
      clear hHeld HW_y1 HW_y2 HW_y3 HW_y4 HB2 HDS HLN HCF hu2 k0 k1 hgg hsW
      generalize y4 = wE at HBF ⊢
      go_wp2_with fail
      refine (KT.out.de a n cap l _ hl (hr.below HBF.out) hB (by omega)).mono ?_
      rintro e w3 ⟨v3, s, rfl, ho3, hsl3, hb3⟩
      obtain ⟨ap, mc, hv, -, -⟩ := ho3.form
      obtain ⟨m, hm⟩ : ∃ m, s.length = m := ⟨_, rfl⟩
      have HSL : Hid (s.length = m) := hm
      rw [hm] at hsl3 hv
      subst hv
      clear hm
      have hrs := ho3.rd.2
      have HB3 : Hid (Below w.heap.size w w3) := HBF.out.trans (hb3.mono HBF.out.size)
      clear hb3 HBF ho3
      have HEI : Hid (_) := KT.out.ei ap m mc s w3 HSL.out hrs (by omega) (KT.out.below _ _ hT.out HB3.out)
      have HES : Hid (∀ w, RdI w ap s → Calls Tryz.prog 12 #[.slice ap m mc] w fun e w' => e = .returned (.agg #[.int .i64 (ew s).1, .string (str (ew s).2)]) ∧ Below w.heap.size w w') := fun w h => KT.out.es ap m mc s w HSL.out h (by omega)
      have HBK : Hid ((ew s).1 = 0 → dw (ew s).2 = (0, s)) := KT.out.back s
      have HPL : Hid (∀ x ∈ (ew s).2, 1 ≤ x ∧ x ≤ 127) := KT.out.plain s
      have helen := KT.out.len s
      generalize ew s = E at *
      obtain ⟨e0, et⟩ := E
      simp only at HBK HPL helen
      have HEI' : Calls Tryz.prog 11 #[.slice ap m mc] w3 fun e w' => e = .returned (.agg #[.int .i64 e0, .string (str et)]) ∧ Below w3.heap.size w3 w' := HEI.out
      clear HEI
      go_wp2_with fail
      refine HEI'.mono ?_
      rintro e w4 ⟨rfl, hb4⟩
      have hbA : Below w4.heap.size w4 (w4.alloc (.cells #[.int .i64 e0, .string (str et)] 33)) := (Below.refl _ _).alloc (Nat.le_refl _) _
      have hX4 : Below w3.heap.size w3 (w4.alloc (.cells #[.int .i64 e0, .string (str et)] 33)) := hb4.trans (hbA.mono hb4.size)
      have HB4 : Hid (Below w.heap.size w (w4.alloc (.cells #[.int .i64 e0, .string (str et)] 33))) := HB3.out.trans (hX4.mono HB3.out.size)
      have hs4 := hrs.below hX4
      obtain ⟨q0, q1, -, -⟩ := res_block (w := w4) (wr := w4.alloc (.cells #[.int .i64 e0, .string (str et)] 33)) rfl (Below.refl _ _)
      have hsW4 : (w4.alloc (.cells #[.int .i64 e0, .string (str et)] 33)).heap.size = w4.heap.size + 1 := by simp
      clear hb4 hX4 hrs HEI' hbA HB3
      by_cases he0 : e0 = 0
      · subst he0
        have hbk := HBK.out rfl
        have hBet : IsB et := fun x hx => by have := HPL.out x hx; omega
        have HDB : Hid (∀ w, TT w → Calls Tryz.prog 6 #[.string (str et)] w fun e w' => CodEnd (0, s) w e w') := fun w h => by
          have h' := KT.out.di et w hBet (by omega) h
          rw [hbk] at h'; exact h'
        have HLN : Hid (∀ (b : Option Addr) (bc : Nat) w, RdI w b s → RdI w ap s → Calls Tryz.prog 8 #[.slice b m bc, .slice ap m mc] w fun e w' => e = .returned (.bool true) ∧ Below w.heap.size w w') := fun b bc w h1 h2 => by
          have h := lwNums_any b ap m m bc mc s s w HSL.out HSL.out h1 h2 (by omega) (by omega)
          rw [decide_eq_true rfl] at h; exact h
        have HIP : Hid (∀ (b : Option Addr) (bc : Nat) w, Rd w b et → Calls Tryz.prog 13 #[.slice b et.length bc] w fun e w' => e = .returned (.bool true) ∧ w' = w) := fun b bc w h1 => by
          have h := isPlain_any b et.length bc et w rfl h1 (by omega)
          have hp : plain et = true := List.all_eq_true.2 (fun x hx => decide_eq_true (HPL.out x hx))
          rw [hp] at h; exact h
        have hsze : (str et).size = et.length := str_size et
        have hcv := fun wx => run_bytes_of_string (P := Tryz.prog) wx 9 22 5 (str et) Tryz.underlying9 Tryz.underlying22 Tryz.underlying5
        rw [hsze] at hcv
        have hrdB := fun wx cp fr => bytesRow_rd wx et hBet cp fr
        clear HBK hbk
        go_wp2_with fail
        generalize (w4.alloc (.cells #[.int .i64 0, .string (str et)] 33)) = V0 at *
        generalize w4.heap.size = g6 at *
        have hg60 : g6 < V0.heap.size := by omega
        refine (HDB.out _ (KT.out.below _ _ hT.out HB4.out)).mono ?_
        rintro e w6 ⟨v6, rfl, hown6, hb6⟩
        simp only at hown6 ⊢
        obtain ⟨b6, c6, hv, -, -⟩ := hown6.form
        rw [HSL.out] at hv
        rw [hv] at hown6 ⊢
        clear hv
        have hbA : Below w6.heap.size w6 (w6.alloc (.cells #[.int .i64 0, .slice b6 m c6] 27)) := (Below.refl _ _).alloc (Nat.le_refl _) _
        have hX6 : Below V0.heap.size V0 (w6.alloc (.cells #[.int .i64 0, .slice b6 m c6] 27)) := hb6.trans (hbA.mono hb6.size)
        have HB6 : Hid (Below w.heap.size w (w6.alloc (.cells #[.int .i64 0, .slice b6 m c6] 27))) := HB4.out.trans (hX6.mono HB4.out.size)
        have hs6 := hs4.below hX6
        have hd6 := hown6.rd.2.below hbA
        have r1 := (hX6.cell (p := ⟨g6, 1, none⟩) hg60).trans q1
        obtain ⟨i0, i1, -, -⟩ := res_block (w := w6) (wr := w6.alloc (.cells #[.int .i64 0, .slice b6 m c6] 27)) rfl (Below.refl _ _)
        have hsW6 : (w6.alloc (.cells #[.int .i64 0, .slice b6 m c6] 27)).heap.size = w6.heap.size + 1 := by simp
        have hz6 := hb6.size
        clear hb6 hX6 hs4 HDB hown6 hbA HB4 q0 q1
        go_wp2_with fail
        generalize w6.alloc (.cells #[.int .i64 0, .slice b6 m c6] 27) = Y at *
        generalize w6.heap.size = g7 at *
        have m6 : g6 < Y.heap.size := by omega
        have m7 : g7 < Y.heap.size := by omega
        by_cases hemp : et = []
        · subst hemp
          have he1 := str_noneW
          refine wp_region_held_drew (S := fun w' => w'.cell? ⟨g6, 1, none⟩ = some (.string (str [])) ∧ w'.cell? ⟨g7, 0, none⟩ = some (.int .i64 0) ∧ w'.cell? ⟨g7, 1, none⟩ = some (.slice b6 m c6)) (by kernel_rfl) ?hS31 (fun hHeld => ?_)
          case hS31 => exact ⟨r1, i0, i1⟩
          refine wpAnyH_take (i := 0) (v := ?_) rfl (by kernel_rfl) (by kernel_rfl) (by kernel_rfl) (fun _ _ _ h => h) (Or.inl ⟨by rfl, ?hy32⟩) (by assumption) ?ty32
          case hy32 => (intro w hSw; (try dsimp only at hSw); go_simp; all_goals with_reducible rfl)
          simp only [Act.put, List.getElem_toArray, List.getElem_cons_zero, List.setIfInBounds_toArray, List.set_cons_zero, List.set_cons_succ]
          refine wpAnyH_take (i := 1) (v := ?_) rfl (by kernel_rfl) (by kernel_rfl) (by kernel_rfl) (fun _ _ _ h => h) (Or.inl ⟨by rfl, ?hy33⟩) (by assumption) ?ty33
          case hy33 => (intro w hSw; (try dsimp only at hSw); go_simp; all_goals with_reducible rfl)
          simp only [Act.put, List.getElem_toArray, List.getElem_cons_zero, List.getElem_cons_succ, List.setIfInBounds_toArray, List.set_cons_zero, List.set_cons_succ]
          refine wpAnyH_take (i := 2) (v := .bool true) rfl (by kernel_rfl) (by kernel_rfl) (by kernel_rfl) (fun _ _ _ h => h) (Or.inl ⟨by rfl, ?hy34⟩) (by assumption) ?ty34
          case hy34 => (intro w hSw; (try dsimp only at hSw); go_simp; first | (simp; done) | (all_goals with_reducible rfl))
          simp only [Act.put, List.getElem_toArray, List.getElem_cons_zero, List.getElem_cons_succ, List.setIfInBounds_toArray, List.set_cons_zero, List.set_cons_succ]
          refine wpAnyH_take (i := 3) (v := ?_) rfl (by kernel_rfl) (by kernel_rfl) (by kernel_rfl) (fun _ _ _ h => h) (Or.inl ⟨by rfl, ?hy35⟩) (by assumption) ?ty35
          case hy35 => (intro w hSw; (try dsimp only at hSw); go_simp; all_goals with_reducible rfl)
          simp only [Act.put, List.getElem_toArray, List.getElem_cons_zero, List.getElem_cons_succ, List.setIfInBounds_toArray, List.set_cons_zero, List.set_cons_succ]
          refine wpAnyH_take (i := 4) (v := ?_) rfl (by kernel_rfl) (by kernel_rfl) (by kernel_rfl) (fun _ _ _ h => h) (Or.inl ⟨by rfl, ?hy36⟩) (by assumption) ?ty36
          case hy36 => (intro w hSw; (try dsimp only at hSw); go_simp; all_goals with_reducible rfl)
          simp only [Act.put, List.getElem_toArray, List.getElem_cons_zero, List.getElem_cons_succ, List.setIfInBounds_toArray, List.set_cons_zero, List.set_cons_succ]
          refine wpAnyH_take (i := 5) (v := ?_) rfl (by kernel_rfl) (by kernel_rfl) (by kernel_rfl) (fun _ _ _ h => h) (Or.inl ⟨by rfl, ?hy37⟩) (by assumption) ?ty37
          case hy37 => (intro w hSw; (try dsimp only at hSw); go_simp; all_goals with_reducible rfl)
          simp only [Act.put, List.getElem_toArray, List.getElem_cons_zero, List.getElem_cons_succ, List.setIfInBounds_toArray, List.set_cons_zero, List.set_cons_succ]
          refine wpAnyH_take (i := 6) (v := ?_) rfl (by kernel_rfl) (by kernel_rfl) (by kernel_rfl) (fun _ _ _ h => h) (Or.inl ⟨by rfl, ?hy38⟩) (by assumption) ?ty38
          case hy38 => (intro w hSw; (try dsimp only at hSw); go_simp; all_goals with_reducible rfl)
          simp only [Act.put, List.getElem_toArray, List.getElem_cons_zero, List.getElem_cons_succ, List.setIfInBounds_toArray, List.set_cons_zero, List.set_cons_succ]
          refine wpAnyH_ready (rs := [7]) (by kernel_rfl) (by simp) ?_
          refine AllReadyH.cons rfl (fun K hK => ?_) AllReadyH.nil
          go_simp
          refine (HLN.out _ _ _ (by exact hd6) (by exact hs6)).mono ?_
          rintro e z1 ⟨rfl, hbx⟩
          have HZ_z1 : Hid (Below Y.heap.size Y z1) := (Below.refl _ _).drew.trans hbx
          refine hK.out _ _ ⟨(HZ_z1.out.cell (p := ⟨g6, 1, none⟩) m6).trans r1, (HZ_z1.out.cell (p := ⟨g7, 0, none⟩) m7).trans i0, (HZ_z1.out.cell (p := ⟨g7, 1, none⟩) m7).trans i1⟩ (fun hHeld => ?_)
          clear hK K
          clear hbx
          refine wpAnyH_take (i := 8) (v := ?_) rfl (by kernel_rfl) (by kernel_rfl) (by kernel_rfl) (fun _ _ _ h => h) (Or.inl ⟨by rfl, ?hy39⟩) (by assumption) ?ty39
          case hy39 => (intro w hSw; (try dsimp only at hSw); go_simp; all_goals with_reducible rfl)
          simp only [Act.put, List.getElem_toArray, List.getElem_cons_zero, List.getElem_cons_succ, List.setIfInBounds_toArray, List.set_cons_zero, List.set_cons_succ]
          refine wpAnyH_take (i := 9) (v := ?_) rfl (by kernel_rfl) (by kernel_rfl) (by kernel_rfl) (fun _ _ _ h => h) (Or.inl ⟨by rfl, ?hy40⟩) (by assumption) ?ty40
          case hy40 => (intro w hSw; (try dsimp only at hSw); go_simp; all_goals with_reducible rfl)
          simp only [Act.put, List.getElem_toArray, List.getElem_cons_zero, List.getElem_cons_succ, List.setIfInBounds_toArray, List.set_cons_zero, List.set_cons_succ]
          refine wpAnyH_take (i := 10) (v := ?_) rfl (by kernel_rfl) (by kernel_rfl) (by kernel_rfl) (fun _ _ _ h => h) (Or.inl ⟨by rfl, ?hy41⟩) (by assumption) ?ty41
          case hy41 => (intro w hSw; (try dsimp only at hSw); go_simp; all_goals with_reducible rfl)
          simp only [Act.put, List.getElem_toArray, List.getElem_cons_zero, List.getElem_cons_succ, List.setIfInBounds_toArray, List.set_cons_zero, List.set_cons_succ]
          refine wpAnyH_take (i := 11) (v := ?_) rfl (by kernel_rfl) (by kernel_rfl) (by kernel_rfl) (fun _ _ _ h => h) (Or.inl ⟨by rfl, ?hy42⟩) (by assumption) ?ty42
          case hy42 => (intro w hSw; (try dsimp only at hSw); go_simp; all_goals with_reducible rfl)
          simp only [Act.put, List.getElem_toArray, List.getElem_cons_zero, List.getElem_cons_succ, List.setIfInBounds_toArray, List.set_cons_zero, List.set_cons_succ]
          refine wpAnyH_take (i := 12) (v := .bool true) rfl (by kernel_rfl) (by kernel_rfl) (by kernel_rfl) (fun _ _ _ h => h) (Or.inl ⟨by rfl, ?hy43⟩) (by assumption) ?ty43
          case hy43 => (intro w hSw; (try dsimp only at hSw); go_simp; first | (simp; done) | (all_goals with_reducible rfl))
          simp only [Act.put, List.getElem_toArray, List.getElem_cons_zero, List.getElem_cons_succ, List.setIfInBounds_toArray, List.set_cons_zero, List.set_cons_succ]
          refine wpAnyH_take (i := 13) (v := ?_) rfl (by kernel_rfl) (by kernel_rfl) (by kernel_rfl) (fun _ _ _ h => h) (Or.inl ⟨by rfl, ?hy44⟩) (by assumption) ?ty44
          case hy44 => (intro w hSw; (try dsimp only at hSw); go_simp; all_goals with_reducible rfl)
          simp only [Act.put, List.getElem_toArray, List.getElem_cons_zero, List.getElem_cons_succ, List.setIfInBounds_toArray, List.set_cons_zero, List.set_cons_succ]
          refine wpAnyH_take (i := 14) (v := undef) rfl (by kernel_rfl) (by kernel_rfl) (by kernel_rfl) (fun _ _ _ h => h) (Or.inr ⟨by rfl, rfl⟩) (by assumption) ?_
          simp only [Act.put, List.getElem_toArray, List.getElem_cons_zero, List.getElem_cons_succ, List.setIfInBounds_toArray, List.set_cons_zero, List.set_cons_succ]
          refine wpAnyH_take (i := 15) (v := undef) rfl (by kernel_rfl) (by kernel_rfl) (by kernel_rfl) (fun _ _ _ h => h) (Or.inr ⟨by rfl, rfl⟩) (by assumption) ?_
          simp only [Act.put, List.getElem_toArray, List.getElem_cons_zero, List.getElem_cons_succ, List.setIfInBounds_toArray, List.set_cons_zero, List.set_cons_succ]
          refine wpAnyH_take (i := 16) (v := undef) rfl (by kernel_rfl) (by kernel_rfl) (by kernel_rfl) (fun _ _ _ h => h) (Or.inr ⟨by rfl, rfl⟩) (by assumption) ?_
          simp only [Act.put, List.getElem_toArray, List.getElem_cons_zero, List.getElem_cons_succ, List.setIfInBounds_toArray, List.set_cons_zero, List.set_cons_succ]
          refine wpAnyH_take (i := 17) (v := undef) rfl (by kernel_rfl) (by kernel_rfl) (by kernel_rfl) (fun _ _ _ h => h) (Or.inr ⟨by rfl, rfl⟩) (by assumption) ?_
          simp only [Act.put, List.getElem_toArray, List.getElem_cons_zero, List.getElem_cons_succ, List.setIfInBounds_toArray, List.set_cons_zero, List.set_cons_succ]
          refine wpAnyH_take (i := 18) (v := ?_) rfl (by kernel_rfl) (by kernel_rfl) (by kernel_rfl) (fun _ _ _ h => h) (Or.inl ⟨by rfl, ?hy45⟩) (by assumption) ?ty45
          case hy45 => (intro w hSw; (try dsimp only at hSw); go_simp; all_goals with_reducible rfl)
          simp only [Act.put, List.getElem_toArray, List.getElem_cons_zero, List.getElem_cons_succ, List.setIfInBounds_toArray, List.set_cons_zero, List.set_cons_succ]
          refine wpAnyH_take (i := 19) (v := ?_) rfl (by kernel_rfl) (by kernel_rfl) (by kernel_rfl) (fun _ _ _ h => h) (Or.inl ⟨by rfl, ?hy46⟩) (by assumption) ?ty46
          case hy46 => (intro w hSw; (try dsimp only at hSw); go_simp; all_goals with_reducible rfl)
          simp only [Act.put, List.getElem_toArray, List.getElem_cons_zero, List.getElem_cons_succ, List.setIfInBounds_toArray, List.set_cons_zero, List.set_cons_succ]
          refine wpAnyH_take (i := 20) (v := ?_) rfl (by kernel_rfl) (by kernel_rfl) (by kernel_rfl) (fun _ _ _ h => h) (Or.inl ⟨by rfl, ?hy47⟩) (by assumption) ?ty47
          case hy47 => (intro w hSw; (try dsimp only at hSw); go_simp; all_goals with_reducible rfl)
          simp only [Act.put, List.getElem_toArray, List.getElem_cons_zero, List.getElem_cons_succ, List.setIfInBounds_toArray, List.set_cons_zero, List.set_cons_succ]
          refine wpAnyH_take (i := 21) (v := ?_) rfl (by kernel_rfl) (by kernel_rfl) (by kernel_rfl) (fun _ _ _ h => h) (Or.inl ⟨by rfl, ?hy48⟩) (by assumption) ?ty48
          case hy48 => (intro w hSw; (try dsimp only at hSw); go_simp; all_goals with_reducible rfl)
          simp only [Act.put, List.getElem_toArray, List.getElem_cons_zero, List.getElem_cons_succ, List.setIfInBounds_toArray, List.set_cons_zero, List.set_cons_succ]
          refine wpAnyH_take (i := 22) (v := ?_) rfl (by kernel_rfl) (by kernel_rfl) (by kernel_rfl) (fun _ _ _ h => h) (Or.inl ⟨by rfl, ?hy49⟩) (by assumption) ?ty49
          case hy49 => (intro w hSw; (try dsimp only at hSw); go_simp; all_goals with_reducible rfl)
          simp only [Act.put, List.getElem_toArray, List.getElem_cons_zero, List.getElem_cons_succ, List.setIfInBounds_toArray, List.set_cons_zero, List.set_cons_succ]
          refine wpAnyH_take (i := 23) (v := ?_) rfl (by kernel_rfl) (by kernel_rfl) (by kernel_rfl) (fun _ _ _ h => h) (Or.inl ⟨by rfl, ?hy50⟩) (by assumption) ?ty50
          case hy50 => (intro w hSw; (try dsimp only at hSw); go_simp; all_goals with_reducible rfl)
          simp only [Act.put, List.getElem_toArray, List.getElem_cons_zero, List.getElem_cons_succ, List.setIfInBounds_toArray, List.set_cons_zero, List.set_cons_succ]
          refine wpAnyH_ready (rs := [24]) (by kernel_rfl) (by simp) ?_
          refine AllReadyH.cons rfl (fun K hK => ?_) AllReadyH.nil
          go_simp
          refine (HES.out _ (by exact hs6.below HZ_z1.out)).mono ?_
          rintro e z2 ⟨rfl, hbx⟩
          have HZ_z2 : Hid (Below Y.heap.size Y z2) := HZ_z1.out.trans (hbx.mono HZ_z1.out.size)
          refine hK.out _ _ ⟨(HZ_z2.out.cell (p := ⟨g6, 1, none⟩) m6).trans r1, (HZ_z2.out.cell (p := ⟨g7, 0, none⟩) m7).trans i0, (HZ_z2.out.cell (p := ⟨g7, 1, none⟩) m7).trans i1⟩ (fun hHeld => ?_)
          clear hK K
          clear hbx
          refine wpAnyH_take (i := 25) (v := ?_) rfl (by kernel_rfl) (by kernel_rfl) (by kernel_rfl) (fun _ _ _ h => h) (Or.inl ⟨by rfl, ?hy51⟩) (by assumption) ?ty51
          case hy51 => (intro w hSw; (try dsimp only at hSw); go_simp; all_goals with_reducible rfl)
          simp only [Act.put, List.getElem_toArray, List.getElem_cons_zero, List.getElem_cons_succ, List.setIfInBounds_toArray, List.set_cons_zero, List.set_cons_succ]
          refine wpAnyH_take (i := 26) (v := .bool true) rfl (by kernel_rfl) (by kernel_rfl) (by kernel_rfl) (fun _ _ _ h => h) (Or.inl ⟨by rfl, ?hy52⟩) (by assumption) ?ty52
          case hy52 => (intro w hSw; (try dsimp only at hSw); go_simp; first | (simp; done) | (all_goals with_reducible rfl))
          simp only [Act.put, List.getElem_toArray, List.getElem_cons_zero, List.getElem_cons_succ, List.setIfInBounds_toArray, List.set_cons_zero, List.set_cons_succ]
          refine wpAnyH_take (i := 27) (v := ?_) rfl (by kernel_rfl) (by kernel_rfl) (by kernel_rfl) (fun _ _ _ h => h) (Or.inl ⟨by rfl, ?hy53⟩) (by assumption) ?ty53
          case hy53 => (intro w hSw; (try dsimp only at hSw); go_simp; all_goals with_reducible rfl)
          simp only [Act.put, List.getElem_toArray, List.getElem_cons_zero, List.getElem_cons_succ, List.setIfInBounds_toArray, List.set_cons_zero, List.set_cons_succ]
          refine wpAnyH_take (i := 28) (v := ?_) rfl (by kernel_rfl) (by kernel_rfl) (by kernel_rfl) (fun _ _ _ h => h) (Or.inl ⟨by rfl, ?hy54⟩) (by assumption) ?ty54
          case hy54 => (intro w hSw; (try dsimp only at hSw); go_simp; all_goals with_reducible rfl)
          simp only [Act.put, List.getElem_toArray, List.getElem_cons_zero, List.getElem_cons_succ, List.setIfInBounds_toArray, List.set_cons_zero, List.set_cons_succ]
          refine wpAnyH_done (by kernel_rfl) ?_ _
          have HF : Hid (Below w.heap.size w z2) := HB6.out.trans (HZ_z2.out.mono HB6.out.size)
          clear hHeld HZ_z1 HZ_z2 HES HB6
          go_wp2
          go_ret
          exact ⟨rfl, HF.out⟩
        · have he1 := str_fullW hemp
          refine wp_region_held_drew (S := fun w' => w'.cell? ⟨g6, 1, none⟩ = some (.string (str et)) ∧ w'.cell? ⟨g7, 0, none⟩ = some (.int .i64 0) ∧ w'.cell? ⟨g7, 1, none⟩ = some (.slice b6 m c6)) (by kernel_rfl) ?hS55 (fun hHeld => ?_)
          case hS55 => exact ⟨r1, i0, i1⟩
          refine wpAnyH_take (i := 0) (v := ?_) rfl (by kernel_rfl) (by kernel_rfl) (by kernel_rfl) (fun _ _ _ h => h) (Or.inl ⟨by rfl, ?hy56⟩) (by assumption) ?ty56
          case hy56 => (intro w hSw; (try dsimp only at hSw); go_simp; all_goals with_reducible rfl)
          simp only [Act.put, List.getElem_toArray, List.getElem_cons_zero, List.setIfInBounds_toArray, List.set_cons_zero, List.set_cons_succ]
          refine wpAnyH_take (i := 1) (v := ?_) rfl (by kernel_rfl) (by kernel_rfl) (by kernel_rfl) (fun _ _ _ h => h) (Or.inl ⟨by rfl, ?hy57⟩) (by assumption) ?ty57
          case hy57 => (intro w hSw; (try dsimp only at hSw); go_simp; all_goals with_reducible rfl)
          simp only [Act.put, List.getElem_toArray, List.getElem_cons_zero, List.getElem_cons_succ, List.setIfInBounds_toArray, List.set_cons_zero, List.set_cons_succ]
          refine wpAnyH_take (i := 2) (v := .bool true) rfl (by kernel_rfl) (by kernel_rfl) (by kernel_rfl) (fun _ _ _ h => h) (Or.inl ⟨by rfl, ?hy58⟩) (by assumption) ?ty58
          case hy58 => (intro w hSw; (try dsimp only at hSw); go_simp; first | (simp; done) | (all_goals with_reducible rfl))
          simp only [Act.put, List.getElem_toArray, List.getElem_cons_zero, List.getElem_cons_succ, List.setIfInBounds_toArray, List.set_cons_zero, List.set_cons_succ]
          refine wpAnyH_take (i := 3) (v := ?_) rfl (by kernel_rfl) (by kernel_rfl) (by kernel_rfl) (fun _ _ _ h => h) (Or.inl ⟨by rfl, ?hy59⟩) (by assumption) ?ty59
          case hy59 => (intro w hSw; (try dsimp only at hSw); go_simp; all_goals with_reducible rfl)
          simp only [Act.put, List.getElem_toArray, List.getElem_cons_zero, List.getElem_cons_succ, List.setIfInBounds_toArray, List.set_cons_zero, List.set_cons_succ]
          refine wpAnyH_take (i := 4) (v := ?_) rfl (by kernel_rfl) (by kernel_rfl) (by kernel_rfl) (fun _ _ _ h => h) (Or.inl ⟨by rfl, ?hy60⟩) (by assumption) ?ty60
          case hy60 => (intro w hSw; (try dsimp only at hSw); go_simp; all_goals with_reducible rfl)
          simp only [Act.put, List.getElem_toArray, List.getElem_cons_zero, List.getElem_cons_succ, List.setIfInBounds_toArray, List.set_cons_zero, List.set_cons_succ]
          refine wpAnyH_take (i := 5) (v := ?_) rfl (by kernel_rfl) (by kernel_rfl) (by kernel_rfl) (fun _ _ _ h => h) (Or.inl ⟨by rfl, ?hy61⟩) (by assumption) ?ty61
          case hy61 => (intro w hSw; (try dsimp only at hSw); go_simp; all_goals with_reducible rfl)
          simp only [Act.put, List.getElem_toArray, List.getElem_cons_zero, List.getElem_cons_succ, List.setIfInBounds_toArray, List.set_cons_zero, List.set_cons_succ]
          refine wpAnyH_take (i := 6) (v := ?_) rfl (by kernel_rfl) (by kernel_rfl) (by kernel_rfl) (fun _ _ _ h => h) (Or.inl ⟨by rfl, ?hy62⟩) (by assumption) ?ty62
          case hy62 => (intro w hSw; (try dsimp only at hSw); go_simp; all_goals with_reducible rfl)
          simp only [Act.put, List.getElem_toArray, List.getElem_cons_zero, List.getElem_cons_succ, List.setIfInBounds_toArray, List.set_cons_zero, List.set_cons_succ]
          refine wpAnyH_ready (rs := [7]) (by kernel_rfl) (by simp) ?_
          refine AllReadyH.cons rfl (fun K hK => ?_) AllReadyH.nil
          go_simp
          refine (HLN.out _ _ _ (by exact hd6) (by exact hs6)).mono ?_
          rintro e z1 ⟨rfl, hbx⟩
          have HZ_z1 : Hid (Below Y.heap.size Y z1) := (Below.refl _ _).drew.trans hbx
          refine hK.out _ _ ⟨(HZ_z1.out.cell (p := ⟨g6, 1, none⟩) m6).trans r1, (HZ_z1.out.cell (p := ⟨g7, 0, none⟩) m7).trans i0, (HZ_z1.out.cell (p := ⟨g7, 1, none⟩) m7).trans i1⟩ (fun hHeld => ?_)
          clear hK K
          clear hbx
          refine wpAnyH_take (i := 8) (v := ?_) rfl (by kernel_rfl) (by kernel_rfl) (by kernel_rfl) (fun _ _ _ h => h) (Or.inl ⟨by rfl, ?hy63⟩) (by assumption) ?ty63
          case hy63 => (intro w hSw; (try dsimp only at hSw); go_simp; all_goals with_reducible rfl)
          simp only [Act.put, List.getElem_toArray, List.getElem_cons_zero, List.getElem_cons_succ, List.setIfInBounds_toArray, List.set_cons_zero, List.set_cons_succ]
          refine wpAnyH_take (i := 9) (v := ?_) rfl (by kernel_rfl) (by kernel_rfl) (by kernel_rfl) (fun _ _ _ h => h) (Or.inl ⟨by rfl, ?hy64⟩) (by assumption) ?ty64
          case hy64 => (intro w hSw; (try dsimp only at hSw); go_simp; all_goals with_reducible rfl)
          simp only [Act.put, List.getElem_toArray, List.getElem_cons_zero, List.getElem_cons_succ, List.setIfInBounds_toArray, List.set_cons_zero, List.set_cons_succ]
          refine wpAnyH_take (i := 10) (v := ?_) rfl (by kernel_rfl) (by kernel_rfl) (by kernel_rfl) (fun _ _ _ h => h) (Or.inl ⟨by rfl, ?hy65⟩) (by assumption) ?ty65
          case hy65 => (intro w hSw; (try dsimp only at hSw); go_simp; all_goals with_reducible rfl)
          simp only [Act.put, List.getElem_toArray, List.getElem_cons_zero, List.getElem_cons_succ, List.setIfInBounds_toArray, List.set_cons_zero, List.set_cons_succ]
          refine wpAnyH_take (i := 11) (v := ?_) rfl (by kernel_rfl) (by kernel_rfl) (by kernel_rfl) (fun _ _ _ h => h) (Or.inl ⟨by rfl, ?hy66⟩) (by assumption) ?ty66
          case hy66 => (intro w hSw; (try dsimp only at hSw); go_simp; all_goals with_reducible rfl)
          simp only [Act.put, List.getElem_toArray, List.getElem_cons_zero, List.getElem_cons_succ, List.setIfInBounds_toArray, List.set_cons_zero, List.set_cons_succ]
          refine wpAnyH_take (i := 12) (v := .bool false) rfl (by kernel_rfl) (by kernel_rfl) (by kernel_rfl) (fun _ _ _ h => h) (Or.inl ⟨by rfl, ?hy67⟩) (by assumption) ?ty67
          case hy67 => (intro w hSw; (try dsimp only at hSw); go_simp; first | (simp; done) | (all_goals with_reducible rfl))
          simp only [Act.put, List.getElem_toArray, List.getElem_cons_zero, List.getElem_cons_succ, List.setIfInBounds_toArray, List.set_cons_zero, List.set_cons_succ]
          refine wpAnyH_take (i := 13) (v := ?_) rfl (by kernel_rfl) (by kernel_rfl) (by kernel_rfl) (fun _ _ _ h => h) (Or.inl ⟨by rfl, ?hy68⟩) (by assumption) ?ty68
          case hy68 => (intro w hSw; (try dsimp only at hSw); go_simp; all_goals with_reducible rfl)
          simp only [Act.put, List.getElem_toArray, List.getElem_cons_zero, List.getElem_cons_succ, List.setIfInBounds_toArray, List.set_cons_zero, List.set_cons_succ]
          refine wpAnyH_take (i := 14) (v := ?_) rfl (by kernel_rfl) (by kernel_rfl) (by kernel_rfl) (fun _ _ _ h => h) (Or.inl ⟨by rfl, ?hy69⟩) (by assumption) ?ty69
          case hy69 => (intro w hSw; (try dsimp only at hSw); go_simp; all_goals with_reducible rfl)
          simp only [Act.put, List.getElem_toArray, List.getElem_cons_zero, List.getElem_cons_succ, List.setIfInBounds_toArray, List.set_cons_zero, List.set_cons_succ]
          refine wpAnyH_take (i := 15) (v := ?_) rfl (by kernel_rfl) (by kernel_rfl) (by kernel_rfl) (fun _ _ _ h => h) (Or.inl ⟨by rfl, ?hy70⟩) (by assumption) ?ty70
          case hy70 => (intro w hSw; (try dsimp only at hSw); go_simp; all_goals with_reducible rfl)
          simp only [Act.put, List.getElem_toArray, List.getElem_cons_zero, List.getElem_cons_succ, List.setIfInBounds_toArray, List.set_cons_zero, List.set_cons_succ]
          have hbC : ∀ cp fr, Below Y.heap.size Y (z1.alloc (.cells (bytesRow (str et) cp) 5 fr)) := fun cp fr => HZ_z1.out.alloc HZ_z1.out.size _
          refine wpAnyH_ready (rs := [16]) (by kernel_rfl) (by simp) ?_
          refine AllReadyH.cons rfl (fun K hK => ?_) AllReadyH.nil
          go_simp
          refine hK.out _ _ ⟨((hbC _ _).cell (p := ⟨g6, 1, none⟩) m6).trans r1, ((hbC _ _).cell (p := ⟨g7, 0, none⟩) m7).trans i0, ((hbC _ _).cell (p := ⟨g7, 1, none⟩) m7).trans i1⟩ (fun hHeld => ?_)
          clear hK K
          refine wpAnyH_ready (rs := [17]) (by kernel_rfl) (by simp) ?_
          refine AllReadyH.cons rfl (fun K hK => ?_) AllReadyH.nil
          go_simp
          refine (HIP.out _ _ _ (by exact hrdB _ _ _)).mono ?_
          rintro e z3 ⟨rfl, hw3⟩
          have HZ_z3 : Hid (Below Y.heap.size Y z3) := by rw [hw3]; exact (hbC _ _).drew
          clear hw3
          refine hK.out _ _ ⟨(HZ_z3.out.cell (p := ⟨g6, 1, none⟩) m6).trans r1, (HZ_z3.out.cell (p := ⟨g7, 0, none⟩) m7).trans i0, (HZ_z3.out.cell (p := ⟨g7, 1, none⟩) m7).trans i1⟩ (fun hHeld => ?_)
          clear hK K
          refine wpAnyH_take (i := 18) (v := ?_) rfl (by kernel_rfl) (by kernel_rfl) (by kernel_rfl) (fun _ _ _ h => h) (Or.inl ⟨by rfl, ?hy71⟩) (by assumption) ?ty71
          case hy71 => (intro w hSw; (try dsimp only at hSw); go_simp; all_goals with_reducible rfl)
          simp only [Act.put, List.getElem_toArray, List.getElem_cons_zero, List.getElem_cons_succ, List.setIfInBounds_toArray, List.set_cons_zero, List.set_cons_succ]
          refine wpAnyH_take (i := 19) (v := ?_) rfl (by kernel_rfl) (by kernel_rfl) (by kernel_rfl) (fun _ _ _ h => h) (Or.inl ⟨by rfl, ?hy72⟩) (by assumption) ?ty72
          case hy72 => (intro w hSw; (try dsimp only at hSw); go_simp; all_goals with_reducible rfl)
          simp only [Act.put, List.getElem_toArray, List.getElem_cons_zero, List.getElem_cons_succ, List.setIfInBounds_toArray, List.set_cons_zero, List.set_cons_succ]
          refine wpAnyH_take (i := 20) (v := ?_) rfl (by kernel_rfl) (by kernel_rfl) (by kernel_rfl) (fun _ _ _ h => h) (Or.inl ⟨by rfl, ?hy73⟩) (by assumption) ?ty73
          case hy73 => (intro w hSw; (try dsimp only at hSw); go_simp; all_goals with_reducible rfl)
          simp only [Act.put, List.getElem_toArray, List.getElem_cons_zero, List.getElem_cons_succ, List.setIfInBounds_toArray, List.set_cons_zero, List.set_cons_succ]
          refine wpAnyH_take (i := 21) (v := ?_) rfl (by kernel_rfl) (by kernel_rfl) (by kernel_rfl) (fun _ _ _ h => h) (Or.inl ⟨by rfl, ?hy74⟩) (by assumption) ?ty74
          case hy74 => (intro w hSw; (try dsimp only at hSw); go_simp; all_goals with_reducible rfl)
          simp only [Act.put, List.getElem_toArray, List.getElem_cons_zero, List.getElem_cons_succ, List.setIfInBounds_toArray, List.set_cons_zero, List.set_cons_succ]
          refine wpAnyH_take (i := 22) (v := ?_) rfl (by kernel_rfl) (by kernel_rfl) (by kernel_rfl) (fun _ _ _ h => h) (Or.inl ⟨by rfl, ?hy75⟩) (by assumption) ?ty75
          case hy75 => (intro w hSw; (try dsimp only at hSw); go_simp; all_goals with_reducible rfl)
          simp only [Act.put, List.getElem_toArray, List.getElem_cons_zero, List.getElem_cons_succ, List.setIfInBounds_toArray, List.set_cons_zero, List.set_cons_succ]
          refine wpAnyH_take (i := 23) (v := ?_) rfl (by kernel_rfl) (by kernel_rfl) (by kernel_rfl) (fun _ _ _ h => h) (Or.inl ⟨by rfl, ?hy76⟩) (by assumption) ?ty76
          case hy76 => (intro w hSw; (try dsimp only at hSw); go_simp; all_goals with_reducible rfl)
          simp only [Act.put, List.getElem_toArray, List.getElem_cons_zero, List.getElem_cons_succ, List.setIfInBounds_toArray, List.set_cons_zero, List.set_cons_succ]
          refine wpAnyH_ready (rs := [24]) (by kernel_rfl) (by simp) ?_
          refine AllReadyH.cons rfl (fun K hK => ?_) AllReadyH.nil
          go_simp
          refine (HES.out _ (by exact hs6.below HZ_z3.out)).mono ?_
          rintro e z4 ⟨rfl, hbx⟩
          have HZ_z4 : Hid (Below Y.heap.size Y z4) := HZ_z3.out.trans (hbx.mono HZ_z3.out.size)
          refine hK.out _ _ ⟨(HZ_z4.out.cell (p := ⟨g6, 1, none⟩) m6).trans r1, (HZ_z4.out.cell (p := ⟨g7, 0, none⟩) m7).trans i0, (HZ_z4.out.cell (p := ⟨g7, 1, none⟩) m7).trans i1⟩ (fun hHeld => ?_)
          clear hK K
          clear hbx
          refine wpAnyH_take (i := 25) (v := ?_) rfl (by kernel_rfl) (by kernel_rfl) (by kernel_rfl) (fun _ _ _ h => h) (Or.inl ⟨by rfl, ?hy77⟩) (by assumption) ?ty77
          case hy77 => (intro w hSw; (try dsimp only at hSw); go_simp; all_goals with_reducible rfl)
          simp only [Act.put, List.getElem_toArray, List.getElem_cons_zero, List.getElem_cons_succ, List.setIfInBounds_toArray, List.set_cons_zero, List.set_cons_succ]
          refine wpAnyH_take (i := 26) (v := .bool true) rfl (by kernel_rfl) (by kernel_rfl) (by kernel_rfl) (fun _ _ _ h => h) (Or.inl ⟨by rfl, ?hy78⟩) (by assumption) ?ty78
          case hy78 => (intro w hSw; (try dsimp only at hSw); go_simp; first | (simp; done) | (all_goals with_reducible rfl))
          simp only [Act.put, List.getElem_toArray, List.getElem_cons_zero, List.getElem_cons_succ, List.setIfInBounds_toArray, List.set_cons_zero, List.set_cons_succ]
          refine wpAnyH_take (i := 27) (v := ?_) rfl (by kernel_rfl) (by kernel_rfl) (by kernel_rfl) (fun _ _ _ h => h) (Or.inl ⟨by rfl, ?hy79⟩) (by assumption) ?ty79
          case hy79 => (intro w hSw; (try dsimp only at hSw); go_simp; all_goals with_reducible rfl)
          simp only [Act.put, List.getElem_toArray, List.getElem_cons_zero, List.getElem_cons_succ, List.setIfInBounds_toArray, List.set_cons_zero, List.set_cons_succ]
          refine wpAnyH_take (i := 28) (v := ?_) rfl (by kernel_rfl) (by kernel_rfl) (by kernel_rfl) (fun _ _ _ h => h) (Or.inl ⟨by rfl, ?hy80⟩) (by assumption) ?ty80
          case hy80 => (intro w hSw; (try dsimp only at hSw); go_simp; all_goals with_reducible rfl)
          simp only [Act.put, List.getElem_toArray, List.getElem_cons_zero, List.getElem_cons_succ, List.setIfInBounds_toArray, List.set_cons_zero, List.set_cons_succ]
          refine wpAnyH_done (by kernel_rfl) ?_ _
          have HF : Hid (Below w.heap.size w z4) := HB6.out.trans (HZ_z4.out.mono HB6.out.size)
          clear hHeld HZ_z1 HZ_z3 HZ_z4 HES HB6
          go_wp2
          go_ret
          exact ⟨rfl, HF.out⟩
      · have en : (e0 != 0) = true := by simp; omega
        clear HBK HPL
        go_wp2_with fail
        generalize w4.alloc (.cells #[.int .i64 e0, .string (str et)] 33) = V at *
        generalize w4.heap.size = g6 at *
        have hg6 : g6 < V.heap.size := by omega
        refine wp_region_held_drew (S := fun w' => w'.cell? ⟨g6, 0, none⟩ = some (.int .i64 e0)) (by kernel_rfl) ?hS24 (fun hHeld => ?_)
        case hS24 => exact q0
        refine wpAnyH_take (i := 0) (v := ?_) rfl (by kernel_rfl) (by kernel_rfl) (by kernel_rfl) (fun _ _ _ h => h) (Or.inl ⟨by rfl, ?hy25⟩) (by assumption) ?ty25
        case hy25 => (intro w hSw; (try dsimp only at hSw); go_simp; all_goals with_reducible rfl)
        simp only [Act.put, List.getElem_toArray, List.getElem_cons_zero, List.setIfInBounds_toArray, List.set_cons_zero, List.set_cons_succ]
        refine wpAnyH_take (i := 3) (v := ?_) rfl (by kernel_rfl) (by kernel_rfl) (by kernel_rfl) (fun _ _ _ h => h) (Or.inl ⟨by rfl, ?hy26⟩) (by assumption) ?ty26
        case hy26 => (intro w hSw; (try dsimp only at hSw); go_simp; all_goals with_reducible rfl)
        simp only [Act.put, List.getElem_toArray, List.getElem_cons_zero, List.getElem_cons_succ, List.setIfInBounds_toArray, List.set_cons_zero, List.set_cons_succ]
        refine wpAnyH_take (i := 4) (v := ?_) rfl (by kernel_rfl) (by kernel_rfl) (by kernel_rfl) (fun _ _ _ h => h) (Or.inl ⟨by rfl, ?hy27⟩) (by assumption) ?ty27
        case hy27 => (intro w hSw; (try dsimp only at hSw); go_simp; all_goals with_reducible rfl)
        simp only [Act.put, List.getElem_toArray, List.getElem_cons_zero, List.getElem_cons_succ, List.setIfInBounds_toArray, List.set_cons_zero, List.set_cons_succ]
        refine wpAnyH_ready (rs := [1]) (by kernel_rfl) (by simp) ?_
        refine AllReadyH.cons rfl (fun K hK => ?_) AllReadyH.nil
        go_simp
        refine (HES.out _ (by exact hs4)).mono ?_
        rintro e z1 ⟨rfl, hbx⟩
        have HZ : Hid (Below V.heap.size V z1) := (Below.refl _ _).drew.trans hbx
        have hsS := (HZ.out.cell (p := ⟨g6, 0, none⟩) hg6).trans q0
        refine hK.out _ _ hsS (fun hHeld => ?_)
        clear hK K
        clear hbx hsS
        refine wpAnyH_take (i := 2) (v := ?_) rfl (by kernel_rfl) (by kernel_rfl) (by kernel_rfl) (fun _ _ _ h => h) (Or.inl ⟨by rfl, ?hy28⟩) (by assumption) ?ty28
        case hy28 => (intro w hSw; (try dsimp only at hSw); go_simp; all_goals with_reducible rfl)
        simp only [Act.put, List.getElem_toArray, List.getElem_cons_zero, List.getElem_cons_succ, List.setIfInBounds_toArray, List.set_cons_zero, List.set_cons_succ]
        refine wpAnyH_take (i := 5) (v := .bool true) rfl (by kernel_rfl) (by kernel_rfl) (by kernel_rfl) (fun _ _ _ h => h) (Or.inl ⟨by rfl, ?hy29⟩) (by assumption) ?ty29
        case hy29 => (intro w hSw; (try dsimp only at hSw); go_simp; first | (simp; done) | (all_goals with_reducible rfl))
        simp only [Act.put, List.getElem_toArray, List.getElem_cons_zero, List.getElem_cons_succ, List.setIfInBounds_toArray, List.set_cons_zero, List.set_cons_succ]
        refine wpAnyH_take (i := 6) (v := ?_) rfl (by kernel_rfl) (by kernel_rfl) (by kernel_rfl) (fun _ _ _ h => h) (Or.inl ⟨by rfl, ?hy30⟩) (by assumption) ?ty30
        case hy30 => (intro w hSw; (try dsimp only at hSw); go_simp; all_goals with_reducible rfl)
        simp only [Act.put, List.getElem_toArray, List.getElem_cons_zero, List.getElem_cons_succ, List.setIfInBounds_toArray, List.set_cons_zero, List.set_cons_succ]
        refine wpAnyH_done (by kernel_rfl) ?_ _
        have HF : Hid (Below w.heap.size w z1) := HB4.out.trans (HZ.out.mono HB4.out.size)
        clear hHeld HZ HES HB4
        go_wp2
        go_ret
        exact ⟨rfl, HF.out⟩
    · have ee0 : (d0 == 0) = false := by simp; omega
      refine wp_region_held_drew (S := fun w' => w'.cell? ⟨g, 0, none⟩ = some (.int .i64 d0) ∧ w'.cell? ⟨g, 1, none⟩ = some (.slice b2 N c2)) (by kernel_rfl) ?hS81 (fun hHeld => ?_)
      case hS81 => exact ⟨k0, k1⟩
      refine wpAnyH_take (i := 0) (v := ?_) rfl (by kernel_rfl) (by kernel_rfl) (by kernel_rfl) (fun _ _ _ h => h) (Or.inl ⟨by rfl, ?hy82⟩) (by assumption) ?ty82
      case hy82 => (intro w hSw; (try dsimp only at hSw); go_simp; all_goals with_reducible rfl)
      simp only [Act.put, List.getElem_toArray, List.getElem_cons_zero, List.setIfInBounds_toArray, List.set_cons_zero, List.set_cons_succ]
      refine wpAnyH_take (i := 1) (v := ?_) rfl (by kernel_rfl) (by kernel_rfl) (by kernel_rfl) (fun _ _ _ h => h) (Or.inl ⟨by rfl, ?hy83⟩) (by assumption) ?ty83
      case hy83 => (intro w hSw; (try dsimp only at hSw); go_simp; all_goals with_reducible rfl)
      simp only [Act.put, List.getElem_toArray, List.getElem_cons_zero, List.getElem_cons_succ, List.setIfInBounds_toArray, List.set_cons_zero, List.set_cons_succ]
      refine wpAnyH_take (i := 2) (v := ?_) rfl (by kernel_rfl) (by kernel_rfl) (by kernel_rfl) (fun _ _ _ h => h) (Or.inl ⟨by rfl, ?hy84⟩) (by assumption) ?ty84
      case hy84 => (intro w hSw; (try dsimp only at hSw); go_simp; all_goals with_reducible rfl)
      simp only [Act.put, List.getElem_toArray, List.getElem_cons_zero, List.getElem_cons_succ, List.setIfInBounds_toArray, List.set_cons_zero, List.set_cons_succ]
      refine wpAnyH_ready (rs := [3]) (by kernel_rfl) (by simp) ?_
      refine AllReadyH.cons rfl (fun K hK => ?_) AllReadyH.nil
      go_simp
      refine (HDS.out _).mono ?_
      rintro e y1 ⟨v3, rfl, hown3, hbx⟩
      simp only at hown3 ⊢
      obtain ⟨b3, c3, hv, -, -⟩ := hown3.form
      rw [HN.out] at hv
      rw [hv] at hown3 ⊢
      clear hv
      have HW_y1 : Hid (Below W.heap.size W y1) := (Below.refl _ _).drew.trans hbx
      have hsS : y1.cell? ⟨g, 0, none⟩ = some (.int .i64 d0) ∧ y1.cell? ⟨g, 1, none⟩ = some (.slice b2 N c2) := ⟨(HW_y1.out.cell (p := ⟨g, 0, none⟩) hgg).trans k0, (HW_y1.out.cell (p := ⟨g, 1, none⟩) hgg).trans k1⟩
      refine hK.out _ _ hsS (fun hHeld => ?_)
      clear hK K
      clear hsS
      clear hown3 hbx
      refine wpAnyH_take (i := 4) (v := ?_) rfl (by kernel_rfl) (by kernel_rfl) (by kernel_rfl) (fun _ _ _ h => h) (Or.inl ⟨by rfl, ?hy85⟩) (by assumption) ?ty85
      case hy85 => (intro w hSw; (try dsimp only at hSw); go_simp; all_goals with_reducible rfl)
      simp only [Act.put, List.getElem_toArray, List.getElem_cons_zero, List.getElem_cons_succ, List.setIfInBounds_toArray, List.set_cons_zero, List.set_cons_succ]
      refine wpAnyH_take (i := 5) (v := .bool false) rfl (by kernel_rfl) (by kernel_rfl) (by kernel_rfl) (fun _ _ _ h => h) (Or.inl ⟨by rfl, ?hy86⟩) (by assumption) ?ty86
      case hy86 => (intro w hSw; (try dsimp only at hSw); go_simp; first | (simp; done) | (all_goals with_reducible rfl))
      simp only [Act.put, List.getElem_toArray, List.getElem_cons_zero, List.getElem_cons_succ, List.setIfInBounds_toArray, List.set_cons_zero, List.set_cons_succ]
      refine wpAnyH_take (i := 6) (v := ?_) rfl (by kernel_rfl) (by kernel_rfl) (by kernel_rfl) (fun _ _ _ h => h) (Or.inl ⟨by rfl, ?hy87⟩) (by assumption) ?ty87
      case hy87 => (intro w hSw; (try dsimp only at hSw); go_simp; all_goals with_reducible rfl)
      simp only [Act.put, List.getElem_toArray, List.getElem_cons_zero, List.getElem_cons_succ, List.setIfInBounds_toArray, List.set_cons_zero, List.set_cons_succ]
      refine wpAnyH_take (i := 7) (v := ?_) rfl (by kernel_rfl) (by kernel_rfl) (by kernel_rfl) (fun _ _ _ h => h) (Or.inl ⟨by rfl, ?hy88⟩) (by assumption) ?ty88
      case hy88 => (intro w hSw; (try dsimp only at hSw); go_simp; all_goals with_reducible rfl)
      simp only [Act.put, List.getElem_toArray, List.getElem_cons_zero, List.getElem_cons_succ, List.setIfInBounds_toArray, List.set_cons_zero, List.set_cons_succ]
      refine wpAnyH_take (i := 8) (v := ?_) rfl (by kernel_rfl) (by kernel_rfl) (by kernel_rfl) (fun _ _ _ h => h) (Or.inl ⟨by rfl, ?hy89⟩) (by assumption) ?ty89
      case hy89 => (intro w hSw; (try dsimp only at hSw); go_simp; all_goals with_reducible rfl)
      simp only [Act.put, List.getElem_toArray, List.getElem_cons_zero, List.getElem_cons_succ, List.setIfInBounds_toArray, List.set_cons_zero, List.set_cons_succ]
      refine wpAnyH_take (i := 9) (v := ?_) rfl (by kernel_rfl) (by kernel_rfl) (by kernel_rfl) (fun _ _ _ h => h) (Or.inl ⟨by rfl, ?hy90⟩) (by assumption) ?ty90
      case hy90 => (intro w hSw; (try dsimp only at hSw); go_simp; all_goals with_reducible rfl)
      simp only [Act.put, List.getElem_toArray, List.getElem_cons_zero, List.getElem_cons_succ, List.setIfInBounds_toArray, List.set_cons_zero, List.set_cons_succ]
      refine wpAnyH_ready (rs := [10]) (by kernel_rfl) (by simp) ?_
      refine AllReadyH.cons rfl (fun K hK => ?_) AllReadyH.nil
      go_simp
      refine (HDS.out _).mono ?_
      rintro e y2 ⟨v3, rfl, hown3, hbx⟩
      simp only at hown3 ⊢
      obtain ⟨b3, c3, hv, -, -⟩ := hown3.form
      rw [HN.out] at hv
      rw [hv] at hown3 ⊢
      clear hv
      have HW_y2 : Hid (Below W.heap.size W y2) := HW_y1.out.trans (hbx.mono HW_y1.out.size)
      have hsS : y2.cell? ⟨g, 0, none⟩ = some (.int .i64 d0) ∧ y2.cell? ⟨g, 1, none⟩ = some (.slice b2 N c2) := ⟨(HW_y2.out.cell (p := ⟨g, 0, none⟩) hgg).trans k0, (HW_y2.out.cell (p := ⟨g, 1, none⟩) hgg).trans k1⟩
      refine hK.out _ _ hsS (fun hHeld => ?_)
      clear hK K
      clear hsS
      clear hbx
      refine wpAnyH_take (i := 11) (v := ?_) rfl (by kernel_rfl) (by kernel_rfl) (by kernel_rfl) (fun _ _ _ h => h) (Or.inl ⟨by rfl, ?hy91⟩) (by assumption) ?ty91
      case hy91 => (intro w hSw; (try dsimp only at hSw); go_simp; all_goals with_reducible rfl)
      simp only [Act.put, List.getElem_toArray, List.getElem_cons_zero, List.getElem_cons_succ, List.setIfInBounds_toArray, List.set_cons_zero, List.set_cons_succ]
      refine wpAnyH_ready (rs := [12]) (by kernel_rfl) (by simp) ?_
      refine AllReadyH.cons rfl (fun K hK => ?_) AllReadyH.nil
      go_simp
      refine (HLN.out _ _ _ _ _ (by exact hu2.below HW_y2.out) (by exact hown3.rd.2)).mono ?_
      rintro e y3 ⟨rfl, hbx⟩
      have HW_y3 : Hid (Below W.heap.size W y3) := HW_y2.out.trans (hbx.mono HW_y2.out.size)
      have hsS : y3.cell? ⟨g, 0, none⟩ = some (.int .i64 d0) ∧ y3.cell? ⟨g, 1, none⟩ = some (.slice b2 N c2) := ⟨(HW_y3.out.cell (p := ⟨g, 0, none⟩) hgg).trans k0, (HW_y3.out.cell (p := ⟨g, 1, none⟩) hgg).trans k1⟩
      refine hK.out _ _ hsS (fun hHeld => ?_)
      clear hK K
      clear hsS
      clear hbx hown3
      refine wpAnyH_take (i := 13) (v := ?_) rfl (by kernel_rfl) (by kernel_rfl) (by kernel_rfl) (fun _ _ _ h => h) (Or.inl ⟨by rfl, ?hy92⟩) (by assumption) ?ty92
      case hy92 => (intro w hSw; (try dsimp only at hSw); go_simp; all_goals with_reducible rfl)
      simp only [Act.put, List.getElem_toArray, List.getElem_cons_zero, List.getElem_cons_succ, List.setIfInBounds_toArray, List.set_cons_zero, List.set_cons_succ]
      refine wpAnyH_take (i := 14) (v := ?_) rfl (by kernel_rfl) (by kernel_rfl) (by kernel_rfl) (fun _ _ _ h => h) (Or.inl ⟨by rfl, ?hy93⟩) (by assumption) ?ty93
      case hy93 => (intro w hSw; (try dsimp only at hSw); go_simp; all_goals with_reducible rfl)
      simp only [Act.put, List.getElem_toArray, List.getElem_cons_zero, List.getElem_cons_succ, List.setIfInBounds_toArray, List.set_cons_zero, List.set_cons_succ]
      refine wpAnyH_take (i := 15) (v := ?_) rfl (by kernel_rfl) (by kernel_rfl) (by kernel_rfl) (fun _ _ _ h => h) (Or.inl ⟨by rfl, ?hy94⟩) (by assumption) ?ty94
      case hy94 => (intro w hSw; (try dsimp only at hSw); go_simp; all_goals with_reducible rfl)
      simp only [Act.put, List.getElem_toArray, List.getElem_cons_zero, List.getElem_cons_succ, List.setIfInBounds_toArray, List.set_cons_zero, List.set_cons_succ]
      refine wpAnyH_take (i := 16) (v := ?_) rfl (by kernel_rfl) (by kernel_rfl) (by kernel_rfl) (fun _ _ _ h => h) (Or.inl ⟨by rfl, ?hy95⟩) (by assumption) ?ty95
      case hy95 => (intro w hSw; (try dsimp only at hSw); go_simp; all_goals with_reducible rfl)
      simp only [Act.put, List.getElem_toArray, List.getElem_cons_zero, List.getElem_cons_succ, List.setIfInBounds_toArray, List.set_cons_zero, List.set_cons_succ]
      refine wpAnyH_take (i := 17) (v := ?_) rfl (by kernel_rfl) (by kernel_rfl) (by kernel_rfl) (fun _ _ _ h => h) (Or.inl ⟨by rfl, ?hy96⟩) (by assumption) ?ty96
      case hy96 => (intro w hSw; (try dsimp only at hSw); go_simp; all_goals with_reducible rfl)
      simp only [Act.put, List.getElem_toArray, List.getElem_cons_zero, List.getElem_cons_succ, List.setIfInBounds_toArray, List.set_cons_zero, List.set_cons_succ]
      refine wpAnyH_take (i := 18) (v := .bool false) rfl (by kernel_rfl) (by kernel_rfl) (by kernel_rfl) (fun _ _ _ h => h) (Or.inl ⟨by rfl, ?hy97⟩) (by assumption) ?ty97
      case hy97 => (intro w hSw; (try dsimp only at hSw); go_simp; first | (simp; done) | (all_goals with_reducible rfl))
      simp only [Act.put, List.getElem_toArray, List.getElem_cons_zero, List.getElem_cons_succ, List.setIfInBounds_toArray, List.set_cons_zero, List.set_cons_succ]
      refine wpAnyH_take (i := 19) (v := ?_) rfl (by kernel_rfl) (by kernel_rfl) (by kernel_rfl) (fun _ _ _ h => h) (Or.inl ⟨by rfl, ?hy98⟩) (by assumption) ?ty98
      case hy98 => (intro w hSw; (try dsimp only at hSw); go_simp; all_goals with_reducible rfl)
      simp only [Act.put, List.getElem_toArray, List.getElem_cons_zero, List.getElem_cons_succ, List.setIfInBounds_toArray, List.set_cons_zero, List.set_cons_succ]
      refine wpAnyH_take (i := 20) (v := undef) rfl (by kernel_rfl) (by kernel_rfl) (by kernel_rfl) (fun _ _ _ h => h) (Or.inr ⟨by rfl, rfl⟩) (by assumption) ?_
      simp only [Act.put, List.getElem_toArray, List.getElem_cons_zero, List.getElem_cons_succ, List.setIfInBounds_toArray, List.set_cons_zero, List.set_cons_succ]
      refine wpAnyH_take (i := 21) (v := undef) rfl (by kernel_rfl) (by kernel_rfl) (by kernel_rfl) (fun _ _ _ h => h) (Or.inr ⟨by rfl, rfl⟩) (by assumption) ?_
      simp only [Act.put, List.getElem_toArray, List.getElem_cons_zero, List.getElem_cons_succ, List.setIfInBounds_toArray, List.set_cons_zero, List.set_cons_succ]
      refine wpAnyH_take (i := 22) (v := undef) rfl (by kernel_rfl) (by kernel_rfl) (by kernel_rfl) (fun _ _ _ h => h) (Or.inr ⟨by rfl, rfl⟩) (by assumption) ?_
      simp only [Act.put, List.getElem_toArray, List.getElem_cons_zero, List.getElem_cons_succ, List.setIfInBounds_toArray, List.set_cons_zero, List.set_cons_succ]
      refine wpAnyH_take (i := 23) (v := undef) rfl (by kernel_rfl) (by kernel_rfl) (by kernel_rfl) (fun _ _ _ h => h) (Or.inr ⟨by rfl, rfl⟩) (by assumption) ?_
      simp only [Act.put, List.getElem_toArray, List.getElem_cons_zero, List.getElem_cons_succ, List.setIfInBounds_toArray, List.set_cons_zero, List.set_cons_succ]
      refine wpAnyH_take (i := 24) (v := ?_) rfl (by kernel_rfl) (by kernel_rfl) (by kernel_rfl) (fun _ _ _ h => h) (Or.inl ⟨by rfl, ?hy99⟩) (by assumption) ?ty99
      case hy99 => (intro w hSw; (try dsimp only at hSw); go_simp; all_goals with_reducible rfl)
      simp only [Act.put, List.getElem_toArray, List.getElem_cons_zero, List.getElem_cons_succ, List.setIfInBounds_toArray, List.set_cons_zero, List.set_cons_succ]
      refine wpAnyH_take (i := 25) (v := ?_) rfl (by kernel_rfl) (by kernel_rfl) (by kernel_rfl) (fun _ _ _ h => h) (Or.inl ⟨by rfl, ?hy100⟩) (by assumption) ?ty100
      case hy100 => (intro w hSw; (try dsimp only at hSw); go_simp; all_goals with_reducible rfl)
      simp only [Act.put, List.getElem_toArray, List.getElem_cons_zero, List.getElem_cons_succ, List.setIfInBounds_toArray, List.set_cons_zero, List.set_cons_succ]
      refine wpAnyH_done (by kernel_rfl) ?_ _
      have HBF : Hid (Below w.heap.size w y3) := HB2.out.trans (HW_y3.out.mono HB2.out.size)
      clear hHeld HW_y1 HW_y2 HW_y3  HB2 HDS HLN HCF hu2 k0 k1 hgg hsW
      generalize y3 = wE at HBF ⊢
      go_wp2_with fail
      refine (KT.out.de a n cap l _ hl (hr.below HBF.out) hB (by omega)).mono ?_
      rintro e w3 ⟨v3, s, rfl, ho3, hsl3, hb3⟩
      obtain ⟨ap, mc, hv, -, -⟩ := ho3.form
      obtain ⟨m, hm⟩ : ∃ m, s.length = m := ⟨_, rfl⟩
      have HSL : Hid (s.length = m) := hm
      rw [hm] at hsl3 hv
      subst hv
      clear hm
      have hrs := ho3.rd.2
      have HB3 : Hid (Below w.heap.size w w3) := HBF.out.trans (hb3.mono HBF.out.size)
      clear hb3 HBF ho3
      have HEI : Hid (_) := KT.out.ei ap m mc s w3 HSL.out hrs (by omega) (KT.out.below _ _ hT.out HB3.out)
      have HES : Hid (∀ w, RdI w ap s → Calls Tryz.prog 12 #[.slice ap m mc] w fun e w' => e = .returned (.agg #[.int .i64 (ew s).1, .string (str (ew s).2)]) ∧ Below w.heap.size w w') := fun w h => KT.out.es ap m mc s w HSL.out h (by omega)
      have HBK : Hid ((ew s).1 = 0 → dw (ew s).2 = (0, s)) := KT.out.back s
      have HPL : Hid (∀ x ∈ (ew s).2, 1 ≤ x ∧ x ≤ 127) := KT.out.plain s
      have helen := KT.out.len s
      generalize ew s = E at *
      obtain ⟨e0, et⟩ := E
      simp only at HBK HPL helen
      have HEI' : Calls Tryz.prog 11 #[.slice ap m mc] w3 fun e w' => e = .returned (.agg #[.int .i64 e0, .string (str et)]) ∧ Below w3.heap.size w3 w' := HEI.out
      clear HEI
      go_wp2_with fail
      refine HEI'.mono ?_
      rintro e w4 ⟨rfl, hb4⟩
      have hbA : Below w4.heap.size w4 (w4.alloc (.cells #[.int .i64 e0, .string (str et)] 33)) := (Below.refl _ _).alloc (Nat.le_refl _) _
      have hX4 : Below w3.heap.size w3 (w4.alloc (.cells #[.int .i64 e0, .string (str et)] 33)) := hb4.trans (hbA.mono hb4.size)
      have HB4 : Hid (Below w.heap.size w (w4.alloc (.cells #[.int .i64 e0, .string (str et)] 33))) := HB3.out.trans (hX4.mono HB3.out.size)
      have hs4 := hrs.below hX4
      obtain ⟨q0, q1, -, -⟩ := res_block (w := w4) (wr := w4.alloc (.cells #[.int .i64 e0, .string (str et)] 33)) rfl (Below.refl _ _)
      have hsW4 : (w4.alloc (.cells #[.int .i64 e0, .string (str et)] 33)).heap.size = w4.heap.size + 1 := by simp
      clear hb4 hX4 hrs HEI' hbA HB3
      by_cases he0 : e0 = 0
      · subst he0
        have hbk := HBK.out rfl
        have hBet : IsB et := fun x hx => by have := HPL.out x hx; omega
        have HDB : Hid (∀ w, TT w → Calls Tryz.prog 6 #[.string (str et)] w fun e w' => CodEnd (0, s) w e w') := fun w h => by
          have h' := KT.out.di et w hBet (by omega) h
          rw [hbk] at h'; exact h'
        have HLN : Hid (∀ (b : Option Addr) (bc : Nat) w, RdI w b s → RdI w ap s → Calls Tryz.prog 8 #[.slice b m bc, .slice ap m mc] w fun e w' => e = .returned (.bool true) ∧ Below w.heap.size w w') := fun b bc w h1 h2 => by
          have h := lwNums_any b ap m m bc mc s s w HSL.out HSL.out h1 h2 (by omega) (by omega)
          rw [decide_eq_true rfl] at h; exact h
        have HIP : Hid (∀ (b : Option Addr) (bc : Nat) w, Rd w b et → Calls Tryz.prog 13 #[.slice b et.length bc] w fun e w' => e = .returned (.bool true) ∧ w' = w) := fun b bc w h1 => by
          have h := isPlain_any b et.length bc et w rfl h1 (by omega)
          have hp : plain et = true := List.all_eq_true.2 (fun x hx => decide_eq_true (HPL.out x hx))
          rw [hp] at h; exact h
        have hsze : (str et).size = et.length := str_size et
        have hcv := fun wx => run_bytes_of_string (P := Tryz.prog) wx 9 22 5 (str et) Tryz.underlying9 Tryz.underlying22 Tryz.underlying5
        rw [hsze] at hcv
        have hrdB := fun wx cp fr => bytesRow_rd wx et hBet cp fr
        clear HBK hbk
        go_wp2_with fail
        generalize (w4.alloc (.cells #[.int .i64 0, .string (str et)] 33)) = V0 at *
        generalize w4.heap.size = g6 at *
        have hg60 : g6 < V0.heap.size := by omega
        refine (HDB.out _ (KT.out.below _ _ hT.out HB4.out)).mono ?_
        rintro e w6 ⟨v6, rfl, hown6, hb6⟩
        simp only at hown6 ⊢
        obtain ⟨b6, c6, hv, -, -⟩ := hown6.form
        rw [HSL.out] at hv
        rw [hv] at hown6 ⊢
        clear hv
        have hbA : Below w6.heap.size w6 (w6.alloc (.cells #[.int .i64 0, .slice b6 m c6] 27)) := (Below.refl _ _).alloc (Nat.le_refl _) _
        have hX6 : Below V0.heap.size V0 (w6.alloc (.cells #[.int .i64 0, .slice b6 m c6] 27)) := hb6.trans (hbA.mono hb6.size)
        have HB6 : Hid (Below w.heap.size w (w6.alloc (.cells #[.int .i64 0, .slice b6 m c6] 27))) := HB4.out.trans (hX6.mono HB4.out.size)
        have hs6 := hs4.below hX6
        have hd6 := hown6.rd.2.below hbA
        have r1 := (hX6.cell (p := ⟨g6, 1, none⟩) hg60).trans q1
        obtain ⟨i0, i1, -, -⟩ := res_block (w := w6) (wr := w6.alloc (.cells #[.int .i64 0, .slice b6 m c6] 27)) rfl (Below.refl _ _)
        have hsW6 : (w6.alloc (.cells #[.int .i64 0, .slice b6 m c6] 27)).heap.size = w6.heap.size + 1 := by simp
        have hz6 := hb6.size
        clear hb6 hX6 hs4 HDB hown6 hbA HB4 q0 q1
        go_wp2_with fail
        generalize w6.alloc (.cells #[.int .i64 0, .slice b6 m c6] 27) = Y at *
        generalize w6.heap.size = g7 at *
        have m6 : g6 < Y.heap.size := by omega
        have m7 : g7 < Y.heap.size := by omega
        by_cases hemp : et = []
        · subst hemp
          have he1 := str_noneW
          refine wp_region_held_drew (S := fun w' => w'.cell? ⟨g6, 1, none⟩ = some (.string (str [])) ∧ w'.cell? ⟨g7, 0, none⟩ = some (.int .i64 0) ∧ w'.cell? ⟨g7, 1, none⟩ = some (.slice b6 m c6)) (by kernel_rfl) ?hS108 (fun hHeld => ?_)
          case hS108 => exact ⟨r1, i0, i1⟩
          refine wpAnyH_take (i := 0) (v := ?_) rfl (by kernel_rfl) (by kernel_rfl) (by kernel_rfl) (fun _ _ _ h => h) (Or.inl ⟨by rfl, ?hy109⟩) (by assumption) ?ty109
          case hy109 => (intro w hSw; (try dsimp only at hSw); go_simp; all_goals with_reducible rfl)
          simp only [Act.put, List.getElem_toArray, List.getElem_cons_zero, List.setIfInBounds_toArray, List.set_cons_zero, List.set_cons_succ]
          refine wpAnyH_take (i := 1) (v := ?_) rfl (by kernel_rfl) (by kernel_rfl) (by kernel_rfl) (fun _ _ _ h => h) (Or.inl ⟨by rfl, ?hy110⟩) (by assumption) ?ty110
          case hy110 => (intro w hSw; (try dsimp only at hSw); go_simp; all_goals with_reducible rfl)
          simp only [Act.put, List.getElem_toArray, List.getElem_cons_zero, List.getElem_cons_succ, List.setIfInBounds_toArray, List.set_cons_zero, List.set_cons_succ]
          refine wpAnyH_take (i := 2) (v := .bool true) rfl (by kernel_rfl) (by kernel_rfl) (by kernel_rfl) (fun _ _ _ h => h) (Or.inl ⟨by rfl, ?hy111⟩) (by assumption) ?ty111
          case hy111 => (intro w hSw; (try dsimp only at hSw); go_simp; first | (simp; done) | (all_goals with_reducible rfl))
          simp only [Act.put, List.getElem_toArray, List.getElem_cons_zero, List.getElem_cons_succ, List.setIfInBounds_toArray, List.set_cons_zero, List.set_cons_succ]
          refine wpAnyH_take (i := 3) (v := ?_) rfl (by kernel_rfl) (by kernel_rfl) (by kernel_rfl) (fun _ _ _ h => h) (Or.inl ⟨by rfl, ?hy112⟩) (by assumption) ?ty112
          case hy112 => (intro w hSw; (try dsimp only at hSw); go_simp; all_goals with_reducible rfl)
          simp only [Act.put, List.getElem_toArray, List.getElem_cons_zero, List.getElem_cons_succ, List.setIfInBounds_toArray, List.set_cons_zero, List.set_cons_succ]
          refine wpAnyH_take (i := 4) (v := ?_) rfl (by kernel_rfl) (by kernel_rfl) (by kernel_rfl) (fun _ _ _ h => h) (Or.inl ⟨by rfl, ?hy113⟩) (by assumption) ?ty113
          case hy113 => (intro w hSw; (try dsimp only at hSw); go_simp; all_goals with_reducible rfl)
          simp only [Act.put, List.getElem_toArray, List.getElem_cons_zero, List.getElem_cons_succ, List.setIfInBounds_toArray, List.set_cons_zero, List.set_cons_succ]
          refine wpAnyH_take (i := 5) (v := ?_) rfl (by kernel_rfl) (by kernel_rfl) (by kernel_rfl) (fun _ _ _ h => h) (Or.inl ⟨by rfl, ?hy114⟩) (by assumption) ?ty114
          case hy114 => (intro w hSw; (try dsimp only at hSw); go_simp; all_goals with_reducible rfl)
          simp only [Act.put, List.getElem_toArray, List.getElem_cons_zero, List.getElem_cons_succ, List.setIfInBounds_toArray, List.set_cons_zero, List.set_cons_succ]
          refine wpAnyH_take (i := 6) (v := ?_) rfl (by kernel_rfl) (by kernel_rfl) (by kernel_rfl) (fun _ _ _ h => h) (Or.inl ⟨by rfl, ?hy115⟩) (by assumption) ?ty115
          case hy115 => (intro w hSw; (try dsimp only at hSw); go_simp; all_goals with_reducible rfl)
          simp only [Act.put, List.getElem_toArray, List.getElem_cons_zero, List.getElem_cons_succ, List.setIfInBounds_toArray, List.set_cons_zero, List.set_cons_succ]
          refine wpAnyH_ready (rs := [7]) (by kernel_rfl) (by simp) ?_
          refine AllReadyH.cons rfl (fun K hK => ?_) AllReadyH.nil
          go_simp
          refine (HLN.out _ _ _ (by exact hd6) (by exact hs6)).mono ?_
          rintro e z1 ⟨rfl, hbx⟩
          have HZ_z1 : Hid (Below Y.heap.size Y z1) := (Below.refl _ _).drew.trans hbx
          refine hK.out _ _ ⟨(HZ_z1.out.cell (p := ⟨g6, 1, none⟩) m6).trans r1, (HZ_z1.out.cell (p := ⟨g7, 0, none⟩) m7).trans i0, (HZ_z1.out.cell (p := ⟨g7, 1, none⟩) m7).trans i1⟩ (fun hHeld => ?_)
          clear hK K
          clear hbx
          refine wpAnyH_take (i := 8) (v := ?_) rfl (by kernel_rfl) (by kernel_rfl) (by kernel_rfl) (fun _ _ _ h => h) (Or.inl ⟨by rfl, ?hy116⟩) (by assumption) ?ty116
          case hy116 => (intro w hSw; (try dsimp only at hSw); go_simp; all_goals with_reducible rfl)
          simp only [Act.put, List.getElem_toArray, List.getElem_cons_zero, List.getElem_cons_succ, List.setIfInBounds_toArray, List.set_cons_zero, List.set_cons_succ]
          refine wpAnyH_take (i := 9) (v := ?_) rfl (by kernel_rfl) (by kernel_rfl) (by kernel_rfl) (fun _ _ _ h => h) (Or.inl ⟨by rfl, ?hy117⟩) (by assumption) ?ty117
          case hy117 => (intro w hSw; (try dsimp only at hSw); go_simp; all_goals with_reducible rfl)
          simp only [Act.put, List.getElem_toArray, List.getElem_cons_zero, List.getElem_cons_succ, List.setIfInBounds_toArray, List.set_cons_zero, List.set_cons_succ]
          refine wpAnyH_take (i := 10) (v := ?_) rfl (by kernel_rfl) (by kernel_rfl) (by kernel_rfl) (fun _ _ _ h => h) (Or.inl ⟨by rfl, ?hy118⟩) (by assumption) ?ty118
          case hy118 => (intro w hSw; (try dsimp only at hSw); go_simp; all_goals with_reducible rfl)
          simp only [Act.put, List.getElem_toArray, List.getElem_cons_zero, List.getElem_cons_succ, List.setIfInBounds_toArray, List.set_cons_zero, List.set_cons_succ]
          refine wpAnyH_take (i := 11) (v := ?_) rfl (by kernel_rfl) (by kernel_rfl) (by kernel_rfl) (fun _ _ _ h => h) (Or.inl ⟨by rfl, ?hy119⟩) (by assumption) ?ty119
          case hy119 => (intro w hSw; (try dsimp only at hSw); go_simp; all_goals with_reducible rfl)
          simp only [Act.put, List.getElem_toArray, List.getElem_cons_zero, List.getElem_cons_succ, List.setIfInBounds_toArray, List.set_cons_zero, List.set_cons_succ]
          refine wpAnyH_take (i := 12) (v := .bool true) rfl (by kernel_rfl) (by kernel_rfl) (by kernel_rfl) (fun _ _ _ h => h) (Or.inl ⟨by rfl, ?hy120⟩) (by assumption) ?ty120
          case hy120 => (intro w hSw; (try dsimp only at hSw); go_simp; first | (simp; done) | (all_goals with_reducible rfl))
          simp only [Act.put, List.getElem_toArray, List.getElem_cons_zero, List.getElem_cons_succ, List.setIfInBounds_toArray, List.set_cons_zero, List.set_cons_succ]
          refine wpAnyH_take (i := 13) (v := ?_) rfl (by kernel_rfl) (by kernel_rfl) (by kernel_rfl) (fun _ _ _ h => h) (Or.inl ⟨by rfl, ?hy121⟩) (by assumption) ?ty121
          case hy121 => (intro w hSw; (try dsimp only at hSw); go_simp; all_goals with_reducible rfl)
          simp only [Act.put, List.getElem_toArray, List.getElem_cons_zero, List.getElem_cons_succ, List.setIfInBounds_toArray, List.set_cons_zero, List.set_cons_succ]
          refine wpAnyH_take (i := 14) (v := undef) rfl (by kernel_rfl) (by kernel_rfl) (by kernel_rfl) (fun _ _ _ h => h) (Or.inr ⟨by rfl, rfl⟩) (by assumption) ?_
          simp only [Act.put, List.getElem_toArray, List.getElem_cons_zero, List.getElem_cons_succ, List.setIfInBounds_toArray, List.set_cons_zero, List.set_cons_succ]
          refine wpAnyH_take (i := 15) (v := undef) rfl (by kernel_rfl) (by kernel_rfl) (by kernel_rfl) (fun _ _ _ h => h) (Or.inr ⟨by rfl, rfl⟩) (by assumption) ?_
          simp only [Act.put, List.getElem_toArray, List.getElem_cons_zero, List.getElem_cons_succ, List.setIfInBounds_toArray, List.set_cons_zero, List.set_cons_succ]
          refine wpAnyH_take (i := 16) (v := undef) rfl (by kernel_rfl) (by kernel_rfl) (by kernel_rfl) (fun _ _ _ h => h) (Or.inr ⟨by rfl, rfl⟩) (by assumption) ?_
          simp only [Act.put, List.getElem_toArray, List.getElem_cons_zero, List.getElem_cons_succ, List.setIfInBounds_toArray, List.set_cons_zero, List.set_cons_succ]
          refine wpAnyH_take (i := 17) (v := undef) rfl (by kernel_rfl) (by kernel_rfl) (by kernel_rfl) (fun _ _ _ h => h) (Or.inr ⟨by rfl, rfl⟩) (by assumption) ?_
          simp only [Act.put, List.getElem_toArray, List.getElem_cons_zero, List.getElem_cons_succ, List.setIfInBounds_toArray, List.set_cons_zero, List.set_cons_succ]
          refine wpAnyH_take (i := 18) (v := ?_) rfl (by kernel_rfl) (by kernel_rfl) (by kernel_rfl) (fun _ _ _ h => h) (Or.inl ⟨by rfl, ?hy122⟩) (by assumption) ?ty122
          case hy122 => (intro w hSw; (try dsimp only at hSw); go_simp; all_goals with_reducible rfl)
          simp only [Act.put, List.getElem_toArray, List.getElem_cons_zero, List.getElem_cons_succ, List.setIfInBounds_toArray, List.set_cons_zero, List.set_cons_succ]
          refine wpAnyH_take (i := 19) (v := ?_) rfl (by kernel_rfl) (by kernel_rfl) (by kernel_rfl) (fun _ _ _ h => h) (Or.inl ⟨by rfl, ?hy123⟩) (by assumption) ?ty123
          case hy123 => (intro w hSw; (try dsimp only at hSw); go_simp; all_goals with_reducible rfl)
          simp only [Act.put, List.getElem_toArray, List.getElem_cons_zero, List.getElem_cons_succ, List.setIfInBounds_toArray, List.set_cons_zero, List.set_cons_succ]
          refine wpAnyH_take (i := 20) (v := ?_) rfl (by kernel_rfl) (by kernel_rfl) (by kernel_rfl) (fun _ _ _ h => h) (Or.inl ⟨by rfl, ?hy124⟩) (by assumption) ?ty124
          case hy124 => (intro w hSw; (try dsimp only at hSw); go_simp; all_goals with_reducible rfl)
          simp only [Act.put, List.getElem_toArray, List.getElem_cons_zero, List.getElem_cons_succ, List.setIfInBounds_toArray, List.set_cons_zero, List.set_cons_succ]
          refine wpAnyH_take (i := 21) (v := ?_) rfl (by kernel_rfl) (by kernel_rfl) (by kernel_rfl) (fun _ _ _ h => h) (Or.inl ⟨by rfl, ?hy125⟩) (by assumption) ?ty125
          case hy125 => (intro w hSw; (try dsimp only at hSw); go_simp; all_goals with_reducible rfl)
          simp only [Act.put, List.getElem_toArray, List.getElem_cons_zero, List.getElem_cons_succ, List.setIfInBounds_toArray, List.set_cons_zero, List.set_cons_succ]
          refine wpAnyH_take (i := 22) (v := ?_) rfl (by kernel_rfl) (by kernel_rfl) (by kernel_rfl) (fun _ _ _ h => h) (Or.inl ⟨by rfl, ?hy126⟩) (by assumption) ?ty126
          case hy126 => (intro w hSw; (try dsimp only at hSw); go_simp; all_goals with_reducible rfl)
          simp only [Act.put, List.getElem_toArray, List.getElem_cons_zero, List.getElem_cons_succ, List.setIfInBounds_toArray, List.set_cons_zero, List.set_cons_succ]
          refine wpAnyH_take (i := 23) (v := ?_) rfl (by kernel_rfl) (by kernel_rfl) (by kernel_rfl) (fun _ _ _ h => h) (Or.inl ⟨by rfl, ?hy127⟩) (by assumption) ?ty127
          case hy127 => (intro w hSw; (try dsimp only at hSw); go_simp; all_goals with_reducible rfl)
          simp only [Act.put, List.getElem_toArray, List.getElem_cons_zero, List.getElem_cons_succ, List.setIfInBounds_toArray, List.set_cons_zero, List.set_cons_succ]
          refine wpAnyH_ready (rs := [24]) (by kernel_rfl) (by simp) ?_
          refine AllReadyH.cons rfl (fun K hK => ?_) AllReadyH.nil
          go_simp
          refine (HES.out _ (by exact hs6.below HZ_z1.out)).mono ?_
          rintro e z2 ⟨rfl, hbx⟩
          have HZ_z2 : Hid (Below Y.heap.size Y z2) := HZ_z1.out.trans (hbx.mono HZ_z1.out.size)
          refine hK.out _ _ ⟨(HZ_z2.out.cell (p := ⟨g6, 1, none⟩) m6).trans r1, (HZ_z2.out.cell (p := ⟨g7, 0, none⟩) m7).trans i0, (HZ_z2.out.cell (p := ⟨g7, 1, none⟩) m7).trans i1⟩ (fun hHeld => ?_)
          clear hK K
          clear hbx
          refine wpAnyH_take (i := 25) (v := ?_) rfl (by kernel_rfl) (by kernel_rfl) (by kernel_rfl) (fun _ _ _ h => h) (Or.inl ⟨by rfl, ?hy128⟩) (by assumption) ?ty128
          case hy128 => (intro w hSw; (try dsimp only at hSw); go_simp; all_goals with_reducible rfl)
          simp only [Act.put, List.getElem_toArray, List.getElem_cons_zero, List.getElem_cons_succ, List.setIfInBounds_toArray, List.set_cons_zero, List.set_cons_succ]
          refine wpAnyH_take (i := 26) (v := .bool true) rfl (by kernel_rfl) (by kernel_rfl) (by kernel_rfl) (fun _ _ _ h => h) (Or.inl ⟨by rfl, ?hy129⟩) (by assumption) ?ty129
          case hy129 => (intro w hSw; (try dsimp only at hSw); go_simp; first | (simp; done) | (all_goals with_reducible rfl))
          simp only [Act.put, List.getElem_toArray, List.getElem_cons_zero, List.getElem_cons_succ, List.setIfInBounds_toArray, List.set_cons_zero, List.set_cons_succ]
          refine wpAnyH_take (i := 27) (v := ?_) rfl (by kernel_rfl) (by kernel_rfl) (by kernel_rfl) (fun _ _ _ h => h) (Or.inl ⟨by rfl, ?hy130⟩) (by assumption) ?ty130
          case hy130 => (intro w hSw; (try dsimp only at hSw); go_simp; all_goals with_reducible rfl)
          simp only [Act.put, List.getElem_toArray, List.getElem_cons_zero, List.getElem_cons_succ, List.setIfInBounds_toArray, List.set_cons_zero, List.set_cons_succ]
          refine wpAnyH_take (i := 28) (v := ?_) rfl (by kernel_rfl) (by kernel_rfl) (by kernel_rfl) (fun _ _ _ h => h) (Or.inl ⟨by rfl, ?hy131⟩) (by assumption) ?ty131
          case hy131 => (intro w hSw; (try dsimp only at hSw); go_simp; all_goals with_reducible rfl)
          simp only [Act.put, List.getElem_toArray, List.getElem_cons_zero, List.getElem_cons_succ, List.setIfInBounds_toArray, List.set_cons_zero, List.set_cons_succ]
          refine wpAnyH_done (by kernel_rfl) ?_ _
          have HF : Hid (Below w.heap.size w z2) := HB6.out.trans (HZ_z2.out.mono HB6.out.size)
          clear hHeld HZ_z1 HZ_z2 HES HB6
          go_wp2
          go_ret
          exact ⟨rfl, HF.out⟩
        · have he1 := str_fullW hemp
          refine wp_region_held_drew (S := fun w' => w'.cell? ⟨g6, 1, none⟩ = some (.string (str et)) ∧ w'.cell? ⟨g7, 0, none⟩ = some (.int .i64 0) ∧ w'.cell? ⟨g7, 1, none⟩ = some (.slice b6 m c6)) (by kernel_rfl) ?hS132 (fun hHeld => ?_)
          case hS132 => exact ⟨r1, i0, i1⟩
          refine wpAnyH_take (i := 0) (v := ?_) rfl (by kernel_rfl) (by kernel_rfl) (by kernel_rfl) (fun _ _ _ h => h) (Or.inl ⟨by rfl, ?hy133⟩) (by assumption) ?ty133
          case hy133 => (intro w hSw; (try dsimp only at hSw); go_simp; all_goals with_reducible rfl)
          simp only [Act.put, List.getElem_toArray, List.getElem_cons_zero, List.setIfInBounds_toArray, List.set_cons_zero, List.set_cons_succ]
          refine wpAnyH_take (i := 1) (v := ?_) rfl (by kernel_rfl) (by kernel_rfl) (by kernel_rfl) (fun _ _ _ h => h) (Or.inl ⟨by rfl, ?hy134⟩) (by assumption) ?ty134
          case hy134 => (intro w hSw; (try dsimp only at hSw); go_simp; all_goals with_reducible rfl)
          simp only [Act.put, List.getElem_toArray, List.getElem_cons_zero, List.getElem_cons_succ, List.setIfInBounds_toArray, List.set_cons_zero, List.set_cons_succ]
          refine wpAnyH_take (i := 2) (v := .bool true) rfl (by kernel_rfl) (by kernel_rfl) (by kernel_rfl) (fun _ _ _ h => h) (Or.inl ⟨by rfl, ?hy135⟩) (by assumption) ?ty135
          case hy135 => (intro w hSw; (try dsimp only at hSw); go_simp; first | (simp; done) | (all_goals with_reducible rfl))
          simp only [Act.put, List.getElem_toArray, List.getElem_cons_zero, List.getElem_cons_succ, List.setIfInBounds_toArray, List.set_cons_zero, List.set_cons_succ]
          refine wpAnyH_take (i := 3) (v := ?_) rfl (by kernel_rfl) (by kernel_rfl) (by kernel_rfl) (fun _ _ _ h => h) (Or.inl ⟨by rfl, ?hy136⟩) (by assumption) ?ty136
          case hy136 => (intro w hSw; (try dsimp only at hSw); go_simp; all_goals with_reducible rfl)
          simp only [Act.put, List.getElem_toArray, List.getElem_cons_zero, List.getElem_cons_succ, List.setIfInBounds_toArray, List.set_cons_zero, List.set_cons_succ]
          refine wpAnyH_take (i := 4) (v := ?_) rfl (by kernel_rfl) (by kernel_rfl) (by kernel_rfl) (fun _ _ _ h => h) (Or.inl ⟨by rfl, ?hy137⟩) (by assumption) ?ty137
          case hy137 => (intro w hSw; (try dsimp only at hSw); go_simp; all_goals with_reducible rfl)
          simp only [Act.put, List.getElem_toArray, List.getElem_cons_zero, List.getElem_cons_succ, List.setIfInBounds_toArray, List.set_cons_zero, List.set_cons_succ]
          refine wpAnyH_take (i := 5) (v := ?_) rfl (by kernel_rfl) (by kernel_rfl) (by kernel_rfl) (fun _ _ _ h => h) (Or.inl ⟨by rfl, ?hy138⟩) (by assumption) ?ty138
          case hy138 => (intro w hSw; (try dsimp only at hSw); go_simp; all_goals with_reducible rfl)
          simp only [Act.put, List.getElem_toArray, List.getElem_cons_zero, List.getElem_cons_succ, List.setIfInBounds_toArray, List.set_cons_zero, List.set_cons_succ]
          refine wpAnyH_take (i := 6) (v := ?_) rfl (by kernel_rfl) (by kernel_rfl) (by kernel_rfl) (fun _ _ _ h => h) (Or.inl ⟨by rfl, ?hy139⟩) (by assumption) ?ty139
          case hy139 => (intro w hSw; (try dsimp only at hSw); go_simp; all_goals with_reducible rfl)
          simp only [Act.put, List.getElem_toArray, List.getElem_cons_zero, List.getElem_cons_succ, List.setIfInBounds_toArray, List.set_cons_zero, List.set_cons_succ]
          refine wpAnyH_ready (rs := [7]) (by kernel_rfl) (by simp) ?_
          refine AllReadyH.cons rfl (fun K hK => ?_) AllReadyH.nil
          go_simp
          refine (HLN.out _ _ _ (by exact hd6) (by exact hs6)).mono ?_
          rintro e z1 ⟨rfl, hbx⟩
          have HZ_z1 : Hid (Below Y.heap.size Y z1) := (Below.refl _ _).drew.trans hbx
          refine hK.out _ _ ⟨(HZ_z1.out.cell (p := ⟨g6, 1, none⟩) m6).trans r1, (HZ_z1.out.cell (p := ⟨g7, 0, none⟩) m7).trans i0, (HZ_z1.out.cell (p := ⟨g7, 1, none⟩) m7).trans i1⟩ (fun hHeld => ?_)
          clear hK K
          clear hbx
          refine wpAnyH_take (i := 8) (v := ?_) rfl (by kernel_rfl) (by kernel_rfl) (by kernel_rfl) (fun _ _ _ h => h) (Or.inl ⟨by rfl, ?hy140⟩) (by assumption) ?ty140
          case hy140 => (intro w hSw; (try dsimp only at hSw); go_simp; all_goals with_reducible rfl)
          simp only [Act.put, List.getElem_toArray, List.getElem_cons_zero, List.getElem_cons_succ, List.setIfInBounds_toArray, List.set_cons_zero, List.set_cons_succ]
          refine wpAnyH_take (i := 9) (v := ?_) rfl (by kernel_rfl) (by kernel_rfl) (by kernel_rfl) (fun _ _ _ h => h) (Or.inl ⟨by rfl, ?hy141⟩) (by assumption) ?ty141
          case hy141 => (intro w hSw; (try dsimp only at hSw); go_simp; all_goals with_reducible rfl)
          simp only [Act.put, List.getElem_toArray, List.getElem_cons_zero, List.getElem_cons_succ, List.setIfInBounds_toArray, List.set_cons_zero, List.set_cons_succ]
          refine wpAnyH_take (i := 10) (v := ?_) rfl (by kernel_rfl) (by kernel_rfl) (by kernel_rfl) (fun _ _ _ h => h) (Or.inl ⟨by rfl, ?hy142⟩) (by assumption) ?ty142
          case hy142 => (intro w hSw; (try dsimp only at hSw); go_simp; all_goals with_reducible rfl)
          simp only [Act.put, List.getElem_toArray, List.getElem_cons_zero, List.getElem_cons_succ, List.setIfInBounds_toArray, List.set_cons_zero, List.set_cons_succ]
          refine wpAnyH_take (i := 11) (v := ?_) rfl (by kernel_rfl) (by kernel_rfl) (by kernel_rfl) (fun _ _ _ h => h) (Or.inl ⟨by rfl, ?hy143⟩) (by assumption) ?ty143
          case hy143 => (intro w hSw; (try dsimp only at hSw); go_simp; all_goals with_reducible rfl)
          simp only [Act.put, List.getElem_toArray, List.getElem_cons_zero, List.getElem_cons_succ, List.setIfInBounds_toArray, List.set_cons_zero, List.set_cons_succ]
          refine wpAnyH_take (i := 12) (v := .bool false) rfl (by kernel_rfl) (by kernel_rfl) (by kernel_rfl) (fun _ _ _ h => h) (Or.inl ⟨by rfl, ?hy144⟩) (by assumption) ?ty144
          case hy144 => (intro w hSw; (try dsimp only at hSw); go_simp; first | (simp; done) | (all_goals with_reducible rfl))
          simp only [Act.put, List.getElem_toArray, List.getElem_cons_zero, List.getElem_cons_succ, List.setIfInBounds_toArray, List.set_cons_zero, List.set_cons_succ]
          refine wpAnyH_take (i := 13) (v := ?_) rfl (by kernel_rfl) (by kernel_rfl) (by kernel_rfl) (fun _ _ _ h => h) (Or.inl ⟨by rfl, ?hy145⟩) (by assumption) ?ty145
          case hy145 => (intro w hSw; (try dsimp only at hSw); go_simp; all_goals with_reducible rfl)
          simp only [Act.put, List.getElem_toArray, List.getElem_cons_zero, List.getElem_cons_succ, List.setIfInBounds_toArray, List.set_cons_zero, List.set_cons_succ]
          refine wpAnyH_take (i := 14) (v := ?_) rfl (by kernel_rfl) (by kernel_rfl) (by kernel_rfl) (fun _ _ _ h => h) (Or.inl ⟨by rfl, ?hy146⟩) (by assumption) ?ty146
          case hy146 => (intro w hSw; (try dsimp only at hSw); go_simp; all_goals with_reducible rfl)
          simp only [Act.put, List.getElem_toArray, List.getElem_cons_zero, List.getElem_cons_succ, List.setIfInBounds_toArray, List.set_cons_zero, List.set_cons_succ]
          refine wpAnyH_take (i := 15) (v := ?_) rfl (by kernel_rfl) (by kernel_rfl) (by kernel_rfl) (fun _ _ _ h => h) (Or.inl ⟨by rfl, ?hy147⟩) (by assumption) ?ty147
          case hy147 => (intro w hSw; (try dsimp only at hSw); go_simp; all_goals with_reducible rfl)
          simp only [Act.put, List.getElem_toArray, List.getElem_cons_zero, List.getElem_cons_succ, List.setIfInBounds_toArray, List.set_cons_zero, List.set_cons_succ]
          have hbC : ∀ cp fr, Below Y.heap.size Y (z1.alloc (.cells (bytesRow (str et) cp) 5 fr)) := fun cp fr => HZ_z1.out.alloc HZ_z1.out.size _
          refine wpAnyH_ready (rs := [16]) (by kernel_rfl) (by simp) ?_
          refine AllReadyH.cons rfl (fun K hK => ?_) AllReadyH.nil
          go_simp
          refine hK.out _ _ ⟨((hbC _ _).cell (p := ⟨g6, 1, none⟩) m6).trans r1, ((hbC _ _).cell (p := ⟨g7, 0, none⟩) m7).trans i0, ((hbC _ _).cell (p := ⟨g7, 1, none⟩) m7).trans i1⟩ (fun hHeld => ?_)
          clear hK K
          refine wpAnyH_ready (rs := [17]) (by kernel_rfl) (by simp) ?_
          refine AllReadyH.cons rfl (fun K hK => ?_) AllReadyH.nil
          go_simp
          refine (HIP.out _ _ _ (by exact hrdB _ _ _)).mono ?_
          rintro e z3 ⟨rfl, hw3⟩
          have HZ_z3 : Hid (Below Y.heap.size Y z3) := by rw [hw3]; exact (hbC _ _).drew
          clear hw3
          refine hK.out _ _ ⟨(HZ_z3.out.cell (p := ⟨g6, 1, none⟩) m6).trans r1, (HZ_z3.out.cell (p := ⟨g7, 0, none⟩) m7).trans i0, (HZ_z3.out.cell (p := ⟨g7, 1, none⟩) m7).trans i1⟩ (fun hHeld => ?_)
          clear hK K
          refine wpAnyH_take (i := 18) (v := ?_) rfl (by kernel_rfl) (by kernel_rfl) (by kernel_rfl) (fun _ _ _ h => h) (Or.inl ⟨by rfl, ?hy148⟩) (by assumption) ?ty148
          case hy148 => (intro w hSw; (try dsimp only at hSw); go_simp; all_goals with_reducible rfl)
          simp only [Act.put, List.getElem_toArray, List.getElem_cons_zero, List.getElem_cons_succ, List.setIfInBounds_toArray, List.set_cons_zero, List.set_cons_succ]
          refine wpAnyH_take (i := 19) (v := ?_) rfl (by kernel_rfl) (by kernel_rfl) (by kernel_rfl) (fun _ _ _ h => h) (Or.inl ⟨by rfl, ?hy149⟩) (by assumption) ?ty149
          case hy149 => (intro w hSw; (try dsimp only at hSw); go_simp; all_goals with_reducible rfl)
          simp only [Act.put, List.getElem_toArray, List.getElem_cons_zero, List.getElem_cons_succ, List.setIfInBounds_toArray, List.set_cons_zero, List.set_cons_succ]
          refine wpAnyH_take (i := 20) (v := ?_) rfl (by kernel_rfl) (by kernel_rfl) (by kernel_rfl) (fun _ _ _ h => h) (Or.inl ⟨by rfl, ?hy150⟩) (by assumption) ?ty150
          case hy150 => (intro w hSw; (try dsimp only at hSw); go_simp; all_goals with_reducible rfl)
          simp only [Act.put, List.getElem_toArray, List.getElem_cons_zero, List.getElem_cons_succ, List.setIfInBounds_toArray, List.set_cons_zero, List.set_cons_succ]
          refine wpAnyH_take (i := 21) (v := ?_) rfl (by kernel_rfl) (by kernel_rfl) (by kernel_rfl) (fun _ _ _ h => h) (Or.inl ⟨by rfl, ?hy151⟩) (by assumption) ?ty151
          case hy151 => (intro w hSw; (try dsimp only at hSw); go_simp; all_goals with_reducible rfl)
          simp only [Act.put, List.getElem_toArray, List.getElem_cons_zero, List.getElem_cons_succ, List.setIfInBounds_toArray, List.set_cons_zero, List.set_cons_succ]
          refine wpAnyH_take (i := 22) (v := ?_) rfl (by kernel_rfl) (by kernel_rfl) (by kernel_rfl) (fun _ _ _ h => h) (Or.inl ⟨by rfl, ?hy152⟩) (by assumption) ?ty152
          case hy152 => (intro w hSw; (try dsimp only at hSw); go_simp; all_goals with_reducible rfl)
          simp only [Act.put, List.getElem_toArray, List.getElem_cons_zero, List.getElem_cons_succ, List.setIfInBounds_toArray, List.set_cons_zero, List.set_cons_succ]
          refine wpAnyH_take (i := 23) (v := ?_) rfl (by kernel_rfl) (by kernel_rfl) (by kernel_rfl) (fun _ _ _ h => h) (Or.inl ⟨by rfl, ?hy153⟩) (by assumption) ?ty153
          case hy153 => (intro w hSw; (try dsimp only at hSw); go_simp; all_goals with_reducible rfl)
          simp only [Act.put, List.getElem_toArray, List.getElem_cons_zero, List.getElem_cons_succ, List.setIfInBounds_toArray, List.set_cons_zero, List.set_cons_succ]
          refine wpAnyH_ready (rs := [24]) (by kernel_rfl) (by simp) ?_
          refine AllReadyH.cons rfl (fun K hK => ?_) AllReadyH.nil
          go_simp
          refine (HES.out _ (by exact hs6.below HZ_z3.out)).mono ?_
          rintro e z4 ⟨rfl, hbx⟩
          have HZ_z4 : Hid (Below Y.heap.size Y z4) := HZ_z3.out.trans (hbx.mono HZ_z3.out.size)
          refine hK.out _ _ ⟨(HZ_z4.out.cell (p := ⟨g6, 1, none⟩) m6).trans r1, (HZ_z4.out.cell (p := ⟨g7, 0, none⟩) m7).trans i0, (HZ_z4.out.cell (p := ⟨g7, 1, none⟩) m7).trans i1⟩ (fun hHeld => ?_)
          clear hK K
          clear hbx
          refine wpAnyH_take (i := 25) (v := ?_) rfl (by kernel_rfl) (by kernel_rfl) (by kernel_rfl) (fun _ _ _ h => h) (Or.inl ⟨by rfl, ?hy154⟩) (by assumption) ?ty154
          case hy154 => (intro w hSw; (try dsimp only at hSw); go_simp; all_goals with_reducible rfl)
          simp only [Act.put, List.getElem_toArray, List.getElem_cons_zero, List.getElem_cons_succ, List.setIfInBounds_toArray, List.set_cons_zero, List.set_cons_succ]
          refine wpAnyH_take (i := 26) (v := .bool true) rfl (by kernel_rfl) (by kernel_rfl) (by kernel_rfl) (fun _ _ _ h => h) (Or.inl ⟨by rfl, ?hy155⟩) (by assumption) ?ty155
          case hy155 => (intro w hSw; (try dsimp only at hSw); go_simp; first | (simp; done) | (all_goals with_reducible rfl))
          simp only [Act.put, List.getElem_toArray, List.getElem_cons_zero, List.getElem_cons_succ, List.setIfInBounds_toArray, List.set_cons_zero, List.set_cons_succ]
          refine wpAnyH_take (i := 27) (v := ?_) rfl (by kernel_rfl) (by kernel_rfl) (by kernel_rfl) (fun _ _ _ h => h) (Or.inl ⟨by rfl, ?hy156⟩) (by assumption) ?ty156
          case hy156 => (intro w hSw; (try dsimp only at hSw); go_simp; all_goals with_reducible rfl)
          simp only [Act.put, List.getElem_toArray, List.getElem_cons_zero, List.getElem_cons_succ, List.setIfInBounds_toArray, List.set_cons_zero, List.set_cons_succ]
          refine wpAnyH_take (i := 28) (v := ?_) rfl (by kernel_rfl) (by kernel_rfl) (by kernel_rfl) (fun _ _ _ h => h) (Or.inl ⟨by rfl, ?hy157⟩) (by assumption) ?ty157
          case hy157 => (intro w hSw; (try dsimp only at hSw); go_simp; all_goals with_reducible rfl)
          simp only [Act.put, List.getElem_toArray, List.getElem_cons_zero, List.getElem_cons_succ, List.setIfInBounds_toArray, List.set_cons_zero, List.set_cons_succ]
          refine wpAnyH_done (by kernel_rfl) ?_ _
          have HF : Hid (Below w.heap.size w z4) := HB6.out.trans (HZ_z4.out.mono HB6.out.size)
          clear hHeld HZ_z1 HZ_z3 HZ_z4 HES HB6
          go_wp2
          go_ret
          exact ⟨rfl, HF.out⟩
      · have en : (e0 != 0) = true := by simp; omega
        clear HBK HPL
        go_wp2_with fail
        generalize w4.alloc (.cells #[.int .i64 e0, .string (str et)] 33) = V at *
        generalize w4.heap.size = g6 at *
        have hg6 : g6 < V.heap.size := by omega
        refine wp_region_held_drew (S := fun w' => w'.cell? ⟨g6, 0, none⟩ = some (.int .i64 e0)) (by kernel_rfl) ?hS101 (fun hHeld => ?_)
        case hS101 => exact q0
        refine wpAnyH_take (i := 0) (v := ?_) rfl (by kernel_rfl) (by kernel_rfl) (by kernel_rfl) (fun _ _ _ h => h) (Or.inl ⟨by rfl, ?hy102⟩) (by assumption) ?ty102
        case hy102 => (intro w hSw; (try dsimp only at hSw); go_simp; all_goals with_reducible rfl)
        simp only [Act.put, List.getElem_toArray, List.getElem_cons_zero, List.setIfInBounds_toArray, List.set_cons_zero, List.set_cons_succ]
        refine wpAnyH_take (i := 3) (v := ?_) rfl (by kernel_rfl) (by kernel_rfl) (by kernel_rfl) (fun _ _ _ h => h) (Or.inl ⟨by rfl, ?hy103⟩) (by assumption) ?ty103
        case hy103 => (intro w hSw; (try dsimp only at hSw); go_simp; all_goals with_reducible rfl)
        simp only [Act.put, List.getElem_toArray, List.getElem_cons_zero, List.getElem_cons_succ, List.setIfInBounds_toArray, List.set_cons_zero, List.set_cons_succ]
        refine wpAnyH_take (i := 4) (v := ?_) rfl (by kernel_rfl) (by kernel_rfl) (by kernel_rfl) (fun _ _ _ h => h) (Or.inl ⟨by rfl, ?hy104⟩) (by assumption) ?ty104
        case hy104 => (intro w hSw; (try dsimp only at hSw); go_simp; all_goals with_reducible rfl)
        simp only [Act.put, List.getElem_toArray, List.getElem_cons_zero, List.getElem_cons_succ, List.setIfInBounds_toArray, List.set_cons_zero, List.set_cons_succ]
        refine wpAnyH_ready (rs := [1]) (by kernel_rfl) (by simp) ?_
        refine AllReadyH.cons rfl (fun K hK => ?_) AllReadyH.nil
        go_simp
        refine (HES.out _ (by exact hs4)).mono ?_
        rintro e z1 ⟨rfl, hbx⟩
        have HZ : Hid (Below V.heap.size V z1) := (Below.refl _ _).drew.trans hbx
        have hsS := (HZ.out.cell (p := ⟨g6, 0, none⟩) hg6).trans q0
        refine hK.out _ _ hsS (fun hHeld => ?_)
        clear hK K
        clear hbx hsS
        refine wpAnyH_take (i := 2) (v := ?_) rfl (by kernel_rfl) (by kernel_rfl) (by kernel_rfl) (fun _ _ _ h => h) (Or.inl ⟨by rfl, ?hy105⟩) (by assumption) ?ty105
        case hy105 => (intro w hSw; (try dsimp only at hSw); go_simp; all_goals with_reducible rfl)
        simp only [Act.put, List.getElem_toArray, List.getElem_cons_zero, List.getElem_cons_succ, List.setIfInBounds_toArray, List.set_cons_zero, List.set_cons_succ]
        refine wpAnyH_take (i := 5) (v := .bool true) rfl (by kernel_rfl) (by kernel_rfl) (by kernel_rfl) (fun _ _ _ h => h) (Or.inl ⟨by rfl, ?hy106⟩) (by assumption) ?ty106
        case hy106 => (intro w hSw; (try dsimp only at hSw); go_simp; first | (simp; done) | (all_goals with_reducible rfl))
        simp only [Act.put, List.getElem_toArray, List.getElem_cons_zero, List.getElem_cons_succ, List.setIfInBounds_toArray, List.set_cons_zero, List.set_cons_succ]
        refine wpAnyH_take (i := 6) (v := ?_) rfl (by kernel_rfl) (by kernel_rfl) (by kernel_rfl) (fun _ _ _ h => h) (Or.inl ⟨by rfl, ?hy107⟩) (by assumption) ?ty107
        case hy107 => (intro w hSw; (try dsimp only at hSw); go_simp; all_goals with_reducible rfl)
        simp only [Act.put, List.getElem_toArray, List.getElem_cons_zero, List.getElem_cons_succ, List.setIfInBounds_toArray, List.set_cons_zero, List.set_cons_succ]
        refine wpAnyH_done (by kernel_rfl) ?_ _
        have HF : Hid (Below w.heap.size w z1) := HB4.out.trans (HZ.out.mono HB4.out.size)
        clear hHeld HZ HES HB4
        go_wp2
        go_ret
        exact ⟨rfl, HF.out⟩
end Go.Proofs.YtknbndebfickpaaGreatDoor
