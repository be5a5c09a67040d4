/- The law FnBases returns true at every input, and changes nothing that was there. -/
import Derived.Test.YtdidjgpgpknknaaDoorDrw6
import Derived.Test.YtdidjgpgpknknaaDoorDecB4
import Derived.Test.YtdidjgpgpknknaaDoorMrk
import Derived.Test.YtdidjgpgpknknaaDoorFld
import Derived.Test.YtdidjgpgpknknaaDoorPln
namespace Go.Proofs.YtdidjgpgpknknaaDoor
open Go.RowKit

/-- What a read base text tells. -/
theorem decB_zero {t : List Nat} (h : (decB t).1 = 0) : Xf.enc (decB t).2 = t ∧ IsB (decB t).2 ∧ (decB t).2.length ≤ 400 := by
  by_cases h1 : 1600 < t.length
  · rw [decB_long h1] at h; cases h
  · cases hd : Xf.dec t with
    | none => rw [decB_none h1 hd] at h; cases h
    | some b =>
      by_cases h2 : 400 < b.length
      · rw [decB_many h1 hd h2] at h; cases h
      · rw [decB_some h1 hd h2]
        exact ⟨(Xf.dec_some t b hd).1, (Xf.dec_some t b hd).2, by simp only; omega⟩
theorem decB_code (t : List Nat) : (decB t).1 = 0 ∨ (decB t).1 = 2 ∨ (decB t).1 = 7 := by
  by_cases h1 : 1600 < t.length
  · rw [decB_long h1]; exact .inr (.inl rfl)
  · cases hd : Xf.dec t with
    | none => rw [decB_none h1 hd]; exact .inr (.inr rfl)
    | some b =>
      by_cases h2 : 400 < b.length
      · rw [decB_many h1 hd h2]; exact .inr (.inl rfl)
      · rw [decB_some h1 hd h2]; exact .inl rfl
theorem decB_enc {l : List Nat} (hB : IsB l) (hl : l.length ≤ 400) : decB (Xf.enc l) = (0, l) :=
  decB_some (by rw [Xf.enc_len]; omega) (Xf.dec_enc l hB) (by omega)

set_option maxHeartbeats 12800000 in
set_option maxRecDepth 100000 in
theorem walkBases (a : Option Addr) (n cap : Nat) (l : List Nat) (w : World) (hl : l.length = n) (hr : Rd w a l) (hB : IsB l) (ht : TabB w) :
    Calls Tryd.prog 3 #[.slice a n cap] w fun e w' => e = .returned (.bool true) ∧ Below w.heap.size w w' := by
  by_cases hbig : 1048576 < n
  · go_enter Tryd.func3, Tryd.ntmps3
    go_wp2_with fail
    refine (lwBig_any a n cap w).mono ?_
    rintro e w1 ⟨rfl, rfl⟩
    rw [decide_eq_true (by omega)]
    go_wp2
    go_ret
    exact ⟨rfl, Below.refl _ _⟩
  · go_enter Tryd.func3, Tryd.ntmps3
    go_wp2_with fail
    refine (lwBig_any a n cap w).mono ?_
    rintro e w1 ⟨rfl, rfl⟩
    rw [decide_eq_false (by omega)]
    go_wp2_with fail
    refine (drawDecodeBase_any a n cap l w hl hr hB (by omega)).mono ?_
    rintro e w1 ⟨t, rfl, hBt, htl, hb1⟩
    have HD : Hid ((decB t).1 = 0 → Xf.enc (decB t).2 = t ∧ IsB (decB t).2 ∧ (decB t).2.length ≤ 400) := decB_zero
    have Hi : Hid (_) := fun w ht => implDecodeBase_any t _ w rfl hBt ht
    have Hs : Hid (_) := fun w => specDecodeBase_any t _ w rfl hBt
    have hcode := decB_code t
    generalize decB t = d at *
    obtain ⟨c, u⟩ := d
    simp only at HD Hi Hs hcode
    obtain ⟨N, hlN⟩ : ∃ N, u.length = N := ⟨_, rfl⟩
    go_wp2_with fail
    refine (Hi.out _ (ht.below (hb1))).mono ?_
    rintro e w2 ⟨v, rfl, ho2, hb2⟩
    obtain ⟨a2, c2, hv2, hc2, -⟩ := ho2.form
    rw [hlN] at hv2 hc2
    rw [hv2] at ho2 ⊢
    have hs1 := hb1.size
    have HBw2 : Hid (Below w.heap.size w (w2.alloc (.cells #[.int .i64 c, .slice a2 N c2] 26))) := (hb1.trans (hb2.mono hs1)).alloc (by have := hb2.size; omega) _
    have HR2 : Hid (Rd (w2.alloc (.cells #[.int .i64 c, .slice a2 N c2] 26)) a2 u) := (Own.rd ho2).2.below ((Below.refl _ _).alloc (Nat.le_refl _) _)
    obtain ⟨k0, k1, -, -⟩ := res_block (w := w2) (wr := w2.alloc (.cells #[.int .i64 c, .slice a2 N c2] 26)) rfl (Below.refl _ _)
    have hsW : (w2.alloc (.cells #[.int .i64 c, .slice a2 N c2] 26)).heap.size = w2.heap.size + 1 := by simp
    have hgw : w.heap.size ≤ w2.heap.size := by have := hb2.size; omega
    clear ho2 hv2 hb2
    go_wp2_with fail
    generalize hW2 : w2.alloc (.cells #[.int .i64 c, .slice a2 N c2] 26) = W2 at *
    clear hW2
    generalize w2.heap.size = g at *
    have HT2 : Hid (TabB W2) := ht.below HBw2.out
    have hgg : g < W2.heap.size := by omega
    have hgW : w.heap.size ≤ W2.heap.size := by omega
    have fB0 := fldB0
    have fT0 := fldT0
    have fT1 := fldT1
    rcases hcode with rfl | rfl | rfl
    case' inr.inl =>
      refine wp_region_held_drew (S := fun w' => w'.cell? ⟨g, 0, none⟩ = some (.int .i64 2) ∧ w'.cell? ⟨g, 1, none⟩ = some (.slice a2 N c2)) (by kernel_rfl) ?hS2 (fun hHeld => ?_)
      case hS2 => exact ⟨k0, k1⟩
      refine wpAnyH_take (i := 0) (v := ?_) rfl (by kernel_rfl) (by kernel_rfl) (by kernel_rfl) (fun _ _ _ h => h) (Or.inl ⟨by rfl, ?hy0_2⟩) (by assumption) ?rest0_2
      case hy0_2 => (intro w hSw; (try dsimp only at hSw); go_simp; all_goals with_reducible rfl)
      simp only [Act.put, List.getElem_toArray, List.getElem_cons_zero, List.setIfInBounds_toArray, List.set_cons_zero, List.set_cons_succ]
      refine wpAnyH_take (i := 1) (v := ?_) rfl (by kernel_rfl) (by kernel_rfl) (by kernel_rfl) (fun _ _ _ h => h) (Or.inl ⟨by rfl, ?hy1_2⟩) (by assumption) ?rest1_2
      case hy1_2 => (intro w hSw; (try dsimp only at hSw); go_simp; all_goals with_reducible rfl)
      simp only [Act.put, List.getElem_toArray, List.getElem_cons_zero, List.getElem_cons_succ, List.setIfInBounds_toArray, List.set_cons_zero, List.set_cons_succ]
      refine wpAnyH_take (i := 2) (v := ?_) rfl (by kernel_rfl) (by kernel_rfl) (by kernel_rfl) (fun _ _ _ h => h) (Or.inl ⟨by rfl, ?hy2_2⟩) (by assumption) ?rest2_2
      case hy2_2 => (intro w hSw; (try dsimp only at hSw); go_simp; all_goals with_reducible rfl)
      simp only [Act.put, List.getElem_toArray, List.getElem_cons_zero, List.getElem_cons_succ, List.setIfInBounds_toArray, List.set_cons_zero, List.set_cons_succ]
      refine wpAnyH_ready (rs := [3]) (by kernel_rfl) (by simp) ?_
      refine AllReadyH.cons rfl (fun K hK => ?_) AllReadyH.nil
      go_simp
      refine (Hs.out _).mono ?_
      rintro e w3 ⟨v3, rfl, ho3, hb3⟩
      obtain ⟨a3, c3, rfl, -, -⟩ := ho3.form
      clear ho3
      refine hK.out _ _ ⟨?hk0_2, ?hk1_2⟩ (fun hHeld => ?_)
      case hk0_2 => (rw [hb3.cell (by exact hgg)]; exact k0)
      case hk1_2 => (rw [hb3.cell (by exact hgg)]; exact k1)
      clear hK K
      refine wpAnyH_take (i := 4) (v := ?_) rfl (by kernel_rfl) (by kernel_rfl) (by kernel_rfl) (fun _ _ _ h => h) (Or.inl ⟨by rfl, ?hy4_2⟩) (by assumption) ?rest4_2
      case hy4_2 => (intro w hSw; (try dsimp only at hSw); go_simp; all_goals with_reducible rfl)
      simp only [Act.put, List.getElem_toArray, List.getElem_cons_zero, List.getElem_cons_succ, List.setIfInBounds_toArray, List.set_cons_zero, List.set_cons_succ]
      refine wpAnyH_take (i := 5) (v := ?_) rfl (by kernel_rfl) (by kernel_rfl) (by kernel_rfl) (fun _ _ _ h => h) (Or.inl ⟨by rfl, ?hy5_2⟩) (by assumption) ?rest5_2
      case hy5_2 => (intro w hSw; (try dsimp only at hSw); go_simp; all_goals with_reducible rfl)
      simp only [Act.put, List.getElem_toArray, List.getElem_cons_zero, List.getElem_cons_succ, List.setIfInBounds_toArray, List.set_cons_zero, List.set_cons_succ]
      refine wpAnyH_take (i := 6) (v := ?_) rfl (by kernel_rfl) (by kernel_rfl) (by kernel_rfl) (fun _ _ _ h => h) (Or.inl ⟨by rfl, ?hy6_2⟩) (by assumption) ?rest6_2
      case hy6_2 => (intro w hSw; (try dsimp only at hSw); go_simp; all_goals with_reducible rfl)
      simp only [Act.put, List.getElem_toArray, List.getElem_cons_zero, List.getElem_cons_succ, List.setIfInBounds_toArray, List.set_cons_zero, List.set_cons_succ]
      refine wpAnyH_take (i := 7) (v := ?_) rfl (by kernel_rfl) (by kernel_rfl) (by kernel_rfl) (fun _ _ _ h => h) (Or.inl ⟨by rfl, ?hy7_2⟩) (by assumption) ?rest7_2
      case hy7_2 => (intro w hSw; (try dsimp only at hSw); go_simp; all_goals with_reducible rfl)
      simp only [Act.put, List.getElem_toArray, List.getElem_cons_zero, List.getElem_cons_succ, List.setIfInBounds_toArray, List.set_cons_zero, List.set_cons_succ]
      refine wpAnyH_take (i := 8) (v := ?_) rfl (by kernel_rfl) (by kernel_rfl) (by kernel_rfl) (fun _ _ _ h => h) (Or.inl ⟨by rfl, ?hy8_2⟩) (by assumption) ?rest8_2
      case hy8_2 => (intro w hSw; (try dsimp only at hSw); go_simp; all_goals with_reducible rfl)
      simp only [Act.put, List.getElem_toArray, List.getElem_cons_zero, List.getElem_cons_succ, List.setIfInBounds_toArray, List.set_cons_zero, List.set_cons_succ]
      refine wpAnyH_take (i := 9) (v := ?_) rfl (by kernel_rfl) (by kernel_rfl) (by kernel_rfl) (fun _ _ _ h => h) (Or.inl ⟨by rfl, ?hy9_2⟩) (by assumption) ?rest9_2
      case hy9_2 => (intro w hSw; (try dsimp only at hSw); go_simp; all_goals with_reducible rfl)
      simp only [Act.put, List.getElem_toArray, List.getElem_cons_zero, List.getElem_cons_succ, List.setIfInBounds_toArray, List.set_cons_zero, List.set_cons_succ]
      refine wpAnyH_take (i := 10) (v := ?_) rfl (by kernel_rfl) (by kernel_rfl) (by kernel_rfl) (fun _ _ _ h => h) (Or.inl ⟨by rfl, ?hy10_2⟩) (by assumption) ?rest10_2
      case hy10_2 => (intro w hSw; (try dsimp only at hSw); go_simp; all_goals with_reducible rfl)
      simp only [Act.put, List.getElem_toArray, List.getElem_cons_zero, List.getElem_cons_succ, List.setIfInBounds_toArray, List.set_cons_zero, List.set_cons_succ]
      refine wpAnyH_take (i := 11) (v := undef) rfl (by kernel_rfl) (by kernel_rfl) (by kernel_rfl) (fun _ _ _ h => h) (Or.inr ⟨by rfl, rfl⟩) (by assumption) ?_
      simp only [Act.put, List.getElem_toArray, List.getElem_cons_zero, List.getElem_cons_succ, List.setIfInBounds_toArray, List.set_cons_zero, List.set_cons_succ]
      refine wpAnyH_take (i := 12) (v := undef) rfl (by kernel_rfl) (by kernel_rfl) (by kernel_rfl) (fun _ _ _ h => h) (Or.inr ⟨by rfl, rfl⟩) (by assumption) ?_
      simp only [Act.put, List.getElem_toArray, List.getElem_cons_zero, List.getElem_cons_succ, List.setIfInBounds_toArray, List.set_cons_zero, List.set_cons_succ]
      refine wpAnyH_take (i := 13) (v := undef) rfl (by kernel_rfl) (by kernel_rfl) (by kernel_rfl) (fun _ _ _ h => h) (Or.inr ⟨by rfl, rfl⟩) (by assumption) ?_
      simp only [Act.put, List.getElem_toArray, List.getElem_cons_zero, List.getElem_cons_succ, List.setIfInBounds_toArray, List.set_cons_zero, List.set_cons_succ]
      refine wpAnyH_take (i := 14) (v := undef) rfl (by kernel_rfl) (by kernel_rfl) (by kernel_rfl) (fun _ _ _ h => h) (Or.inr ⟨by rfl, rfl⟩) (by assumption) ?_
      simp only [Act.put, List.getElem_toArray, List.getElem_cons_zero, List.getElem_cons_succ, List.setIfInBounds_toArray, List.set_cons_zero, List.set_cons_succ]
      refine wpAnyH_take (i := 15) (v := undef) rfl (by kernel_rfl) (by kernel_rfl) (by kernel_rfl) (fun _ _ _ h => h) (Or.inr ⟨by rfl, rfl⟩) (by assumption) ?_
      simp only [Act.put, List.getElem_toArray, List.getElem_cons_zero, List.getElem_cons_succ, List.setIfInBounds_toArray, List.set_cons_zero, List.set_cons_succ]
      refine wpAnyH_take (i := 16) (v := undef) rfl (by kernel_rfl) (by kernel_rfl) (by kernel_rfl) (fun _ _ _ h => h) (Or.inr ⟨by rfl, rfl⟩) (by assumption) ?_
      simp only [Act.put, List.getElem_toArray, List.getElem_cons_zero, List.getElem_cons_succ, List.setIfInBounds_toArray, List.set_cons_zero, List.set_cons_succ]
      refine wpAnyH_take (i := 17) (v := ?_) rfl (by kernel_rfl) (by kernel_rfl) (by kernel_rfl) (fun _ _ _ h => h) (Or.inl ⟨by rfl, ?hy17_2⟩) (by assumption) ?rest17_2
      case hy17_2 => (intro w hSw; (try dsimp only at hSw); go_simp; all_goals with_reducible rfl)
      simp only [Act.put, List.getElem_toArray, List.getElem_cons_zero, List.getElem_cons_succ, List.setIfInBounds_toArray, List.set_cons_zero, List.set_cons_succ]
      refine wpAnyH_take (i := 18) (v := ?_) rfl (by kernel_rfl) (by kernel_rfl) (by kernel_rfl) (fun _ _ _ h => h) (Or.inl ⟨by rfl, ?hy18_2⟩) (by assumption) ?rest18_2
      case hy18_2 => (intro w hSw; (try dsimp only at hSw); go_simp; all_goals with_reducible rfl)
      simp only [Act.put, List.getElem_toArray, List.getElem_cons_zero, List.getElem_cons_succ, List.setIfInBounds_toArray, List.set_cons_zero, List.set_cons_succ]
      refine wpAnyH_done (by kernel_rfl) ?_ _
      have HB4 : Hid (Below w.heap.size w w3) := HBw2.out.trans ((Below.refl _ _).drew.trans (hb3.mono (by exact hgW)))
      clear hb3 hHeld k0 k1 HD Hi Hs
      generalize w3 = wE at HB4 ⊢
    case' inr.inr =>
      refine wp_region_held_drew (S := fun w' => w'.cell? ⟨g, 0, none⟩ = some (.int .i64 7) ∧ w'.cell? ⟨g, 1, none⟩ = some (.slice a2 N c2)) (by kernel_rfl) ?hS7 (fun hHeld => ?_)
      case hS7 => exact ⟨k0, k1⟩
      refine wpAnyH_take (i := 0) (v := ?_) rfl (by kernel_rfl) (by kernel_rfl) (by kernel_rfl) (fun _ _ _ h => h) (Or.inl ⟨by rfl, ?hy0_7⟩) (by assumption) ?rest0_7
      case hy0_7 => (intro w hSw; (try dsimp only at hSw); go_simp; all_goals with_reducible rfl)
      simp only [Act.put, List.getElem_toArray, List.getElem_cons_zero, List.setIfInBounds_toArray, List.set_cons_zero, List.set_cons_succ]
      refine wpAnyH_take (i := 1) (v := ?_) rfl (by kernel_rfl) (by kernel_rfl) (by kernel_rfl) (fun _ _ _ h => h) (Or.inl ⟨by rfl, ?hy1_7⟩) (by assumption) ?rest1_7
      case hy1_7 => (intro w hSw; (try dsimp only at hSw); go_simp; all_goals with_reducible rfl)
      simp only [Act.put, List.getElem_toArray, List.getElem_cons_zero, List.getElem_cons_succ, List.setIfInBounds_toArray, List.set_cons_zero, List.set_cons_succ]
      refine wpAnyH_take (i := 2) (v := ?_) rfl (by kernel_rfl) (by kernel_rfl) (by kernel_rfl) (fun _ _ _ h => h) (Or.inl ⟨by rfl, ?hy2_7⟩) (by assumption) ?rest2_7
      case hy2_7 => (intro w hSw; (try dsimp only at hSw); go_simp; all_goals with_reducible rfl)
      simp only [Act.put, List.getElem_toArray, List.getElem_cons_zero, List.getElem_cons_succ, List.setIfInBounds_toArray, List.set_cons_zero, List.set_cons_succ]
      refine wpAnyH_ready (rs := [3]) (by kernel_rfl) (by simp) ?_
      refine AllReadyH.cons rfl (fun K hK => ?_) AllReadyH.nil
      go_simp
      refine (Hs.out _).mono ?_
      rintro e w3 ⟨v3, rfl, ho3, hb3⟩
      obtain ⟨a3, c3, rfl, -, -⟩ := ho3.form
      clear ho3
      refine hK.out _ _ ⟨?hk0_7, ?hk1_7⟩ (fun hHeld => ?_)
      case hk0_7 => (rw [hb3.cell (by exact hgg)]; exact k0)
      case hk1_7 => (rw [hb3.cell (by exact hgg)]; exact k1)
      clear hK K
      refine wpAnyH_take (i := 4) (v := ?_) rfl (by kernel_rfl) (by kernel_rfl) (by kernel_rfl) (fun _ _ _ h => h) (Or.inl ⟨by rfl, ?hy4_7⟩) (by assumption) ?rest4_7
      case hy4_7 => (intro w hSw; (try dsimp only at hSw); go_simp; all_goals with_reducible rfl)
      simp only [Act.put, List.getElem_toArray, List.getElem_cons_zero, List.getElem_cons_succ, List.setIfInBounds_toArray, List.set_cons_zero, List.set_cons_succ]
      refine wpAnyH_take (i := 5) (v := ?_) rfl (by kernel_rfl) (by kernel_rfl) (by kernel_rfl) (fun _ _ _ h => h) (Or.inl ⟨by rfl, ?hy5_7⟩) (by assumption) ?rest5_7
      case hy5_7 => (intro w hSw; (try dsimp only at hSw); go_simp; all_goals with_reducible rfl)
      simp only [Act.put, List.getElem_toArray, List.getElem_cons_zero, List.getElem_cons_succ, List.setIfInBounds_toArray, List.set_cons_zero, List.set_cons_succ]
      refine wpAnyH_take (i := 6) (v := ?_) rfl (by kernel_rfl) (by kernel_rfl) (by kernel_rfl) (fun _ _ _ h => h) (Or.inl ⟨by rfl, ?hy6_7⟩) (by assumption) ?rest6_7
      case hy6_7 => (intro w hSw; (try dsimp only at hSw); go_simp; all_goals with_reducible rfl)
      simp only [Act.put, List.getElem_toArray, List.getElem_cons_zero, List.getElem_cons_succ, List.setIfInBounds_toArray, List.set_cons_zero, List.set_cons_succ]
      refine wpAnyH_take (i := 7) (v := ?_) rfl (by kernel_rfl) (by kernel_rfl) (by kernel_rfl) (fun _ _ _ h => h) (Or.inl ⟨by rfl, ?hy7_7⟩) (by assumption) ?rest7_7
      case hy7_7 => (intro w hSw; (try dsimp only at hSw); go_simp; all_goals with_reducible rfl)
      simp only [Act.put, List.getElem_toArray, List.getElem_cons_zero, List.getElem_cons_succ, List.setIfInBounds_toArray, List.set_cons_zero, List.set_cons_succ]
      refine wpAnyH_take (i := 8) (v := ?_) rfl (by kernel_rfl) (by kernel_rfl) (by kernel_rfl) (fun _ _ _ h => h) (Or.inl ⟨by rfl, ?hy8_7⟩) (by assumption) ?rest8_7
      case hy8_7 => (intro w hSw; (try dsimp only at hSw); go_simp; all_goals with_reducible rfl)
      simp only [Act.put, List.getElem_toArray, List.getElem_cons_zero, List.getElem_cons_succ, List.setIfInBounds_toArray, List.set_cons_zero, List.set_cons_succ]
      refine wpAnyH_take (i := 9) (v := ?_) rfl (by kernel_rfl) (by kernel_rfl) (by kernel_rfl) (fun _ _ _ h => h) (Or.inl ⟨by rfl, ?hy9_7⟩) (by assumption) ?rest9_7
      case hy9_7 => (intro w hSw; (try dsimp only at hSw); go_simp; all_goals with_reducible rfl)
      simp only [Act.put, List.getElem_toArray, List.getElem_cons_zero, List.getElem_cons_succ, List.setIfInBounds_toArray, List.set_cons_zero, List.set_cons_succ]
      refine wpAnyH_take (i := 10) (v := ?_) rfl (by kernel_rfl) (by kernel_rfl) (by kernel_rfl) (fun _ _ _ h => h) (Or.inl ⟨by rfl, ?hy10_7⟩) (by assumption) ?rest10_7
      case hy10_7 => (intro w hSw; (try dsimp only at hSw); go_simp; all_goals with_reducible rfl)
      simp only [Act.put, List.getElem_toArray, List.getElem_cons_zero, List.getElem_cons_succ, List.setIfInBounds_toArray, List.set_cons_zero, List.set_cons_succ]
      refine wpAnyH_take (i := 11) (v := undef) rfl (by kernel_rfl) (by kernel_rfl) (by kernel_rfl) (fun _ _ _ h => h) (Or.inr ⟨by rfl, rfl⟩) (by assumption) ?_
      simp only [Act.put, List.getElem_toArray, List.getElem_cons_zero, List.getElem_cons_succ, List.setIfInBounds_toArray, List.set_cons_zero, List.set_cons_succ]
      refine wpAnyH_take (i := 12) (v := undef) rfl (by kernel_rfl) (by kernel_rfl) (by kernel_rfl) (fun _ _ _ h => h) (Or.inr ⟨by rfl, rfl⟩) (by assumption) ?_
      simp only [Act.put, List.getElem_toArray, List.getElem_cons_zero, List.getElem_cons_succ, List.setIfInBounds_toArray, List.set_cons_zero, List.set_cons_succ]
      refine wpAnyH_take (i := 13) (v := undef) rfl (by kernel_rfl) (by kernel_rfl) (by kernel_rfl) (fun _ _ _ h => h) (Or.inr ⟨by rfl, rfl⟩) (by assumption) ?_
      simp only [Act.put, List.getElem_toArray, List.getElem_cons_zero, List.getElem_cons_succ, List.setIfInBounds_toArray, List.set_cons_zero, List.set_cons_succ]
      refine wpAnyH_take (i := 14) (v := undef) rfl (by kernel_rfl) (by kernel_rfl) (by kernel_rfl) (fun _ _ _ h => h) (Or.inr ⟨by rfl, rfl⟩) (by assumption) ?_
      simp only [Act.put, List.getElem_toArray, List.getElem_cons_zero, List.getElem_cons_succ, List.setIfInBounds_toArray, List.set_cons_zero, List.set_cons_succ]
      refine wpAnyH_take (i := 15) (v := undef) rfl (by kernel_rfl) (by kernel_rfl) (by kernel_rfl) (fun _ _ _ h => h) (Or.inr ⟨by rfl, rfl⟩) (by assumption) ?_
      simp only [Act.put, List.getElem_toArray, List.getElem_cons_zero, List.getElem_cons_succ, List.setIfInBounds_toArray, List.set_cons_zero, List.set_cons_succ]
      refine wpAnyH_take (i := 16) (v := undef) rfl (by kernel_rfl) (by kernel_rfl) (by kernel_rfl) (fun _ _ _ h => h) (Or.inr ⟨by rfl, rfl⟩) (by assumption) ?_
      simp only [Act.put, List.getElem_toArray, List.getElem_cons_zero, List.getElem_cons_succ, List.setIfInBounds_toArray, List.set_cons_zero, List.set_cons_succ]
      refine wpAnyH_take (i := 17) (v := ?_) rfl (by kernel_rfl) (by kernel_rfl) (by kernel_rfl) (fun _ _ _ h => h) (Or.inl ⟨by rfl, ?hy17_7⟩) (by assumption) ?rest17_7
      case hy17_7 => (intro w hSw; (try dsimp only at hSw); go_simp; all_goals with_reducible rfl)
      simp only [Act.put, List.getElem_toArray, List.getElem_cons_zero, List.getElem_cons_succ, List.setIfInBounds_toArray, List.set_cons_zero, List.set_cons_succ]
      refine wpAnyH_take (i := 18) (v := ?_) rfl (by kernel_rfl) (by kernel_rfl) (by kernel_rfl) (fun _ _ _ h => h) (Or.inl ⟨by rfl, ?hy18_7⟩) (by assumption) ?rest18_7
      case hy18_7 => (intro w hSw; (try dsimp only at hSw); go_simp; all_goals with_reducible rfl)
      simp only [Act.put, List.getElem_toArray, List.getElem_cons_zero, List.getElem_cons_succ, List.setIfInBounds_toArray, List.set_cons_zero, List.set_cons_succ]
      refine wpAnyH_done (by kernel_rfl) ?_ _
      have HB4 : Hid (Below w.heap.size w w3) := HBw2.out.trans ((Below.refl _ _).drew.trans (hb3.mono (by exact hgW)))
      clear hb3 hHeld k0 k1 HD Hi Hs
      generalize w3 = wE at HB4 ⊢
    case' inl =>
      obtain ⟨d1, d2, d3⟩ := HD.out rfl
      have Hib : Hid (_) := fun (a : Option Addr) (cap : Nat) (w : World) (hr : Rd w a u) (hc : N ≤ cap) (ht : TabB w) => implEncodeBase_few a N cap u w hlN hr d2 hc (by omega) ht
      rw [d1] at Hib
      first
        | (
          go_region_held3 (fun w' => w'.cell? ⟨g, 0, none⟩ = some (.int .i64 0) ∧ w'.cell? ⟨g, 1, none⟩ = some (.slice a2 N c2))
            (first
              | go_keep
              | (go_split_ands
                 refine ⟨?_, ?_⟩
                 · (rw [hb3.cell (by exact hgg)]; assumption)
                 · (rw [hb3.cell (by exact hgg)]; assumption))
              | (go_split_ands
                 refine ⟨?_, ?_⟩
                 · (rw [hb4.cell (by exact hg3)]; assumption)
                 · (rw [hb4.cell (by exact hg3)]; assumption)))
            (first
              | (go_at_call 13; refine (Hs.out _).mono ?_; rintro e w3 ⟨v3, rfl, ho3, hb3⟩; obtain ⟨a3, c3, rfl, -, -⟩ := ho3.form; clear ho3)
              | (go_at_call 14; refine (Hib.out a2 c2 _ (HR2.out.below (by exact (Below.refl _ _).drew.trans hb3)) hc2 (HT2.out.below (by exact (Below.refl _ _).drew.trans hb3))).mono ?_; rintro e w4 ⟨rfl, hb4⟩; have hg3 : g < w3.heap.size := Nat.lt_of_lt_of_le hgg (by exact hb3.size))))
        | fail
      have HB4 : Hid (Below w.heap.size w w4) := HBw2.out.trans ((Below.refl _ _).drew.trans ((hb3.mono (by exact hgW)).trans (hb4.mono (Nat.le_trans hgw (Nat.le_of_lt hg3)))))
      clear hb3 hb4 hg3 k0 k1 HD Hi Hs Hib d1 d2 d3
      generalize w4 = wE at HB4 ⊢
    · clear HBw2 HR2 HT2 hsW hgg hgW hc2 hs1 hb1 hBt htl fB0 hlN hgw
      go_wp2_with fail
      refine (drawBaseDigit_any a n cap l wE hl (hr.below HB4.out) hB (by omega)).mono ?_
      rintro e w5 ⟨r, rfl, hb5⟩
      have HB5 : Hid (Below w.heap.size w w5) := HB4.out.trans (hb5.mono HB4.out.size)
      clear hb5 HB4
      obtain ⟨cd, xd, hdg⟩ := digV_form r
      go_wp2_with fail
      refine (implBaseDigit_any r _ (ht.below HB5.out)).mono ?_
      rintro e w6 ⟨rfl, hb6⟩
      have HB6 : Hid (Below w.heap.size w w6) := HB5.out.trans (hb6.mono HB5.out.size)
      clear hb6 HB5
      rw [hdg]
      go_wp2_with fail
      refine (specBaseDigit_any r _).mono ?_
      rintro e w7 ⟨rfl, hb7⟩
      have HB7 : Hid (Below w.heap.size w w7) := HB6.out.trans (hb7.mono HB6.out.size)
      clear hb7 HB6
      rw [hdg]
      clear hdg
      go_wp2_with fail
      refine (drawLong_any a n cap l _ hl (hr.below HB7.out) hB (by omega)).1.mono ?_
      rintro e w8 ⟨v8, out, rfl, ho8, hBo, hol, hb8⟩
      obtain ⟨a8, c8, hv8, hc8, -⟩ := ho8.form
      obtain ⟨m, hm⟩ : ∃ m, out.length = m := ⟨_, rfl⟩
      rw [hm] at hv8 hc8 hol
      rw [hv8] at ho8 ⊢
      have HR8 : Hid (Rd w8 a8 out) := (Own.rd ho8).2
      have HB8 : Hid (Below w.heap.size w w8) := HB7.out.trans (hb8.mono HB7.out.size)
      clear ho8 hv8 hb8 HB7
      by_cases h4 : m ≤ 400
      · go_wp2_with fail
        refine (implEncodeBase_few a8 m c8 out _ hm HR8.out hBo hc8 h4 (ht.below HB8.out)).mono ?_
        rintro e w9 ⟨rfl, hb9⟩
        have Hd : Hid (∀ w, TabB w → Calls Tryd.prog 12 #[.string (str (Xf.enc out))] w fun e w' => ∃ v, e = .returned (.agg #[.int .i64 0, v]) ∧ Own w' w.heap.size v out ∧ Below w.heap.size w w') := fun w ht => by
          have := implDecodeBase_any (Xf.enc out) _ w rfl (enc_isB hBo) ht
          rw [decB_enc hBo (by omega)] at this
          exact this
        have Hse : Hid (∀ (a : Option Addr) (cap : Nat) (w : World), Rd w a out → Calls Tryd.prog 19 #[.slice a m cap] w fun e w' => e = .returned (.agg #[.int .i64 0, .string (str (Xf.enc out))]) ∧ Below w.heap.size w w') := fun a cap w hr => specEncodeBase_few a m cap out w hm hr hBo h4
        have HP : Hid (∀ x ∈ Xf.enc out, 1 ≤ x ∧ x < 128) := Xf.enc_plain out hBo
        have HBx : Hid (IsB (Xf.enc out)) := enc_isB hBo
        have hxl : (Xf.enc out).length = (m + 2) / 3 * 4 := by rw [Xf.enc_len, hm]
        have HB9 : Hid (Below w.heap.size w (w9.alloc (.cells #[.int .i64 0, .string (str (Xf.enc out))] 29))) := (HB8.out.trans (hb9.mono HB8.out.size)).alloc (by have := HB8.out.size; have := hb9.size; omega) _
        have HR9 : Hid (Rd (w9.alloc (.cells #[.int .i64 0, .string (str (Xf.enc out))] 29)) a8 out) := (HR8.out.below hb9).below ((Below.refl _ _).alloc (Nat.le_refl _) _)
        obtain ⟨k0, k1, -, -⟩ := res_block (w := w9) (wr := w9.alloc (.cells #[.int .i64 0, .string (str (Xf.enc out))] 29)) rfl (Below.refl _ _)
        have hsW : (w9.alloc (.cells #[.int .i64 0, .string (str (Xf.enc out))] 29)).heap.size = w9.heap.size + 1 := by simp
        clear HB8 HR8 hb9
        go_wp2_with fail
        generalize Xf.enc out = x at *
        generalize hW9 : w9.alloc (.cells #[.int .i64 0, .string (str x)] 29) = W9 at *
        clear hW9
        generalize w9.heap.size = g9 at *
        refine (Hd.out _ (ht.below HB9.out)).mono ?_
        rintro e wA ⟨vA, rfl, hoA, hbA⟩
        obtain ⟨aA, cA, hvA, hcA, -⟩ := hoA.form
        rw [hm] at hvA hcA
        rw [hvA] at hoA ⊢
        rw [hsW] at hbA hoA
        have hzA := hbA.size
        have HBA : Hid (Below w.heap.size w (wA.alloc (.cells #[.int .i64 0, .slice aA m cA] 26))) := (HB9.out.trans (hbA.mono (by have := HB9.out.size; omega))).alloc (by have := HB9.out.size; omega) _
        have HRA : Hid (Rd (wA.alloc (.cells #[.int .i64 0, .slice aA m cA] 26)) aA out) := (Own.rd hoA).2.below ((Below.refl _ _).alloc (Nat.le_refl _) _)
        have HRB : Hid (Rd (wA.alloc (.cells #[.int .i64 0, .slice aA m cA] 26)) a8 out) := (HR9.out.below (by rw [hsW]; exact hbA)).below ((Below.refl _ _).alloc (Nat.le_refl _) _)
        obtain ⟨m0, m1, -, -⟩ := res_block (w := wA) (wr := wA.alloc (.cells #[.int .i64 0, .slice aA m cA] 26)) rfl (Below.refl _ _)
        have j0 : (wA.alloc (.cells #[.int .i64 0, .slice aA m cA] 26)).cell? ⟨g9, 0, none⟩ = some (.int .i64 0) := (((Below.refl wA.heap.size wA).alloc (Nat.le_refl _) _).cell (p := ⟨g9, 0, none⟩) (show g9 < wA.heap.size by omega)).trans ((hbA.cell (p := ⟨g9, 0, none⟩) (show g9 < g9 + 1 by omega)).trans k0)
        have j1 : (wA.alloc (.cells #[.int .i64 0, .slice aA m cA] 26)).cell? ⟨g9, 1, none⟩ = some (.string (str x)) := (((Below.refl wA.heap.size wA).alloc (Nat.le_refl _) _).cell (p := ⟨g9, 1, none⟩) (show g9 < wA.heap.size by omega)).trans ((hbA.cell (p := ⟨g9, 1, none⟩) (show g9 < g9 + 1 by omega)).trans k1)
        have hsA : (wA.alloc (.cells #[.int .i64 0, .slice aA m cA] 26)).heap.size = wA.heap.size + 1 := by simp
        have hgA : g9 < wA.heap.size := by omega
        clear hoA hvA hbA HR9 HB9 k0 k1 hsW hzA
        obtain ⟨X, hX⟩ : ∃ X, x.length = X := ⟨_, rfl⟩
        rw [hX] at hxl
        have hpl : plain x = true := by
          unfold plain
          rw [List.all_eq_true]
          intro y hy
          have := HP.out y hy
          exact decide_eq_true (by omega)
        have Hip : Hid (∀ (a : Option Addr) (cap : Nat) (w : World), Rd w a x → Calls Tryd.prog 21 #[.slice a X cap] w fun e w' => e = .returned (.bool true) ∧ w' = w) := fun a cap w hr => by
          have := isPlain_any a X cap x w hX hr (by omega)
          rw [hpl] at this
          exact this
        have hsz : (str x).size = X := by rw [str_size, hX]
        have hcvt := fun wx => run_bytes_of_string (P := Tryd.prog) wx 9 22 5 (str x) Tryd.underlying9 Tryd.underlying22 Tryd.underlying5
        rw [hsz] at hcvt
        have q1 : IntKind.i64.wrap ((m : Int) + 2) = (m : Int) + 2 := by simp (disch := omega) only [IntWalk.i64_in]
        have q3 : IntKind.i64.wrap (X : Int) = (X : Int) := IntWalk.i64_in _ (by omega)
        obtain ⟨Dq, r2⟩ : ∃ D : Int, ((m : Int) + 2) / 3 = D := ⟨_, rfl⟩
        have r4 : Dq * 4 = (X : Int) := by omega
        have r1 : IntKind.i64.wrap (((m : Int) + 2).tdiv 3) = Dq := by rw [IntWalk.i64_quo _ _ (by omega), r2]
        have r3 : IntKind.i64.wrap (Dq * 4) = (X : Int) := by rw [r4]; exact IntWalk.i64_in _ (by omega)
        clear hpl HP hxl
        go_wp2_with fail
        generalize hWA : wA.alloc (.cells #[.int .i64 0, .slice aA m cA] 26) = WA at *
        clear hWA
        generalize wA.heap.size = gA at *
        refine wp_region_held_drew (S := fun w' => w'.cell? ⟨gA, 0, none⟩ = some (.int .i64 0) ∧ w'.cell? ⟨gA, 1, none⟩ = some (.slice aA m cA) ∧ w'.cell? ⟨g9, 1, none⟩ = some (.string (str x))) (by kernel_rfl) ?hSzA (fun hHeld => ?_)
        case hSzA => exact ⟨m0, m1, j1⟩
        refine wpAnyH_take (i := 0) (v := ?_) rfl (by kernel_rfl) (by kernel_rfl) (by kernel_rfl) (fun _ _ _ h => h) (Or.inl ⟨by rfl, ?hz0A⟩) (by assumption) ?tz0A
        case hz0A => (intro w hSw; (try dsimp only at hSw); go_simp; all_goals with_reducible rfl)
        simp only [Act.put, List.getElem_toArray, List.getElem_cons_zero, List.setIfInBounds_toArray, List.set_cons_zero, List.set_cons_succ]
        refine wpAnyH_take (i := 1) (v := ?_) rfl (by kernel_rfl) (by kernel_rfl) (by kernel_rfl) (fun _ _ _ h => h) (Or.inl ⟨by rfl, ?hz1A⟩) (by assumption) ?tz1A
        case hz1A => (intro w hSw; (try dsimp only at hSw); go_simp; all_goals with_reducible rfl)
        simp only [Act.put, List.getElem_toArray, List.getElem_cons_zero, List.getElem_cons_succ, List.setIfInBounds_toArray, List.set_cons_zero, List.set_cons_succ]
        refine wpAnyH_take (i := 2) (v := ?_) rfl (by kernel_rfl) (by kernel_rfl) (by kernel_rfl) (fun _ _ _ h => h) (Or.inl ⟨by rfl, ?hz2A⟩) (by assumption) ?tz2A
        case hz2A => (intro w hSw; (try dsimp only at hSw); go_simp; all_goals with_reducible rfl)
        simp only [Act.put, List.getElem_toArray, List.getElem_cons_zero, List.getElem_cons_succ, List.setIfInBounds_toArray, List.set_cons_zero, List.set_cons_succ]
        refine wpAnyH_take (i := 3) (v := ?_) rfl (by kernel_rfl) (by kernel_rfl) (by kernel_rfl) (fun _ _ _ h => h) (Or.inl ⟨by rfl, ?hz3A⟩) (by assumption) ?tz3A
        case hz3A => (intro w hSw; (try dsimp only at hSw); go_simp; all_goals with_reducible rfl)
        simp only [Act.put, List.getElem_toArray, List.getElem_cons_zero, List.getElem_cons_succ, List.setIfInBounds_toArray, List.set_cons_zero, List.set_cons_succ]
        refine wpAnyH_take (i := 4) (v := ?_) rfl (by kernel_rfl) (by kernel_rfl) (by kernel_rfl) (fun _ _ _ h => h) (Or.inl ⟨by rfl, ?hz4A⟩) (by assumption) ?tz4A
        case hz4A => (intro w hSw; (try dsimp only at hSw); go_simp; all_goals with_reducible rfl)
        simp only [Act.put, List.getElem_toArray, List.getElem_cons_zero, List.getElem_cons_succ, List.setIfInBounds_toArray, List.set_cons_zero, List.set_cons_succ]
        refine wpAnyH_take (i := 5) (v := ?_) rfl (by kernel_rfl) (by kernel_rfl) (by kernel_rfl) (fun _ _ _ h => h) (Or.inl ⟨by rfl, ?hz5A⟩) (by assumption) ?tz5A
        case hz5A => (intro w hSw; (try dsimp only at hSw); go_simp; all_goals with_reducible rfl)
        simp only [Act.put, List.getElem_toArray, List.getElem_cons_zero, List.getElem_cons_succ, List.setIfInBounds_toArray, List.set_cons_zero, List.set_cons_succ]
        refine wpAnyH_take (i := 6) (v := ?_) rfl (by kernel_rfl) (by kernel_rfl) (by kernel_rfl) (fun _ _ _ h => h) (Or.inl ⟨by rfl, ?hz6A⟩) (by assumption) ?tz6A
        case hz6A => (intro w hSw; (try dsimp only at hSw); go_simp; all_goals with_reducible rfl)
        simp only [Act.put, List.getElem_toArray, List.getElem_cons_zero, List.getElem_cons_succ, List.setIfInBounds_toArray, List.set_cons_zero, List.set_cons_succ]
        refine wpAnyH_ready (rs := [7]) (by kernel_rfl) (by simp) ?_
        refine AllReadyH.cons rfl (fun K hK => ?_) AllReadyH.nil
        go_simp
        refine (lwSame_any aA a8 m cA c8 out _ hm (by exact HRA.out) (by exact HRB.out)).mono ?_
        rintro e wY ⟨rfl, rfl⟩
        refine hK.out _ _ ⟨m0, m1, j1⟩ (fun hHeld => ?_)
        clear hK K
        refine wpAnyH_take (i := 8) (v := ?_) rfl (by kernel_rfl) (by kernel_rfl) (by kernel_rfl) (fun _ _ _ h => h) (Or.inl ⟨by rfl, ?hz8A⟩) (by assumption) ?tz8A
        case hz8A => (intro w hSw; (try dsimp only at hSw); go_simp; all_goals with_reducible rfl)
        simp only [Act.put, List.getElem_toArray, List.getElem_cons_zero, List.getElem_cons_succ, List.setIfInBounds_toArray, List.set_cons_zero, List.set_cons_succ]
        refine wpAnyH_take (i := 9) (v := ?_) rfl (by kernel_rfl) (by kernel_rfl) (by kernel_rfl) (fun _ _ _ h => h) (Or.inl ⟨by rfl, ?hz9A⟩) (by assumption) ?tz9A
        case hz9A => (intro w hSw; (try dsimp only at hSw); go_simp; all_goals with_reducible rfl)
        simp only [Act.put, List.getElem_toArray, List.getElem_cons_zero, List.getElem_cons_succ, List.setIfInBounds_toArray, List.set_cons_zero, List.set_cons_succ]
        refine wpAnyH_take (i := 10) (v := ?_) rfl (by kernel_rfl) (by kernel_rfl) (by kernel_rfl) (fun _ _ _ h => h) (Or.inl ⟨by rfl, ?hz10A⟩) (by assumption) ?tz10A
        case hz10A => (intro w hSw; (try dsimp only at hSw); go_simp; all_goals with_reducible rfl)
        simp only [Act.put, List.getElem_toArray, List.getElem_cons_zero, List.getElem_cons_succ, List.setIfInBounds_toArray, List.set_cons_zero, List.set_cons_succ]
        refine wpAnyH_take (i := 11) (v := ?_) rfl (by kernel_rfl) (by kernel_rfl) (by kernel_rfl) (fun _ _ _ h => h) (Or.inl ⟨by rfl, ?hz11A⟩) (by assumption) ?tz11A
        case hz11A => (intro w hSw; (try dsimp only at hSw); go_simp; all_goals with_reducible rfl)
        simp only [Act.put, List.getElem_toArray, List.getElem_cons_zero, List.getElem_cons_succ, List.setIfInBounds_toArray, List.set_cons_zero, List.set_cons_succ]
        refine wpAnyH_take (i := 12) (v := ?_) rfl (by kernel_rfl) (by kernel_rfl) (by kernel_rfl) (fun _ _ _ h => h) (Or.inl ⟨by rfl, ?hz12A⟩) (by assumption) ?tz12A
        case hz12A => (intro w hSw; (try dsimp only at hSw); go_simp; all_goals with_reducible rfl)
        simp only [Act.put, List.getElem_toArray, List.getElem_cons_zero, List.getElem_cons_succ, List.setIfInBounds_toArray, List.set_cons_zero, List.set_cons_succ]
        refine wpAnyH_take (i := 13) (v := ?_) rfl (by kernel_rfl) (by kernel_rfl) (by kernel_rfl) (fun _ _ _ h => h) (Or.inl ⟨by rfl, ?hz13A⟩) (by assumption) ?tz13A
        case hz13A => (intro w hSw; (try dsimp only at hSw); go_simp; all_goals with_reducible rfl)
        simp only [Act.put, List.getElem_toArray, List.getElem_cons_zero, List.getElem_cons_succ, List.setIfInBounds_toArray, List.set_cons_zero, List.set_cons_succ]
        refine wpAnyH_take (i := 14) (v := ?_) rfl (by kernel_rfl) (by kernel_rfl) (by kernel_rfl) (fun _ _ _ h => h) (Or.inl ⟨by rfl, ?hz14A⟩) (by assumption) ?tz14A
        case hz14A => (intro w hSw; (try dsimp only at hSw); go_simp; all_goals with_reducible rfl)
        simp only [Act.put, List.getElem_toArray, List.getElem_cons_zero, List.getElem_cons_succ, List.setIfInBounds_toArray, List.set_cons_zero, List.set_cons_succ]
        refine wpAnyH_take (i := 15) (v := .int .i64 ((m : Int) + 2)) rfl (by kernel_rfl) (by kernel_rfl) (by kernel_rfl) (fun _ _ _ h => h) (Or.inl ⟨by rfl, ?hz15A⟩) (by assumption) ?tz15A
        case hz15A => (intro w hSw; (try dsimp only at hSw); go_simp; all_goals with_reducible rfl)
        simp only [Act.put, List.getElem_toArray, List.getElem_cons_zero, List.getElem_cons_succ, List.setIfInBounds_toArray, List.set_cons_zero, List.set_cons_succ]
        refine wpAnyH_take (i := 16) (v := .int .i64 Dq) rfl (by kernel_rfl) (by kernel_rfl) (by kernel_rfl) (fun _ _ _ h => h) (Or.inl ⟨by rfl, ?hz16A⟩) (by assumption) ?tz16A
        case hz16A => (intro w hSw; (try dsimp only at hSw); go_simp; all_goals with_reducible rfl)
        simp only [Act.put, List.getElem_toArray, List.getElem_cons_zero, List.getElem_cons_succ, List.setIfInBounds_toArray, List.set_cons_zero, List.set_cons_succ]
        refine wpAnyH_take (i := 17) (v := .int .i64 (X : Int)) rfl (by kernel_rfl) (by kernel_rfl) (by kernel_rfl) (fun _ _ _ h => h) (Or.inl ⟨by rfl, ?hz17A⟩) (by assumption) ?tz17A
        case hz17A => (intro w hSw; (try dsimp only at hSw); go_simp; all_goals with_reducible rfl)
        simp only [Act.put, List.getElem_toArray, List.getElem_cons_zero, List.getElem_cons_succ, List.setIfInBounds_toArray, List.set_cons_zero, List.set_cons_succ]
        refine wpAnyH_take (i := 18) (v := .bool true) rfl (by kernel_rfl) (by kernel_rfl) (by kernel_rfl) (fun _ _ _ h => h) (Or.inl ⟨by rfl, ?hz18A⟩) (by assumption) ?tz18A
        case hz18A => (intro w hSw; (try dsimp only at hSw); go_simp; all_goals with_reducible rfl)
        simp only [Act.put, List.getElem_toArray, List.getElem_cons_zero, List.getElem_cons_succ, List.setIfInBounds_toArray, List.set_cons_zero, List.set_cons_succ]
        refine wpAnyH_take (i := 19) (v := ?_) rfl (by kernel_rfl) (by kernel_rfl) (by kernel_rfl) (fun _ _ _ h => h) (Or.inl ⟨by rfl, ?hz19A⟩) (by assumption) ?tz19A
        case hz19A => (intro w hSw; (try dsimp only at hSw); go_simp; all_goals with_reducible rfl)
        simp only [Act.put, List.getElem_toArray, List.getElem_cons_zero, List.getElem_cons_succ, List.setIfInBounds_toArray, List.set_cons_zero, List.set_cons_succ]
        refine wpAnyH_take (i := 20) (v := ?_) rfl (by kernel_rfl) (by kernel_rfl) (by kernel_rfl) (fun _ _ _ h => h) (Or.inl ⟨by rfl, ?hz20A⟩) (by assumption) ?tz20A
        case hz20A => (intro w hSw; (try dsimp only at hSw); go_simp; all_goals with_reducible rfl)
        simp only [Act.put, List.getElem_toArray, List.getElem_cons_zero, List.getElem_cons_succ, List.setIfInBounds_toArray, List.set_cons_zero, List.set_cons_succ]
        refine wpAnyH_take (i := 21) (v := ?_) rfl (by kernel_rfl) (by kernel_rfl) (by kernel_rfl) (fun _ _ _ h => h) (Or.inl ⟨by rfl, ?hz21A⟩) (by assumption) ?tz21A
        case hz21A => (intro w hSw; (try dsimp only at hSw); go_simp; all_goals with_reducible rfl)
        simp only [Act.put, List.getElem_toArray, List.getElem_cons_zero, List.getElem_cons_succ, List.setIfInBounds_toArray, List.set_cons_zero, List.set_cons_succ]
        refine wpAnyH_take (i := 22) (v := ?_) rfl (by kernel_rfl) (by kernel_rfl) (by kernel_rfl) (fun _ _ _ h => h) (Or.inl ⟨by rfl, ?hz22A⟩) (by assumption) ?tz22A
        case hz22A => (intro w hSw; (try dsimp only at hSw); go_simp; all_goals with_reducible rfl)
        simp only [Act.put, List.getElem_toArray, List.getElem_cons_zero, List.getElem_cons_succ, List.setIfInBounds_toArray, List.set_cons_zero, List.set_cons_succ]
        clear q1 q3 r1 r2 r3 r4
        refine wpAnyH_ready (rs := [23]) (by kernel_rfl) (by simp) ?_
        refine AllReadyH.cons rfl (fun K hK => ?_) AllReadyH.nil
        go_simp
        clear hcvt
        generalize grownCap WA.drew X 0 5 = cp
        have HRC : Hid (Rd (WA.alloc (.cells (bytesRow (str x) cp) 5 ((bytesRow (str x) cp).size, (bytesRow (str x) cp).size + 1))).drew.drew (some ⟨WA.heap.size, 0, none⟩) x) := bytesRow_rd WA x HBx.out _ _
        have HBC : Hid (Below WA.heap.size WA (WA.alloc (.cells (bytesRow (str x) cp) 5 ((bytesRow (str x) cp).size, (bytesRow (str x) cp).size + 1))).drew.drew) := ((Below.refl _ _).alloc (Nat.le_refl _) _).drew.drew
        generalize (WA.alloc (.cells (bytesRow (str x) cp) 5 ((bytesRow (str x) cp).size, (bytesRow (str x) cp).size + 1))).drew.drew = WC at HRC HBC ⊢
        rw [hsA] at HRC
        have n0 : WC.cell? ⟨gA, 0, none⟩ = some (.int .i64 0) := (HBC.out.cell (p := ⟨gA, 0, none⟩) (show gA < WA.heap.size by omega)).trans m0
        have n1 : WC.cell? ⟨gA, 1, none⟩ = some (.slice aA m cA) := (HBC.out.cell (p := ⟨gA, 1, none⟩) (show gA < WA.heap.size by omega)).trans m1
        have n2 : WC.cell? ⟨g9, 1, none⟩ = some (.string (str x)) := (HBC.out.cell (p := ⟨g9, 1, none⟩) (show g9 < WA.heap.size by omega)).trans j1
        clear m0 m1 j0 j1
        refine hK.out _ _ ⟨n0, n1, n2⟩ (fun hHeld => ?_)
        clear hK K
        refine wpAnyH_ready (rs := [24]) (by kernel_rfl) (by simp) ?_
        refine AllReadyH.cons rfl (fun K hK => ?_) AllReadyH.nil
        go_simp
        refine (Hip.out _ _ _ HRC.out).mono ?_
        rintro e wZ ⟨rfl, hwz⟩
        rw [hwz]
        clear hwz
        refine hK.out _ _ ⟨n0, n1, n2⟩ (fun hHeld => ?_)
        clear hK K
        refine wpAnyH_take (i := 25) (v := ?_) rfl (by kernel_rfl) (by kernel_rfl) (by kernel_rfl) (fun _ _ _ h => h) (Or.inl ⟨by rfl, ?hz25A⟩) (by assumption) ?tz25A
        case hz25A => (intro w hSw; (try dsimp only at hSw); go_simp; all_goals with_reducible rfl)
        simp only [Act.put, List.getElem_toArray, List.getElem_cons_zero, List.getElem_cons_succ, List.setIfInBounds_toArray, List.set_cons_zero, List.set_cons_succ]
        refine wpAnyH_take (i := 26) (v := ?_) rfl (by kernel_rfl) (by kernel_rfl) (by kernel_rfl) (fun _ _ _ h => h) (Or.inl ⟨by rfl, ?hz26A⟩) (by assumption) ?tz26A
        case hz26A => (intro w hSw; (try dsimp only at hSw); go_simp; all_goals with_reducible rfl)
        simp only [Act.put, List.getElem_toArray, List.getElem_cons_zero, List.getElem_cons_succ, List.setIfInBounds_toArray, List.set_cons_zero, List.set_cons_succ]
        refine wpAnyH_take (i := 27) (v := ?_) rfl (by kernel_rfl) (by kernel_rfl) (by kernel_rfl) (fun _ _ _ h => h) (Or.inl ⟨by rfl, ?hz27A⟩) (by assumption) ?tz27A
        case hz27A => (intro w hSw; (try dsimp only at hSw); go_simp; all_goals with_reducible rfl)
        simp only [Act.put, List.getElem_toArray, List.getElem_cons_zero, List.getElem_cons_succ, List.setIfInBounds_toArray, List.set_cons_zero, List.set_cons_succ]
        refine wpAnyH_take (i := 28) (v := ?_) rfl (by kernel_rfl) (by kernel_rfl) (by kernel_rfl) (fun _ _ _ h => h) (Or.inl ⟨by rfl, ?hz28A⟩) (by assumption) ?tz28A
        case hz28A => (intro w hSw; (try dsimp only at hSw); go_simp; all_goals with_reducible rfl)
        simp only [Act.put, List.getElem_toArray, List.getElem_cons_zero, List.getElem_cons_succ, List.setIfInBounds_toArray, List.set_cons_zero, List.set_cons_succ]
        refine wpAnyH_take (i := 29) (v := ?_) rfl (by kernel_rfl) (by kernel_rfl) (by kernel_rfl) (fun _ _ _ h => h) (Or.inl ⟨by rfl, ?hz29A⟩) (by assumption) ?tz29A
        case hz29A => (intro w hSw; (try dsimp only at hSw); go_simp; all_goals with_reducible rfl)
        simp only [Act.put, List.getElem_toArray, List.getElem_cons_zero, List.getElem_cons_succ, List.setIfInBounds_toArray, List.set_cons_zero, List.set_cons_succ]
        refine wpAnyH_ready (rs := [30]) (by kernel_rfl) (by simp) ?_
        refine AllReadyH.cons rfl (fun K hK => ?_) AllReadyH.nil
        go_simp
        refine (Hse.out a8 c8 _ (HRB.out.below HBC.out)).mono ?_
        rintro e wX ⟨rfl, hbX⟩
        have hzC := HBC.out.size
        have HBX : Hid (Below w.heap.size w wX) := HBA.out.trans ((HBC.out.mono HBA.out.size).trans (hbX.mono (Nat.le_trans HBA.out.size hzC)))
        refine hK.out _ _ ⟨(hbX.cell (p := ⟨gA, 0, none⟩) (show gA < WC.heap.size by omega)).trans n0, (hbX.cell (p := ⟨gA, 1, none⟩) (show gA < WC.heap.size by omega)).trans n1, (hbX.cell (p := ⟨g9, 1, none⟩) (show g9 < WC.heap.size by omega)).trans n2⟩ (fun hHeld => ?_)
        clear hK K hbX n0 n1 n2
        refine wpAnyH_take (i := 31) (v := ?_) rfl (by kernel_rfl) (by kernel_rfl) (by kernel_rfl) (fun _ _ _ h => h) (Or.inl ⟨by rfl, ?hz31A⟩) (by assumption) ?tz31A
        case hz31A => (intro w hSw; (try dsimp only at hSw); go_simp; all_goals with_reducible rfl)
        simp only [Act.put, List.getElem_toArray, List.getElem_cons_zero, List.getElem_cons_succ, List.setIfInBounds_toArray, List.set_cons_zero, List.set_cons_succ]
        refine wpAnyH_take (i := 32) (v := ?_) rfl (by kernel_rfl) (by kernel_rfl) (by kernel_rfl) (fun _ _ _ h => h) (Or.inl ⟨by rfl, ?hz32A⟩) (by assumption) ?tz32A
        case hz32A => (intro w hSw; (try dsimp only at hSw); go_simp; all_goals with_reducible rfl)
        simp only [Act.put, List.getElem_toArray, List.getElem_cons_zero, List.getElem_cons_succ, List.setIfInBounds_toArray, List.set_cons_zero, List.set_cons_succ]
        refine wpAnyH_take (i := 33) (v := ?_) rfl (by kernel_rfl) (by kernel_rfl) (by kernel_rfl) (fun _ _ _ h => h) (Or.inl ⟨by rfl, ?hz33A⟩) (by assumption) ?tz33A
        case hz33A => (intro w hSw; (try dsimp only at hSw); go_simp; all_goals with_reducible rfl)
        simp only [Act.put, List.getElem_toArray, List.getElem_cons_zero, List.getElem_cons_succ, List.setIfInBounds_toArray, List.set_cons_zero, List.set_cons_succ]
        refine wpAnyH_take (i := 34) (v := ?_) rfl (by kernel_rfl) (by kernel_rfl) (by kernel_rfl) (fun _ _ _ h => h) (Or.inl ⟨by rfl, ?hz34A⟩) (by assumption) ?tz34A
        case hz34A => (intro w hSw; (try dsimp only at hSw); go_simp; all_goals with_reducible rfl)
        simp only [Act.put, List.getElem_toArray, List.getElem_cons_zero, List.getElem_cons_succ, List.setIfInBounds_toArray, List.set_cons_zero, List.set_cons_succ]
        refine wpAnyH_done (by kernel_rfl) ?_ _
        go_wp2
        go_ret
        exact ⟨rfl, HBX.out⟩
      · go_wp2_with fail
        refine (encodeBase_many a8 m c8 _ (by omega)).2.mono ?_
        rintro e w9 ⟨rfl, hb9⟩
        have HB9 : Hid (Below w.heap.size w (w9.alloc (.cells #[.int .i64 2, .string ⟨#[]⟩] 29))) := (HB8.out.trans (hb9.mono HB8.out.size)).alloc (by have := HB8.out.size; have := hb9.size; omega) _
        obtain ⟨k0, k1, -, -⟩ := res_block (w := w9) (wr := w9.alloc (.cells #[.int .i64 2, .string ⟨#[]⟩] 29)) rfl (Below.refl _ _)
        have hgg : w9.heap.size < (w9.alloc (.cells #[.int .i64 2, .string ⟨#[]⟩] 29)).heap.size := by simp
        have h4' : 400 < m := by omega
        clear HB8 HR8 hb9 k1
        go_wp2_with fail
        generalize hW9 : w9.alloc (.cells #[.int .i64 2, .string ⟨#[]⟩] 29) = W9 at *
        clear hW9
        generalize w9.heap.size = g9 at *
        first
          | (
            go_region_held3 (fun w' => w'.cell? ⟨g9, 0, none⟩ = some (.int .i64 2))
              (first
                | go_keep
                | (rw [hbX.cell (by exact hgg)]; assumption))
              ((go_at_call 19; refine (encodeBase_many a8 m c8 _ h4').1.mono ?_; rintro e wX ⟨rfl, hbX⟩)))
          | fail
        have HBX : Hid (Below w.heap.size w wX) := HB9.out.trans ((Below.refl _ _).drew.trans (hbX.mono (by exact HB9.out.size)))
        go_wp2
        go_ret
        exact ⟨rfl, HBX.out⟩
    · clear HBw2 HR2 HT2 hsW hgg hgW hc2 hs1 hb1 hBt htl fB0 hlN hgw
      go_wp2_with fail
      refine (drawBaseDigit_any a n cap l wE hl (hr.below HB4.out) hB (by omega)).mono ?_
      rintro e w5 ⟨r, rfl, hb5⟩
      have HB5 : Hid (Below w.heap.size w w5) := HB4.out.trans (hb5.mono HB4.out.size)
      clear hb5 HB4
      obtain ⟨cd, xd, hdg⟩ := digV_form r
      go_wp2_with fail
      refine (implBaseDigit_any r _ (ht.below HB5.out)).mono ?_
      rintro e w6 ⟨rfl, hb6⟩
      have HB6 : Hid (Below w.heap.size w w6) := HB5.out.trans (hb6.mono HB5.out.size)
      clear hb6 HB5
      rw [hdg]
      go_wp2_with fail
      refine (specBaseDigit_any r _).mono ?_
      rintro e w7 ⟨rfl, hb7⟩
      have HB7 : Hid (Below w.heap.size w w7) := HB6.out.trans (hb7.mono HB6.out.size)
      clear hb7 HB6
      rw [hdg]
      clear hdg
      go_wp2_with fail
      refine (drawLong_any a n cap l _ hl (hr.below HB7.out) hB (by omega)).1.mono ?_
      rintro e w8 ⟨v8, out, rfl, ho8, hBo, hol, hb8⟩
      obtain ⟨a8, c8, hv8, hc8, -⟩ := ho8.form
      obtain ⟨m, hm⟩ : ∃ m, out.length = m := ⟨_, rfl⟩
      rw [hm] at hv8 hc8 hol
      rw [hv8] at ho8 ⊢
      have HR8 : Hid (Rd w8 a8 out) := (Own.rd ho8).2
      have HB8 : Hid (Below w.heap.size w w8) := HB7.out.trans (hb8.mono HB7.out.size)
      clear ho8 hv8 hb8 HB7
      by_cases h4 : m ≤ 400
      · go_wp2_with fail
        refine (implEncodeBase_few a8 m c8 out _ hm HR8.out hBo hc8 h4 (ht.below HB8.out)).mono ?_
        rintro e w9 ⟨rfl, hb9⟩
        have Hd : Hid (∀ w, TabB w → Calls Tryd.prog 12 #[.string (str (Xf.enc out))] w fun e w' => ∃ v, e = .returned (.agg #[.int .i64 0, v]) ∧ Own w' w.heap.size v out ∧ Below w.heap.size w w') := fun w ht => by
          have := implDecodeBase_any (Xf.enc out) _ w rfl (enc_isB hBo) ht
          rw [decB_enc hBo (by omega)] at this
          exact this
        have Hse : Hid (∀ (a : Option Addr) (cap : Nat) (w : World), Rd w a out → Calls Tryd.prog 19 #[.slice a m cap] w fun e w' => e = .returned (.agg #[.int .i64 0, .string (str (Xf.enc out))]) ∧ Below w.heap.size w w') := fun a cap w hr => specEncodeBase_few a m cap out w hm hr hBo h4
        have HP : Hid (∀ x ∈ Xf.enc out, 1 ≤ x ∧ x < 128) := Xf.enc_plain out hBo
        have HBx : Hid (IsB (Xf.enc out)) := enc_isB hBo
        have hxl : (Xf.enc out).length = (m + 2) / 3 * 4 := by rw [Xf.enc_len, hm]
        have HB9 : Hid (Below w.heap.size w (w9.alloc (.cells #[.int .i64 0, .string (str (Xf.enc out))] 29))) := (HB8.out.trans (hb9.mono HB8.out.size)).alloc (by have := HB8.out.size; have := hb9.size; omega) _
        have HR9 : Hid (Rd (w9.alloc (.cells #[.int .i64 0, .string (str (Xf.enc out))] 29)) a8 out) := (HR8.out.below hb9).below ((Below.refl _ _).alloc (Nat.le_refl _) _)
        obtain ⟨k0, k1, -, -⟩ := res_block (w := w9) (wr := w9.alloc (.cells #[.int .i64 0, .string (str (Xf.enc out))] 29)) rfl (Below.refl _ _)
        have hsW : (w9.alloc (.cells #[.int .i64 0, .string (str (Xf.enc out))] 29)).heap.size = w9.heap.size + 1 := by simp
        clear HB8 HR8 hb9
        go_wp2_with fail
        generalize Xf.enc out = x at *
        generalize hW9 : w9.alloc (.cells #[.int .i64 0, .string (str x)] 29) = W9 at *
        clear hW9
        generalize w9.heap.size = g9 at *
        refine (Hd.out _ (ht.below HB9.out)).mono ?_
        rintro e wA ⟨vA, rfl, hoA, hbA⟩
        obtain ⟨aA, cA, hvA, hcA, -⟩ := hoA.form
        rw [hm] at hvA hcA
        rw [hvA] at hoA ⊢
        rw [hsW] at hbA hoA
        have hzA := hbA.size
        have HBA : Hid (Below w.heap.size w (wA.alloc (.cells #[.int .i64 0, .slice aA m cA] 26))) := (HB9.out.trans (hbA.mono (by have := HB9.out.size; omega))).alloc (by have := HB9.out.size; omega) _
        have HRA : Hid (Rd (wA.alloc (.cells #[.int .i64 0, .slice aA m cA] 26)) aA out) := (Own.rd hoA).2.below ((Below.refl _ _).alloc (Nat.le_refl _) _)
        have HRB : Hid (Rd (wA.alloc (.cells #[.int .i64 0, .slice aA m cA] 26)) a8 out) := (HR9.out.below (by rw [hsW]; exact hbA)).below ((Below.refl _ _).alloc (Nat.le_refl _) _)
        obtain ⟨m0, m1, -, -⟩ := res_block (w := wA) (wr := wA.alloc (.cells #[.int .i64 0, .slice aA m cA] 26)) rfl (Below.refl _ _)
        have j0 : (wA.alloc (.cells #[.int .i64 0, .slice aA m cA] 26)).cell? ⟨g9, 0, none⟩ = some (.int .i64 0) := (((Below.refl wA.heap.size wA).alloc (Nat.le_refl _) _).cell (p := ⟨g9, 0, none⟩) (show g9 < wA.heap.size by omega)).trans ((hbA.cell (p := ⟨g9, 0, none⟩) (show g9 < g9 + 1 by omega)).trans k0)
        have j1 : (wA.alloc (.cells #[.int .i64 0, .slice aA m cA] 26)).cell? ⟨g9, 1, none⟩ = some (.string (str x)) := (((Below.refl wA.heap.size wA).alloc (Nat.le_refl _) _).cell (p := ⟨g9, 1, none⟩) (show g9 < wA.heap.size by omega)).trans ((hbA.cell (p := ⟨g9, 1, none⟩) (show g9 < g9 + 1 by omega)).trans k1)
        have hsA : (wA.alloc (.cells #[.int .i64 0, .slice aA m cA] 26)).heap.size = wA.heap.size + 1 := by simp
        have hgA : g9 < wA.heap.size := by omega
        clear hoA hvA hbA HR9 HB9 k0 k1 hsW hzA
        obtain ⟨X, hX⟩ : ∃ X, x.length = X := ⟨_, rfl⟩
        rw [hX] at hxl
        have hpl : plain x = true := by
          unfold plain
          rw [List.all_eq_true]
          intro y hy
          have := HP.out y hy
          exact decide_eq_true (by omega)
        have Hip : Hid (∀ (a : Option Addr) (cap : Nat) (w : World), Rd w a x → Calls Tryd.prog 21 #[.slice a X cap] w fun e w' => e = .returned (.bool true) ∧ w' = w) := fun a cap w hr => by
          have := isPlain_any a X cap x w hX hr (by omega)
          rw [hpl] at this
          exact this
        have hsz : (str x).size = X := by rw [str_size, hX]
        have hcvt := fun wx => run_bytes_of_string (P := Tryd.prog) wx 9 22 5 (str x) Tryd.underlying9 Tryd.underlying22 Tryd.underlying5
        rw [hsz] at hcvt
        have q1 : IntKind.i64.wrap ((m : Int) + 2) = (m : Int) + 2 := by simp (disch := omega) only [IntWalk.i64_in]
        have q3 : IntKind.i64.wrap (X : Int) = (X : Int) := IntWalk.i64_in _ (by omega)
        obtain ⟨Dq, r2⟩ : ∃ D : Int, ((m : Int) + 2) / 3 = D := ⟨_, rfl⟩
        have r4 : Dq * 4 = (X : Int) := by omega
        have r1 : IntKind.i64.wrap (((m : Int) + 2).tdiv 3) = Dq := by rw [IntWalk.i64_quo _ _ (by omega), r2]
        have r3 : IntKind.i64.wrap (Dq * 4) = (X : Int) := by rw [r4]; exact IntWalk.i64_in _ (by omega)
        clear hpl HP hxl
        go_wp2_with fail
        generalize hWA : wA.alloc (.cells #[.int .i64 0, .slice aA m cA] 26) = WA at *
        clear hWA
        generalize wA.heap.size = gA at *
        refine wp_region_held_drew (S := fun w' => w'.cell? ⟨gA, 0, none⟩ = some (.int .i64 0) ∧ w'.cell? ⟨gA, 1, none⟩ = some (.slice aA m cA) ∧ w'.cell? ⟨g9, 1, none⟩ = some (.string (str x))) (by kernel_rfl) ?hSzB (fun hHeld => ?_)
        case hSzB => exact ⟨m0, m1, j1⟩
        refine wpAnyH_take (i := 0) (v := ?_) rfl (by kernel_rfl) (by kernel_rfl) (by kernel_rfl) (fun _ _ _ h => h) (Or.inl ⟨by rfl, ?hz0B⟩) (by assumption) ?tz0B
        case hz0B => (intro w hSw; (try dsimp only at hSw); go_simp; all_goals with_reducible rfl)
        simp only [Act.put, List.getElem_toArray, List.getElem_cons_zero, List.setIfInBounds_toArray, List.set_cons_zero, List.set_cons_succ]
        refine wpAnyH_take (i := 1) (v := ?_) rfl (by kernel_rfl) (by kernel_rfl) (by kernel_rfl) (fun _ _ _ h => h) (Or.inl ⟨by rfl, ?hz1B⟩) (by assumption) ?tz1B
        case hz1B => (intro w hSw; (try dsimp only at hSw); go_simp; all_goals with_reducible rfl)
        simp only [Act.put, List.getElem_toArray, List.getElem_cons_zero, List.getElem_cons_succ, List.setIfInBounds_toArray, List.set_cons_zero, List.set_cons_succ]
        refine wpAnyH_take (i := 2) (v := ?_) rfl (by kernel_rfl) (by kernel_rfl) (by kernel_rfl) (fun _ _ _ h => h) (Or.inl ⟨by rfl, ?hz2B⟩) (by assumption) ?tz2B
        case hz2B => (intro w hSw; (try dsimp only at hSw); go_simp; all_goals with_reducible rfl)
        simp only [Act.put, List.getElem_toArray, List.getElem_cons_zero, List.getElem_cons_succ, List.setIfInBounds_toArray, List.set_cons_zero, List.set_cons_succ]
        refine wpAnyH_take (i := 3) (v := ?_) rfl (by kernel_rfl) (by kernel_rfl) (by kernel_rfl) (fun _ _ _ h => h) (Or.inl ⟨by rfl, ?hz3B⟩) (by assumption) ?tz3B
        case hz3B => (intro w hSw; (try dsimp only at hSw); go_simp; all_goals with_reducible rfl)
        simp only [Act.put, List.getElem_toArray, List.getElem_cons_zero, List.getElem_cons_succ, List.setIfInBounds_toArray, List.set_cons_zero, List.set_cons_succ]
        refine wpAnyH_take (i := 4) (v := ?_) rfl (by kernel_rfl) (by kernel_rfl) (by kernel_rfl) (fun _ _ _ h => h) (Or.inl ⟨by rfl, ?hz4B⟩) (by assumption) ?tz4B
        case hz4B => (intro w hSw; (try dsimp only at hSw); go_simp; all_goals with_reducible rfl)
        simp only [Act.put, List.getElem_toArray, List.getElem_cons_zero, List.getElem_cons_succ, List.setIfInBounds_toArray, List.set_cons_zero, List.set_cons_succ]
        refine wpAnyH_take (i := 5) (v := ?_) rfl (by kernel_rfl) (by kernel_rfl) (by kernel_rfl) (fun _ _ _ h => h) (Or.inl ⟨by rfl, ?hz5B⟩) (by assumption) ?tz5B
        case hz5B => (intro w hSw; (try dsimp only at hSw); go_simp; all_goals with_reducible rfl)
        simp only [Act.put, List.getElem_toArray, List.getElem_cons_zero, List.getElem_cons_succ, List.setIfInBounds_toArray, List.set_cons_zero, List.set_cons_succ]
        refine wpAnyH_take (i := 6) (v := ?_) rfl (by kernel_rfl) (by kernel_rfl) (by kernel_rfl) (fun _ _ _ h => h) (Or.inl ⟨by rfl, ?hz6B⟩) (by assumption) ?tz6B
        case hz6B => (intro w hSw; (try dsimp only at hSw); go_simp; all_goals with_reducible rfl)
        simp only [Act.put, List.getElem_toArray, List.getElem_cons_zero, List.getElem_cons_succ, List.setIfInBounds_toArray, List.set_cons_zero, List.set_cons_succ]
        refine wpAnyH_ready (rs := [7]) (by kernel_rfl) (by simp) ?_
        refine AllReadyH.cons rfl (fun K hK => ?_) AllReadyH.nil
        go_simp
        refine (lwSame_any aA a8 m cA c8 out _ hm (by exact HRA.out) (by exact HRB.out)).mono ?_
        rintro e wY ⟨rfl, rfl⟩
        refine hK.out _ _ ⟨m0, m1, j1⟩ (fun hHeld => ?_)
        clear hK K
        refine wpAnyH_take (i := 8) (v := ?_) rfl (by kernel_rfl) (by kernel_rfl) (by kernel_rfl) (fun _ _ _ h => h) (Or.inl ⟨by rfl, ?hz8B⟩) (by assumption) ?tz8B
        case hz8B => (intro w hSw; (try dsimp only at hSw); go_simp; all_goals with_reducible rfl)
        simp only [Act.put, List.getElem_toArray, List.getElem_cons_zero, List.getElem_cons_succ, List.setIfInBounds_toArray, List.set_cons_zero, List.set_cons_succ]
        refine wpAnyH_take (i := 9) (v := ?_) rfl (by kernel_rfl) (by kernel_rfl) (by kernel_rfl) (fun _ _ _ h => h) (Or.inl ⟨by rfl, ?hz9B⟩) (by assumption) ?tz9B
        case hz9B => (intro w hSw; (try dsimp only at hSw); go_simp; all_goals with_reducible rfl)
        simp only [Act.put, List.getElem_toArray, List.getElem_cons_zero, List.getElem_cons_succ, List.setIfInBounds_toArray, List.set_cons_zero, List.set_cons_succ]
        refine wpAnyH_take (i := 10) (v := ?_) rfl (by kernel_rfl) (by kernel_rfl) (by kernel_rfl) (fun _ _ _ h => h) (Or.inl ⟨by rfl, ?hz10B⟩) (by assumption) ?tz10B
        case hz10B => (intro w hSw; (try dsimp only at hSw); go_simp; all_goals with_reducible rfl)
        simp only [Act.put, List.getElem_toArray, List.getElem_cons_zero, List.getElem_cons_succ, List.setIfInBounds_toArray, List.set_cons_zero, List.set_cons_succ]
        refine wpAnyH_take (i := 11) (v := ?_) rfl (by kernel_rfl) (by kernel_rfl) (by kernel_rfl) (fun _ _ _ h => h) (Or.inl ⟨by rfl, ?hz11B⟩) (by assumption) ?tz11B
        case hz11B => (intro w hSw; (try dsimp only at hSw); go_simp; all_goals with_reducible rfl)
        simp only [Act.put, List.getElem_toArray, List.getElem_cons_zero, List.getElem_cons_succ, List.setIfInBounds_toArray, List.set_cons_zero, List.set_cons_succ]
        refine wpAnyH_take (i := 12) (v := ?_) rfl (by kernel_rfl) (by kernel_rfl) (by kernel_rfl) (fun _ _ _ h => h) (Or.inl ⟨by rfl, ?hz12B⟩) (by assumption) ?tz12B
        case hz12B => (intro w hSw; (try dsimp only at hSw); go_simp; all_goals with_reducible rfl)
        simp only [Act.put, List.getElem_toArray, List.getElem_cons_zero, List.getElem_cons_succ, List.setIfInBounds_toArray, List.set_cons_zero, List.set_cons_succ]
        refine wpAnyH_take (i := 13) (v := ?_) rfl (by kernel_rfl) (by kernel_rfl) (by kernel_rfl) (fun _ _ _ h => h) (Or.inl ⟨by rfl, ?hz13B⟩) (by assumption) ?tz13B
        case hz13B => (intro w hSw; (try dsimp only at hSw); go_simp; all_goals with_reducible rfl)
        simp only [Act.put, List.getElem_toArray, List.getElem_cons_zero, List.getElem_cons_succ, List.setIfInBounds_toArray, List.set_cons_zero, List.set_cons_succ]
        refine wpAnyH_take (i := 14) (v := ?_) rfl (by kernel_rfl) (by kernel_rfl) (by kernel_rfl) (fun _ _ _ h => h) (Or.inl ⟨by rfl, ?hz14B⟩) (by assumption) ?tz14B
        case hz14B => (intro w hSw; (try dsimp only at hSw); go_simp; all_goals with_reducible rfl)
        simp only [Act.put, List.getElem_toArray, List.getElem_cons_zero, List.getElem_cons_succ, List.setIfInBounds_toArray, List.set_cons_zero, List.set_cons_succ]
        refine wpAnyH_take (i := 15) (v := .int .i64 ((m : Int) + 2)) rfl (by kernel_rfl) (by kernel_rfl) (by kernel_rfl) (fun _ _ _ h => h) (Or.inl ⟨by rfl, ?hz15B⟩) (by assumption) ?tz15B
        case hz15B => (intro w hSw; (try dsimp only at hSw); go_simp; all_goals with_reducible rfl)
        simp only [Act.put, List.getElem_toArray, List.getElem_cons_zero, List.getElem_cons_succ, List.setIfInBounds_toArray, List.set_cons_zero, List.set_cons_succ]
        refine wpAnyH_take (i := 16) (v := .int .i64 Dq) rfl (by kernel_rfl) (by kernel_rfl) (by kernel_rfl) (fun _ _ _ h => h) (Or.inl ⟨by rfl, ?hz16B⟩) (by assumption) ?tz16B
        case hz16B => (intro w hSw; (try dsimp only at hSw); go_simp; all_goals with_reducible rfl)
        simp only [Act.put, List.getElem_toArray, List.getElem_cons_zero, List.getElem_cons_succ, List.setIfInBounds_toArray, List.set_cons_zero, List.set_cons_succ]
        refine wpAnyH_take (i := 17) (v := .int .i64 (X : Int)) rfl (by kernel_rfl) (by kernel_rfl) (by kernel_rfl) (fun _ _ _ h => h) (Or.inl ⟨by rfl, ?hz17B⟩) (by assumption) ?tz17B
        case hz17B => (intro w hSw; (try dsimp only at hSw); go_simp; all_goals with_reducible rfl)
        simp only [Act.put, List.getElem_toArray, List.getElem_cons_zero, List.getElem_cons_succ, List.setIfInBounds_toArray, List.set_cons_zero, List.set_cons_succ]
        refine wpAnyH_take (i := 18) (v := .bool true) rfl (by kernel_rfl) (by kernel_rfl) (by kernel_rfl) (fun _ _ _ h => h) (Or.inl ⟨by rfl, ?hz18B⟩) (by assumption) ?tz18B
        case hz18B => (intro w hSw; (try dsimp only at hSw); go_simp; all_goals with_reducible rfl)
        simp only [Act.put, List.getElem_toArray, List.getElem_cons_zero, List.getElem_cons_succ, List.setIfInBounds_toArray, List.set_cons_zero, List.set_cons_succ]
        refine wpAnyH_take (i := 19) (v := ?_) rfl (by kernel_rfl) (by kernel_rfl) (by kernel_rfl) (fun _ _ _ h => h) (Or.inl ⟨by rfl, ?hz19B⟩) (by assumption) ?tz19B
        case hz19B => (intro w hSw; (try dsimp only at hSw); go_simp; all_goals with_reducible rfl)
        simp only [Act.put, List.getElem_toArray, List.getElem_cons_zero, List.getElem_cons_succ, List.setIfInBounds_toArray, List.set_cons_zero, List.set_cons_succ]
        refine wpAnyH_take (i := 20) (v := ?_) rfl (by kernel_rfl) (by kernel_rfl) (by kernel_rfl) (fun _ _ _ h => h) (Or.inl ⟨by rfl, ?hz20B⟩) (by assumption) ?tz20B
        case hz20B => (intro w hSw; (try dsimp only at hSw); go_simp; all_goals with_reducible rfl)
        simp only [Act.put, List.getElem_toArray, List.getElem_cons_zero, List.getElem_cons_succ, List.setIfInBounds_toArray, List.set_cons_zero, List.set_cons_succ]
        refine wpAnyH_take (i := 21) (v := ?_) rfl (by kernel_rfl) (by kernel_rfl) (by kernel_rfl) (fun _ _ _ h => h) (Or.inl ⟨by rfl, ?hz21B⟩) (by assumption) ?tz21B
        case hz21B => (intro w hSw; (try dsimp only at hSw); go_simp; all_goals with_reducible rfl)
        simp only [Act.put, List.getElem_toArray, List.getElem_cons_zero, List.getElem_cons_succ, List.setIfInBounds_toArray, List.set_cons_zero, List.set_cons_succ]
        refine wpAnyH_take (i := 22) (v := ?_) rfl (by kernel_rfl) (by kernel_rfl) (by kernel_rfl) (fun _ _ _ h => h) (Or.inl ⟨by rfl, ?hz22B⟩) (by assumption) ?tz22B
        case hz22B => (intro w hSw; (try dsimp only at hSw); go_simp; all_goals with_reducible rfl)
        simp only [Act.put, List.getElem_toArray, List.getElem_cons_zero, List.getElem_cons_succ, List.setIfInBounds_toArray, List.set_cons_zero, List.set_cons_succ]
        clear q1 q3 r1 r2 r3 r4
        refine wpAnyH_ready (rs := [23]) (by kernel_rfl) (by simp) ?_
        refine AllReadyH.cons rfl (fun K hK => ?_) AllReadyH.nil
        go_simp
        clear hcvt
        generalize grownCap WA.drew X 0 5 = cp
        have HRC : Hid (Rd (WA.alloc (.cells (bytesRow (str x) cp) 5 ((bytesRow (str x) cp).size, (bytesRow (str x) cp).size + 1))).drew.drew (some ⟨WA.heap.size, 0, none⟩) x) := bytesRow_rd WA x HBx.out _ _
        have HBC : Hid (Below WA.heap.size WA (WA.alloc (.cells (bytesRow (str x) cp) 5 ((bytesRow (str x) cp).size, (bytesRow (str x) cp).size + 1))).drew.drew) := ((Below.refl _ _).alloc (Nat.le_refl _) _).drew.drew
        generalize (WA.alloc (.cells (bytesRow (str x) cp) 5 ((bytesRow (str x) cp).size, (bytesRow (str x) cp).size + 1))).drew.drew = WC at HRC HBC ⊢
        rw [hsA] at HRC
        have n0 : WC.cell? ⟨gA, 0, none⟩ = some (.int .i64 0) := (HBC.out.cell (p := ⟨gA, 0, none⟩) (show gA < WA.heap.size by omega)).trans m0
        have n1 : WC.cell? ⟨gA, 1, none⟩ = some (.slice aA m cA) := (HBC.out.cell (p := ⟨gA, 1, none⟩) (show gA < WA.heap.size by omega)).trans m1
        have n2 : WC.cell? ⟨g9, 1, none⟩ = some (.string (str x)) := (HBC.out.cell (p := ⟨g9, 1, none⟩) (show g9 < WA.heap.size by omega)).trans j1
        clear m0 m1 j0 j1
        refine hK.out _ _ ⟨n0, n1, n2⟩ (fun hHeld => ?_)
        clear hK K
        refine wpAnyH_ready (rs := [24]) (by kernel_rfl) (by simp) ?_
        refine AllReadyH.cons rfl (fun K hK => ?_) AllReadyH.nil
        go_simp
        refine (Hip.out _ _ _ HRC.out).mono ?_
        rintro e wZ ⟨rfl, hwz⟩
        rw [hwz]
        clear hwz
        refine hK.out _ _ ⟨n0, n1, n2⟩ (fun hHeld => ?_)
        clear hK K
        refine wpAnyH_take (i := 25) (v := ?_) rfl (by kernel_rfl) (by kernel_rfl) (by kernel_rfl) (fun _ _ _ h => h) (Or.inl ⟨by rfl, ?hz25B⟩) (by assumption) ?tz25B
        case hz25B => (intro w hSw; (try dsimp only at hSw); go_simp; all_goals with_reducible rfl)
        simp only [Act.put, List.getElem_toArray, List.getElem_cons_zero, List.getElem_cons_succ, List.setIfInBounds_toArray, List.set_cons_zero, List.set_cons_succ]
        refine wpAnyH_take (i := 26) (v := ?_) rfl (by kernel_rfl) (by kernel_rfl) (by kernel_rfl) (fun _ _ _ h => h) (Or.inl ⟨by rfl, ?hz26B⟩) (by assumption) ?tz26B
        case hz26B => (intro w hSw; (try dsimp only at hSw); go_simp; all_goals with_reducible rfl)
        simp only [Act.put, List.getElem_toArray, List.getElem_cons_zero, List.getElem_cons_succ, List.setIfInBounds_toArray, List.set_cons_zero, List.set_cons_succ]
        refine wpAnyH_take (i := 27) (v := ?_) rfl (by kernel_rfl) (by kernel_rfl) (by kernel_rfl) (fun _ _ _ h => h) (Or.inl ⟨by rfl, ?hz27B⟩) (by assumption) ?tz27B
        case hz27B => (intro w hSw; (try dsimp only at hSw); go_simp; all_goals with_reducible rfl)
        simp only [Act.put, List.getElem_toArray, List.getElem_cons_zero, List.getElem_cons_succ, List.setIfInBounds_toArray, List.set_cons_zero, List.set_cons_succ]
        refine wpAnyH_take (i := 28) (v := ?_) rfl (by kernel_rfl) (by kernel_rfl) (by kernel_rfl) (fun _ _ _ h => h) (Or.inl ⟨by rfl, ?hz28B⟩) (by assumption) ?tz28B
        case hz28B => (intro w hSw; (try dsimp only at hSw); go_simp; all_goals with_reducible rfl)
        simp only [Act.put, List.getElem_toArray, List.getElem_cons_zero, List.getElem_cons_succ, List.setIfInBounds_toArray, List.set_cons_zero, List.set_cons_succ]
        refine wpAnyH_take (i := 29) (v := ?_) rfl (by kernel_rfl) (by kernel_rfl) (by kernel_rfl) (fun _ _ _ h => h) (Or.inl ⟨by rfl, ?hz29B⟩) (by assumption) ?tz29B
        case hz29B => (intro w hSw; (try dsimp only at hSw); go_simp; all_goals with_reducible rfl)
        simp only [Act.put, List.getElem_toArray, List.getElem_cons_zero, List.getElem_cons_succ, List.setIfInBounds_toArray, List.set_cons_zero, List.set_cons_succ]
        refine wpAnyH_ready (rs := [30]) (by kernel_rfl) (by simp) ?_
        refine AllReadyH.cons rfl (fun K hK => ?_) AllReadyH.nil
        go_simp
        refine (Hse.out a8 c8 _ (HRB.out.below HBC.out)).mono ?_
        rintro e wX ⟨rfl, hbX⟩
        have hzC := HBC.out.size
        have HBX : Hid (Below w.heap.size w wX) := HBA.out.trans ((HBC.out.mono HBA.out.size).trans (hbX.mono (Nat.le_trans HBA.out.size hzC)))
        refine hK.out _ _ ⟨(hbX.cell (p := ⟨gA, 0, none⟩) (show gA < WC.heap.size by omega)).trans n0, (hbX.cell (p := ⟨gA, 1, none⟩) (show gA < WC.heap.size by omega)).trans n1, (hbX.cell (p := ⟨g9, 1, none⟩) (show g9 < WC.heap.size by omega)).trans n2⟩ (fun hHeld => ?_)
        clear hK K hbX n0 n1 n2
        refine wpAnyH_take (i := 31) (v := ?_) rfl (by kernel_rfl) (by kernel_rfl) (by kernel_rfl) (fun _ _ _ h => h) (Or.inl ⟨by rfl, ?hz31B⟩) (by assumption) ?tz31B
        case hz31B => (intro w hSw; (try dsimp only at hSw); go_simp; all_goals with_reducible rfl)
        simp only [Act.put, List.getElem_toArray, List.getElem_cons_zero, List.getElem_cons_succ, List.setIfInBounds_toArray, List.set_cons_zero, List.set_cons_succ]
        refine wpAnyH_take (i := 32) (v := ?_) rfl (by kernel_rfl) (by kernel_rfl) (by kernel_rfl) (fun _ _ _ h => h) (Or.inl ⟨by rfl, ?hz32B⟩) (by assumption) ?tz32B
        case hz32B => (intro w hSw; (try dsimp only at hSw); go_simp; all_goals with_reducible rfl)
        simp only [Act.put, List.getElem_toArray, List.getElem_cons_zero, List.getElem_cons_succ, List.setIfInBounds_toArray, List.set_cons_zero, List.set_cons_succ]
        refine wpAnyH_take (i := 33) (v := ?_) rfl (by kernel_rfl) (by kernel_rfl) (by kernel_rfl) (fun _ _ _ h => h) (Or.inl ⟨by rfl, ?hz33B⟩) (by assumption) ?tz33B
        case hz33B => (intro w hSw; (try dsimp only at hSw); go_simp; all_goals with_reducible rfl)
        simp only [Act.put, List.getElem_toArray, List.getElem_cons_zero, List.getElem_cons_succ, List.setIfInBounds_toArray, List.set_cons_zero, List.set_cons_succ]
        refine wpAnyH_take (i := 34) (v := ?_) rfl (by kernel_rfl) (by kernel_rfl) (by kernel_rfl) (fun _ _ _ h => h) (Or.inl ⟨by rfl, ?hz34B⟩) (by assumption) ?tz34B
        case hz34B => (intro w hSw; (try dsimp only at hSw); go_simp; all_goals with_reducible rfl)
        simp only [Act.put, List.getElem_toArray, List.getElem_cons_zero, List.getElem_cons_succ, List.setIfInBounds_toArray, List.set_cons_zero, List.set_cons_succ]
        refine wpAnyH_done (by kernel_rfl) ?_ _
        go_wp2
        go_ret
        exact ⟨rfl, HBX.out⟩
      · go_wp2_with fail
        refine (encodeBase_many a8 m c8 _ (by omega)).2.mono ?_
        rintro e w9 ⟨rfl, hb9⟩
        have HB9 : Hid (Below w.heap.size w (w9.alloc (.cells #[.int .i64 2, .string ⟨#[]⟩] 29))) := (HB8.out.trans (hb9.mono HB8.out.size)).alloc (by have := HB8.out.size; have := hb9.size; omega) _
        obtain ⟨k0, k1, -, -⟩ := res_block (w := w9) (wr := w9.alloc (.cells #[.int .i64 2, .string ⟨#[]⟩] 29)) rfl (Below.refl _ _)
        have hgg : w9.heap.size < (w9.alloc (.cells #[.int .i64 2, .string ⟨#[]⟩] 29)).heap.size := by simp
        have h4' : 400 < m := by omega
        clear HB8 HR8 hb9 k1
        go_wp2_with fail
        generalize hW9 : w9.alloc (.cells #[.int .i64 2, .string ⟨#[]⟩] 29) = W9 at *
        clear hW9
        generalize w9.heap.size = g9 at *
        first
          | (
            go_region_held3 (fun w' => w'.cell? ⟨g9, 0, none⟩ = some (.int .i64 2))
              (first
                | go_keep
                | (rw [hbX.cell (by exact hgg)]; assumption))
              ((go_at_call 19; refine (encodeBase_many a8 m c8 _ h4').1.mono ?_; rintro e wX ⟨rfl, hbX⟩)))
          | fail
        have HBX : Hid (Below w.heap.size w wX) := HB9.out.trans ((Below.refl _ _).drew.trans (hbX.mono (by exact HB9.out.size)))
        go_wp2
        go_ret
        exact ⟨rfl, HBX.out⟩
    · clear HBw2 HR2 HT2 hsW hgg hgW hc2 hs1 hb1 hBt htl fB0 hlN hgw
      go_wp2_with fail
      refine (drawBaseDigit_any a n cap l wE hl (hr.below HB4.out) hB (by omega)).mono ?_
      rintro e w5 ⟨r, rfl, hb5⟩
      have HB5 : Hid (Below w.heap.size w w5) := HB4.out.trans (hb5.mono HB4.out.size)
      clear hb5 HB4
      obtain ⟨cd, xd, hdg⟩ := digV_form r
      go_wp2_with fail
      refine (implBaseDigit_any r _ (ht.below HB5.out)).mono ?_
      rintro e w6 ⟨rfl, hb6⟩
      have HB6 : Hid (Below w.heap.size w w6) := HB5.out.trans (hb6.mono HB5.out.size)
      clear hb6 HB5
      rw [hdg]
      go_wp2_with fail
      refine (specBaseDigit_any r _).mono ?_
      rintro e w7 ⟨rfl, hb7⟩
      have HB7 : Hid (Below w.heap.size w w7) := HB6.out.trans (hb7.mono HB6.out.size)
      clear hb7 HB6
      rw [hdg]
      clear hdg
      go_wp2_with fail
      refine (drawLong_any a n cap l _ hl (hr.below HB7.out) hB (by omega)).1.mono ?_
      rintro e w8 ⟨v8, out, rfl, ho8, hBo, hol, hb8⟩
      obtain ⟨a8, c8, hv8, hc8, -⟩ := ho8.form
      obtain ⟨m, hm⟩ : ∃ m, out.length = m := ⟨_, rfl⟩
      rw [hm] at hv8 hc8 hol
      rw [hv8] at ho8 ⊢
      have HR8 : Hid (Rd w8 a8 out) := (Own.rd ho8).2
      have HB8 : Hid (Below w.heap.size w w8) := HB7.out.trans (hb8.mono HB7.out.size)
      clear ho8 hv8 hb8 HB7
      by_cases h4 : m ≤ 400
      · go_wp2_with fail
        refine (implEncodeBase_few a8 m c8 out _ hm HR8.out hBo hc8 h4 (ht.below HB8.out)).mono ?_
        rintro e w9 ⟨rfl, hb9⟩
        have Hd : Hid (∀ w, TabB w → Calls Tryd.prog 12 #[.string (str (Xf.enc out))] w fun e w' => ∃ v, e = .returned (.agg #[.int .i64 0, v]) ∧ Own w' w.heap.size v out ∧ Below w.heap.size w w') := fun w ht => by
          have := implDecodeBase_any (Xf.enc out) _ w rfl (enc_isB hBo) ht
          rw [decB_enc hBo (by omega)] at this
          exact this
        have Hse : Hid (∀ (a : Option Addr) (cap : Nat) (w : World), Rd w a out → Calls Tryd.prog 19 #[.slice a m cap] w fun e w' => e = .returned (.agg #[.int .i64 0, .string (str (Xf.enc out))]) ∧ Below w.heap.size w w') := fun a cap w hr => specEncodeBase_few a m cap out w hm hr hBo h4
        have HP : Hid (∀ x ∈ Xf.enc out, 1 ≤ x ∧ x < 128) := Xf.enc_plain out hBo
        have HBx : Hid (IsB (Xf.enc out)) := enc_isB hBo
        have hxl : (Xf.enc out).length = (m + 2) / 3 * 4 := by rw [Xf.enc_len, hm]
        have HB9 : Hid (Below w.heap.size w (w9.alloc (.cells #[.int .i64 0, .string (str (Xf.enc out))] 29))) := (HB8.out.trans (hb9.mono HB8.out.size)).alloc (by have := HB8.out.size; have := hb9.size; omega) _
        have HR9 : Hid (Rd (w9.alloc (.cells #[.int .i64 0, .string (str (Xf.enc out))] 29)) a8 out) := (HR8.out.below hb9).below ((Below.refl _ _).alloc (Nat.le_refl _) _)
        obtain ⟨k0, k1, -, -⟩ := res_block (w := w9) (wr := w9.alloc (.cells #[.int .i64 0, .string (str (Xf.enc out))] 29)) rfl (Below.refl _ _)
        have hsW : (w9.alloc (.cells #[.int .i64 0, .string (str (Xf.enc out))] 29)).heap.size = w9.heap.size + 1 := by simp
        clear HB8 HR8 hb9
        go_wp2_with fail
        generalize Xf.enc out = x at *
        generalize hW9 : w9.alloc (.cells #[.int .i64 0, .string (str x)] 29) = W9 at *
        clear hW9
        generalize w9.heap.size = g9 at *
        refine (Hd.out _ (ht.below HB9.out)).mono ?_
        rintro e wA ⟨vA, rfl, hoA, hbA⟩
        obtain ⟨aA, cA, hvA, hcA, -⟩ := hoA.form
        rw [hm] at hvA hcA
        rw [hvA] at hoA ⊢
        rw [hsW] at hbA hoA
        have hzA := hbA.size
        have HBA : Hid (Below w.heap.size w (wA.alloc (.cells #[.int .i64 0, .slice aA m cA] 26))) := (HB9.out.trans (hbA.mono (by have := HB9.out.size; omega))).alloc (by have := HB9.out.size; omega) _
        have HRA : Hid (Rd (wA.alloc (.cells #[.int .i64 0, .slice aA m cA] 26)) aA out) := (Own.rd hoA).2.below ((Below.refl _ _).alloc (Nat.le_refl _) _)
        have HRB : Hid (Rd (wA.alloc (.cells #[.int .i64 0, .slice aA m cA] 26)) a8 out) := (HR9.out.below (by rw [hsW]; exact hbA)).below ((Below.refl _ _).alloc (Nat.le_refl _) _)
        obtain ⟨m0, m1, -, -⟩ := res_block (w := wA) (wr := wA.alloc (.cells #[.int .i64 0, .slice aA m cA] 26)) rfl (Below.refl _ _)
        have j0 : (wA.alloc (.cells #[.int .i64 0, .slice aA m cA] 26)).cell? ⟨g9, 0, none⟩ = some (.int .i64 0) := (((Below.refl wA.heap.size wA).alloc (Nat.le_refl _) _).cell (p := ⟨g9, 0, none⟩) (show g9 < wA.heap.size by omega)).trans ((hbA.cell (p := ⟨g9, 0, none⟩) (show g9 < g9 + 1 by omega)).trans k0)
        have j1 : (wA.alloc (.cells #[.int .i64 0, .slice aA m cA] 26)).cell? ⟨g9, 1, none⟩ = some (.string (str x)) := (((Below.refl wA.heap.size wA).alloc (Nat.le_refl _) _).cell (p := ⟨g9, 1, none⟩) (show g9 < wA.heap.size by omega)).trans ((hbA.cell (p := ⟨g9, 1, none⟩) (show g9 < g9 + 1 by omega)).trans k1)
        have hsA : (wA.alloc (.cells #[.int .i64 0, .slice aA m cA] 26)).heap.size = wA.heap.size + 1 := by simp
        have hgA : g9 < wA.heap.size := by omega
        clear hoA hvA hbA HR9 HB9 k0 k1 hsW hzA
        obtain ⟨X, hX⟩ : ∃ X, x.length = X := ⟨_, rfl⟩
        rw [hX] at hxl
        have hpl : plain x = true := by
          unfold plain
          rw [List.all_eq_true]
          intro y hy
          have := HP.out y hy
          exact decide_eq_true (by omega)
        have Hip : Hid (∀ (a : Option Addr) (cap : Nat) (w : World), Rd w a x → Calls Tryd.prog 21 #[.slice a X cap] w fun e w' => e = .returned (.bool true) ∧ w' = w) := fun a cap w hr => by
          have := isPlain_any a X cap x w hX hr (by omega)
          rw [hpl] at this
          exact this
        have hsz : (str x).size = X := by rw [str_size, hX]
        have hcvt := fun wx => run_bytes_of_string (P := Tryd.prog) wx 9 22 5 (str x) Tryd.underlying9 Tryd.underlying22 Tryd.underlying5
        rw [hsz] at hcvt
        have q1 : IntKind.i64.wrap ((m : Int) + 2) = (m : Int) + 2 := by simp (disch := omega) only [IntWalk.i64_in]
        have q3 : IntKind.i64.wrap (X : Int) = (X : Int) := IntWalk.i64_in _ (by omega)
        obtain ⟨Dq, r2⟩ : ∃ D : Int, ((m : Int) + 2) / 3 = D := ⟨_, rfl⟩
        have r4 : Dq * 4 = (X : Int) := by omega
        have r1 : IntKind.i64.wrap (((m : Int) + 2).tdiv 3) = Dq := by rw [IntWalk.i64_quo _ _ (by omega), r2]
        have r3 : IntKind.i64.wrap (Dq * 4) = (X : Int) := by rw [r4]; exact IntWalk.i64_in _ (by omega)
        clear hpl HP hxl
        go_wp2_with fail
        generalize hWA : wA.alloc (.cells #[.int .i64 0, .slice aA m cA] 26) = WA at *
        clear hWA
        generalize wA.heap.size = gA at *
        refine wp_region_held_drew (S := fun w' => w'.cell? ⟨gA, 0, none⟩ = some (.int .i64 0) ∧ w'.cell? ⟨gA, 1, none⟩ = some (.slice aA m cA) ∧ w'.cell? ⟨g9, 1, none⟩ = some (.string (str x))) (by kernel_rfl) ?hSzC (fun hHeld => ?_)
        case hSzC => exact ⟨m0, m1, j1⟩
        refine wpAnyH_take (i := 0) (v := ?_) rfl (by kernel_rfl) (by kernel_rfl) (by kernel_rfl) (fun _ _ _ h => h) (Or.inl ⟨by rfl, ?hz0C⟩) (by assumption) ?tz0C
        case hz0C => (intro w hSw; (try dsimp only at hSw); go_simp; all_goals with_reducible rfl)
        simp only [Act.put, List.getElem_toArray, List.getElem_cons_zero, List.setIfInBounds_toArray, List.set_cons_zero, List.set_cons_succ]
        refine wpAnyH_take (i := 1) (v := ?_) rfl (by kernel_rfl) (by kernel_rfl) (by kernel_rfl) (fun _ _ _ h => h) (Or.inl ⟨by rfl, ?hz1C⟩) (by assumption) ?tz1C
        case hz1C => (intro w hSw; (try dsimp only at hSw); go_simp; all_goals with_reducible rfl)
        simp only [Act.put, List.getElem_toArray, List.getElem_cons_zero, List.getElem_cons_succ, List.setIfInBounds_toArray, List.set_cons_zero, List.set_cons_succ]
        refine wpAnyH_take (i := 2) (v := ?_) rfl (by kernel_rfl) (by kernel_rfl) (by kernel_rfl) (fun _ _ _ h => h) (Or.inl ⟨by rfl, ?hz2C⟩) (by assumption) ?tz2C
        case hz2C => (intro w hSw; (try dsimp only at hSw); go_simp; all_goals with_reducible rfl)
        simp only [Act.put, List.getElem_toArray, List.getElem_cons_zero, List.getElem_cons_succ, List.setIfInBounds_toArray, List.set_cons_zero, List.set_cons_succ]
        refine wpAnyH_take (i := 3) (v := ?_) rfl (by kernel_rfl) (by kernel_rfl) (by kernel_rfl) (fun _ _ _ h => h) (Or.inl ⟨by rfl, ?hz3C⟩) (by assumption) ?tz3C
        case hz3C => (intro w hSw; (try dsimp only at hSw); go_simp; all_goals with_reducible rfl)
        simp only [Act.put, List.getElem_toArray, List.getElem_cons_zero, List.getElem_cons_succ, List.setIfInBounds_toArray, List.set_cons_zero, List.set_cons_succ]
        refine wpAnyH_take (i := 4) (v := ?_) rfl (by kernel_rfl) (by kernel_rfl) (by kernel_rfl) (fun _ _ _ h => h) (Or.inl ⟨by rfl, ?hz4C⟩) (by assumption) ?tz4C
        case hz4C => (intro w hSw; (try dsimp only at hSw); go_simp; all_goals with_reducible rfl)
        simp only [Act.put, List.getElem_toArray, List.getElem_cons_zero, List.getElem_cons_succ, List.setIfInBounds_toArray, List.set_cons_zero, List.set_cons_succ]
        refine wpAnyH_take (i := 5) (v := ?_) rfl (by kernel_rfl) (by kernel_rfl) (by kernel_rfl) (fun _ _ _ h => h) (Or.inl ⟨by rfl, ?hz5C⟩) (by assumption) ?tz5C
        case hz5C => (intro w hSw; (try dsimp only at hSw); go_simp; all_goals with_reducible rfl)
        simp only [Act.put, List.getElem_toArray, List.getElem_cons_zero, List.getElem_cons_succ, List.setIfInBounds_toArray, List.set_cons_zero, List.set_cons_succ]
        refine wpAnyH_take (i := 6) (v := ?_) rfl (by kernel_rfl) (by kernel_rfl) (by kernel_rfl) (fun _ _ _ h => h) (Or.inl ⟨by rfl, ?hz6C⟩) (by assumption) ?tz6C
        case hz6C => (intro w hSw; (try dsimp only at hSw); go_simp; all_goals with_reducible rfl)
        simp only [Act.put, List.getElem_toArray, List.getElem_cons_zero, List.getElem_cons_succ, List.setIfInBounds_toArray, List.set_cons_zero, List.set_cons_succ]
        refine wpAnyH_ready (rs := [7]) (by kernel_rfl) (by simp) ?_
        refine AllReadyH.cons rfl (fun K hK => ?_) AllReadyH.nil
        go_simp
        refine (lwSame_any aA a8 m cA c8 out _ hm (by exact HRA.out) (by exact HRB.out)).mono ?_
        rintro e wY ⟨rfl, rfl⟩
        refine hK.out _ _ ⟨m0, m1, j1⟩ (fun hHeld => ?_)
        clear hK K
        refine wpAnyH_take (i := 8) (v := ?_) rfl (by kernel_rfl) (by kernel_rfl) (by kernel_rfl) (fun _ _ _ h => h) (Or.inl ⟨by rfl, ?hz8C⟩) (by assumption) ?tz8C
        case hz8C => (intro w hSw; (try dsimp only at hSw); go_simp; all_goals with_reducible rfl)
        simp only [Act.put, List.getElem_toArray, List.getElem_cons_zero, List.getElem_cons_succ, List.setIfInBounds_toArray, List.set_cons_zero, List.set_cons_succ]
        refine wpAnyH_take (i := 9) (v := ?_) rfl (by kernel_rfl) (by kernel_rfl) (by kernel_rfl) (fun _ _ _ h => h) (Or.inl ⟨by rfl, ?hz9C⟩) (by assumption) ?tz9C
        case hz9C => (intro w hSw; (try dsimp only at hSw); go_simp; all_goals with_reducible rfl)
        simp only [Act.put, List.getElem_toArray, List.getElem_cons_zero, List.getElem_cons_succ, List.setIfInBounds_toArray, List.set_cons_zero, List.set_cons_succ]
        refine wpAnyH_take (i := 10) (v := ?_) rfl (by kernel_rfl) (by kernel_rfl) (by kernel_rfl) (fun _ _ _ h => h) (Or.inl ⟨by rfl, ?hz10C⟩) (by assumption) ?tz10C
        case hz10C => (intro w hSw; (try dsimp only at hSw); go_simp; all_goals with_reducible rfl)
        simp only [Act.put, List.getElem_toArray, List.getElem_cons_zero, List.getElem_cons_succ, List.setIfInBounds_toArray, List.set_cons_zero, List.set_cons_succ]
        refine wpAnyH_take (i := 11) (v := ?_) rfl (by kernel_rfl) (by kernel_rfl) (by kernel_rfl) (fun _ _ _ h => h) (Or.inl ⟨by rfl, ?hz11C⟩) (by assumption) ?tz11C
        case hz11C => (intro w hSw; (try dsimp only at hSw); go_simp; all_goals with_reducible rfl)
        simp only [Act.put, List.getElem_toArray, List.getElem_cons_zero, List.getElem_cons_succ, List.setIfInBounds_toArray, List.set_cons_zero, List.set_cons_succ]
        refine wpAnyH_take (i := 12) (v := ?_) rfl (by kernel_rfl) (by kernel_rfl) (by kernel_rfl) (fun _ _ _ h => h) (Or.inl ⟨by rfl, ?hz12C⟩) (by assumption) ?tz12C
        case hz12C => (intro w hSw; (try dsimp only at hSw); go_simp; all_goals with_reducible rfl)
        simp only [Act.put, List.getElem_toArray, List.getElem_cons_zero, List.getElem_cons_succ, List.setIfInBounds_toArray, List.set_cons_zero, List.set_cons_succ]
        refine wpAnyH_take (i := 13) (v := ?_) rfl (by kernel_rfl) (by kernel_rfl) (by kernel_rfl) (fun _ _ _ h => h) (Or.inl ⟨by rfl, ?hz13C⟩) (by assumption) ?tz13C
        case hz13C => (intro w hSw; (try dsimp only at hSw); go_simp; all_goals with_reducible rfl)
        simp only [Act.put, List.getElem_toArray, List.getElem_cons_zero, List.getElem_cons_succ, List.setIfInBounds_toArray, List.set_cons_zero, List.set_cons_succ]
        refine wpAnyH_take (i := 14) (v := ?_) rfl (by kernel_rfl) (by kernel_rfl) (by kernel_rfl) (fun _ _ _ h => h) (Or.inl ⟨by rfl, ?hz14C⟩) (by assumption) ?tz14C
        case hz14C => (intro w hSw; (try dsimp only at hSw); go_simp; all_goals with_reducible rfl)
        simp only [Act.put, List.getElem_toArray, List.getElem_cons_zero, List.getElem_cons_succ, List.setIfInBounds_toArray, List.set_cons_zero, List.set_cons_succ]
        refine wpAnyH_take (i := 15) (v := .int .i64 ((m : Int) + 2)) rfl (by kernel_rfl) (by kernel_rfl) (by kernel_rfl) (fun _ _ _ h => h) (Or.inl ⟨by rfl, ?hz15C⟩) (by assumption) ?tz15C
        case hz15C => (intro w hSw; (try dsimp only at hSw); go_simp; all_goals with_reducible rfl)
        simp only [Act.put, List.getElem_toArray, List.getElem_cons_zero, List.getElem_cons_succ, List.setIfInBounds_toArray, List.set_cons_zero, List.set_cons_succ]
        refine wpAnyH_take (i := 16) (v := .int .i64 Dq) rfl (by kernel_rfl) (by kernel_rfl) (by kernel_rfl) (fun _ _ _ h => h) (Or.inl ⟨by rfl, ?hz16C⟩) (by assumption) ?tz16C
        case hz16C => (intro w hSw; (try dsimp only at hSw); go_simp; all_goals with_reducible rfl)
        simp only [Act.put, List.getElem_toArray, List.getElem_cons_zero, List.getElem_cons_succ, List.setIfInBounds_toArray, List.set_cons_zero, List.set_cons_succ]
        refine wpAnyH_take (i := 17) (v := .int .i64 (X : Int)) rfl (by kernel_rfl) (by kernel_rfl) (by kernel_rfl) (fun _ _ _ h => h) (Or.inl ⟨by rfl, ?hz17C⟩) (by assumption) ?tz17C
        case hz17C => (intro w hSw; (try dsimp only at hSw); go_simp; all_goals with_reducible rfl)
        simp only [Act.put, List.getElem_toArray, List.getElem_cons_zero, List.getElem_cons_succ, List.setIfInBounds_toArray, List.set_cons_zero, List.set_cons_succ]
        refine wpAnyH_take (i := 18) (v := .bool true) rfl (by kernel_rfl) (by kernel_rfl) (by kernel_rfl) (fun _ _ _ h => h) (Or.inl ⟨by rfl, ?hz18C⟩) (by assumption) ?tz18C
        case hz18C => (intro w hSw; (try dsimp only at hSw); go_simp; all_goals with_reducible rfl)
        simp only [Act.put, List.getElem_toArray, List.getElem_cons_zero, List.getElem_cons_succ, List.setIfInBounds_toArray, List.set_cons_zero, List.set_cons_succ]
        refine wpAnyH_take (i := 19) (v := ?_) rfl (by kernel_rfl) (by kernel_rfl) (by kernel_rfl) (fun _ _ _ h => h) (Or.inl ⟨by rfl, ?hz19C⟩) (by assumption) ?tz19C
        case hz19C => (intro w hSw; (try dsimp only at hSw); go_simp; all_goals with_reducible rfl)
        simp only [Act.put, List.getElem_toArray, List.getElem_cons_zero, List.getElem_cons_succ, List.setIfInBounds_toArray, List.set_cons_zero, List.set_cons_succ]
        refine wpAnyH_take (i := 20) (v := ?_) rfl (by kernel_rfl) (by kernel_rfl) (by kernel_rfl) (fun _ _ _ h => h) (Or.inl ⟨by rfl, ?hz20C⟩) (by assumption) ?tz20C
        case hz20C => (intro w hSw; (try dsimp only at hSw); go_simp; all_goals with_reducible rfl)
        simp only [Act.put, List.getElem_toArray, List.getElem_cons_zero, List.getElem_cons_succ, List.setIfInBounds_toArray, List.set_cons_zero, List.set_cons_succ]
        refine wpAnyH_take (i := 21) (v := ?_) rfl (by kernel_rfl) (by kernel_rfl) (by kernel_rfl) (fun _ _ _ h => h) (Or.inl ⟨by rfl, ?hz21C⟩) (by assumption) ?tz21C
        case hz21C => (intro w hSw; (try dsimp only at hSw); go_simp; all_goals with_reducible rfl)
        simp only [Act.put, List.getElem_toArray, List.getElem_cons_zero, List.getElem_cons_succ, List.setIfInBounds_toArray, List.set_cons_zero, List.set_cons_succ]
        refine wpAnyH_take (i := 22) (v := ?_) rfl (by kernel_rfl) (by kernel_rfl) (by kernel_rfl) (fun _ _ _ h => h) (Or.inl ⟨by rfl, ?hz22C⟩) (by assumption) ?tz22C
        case hz22C => (intro w hSw; (try dsimp only at hSw); go_simp; all_goals with_reducible rfl)
        simp only [Act.put, List.getElem_toArray, List.getElem_cons_zero, List.getElem_cons_succ, List.setIfInBounds_toArray, List.set_cons_zero, List.set_cons_succ]
        clear q1 q3 r1 r2 r3 r4
        refine wpAnyH_ready (rs := [23]) (by kernel_rfl) (by simp) ?_
        refine AllReadyH.cons rfl (fun K hK => ?_) AllReadyH.nil
        go_simp
        clear hcvt
        generalize grownCap WA.drew X 0 5 = cp
        have HRC : Hid (Rd (WA.alloc (.cells (bytesRow (str x) cp) 5 ((bytesRow (str x) cp).size, (bytesRow (str x) cp).size + 1))).drew.drew (some ⟨WA.heap.size, 0, none⟩) x) := bytesRow_rd WA x HBx.out _ _
        have HBC : Hid (Below WA.heap.size WA (WA.alloc (.cells (bytesRow (str x) cp) 5 ((bytesRow (str x) cp).size, (bytesRow (str x) cp).size + 1))).drew.drew) := ((Below.refl _ _).alloc (Nat.le_refl _) _).drew.drew
        generalize (WA.alloc (.cells (bytesRow (str x) cp) 5 ((bytesRow (str x) cp).size, (bytesRow (str x) cp).size + 1))).drew.drew = WC at HRC HBC ⊢
        rw [hsA] at HRC
        have n0 : WC.cell? ⟨gA, 0, none⟩ = some (.int .i64 0) := (HBC.out.cell (p := ⟨gA, 0, none⟩) (show gA < WA.heap.size by omega)).trans m0
        have n1 : WC.cell? ⟨gA, 1, none⟩ = some (.slice aA m cA) := (HBC.out.cell (p := ⟨gA, 1, none⟩) (show gA < WA.heap.size by omega)).trans m1
        have n2 : WC.cell? ⟨g9, 1, none⟩ = some (.string (str x)) := (HBC.out.cell (p := ⟨g9, 1, none⟩) (show g9 < WA.heap.size by omega)).trans j1
        clear m0 m1 j0 j1
        refine hK.out _ _ ⟨n0, n1, n2⟩ (fun hHeld => ?_)
        clear hK K
        refine wpAnyH_ready (rs := [24]) (by kernel_rfl) (by simp) ?_
        refine AllReadyH.cons rfl (fun K hK => ?_) AllReadyH.nil
        go_simp
        refine (Hip.out _ _ _ HRC.out).mono ?_
        rintro e wZ ⟨rfl, hwz⟩
        rw [hwz]
        clear hwz
        refine hK.out _ _ ⟨n0, n1, n2⟩ (fun hHeld => ?_)
        clear hK K
        refine wpAnyH_take (i := 25) (v := ?_) rfl (by kernel_rfl) (by kernel_rfl) (by kernel_rfl) (fun _ _ _ h => h) (Or.inl ⟨by rfl, ?hz25C⟩) (by assumption) ?tz25C
        case hz25C => (intro w hSw; (try dsimp only at hSw); go_simp; all_goals with_reducible rfl)
        simp only [Act.put, List.getElem_toArray, List.getElem_cons_zero, List.getElem_cons_succ, List.setIfInBounds_toArray, List.set_cons_zero, List.set_cons_succ]
        refine wpAnyH_take (i := 26) (v := ?_) rfl (by kernel_rfl) (by kernel_rfl) (by kernel_rfl) (fun _ _ _ h => h) (Or.inl ⟨by rfl, ?hz26C⟩) (by assumption) ?tz26C
        case hz26C => (intro w hSw; (try dsimp only at hSw); go_simp; all_goals with_reducible rfl)
        simp only [Act.put, List.getElem_toArray, List.getElem_cons_zero, List.getElem_cons_succ, List.setIfInBounds_toArray, List.set_cons_zero, List.set_cons_succ]
        refine wpAnyH_take (i := 27) (v := ?_) rfl (by kernel_rfl) (by kernel_rfl) (by kernel_rfl) (fun _ _ _ h => h) (Or.inl ⟨by rfl, ?hz27C⟩) (by assumption) ?tz27C
        case hz27C => (intro w hSw; (try dsimp only at hSw); go_simp; all_goals with_reducible rfl)
        simp only [Act.put, List.getElem_toArray, List.getElem_cons_zero, List.getElem_cons_succ, List.setIfInBounds_toArray, List.set_cons_zero, List.set_cons_succ]
        refine wpAnyH_take (i := 28) (v := ?_) rfl (by kernel_rfl) (by kernel_rfl) (by kernel_rfl) (fun _ _ _ h => h) (Or.inl ⟨by rfl, ?hz28C⟩) (by assumption) ?tz28C
        case hz28C => (intro w hSw; (try dsimp only at hSw); go_simp; all_goals with_reducible rfl)
        simp only [Act.put, List.getElem_toArray, List.getElem_cons_zero, List.getElem_cons_succ, List.setIfInBounds_toArray, List.set_cons_zero, List.set_cons_succ]
        refine wpAnyH_take (i := 29) (v := ?_) rfl (by kernel_rfl) (by kernel_rfl) (by kernel_rfl) (fun _ _ _ h => h) (Or.inl ⟨by rfl, ?hz29C⟩) (by assumption) ?tz29C
        case hz29C => (intro w hSw; (try dsimp only at hSw); go_simp; all_goals with_reducible rfl)
        simp only [Act.put, List.getElem_toArray, List.getElem_cons_zero, List.getElem_cons_succ, List.setIfInBounds_toArray, List.set_cons_zero, List.set_cons_succ]
        refine wpAnyH_ready (rs := [30]) (by kernel_rfl) (by simp) ?_
        refine AllReadyH.cons rfl (fun K hK => ?_) AllReadyH.nil
        go_simp
        refine (Hse.out a8 c8 _ (HRB.out.below HBC.out)).mono ?_
        rintro e wX ⟨rfl, hbX⟩
        have hzC := HBC.out.size
        have HBX : Hid (Below w.heap.size w wX) := HBA.out.trans ((HBC.out.mono HBA.out.size).trans (hbX.mono (Nat.le_trans HBA.out.size hzC)))
        refine hK.out _ _ ⟨(hbX.cell (p := ⟨gA, 0, none⟩) (show gA < WC.heap.size by omega)).trans n0, (hbX.cell (p := ⟨gA, 1, none⟩) (show gA < WC.heap.size by omega)).trans n1, (hbX.cell (p := ⟨g9, 1, none⟩) (show g9 < WC.heap.size by omega)).trans n2⟩ (fun hHeld => ?_)
        clear hK K hbX n0 n1 n2
        refine wpAnyH_take (i := 31) (v := ?_) rfl (by kernel_rfl) (by kernel_rfl) (by kernel_rfl) (fun _ _ _ h => h) (Or.inl ⟨by rfl, ?hz31C⟩) (by assumption) ?tz31C
        case hz31C => (intro w hSw; (try dsimp only at hSw); go_simp; all_goals with_reducible rfl)
        simp only [Act.put, List.getElem_toArray, List.getElem_cons_zero, List.getElem_cons_succ, List.setIfInBounds_toArray, List.set_cons_zero, List.set_cons_succ]
        refine wpAnyH_take (i := 32) (v := ?_) rfl (by kernel_rfl) (by kernel_rfl) (by kernel_rfl) (fun _ _ _ h => h) (Or.inl ⟨by rfl, ?hz32C⟩) (by assumption) ?tz32C
        case hz32C => (intro w hSw; (try dsimp only at hSw); go_simp; all_goals with_reducible rfl)
        simp only [Act.put, List.getElem_toArray, List.getElem_cons_zero, List.getElem_cons_succ, List.setIfInBounds_toArray, List.set_cons_zero, List.set_cons_succ]
        refine wpAnyH_take (i := 33) (v := ?_) rfl (by kernel_rfl) (by kernel_rfl) (by kernel_rfl) (fun _ _ _ h => h) (Or.inl ⟨by rfl, ?hz33C⟩) (by assumption) ?tz33C
        case hz33C => (intro w hSw; (try dsimp only at hSw); go_simp; all_goals with_reducible rfl)
        simp only [Act.put, List.getElem_toArray, List.getElem_cons_zero, List.getElem_cons_succ, List.setIfInBounds_toArray, List.set_cons_zero, List.set_cons_succ]
        refine wpAnyH_take (i := 34) (v := ?_) rfl (by kernel_rfl) (by kernel_rfl) (by kernel_rfl) (fun _ _ _ h => h) (Or.inl ⟨by rfl, ?hz34C⟩) (by assumption) ?tz34C
        case hz34C => (intro w hSw; (try dsimp only at hSw); go_simp; all_goals with_reducible rfl)
        simp only [Act.put, List.getElem_toArray, List.getElem_cons_zero, List.getElem_cons_succ, List.setIfInBounds_toArray, List.set_cons_zero, List.set_cons_succ]
        refine wpAnyH_done (by kernel_rfl) ?_ _
        go_wp2
        go_ret
        exact ⟨rfl, HBX.out⟩
      · go_wp2_with fail
        refine (encodeBase_many a8 m c8 _ (by omega)).2.mono ?_
        rintro e w9 ⟨rfl, hb9⟩
        have HB9 : Hid (Below w.heap.size w (w9.alloc (.cells #[.int .i64 2, .string ⟨#[]⟩] 29))) := (HB8.out.trans (hb9.mono HB8.out.size)).alloc (by have := HB8.out.size; have := hb9.size; omega) _
        obtain ⟨k0, k1, -, -⟩ := res_block (w := w9) (wr := w9.alloc (.cells #[.int .i64 2, .string ⟨#[]⟩] 29)) rfl (Below.refl _ _)
        have hgg : w9.heap.size < (w9.alloc (.cells #[.int .i64 2, .string ⟨#[]⟩] 29)).heap.size := by simp
        have h4' : 400 < m := by omega
        clear HB8 HR8 hb9 k1
        go_wp2_with fail
        generalize hW9 : w9.alloc (.cells #[.int .i64 2, .string ⟨#[]⟩] 29) = W9 at *
        clear hW9
        generalize w9.heap.size = g9 at *
        first
          | (
            go_region_held3 (fun w' => w'.cell? ⟨g9, 0, none⟩ = some (.int .i64 2))
              (first
                | go_keep
                | (rw [hbX.cell (by exact hgg)]; assumption))
              ((go_at_call 19; refine (encodeBase_many a8 m c8 _ h4').1.mono ?_; rintro e wX ⟨rfl, hbX⟩)))
          | fail
        have HBX : Hid (Below w.heap.size w wX) := HB9.out.trans ((Below.refl _ _).drew.trans (hbX.mono (by exact HB9.out.size)))
        go_wp2
        go_ret
        exact ⟨rfl, HBX.out⟩
end Go.Proofs.YtdidjgpgpknknaaDoor
