/- DrawFieldOf: some fields, some name; sources of at most 1048576 bytes. -/
import Derived.Test.YtpgjichcpnjeoaaDrg
namespace Go.Proofs.Ytpgjichcpnjeoaa
open Go.RowKit

/-- Fields and a name that were drawn, ahead of a call. -/
def FldNm (w : World) (e : Ending) (w' : World) : Prop := ∃ (v : Value) (l : List FldP) (t : List Nat), e = .returned (.tuple #[v, .string (str t)]) ∧ OwnF w' w.heap.size v l ∧ l.length ≤ 9 ∧ FldD l ∧ IsB t ∧ t.length ≤ 100 ∧ Below w.heap.size w w'
set_option maxHeartbeats 6400000 in
set_option maxRecDepth 100000 in
theorem drawFieldOf_any (a : Option Addr) (n cap : Nat) (l : List Nat) (w : World) (hl : l.length = n) (hr : Rd w a l) (hB : IsB l) (hn : n ≤ 1048576) :
    Calls Try.prog 14 #[.slice a n cap] w fun e w' => FldNm w e w' := by
  go_enter Try.func14, Try.ntmps14
  go_wp2_with fail
  refine (l1Source_any a n cap l _ hl hr hB hn).mono ?_
  rintro e w1 ⟨rfl, hs_w1, hb⟩
  have hlt : w.heap.size < w1.heap.size := (id hs_w1).2.1
  have hg_w1 : w1.grownBy w1 (some w.heap.size) := ⟨rfl, rfl, rfl, Nat.le_refl _, fun _ _ _ => rfl⟩
  clear hl hr hB hn
  go_wp2_with fail
  refine wp_region_held_drew (S := fun _ => True) (by kernel_rfl) ?hS1 (fun hHeld => ?_)
  case hS1 => exact trivial
  refine wpAnyH_take (i := 0) (v := ?_) rfl (by kernel_rfl) (by kernel_rfl) (by kernel_rfl) (fun _ _ _ h => h) (Or.inl ⟨by rfl, ?hy2⟩) (by assumption) ?ty2
  case hy2 => (intro w hSw; (try dsimp only at hSw); go_simp; all_goals with_reducible rfl)
  simp only [Act.put, List.getElem_toArray, List.getElem_cons_zero, List.setIfInBounds_toArray, List.set_cons_zero, List.set_cons_succ]
  refine wpAnyH_take (i := 3) (v := ?_) rfl (by kernel_rfl) (by kernel_rfl) (by kernel_rfl) (fun _ _ _ h => h) (Or.inl ⟨by rfl, ?hy3⟩) (by assumption) ?ty3
  case hy3 => (intro w hSw; (try dsimp only at hSw); go_simp; all_goals with_reducible rfl)
  simp only [Act.put, List.getElem_toArray, List.getElem_cons_zero, List.getElem_cons_succ, List.setIfInBounds_toArray, List.set_cons_zero, List.set_cons_succ]
  refine wpAnyH_ready (rs := [1, 2]) (by kernel_rfl) (by simp) ?_
  refine AllReadyH.cons rfl (fun K hK => ?_) (AllReadyH.cons rfl (fun K hK => ?_) AllReadyH.nil)
  · go_simp
    refine (l4Bent_any w.heap.size w.heap.size 0 _ (by exact hs_w1) (by omega)).mono ?_
    rintro e x1 ⟨v, l, rfl, hoN, hk9, hD, hs_x1, hgx⟩
    have hgy2 : w1.grownBy x1 (some w.heap.size) := by first | exact gfromF hgx | exact hgx
    have hzz := hg_w1.size
    have hg_x1 : w1.grownBy x1 (some w.heap.size) := gthen hg_w1 hgy2
    clear hs_w1 hg_w1
    have ho_x1 : OwnF x1 (w.heap.size + 1) v l := OwnF.low (by exact hoN) (by first | omega | (simp; omega))
    clear hoN hgx hgy2 hzz
    refine hK.out _ _ trivial (fun hHeld => ?_)
    clear hK K
    refine wpAnyH_ready (rs := [2, 4]) (by kernel_rfl) (by simp) ?_
    refine AllReadyH.cons rfl (fun K hK => ?_) (AllReadyH.cons rfl (fun K hK => ?_) AllReadyH.nil)
    · go_simp
      refine hK.out _ _ trivial (fun hHeld => ?_)
      clear hK K
      have hs_x3 : Src (x1.alloc (.cells #[.string ⟨#[115, 117, 98, 106, 101, 99, 116]⟩, .string ⟨#[84, 79]⟩, .string ⟨#[67, 111, 110, 116, 101, 110, 116, 45, 84, 121, 112, 101]⟩, .string ⟨#[110, 111, 110, 101]⟩, .string ⟨#[]⟩] 9)) w.heap.size w.heap.size (0 + 29) := hs_x1.below ((Below.refl _ _).alloc (by have := (id hs_x1).2.1; omega) _)
      have hg_x3 : w1.grownBy (x1.alloc (.cells #[.string ⟨#[115, 117, 98, 106, 101, 99, 116]⟩, .string ⟨#[84, 79]⟩, .string ⟨#[67, 111, 110, 116, 101, 110, 116, 45, 84, 121, 112, 101]⟩, .string ⟨#[110, 111, 110, 101]⟩, .string ⟨#[]⟩] 9)) (some w.heap.size) := gnew hg_x1 _
      have ho_x3 : OwnF (x1.alloc (.cells #[.string ⟨#[115, 117, 98, 106, 101, 99, 116]⟩, .string ⟨#[84, 79]⟩, .string ⟨#[67, 111, 110, 116, 101, 110, 116, 45, 84, 121, 112, 101]⟩, .string ⟨#[110, 111, 110, 101]⟩, .string ⟨#[]⟩] 9)) (w.heap.size + 1) v l := ho_x1.alloc _
      have hr1_x3 : RowT (x1.alloc (.cells #[.string ⟨#[115, 117, 98, 106, 101, 99, 116]⟩, .string ⟨#[84, 79]⟩, .string ⟨#[67, 111, 110, 116, 101, 110, 116, 45, 84, 121, 112, 101]⟩, .string ⟨#[110, 111, 110, 101]⟩, .string ⟨#[]⟩] 9)) x1.heap.size 5 := RowT.new x1 (cs := #[.string ⟨#[115, 117, 98, 106, 101, 99, 116]⟩, .string ⟨#[84, 79]⟩, .string ⟨#[67, 111, 110, 116, 101, 110, 116, 45, 84, 121, 112, 101]⟩, .string ⟨#[110, 111, 110, 101]⟩, .string ⟨#[]⟩]) (ss := [⟨#[115, 117, 98, 106, 101, 99, 116]⟩, ⟨#[84, 79]⟩, ⟨#[67, 111, 110, 116, 101, 110, 116, 45, 84, 121, 112, 101]⟩, ⟨#[110, 111, 110, 101]⟩, ⟨#[]⟩]) rfl (by intro s hs; simp only [List.mem_cons, List.not_mem_nil, or_false] at hs; rcases hs with rfl | rfl | rfl | rfl | rfl <;> decide)
      have hb1_x3 : w.heap.size < x1.heap.size := (id hs_x1).2.1
      clear hs_x1 hg_x1 ho_x1 
      generalize x1.alloc (.cells #[.string ⟨#[115, 117, 98, 106, 101, 99, 116]⟩, .string ⟨#[84, 79]⟩, .string ⟨#[67, 111, 110, 116, 101, 110, 116, 45, 84, 121, 112, 101]⟩, .string ⟨#[110, 111, 110, 101]⟩, .string ⟨#[]⟩] 9) = x3 at *
      obtain ⟨R4, hRR⟩ : ∃ R, R = x1.heap.size := ⟨_, rfl⟩
      rw [← hRR] at hr1_x3 hb1_x3 ⊢
      clear hRR
      refine wpAnyH_ready (rs := [4]) (by kernel_rfl) (by simp) ?_
      refine AllReadyH.cons rfl (fun K hK => ?_) AllReadyH.nil
      go_simp
      refine (l1Next_any w.heap.size w.heap.size (0 + 29) 5 _ (by exact hs_x3) (by omega) (by omega) (by omega)).mono ?_
      rintro e x5 ⟨r, rfl, r0, r1, _, hs_x5, hgx⟩
      obtain ⟨j1, rfl⟩ := Int.eq_ofNat_of_zero_le r0
      have hj1 : j1 < 5 := by have := r1 (by omega); omega
      have hj1' : (j1 : Int) < 5 := by omega
      have hgy6 : x3.grownBy x5 (some w.heap.size) := by first | exact gfromF hgx | exact hgx
      have hg_x5 : w1.grownBy x5 (some w.heap.size) := gthen hg_x3 hgy6
      have ho_x5 : OwnF x5 (w.heap.size + 1) v l := ho_x3.src hgy6 (by omega)
      have hr1_x5 : RowT x5 R4 5 := hr1_x3.far hgy6 hb1_x3
      have hb1_x5 := hb1_x3
      clear hs_x3 hg_x3 ho_x3 hr1_x3 hb1_x3
      clear r0 r1 hgx hgy6
      refine hK.out _ _ trivial (fun hHeld => ?_)
      clear hK K
      refine wpAnyH_take (i := 5) (v := .pointer (some ⟨R4, j1, none⟩)) rfl (by kernel_rfl) (by kernel_rfl) (by kernel_rfl) (fun _ _ _ h => h) (Or.inl ⟨by rfl, ?hy4⟩) (by assumption) ?ty4
      case hy4 => (intro w hSw; (try dsimp only at hSw); go_simp; first | (simp [hj1']; done) | (all_goals first | (with_reducible rfl) | omega))
      simp only [Act.put, List.getElem_toArray, List.getElem_cons_zero, List.getElem_cons_succ, List.setIfInBounds_toArray, List.set_cons_zero, List.set_cons_succ]
      refine wpAnyH_take (i := 7) (v := ?_) rfl (by kernel_rfl) (by kernel_rfl) (by kernel_rfl) (fun _ _ _ h => h) (Or.inl ⟨by rfl, ?hy5⟩) (by assumption) ?ty5
      case hy5 => (intro w hSw; (try dsimp only at hSw); go_simp; all_goals with_reducible rfl)
      simp only [Act.put, List.getElem_toArray, List.getElem_cons_zero, List.getElem_cons_succ, List.setIfInBounds_toArray, List.set_cons_zero, List.set_cons_succ]
      refine wpAnyH_ready (rs := [6]) (by kernel_rfl) (by simp) ?_
      refine AllReadyH.cons rfl (fun K hK => ?_) AllReadyH.nil
      obtain ⟨ta, hcsta, hBta, hlta⟩ := hr1_x5.2 j1 hj1
      go_simp
      refine hK.out _ _ trivial (fun hHeld => ?_)
      clear hK K
      clear hcsta
      refine wpAnyH_take (i := 8) (v := ?_) rfl (by kernel_rfl) (by kernel_rfl) (by kernel_rfl) (fun _ _ _ h => h) (Or.inl ⟨by rfl, ?hy6⟩) (by assumption) ?ty6
      case hy6 => (intro w hSw; (try dsimp only at hSw); go_simp; all_goals with_reducible rfl)
      simp only [Act.put, List.getElem_toArray, List.getElem_cons_zero, List.getElem_cons_succ, List.setIfInBounds_toArray, List.set_cons_zero, List.set_cons_succ]
      refine wpAnyH_done (by kernel_rfl) ?_ _
      have HF : Hid (FldNm w (.returned (.tuple #[v, .string (str ta)])) x5) := ⟨v, l, ta, rfl, ho_x5.low (by omega), hk9, hD, hBta, hlta, hb.trans (gbelow hg_x5 hlt)⟩
      clear ho_x5 hs_x5 hg_x5
      go_wp2
      go_ret2
      exact HF.out
    · go_simp
      refine (l1Next_any w.heap.size w.heap.size (0 + 29) 5 _ (by exact hs_x1) (by omega) (by omega) (by omega)).mono ?_
      rintro e x7 ⟨r, rfl, r0, r1, _, hs_x7, hgx⟩
      obtain ⟨j1, rfl⟩ := Int.eq_ofNat_of_zero_le r0
      have hj1 : j1 < 5 := by have := r1 (by omega); omega
      have hj1' : (j1 : Int) < 5 := by omega
      have hgy8 : x1.grownBy x7 (some w.heap.size) := by first | exact gfromF hgx | exact hgx
      have hg_x7 : w1.grownBy x7 (some w.heap.size) := gthen hg_x1 hgy8
      have ho_x7 : OwnF x7 (w.heap.size + 1) v l := ho_x1.src hgy8 (by omega)
      clear hs_x1 hg_x1 ho_x1 
      clear r0 r1 hgx hgy8
      refine hK.out _ _ trivial (fun hHeld => ?_)
      clear hK K
      refine wpAnyH_take (i := 7) (v := ?_) rfl (by kernel_rfl) (by kernel_rfl) (by kernel_rfl) (fun _ _ _ h => h) (Or.inl ⟨by rfl, ?hy7⟩) (by assumption) ?ty7
      case hy7 => (intro w hSw; (try dsimp only at hSw); go_simp; all_goals with_reducible rfl)
      simp only [Act.put, List.getElem_toArray, List.getElem_cons_zero, List.getElem_cons_succ, List.setIfInBounds_toArray, List.set_cons_zero, List.set_cons_succ]
      refine wpAnyH_ready (rs := [2]) (by kernel_rfl) (by simp) ?_
      refine AllReadyH.cons rfl (fun K hK => ?_) AllReadyH.nil
      go_simp
      refine hK.out _ _ trivial (fun hHeld => ?_)
      clear hK K
      have hs_x9 : Src (x7.alloc (.cells #[.string ⟨#[115, 117, 98, 106, 101, 99, 116]⟩, .string ⟨#[84, 79]⟩, .string ⟨#[67, 111, 110, 116, 101, 110, 116, 45, 84, 121, 112, 101]⟩, .string ⟨#[110, 111, 110, 101]⟩, .string ⟨#[]⟩] 9)) w.heap.size w.heap.size ((0 + 29) + 1) := hs_x7.below ((Below.refl _ _).alloc (by have := (id hs_x7).2.1; omega) _)
      have hg_x9 : w1.grownBy (x7.alloc (.cells #[.string ⟨#[115, 117, 98, 106, 101, 99, 116]⟩, .string ⟨#[84, 79]⟩, .string ⟨#[67, 111, 110, 116, 101, 110, 116, 45, 84, 121, 112, 101]⟩, .string ⟨#[110, 111, 110, 101]⟩, .string ⟨#[]⟩] 9)) (some w.heap.size) := gnew hg_x7 _
      have ho_x9 : OwnF (x7.alloc (.cells #[.string ⟨#[115, 117, 98, 106, 101, 99, 116]⟩, .string ⟨#[84, 79]⟩, .string ⟨#[67, 111, 110, 116, 101, 110, 116, 45, 84, 121, 112, 101]⟩, .string ⟨#[110, 111, 110, 101]⟩, .string ⟨#[]⟩] 9)) (w.heap.size + 1) v l := ho_x7.alloc _
      have hr1_x9 : RowT (x7.alloc (.cells #[.string ⟨#[115, 117, 98, 106, 101, 99, 116]⟩, .string ⟨#[84, 79]⟩, .string ⟨#[67, 111, 110, 116, 101, 110, 116, 45, 84, 121, 112, 101]⟩, .string ⟨#[110, 111, 110, 101]⟩, .string ⟨#[]⟩] 9)) x7.heap.size 5 := RowT.new x7 (cs := #[.string ⟨#[115, 117, 98, 106, 101, 99, 116]⟩, .string ⟨#[84, 79]⟩, .string ⟨#[67, 111, 110, 116, 101, 110, 116, 45, 84, 121, 112, 101]⟩, .string ⟨#[110, 111, 110, 101]⟩, .string ⟨#[]⟩]) (ss := [⟨#[115, 117, 98, 106, 101, 99, 116]⟩, ⟨#[84, 79]⟩, ⟨#[67, 111, 110, 116, 101, 110, 116, 45, 84, 121, 112, 101]⟩, ⟨#[110, 111, 110, 101]⟩, ⟨#[]⟩]) rfl (by intro s hs; simp only [List.mem_cons, List.not_mem_nil, or_false] at hs; rcases hs with rfl | rfl | rfl | rfl | rfl <;> decide)
      have hb1_x9 : w.heap.size < x7.heap.size := (id hs_x7).2.1
      clear hs_x7 hg_x7 ho_x7 
      generalize x7.alloc (.cells #[.string ⟨#[115, 117, 98, 106, 101, 99, 116]⟩, .string ⟨#[84, 79]⟩, .string ⟨#[67, 111, 110, 116, 101, 110, 116, 45, 84, 121, 112, 101]⟩, .string ⟨#[110, 111, 110, 101]⟩, .string ⟨#[]⟩] 9) = x9 at *
      obtain ⟨R10, hRR⟩ : ∃ R, R = x7.heap.size := ⟨_, rfl⟩
      rw [← hRR] at hr1_x9 hb1_x9 ⊢
      clear hRR
      refine wpAnyH_take (i := 5) (v := .pointer (some ⟨R10, j1, none⟩)) rfl (by kernel_rfl) (by kernel_rfl) (by kernel_rfl) (fun _ _ _ h => h) (Or.inl ⟨by rfl, ?hy8⟩) (by assumption) ?ty8
      case hy8 => (intro w hSw; (try dsimp only at hSw); go_simp; first | (simp [hj1']; done) | (all_goals first | (with_reducible rfl) | omega))
      simp only [Act.put, List.getElem_toArray, List.getElem_cons_zero, List.getElem_cons_succ, List.setIfInBounds_toArray, List.set_cons_zero, List.set_cons_succ]
      refine wpAnyH_ready (rs := [6]) (by kernel_rfl) (by simp) ?_
      refine AllReadyH.cons rfl (fun K hK => ?_) AllReadyH.nil
      obtain ⟨ta, hcsta, hBta, hlta⟩ := hr1_x9.2 j1 hj1
      go_simp
      refine hK.out _ _ trivial (fun hHeld => ?_)
      clear hK K
      clear hcsta
      refine wpAnyH_take (i := 8) (v := ?_) rfl (by kernel_rfl) (by kernel_rfl) (by kernel_rfl) (fun _ _ _ h => h) (Or.inl ⟨by rfl, ?hy9⟩) (by assumption) ?ty9
      case hy9 => (intro w hSw; (try dsimp only at hSw); go_simp; all_goals with_reducible rfl)
      simp only [Act.put, List.getElem_toArray, List.getElem_cons_zero, List.getElem_cons_succ, List.setIfInBounds_toArray, List.set_cons_zero, List.set_cons_succ]
      refine wpAnyH_done (by kernel_rfl) ?_ _
      have HF : Hid (FldNm w (.returned (.tuple #[v, .string (str ta)])) x9) := ⟨v, l, ta, rfl, ho_x9.low (by omega), hk9, hD, hBta, hlta, hb.trans (gbelow hg_x9 hlt)⟩
      clear ho_x9 hs_x9 hg_x9
      go_wp2
      go_ret2
      exact HF.out
  · go_simp
    refine hK.out _ _ trivial (fun hHeld => ?_)
    clear hK K
    have hs_x11 : Src (w1.alloc (.cells #[.string ⟨#[115, 117, 98, 106, 101, 99, 116]⟩, .string ⟨#[84, 79]⟩, .string ⟨#[67, 111, 110, 116, 101, 110, 116, 45, 84, 121, 112, 101]⟩, .string ⟨#[110, 111, 110, 101]⟩, .string ⟨#[]⟩] 9)) w.heap.size w.heap.size 0 := hs_w1.below ((Below.refl _ _).alloc (by have := (id hs_w1).2.1; omega) _)
    have hg_x11 : w1.grownBy (w1.alloc (.cells #[.string ⟨#[115, 117, 98, 106, 101, 99, 116]⟩, .string ⟨#[84, 79]⟩, .string ⟨#[67, 111, 110, 116, 101, 110, 116, 45, 84, 121, 112, 101]⟩, .string ⟨#[110, 111, 110, 101]⟩, .string ⟨#[]⟩] 9)) (some w.heap.size) := gnew hg_w1 _
    have hr1_x11 : RowT (w1.alloc (.cells #[.string ⟨#[115, 117, 98, 106, 101, 99, 116]⟩, .string ⟨#[84, 79]⟩, .string ⟨#[67, 111, 110, 116, 101, 110, 116, 45, 84, 121, 112, 101]⟩, .string ⟨#[110, 111, 110, 101]⟩, .string ⟨#[]⟩] 9)) w1.heap.size 5 := RowT.new w1 (cs := #[.string ⟨#[115, 117, 98, 106, 101, 99, 116]⟩, .string ⟨#[84, 79]⟩, .string ⟨#[67, 111, 110, 116, 101, 110, 116, 45, 84, 121, 112, 101]⟩, .string ⟨#[110, 111, 110, 101]⟩, .string ⟨#[]⟩]) (ss := [⟨#[115, 117, 98, 106, 101, 99, 116]⟩, ⟨#[84, 79]⟩, ⟨#[67, 111, 110, 116, 101, 110, 116, 45, 84, 121, 112, 101]⟩, ⟨#[110, 111, 110, 101]⟩, ⟨#[]⟩]) rfl (by intro s hs; simp only [List.mem_cons, List.not_mem_nil, or_false] at hs; rcases hs with rfl | rfl | rfl | rfl | rfl <;> decide)
    have hb1_x11 : w.heap.size < w1.heap.size := (id hs_w1).2.1
    clear hs_w1 hg_w1
    generalize w1.alloc (.cells #[.string ⟨#[115, 117, 98, 106, 101, 99, 116]⟩, .string ⟨#[84, 79]⟩, .string ⟨#[67, 111, 110, 116, 101, 110, 116, 45, 84, 121, 112, 101]⟩, .string ⟨#[110, 111, 110, 101]⟩, .string ⟨#[]⟩] 9) = x11 at *
    obtain ⟨R12, hRR⟩ : ∃ R, R = w1.heap.size := ⟨_, rfl⟩
    rw [← hRR] at hr1_x11 hb1_x11 ⊢
    clear hRR
    refine wpAnyH_ready (rs := [1]) (by kernel_rfl) (by simp) ?_
    refine AllReadyH.cons rfl (fun K hK => ?_) AllReadyH.nil
    go_simp
    refine (l4Bent_any w.heap.size w.heap.size 0 _ (by exact hs_x11) (by omega)).mono ?_
    rintro e x13 ⟨v, l, rfl, hoN, hk9, hD, hs_x13, hgx⟩
    have hgy14 : x11.grownBy x13 (some w.heap.size) := by first | exact gfromF hgx | exact hgx
    have hzz := hg_x11.size
    have hg_x13 : w1.grownBy x13 (some w.heap.size) := gthen hg_x11 hgy14
    have hr1_x13 : RowT x13 R12 5 := hr1_x11.far hgy14 hb1_x11
    have hb1_x13 := hb1_x11
    clear hs_x11 hg_x11 hr1_x11 hb1_x11
    have ho_x13 : OwnF x13 (w.heap.size + 1) v l := OwnF.low (by exact hoN) (by first | omega | (simp; omega))
    clear hoN hgx hgy14 hzz
    refine hK.out _ _ trivial (fun hHeld => ?_)
    clear hK K
    refine wpAnyH_ready (rs := [4]) (by kernel_rfl) (by simp) ?_
    refine AllReadyH.cons rfl (fun K hK => ?_) AllReadyH.nil
    go_simp
    refine (l1Next_any w.heap.size w.heap.size (0 + 29) 5 _ (by exact hs_x13) (by omega) (by omega) (by omega)).mono ?_
    rintro e x15 ⟨r, rfl, r0, r1, _, hs_x15, hgx⟩
    obtain ⟨j1, rfl⟩ := Int.eq_ofNat_of_zero_le r0
    have hj1 : j1 < 5 := by have := r1 (by omega); omega
    have hj1' : (j1 : Int) < 5 := by omega
    have hgy16 : x13.grownBy x15 (some w.heap.size) := by first | exact gfromF hgx | exact hgx
    have hg_x15 : w1.grownBy x15 (some w.heap.size) := gthen hg_x13 hgy16
    have ho_x15 : OwnF x15 (w.heap.size + 1) v l := ho_x13.src hgy16 (by omega)
    have hr1_x15 : RowT x15 R12 5 := hr1_x13.far hgy16 hb1_x13
    have hb1_x15 := hb1_x13
    clear hs_x13 hg_x13 ho_x13 hr1_x13 hb1_x13
    clear r0 r1 hgx hgy16
    refine hK.out _ _ trivial (fun hHeld => ?_)
    clear hK K
    refine wpAnyH_take (i := 5) (v := .pointer (some ⟨R12, j1, none⟩)) rfl (by kernel_rfl) (by kernel_rfl) (by kernel_rfl) (fun _ _ _ h => h) (Or.inl ⟨by rfl, ?hy10⟩) (by assumption) ?ty10
    case hy10 => (intro w hSw; (try dsimp only at hSw); go_simp; first | (simp [hj1']; done) | (all_goals first | (with_reducible rfl) | omega))
    simp only [Act.put, List.getElem_toArray, List.getElem_cons_zero, List.getElem_cons_succ, List.setIfInBounds_toArray, List.set_cons_zero, List.set_cons_succ]
    refine wpAnyH_take (i := 7) (v := ?_) rfl (by kernel_rfl) (by kernel_rfl) (by kernel_rfl) (fun _ _ _ h => h) (Or.inl ⟨by rfl, ?hy11⟩) (by assumption) ?ty11
    case hy11 => (intro w hSw; (try dsimp only at hSw); go_simp; all_goals with_reducible rfl)
    simp only [Act.put, List.getElem_toArray, List.getElem_cons_zero, List.getElem_cons_succ, List.setIfInBounds_toArray, List.set_cons_zero, List.set_cons_succ]
    refine wpAnyH_ready (rs := [6]) (by kernel_rfl) (by simp) ?_
    refine AllReadyH.cons rfl (fun K hK => ?_) AllReadyH.nil
    obtain ⟨ta, hcsta, hBta, hlta⟩ := hr1_x15.2 j1 hj1
    go_simp
    refine hK.out _ _ trivial (fun hHeld => ?_)
    clear hK K
    clear hcsta
    refine wpAnyH_take (i := 8) (v := ?_) rfl (by kernel_rfl) (by kernel_rfl) (by kernel_rfl) (fun _ _ _ h => h) (Or.inl ⟨by rfl, ?hy12⟩) (by assumption) ?ty12
    case hy12 => (intro w hSw; (try dsimp only at hSw); go_simp; all_goals with_reducible rfl)
    simp only [Act.put, List.getElem_toArray, List.getElem_cons_zero, List.getElem_cons_succ, List.setIfInBounds_toArray, List.set_cons_zero, List.set_cons_succ]
    refine wpAnyH_done (by kernel_rfl) ?_ _
    have HF : Hid (FldNm w (.returned (.tuple #[v, .string (str ta)])) x15) := ⟨v, l, ta, rfl, ho_x15.low (by omega), hk9, hD, hBta, hlta, hb.trans (gbelow hg_x15 hlt)⟩
    clear ho_x15 hs_x15 hg_x15
    go_wp2
    go_ret2
    exact HF.out
end Go.Proofs.Ytpgjichcpnjeoaa
