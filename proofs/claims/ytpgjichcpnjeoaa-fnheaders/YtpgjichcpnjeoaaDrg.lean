/- The draw of fields that may be wrong: some fields, not many, none of them long; sources of at most 1048576 bytes. -/
import Derived.Test.YtpgjichcpnjeoaaDrf
import Derived.Test.YtpgjichcpnjeoaaOpnFToChs0
namespace Go.Proofs.Ytpgjichcpnjeoaa
open Go.RowKit

theorem FldD.zero (n : Nat) : FldD (List.replicate n (ByteArray.empty, ByteArray.empty)) := fun p hp => by
  obtain ⟨-, rfl⟩ := List.mem_replicate.1 hp
  exact ⟨by decide, by decide⟩

set_option maxHeartbeats 40000000 in
set_option maxRecDepth 100000 in
theorem l4Bent_any (B b M : Nat) (w : World) (hs0 : Src w B b M) (hM : M ≤ 600) :
    Calls Try.prog 35 #[.pointer (some ⟨b, 0, none⟩)] w fun e w' => FldEnd B b (M + 29) 9 w e w' := by
  obtain ⟨hBb, hbw, _⟩ := id hs0
  obtain ⟨i0, hi, hz0, hz1, hz2⟩ := info_parts infoF
  go_enter Try.func35, Try.ntmps35
  go_wp2_with fail
  refine (l4Right_any B b M _ hs0 (by omega)).mono ?_
  rintro e w1 ⟨v, l, rfl, ho1, hlk, hD, hs1, hg1⟩
  go_wp2_with fail
  refine (l1Next_any B b (M + 25) 12 _ hs1 (by omega) (by omega) (by omega)).mono ?_
  rintro e w2 ⟨q, rfl, q0, q1, _, hs_w2, hg2⟩
  have hg_w2 : w.grownBy w2 (some b) := gthen hg1 hg2
  have ho_w2 : OwnF w2 w.heap.size v l := ho1.src hg2 hbw
  clear hs0 hs1 hg1 hg2 ho1 q1
  have hs_w2 : Src w2 B b (M + 26) := hs_w2
  by_cases h0 : q = 0
  · subst h0
    clear hi hz0 hz1 hz2
    go_wp2_with fail
    refine wp_region_held_drew (S := fun _ => True) (by kernel_rfl) ?hS1 (fun hHeld => ?_)
    case hS1 => exact trivial
    refine wpAnyH_take (i := 0) (v := ?_) rfl (by kernel_rfl) (by kernel_rfl) (by kernel_rfl) (fun _ _ _ h => h) (Or.inl ⟨by rfl, ?hy2⟩) (by assumption) ?ty2
    case hy2 => (intro w hSw; (try dsimp only at hSw); go_simp; all_goals with_reducible rfl)
    simp only [Act.put, List.getElem_toArray, List.getElem_cons_zero, List.setIfInBounds_toArray, List.set_cons_zero, List.set_cons_succ]
    refine wpAnyH_take (i := 2) (v := ?_) rfl (by kernel_rfl) (by kernel_rfl) (by kernel_rfl) (fun _ _ _ h => h) (Or.inl ⟨by rfl, ?hy3⟩) (by assumption) ?ty3
    case hy3 => (intro w hSw; (try dsimp only at hSw); go_simp; all_goals with_reducible rfl)
    simp only [Act.put, List.getElem_toArray, List.getElem_cons_zero, List.getElem_cons_succ, List.setIfInBounds_toArray, List.set_cons_zero, List.set_cons_succ]
    refine wpAnyH_take (i := 7) (v := ?_) rfl (by kernel_rfl) (by kernel_rfl) (by kernel_rfl) (fun _ _ _ h => h) (Or.inl ⟨by rfl, ?hy4⟩) (by assumption) ?ty4
    case hy4 => (intro w hSw; (try dsimp only at hSw); go_simp; all_goals with_reducible rfl)
    simp only [Act.put, List.getElem_toArray, List.getElem_cons_zero, List.getElem_cons_succ, List.setIfInBounds_toArray, List.set_cons_zero, List.set_cons_succ]
    refine wpAnyH_ready (rs := [1, 3, 6]) (by kernel_rfl) (by simp) ?_
    refine AllReadyH.cons rfl (fun K hK => ?_) (AllReadyH.cons rfl (fun K hK => ?_) (AllReadyH.cons rfl (fun K hK => ?_) AllReadyH.nil))
    · go_simp
      refine hK.out _ _ trivial (fun hHeld => ?_)
      clear hK K
      have hs_x1 : Src (w2.alloc (.cells #[.string ⟨#[]⟩, .string ⟨#[97, 32, 98]⟩, .string ⟨#[65]⟩] 9)) B b (M + 26) := hs_w2.below ((Below.refl _ _).alloc (by have := (id hs_w2).2.1; omega) _)
      have hg_x1 : w.grownBy (w2.alloc (.cells #[.string ⟨#[]⟩, .string ⟨#[97, 32, 98]⟩, .string ⟨#[65]⟩] 9)) (some b) := gnew hg_w2 _
      have ho_x1 : OwnF (w2.alloc (.cells #[.string ⟨#[]⟩, .string ⟨#[97, 32, 98]⟩, .string ⟨#[65]⟩] 9)) w.heap.size v l := ho_w2.alloc _
      have hr1_x1 : RowT (w2.alloc (.cells #[.string ⟨#[]⟩, .string ⟨#[97, 32, 98]⟩, .string ⟨#[65]⟩] 9)) w2.heap.size 3 := RowT.new w2 (cs := #[.string ⟨#[]⟩, .string ⟨#[97, 32, 98]⟩, .string ⟨#[65]⟩]) (ss := [⟨#[]⟩, ⟨#[97, 32, 98]⟩, ⟨#[65]⟩]) rfl (by intro s hs; simp only [List.mem_cons, List.not_mem_nil, or_false] at hs; rcases hs with rfl | rfl | rfl <;> decide)
      have hb1_x1 : b < w2.heap.size := (id hs_w2).2.1
      clear hs_w2 hg_w2 ho_w2 
      generalize w2.alloc (.cells #[.string ⟨#[]⟩, .string ⟨#[97, 32, 98]⟩, .string ⟨#[65]⟩] 9) = x1 at *
      generalize w2.heap.size = R2 at *
      refine wpAnyH_ready (rs := [3, 6]) (by kernel_rfl) (by simp) ?_
      refine AllReadyH.cons rfl (fun K hK => ?_) (AllReadyH.cons rfl (fun K hK => ?_) AllReadyH.nil)
      · go_simp
        refine (l1Next_any B b (M + 26) 3 _ (by exact hs_x1) (by omega) (by omega) (by omega)).mono ?_
        rintro e x3 ⟨r, rfl, r0, r1, _, hs_x3, hgx⟩
        obtain ⟨j1, rfl⟩ := Int.eq_ofNat_of_zero_le r0
        have hj1 : j1 < 3 := by have := r1 (by omega); omega
        have hj1' : (j1 : Int) < 3 := by omega
        have hgy4 : x1.grownBy x3 (some b) := by first | exact gfromF hgx | exact hgx
        have hg_x3 : w.grownBy x3 (some b) := gthen hg_x1 hgy4
        have ho_x3 : OwnF x3 w.heap.size v l := ho_x1.src hgy4 hbw
        have hr1_x3 : RowT x3 R2 3 := hr1_x1.far hgy4 hb1_x1
        have hb1_x3 := hb1_x1
        clear hs_x1 hg_x1 ho_x1 hr1_x1 hb1_x1
        clear r0 r1 hgx hgy4
        refine hK.out _ _ trivial (fun hHeld => ?_)
        clear hK K
        refine wpAnyH_take (i := 4) (v := .pointer (some ⟨R2, j1, none⟩)) rfl (by kernel_rfl) (by kernel_rfl) (by kernel_rfl) (fun _ _ _ h => h) (Or.inl ⟨by rfl, ?hy5⟩) (by assumption) ?ty5
        case hy5 => (intro w hSw; (try dsimp only at hSw); go_simp; first | (simp [hj1']; done) | (all_goals first | (with_reducible rfl) | omega))
        simp only [Act.put, List.getElem_toArray, List.getElem_cons_zero, List.getElem_cons_succ, List.setIfInBounds_toArray, List.set_cons_zero, List.set_cons_succ]
        refine wpAnyH_ready (rs := [5, 6, 8]) (by kernel_rfl) (by simp) ?_
        refine AllReadyH.cons rfl (fun K hK => ?_) (AllReadyH.cons rfl (fun K hK => ?_) (AllReadyH.cons rfl (fun K hK => ?_) AllReadyH.nil))
        · obtain ⟨ta, hcsta, hBta, hlta⟩ := hr1_x3.2 j1 hj1
          go_simp
          refine hK.out _ _ trivial (fun hHeld => ?_)
          clear hK K
          clear hcsta
          refine wpAnyH_ready (rs := [6, 8]) (by kernel_rfl) (by simp) ?_
          refine AllReadyH.cons rfl (fun K hK => ?_) (AllReadyH.cons rfl (fun K hK => ?_) AllReadyH.nil)
          · go_simp
            refine hK.out _ _ trivial (fun hHeld => ?_)
            clear hK K
            have hs_x5 : Src (x3.alloc (.cells #[.string ⟨#[120]⟩, .string ⟨#[10]⟩, .string ⟨#[127]⟩] 9)) B b ((M + 26) + 1) := hs_x3.below ((Below.refl _ _).alloc (by have := (id hs_x3).2.1; omega) _)
            have hg_x5 : w.grownBy (x3.alloc (.cells #[.string ⟨#[120]⟩, .string ⟨#[10]⟩, .string ⟨#[127]⟩] 9)) (some b) := gnew hg_x3 _
            have ho_x5 : OwnF (x3.alloc (.cells #[.string ⟨#[120]⟩, .string ⟨#[10]⟩, .string ⟨#[127]⟩] 9)) w.heap.size v l := ho_x3.alloc _
            have hr2_x5 : RowT (x3.alloc (.cells #[.string ⟨#[120]⟩, .string ⟨#[10]⟩, .string ⟨#[127]⟩] 9)) x3.heap.size 3 := RowT.new x3 (cs := #[.string ⟨#[120]⟩, .string ⟨#[10]⟩, .string ⟨#[127]⟩]) (ss := [⟨#[120]⟩, ⟨#[10]⟩, ⟨#[127]⟩]) rfl (by intro s hs; simp only [List.mem_cons, List.not_mem_nil, or_false] at hs; rcases hs with rfl | rfl | rfl <;> decide)
            have hb2_x5 : b < x3.heap.size := (id hs_x3).2.1
            have hr1_x5 : RowT (x3.alloc (.cells #[.string ⟨#[120]⟩, .string ⟨#[10]⟩, .string ⟨#[127]⟩] 9)) R2 3 := hr1_x3.alloc _
            have hb1_x5 := hb1_x3
            clear hs_x3 hg_x3 ho_x3 hr1_x3 hb1_x3
            generalize x3.alloc (.cells #[.string ⟨#[120]⟩, .string ⟨#[10]⟩, .string ⟨#[127]⟩] 9) = x5 at *
            generalize x3.heap.size = R6 at *
            refine wpAnyH_ready (rs := [8]) (by kernel_rfl) (by simp) ?_
            refine AllReadyH.cons rfl (fun K hK => ?_) AllReadyH.nil
            go_simp
            refine (l1Next_any B b ((M + 26) + 1) 3 _ (by exact hs_x5) (by omega) (by omega) (by omega)).mono ?_
            rintro e x7 ⟨r, rfl, r0, r1, _, hs_x7, hgx⟩
            obtain ⟨j2, rfl⟩ := Int.eq_ofNat_of_zero_le r0
            have hj2 : j2 < 3 := by have := r1 (by omega); omega
            have hj2' : (j2 : Int) < 3 := by omega
            have hgy8 : x5.grownBy x7 (some b) := by first | exact gfromF hgx | exact hgx
            have hg_x7 : w.grownBy x7 (some b) := gthen hg_x5 hgy8
            have ho_x7 : OwnF x7 w.heap.size v l := ho_x5.src hgy8 hbw
            have hr1_x7 : RowT x7 R2 3 := hr1_x5.far hgy8 hb1_x5
            have hb1_x7 := hb1_x5
            have hr2_x7 : RowT x7 R6 3 := hr2_x5.far hgy8 hb2_x5
            have hb2_x7 := hb2_x5
            clear hs_x5 hg_x5 ho_x5 hr1_x5 hb1_x5 hr2_x5 hb2_x5
            clear r0 r1 hgx hgy8
            refine hK.out _ _ trivial (fun hHeld => ?_)
            clear hK K
            refine wpAnyH_take (i := 9) (v := .pointer (some ⟨R6, j2, none⟩)) rfl (by kernel_rfl) (by kernel_rfl) (by kernel_rfl) (fun _ _ _ h => h) (Or.inl ⟨by rfl, ?hy6⟩) (by assumption) ?ty6
            case hy6 => (intro w hSw; (try dsimp only at hSw); go_simp; first | (simp [hj2']; done) | (all_goals first | (with_reducible rfl) | omega))
            simp only [Act.put, List.getElem_toArray, List.getElem_cons_zero, List.getElem_cons_succ, List.setIfInBounds_toArray, List.set_cons_zero, List.set_cons_succ]
            refine wpAnyH_ready (rs := [10]) (by kernel_rfl) (by simp) ?_
            refine AllReadyH.cons rfl (fun K hK => ?_) AllReadyH.nil
            obtain ⟨tb, hcstb, hBtb, hltb⟩ := hr2_x7.2 j2 hj2
            go_simp
            refine hK.out _ _ trivial (fun hHeld => ?_)
            clear hK K
            clear hcstb
            refine wpAnyH_take (i := 11) (v := ?_) rfl (by kernel_rfl) (by kernel_rfl) (by kernel_rfl) (fun _ _ _ h => h) (Or.inl ⟨by rfl, ?hy7⟩) (by assumption) ?ty7
            case hy7 => (intro w hSw; (try dsimp only at hSw); go_simp; all_goals with_reducible rfl)
            simp only [Act.put, List.getElem_toArray, List.getElem_cons_zero, List.getElem_cons_succ, List.setIfInBounds_toArray, List.set_cons_zero, List.set_cons_succ]
            refine wpAnyH_ready (rs := [12]) (by kernel_rfl) (by simp) ?_
            refine AllReadyH.cons rfl (fun K hK => ?_) AllReadyH.nil
            go_simp
            refine hK.out _ _ trivial (fun hHeld => ?_)
            clear hK K
            have hs_x9 : Src (x7.alloc (.cells #[.string (str ta), .string (str tb)] 35)) B b (((M + 26) + 1) + 1) := hs_x7.below ((Below.refl _ _).alloc (by have := (id hs_x7).2.1; omega) _)
            have hg_x9 : w.grownBy (x7.alloc (.cells #[.string (str ta), .string (str tb)] 35)) (some b) := gnew hg_x7 _
            have ho_x9 : OwnF (x7.alloc (.cells #[.string (str ta), .string (str tb)] 35)) w.heap.size v l := ho_x7.alloc _
            have hfc : FCell (x7.alloc (.cells #[.string (str ta), .string (str tb)] 35)) x7.heap.size (str ta) (str tb) := FCell.new x7 _ rfl _ _
            clear hs_x7 hg_x7 ho_x7
            generalize x7.alloc (.cells #[.string (str ta), .string (str tb)] 35) = x9 at *
            generalize x7.heap.size = R10 at *
            refine wpAnyH_ready (rs := [13]) (by kernel_rfl) (by simp) ?_
            refine AllReadyH.cons rfl (fun K hK => ?_) AllReadyH.nil
            refine step_appF (by rfl) _ _ (by rfl) w.heap.size v l (by rfl) ho_x9 ⟨R10, 0, none⟩ 1 1 [(str ta, str tb)] (by rfl) (by rfl) hfc.nw (by omega) hg_x9.size ?_
            intro v2 x11 ho2 hb2 _
            have hs_x11 := hs_x9.below (hb2.mono (by omega))
            have hg_x11 := glow hg_x9 hb2
            clear hs_x9 hg_x9 ho_x9 hfc hb2
            refine hK.out _ _ trivial (fun hHeld => ?_)
            clear hK K
            refine wpAnyH_take (i := 14) (v := ?_) rfl (by kernel_rfl) (by kernel_rfl) (by kernel_rfl) (fun _ _ _ h => h) (Or.inl ⟨by rfl, ?hy8⟩) (by assumption) ?ty8
            case hy8 => (intro w hSw; (try dsimp only at hSw); go_simp; all_goals with_reducible rfl)
            simp only [Act.put, List.getElem_toArray, List.getElem_cons_zero, List.getElem_cons_succ, List.setIfInBounds_toArray, List.set_cons_zero, List.set_cons_succ]
            refine wpAnyH_done (by kernel_rfl) ?_ _
            have HF : Hid (FldEnd B b (M + 29) 9 w (.returned v2) x11) := ⟨v2, _, rfl, ho2, by simp; omega, FldD.snoc hD (by omega) (by omega), hs_x11.more (by omega), hg_x11⟩
            clear ho2 hs_x11 hg_x11
            go_wp2
            go_ret
            exact HF.out
          · go_simp
            refine (l1Next_any B b ((M + 26) + 1) 3 _ (by exact hs_x3) (by omega) (by omega) (by omega)).mono ?_
            rintro e x12 ⟨r, rfl, r0, r1, _, hs_x12, hgx⟩
            obtain ⟨j2, rfl⟩ := Int.eq_ofNat_of_zero_le r0
            have hj2 : j2 < 3 := by have := r1 (by omega); omega
            have hj2' : (j2 : Int) < 3 := by omega
            have hgy13 : x3.grownBy x12 (some b) := by first | exact gfromF hgx | exact hgx
            have hg_x12 : w.grownBy x12 (some b) := gthen hg_x3 hgy13
            have ho_x12 : OwnF x12 w.heap.size v l := ho_x3.src hgy13 hbw
            have hr1_x12 : RowT x12 R2 3 := hr1_x3.far hgy13 hb1_x3
            have hb1_x12 := hb1_x3
            clear hs_x3 hg_x3 ho_x3 hr1_x3 hb1_x3
            clear r0 r1 hgx hgy13
            refine hK.out _ _ trivial (fun hHeld => ?_)
            clear hK K
            refine wpAnyH_ready (rs := [6]) (by kernel_rfl) (by simp) ?_
            refine AllReadyH.cons rfl (fun K hK => ?_) AllReadyH.nil
            go_simp
            refine hK.out _ _ trivial (fun hHeld => ?_)
            clear hK K
            have hs_x14 : Src (x12.alloc (.cells #[.string ⟨#[120]⟩, .string ⟨#[10]⟩, .string ⟨#[127]⟩] 9)) B b (((M + 26) + 1) + 1) := hs_x12.below ((Below.refl _ _).alloc (by have := (id hs_x12).2.1; omega) _)
            have hg_x14 : w.grownBy (x12.alloc (.cells #[.string ⟨#[120]⟩, .string ⟨#[10]⟩, .string ⟨#[127]⟩] 9)) (some b) := gnew hg_x12 _
            have ho_x14 : OwnF (x12.alloc (.cells #[.string ⟨#[120]⟩, .string ⟨#[10]⟩, .string ⟨#[127]⟩] 9)) w.heap.size v l := ho_x12.alloc _
            have hr2_x14 : RowT (x12.alloc (.cells #[.string ⟨#[120]⟩, .string ⟨#[10]⟩, .string ⟨#[127]⟩] 9)) x12.heap.size 3 := RowT.new x12 (cs := #[.string ⟨#[120]⟩, .string ⟨#[10]⟩, .string ⟨#[127]⟩]) (ss := [⟨#[120]⟩, ⟨#[10]⟩, ⟨#[127]⟩]) rfl (by intro s hs; simp only [List.mem_cons, List.not_mem_nil, or_false] at hs; rcases hs with rfl | rfl | rfl <;> decide)
            have hb2_x14 : b < x12.heap.size := (id hs_x12).2.1
            have hr1_x14 : RowT (x12.alloc (.cells #[.string ⟨#[120]⟩, .string ⟨#[10]⟩, .string ⟨#[127]⟩] 9)) R2 3 := hr1_x12.alloc _
            have hb1_x14 := hb1_x12
            clear hs_x12 hg_x12 ho_x12 hr1_x12 hb1_x12
            generalize x12.alloc (.cells #[.string ⟨#[120]⟩, .string ⟨#[10]⟩, .string ⟨#[127]⟩] 9) = x14 at *
            generalize x12.heap.size = R15 at *
            refine wpAnyH_take (i := 9) (v := .pointer (some ⟨R15, j2, none⟩)) rfl (by kernel_rfl) (by kernel_rfl) (by kernel_rfl) (fun _ _ _ h => h) (Or.inl ⟨by rfl, ?hy9⟩) (by assumption) ?ty9
            case hy9 => (intro w hSw; (try dsimp only at hSw); go_simp; first | (simp [hj2']; done) | (all_goals first | (with_reducible rfl) | omega))
            simp only [Act.put, List.getElem_toArray, List.getElem_cons_zero, List.getElem_cons_succ, List.setIfInBounds_toArray, List.set_cons_zero, List.set_cons_succ]
            refine wpAnyH_ready (rs := [10]) (by kernel_rfl) (by simp) ?_
            refine AllReadyH.cons rfl (fun K hK => ?_) AllReadyH.nil
            obtain ⟨tb, hcstb, hBtb, hltb⟩ := hr2_x14.2 j2 hj2
            go_simp
            refine hK.out _ _ trivial (fun hHeld => ?_)
            clear hK K
            clear hcstb
            refine wpAnyH_take (i := 11) (v := ?_) rfl (by kernel_rfl) (by kernel_rfl) (by kernel_rfl) (fun _ _ _ h => h) (Or.inl ⟨by rfl, ?hy10⟩) (by assumption) ?ty10
            case hy10 => (intro w hSw; (try dsimp only at hSw); go_simp; all_goals with_reducible rfl)
            simp only [Act.put, List.getElem_toArray, List.getElem_cons_zero, List.getElem_cons_succ, List.setIfInBounds_toArray, List.set_cons_zero, List.set_cons_succ]
            refine wpAnyH_ready (rs := [12]) (by kernel_rfl) (by simp) ?_
            refine AllReadyH.cons rfl (fun K hK => ?_) AllReadyH.nil
            go_simp
            refine hK.out _ _ trivial (fun hHeld => ?_)
            clear hK K
            have hs_x16 : Src (x14.alloc (.cells #[.string (str ta), .string (str tb)] 35)) B b (((M + 26) + 1) + 1) := hs_x14.below ((Below.refl _ _).alloc (by have := (id hs_x14).2.1; omega) _)
            have hg_x16 : w.grownBy (x14.alloc (.cells #[.string (str ta), .string (str tb)] 35)) (some b) := gnew hg_x14 _
            have ho_x16 : OwnF (x14.alloc (.cells #[.string (str ta), .string (str tb)] 35)) w.heap.size v l := ho_x14.alloc _
            have hfc : FCell (x14.alloc (.cells #[.string (str ta), .string (str tb)] 35)) x14.heap.size (str ta) (str tb) := FCell.new x14 _ rfl _ _
            clear hs_x14 hg_x14 ho_x14
            generalize x14.alloc (.cells #[.string (str ta), .string (str tb)] 35) = x16 at *
            generalize x14.heap.size = R17 at *
            refine wpAnyH_ready (rs := [13]) (by kernel_rfl) (by simp) ?_
            refine AllReadyH.cons rfl (fun K hK => ?_) AllReadyH.nil
            refine step_appF (by rfl) _ _ (by rfl) w.heap.size v l (by rfl) ho_x16 ⟨R17, 0, none⟩ 1 1 [(str ta, str tb)] (by rfl) (by rfl) hfc.nw (by omega) hg_x16.size ?_
            intro v2 x18 ho2 hb2 _
            have hs_x18 := hs_x16.below (hb2.mono (by omega))
            have hg_x18 := glow hg_x16 hb2
            clear hs_x16 hg_x16 ho_x16 hfc hb2
            refine hK.out _ _ trivial (fun hHeld => ?_)
            clear hK K
            refine wpAnyH_take (i := 14) (v := ?_) rfl (by kernel_rfl) (by kernel_rfl) (by kernel_rfl) (fun _ _ _ h => h) (Or.inl ⟨by rfl, ?hy11⟩) (by assumption) ?ty11
            case hy11 => (intro w hSw; (try dsimp only at hSw); go_simp; all_goals with_reducible rfl)
            simp only [Act.put, List.getElem_toArray, List.getElem_cons_zero, List.getElem_cons_succ, List.setIfInBounds_toArray, List.set_cons_zero, List.set_cons_succ]
            refine wpAnyH_done (by kernel_rfl) ?_ _
            have HF : Hid (FldEnd B b (M + 29) 9 w (.returned v2) x18) := ⟨v2, _, rfl, ho2, by simp; omega, FldD.snoc hD (by omega) (by omega), hs_x18.more (by omega), hg_x18⟩
            clear ho2 hs_x18 hg_x18
            go_wp2
            go_ret
            exact HF.out
        · go_simp
          refine hK.out _ _ trivial (fun hHeld => ?_)
          clear hK K
          have hs_x19 : Src (x3.alloc (.cells #[.string ⟨#[120]⟩, .string ⟨#[10]⟩, .string ⟨#[127]⟩] 9)) B b ((M + 26) + 1) := hs_x3.below ((Below.refl _ _).alloc (by have := (id hs_x3).2.1; omega) _)
          have hg_x19 : w.grownBy (x3.alloc (.cells #[.string ⟨#[120]⟩, .string ⟨#[10]⟩, .string ⟨#[127]⟩] 9)) (some b) := gnew hg_x3 _
          have ho_x19 : OwnF (x3.alloc (.cells #[.string ⟨#[120]⟩, .string ⟨#[10]⟩, .string ⟨#[127]⟩] 9)) w.heap.size v l := ho_x3.alloc _
          have hr2_x19 : RowT (x3.alloc (.cells #[.string ⟨#[120]⟩, .string ⟨#[10]⟩, .string ⟨#[127]⟩] 9)) x3.heap.size 3 := RowT.new x3 (cs := #[.string ⟨#[120]⟩, .string ⟨#[10]⟩, .string ⟨#[127]⟩]) (ss := [⟨#[120]⟩, ⟨#[10]⟩, ⟨#[127]⟩]) rfl (by intro s hs; simp only [List.mem_cons, List.not_mem_nil, or_false] at hs; rcases hs with rfl | rfl | rfl <;> decide)
          have hb2_x19 : b < x3.heap.size := (id hs_x3).2.1
          have hr1_x19 : RowT (x3.alloc (.cells #[.string ⟨#[120]⟩, .string ⟨#[10]⟩, .string ⟨#[127]⟩] 9)) R2 3 := hr1_x3.alloc _
          have hb1_x19 := hb1_x3
          clear hs_x3 hg_x3 ho_x3 hr1_x3 hb1_x3
          generalize x3.alloc (.cells #[.string ⟨#[120]⟩, .string ⟨#[10]⟩, .string ⟨#[127]⟩] 9) = x19 at *
          generalize x3.heap.size = R20 at *
          refine wpAnyH_ready (rs := [5, 8]) (by kernel_rfl) (by simp) ?_
          refine AllReadyH.cons rfl (fun K hK => ?_) (AllReadyH.cons rfl (fun K hK => ?_) AllReadyH.nil)
          · obtain ⟨ta, hcsta, hBta, hlta⟩ := hr1_x19.2 j1 hj1
            go_simp
            refine hK.out _ _ trivial (fun hHeld => ?_)
            clear hK K
            clear hcsta
            refine wpAnyH_ready (rs := [8]) (by kernel_rfl) (by simp) ?_
            refine AllReadyH.cons rfl (fun K hK => ?_) AllReadyH.nil
            go_simp
            refine (l1Next_any B b ((M + 26) + 1) 3 _ (by exact hs_x19) (by omega) (by omega) (by omega)).mono ?_
            rintro e x21 ⟨r, rfl, r0, r1, _, hs_x21, hgx⟩
            obtain ⟨j2, rfl⟩ := Int.eq_ofNat_of_zero_le r0
            have hj2 : j2 < 3 := by have := r1 (by omega); omega
            have hj2' : (j2 : Int) < 3 := by omega
            have hgy22 : x19.grownBy x21 (some b) := by first | exact gfromF hgx | exact hgx
            have hg_x21 : w.grownBy x21 (some b) := gthen hg_x19 hgy22
            have ho_x21 : OwnF x21 w.heap.size v l := ho_x19.src hgy22 hbw
            have hr1_x21 : RowT x21 R2 3 := hr1_x19.far hgy22 hb1_x19
            have hb1_x21 := hb1_x19
            have hr2_x21 : RowT x21 R20 3 := hr2_x19.far hgy22 hb2_x19
            have hb2_x21 := hb2_x19
            clear hs_x19 hg_x19 ho_x19 hr1_x19 hb1_x19 hr2_x19 hb2_x19
            clear r0 r1 hgx hgy22
            refine hK.out _ _ trivial (fun hHeld => ?_)
            clear hK K
            refine wpAnyH_take (i := 9) (v := .pointer (some ⟨R20, j2, none⟩)) rfl (by kernel_rfl) (by kernel_rfl) (by kernel_rfl) (fun _ _ _ h => h) (Or.inl ⟨by rfl, ?hy12⟩) (by assumption) ?ty12
            case hy12 => (intro w hSw; (try dsimp only at hSw); go_simp; first | (simp [hj2']; done) | (all_goals first | (with_reducible rfl) | omega))
            simp only [Act.put, List.getElem_toArray, List.getElem_cons_zero, List.getElem_cons_succ, List.setIfInBounds_toArray, List.set_cons_zero, List.set_cons_succ]
            refine wpAnyH_ready (rs := [10]) (by kernel_rfl) (by simp) ?_
            refine AllReadyH.cons rfl (fun K hK => ?_) AllReadyH.nil
            obtain ⟨tb, hcstb, hBtb, hltb⟩ := hr2_x21.2 j2 hj2
            go_simp
            refine hK.out _ _ trivial (fun hHeld => ?_)
            clear hK K
            clear hcstb
            refine wpAnyH_take (i := 11) (v := ?_) rfl (by kernel_rfl) (by kernel_rfl) (by kernel_rfl) (fun _ _ _ h => h) (Or.inl ⟨by rfl, ?hy13⟩) (by assumption) ?ty13
            case hy13 => (intro w hSw; (try dsimp only at hSw); go_simp; all_goals with_reducible rfl)
            simp only [Act.put, List.getElem_toArray, List.getElem_cons_zero, List.getElem_cons_succ, List.setIfInBounds_toArray, List.set_cons_zero, List.set_cons_succ]
            refine wpAnyH_ready (rs := [12]) (by kernel_rfl) (by simp) ?_
            refine AllReadyH.cons rfl (fun K hK => ?_) AllReadyH.nil
            go_simp
            refine hK.out _ _ trivial (fun hHeld => ?_)
            clear hK K
            have hs_x23 : Src (x21.alloc (.cells #[.string (str ta), .string (str tb)] 35)) B b (((M + 26) + 1) + 1) := hs_x21.below ((Below.refl _ _).alloc (by have := (id hs_x21).2.1; omega) _)
            have hg_x23 : w.grownBy (x21.alloc (.cells #[.string (str ta), .string (str tb)] 35)) (some b) := gnew hg_x21 _
            have ho_x23 : OwnF (x21.alloc (.cells #[.string (str ta), .string (str tb)] 35)) w.heap.size v l := ho_x21.alloc _
            have hfc : FCell (x21.alloc (.cells #[.string (str ta), .string (str tb)] 35)) x21.heap.size (str ta) (str tb) := FCell.new x21 _ rfl _ _
            clear hs_x21 hg_x21 ho_x21
            generalize x21.alloc (.cells #[.string (str ta), .string (str tb)] 35) = x23 at *
            generalize x21.heap.size = R24 at *
            refine wpAnyH_ready (rs := [13]) (by kernel_rfl) (by simp) ?_
            refine AllReadyH.cons rfl (fun K hK => ?_) AllReadyH.nil
            refine step_appF (by rfl) _ _ (by rfl) w.heap.size v l (by rfl) ho_x23 ⟨R24, 0, none⟩ 1 1 [(str ta, str tb)] (by rfl) (by rfl) hfc.nw (by omega) hg_x23.size ?_
            intro v2 x25 ho2 hb2 _
            have hs_x25 := hs_x23.below (hb2.mono (by omega))
            have hg_x25 := glow hg_x23 hb2
            clear hs_x23 hg_x23 ho_x23 hfc hb2
            refine hK.out _ _ trivial (fun hHeld => ?_)
            clear hK K
            refine wpAnyH_take (i := 14) (v := ?_) rfl (by kernel_rfl) (by kernel_rfl) (by kernel_rfl) (fun _ _ _ h => h) (Or.inl ⟨by rfl, ?hy14⟩) (by assumption) ?ty14
            case hy14 => (intro w hSw; (try dsimp only at hSw); go_simp; all_goals with_reducible rfl)
            simp only [Act.put, List.getElem_toArray, List.getElem_cons_zero, List.getElem_cons_succ, List.setIfInBounds_toArray, List.set_cons_zero, List.set_cons_succ]
            refine wpAnyH_done (by kernel_rfl) ?_ _
            have HF : Hid (FldEnd B b (M + 29) 9 w (.returned v2) x25) := ⟨v2, _, rfl, ho2, by simp; omega, FldD.snoc hD (by omega) (by omega), hs_x25.more (by omega), hg_x25⟩
            clear ho2 hs_x25 hg_x25
            go_wp2
            go_ret
            exact HF.out
          · go_simp
            refine (l1Next_any B b ((M + 26) + 1) 3 _ (by exact hs_x19) (by omega) (by omega) (by omega)).mono ?_
            rintro e x26 ⟨r, rfl, r0, r1, _, hs_x26, hgx⟩
            obtain ⟨j2, rfl⟩ := Int.eq_ofNat_of_zero_le r0
            have hj2 : j2 < 3 := by have := r1 (by omega); omega
            have hj2' : (j2 : Int) < 3 := by omega
            have hgy27 : x19.grownBy x26 (some b) := by first | exact gfromF hgx | exact hgx
            have hg_x26 : w.grownBy x26 (some b) := gthen hg_x19 hgy27
            have ho_x26 : OwnF x26 w.heap.size v l := ho_x19.src hgy27 hbw
            have hr1_x26 : RowT x26 R2 3 := hr1_x19.far hgy27 hb1_x19
            have hb1_x26 := hb1_x19
            have hr2_x26 : RowT x26 R20 3 := hr2_x19.far hgy27 hb2_x19
            have hb2_x26 := hb2_x19
            clear hs_x19 hg_x19 ho_x19 hr1_x19 hb1_x19 hr2_x19 hb2_x19
            clear r0 r1 hgx hgy27
            refine hK.out _ _ trivial (fun hHeld => ?_)
            clear hK K
            refine wpAnyH_take (i := 9) (v := .pointer (some ⟨R20, j2, none⟩)) rfl (by kernel_rfl) (by kernel_rfl) (by kernel_rfl) (fun _ _ _ h => h) (Or.inl ⟨by rfl, ?hy15⟩) (by assumption) ?ty15
            case hy15 => (intro w hSw; (try dsimp only at hSw); go_simp; first | (simp [hj2']; done) | (all_goals first | (with_reducible rfl) | omega))
            simp only [Act.put, List.getElem_toArray, List.getElem_cons_zero, List.getElem_cons_succ, List.setIfInBounds_toArray, List.set_cons_zero, List.set_cons_succ]
            refine wpAnyH_ready (rs := [5, 10]) (by kernel_rfl) (by simp) ?_
            refine AllReadyH.cons rfl (fun K hK => ?_) (AllReadyH.cons rfl (fun K hK => ?_) AllReadyH.nil)
            · obtain ⟨ta, hcsta, hBta, hlta⟩ := hr1_x26.2 j1 hj1
              go_simp
              refine hK.out _ _ trivial (fun hHeld => ?_)
              clear hK K
              clear hcsta
              refine wpAnyH_ready (rs := [10]) (by kernel_rfl) (by simp) ?_
              refine AllReadyH.cons rfl (fun K hK => ?_) AllReadyH.nil
              obtain ⟨tb, hcstb, hBtb, hltb⟩ := hr2_x26.2 j2 hj2
              go_simp
              refine hK.out _ _ trivial (fun hHeld => ?_)
              clear hK K
              clear hcstb
              refine wpAnyH_take (i := 11) (v := ?_) rfl (by kernel_rfl) (by kernel_rfl) (by kernel_rfl) (fun _ _ _ h => h) (Or.inl ⟨by rfl, ?hy16⟩) (by assumption) ?ty16
              case hy16 => (intro w hSw; (try dsimp only at hSw); go_simp; all_goals with_reducible rfl)
              simp only [Act.put, List.getElem_toArray, List.getElem_cons_zero, List.getElem_cons_succ, List.setIfInBounds_toArray, List.set_cons_zero, List.set_cons_succ]
              refine wpAnyH_ready (rs := [12]) (by kernel_rfl) (by simp) ?_
              refine AllReadyH.cons rfl (fun K hK => ?_) AllReadyH.nil
              go_simp
              refine hK.out _ _ trivial (fun hHeld => ?_)
              clear hK K
              have hs_x28 : Src (x26.alloc (.cells #[.string (str ta), .string (str tb)] 35)) B b (((M + 26) + 1) + 1) := hs_x26.below ((Below.refl _ _).alloc (by have := (id hs_x26).2.1; omega) _)
              have hg_x28 : w.grownBy (x26.alloc (.cells #[.string (str ta), .string (str tb)] 35)) (some b) := gnew hg_x26 _
              have ho_x28 : OwnF (x26.alloc (.cells #[.string (str ta), .string (str tb)] 35)) w.heap.size v l := ho_x26.alloc _
              have hfc : FCell (x26.alloc (.cells #[.string (str ta), .string (str tb)] 35)) x26.heap.size (str ta) (str tb) := FCell.new x26 _ rfl _ _
              clear hs_x26 hg_x26 ho_x26
              generalize x26.alloc (.cells #[.string (str ta), .string (str tb)] 35) = x28 at *
              generalize x26.heap.size = R29 at *
              refine wpAnyH_ready (rs := [13]) (by kernel_rfl) (by simp) ?_
              refine AllReadyH.cons rfl (fun K hK => ?_) AllReadyH.nil
              refine step_appF (by rfl) _ _ (by rfl) w.heap.size v l (by rfl) ho_x28 ⟨R29, 0, none⟩ 1 1 [(str ta, str tb)] (by rfl) (by rfl) hfc.nw (by omega) hg_x28.size ?_
              intro v2 x30 ho2 hb2 _
              have hs_x30 := hs_x28.below (hb2.mono (by omega))
              have hg_x30 := glow hg_x28 hb2
              clear hs_x28 hg_x28 ho_x28 hfc hb2
              refine hK.out _ _ trivial (fun hHeld => ?_)
              clear hK K
              refine wpAnyH_take (i := 14) (v := ?_) rfl (by kernel_rfl) (by kernel_rfl) (by kernel_rfl) (fun _ _ _ h => h) (Or.inl ⟨by rfl, ?hy17⟩) (by assumption) ?ty17
              case hy17 => (intro w hSw; (try dsimp only at hSw); go_simp; all_goals with_reducible rfl)
              simp only [Act.put, List.getElem_toArray, List.getElem_cons_zero, List.getElem_cons_succ, List.setIfInBounds_toArray, List.set_cons_zero, List.set_cons_succ]
              refine wpAnyH_done (by kernel_rfl) ?_ _
              have HF : Hid (FldEnd B b (M + 29) 9 w (.returned v2) x30) := ⟨v2, _, rfl, ho2, by simp; omega, FldD.snoc hD (by omega) (by omega), hs_x30.more (by omega), hg_x30⟩
              clear ho2 hs_x30 hg_x30
              go_wp2
              go_ret
              exact HF.out
            · obtain ⟨tb, hcstb, hBtb, hltb⟩ := hr2_x26.2 j2 hj2
              go_simp
              refine hK.out _ _ trivial (fun hHeld => ?_)
              clear hK K
              clear hcstb
              refine wpAnyH_ready (rs := [5]) (by kernel_rfl) (by simp) ?_
              refine AllReadyH.cons rfl (fun K hK => ?_) AllReadyH.nil
              obtain ⟨ta, hcsta, hBta, hlta⟩ := hr1_x26.2 j1 hj1
              go_simp
              refine hK.out _ _ trivial (fun hHeld => ?_)
              clear hK K
              clear hcsta
              refine wpAnyH_take (i := 11) (v := ?_) rfl (by kernel_rfl) (by kernel_rfl) (by kernel_rfl) (fun _ _ _ h => h) (Or.inl ⟨by rfl, ?hy18⟩) (by assumption) ?ty18
              case hy18 => (intro w hSw; (try dsimp only at hSw); go_simp; all_goals with_reducible rfl)
              simp only [Act.put, List.getElem_toArray, List.getElem_cons_zero, List.getElem_cons_succ, List.setIfInBounds_toArray, List.set_cons_zero, List.set_cons_succ]
              refine wpAnyH_ready (rs := [12]) (by kernel_rfl) (by simp) ?_
              refine AllReadyH.cons rfl (fun K hK => ?_) AllReadyH.nil
              go_simp
              refine hK.out _ _ trivial (fun hHeld => ?_)
              clear hK K
              have hs_x31 : Src (x26.alloc (.cells #[.string (str ta), .string (str tb)] 35)) B b (((M + 26) + 1) + 1) := hs_x26.below ((Below.refl _ _).alloc (by have := (id hs_x26).2.1; omega) _)
              have hg_x31 : w.grownBy (x26.alloc (.cells #[.string (str ta), .string (str tb)] 35)) (some b) := gnew hg_x26 _
              have ho_x31 : OwnF (x26.alloc (.cells #[.string (str ta), .string (str tb)] 35)) w.heap.size v l := ho_x26.alloc _
              have hfc : FCell (x26.alloc (.cells #[.string (str ta), .string (str tb)] 35)) x26.heap.size (str ta) (str tb) := FCell.new x26 _ rfl _ _
              clear hs_x26 hg_x26 ho_x26
              generalize x26.alloc (.cells #[.string (str ta), .string (str tb)] 35) = x31 at *
              generalize x26.heap.size = R32 at *
              refine wpAnyH_ready (rs := [13]) (by kernel_rfl) (by simp) ?_
              refine AllReadyH.cons rfl (fun K hK => ?_) AllReadyH.nil
              refine step_appF (by rfl) _ _ (by rfl) w.heap.size v l (by rfl) ho_x31 ⟨R32, 0, none⟩ 1 1 [(str ta, str tb)] (by rfl) (by rfl) hfc.nw (by omega) hg_x31.size ?_
              intro v2 x33 ho2 hb2 _
              have hs_x33 := hs_x31.below (hb2.mono (by omega))
              have hg_x33 := glow hg_x31 hb2
              clear hs_x31 hg_x31 ho_x31 hfc hb2
              refine hK.out _ _ trivial (fun hHeld => ?_)
              clear hK K
              refine wpAnyH_take (i := 14) (v := ?_) rfl (by kernel_rfl) (by kernel_rfl) (by kernel_rfl) (fun _ _ _ h => h) (Or.inl ⟨by rfl, ?hy19⟩) (by assumption) ?ty19
              case hy19 => (intro w hSw; (try dsimp only at hSw); go_simp; all_goals with_reducible rfl)
              simp only [Act.put, List.getElem_toArray, List.getElem_cons_zero, List.getElem_cons_succ, List.setIfInBounds_toArray, List.set_cons_zero, List.set_cons_succ]
              refine wpAnyH_done (by kernel_rfl) ?_ _
              have HF : Hid (FldEnd B b (M + 29) 9 w (.returned v2) x33) := ⟨v2, _, rfl, ho2, by simp; omega, FldD.snoc hD (by omega) (by omega), hs_x33.more (by omega), hg_x33⟩
              clear ho2 hs_x33 hg_x33
              go_wp2
              go_ret
              exact HF.out
        · go_simp
          refine (l1Next_any B b ((M + 26) + 1) 3 _ (by exact hs_x3) (by omega) (by omega) (by omega)).mono ?_
          rintro e x34 ⟨r, rfl, r0, r1, _, hs_x34, hgx⟩
          obtain ⟨j2, rfl⟩ := Int.eq_ofNat_of_zero_le r0
          have hj2 : j2 < 3 := by have := r1 (by omega); omega
          have hj2' : (j2 : Int) < 3 := by omega
          have hgy35 : x3.grownBy x34 (some b) := by first | exact gfromF hgx | exact hgx
          have hg_x34 : w.grownBy x34 (some b) := gthen hg_x3 hgy35
          have ho_x34 : OwnF x34 w.heap.size v l := ho_x3.src hgy35 hbw
          have hr1_x34 : RowT x34 R2 3 := hr1_x3.far hgy35 hb1_x3
          have hb1_x34 := hb1_x3
          clear hs_x3 hg_x3 ho_x3 hr1_x3 hb1_x3
          clear r0 r1 hgx hgy35
          refine hK.out _ _ trivial (fun hHeld => ?_)
          clear hK K
          refine wpAnyH_ready (rs := [5, 6]) (by kernel_rfl) (by simp) ?_
          refine AllReadyH.cons rfl (fun K hK => ?_) (AllReadyH.cons rfl (fun K hK => ?_) AllReadyH.nil)
          · obtain ⟨ta, hcsta, hBta, hlta⟩ := hr1_x34.2 j1 hj1
            go_simp
            refine hK.out _ _ trivial (fun hHeld => ?_)
            clear hK K
            clear hcsta
            refine wpAnyH_ready (rs := [6]) (by kernel_rfl) (by simp) ?_
            refine AllReadyH.cons rfl (fun K hK => ?_) AllReadyH.nil
            go_simp
            refine hK.out _ _ trivial (fun hHeld => ?_)
            clear hK K
            have hs_x36 : Src (x34.alloc (.cells #[.string ⟨#[120]⟩, .string ⟨#[10]⟩, .string ⟨#[127]⟩] 9)) B b (((M + 26) + 1) + 1) := hs_x34.below ((Below.refl _ _).alloc (by have := (id hs_x34).2.1; omega) _)
            have hg_x36 : w.grownBy (x34.alloc (.cells #[.string ⟨#[120]⟩, .string ⟨#[10]⟩, .string ⟨#[127]⟩] 9)) (some b) := gnew hg_x34 _
            have ho_x36 : OwnF (x34.alloc (.cells #[.string ⟨#[120]⟩, .string ⟨#[10]⟩, .string ⟨#[127]⟩] 9)) w.heap.size v l := ho_x34.alloc _
            have hr2_x36 : RowT (x34.alloc (.cells #[.string ⟨#[120]⟩, .string ⟨#[10]⟩, .string ⟨#[127]⟩] 9)) x34.heap.size 3 := RowT.new x34 (cs := #[.string ⟨#[120]⟩, .string ⟨#[10]⟩, .string ⟨#[127]⟩]) (ss := [⟨#[120]⟩, ⟨#[10]⟩, ⟨#[127]⟩]) rfl (by intro s hs; simp only [List.mem_cons, List.not_mem_nil, or_false] at hs; rcases hs with rfl | rfl | rfl <;> decide)
            have hb2_x36 : b < x34.heap.size := (id hs_x34).2.1
            have hr1_x36 : RowT (x34.alloc (.cells #[.string ⟨#[120]⟩, .string ⟨#[10]⟩, .string ⟨#[127]⟩] 9)) R2 3 := hr1_x34.alloc _
            have hb1_x36 := hb1_x34
            clear hs_x34 hg_x34 ho_x34 hr1_x34 hb1_x34
            generalize x34.alloc (.cells #[.string ⟨#[120]⟩, .string ⟨#[10]⟩, .string ⟨#[127]⟩] 9) = x36 at *
            generalize x34.heap.size = R37 at *
            refine wpAnyH_take (i := 9) (v := .pointer (some ⟨R37, j2, none⟩)) rfl (by kernel_rfl) (by kernel_rfl) (by kernel_rfl) (fun _ _ _ h => h) (Or.inl ⟨by rfl, ?hy20⟩) (by assumption) ?ty20
            case hy20 => (intro w hSw; (try dsimp only at hSw); go_simp; first | (simp [hj2']; done) | (all_goals first | (with_reducible rfl) | omega))
            simp only [Act.put, List.getElem_toArray, List.getElem_cons_zero, List.getElem_cons_succ, List.setIfInBounds_toArray, List.set_cons_zero, List.set_cons_succ]
            refine wpAnyH_ready (rs := [10]) (by kernel_rfl) (by simp) ?_
            refine AllReadyH.cons rfl (fun K hK => ?_) AllReadyH.nil
            obtain ⟨tb, hcstb, hBtb, hltb⟩ := hr2_x36.2 j2 hj2
            go_simp
            refine hK.out _ _ trivial (fun hHeld => ?_)
            clear hK K
            clear hcstb
            refine wpAnyH_take (i := 11) (v := ?_) rfl (by kernel_rfl) (by kernel_rfl) (by kernel_rfl) (fun _ _ _ h => h) (Or.inl ⟨by rfl, ?hy21⟩) (by assumption) ?ty21
            case hy21 => (intro w hSw; (try dsimp only at hSw); go_simp; all_goals with_reducible rfl)
            simp only [Act.put, List.getElem_toArray, List.getElem_cons_zero, List.getElem_cons_succ, List.setIfInBounds_toArray, List.set_cons_zero, List.set_cons_succ]
            refine wpAnyH_ready (rs := [12]) (by kernel_rfl) (by simp) ?_
            refine AllReadyH.cons rfl (fun K hK => ?_) AllReadyH.nil
            go_simp
            refine hK.out _ _ trivial (fun hHeld => ?_)
            clear hK K
            have hs_x38 : Src (x36.alloc (.cells #[.string (str ta), .string (str tb)] 35)) B b (((M + 26) + 1) + 1) := hs_x36.below ((Below.refl _ _).alloc (by have := (id hs_x36).2.1; omega) _)
            have hg_x38 : w.grownBy (x36.alloc (.cells #[.string (str ta), .string (str tb)] 35)) (some b) := gnew hg_x36 _
            have ho_x38 : OwnF (x36.alloc (.cells #[.string (str ta), .string (str tb)] 35)) w.heap.size v l := ho_x36.alloc _
            have hfc : FCell (x36.alloc (.cells #[.string (str ta), .string (str tb)] 35)) x36.heap.size (str ta) (str tb) := FCell.new x36 _ rfl _ _
            clear hs_x36 hg_x36 ho_x36
            generalize x36.alloc (.cells #[.string (str ta), .string (str tb)] 35) = x38 at *
            generalize x36.heap.size = R39 at *
            refine wpAnyH_ready (rs := [13]) (by kernel_rfl) (by simp) ?_
            refine AllReadyH.cons rfl (fun K hK => ?_) AllReadyH.nil
            refine step_appF (by rfl) _ _ (by rfl) w.heap.size v l (by rfl) ho_x38 ⟨R39, 0, none⟩ 1 1 [(str ta, str tb)] (by rfl) (by rfl) hfc.nw (by omega) hg_x38.size ?_
            intro v2 x40 ho2 hb2 _
            have hs_x40 := hs_x38.below (hb2.mono (by omega))
            have hg_x40 := glow hg_x38 hb2
            clear hs_x38 hg_x38 ho_x38 hfc hb2
            refine hK.out _ _ trivial (fun hHeld => ?_)
            clear hK K
            refine wpAnyH_take (i := 14) (v := ?_) rfl (by kernel_rfl) (by kernel_rfl) (by kernel_rfl) (fun _ _ _ h => h) (Or.inl ⟨by rfl, ?hy22⟩) (by assumption) ?ty22
            case hy22 => (intro w hSw; (try dsimp only at hSw); go_simp; all_goals with_reducible rfl)
            simp only [Act.put, List.getElem_toArray, List.getElem_cons_zero, List.getElem_cons_succ, List.setIfInBounds_toArray, List.set_cons_zero, List.set_cons_succ]
            refine wpAnyH_done (by kernel_rfl) ?_ _
            have HF : Hid (FldEnd B b (M + 29) 9 w (.returned v2) x40) := ⟨v2, _, rfl, ho2, by simp; omega, FldD.snoc hD (by omega) (by omega), hs_x40.more (by omega), hg_x40⟩
            clear ho2 hs_x40 hg_x40
            go_wp2
            go_ret
            exact HF.out
          · go_simp
            refine hK.out _ _ trivial (fun hHeld => ?_)
            clear hK K
            have hs_x41 : Src (x34.alloc (.cells #[.string ⟨#[120]⟩, .string ⟨#[10]⟩, .string ⟨#[127]⟩] 9)) B b (((M + 26) + 1) + 1) := hs_x34.below ((Below.refl _ _).alloc (by have := (id hs_x34).2.1; omega) _)
            have hg_x41 : w.grownBy (x34.alloc (.cells #[.string ⟨#[120]⟩, .string ⟨#[10]⟩, .string ⟨#[127]⟩] 9)) (some b) := gnew hg_x34 _
            have ho_x41 : OwnF (x34.alloc (.cells #[.string ⟨#[120]⟩, .string ⟨#[10]⟩, .string ⟨#[127]⟩] 9)) w.heap.size v l := ho_x34.alloc _
            have hr2_x41 : RowT (x34.alloc (.cells #[.string ⟨#[120]⟩, .string ⟨#[10]⟩, .string ⟨#[127]⟩] 9)) x34.heap.size 3 := RowT.new x34 (cs := #[.string ⟨#[120]⟩, .string ⟨#[10]⟩, .string ⟨#[127]⟩]) (ss := [⟨#[120]⟩, ⟨#[10]⟩, ⟨#[127]⟩]) rfl (by intro s hs; simp only [List.mem_cons, List.not_mem_nil, or_false] at hs; rcases hs with rfl | rfl | rfl <;> decide)
            have hb2_x41 : b < x34.heap.size := (id hs_x34).2.1
            have hr1_x41 : RowT (x34.alloc (.cells #[.string ⟨#[120]⟩, .string ⟨#[10]⟩, .string ⟨#[127]⟩] 9)) R2 3 := hr1_x34.alloc _
            have hb1_x41 := hb1_x34
            clear hs_x34 hg_x34 ho_x34 hr1_x34 hb1_x34
            generalize x34.alloc (.cells #[.string ⟨#[120]⟩, .string ⟨#[10]⟩, .string ⟨#[127]⟩] 9) = x41 at *
            generalize x34.heap.size = R42 at *
            refine wpAnyH_take (i := 9) (v := .pointer (some ⟨R42, j2, none⟩)) rfl (by kernel_rfl) (by kernel_rfl) (by kernel_rfl) (fun _ _ _ h => h) (Or.inl ⟨by rfl, ?hy23⟩) (by assumption) ?ty23
            case hy23 => (intro w hSw; (try dsimp only at hSw); go_simp; first | (simp [hj2']; done) | (all_goals first | (with_reducible rfl) | omega))
            simp only [Act.put, List.getElem_toArray, List.getElem_cons_zero, List.getElem_cons_succ, List.setIfInBounds_toArray, List.set_cons_zero, List.set_cons_succ]
            refine wpAnyH_ready (rs := [5, 10]) (by kernel_rfl) (by simp) ?_
            refine AllReadyH.cons rfl (fun K hK => ?_) (AllReadyH.cons rfl (fun K hK => ?_) AllReadyH.nil)
            · obtain ⟨ta, hcsta, hBta, hlta⟩ := hr1_x41.2 j1 hj1
              go_simp
              refine hK.out _ _ trivial (fun hHeld => ?_)
              clear hK K
              clear hcsta
              refine wpAnyH_ready (rs := [10]) (by kernel_rfl) (by simp) ?_
              refine AllReadyH.cons rfl (fun K hK => ?_) AllReadyH.nil
              obtain ⟨tb, hcstb, hBtb, hltb⟩ := hr2_x41.2 j2 hj2
              go_simp
              refine hK.out _ _ trivial (fun hHeld => ?_)
              clear hK K
              clear hcstb
              refine wpAnyH_take (i := 11) (v := ?_) rfl (by kernel_rfl) (by kernel_rfl) (by kernel_rfl) (fun _ _ _ h => h) (Or.inl ⟨by rfl, ?hy24⟩) (by assumption) ?ty24
              case hy24 => (intro w hSw; (try dsimp only at hSw); go_simp; all_goals with_reducible rfl)
              simp only [Act.put, List.getElem_toArray, List.getElem_cons_zero, List.getElem_cons_succ, List.setIfInBounds_toArray, List.set_cons_zero, List.set_cons_succ]
              refine wpAnyH_ready (rs := [12]) (by kernel_rfl) (by simp) ?_
              refine AllReadyH.cons rfl (fun K hK => ?_) AllReadyH.nil
              go_simp
              refine hK.out _ _ trivial (fun hHeld => ?_)
              clear hK K
              have hs_x43 : Src (x41.alloc (.cells #[.string (str ta), .string (str tb)] 35)) B b (((M + 26) + 1) + 1) := hs_x41.below ((Below.refl _ _).alloc (by have := (id hs_x41).2.1; omega) _)
              have hg_x43 : w.grownBy (x41.alloc (.cells #[.string (str ta), .string (str tb)] 35)) (some b) := gnew hg_x41 _
              have ho_x43 : OwnF (x41.alloc (.cells #[.string (str ta), .string (str tb)] 35)) w.heap.size v l := ho_x41.alloc _
              have hfc : FCell (x41.alloc (.cells #[.string (str ta), .string (str tb)] 35)) x41.heap.size (str ta) (str tb) := FCell.new x41 _ rfl _ _
              clear hs_x41 hg_x41 ho_x41
              generalize x41.alloc (.cells #[.string (str ta), .string (str tb)] 35) = x43 at *
              generalize x41.heap.size = R44 at *
              refine wpAnyH_ready (rs := [13]) (by kernel_rfl) (by simp) ?_
              refine AllReadyH.cons rfl (fun K hK => ?_) AllReadyH.nil
              refine step_appF (by rfl) _ _ (by rfl) w.heap.size v l (by rfl) ho_x43 ⟨R44, 0, none⟩ 1 1 [(str ta, str tb)] (by rfl) (by rfl) hfc.nw (by omega) hg_x43.size ?_
              intro v2 x45 ho2 hb2 _
              have hs_x45 := hs_x43.below (hb2.mono (by omega))
              have hg_x45 := glow hg_x43 hb2
              clear hs_x43 hg_x43 ho_x43 hfc hb2
              refine hK.out _ _ trivial (fun hHeld => ?_)
              clear hK K
              refine wpAnyH_take (i := 14) (v := ?_) rfl (by kernel_rfl) (by kernel_rfl) (by kernel_rfl) (fun _ _ _ h => h) (Or.inl ⟨by rfl, ?hy25⟩) (by assumption) ?ty25
              case hy25 => (intro w hSw; (try dsimp only at hSw); go_simp; all_goals with_reducible rfl)
              simp only [Act.put, List.getElem_toArray, List.getElem_cons_zero, List.getElem_cons_succ, List.setIfInBounds_toArray, List.set_cons_zero, List.set_cons_succ]
              refine wpAnyH_done (by kernel_rfl) ?_ _
              have HF : Hid (FldEnd B b (M + 29) 9 w (.returned v2) x45) := ⟨v2, _, rfl, ho2, by simp; omega, FldD.snoc hD (by omega) (by omega), hs_x45.more (by omega), hg_x45⟩
              clear ho2 hs_x45 hg_x45
              go_wp2
              go_ret
              exact HF.out
            · obtain ⟨tb, hcstb, hBtb, hltb⟩ := hr2_x41.2 j2 hj2
              go_simp
              refine hK.out _ _ trivial (fun hHeld => ?_)
              clear hK K
              clear hcstb
              refine wpAnyH_ready (rs := [5]) (by kernel_rfl) (by simp) ?_
              refine AllReadyH.cons rfl (fun K hK => ?_) AllReadyH.nil
              obtain ⟨ta, hcsta, hBta, hlta⟩ := hr1_x41.2 j1 hj1
              go_simp
              refine hK.out _ _ trivial (fun hHeld => ?_)
              clear hK K
              clear hcsta
              refine wpAnyH_take (i := 11) (v := ?_) rfl (by kernel_rfl) (by kernel_rfl) (by kernel_rfl) (fun _ _ _ h => h) (Or.inl ⟨by rfl, ?hy26⟩) (by assumption) ?ty26
              case hy26 => (intro w hSw; (try dsimp only at hSw); go_simp; all_goals with_reducible rfl)
              simp only [Act.put, List.getElem_toArray, List.getElem_cons_zero, List.getElem_cons_succ, List.setIfInBounds_toArray, List.set_cons_zero, List.set_cons_succ]
              refine wpAnyH_ready (rs := [12]) (by kernel_rfl) (by simp) ?_
              refine AllReadyH.cons rfl (fun K hK => ?_) AllReadyH.nil
              go_simp
              refine hK.out _ _ trivial (fun hHeld => ?_)
              clear hK K
              have hs_x46 : Src (x41.alloc (.cells #[.string (str ta), .string (str tb)] 35)) B b (((M + 26) + 1) + 1) := hs_x41.below ((Below.refl _ _).alloc (by have := (id hs_x41).2.1; omega) _)
              have hg_x46 : w.grownBy (x41.alloc (.cells #[.string (str ta), .string (str tb)] 35)) (some b) := gnew hg_x41 _
              have ho_x46 : OwnF (x41.alloc (.cells #[.string (str ta), .string (str tb)] 35)) w.heap.size v l := ho_x41.alloc _
              have hfc : FCell (x41.alloc (.cells #[.string (str ta), .string (str tb)] 35)) x41.heap.size (str ta) (str tb) := FCell.new x41 _ rfl _ _
              clear hs_x41 hg_x41 ho_x41
              generalize x41.alloc (.cells #[.string (str ta), .string (str tb)] 35) = x46 at *
              generalize x41.heap.size = R47 at *
              refine wpAnyH_ready (rs := [13]) (by kernel_rfl) (by simp) ?_
              refine AllReadyH.cons rfl (fun K hK => ?_) AllReadyH.nil
              refine step_appF (by rfl) _ _ (by rfl) w.heap.size v l (by rfl) ho_x46 ⟨R47, 0, none⟩ 1 1 [(str ta, str tb)] (by rfl) (by rfl) hfc.nw (by omega) hg_x46.size ?_
              intro v2 x48 ho2 hb2 _
              have hs_x48 := hs_x46.below (hb2.mono (by omega))
              have hg_x48 := glow hg_x46 hb2
              clear hs_x46 hg_x46 ho_x46 hfc hb2
              refine hK.out _ _ trivial (fun hHeld => ?_)
              clear hK K
              refine wpAnyH_take (i := 14) (v := ?_) rfl (by kernel_rfl) (by kernel_rfl) (by kernel_rfl) (fun _ _ _ h => h) (Or.inl ⟨by rfl, ?hy27⟩) (by assumption) ?ty27
              case hy27 => (intro w hSw; (try dsimp only at hSw); go_simp; all_goals with_reducible rfl)
              simp only [Act.put, List.getElem_toArray, List.getElem_cons_zero, List.getElem_cons_succ, List.setIfInBounds_toArray, List.set_cons_zero, List.set_cons_succ]
              refine wpAnyH_done (by kernel_rfl) ?_ _
              have HF : Hid (FldEnd B b (M + 29) 9 w (.returned v2) x48) := ⟨v2, _, rfl, ho2, by simp; omega, FldD.snoc hD (by omega) (by omega), hs_x48.more (by omega), hg_x48⟩
              clear ho2 hs_x48 hg_x48
              go_wp2
              go_ret
              exact HF.out
      · go_simp
        refine hK.out _ _ trivial (fun hHeld => ?_)
        clear hK K
        have hs_x49 : Src (x1.alloc (.cells #[.string ⟨#[120]⟩, .string ⟨#[10]⟩, .string ⟨#[127]⟩] 9)) B b (M + 26) := hs_x1.below ((Below.refl _ _).alloc (by have := (id hs_x1).2.1; omega) _)
        have hg_x49 : w.grownBy (x1.alloc (.cells #[.string ⟨#[120]⟩, .string ⟨#[10]⟩, .string ⟨#[127]⟩] 9)) (some b) := gnew hg_x1 _
        have ho_x49 : OwnF (x1.alloc (.cells #[.string ⟨#[120]⟩, .string ⟨#[10]⟩, .string ⟨#[127]⟩] 9)) w.heap.size v l := ho_x1.alloc _
        have hr2_x49 : RowT (x1.alloc (.cells #[.string ⟨#[120]⟩, .string ⟨#[10]⟩, .string ⟨#[127]⟩] 9)) x1.heap.size 3 := RowT.new x1 (cs := #[.string ⟨#[120]⟩, .string ⟨#[10]⟩, .string ⟨#[127]⟩]) (ss := [⟨#[120]⟩, ⟨#[10]⟩, ⟨#[127]⟩]) rfl (by intro s hs; simp only [List.mem_cons, List.not_mem_nil, or_false] at hs; rcases hs with rfl | rfl | rfl <;> decide)
        have hb2_x49 : b < x1.heap.size := (id hs_x1).2.1
        have hr1_x49 : RowT (x1.alloc (.cells #[.string ⟨#[120]⟩, .string ⟨#[10]⟩, .string ⟨#[127]⟩] 9)) R2 3 := hr1_x1.alloc _
        have hb1_x49 := hb1_x1
        clear hs_x1 hg_x1 ho_x1 hr1_x1 hb1_x1
        generalize x1.alloc (.cells #[.string ⟨#[120]⟩, .string ⟨#[10]⟩, .string ⟨#[127]⟩] 9) = x49 at *
        generalize x1.heap.size = R50 at *
        refine wpAnyH_ready (rs := [3]) (by kernel_rfl) (by simp) ?_
        refine AllReadyH.cons rfl (fun K hK => ?_) AllReadyH.nil
        go_simp
        refine (l1Next_any B b (M + 26) 3 _ (by exact hs_x49) (by omega) (by omega) (by omega)).mono ?_
        rintro e x51 ⟨r, rfl, r0, r1, _, hs_x51, hgx⟩
        obtain ⟨j1, rfl⟩ := Int.eq_ofNat_of_zero_le r0
        have hj1 : j1 < 3 := by have := r1 (by omega); omega
        have hj1' : (j1 : Int) < 3 := by omega
        have hgy52 : x49.grownBy x51 (some b) := by first | exact gfromF hgx | exact hgx
        have hg_x51 : w.grownBy x51 (some b) := gthen hg_x49 hgy52
        have ho_x51 : OwnF x51 w.heap.size v l := ho_x49.src hgy52 hbw
        have hr1_x51 : RowT x51 R2 3 := hr1_x49.far hgy52 hb1_x49
        have hb1_x51 := hb1_x49
        have hr2_x51 : RowT x51 R50 3 := hr2_x49.far hgy52 hb2_x49
        have hb2_x51 := hb2_x49
        clear hs_x49 hg_x49 ho_x49 hr1_x49 hb1_x49 hr2_x49 hb2_x49
        clear r0 r1 hgx hgy52
        refine hK.out _ _ trivial (fun hHeld => ?_)
        clear hK K
        refine wpAnyH_take (i := 4) (v := .pointer (some ⟨R2, j1, none⟩)) rfl (by kernel_rfl) (by kernel_rfl) (by kernel_rfl) (fun _ _ _ h => h) (Or.inl ⟨by rfl, ?hy28⟩) (by assumption) ?ty28
        case hy28 => (intro w hSw; (try dsimp only at hSw); go_simp; first | (simp [hj1']; done) | (all_goals first | (with_reducible rfl) | omega))
        simp only [Act.put, List.getElem_toArray, List.getElem_cons_zero, List.getElem_cons_succ, List.setIfInBounds_toArray, List.set_cons_zero, List.set_cons_succ]
        refine wpAnyH_ready (rs := [5, 8]) (by kernel_rfl) (by simp) ?_
        refine AllReadyH.cons rfl (fun K hK => ?_) (AllReadyH.cons rfl (fun K hK => ?_) AllReadyH.nil)
        · obtain ⟨ta, hcsta, hBta, hlta⟩ := hr1_x51.2 j1 hj1
          go_simp
          refine hK.out _ _ trivial (fun hHeld => ?_)
          clear hK K
          clear hcsta
          refine wpAnyH_ready (rs := [8]) (by kernel_rfl) (by simp) ?_
          refine AllReadyH.cons rfl (fun K hK => ?_) AllReadyH.nil
          go_simp
          refine (l1Next_any B b ((M + 26) + 1) 3 _ (by exact hs_x51) (by omega) (by omega) (by omega)).mono ?_
          rintro e x53 ⟨r, rfl, r0, r1, _, hs_x53, hgx⟩
          obtain ⟨j2, rfl⟩ := Int.eq_ofNat_of_zero_le r0
          have hj2 : j2 < 3 := by have := r1 (by omega); omega
          have hj2' : (j2 : Int) < 3 := by omega
          have hgy54 : x51.grownBy x53 (some b) := by first | exact gfromF hgx | exact hgx
          have hg_x53 : w.grownBy x53 (some b) := gthen hg_x51 hgy54
          have ho_x53 : OwnF x53 w.heap.size v l := ho_x51.src hgy54 hbw
          have hr1_x53 : RowT x53 R2 3 := hr1_x51.far hgy54 hb1_x51
          have hb1_x53 := hb1_x51
          have hr2_x53 : RowT x53 R50 3 := hr2_x51.far hgy54 hb2_x51
          have hb2_x53 := hb2_x51
          clear hs_x51 hg_x51 ho_x51 hr1_x51 hb1_x51 hr2_x51 hb2_x51
          clear r0 r1 hgx hgy54
          refine hK.out _ _ trivial (fun hHeld => ?_)
          clear hK K
          refine wpAnyH_take (i := 9) (v := .pointer (some ⟨R50, j2, none⟩)) rfl (by kernel_rfl) (by kernel_rfl) (by kernel_rfl) (fun _ _ _ h => h) (Or.inl ⟨by rfl, ?hy29⟩) (by assumption) ?ty29
          case hy29 => (intro w hSw; (try dsimp only at hSw); go_simp; first | (simp [hj2']; done) | (all_goals first | (with_reducible rfl) | omega))
          simp only [Act.put, List.getElem_toArray, List.getElem_cons_zero, List.getElem_cons_succ, List.setIfInBounds_toArray, List.set_cons_zero, List.set_cons_succ]
          refine wpAnyH_ready (rs := [10]) (by kernel_rfl) (by simp) ?_
          refine AllReadyH.cons rfl (fun K hK => ?_) AllReadyH.nil
          obtain ⟨tb, hcstb, hBtb, hltb⟩ := hr2_x53.2 j2 hj2
          go_simp
          refine hK.out _ _ trivial (fun hHeld => ?_)
          clear hK K
          clear hcstb
          refine wpAnyH_take (i := 11) (v := ?_) rfl (by kernel_rfl) (by kernel_rfl) (by kernel_rfl) (fun _ _ _ h => h) (Or.inl ⟨by rfl, ?hy30⟩) (by assumption) ?ty30
          case hy30 => (intro w hSw; (try dsimp only at hSw); go_simp; all_goals with_reducible rfl)
          simp only [Act.put, List.getElem_toArray, List.getElem_cons_zero, List.getElem_cons_succ, List.setIfInBounds_toArray, List.set_cons_zero, List.set_cons_succ]
          refine wpAnyH_ready (rs := [12]) (by kernel_rfl) (by simp) ?_
          refine AllReadyH.cons rfl (fun K hK => ?_) AllReadyH.nil
          go_simp
          refine hK.out _ _ trivial (fun hHeld => ?_)
          clear hK K
          have hs_x55 : Src (x53.alloc (.cells #[.string (str ta), .string (str tb)] 35)) B b (((M + 26) + 1) + 1) := hs_x53.below ((Below.refl _ _).alloc (by have := (id hs_x53).2.1; omega) _)
          have hg_x55 : w.grownBy (x53.alloc (.cells #[.string (str ta), .string (str tb)] 35)) (some b) := gnew hg_x53 _
          have ho_x55 : OwnF (x53.alloc (.cells #[.string (str ta), .string (str tb)] 35)) w.heap.size v l := ho_x53.alloc _
          have hfc : FCell (x53.alloc (.cells #[.string (str ta), .string (str tb)] 35)) x53.heap.size (str ta) (str tb) := FCell.new x53 _ rfl _ _
          clear hs_x53 hg_x53 ho_x53
          generalize x53.alloc (.cells #[.string (str ta), .string (str tb)] 35) = x55 at *
          generalize x53.heap.size = R56 at *
          refine wpAnyH_ready (rs := [13]) (by kernel_rfl) (by simp) ?_
          refine AllReadyH.cons rfl (fun K hK => ?_) AllReadyH.nil
          refine step_appF (by rfl) _ _ (by rfl) w.heap.size v l (by rfl) ho_x55 ⟨R56, 0, none⟩ 1 1 [(str ta, str tb)] (by rfl) (by rfl) hfc.nw (by omega) hg_x55.size ?_
          intro v2 x57 ho2 hb2 _
          have hs_x57 := hs_x55.below (hb2.mono (by omega))
          have hg_x57 := glow hg_x55 hb2
          clear hs_x55 hg_x55 ho_x55 hfc hb2
          refine hK.out _ _ trivial (fun hHeld => ?_)
          clear hK K
          refine wpAnyH_take (i := 14) (v := ?_) rfl (by kernel_rfl) (by kernel_rfl) (by kernel_rfl) (fun _ _ _ h => h) (Or.inl ⟨by rfl, ?hy31⟩) (by assumption) ?ty31
          case hy31 => (intro w hSw; (try dsimp only at hSw); go_simp; all_goals with_reducible rfl)
          simp only [Act.put, List.getElem_toArray, List.getElem_cons_zero, List.getElem_cons_succ, List.setIfInBounds_toArray, List.set_cons_zero, List.set_cons_succ]
          refine wpAnyH_done (by kernel_rfl) ?_ _
          have HF : Hid (FldEnd B b (M + 29) 9 w (.returned v2) x57) := ⟨v2, _, rfl, ho2, by simp; omega, FldD.snoc hD (by omega) (by omega), hs_x57.more (by omega), hg_x57⟩
          clear ho2 hs_x57 hg_x57
          go_wp2
          go_ret
          exact HF.out
        · go_simp
          refine (l1Next_any B b ((M + 26) + 1) 3 _ (by exact hs_x51) (by omega) (by omega) (by omega)).mono ?_
          rintro e x58 ⟨r, rfl, r0, r1, _, hs_x58, hgx⟩
          obtain ⟨j2, rfl⟩ := Int.eq_ofNat_of_zero_le r0
          have hj2 : j2 < 3 := by have := r1 (by omega); omega
          have hj2' : (j2 : Int) < 3 := by omega
          have hgy59 : x51.grownBy x58 (some b) := by first | exact gfromF hgx | exact hgx
          have hg_x58 : w.grownBy x58 (some b) := gthen hg_x51 hgy59
          have ho_x58 : OwnF x58 w.heap.size v l := ho_x51.src hgy59 hbw
          have hr1_x58 : RowT x58 R2 3 := hr1_x51.far hgy59 hb1_x51
          have hb1_x58 := hb1_x51
          have hr2_x58 : RowT x58 R50 3 := hr2_x51.far hgy59 hb2_x51
          have hb2_x58 := hb2_x51
          clear hs_x51 hg_x51 ho_x51 hr1_x51 hb1_x51 hr2_x51 hb2_x51
          clear r0 r1 hgx hgy59
          refine hK.out _ _ trivial (fun hHeld => ?_)
          clear hK K
          refine wpAnyH_take (i := 9) (v := .pointer (some ⟨R50, j2, none⟩)) rfl (by kernel_rfl) (by kernel_rfl) (by kernel_rfl) (fun _ _ _ h => h) (Or.inl ⟨by rfl, ?hy32⟩) (by assumption) ?ty32
          case hy32 => (intro w hSw; (try dsimp only at hSw); go_simp; first | (simp [hj2']; done) | (all_goals first | (with_reducible rfl) | omega))
          simp only [Act.put, List.getElem_toArray, List.getElem_cons_zero, List.getElem_cons_succ, List.setIfInBounds_toArray, List.set_cons_zero, List.set_cons_succ]
          refine wpAnyH_ready (rs := [5, 10]) (by kernel_rfl) (by simp) ?_
          refine AllReadyH.cons rfl (fun K hK => ?_) (AllReadyH.cons rfl (fun K hK => ?_) AllReadyH.nil)
          · obtain ⟨ta, hcsta, hBta, hlta⟩ := hr1_x58.2 j1 hj1
            go_simp
            refine hK.out _ _ trivial (fun hHeld => ?_)
            clear hK K
            clear hcsta
            refine wpAnyH_ready (rs := [10]) (by kernel_rfl) (by simp) ?_
            refine AllReadyH.cons rfl (fun K hK => ?_) AllReadyH.nil
            obtain ⟨tb, hcstb, hBtb, hltb⟩ := hr2_x58.2 j2 hj2
            go_simp
            refine hK.out _ _ trivial (fun hHeld => ?_)
            clear hK K
            clear hcstb
            refine wpAnyH_take (i := 11) (v := ?_) rfl (by kernel_rfl) (by kernel_rfl) (by kernel_rfl) (fun _ _ _ h => h) (Or.inl ⟨by rfl, ?hy33⟩) (by assumption) ?ty33
            case hy33 => (intro w hSw; (try dsimp only at hSw); go_simp; all_goals with_reducible rfl)
            simp only [Act.put, List.getElem_toArray, List.getElem_cons_zero, List.getElem_cons_succ, List.setIfInBounds_toArray, List.set_cons_zero, List.set_cons_succ]
            refine wpAnyH_ready (rs := [12]) (by kernel_rfl) (by simp) ?_
            refine AllReadyH.cons rfl (fun K hK => ?_) AllReadyH.nil
            go_simp
            refine hK.out _ _ trivial (fun hHeld => ?_)
            clear hK K
            have hs_x60 : Src (x58.alloc (.cells #[.string (str ta), .string (str tb)] 35)) B b (((M + 26) + 1) + 1) := hs_x58.below ((Below.refl _ _).alloc (by have := (id hs_x58).2.1; omega) _)
            have hg_x60 : w.grownBy (x58.alloc (.cells #[.string (str ta), .string (str tb)] 35)) (some b) := gnew hg_x58 _
            have ho_x60 : OwnF (x58.alloc (.cells #[.string (str ta), .string (str tb)] 35)) w.heap.size v l := ho_x58.alloc _
            have hfc : FCell (x58.alloc (.cells #[.string (str ta), .string (str tb)] 35)) x58.heap.size (str ta) (str tb) := FCell.new x58 _ rfl _ _
            clear hs_x58 hg_x58 ho_x58
            generalize x58.alloc (.cells #[.string (str ta), .string (str tb)] 35) = x60 at *
            generalize x58.heap.size = R61 at *
            refine wpAnyH_ready (rs := [13]) (by kernel_rfl) (by simp) ?_
            refine AllReadyH.cons rfl (fun K hK => ?_) AllReadyH.nil
            refine step_appF (by rfl) _ _ (by rfl) w.heap.size v l (by rfl) ho_x60 ⟨R61, 0, none⟩ 1 1 [(str ta, str tb)] (by rfl) (by rfl) hfc.nw (by omega) hg_x60.size ?_
            intro v2 x62 ho2 hb2 _
            have hs_x62 := hs_x60.below (hb2.mono (by omega))
            have hg_x62 := glow hg_x60 hb2
            clear hs_x60 hg_x60 ho_x60 hfc hb2
            refine hK.out _ _ trivial (fun hHeld => ?_)
            clear hK K
            refine wpAnyH_take (i := 14) (v := ?_) rfl (by kernel_rfl) (by kernel_rfl) (by kernel_rfl) (fun _ _ _ h => h) (Or.inl ⟨by rfl, ?hy34⟩) (by assumption) ?ty34
            case hy34 => (intro w hSw; (try dsimp only at hSw); go_simp; all_goals with_reducible rfl)
            simp only [Act.put, List.getElem_toArray, List.getElem_cons_zero, List.getElem_cons_succ, List.setIfInBounds_toArray, List.set_cons_zero, List.set_cons_succ]
            refine wpAnyH_done (by kernel_rfl) ?_ _
            have HF : Hid (FldEnd B b (M + 29) 9 w (.returned v2) x62) := ⟨v2, _, rfl, ho2, by simp; omega, FldD.snoc hD (by omega) (by omega), hs_x62.more (by omega), hg_x62⟩
            clear ho2 hs_x62 hg_x62
            go_wp2
            go_ret
            exact HF.out
          · obtain ⟨tb, hcstb, hBtb, hltb⟩ := hr2_x58.2 j2 hj2
            go_simp
            refine hK.out _ _ trivial (fun hHeld => ?_)
            clear hK K
            clear hcstb
            refine wpAnyH_ready (rs := [5]) (by kernel_rfl) (by simp) ?_
            refine AllReadyH.cons rfl (fun K hK => ?_) AllReadyH.nil
            obtain ⟨ta, hcsta, hBta, hlta⟩ := hr1_x58.2 j1 hj1
            go_simp
            refine hK.out _ _ trivial (fun hHeld => ?_)
            clear hK K
            clear hcsta
            refine wpAnyH_take (i := 11) (v := ?_) rfl (by kernel_rfl) (by kernel_rfl) (by kernel_rfl) (fun _ _ _ h => h) (Or.inl ⟨by rfl, ?hy35⟩) (by assumption) ?ty35
            case hy35 => (intro w hSw; (try dsimp only at hSw); go_simp; all_goals with_reducible rfl)
            simp only [Act.put, List.getElem_toArray, List.getElem_cons_zero, List.getElem_cons_succ, List.setIfInBounds_toArray, List.set_cons_zero, List.set_cons_succ]
            refine wpAnyH_ready (rs := [12]) (by kernel_rfl) (by simp) ?_
            refine AllReadyH.cons rfl (fun K hK => ?_) AllReadyH.nil
            go_simp
            refine hK.out _ _ trivial (fun hHeld => ?_)
            clear hK K
            have hs_x63 : Src (x58.alloc (.cells #[.string (str ta), .string (str tb)] 35)) B b (((M + 26) + 1) + 1) := hs_x58.below ((Below.refl _ _).alloc (by have := (id hs_x58).2.1; omega) _)
            have hg_x63 : w.grownBy (x58.alloc (.cells #[.string (str ta), .string (str tb)] 35)) (some b) := gnew hg_x58 _
            have ho_x63 : OwnF (x58.alloc (.cells #[.string (str ta), .string (str tb)] 35)) w.heap.size v l := ho_x58.alloc _
            have hfc : FCell (x58.alloc (.cells #[.string (str ta), .string (str tb)] 35)) x58.heap.size (str ta) (str tb) := FCell.new x58 _ rfl _ _
            clear hs_x58 hg_x58 ho_x58
            generalize x58.alloc (.cells #[.string (str ta), .string (str tb)] 35) = x63 at *
            generalize x58.heap.size = R64 at *
            refine wpAnyH_ready (rs := [13]) (by kernel_rfl) (by simp) ?_
            refine AllReadyH.cons rfl (fun K hK => ?_) AllReadyH.nil
            refine step_appF (by rfl) _ _ (by rfl) w.heap.size v l (by rfl) ho_x63 ⟨R64, 0, none⟩ 1 1 [(str ta, str tb)] (by rfl) (by rfl) hfc.nw (by omega) hg_x63.size ?_
            intro v2 x65 ho2 hb2 _
            have hs_x65 := hs_x63.below (hb2.mono (by omega))
            have hg_x65 := glow hg_x63 hb2
            clear hs_x63 hg_x63 ho_x63 hfc hb2
            refine hK.out _ _ trivial (fun hHeld => ?_)
            clear hK K
            refine wpAnyH_take (i := 14) (v := ?_) rfl (by kernel_rfl) (by kernel_rfl) (by kernel_rfl) (fun _ _ _ h => h) (Or.inl ⟨by rfl, ?hy36⟩) (by assumption) ?ty36
            case hy36 => (intro w hSw; (try dsimp only at hSw); go_simp; all_goals with_reducible rfl)
            simp only [Act.put, List.getElem_toArray, List.getElem_cons_zero, List.getElem_cons_succ, List.setIfInBounds_toArray, List.set_cons_zero, List.set_cons_succ]
            refine wpAnyH_done (by kernel_rfl) ?_ _
            have HF : Hid (FldEnd B b (M + 29) 9 w (.returned v2) x65) := ⟨v2, _, rfl, ho2, by simp; omega, FldD.snoc hD (by omega) (by omega), hs_x65.more (by omega), hg_x65⟩
            clear ho2 hs_x65 hg_x65
            go_wp2
            go_ret
            exact HF.out
    · go_simp
      refine (l1Next_any B b (M + 26) 3 _ (by exact hs_w2) (by omega) (by omega) (by omega)).mono ?_
      rintro e x66 ⟨r, rfl, r0, r1, _, hs_x66, hgx⟩
      obtain ⟨j1, rfl⟩ := Int.eq_ofNat_of_zero_le r0
      have hj1 : j1 < 3 := by have := r1 (by omega); omega
      have hj1' : (j1 : Int) < 3 := by omega
      have hgy67 : w2.grownBy x66 (some b) := by first | exact gfromF hgx | exact hgx
      have hg_x66 : w.grownBy x66 (some b) := gthen hg_w2 hgy67
      have ho_x66 : OwnF x66 w.heap.size v l := ho_w2.src hgy67 hbw
      clear hs_w2 hg_w2 ho_w2 
      clear r0 r1 hgx hgy67
      refine hK.out _ _ trivial (fun hHeld => ?_)
      clear hK K
      refine wpAnyH_ready (rs := [1, 6, 8]) (by kernel_rfl) (by simp) ?_
      refine AllReadyH.cons rfl (fun K hK => ?_) (AllReadyH.cons rfl (fun K hK => ?_) (AllReadyH.cons rfl (fun K hK => ?_) AllReadyH.nil))
      · go_simp
        refine hK.out _ _ trivial (fun hHeld => ?_)
        clear hK K
        have hs_x68 : Src (x66.alloc (.cells #[.string ⟨#[]⟩, .string ⟨#[97, 32, 98]⟩, .string ⟨#[65]⟩] 9)) B b ((M + 26) + 1) := hs_x66.below ((Below.refl _ _).alloc (by have := (id hs_x66).2.1; omega) _)
        have hg_x68 : w.grownBy (x66.alloc (.cells #[.string ⟨#[]⟩, .string ⟨#[97, 32, 98]⟩, .string ⟨#[65]⟩] 9)) (some b) := gnew hg_x66 _
        have ho_x68 : OwnF (x66.alloc (.cells #[.string ⟨#[]⟩, .string ⟨#[97, 32, 98]⟩, .string ⟨#[65]⟩] 9)) w.heap.size v l := ho_x66.alloc _
        have hr1_x68 : RowT (x66.alloc (.cells #[.string ⟨#[]⟩, .string ⟨#[97, 32, 98]⟩, .string ⟨#[65]⟩] 9)) x66.heap.size 3 := RowT.new x66 (cs := #[.string ⟨#[]⟩, .string ⟨#[97, 32, 98]⟩, .string ⟨#[65]⟩]) (ss := [⟨#[]⟩, ⟨#[97, 32, 98]⟩, ⟨#[65]⟩]) rfl (by intro s hs; simp only [List.mem_cons, List.not_mem_nil, or_false] at hs; rcases hs with rfl | rfl | rfl <;> decide)
        have hb1_x68 : b < x66.heap.size := (id hs_x66).2.1
        clear hs_x66 hg_x66 ho_x66 
        generalize x66.alloc (.cells #[.string ⟨#[]⟩, .string ⟨#[97, 32, 98]⟩, .string ⟨#[65]⟩] 9) = x68 at *
        generalize x66.heap.size = R69 at *
        refine wpAnyH_take (i := 4) (v := .pointer (some ⟨R69, j1, none⟩)) rfl (by kernel_rfl) (by kernel_rfl) (by kernel_rfl) (fun _ _ _ h => h) (Or.inl ⟨by rfl, ?hy37⟩) (by assumption) ?ty37
        case hy37 => (intro w hSw; (try dsimp only at hSw); go_simp; first | (simp [hj1']; done) | (all_goals first | (with_reducible rfl) | omega))
        simp only [Act.put, List.getElem_toArray, List.getElem_cons_zero, List.getElem_cons_succ, List.setIfInBounds_toArray, List.set_cons_zero, List.set_cons_succ]
        refine wpAnyH_ready (rs := [5, 6, 8]) (by kernel_rfl) (by simp) ?_
        refine AllReadyH.cons rfl (fun K hK => ?_) (AllReadyH.cons rfl (fun K hK => ?_) (AllReadyH.cons rfl (fun K hK => ?_) AllReadyH.nil))
        · obtain ⟨ta, hcsta, hBta, hlta⟩ := hr1_x68.2 j1 hj1
          go_simp
          refine hK.out _ _ trivial (fun hHeld => ?_)
          clear hK K
          clear hcsta
          refine wpAnyH_ready (rs := [6, 8]) (by kernel_rfl) (by simp) ?_
          refine AllReadyH.cons rfl (fun K hK => ?_) (AllReadyH.cons rfl (fun K hK => ?_) AllReadyH.nil)
          · go_simp
            refine hK.out _ _ trivial (fun hHeld => ?_)
            clear hK K
            have hs_x70 : Src (x68.alloc (.cells #[.string ⟨#[120]⟩, .string ⟨#[10]⟩, .string ⟨#[127]⟩] 9)) B b ((M + 26) + 1) := hs_x68.below ((Below.refl _ _).alloc (by have := (id hs_x68).2.1; omega) _)
            have hg_x70 : w.grownBy (x68.alloc (.cells #[.string ⟨#[120]⟩, .string ⟨#[10]⟩, .string ⟨#[127]⟩] 9)) (some b) := gnew hg_x68 _
            have ho_x70 : OwnF (x68.alloc (.cells #[.string ⟨#[120]⟩, .string ⟨#[10]⟩, .string ⟨#[127]⟩] 9)) w.heap.size v l := ho_x68.alloc _
            have hr2_x70 : RowT (x68.alloc (.cells #[.string ⟨#[120]⟩, .string ⟨#[10]⟩, .string ⟨#[127]⟩] 9)) x68.heap.size 3 := RowT.new x68 (cs := #[.string ⟨#[120]⟩, .string ⟨#[10]⟩, .string ⟨#[127]⟩]) (ss := [⟨#[120]⟩, ⟨#[10]⟩, ⟨#[127]⟩]) rfl (by intro s hs; simp only [List.mem_cons, List.not_mem_nil, or_false] at hs; rcases hs with rfl | rfl | rfl <;> decide)
            have hb2_x70 : b < x68.heap.size := (id hs_x68).2.1
            have hr1_x70 : RowT (x68.alloc (.cells #[.string ⟨#[120]⟩, .string ⟨#[10]⟩, .string ⟨#[127]⟩] 9)) R69 3 := hr1_x68.alloc _
            have hb1_x70 := hb1_x68
            clear hs_x68 hg_x68 ho_x68 hr1_x68 hb1_x68
            generalize x68.alloc (.cells #[.string ⟨#[120]⟩, .string ⟨#[10]⟩, .string ⟨#[127]⟩] 9) = x70 at *
            generalize x68.heap.size = R71 at *
            refine wpAnyH_ready (rs := [8]) (by kernel_rfl) (by simp) ?_
            refine AllReadyH.cons rfl (fun K hK => ?_) AllReadyH.nil
            go_simp
            refine (l1Next_any B b ((M + 26) + 1) 3 _ (by exact hs_x70) (by omega) (by omega) (by omega)).mono ?_
            rintro e x72 ⟨r, rfl, r0, r1, _, hs_x72, hgx⟩
            obtain ⟨j2, rfl⟩ := Int.eq_ofNat_of_zero_le r0
            have hj2 : j2 < 3 := by have := r1 (by omega); omega
            have hj2' : (j2 : Int) < 3 := by omega
            have hgy73 : x70.grownBy x72 (some b) := by first | exact gfromF hgx | exact hgx
            have hg_x72 : w.grownBy x72 (some b) := gthen hg_x70 hgy73
            have ho_x72 : OwnF x72 w.heap.size v l := ho_x70.src hgy73 hbw
            have hr1_x72 : RowT x72 R69 3 := hr1_x70.far hgy73 hb1_x70
            have hb1_x72 := hb1_x70
            have hr2_x72 : RowT x72 R71 3 := hr2_x70.far hgy73 hb2_x70
            have hb2_x72 := hb2_x70
            clear hs_x70 hg_x70 ho_x70 hr1_x70 hb1_x70 hr2_x70 hb2_x70
            clear r0 r1 hgx hgy73
            refine hK.out _ _ trivial (fun hHeld => ?_)
            clear hK K
            refine wpAnyH_take (i := 9) (v := .pointer (some ⟨R71, j2, none⟩)) rfl (by kernel_rfl) (by kernel_rfl) (by kernel_rfl) (fun _ _ _ h => h) (Or.inl ⟨by rfl, ?hy38⟩) (by assumption) ?ty38
            case hy38 => (intro w hSw; (try dsimp only at hSw); go_simp; first | (simp [hj2']; done) | (all_goals first | (with_reducible rfl) | omega))
            simp only [Act.put, List.getElem_toArray, List.getElem_cons_zero, List.getElem_cons_succ, List.setIfInBounds_toArray, List.set_cons_zero, List.set_cons_succ]
            refine wpAnyH_ready (rs := [10]) (by kernel_rfl) (by simp) ?_
            refine AllReadyH.cons rfl (fun K hK => ?_) AllReadyH.nil
            obtain ⟨tb, hcstb, hBtb, hltb⟩ := hr2_x72.2 j2 hj2
            go_simp
            refine hK.out _ _ trivial (fun hHeld => ?_)
            clear hK K
            clear hcstb
            refine wpAnyH_take (i := 11) (v := ?_) rfl (by kernel_rfl) (by kernel_rfl) (by kernel_rfl) (fun _ _ _ h => h) (Or.inl ⟨by rfl, ?hy39⟩) (by assumption) ?ty39
            case hy39 => (intro w hSw; (try dsimp only at hSw); go_simp; all_goals with_reducible rfl)
            simp only [Act.put, List.getElem_toArray, List.getElem_cons_zero, List.getElem_cons_succ, List.setIfInBounds_toArray, List.set_cons_zero, List.set_cons_succ]
            refine wpAnyH_ready (rs := [12]) (by kernel_rfl) (by simp) ?_
            refine AllReadyH.cons rfl (fun K hK => ?_) AllReadyH.nil
            go_simp
            refine hK.out _ _ trivial (fun hHeld => ?_)
            clear hK K
            have hs_x74 : Src (x72.alloc (.cells #[.string (str ta), .string (str tb)] 35)) B b (((M + 26) + 1) + 1) := hs_x72.below ((Below.refl _ _).alloc (by have := (id hs_x72).2.1; omega) _)
            have hg_x74 : w.grownBy (x72.alloc (.cells #[.string (str ta), .string (str tb)] 35)) (some b) := gnew hg_x72 _
            have ho_x74 : OwnF (x72.alloc (.cells #[.string (str ta), .string (str tb)] 35)) w.heap.size v l := ho_x72.alloc _
            have hfc : FCell (x72.alloc (.cells #[.string (str ta), .string (str tb)] 35)) x72.heap.size (str ta) (str tb) := FCell.new x72 _ rfl _ _
            clear hs_x72 hg_x72 ho_x72
            generalize x72.alloc (.cells #[.string (str ta), .string (str tb)] 35) = x74 at *
            generalize x72.heap.size = R75 at *
            refine wpAnyH_ready (rs := [13]) (by kernel_rfl) (by simp) ?_
            refine AllReadyH.cons rfl (fun K hK => ?_) AllReadyH.nil
            refine step_appF (by rfl) _ _ (by rfl) w.heap.size v l (by rfl) ho_x74 ⟨R75, 0, none⟩ 1 1 [(str ta, str tb)] (by rfl) (by rfl) hfc.nw (by omega) hg_x74.size ?_
            intro v2 x76 ho2 hb2 _
            have hs_x76 := hs_x74.below (hb2.mono (by omega))
            have hg_x76 := glow hg_x74 hb2
            clear hs_x74 hg_x74 ho_x74 hfc hb2
            refine hK.out _ _ trivial (fun hHeld => ?_)
            clear hK K
            refine wpAnyH_take (i := 14) (v := ?_) rfl (by kernel_rfl) (by kernel_rfl) (by kernel_rfl) (fun _ _ _ h => h) (Or.inl ⟨by rfl, ?hy40⟩) (by assumption) ?ty40
            case hy40 => (intro w hSw; (try dsimp only at hSw); go_simp; all_goals with_reducible rfl)
            simp only [Act.put, List.getElem_toArray, List.getElem_cons_zero, List.getElem_cons_succ, List.setIfInBounds_toArray, List.set_cons_zero, List.set_cons_succ]
            refine wpAnyH_done (by kernel_rfl) ?_ _
            have HF : Hid (FldEnd B b (M + 29) 9 w (.returned v2) x76) := ⟨v2, _, rfl, ho2, by simp; omega, FldD.snoc hD (by omega) (by omega), hs_x76.more (by omega), hg_x76⟩
            clear ho2 hs_x76 hg_x76
            go_wp2
            go_ret
            exact HF.out
          · go_simp
            refine (l1Next_any B b ((M + 26) + 1) 3 _ (by exact hs_x68) (by omega) (by omega) (by omega)).mono ?_
            rintro e x77 ⟨r, rfl, r0, r1, _, hs_x77, hgx⟩
            obtain ⟨j2, rfl⟩ := Int.eq_ofNat_of_zero_le r0
            have hj2 : j2 < 3 := by have := r1 (by omega); omega
            have hj2' : (j2 : Int) < 3 := by omega
            have hgy78 : x68.grownBy x77 (some b) := by first | exact gfromF hgx | exact hgx
            have hg_x77 : w.grownBy x77 (some b) := gthen hg_x68 hgy78
            have ho_x77 : OwnF x77 w.heap.size v l := ho_x68.src hgy78 hbw
            have hr1_x77 : RowT x77 R69 3 := hr1_x68.far hgy78 hb1_x68
            have hb1_x77 := hb1_x68
            clear hs_x68 hg_x68 ho_x68 hr1_x68 hb1_x68
            clear r0 r1 hgx hgy78
            refine hK.out _ _ trivial (fun hHeld => ?_)
            clear hK K
            refine wpAnyH_ready (rs := [6]) (by kernel_rfl) (by simp) ?_
            refine AllReadyH.cons rfl (fun K hK => ?_) AllReadyH.nil
            go_simp
            refine hK.out _ _ trivial (fun hHeld => ?_)
            clear hK K
            have hs_x79 : Src (x77.alloc (.cells #[.string ⟨#[120]⟩, .string ⟨#[10]⟩, .string ⟨#[127]⟩] 9)) B b (((M + 26) + 1) + 1) := hs_x77.below ((Below.refl _ _).alloc (by have := (id hs_x77).2.1; omega) _)
            have hg_x79 : w.grownBy (x77.alloc (.cells #[.string ⟨#[120]⟩, .string ⟨#[10]⟩, .string ⟨#[127]⟩] 9)) (some b) := gnew hg_x77 _
            have ho_x79 : OwnF (x77.alloc (.cells #[.string ⟨#[120]⟩, .string ⟨#[10]⟩, .string ⟨#[127]⟩] 9)) w.heap.size v l := ho_x77.alloc _
            have hr2_x79 : RowT (x77.alloc (.cells #[.string ⟨#[120]⟩, .string ⟨#[10]⟩, .string ⟨#[127]⟩] 9)) x77.heap.size 3 := RowT.new x77 (cs := #[.string ⟨#[120]⟩, .string ⟨#[10]⟩, .string ⟨#[127]⟩]) (ss := [⟨#[120]⟩, ⟨#[10]⟩, ⟨#[127]⟩]) rfl (by intro s hs; simp only [List.mem_cons, List.not_mem_nil, or_false] at hs; rcases hs with rfl | rfl | rfl <;> decide)
            have hb2_x79 : b < x77.heap.size := (id hs_x77).2.1
            have hr1_x79 : RowT (x77.alloc (.cells #[.string ⟨#[120]⟩, .string ⟨#[10]⟩, .string ⟨#[127]⟩] 9)) R69 3 := hr1_x77.alloc _
            have hb1_x79 := hb1_x77
            clear hs_x77 hg_x77 ho_x77 hr1_x77 hb1_x77
            generalize x77.alloc (.cells #[.string ⟨#[120]⟩, .string ⟨#[10]⟩, .string ⟨#[127]⟩] 9) = x79 at *
            generalize x77.heap.size = R80 at *
            refine wpAnyH_take (i := 9) (v := .pointer (some ⟨R80, j2, none⟩)) rfl (by kernel_rfl) (by kernel_rfl) (by kernel_rfl) (fun _ _ _ h => h) (Or.inl ⟨by rfl, ?hy41⟩) (by assumption) ?ty41
            case hy41 => (intro w hSw; (try dsimp only at hSw); go_simp; first | (simp [hj2']; done) | (all_goals first | (with_reducible rfl) | omega))
            simp only [Act.put, List.getElem_toArray, List.getElem_cons_zero, List.getElem_cons_succ, List.setIfInBounds_toArray, List.set_cons_zero, List.set_cons_succ]
            refine wpAnyH_ready (rs := [10]) (by kernel_rfl) (by simp) ?_
            refine AllReadyH.cons rfl (fun K hK => ?_) AllReadyH.nil
            obtain ⟨tb, hcstb, hBtb, hltb⟩ := hr2_x79.2 j2 hj2
            go_simp
            refine hK.out _ _ trivial (fun hHeld => ?_)
            clear hK K
            clear hcstb
            refine wpAnyH_take (i := 11) (v := ?_) rfl (by kernel_rfl) (by kernel_rfl) (by kernel_rfl) (fun _ _ _ h => h) (Or.inl ⟨by rfl, ?hy42⟩) (by assumption) ?ty42
            case hy42 => (intro w hSw; (try dsimp only at hSw); go_simp; all_goals with_reducible rfl)
            simp only [Act.put, List.getElem_toArray, List.getElem_cons_zero, List.getElem_cons_succ, List.setIfInBounds_toArray, List.set_cons_zero, List.set_cons_succ]
            refine wpAnyH_ready (rs := [12]) (by kernel_rfl) (by simp) ?_
            refine AllReadyH.cons rfl (fun K hK => ?_) AllReadyH.nil
            go_simp
            refine hK.out _ _ trivial (fun hHeld => ?_)
            clear hK K
            have hs_x81 : Src (x79.alloc (.cells #[.string (str ta), .string (str tb)] 35)) B b (((M + 26) + 1) + 1) := hs_x79.below ((Below.refl _ _).alloc (by have := (id hs_x79).2.1; omega) _)
            have hg_x81 : w.grownBy (x79.alloc (.cells #[.string (str ta), .string (str tb)] 35)) (some b) := gnew hg_x79 _
            have ho_x81 : OwnF (x79.alloc (.cells #[.string (str ta), .string (str tb)] 35)) w.heap.size v l := ho_x79.alloc _
            have hfc : FCell (x79.alloc (.cells #[.string (str ta), .string (str tb)] 35)) x79.heap.size (str ta) (str tb) := FCell.new x79 _ rfl _ _
            clear hs_x79 hg_x79 ho_x79
            generalize x79.alloc (.cells #[.string (str ta), .string (str tb)] 35) = x81 at *
            generalize x79.heap.size = R82 at *
            refine wpAnyH_ready (rs := [13]) (by kernel_rfl) (by simp) ?_
            refine AllReadyH.cons rfl (fun K hK => ?_) AllReadyH.nil
            refine step_appF (by rfl) _ _ (by rfl) w.heap.size v l (by rfl) ho_x81 ⟨R82, 0, none⟩ 1 1 [(str ta, str tb)] (by rfl) (by rfl) hfc.nw (by omega) hg_x81.size ?_
            intro v2 x83 ho2 hb2 _
            have hs_x83 := hs_x81.below (hb2.mono (by omega))
            have hg_x83 := glow hg_x81 hb2
            clear hs_x81 hg_x81 ho_x81 hfc hb2
            refine hK.out _ _ trivial (fun hHeld => ?_)
            clear hK K
            refine wpAnyH_take (i := 14) (v := ?_) rfl (by kernel_rfl) (by kernel_rfl) (by kernel_rfl) (fun _ _ _ h => h) (Or.inl ⟨by rfl, ?hy43⟩) (by assumption) ?ty43
            case hy43 => (intro w hSw; (try dsimp only at hSw); go_simp; all_goals with_reducible rfl)
            simp only [Act.put, List.getElem_toArray, List.getElem_cons_zero, List.getElem_cons_succ, List.setIfInBounds_toArray, List.set_cons_zero, List.set_cons_succ]
            refine wpAnyH_done (by kernel_rfl) ?_ _
            have HF : Hid (FldEnd B b (M + 29) 9 w (.returned v2) x83) := ⟨v2, _, rfl, ho2, by simp; omega, FldD.snoc hD (by omega) (by omega), hs_x83.more (by omega), hg_x83⟩
            clear ho2 hs_x83 hg_x83
            go_wp2
            go_ret
            exact HF.out
        · go_simp
          refine hK.out _ _ trivial (fun hHeld => ?_)
          clear hK K
          have hs_x84 : Src (x68.alloc (.cells #[.string ⟨#[120]⟩, .string ⟨#[10]⟩, .string ⟨#[127]⟩] 9)) B b ((M + 26) + 1) := hs_x68.below ((Below.refl _ _).alloc (by have := (id hs_x68).2.1; omega) _)
          have hg_x84 : w.grownBy (x68.alloc (.cells #[.string ⟨#[120]⟩, .string ⟨#[10]⟩, .string ⟨#[127]⟩] 9)) (some b) := gnew hg_x68 _
          have ho_x84 : OwnF (x68.alloc (.cells #[.string ⟨#[120]⟩, .string ⟨#[10]⟩, .string ⟨#[127]⟩] 9)) w.heap.size v l := ho_x68.alloc _
          have hr2_x84 : RowT (x68.alloc (.cells #[.string ⟨#[120]⟩, .string ⟨#[10]⟩, .string ⟨#[127]⟩] 9)) x68.heap.size 3 := RowT.new x68 (cs := #[.string ⟨#[120]⟩, .string ⟨#[10]⟩, .string ⟨#[127]⟩]) (ss := [⟨#[120]⟩, ⟨#[10]⟩, ⟨#[127]⟩]) rfl (by intro s hs; simp only [List.mem_cons, List.not_mem_nil, or_false] at hs; rcases hs with rfl | rfl | rfl <;> decide)
          have hb2_x84 : b < x68.heap.size := (id hs_x68).2.1
          have hr1_x84 : RowT (x68.alloc (.cells #[.string ⟨#[120]⟩, .string ⟨#[10]⟩, .string ⟨#[127]⟩] 9)) R69 3 := hr1_x68.alloc _
          have hb1_x84 := hb1_x68
          clear hs_x68 hg_x68 ho_x68 hr1_x68 hb1_x68
          generalize x68.alloc (.cells #[.string ⟨#[120]⟩, .string ⟨#[10]⟩, .string ⟨#[127]⟩] 9) = x84 at *
          generalize x68.heap.size = R85 at *
          refine wpAnyH_ready (rs := [5, 8]) (by kernel_rfl) (by simp) ?_
          refine AllReadyH.cons rfl (fun K hK => ?_) (AllReadyH.cons rfl (fun K hK => ?_) AllReadyH.nil)
          · obtain ⟨ta, hcsta, hBta, hlta⟩ := hr1_x84.2 j1 hj1
            go_simp
            refine hK.out _ _ trivial (fun hHeld => ?_)
            clear hK K
            clear hcsta
            refine wpAnyH_ready (rs := [8]) (by kernel_rfl) (by simp) ?_
            refine AllReadyH.cons rfl (fun K hK => ?_) AllReadyH.nil
            go_simp
            refine (l1Next_any B b ((M + 26) + 1) 3 _ (by exact hs_x84) (by omega) (by omega) (by omega)).mono ?_
            rintro e x86 ⟨r, rfl, r0, r1, _, hs_x86, hgx⟩
            obtain ⟨j2, rfl⟩ := Int.eq_ofNat_of_zero_le r0
            have hj2 : j2 < 3 := by have := r1 (by omega); omega
            have hj2' : (j2 : Int) < 3 := by omega
            have hgy87 : x84.grownBy x86 (some b) := by first | exact gfromF hgx | exact hgx
            have hg_x86 : w.grownBy x86 (some b) := gthen hg_x84 hgy87
            have ho_x86 : OwnF x86 w.heap.size v l := ho_x84.src hgy87 hbw
            have hr1_x86 : RowT x86 R69 3 := hr1_x84.far hgy87 hb1_x84
            have hb1_x86 := hb1_x84
            have hr2_x86 : RowT x86 R85 3 := hr2_x84.far hgy87 hb2_x84
            have hb2_x86 := hb2_x84
            clear hs_x84 hg_x84 ho_x84 hr1_x84 hb1_x84 hr2_x84 hb2_x84
            clear r0 r1 hgx hgy87
            refine hK.out _ _ trivial (fun hHeld => ?_)
            clear hK K
            refine wpAnyH_take (i := 9) (v := .pointer (some ⟨R85, j2, none⟩)) rfl (by kernel_rfl) (by kernel_rfl) (by kernel_rfl) (fun _ _ _ h => h) (Or.inl ⟨by rfl, ?hy44⟩) (by assumption) ?ty44
            case hy44 => (intro w hSw; (try dsimp only at hSw); go_simp; first | (simp [hj2']; done) | (all_goals first | (with_reducible rfl) | omega))
            simp only [Act.put, List.getElem_toArray, List.getElem_cons_zero, List.getElem_cons_succ, List.setIfInBounds_toArray, List.set_cons_zero, List.set_cons_succ]
            refine wpAnyH_ready (rs := [10]) (by kernel_rfl) (by simp) ?_
            refine AllReadyH.cons rfl (fun K hK => ?_) AllReadyH.nil
            obtain ⟨tb, hcstb, hBtb, hltb⟩ := hr2_x86.2 j2 hj2
            go_simp
            refine hK.out _ _ trivial (fun hHeld => ?_)
            clear hK K
            clear hcstb
            refine wpAnyH_take (i := 11) (v := ?_) rfl (by kernel_rfl) (by kernel_rfl) (by kernel_rfl) (fun _ _ _ h => h) (Or.inl ⟨by rfl, ?hy45⟩) (by assumption) ?ty45
            case hy45 => (intro w hSw; (try dsimp only at hSw); go_simp; all_goals with_reducible rfl)
            simp only [Act.put, List.getElem_toArray, List.getElem_cons_zero, List.getElem_cons_succ, List.setIfInBounds_toArray, List.set_cons_zero, List.set_cons_succ]
            refine wpAnyH_ready (rs := [12]) (by kernel_rfl) (by simp) ?_
            refine AllReadyH.cons rfl (fun K hK => ?_) AllReadyH.nil
            go_simp
            refine hK.out _ _ trivial (fun hHeld => ?_)
            clear hK K
            have hs_x88 : Src (x86.alloc (.cells #[.string (str ta), .string (str tb)] 35)) B b (((M + 26) + 1) + 1) := hs_x86.below ((Below.refl _ _).alloc (by have := (id hs_x86).2.1; omega) _)
            have hg_x88 : w.grownBy (x86.alloc (.cells #[.string (str ta), .string (str tb)] 35)) (some b) := gnew hg_x86 _
            have ho_x88 : OwnF (x86.alloc (.cells #[.string (str ta), .string (str tb)] 35)) w.heap.size v l := ho_x86.alloc _
            have hfc : FCell (x86.alloc (.cells #[.string (str ta), .string (str tb)] 35)) x86.heap.size (str ta) (str tb) := FCell.new x86 _ rfl _ _
            clear hs_x86 hg_x86 ho_x86
            generalize x86.alloc (.cells #[.string (str ta), .string (str tb)] 35) = x88 at *
            generalize x86.heap.size = R89 at *
            refine wpAnyH_ready (rs := [13]) (by kernel_rfl) (by simp) ?_
            refine AllReadyH.cons rfl (fun K hK => ?_) AllReadyH.nil
            refine step_appF (by rfl) _ _ (by rfl) w.heap.size v l (by rfl) ho_x88 ⟨R89, 0, none⟩ 1 1 [(str ta, str tb)] (by rfl) (by rfl) hfc.nw (by omega) hg_x88.size ?_
            intro v2 x90 ho2 hb2 _
            have hs_x90 := hs_x88.below (hb2.mono (by omega))
            have hg_x90 := glow hg_x88 hb2
            clear hs_x88 hg_x88 ho_x88 hfc hb2
            refine hK.out _ _ trivial (fun hHeld => ?_)
            clear hK K
            refine wpAnyH_take (i := 14) (v := ?_) rfl (by kernel_rfl) (by kernel_rfl) (by kernel_rfl) (fun _ _ _ h => h) (Or.inl ⟨by rfl, ?hy46⟩) (by assumption) ?ty46
            case hy46 => (intro w hSw; (try dsimp only at hSw); go_simp; all_goals with_reducible rfl)
            simp only [Act.put, List.getElem_toArray, List.getElem_cons_zero, List.getElem_cons_succ, List.setIfInBounds_toArray, List.set_cons_zero, List.set_cons_succ]
            refine wpAnyH_done (by kernel_rfl) ?_ _
            have HF : Hid (FldEnd B b (M + 29) 9 w (.returned v2) x90) := ⟨v2, _, rfl, ho2, by simp; omega, FldD.snoc hD (by omega) (by omega), hs_x90.more (by omega), hg_x90⟩
            clear ho2 hs_x90 hg_x90
            go_wp2
            go_ret
            exact HF.out
          · go_simp
            refine (l1Next_any B b ((M + 26) + 1) 3 _ (by exact hs_x84) (by omega) (by omega) (by omega)).mono ?_
            rintro e x91 ⟨r, rfl, r0, r1, _, hs_x91, hgx⟩
            obtain ⟨j2, rfl⟩ := Int.eq_ofNat_of_zero_le r0
            have hj2 : j2 < 3 := by have := r1 (by omega); omega
            have hj2' : (j2 : Int) < 3 := by omega
            have hgy92 : x84.grownBy x91 (some b) := by first | exact gfromF hgx | exact hgx
            have hg_x91 : w.grownBy x91 (some b) := gthen hg_x84 hgy92
            have ho_x91 : OwnF x91 w.heap.size v l := ho_x84.src hgy92 hbw
            have hr1_x91 : RowT x91 R69 3 := hr1_x84.far hgy92 hb1_x84
            have hb1_x91 := hb1_x84
            have hr2_x91 : RowT x91 R85 3 := hr2_x84.far hgy92 hb2_x84
            have hb2_x91 := hb2_x84
            clear hs_x84 hg_x84 ho_x84 hr1_x84 hb1_x84 hr2_x84 hb2_x84
            clear r0 r1 hgx hgy92
            refine hK.out _ _ trivial (fun hHeld => ?_)
            clear hK K
            refine wpAnyH_take (i := 9) (v := .pointer (some ⟨R85, j2, none⟩)) rfl (by kernel_rfl) (by kernel_rfl) (by kernel_rfl) (fun _ _ _ h => h) (Or.inl ⟨by rfl, ?hy47⟩) (by assumption) ?ty47
            case hy47 => (intro w hSw; (try dsimp only at hSw); go_simp; first | (simp [hj2']; done) | (all_goals first | (with_reducible rfl) | omega))
            simp only [Act.put, List.getElem_toArray, List.getElem_cons_zero, List.getElem_cons_succ, List.setIfInBounds_toArray, List.set_cons_zero, List.set_cons_succ]
            refine wpAnyH_ready (rs := [5, 10]) (by kernel_rfl) (by simp) ?_
            refine AllReadyH.cons rfl (fun K hK => ?_) (AllReadyH.cons rfl (fun K hK => ?_) AllReadyH.nil)
            · obtain ⟨ta, hcsta, hBta, hlta⟩ := hr1_x91.2 j1 hj1
              go_simp
              refine hK.out _ _ trivial (fun hHeld => ?_)
              clear hK K
              clear hcsta
              refine wpAnyH_ready (rs := [10]) (by kernel_rfl) (by simp) ?_
              refine AllReadyH.cons rfl (fun K hK => ?_) AllReadyH.nil
              obtain ⟨tb, hcstb, hBtb, hltb⟩ := hr2_x91.2 j2 hj2
              go_simp
              refine hK.out _ _ trivial (fun hHeld => ?_)
              clear hK K
              clear hcstb
              refine wpAnyH_take (i := 11) (v := ?_) rfl (by kernel_rfl) (by kernel_rfl) (by kernel_rfl) (fun _ _ _ h => h) (Or.inl ⟨by rfl, ?hy48⟩) (by assumption) ?ty48
              case hy48 => (intro w hSw; (try dsimp only at hSw); go_simp; all_goals with_reducible rfl)
              simp only [Act.put, List.getElem_toArray, List.getElem_cons_zero, List.getElem_cons_succ, List.setIfInBounds_toArray, List.set_cons_zero, List.set_cons_succ]
              refine wpAnyH_ready (rs := [12]) (by kernel_rfl) (by simp) ?_
              refine AllReadyH.cons rfl (fun K hK => ?_) AllReadyH.nil
              go_simp
              refine hK.out _ _ trivial (fun hHeld => ?_)
              clear hK K
              have hs_x93 : Src (x91.alloc (.cells #[.string (str ta), .string (str tb)] 35)) B b (((M + 26) + 1) + 1) := hs_x91.below ((Below.refl _ _).alloc (by have := (id hs_x91).2.1; omega) _)
              have hg_x93 : w.grownBy (x91.alloc (.cells #[.string (str ta), .string (str tb)] 35)) (some b) := gnew hg_x91 _
              have ho_x93 : OwnF (x91.alloc (.cells #[.string (str ta), .string (str tb)] 35)) w.heap.size v l := ho_x91.alloc _
              have hfc : FCell (x91.alloc (.cells #[.string (str ta), .string (str tb)] 35)) x91.heap.size (str ta) (str tb) := FCell.new x91 _ rfl _ _
              clear hs_x91 hg_x91 ho_x91
              generalize x91.alloc (.cells #[.string (str ta), .string (str tb)] 35) = x93 at *
              generalize x91.heap.size = R94 at *
              refine wpAnyH_ready (rs := [13]) (by kernel_rfl) (by simp) ?_
              refine AllReadyH.cons rfl (fun K hK => ?_) AllReadyH.nil
              refine step_appF (by rfl) _ _ (by rfl) w.heap.size v l (by rfl) ho_x93 ⟨R94, 0, none⟩ 1 1 [(str ta, str tb)] (by rfl) (by rfl) hfc.nw (by omega) hg_x93.size ?_
              intro v2 x95 ho2 hb2 _
              have hs_x95 := hs_x93.below (hb2.mono (by omega))
              have hg_x95 := glow hg_x93 hb2
              clear hs_x93 hg_x93 ho_x93 hfc hb2
              refine hK.out _ _ trivial (fun hHeld => ?_)
              clear hK K
              refine wpAnyH_take (i := 14) (v := ?_) rfl (by kernel_rfl) (by kernel_rfl) (by kernel_rfl) (fun _ _ _ h => h) (Or.inl ⟨by rfl, ?hy49⟩) (by assumption) ?ty49
              case hy49 => (intro w hSw; (try dsimp only at hSw); go_simp; all_goals with_reducible rfl)
              simp only [Act.put, List.getElem_toArray, List.getElem_cons_zero, List.getElem_cons_succ, List.setIfInBounds_toArray, List.set_cons_zero, List.set_cons_succ]
              refine wpAnyH_done (by kernel_rfl) ?_ _
              have HF : Hid (FldEnd B b (M + 29) 9 w (.returned v2) x95) := ⟨v2, _, rfl, ho2, by simp; omega, FldD.snoc hD (by omega) (by omega), hs_x95.more (by omega), hg_x95⟩
              clear ho2 hs_x95 hg_x95
              go_wp2
              go_ret
              exact HF.out
            · obtain ⟨tb, hcstb, hBtb, hltb⟩ := hr2_x91.2 j2 hj2
              go_simp
              refine hK.out _ _ trivial (fun hHeld => ?_)
              clear hK K
              clear hcstb
              refine wpAnyH_ready (rs := [5]) (by kernel_rfl) (by simp) ?_
              refine AllReadyH.cons rfl (fun K hK => ?_) AllReadyH.nil
              obtain ⟨ta, hcsta, hBta, hlta⟩ := hr1_x91.2 j1 hj1
              go_simp
              refine hK.out _ _ trivial (fun hHeld => ?_)
              clear hK K
              clear hcsta
              refine wpAnyH_take (i := 11) (v := ?_) rfl (by kernel_rfl) (by kernel_rfl) (by kernel_rfl) (fun _ _ _ h => h) (Or.inl ⟨by rfl, ?hy50⟩) (by assumption) ?ty50
              case hy50 => (intro w hSw; (try dsimp only at hSw); go_simp; all_goals with_reducible rfl)
              simp only [Act.put, List.getElem_toArray, List.getElem_cons_zero, List.getElem_cons_succ, List.setIfInBounds_toArray, List.set_cons_zero, List.set_cons_succ]
              refine wpAnyH_ready (rs := [12]) (by kernel_rfl) (by simp) ?_
              refine AllReadyH.cons rfl (fun K hK => ?_) AllReadyH.nil
              go_simp
              refine hK.out _ _ trivial (fun hHeld => ?_)
              clear hK K
              have hs_x96 : Src (x91.alloc (.cells #[.string (str ta), .string (str tb)] 35)) B b (((M + 26) + 1) + 1) := hs_x91.below ((Below.refl _ _).alloc (by have := (id hs_x91).2.1; omega) _)
              have hg_x96 : w.grownBy (x91.alloc (.cells #[.string (str ta), .string (str tb)] 35)) (some b) := gnew hg_x91 _
              have ho_x96 : OwnF (x91.alloc (.cells #[.string (str ta), .string (str tb)] 35)) w.heap.size v l := ho_x91.alloc _
              have hfc : FCell (x91.alloc (.cells #[.string (str ta), .string (str tb)] 35)) x91.heap.size (str ta) (str tb) := FCell.new x91 _ rfl _ _
              clear hs_x91 hg_x91 ho_x91
              generalize x91.alloc (.cells #[.string (str ta), .string (str tb)] 35) = x96 at *
              generalize x91.heap.size = R97 at *
              refine wpAnyH_ready (rs := [13]) (by kernel_rfl) (by simp) ?_
              refine AllReadyH.cons rfl (fun K hK => ?_) AllReadyH.nil
              refine step_appF (by rfl) _ _ (by rfl) w.heap.size v l (by rfl) ho_x96 ⟨R97, 0, none⟩ 1 1 [(str ta, str tb)] (by rfl) (by rfl) hfc.nw (by omega) hg_x96.size ?_
              intro v2 x98 ho2 hb2 _
              have hs_x98 := hs_x96.below (hb2.mono (by omega))
              have hg_x98 := glow hg_x96 hb2
              clear hs_x96 hg_x96 ho_x96 hfc hb2
              refine hK.out _ _ trivial (fun hHeld => ?_)
              clear hK K
              refine wpAnyH_take (i := 14) (v := ?_) rfl (by kernel_rfl) (by kernel_rfl) (by kernel_rfl) (fun _ _ _ h => h) (Or.inl ⟨by rfl, ?hy51⟩) (by assumption) ?ty51
              case hy51 => (intro w hSw; (try dsimp only at hSw); go_simp; all_goals with_reducible rfl)
              simp only [Act.put, List.getElem_toArray, List.getElem_cons_zero, List.getElem_cons_succ, List.setIfInBounds_toArray, List.set_cons_zero, List.set_cons_succ]
              refine wpAnyH_done (by kernel_rfl) ?_ _
              have HF : Hid (FldEnd B b (M + 29) 9 w (.returned v2) x98) := ⟨v2, _, rfl, ho2, by simp; omega, FldD.snoc hD (by omega) (by omega), hs_x98.more (by omega), hg_x98⟩
              clear ho2 hs_x98 hg_x98
              go_wp2
              go_ret
              exact HF.out
        · go_simp
          refine (l1Next_any B b ((M + 26) + 1) 3 _ (by exact hs_x68) (by omega) (by omega) (by omega)).mono ?_
          rintro e x99 ⟨r, rfl, r0, r1, _, hs_x99, hgx⟩
          obtain ⟨j2, rfl⟩ := Int.eq_ofNat_of_zero_le r0
          have hj2 : j2 < 3 := by have := r1 (by omega); omega
          have hj2' : (j2 : Int) < 3 := by omega
          have hgy100 : x68.grownBy x99 (some b) := by first | exact gfromF hgx | exact hgx
          have hg_x99 : w.grownBy x99 (some b) := gthen hg_x68 hgy100
          have ho_x99 : OwnF x99 w.heap.size v l := ho_x68.src hgy100 hbw
          have hr1_x99 : RowT x99 R69 3 := hr1_x68.far hgy100 hb1_x68
          have hb1_x99 := hb1_x68
          clear hs_x68 hg_x68 ho_x68 hr1_x68 hb1_x68
          clear r0 r1 hgx hgy100
          refine hK.out _ _ trivial (fun hHeld => ?_)
          clear hK K
          refine wpAnyH_ready (rs := [5, 6]) (by kernel_rfl) (by simp) ?_
          refine AllReadyH.cons rfl (fun K hK => ?_) (AllReadyH.cons rfl (fun K hK => ?_) AllReadyH.nil)
          · obtain ⟨ta, hcsta, hBta, hlta⟩ := hr1_x99.2 j1 hj1
            go_simp
            refine hK.out _ _ trivial (fun hHeld => ?_)
            clear hK K
            clear hcsta
            refine wpAnyH_ready (rs := [6]) (by kernel_rfl) (by simp) ?_
            refine AllReadyH.cons rfl (fun K hK => ?_) AllReadyH.nil
            go_simp
            refine hK.out _ _ trivial (fun hHeld => ?_)
            clear hK K
            have hs_x101 : Src (x99.alloc (.cells #[.string ⟨#[120]⟩, .string ⟨#[10]⟩, .string ⟨#[127]⟩] 9)) B b (((M + 26) + 1) + 1) := hs_x99.below ((Below.refl _ _).alloc (by have := (id hs_x99).2.1; omega) _)
            have hg_x101 : w.grownBy (x99.alloc (.cells #[.string ⟨#[120]⟩, .string ⟨#[10]⟩, .string ⟨#[127]⟩] 9)) (some b) := gnew hg_x99 _
            have ho_x101 : OwnF (x99.alloc (.cells #[.string ⟨#[120]⟩, .string ⟨#[10]⟩, .string ⟨#[127]⟩] 9)) w.heap.size v l := ho_x99.alloc _
            have hr2_x101 : RowT (x99.alloc (.cells #[.string ⟨#[120]⟩, .string ⟨#[10]⟩, .string ⟨#[127]⟩] 9)) x99.heap.size 3 := RowT.new x99 (cs := #[.string ⟨#[120]⟩, .string ⟨#[10]⟩, .string ⟨#[127]⟩]) (ss := [⟨#[120]⟩, ⟨#[10]⟩, ⟨#[127]⟩]) rfl (by intro s hs; simp only [List.mem_cons, List.not_mem_nil, or_false] at hs; rcases hs with rfl | rfl | rfl <;> decide)
            have hb2_x101 : b < x99.heap.size := (id hs_x99).2.1
            have hr1_x101 : RowT (x99.alloc (.cells #[.string ⟨#[120]⟩, .string ⟨#[10]⟩, .string ⟨#[127]⟩] 9)) R69 3 := hr1_x99.alloc _
            have hb1_x101 := hb1_x99
            clear hs_x99 hg_x99 ho_x99 hr1_x99 hb1_x99
            generalize x99.alloc (.cells #[.string ⟨#[120]⟩, .string ⟨#[10]⟩, .string ⟨#[127]⟩] 9) = x101 at *
            generalize x99.heap.size = R102 at *
            refine wpAnyH_take (i := 9) (v := .pointer (some ⟨R102, j2, none⟩)) rfl (by kernel_rfl) (by kernel_rfl) (by kernel_rfl) (fun _ _ _ h => h) (Or.inl ⟨by rfl, ?hy52⟩) (by assumption) ?ty52
            case hy52 => (intro w hSw; (try dsimp only at hSw); go_simp; first | (simp [hj2']; done) | (all_goals first | (with_reducible rfl) | omega))
            simp only [Act.put, List.getElem_toArray, List.getElem_cons_zero, List.getElem_cons_succ, List.setIfInBounds_toArray, List.set_cons_zero, List.set_cons_succ]
            refine wpAnyH_ready (rs := [10]) (by kernel_rfl) (by simp) ?_
            refine AllReadyH.cons rfl (fun K hK => ?_) AllReadyH.nil
            obtain ⟨tb, hcstb, hBtb, hltb⟩ := hr2_x101.2 j2 hj2
            go_simp
            refine hK.out _ _ trivial (fun hHeld => ?_)
            clear hK K
            clear hcstb
            refine wpAnyH_take (i := 11) (v := ?_) rfl (by kernel_rfl) (by kernel_rfl) (by kernel_rfl) (fun _ _ _ h => h) (Or.inl ⟨by rfl, ?hy53⟩) (by assumption) ?ty53
            case hy53 => (intro w hSw; (try dsimp only at hSw); go_simp; all_goals with_reducible rfl)
            simp only [Act.put, List.getElem_toArray, List.getElem_cons_zero, List.getElem_cons_succ, List.setIfInBounds_toArray, List.set_cons_zero, List.set_cons_succ]
            refine wpAnyH_ready (rs := [12]) (by kernel_rfl) (by simp) ?_
            refine AllReadyH.cons rfl (fun K hK => ?_) AllReadyH.nil
            go_simp
            refine hK.out _ _ trivial (fun hHeld => ?_)
            clear hK K
            have hs_x103 : Src (x101.alloc (.cells #[.string (str ta), .string (str tb)] 35)) B b (((M + 26) + 1) + 1) := hs_x101.below ((Below.refl _ _).alloc (by have := (id hs_x101).2.1; omega) _)
            have hg_x103 : w.grownBy (x101.alloc (.cells #[.string (str ta), .string (str tb)] 35)) (some b) := gnew hg_x101 _
            have ho_x103 : OwnF (x101.alloc (.cells #[.string (str ta), .string (str tb)] 35)) w.heap.size v l := ho_x101.alloc _
            have hfc : FCell (x101.alloc (.cells #[.string (str ta), .string (str tb)] 35)) x101.heap.size (str ta) (str tb) := FCell.new x101 _ rfl _ _
            clear hs_x101 hg_x101 ho_x101
            generalize x101.alloc (.cells #[.string (str ta), .string (str tb)] 35) = x103 at *
            generalize x101.heap.size = R104 at *
            refine wpAnyH_ready (rs := [13]) (by kernel_rfl) (by simp) ?_
            refine AllReadyH.cons rfl (fun K hK => ?_) AllReadyH.nil
            refine step_appF (by rfl) _ _ (by rfl) w.heap.size v l (by rfl) ho_x103 ⟨R104, 0, none⟩ 1 1 [(str ta, str tb)] (by rfl) (by rfl) hfc.nw (by omega) hg_x103.size ?_
            intro v2 x105 ho2 hb2 _
            have hs_x105 := hs_x103.below (hb2.mono (by omega))
            have hg_x105 := glow hg_x103 hb2
            clear hs_x103 hg_x103 ho_x103 hfc hb2
            refine hK.out _ _ trivial (fun hHeld => ?_)
            clear hK K
            refine wpAnyH_take (i := 14) (v := ?_) rfl (by kernel_rfl) (by kernel_rfl) (by kernel_rfl) (fun _ _ _ h => h) (Or.inl ⟨by rfl, ?hy54⟩) (by assumption) ?ty54
            case hy54 => (intro w hSw; (try dsimp only at hSw); go_simp; all_goals with_reducible rfl)
            simp only [Act.put, List.getElem_toArray, List.getElem_cons_zero, List.getElem_cons_succ, List.setIfInBounds_toArray, List.set_cons_zero, List.set_cons_succ]
            refine wpAnyH_done (by kernel_rfl) ?_ _
            have HF : Hid (FldEnd B b (M + 29) 9 w (.returned v2) x105) := ⟨v2, _, rfl, ho2, by simp; omega, FldD.snoc hD (by omega) (by omega), hs_x105.more (by omega), hg_x105⟩
            clear ho2 hs_x105 hg_x105
            go_wp2
            go_ret
            exact HF.out
          · go_simp
            refine hK.out _ _ trivial (fun hHeld => ?_)
            clear hK K
            have hs_x106 : Src (x99.alloc (.cells #[.string ⟨#[120]⟩, .string ⟨#[10]⟩, .string ⟨#[127]⟩] 9)) B b (((M + 26) + 1) + 1) := hs_x99.below ((Below.refl _ _).alloc (by have := (id hs_x99).2.1; omega) _)
            have hg_x106 : w.grownBy (x99.alloc (.cells #[.string ⟨#[120]⟩, .string ⟨#[10]⟩, .string ⟨#[127]⟩] 9)) (some b) := gnew hg_x99 _
            have ho_x106 : OwnF (x99.alloc (.cells #[.string ⟨#[120]⟩, .string ⟨#[10]⟩, .string ⟨#[127]⟩] 9)) w.heap.size v l := ho_x99.alloc _
            have hr2_x106 : RowT (x99.alloc (.cells #[.string ⟨#[120]⟩, .string ⟨#[10]⟩, .string ⟨#[127]⟩] 9)) x99.heap.size 3 := RowT.new x99 (cs := #[.string ⟨#[120]⟩, .string ⟨#[10]⟩, .string ⟨#[127]⟩]) (ss := [⟨#[120]⟩, ⟨#[10]⟩, ⟨#[127]⟩]) rfl (by intro s hs; simp only [List.mem_cons, List.not_mem_nil, or_false] at hs; rcases hs with rfl | rfl | rfl <;> decide)
            have hb2_x106 : b < x99.heap.size := (id hs_x99).2.1
            have hr1_x106 : RowT (x99.alloc (.cells #[.string ⟨#[120]⟩, .string ⟨#[10]⟩, .string ⟨#[127]⟩] 9)) R69 3 := hr1_x99.alloc _
            have hb1_x106 := hb1_x99
            clear hs_x99 hg_x99 ho_x99 hr1_x99 hb1_x99
            generalize x99.alloc (.cells #[.string ⟨#[120]⟩, .string ⟨#[10]⟩, .string ⟨#[127]⟩] 9) = x106 at *
            generalize x99.heap.size = R107 at *
            refine wpAnyH_take (i := 9) (v := .pointer (some ⟨R107, j2, none⟩)) rfl (by kernel_rfl) (by kernel_rfl) (by kernel_rfl) (fun _ _ _ h => h) (Or.inl ⟨by rfl, ?hy55⟩) (by assumption) ?ty55
            case hy55 => (intro w hSw; (try dsimp only at hSw); go_simp; first | (simp [hj2']; done) | (all_goals first | (with_reducible rfl) | omega))
            simp only [Act.put, List.getElem_toArray, List.getElem_cons_zero, List.getElem_cons_succ, List.setIfInBounds_toArray, List.set_cons_zero, List.set_cons_succ]
            refine wpAnyH_ready (rs := [5, 10]) (by kernel_rfl) (by simp) ?_
            refine AllReadyH.cons rfl (fun K hK => ?_) (AllReadyH.cons rfl (fun K hK => ?_) AllReadyH.nil)
            · obtain ⟨ta, hcsta, hBta, hlta⟩ := hr1_x106.2 j1 hj1
              go_simp
              refine hK.out _ _ trivial (fun hHeld => ?_)
              clear hK K
              clear hcsta
              refine wpAnyH_ready (rs := [10]) (by kernel_rfl) (by simp) ?_
              refine AllReadyH.cons rfl (fun K hK => ?_) AllReadyH.nil
              obtain ⟨tb, hcstb, hBtb, hltb⟩ := hr2_x106.2 j2 hj2
              go_simp
              refine hK.out _ _ trivial (fun hHeld => ?_)
              clear hK K
              clear hcstb
              refine wpAnyH_take (i := 11) (v := ?_) rfl (by kernel_rfl) (by kernel_rfl) (by kernel_rfl) (fun _ _ _ h => h) (Or.inl ⟨by rfl, ?hy56⟩) (by assumption) ?ty56
              case hy56 => (intro w hSw; (try dsimp only at hSw); go_simp; all_goals with_reducible rfl)
              simp only [Act.put, List.getElem_toArray, List.getElem_cons_zero, List.getElem_cons_succ, List.setIfInBounds_toArray, List.set_cons_zero, List.set_cons_succ]
              refine wpAnyH_ready (rs := [12]) (by kernel_rfl) (by simp) ?_
              refine AllReadyH.cons rfl (fun K hK => ?_) AllReadyH.nil
              go_simp
              refine hK.out _ _ trivial (fun hHeld => ?_)
              clear hK K
              have hs_x108 : Src (x106.alloc (.cells #[.string (str ta), .string (str tb)] 35)) B b (((M + 26) + 1) + 1) := hs_x106.below ((Below.refl _ _).alloc (by have := (id hs_x106).2.1; omega) _)
              have hg_x108 : w.grownBy (x106.alloc (.cells #[.string (str ta), .string (str tb)] 35)) (some b) := gnew hg_x106 _
              have ho_x108 : OwnF (x106.alloc (.cells #[.string (str ta), .string (str tb)] 35)) w.heap.size v l := ho_x106.alloc _
              have hfc : FCell (x106.alloc (.cells #[.string (str ta), .string (str tb)] 35)) x106.heap.size (str ta) (str tb) := FCell.new x106 _ rfl _ _
              clear hs_x106 hg_x106 ho_x106
              generalize x106.alloc (.cells #[.string (str ta), .string (str tb)] 35) = x108 at *
              generalize x106.heap.size = R109 at *
              refine wpAnyH_ready (rs := [13]) (by kernel_rfl) (by simp) ?_
              refine AllReadyH.cons rfl (fun K hK => ?_) AllReadyH.nil
              refine step_appF (by rfl) _ _ (by rfl) w.heap.size v l (by rfl) ho_x108 ⟨R109, 0, none⟩ 1 1 [(str ta, str tb)] (by rfl) (by rfl) hfc.nw (by omega) hg_x108.size ?_
              intro v2 x110 ho2 hb2 _
              have hs_x110 := hs_x108.below (hb2.mono (by omega))
              have hg_x110 := glow hg_x108 hb2
              clear hs_x108 hg_x108 ho_x108 hfc hb2
              refine hK.out _ _ trivial (fun hHeld => ?_)
              clear hK K
              refine wpAnyH_take (i := 14) (v := ?_) rfl (by kernel_rfl) (by kernel_rfl) (by kernel_rfl) (fun _ _ _ h => h) (Or.inl ⟨by rfl, ?hy57⟩) (by assumption) ?ty57
              case hy57 => (intro w hSw; (try dsimp only at hSw); go_simp; all_goals with_reducible rfl)
              simp only [Act.put, List.getElem_toArray, List.getElem_cons_zero, List.getElem_cons_succ, List.setIfInBounds_toArray, List.set_cons_zero, List.set_cons_succ]
              refine wpAnyH_done (by kernel_rfl) ?_ _
              have HF : Hid (FldEnd B b (M + 29) 9 w (.returned v2) x110) := ⟨v2, _, rfl, ho2, by simp; omega, FldD.snoc hD (by omega) (by omega), hs_x110.more (by omega), hg_x110⟩
              clear ho2 hs_x110 hg_x110
              go_wp2
              go_ret
              exact HF.out
            · obtain ⟨tb, hcstb, hBtb, hltb⟩ := hr2_x106.2 j2 hj2
              go_simp
              refine hK.out _ _ trivial (fun hHeld => ?_)
              clear hK K
              clear hcstb
              refine wpAnyH_ready (rs := [5]) (by kernel_rfl) (by simp) ?_
              refine AllReadyH.cons rfl (fun K hK => ?_) AllReadyH.nil
              obtain ⟨ta, hcsta, hBta, hlta⟩ := hr1_x106.2 j1 hj1
              go_simp
              refine hK.out _ _ trivial (fun hHeld => ?_)
              clear hK K
              clear hcsta
              refine wpAnyH_take (i := 11) (v := ?_) rfl (by kernel_rfl) (by kernel_rfl) (by kernel_rfl) (fun _ _ _ h => h) (Or.inl ⟨by rfl, ?hy58⟩) (by assumption) ?ty58
              case hy58 => (intro w hSw; (try dsimp only at hSw); go_simp; all_goals with_reducible rfl)
              simp only [Act.put, List.getElem_toArray, List.getElem_cons_zero, List.getElem_cons_succ, List.setIfInBounds_toArray, List.set_cons_zero, List.set_cons_succ]
              refine wpAnyH_ready (rs := [12]) (by kernel_rfl) (by simp) ?_
              refine AllReadyH.cons rfl (fun K hK => ?_) AllReadyH.nil
              go_simp
              refine hK.out _ _ trivial (fun hHeld => ?_)
              clear hK K
              have hs_x111 : Src (x106.alloc (.cells #[.string (str ta), .string (str tb)] 35)) B b (((M + 26) + 1) + 1) := hs_x106.below ((Below.refl _ _).alloc (by have := (id hs_x106).2.1; omega) _)
              have hg_x111 : w.grownBy (x106.alloc (.cells #[.string (str ta), .string (str tb)] 35)) (some b) := gnew hg_x106 _
              have ho_x111 : OwnF (x106.alloc (.cells #[.string (str ta), .string (str tb)] 35)) w.heap.size v l := ho_x106.alloc _
              have hfc : FCell (x106.alloc (.cells #[.string (str ta), .string (str tb)] 35)) x106.heap.size (str ta) (str tb) := FCell.new x106 _ rfl _ _
              clear hs_x106 hg_x106 ho_x106
              generalize x106.alloc (.cells #[.string (str ta), .string (str tb)] 35) = x111 at *
              generalize x106.heap.size = R112 at *
              refine wpAnyH_ready (rs := [13]) (by kernel_rfl) (by simp) ?_
              refine AllReadyH.cons rfl (fun K hK => ?_) AllReadyH.nil
              refine step_appF (by rfl) _ _ (by rfl) w.heap.size v l (by rfl) ho_x111 ⟨R112, 0, none⟩ 1 1 [(str ta, str tb)] (by rfl) (by rfl) hfc.nw (by omega) hg_x111.size ?_
              intro v2 x113 ho2 hb2 _
              have hs_x113 := hs_x111.below (hb2.mono (by omega))
              have hg_x113 := glow hg_x111 hb2
              clear hs_x111 hg_x111 ho_x111 hfc hb2
              refine hK.out _ _ trivial (fun hHeld => ?_)
              clear hK K
              refine wpAnyH_take (i := 14) (v := ?_) rfl (by kernel_rfl) (by kernel_rfl) (by kernel_rfl) (fun _ _ _ h => h) (Or.inl ⟨by rfl, ?hy59⟩) (by assumption) ?ty59
              case hy59 => (intro w hSw; (try dsimp only at hSw); go_simp; all_goals with_reducible rfl)
              simp only [Act.put, List.getElem_toArray, List.getElem_cons_zero, List.getElem_cons_succ, List.setIfInBounds_toArray, List.set_cons_zero, List.set_cons_succ]
              refine wpAnyH_done (by kernel_rfl) ?_ _
              have HF : Hid (FldEnd B b (M + 29) 9 w (.returned v2) x113) := ⟨v2, _, rfl, ho2, by simp; omega, FldD.snoc hD (by omega) (by omega), hs_x113.more (by omega), hg_x113⟩
              clear ho2 hs_x113 hg_x113
              go_wp2
              go_ret
              exact HF.out
      · go_simp
        refine hK.out _ _ trivial (fun hHeld => ?_)
        clear hK K
        have hs_x114 : Src (x66.alloc (.cells #[.string ⟨#[120]⟩, .string ⟨#[10]⟩, .string ⟨#[127]⟩] 9)) B b ((M + 26) + 1) := hs_x66.below ((Below.refl _ _).alloc (by have := (id hs_x66).2.1; omega) _)
        have hg_x114 : w.grownBy (x66.alloc (.cells #[.string ⟨#[120]⟩, .string ⟨#[10]⟩, .string ⟨#[127]⟩] 9)) (some b) := gnew hg_x66 _
        have ho_x114 : OwnF (x66.alloc (.cells #[.string ⟨#[120]⟩, .string ⟨#[10]⟩, .string ⟨#[127]⟩] 9)) w.heap.size v l := ho_x66.alloc _
        have hr2_x114 : RowT (x66.alloc (.cells #[.string ⟨#[120]⟩, .string ⟨#[10]⟩, .string ⟨#[127]⟩] 9)) x66.heap.size 3 := RowT.new x66 (cs := #[.string ⟨#[120]⟩, .string ⟨#[10]⟩, .string ⟨#[127]⟩]) (ss := [⟨#[120]⟩, ⟨#[10]⟩, ⟨#[127]⟩]) rfl (by intro s hs; simp only [List.mem_cons, List.not_mem_nil, or_false] at hs; rcases hs with rfl | rfl | rfl <;> decide)
        have hb2_x114 : b < x66.heap.size := (id hs_x66).2.1
        clear hs_x66 hg_x66 ho_x66 
        generalize x66.alloc (.cells #[.string ⟨#[120]⟩, .string ⟨#[10]⟩, .string ⟨#[127]⟩] 9) = x114 at *
        generalize x66.heap.size = R115 at *
        refine wpAnyH_ready (rs := [1, 8]) (by kernel_rfl) (by simp) ?_
        refine AllReadyH.cons rfl (fun K hK => ?_) (AllReadyH.cons rfl (fun K hK => ?_) AllReadyH.nil)
        · go_simp
          refine hK.out _ _ trivial (fun hHeld => ?_)
          clear hK K
          have hs_x116 : Src (x114.alloc (.cells #[.string ⟨#[]⟩, .string ⟨#[97, 32, 98]⟩, .string ⟨#[65]⟩] 9)) B b ((M + 26) + 1) := hs_x114.below ((Below.refl _ _).alloc (by have := (id hs_x114).2.1; omega) _)
          have hg_x116 : w.grownBy (x114.alloc (.cells #[.string ⟨#[]⟩, .string ⟨#[97, 32, 98]⟩, .string ⟨#[65]⟩] 9)) (some b) := gnew hg_x114 _
          have ho_x116 : OwnF (x114.alloc (.cells #[.string ⟨#[]⟩, .string ⟨#[97, 32, 98]⟩, .string ⟨#[65]⟩] 9)) w.heap.size v l := ho_x114.alloc _
          have hr1_x116 : RowT (x114.alloc (.cells #[.string ⟨#[]⟩, .string ⟨#[97, 32, 98]⟩, .string ⟨#[65]⟩] 9)) x114.heap.size 3 := RowT.new x114 (cs := #[.string ⟨#[]⟩, .string ⟨#[97, 32, 98]⟩, .string ⟨#[65]⟩]) (ss := [⟨#[]⟩, ⟨#[97, 32, 98]⟩, ⟨#[65]⟩]) rfl (by intro s hs; simp only [List.mem_cons, List.not_mem_nil, or_false] at hs; rcases hs with rfl | rfl | rfl <;> decide)
          have hb1_x116 : b < x114.heap.size := (id hs_x114).2.1
          have hr2_x116 : RowT (x114.alloc (.cells #[.string ⟨#[]⟩, .string ⟨#[97, 32, 98]⟩, .string ⟨#[65]⟩] 9)) R115 3 := hr2_x114.alloc _
          have hb2_x116 := hb2_x114
          clear hs_x114 hg_x114 ho_x114 hr2_x114 hb2_x114
          generalize x114.alloc (.cells #[.string ⟨#[]⟩, .string ⟨#[97, 32, 98]⟩, .string ⟨#[65]⟩] 9) = x116 at *
          generalize x114.heap.size = R117 at *
          refine wpAnyH_take (i := 4) (v := .pointer (some ⟨R117, j1, none⟩)) rfl (by kernel_rfl) (by kernel_rfl) (by kernel_rfl) (fun _ _ _ h => h) (Or.inl ⟨by rfl, ?hy60⟩) (by assumption) ?ty60
          case hy60 => (intro w hSw; (try dsimp only at hSw); go_simp; first | (simp [hj1']; done) | (all_goals first | (with_reducible rfl) | omega))
          simp only [Act.put, List.getElem_toArray, List.getElem_cons_zero, List.getElem_cons_succ, List.setIfInBounds_toArray, List.set_cons_zero, List.set_cons_succ]
          refine wpAnyH_ready (rs := [5, 8]) (by kernel_rfl) (by simp) ?_
          refine AllReadyH.cons rfl (fun K hK => ?_) (AllReadyH.cons rfl (fun K hK => ?_) AllReadyH.nil)
          · obtain ⟨ta, hcsta, hBta, hlta⟩ := hr1_x116.2 j1 hj1
            go_simp
            refine hK.out _ _ trivial (fun hHeld => ?_)
            clear hK K
            clear hcsta
            refine wpAnyH_ready (rs := [8]) (by kernel_rfl) (by simp) ?_
            refine AllReadyH.cons rfl (fun K hK => ?_) AllReadyH.nil
            go_simp
            refine (l1Next_any B b ((M + 26) + 1) 3 _ (by exact hs_x116) (by omega) (by omega) (by omega)).mono ?_
            rintro e x118 ⟨r, rfl, r0, r1, _, hs_x118, hgx⟩
            obtain ⟨j2, rfl⟩ := Int.eq_ofNat_of_zero_le r0
            have hj2 : j2 < 3 := by have := r1 (by omega); omega
            have hj2' : (j2 : Int) < 3 := by omega
            have hgy119 : x116.grownBy x118 (some b) := by first | exact gfromF hgx | exact hgx
            have hg_x118 : w.grownBy x118 (some b) := gthen hg_x116 hgy119
            have ho_x118 : OwnF x118 w.heap.size v l := ho_x116.src hgy119 hbw
            have hr2_x118 : RowT x118 R115 3 := hr2_x116.far hgy119 hb2_x116
            have hb2_x118 := hb2_x116
            have hr1_x118 : RowT x118 R117 3 := hr1_x116.far hgy119 hb1_x116
            have hb1_x118 := hb1_x116
            clear hs_x116 hg_x116 ho_x116 hr2_x116 hb2_x116 hr1_x116 hb1_x116
            clear r0 r1 hgx hgy119
            refine hK.out _ _ trivial (fun hHeld => ?_)
            clear hK K
            refine wpAnyH_take (i := 9) (v := .pointer (some ⟨R115, j2, none⟩)) rfl (by kernel_rfl) (by kernel_rfl) (by kernel_rfl) (fun _ _ _ h => h) (Or.inl ⟨by rfl, ?hy61⟩) (by assumption) ?ty61
            case hy61 => (intro w hSw; (try dsimp only at hSw); go_simp; first | (simp [hj2']; done) | (all_goals first | (with_reducible rfl) | omega))
            simp only [Act.put, List.getElem_toArray, List.getElem_cons_zero, List.getElem_cons_succ, List.setIfInBounds_toArray, List.set_cons_zero, List.set_cons_succ]
            refine wpAnyH_ready (rs := [10]) (by kernel_rfl) (by simp) ?_
            refine AllReadyH.cons rfl (fun K hK => ?_) AllReadyH.nil
            obtain ⟨tb, hcstb, hBtb, hltb⟩ := hr2_x118.2 j2 hj2
            go_simp
            refine hK.out _ _ trivial (fun hHeld => ?_)
            clear hK K
            clear hcstb
            refine wpAnyH_take (i := 11) (v := ?_) rfl (by kernel_rfl) (by kernel_rfl) (by kernel_rfl) (fun _ _ _ h => h) (Or.inl ⟨by rfl, ?hy62⟩) (by assumption) ?ty62
            case hy62 => (intro w hSw; (try dsimp only at hSw); go_simp; all_goals with_reducible rfl)
            simp only [Act.put, List.getElem_toArray, List.getElem_cons_zero, List.getElem_cons_succ, List.setIfInBounds_toArray, List.set_cons_zero, List.set_cons_succ]
            refine wpAnyH_ready (rs := [12]) (by kernel_rfl) (by simp) ?_
            refine AllReadyH.cons rfl (fun K hK => ?_) AllReadyH.nil
            go_simp
            refine hK.out _ _ trivial (fun hHeld => ?_)
            clear hK K
            have hs_x120 : Src (x118.alloc (.cells #[.string (str ta), .string (str tb)] 35)) B b (((M + 26) + 1) + 1) := hs_x118.below ((Below.refl _ _).alloc (by have := (id hs_x118).2.1; omega) _)
            have hg_x120 : w.grownBy (x118.alloc (.cells #[.string (str ta), .string (str tb)] 35)) (some b) := gnew hg_x118 _
            have ho_x120 : OwnF (x118.alloc (.cells #[.string (str ta), .string (str tb)] 35)) w.heap.size v l := ho_x118.alloc _
            have hfc : FCell (x118.alloc (.cells #[.string (str ta), .string (str tb)] 35)) x118.heap.size (str ta) (str tb) := FCell.new x118 _ rfl _ _
            clear hs_x118 hg_x118 ho_x118
            generalize x118.alloc (.cells #[.string (str ta), .string (str tb)] 35) = x120 at *
            generalize x118.heap.size = R121 at *
            refine wpAnyH_ready (rs := [13]) (by kernel_rfl) (by simp) ?_
            refine AllReadyH.cons rfl (fun K hK => ?_) AllReadyH.nil
            refine step_appF (by rfl) _ _ (by rfl) w.heap.size v l (by rfl) ho_x120 ⟨R121, 0, none⟩ 1 1 [(str ta, str tb)] (by rfl) (by rfl) hfc.nw (by omega) hg_x120.size ?_
            intro v2 x122 ho2 hb2 _
            have hs_x122 := hs_x120.below (hb2.mono (by omega))
            have hg_x122 := glow hg_x120 hb2
            clear hs_x120 hg_x120 ho_x120 hfc hb2
            refine hK.out _ _ trivial (fun hHeld => ?_)
            clear hK K
            refine wpAnyH_take (i := 14) (v := ?_) rfl (by kernel_rfl) (by kernel_rfl) (by kernel_rfl) (fun _ _ _ h => h) (Or.inl ⟨by rfl, ?hy63⟩) (by assumption) ?ty63
            case hy63 => (intro w hSw; (try dsimp only at hSw); go_simp; all_goals with_reducible rfl)
            simp only [Act.put, List.getElem_toArray, List.getElem_cons_zero, List.getElem_cons_succ, List.setIfInBounds_toArray, List.set_cons_zero, List.set_cons_succ]
            refine wpAnyH_done (by kernel_rfl) ?_ _
            have HF : Hid (FldEnd B b (M + 29) 9 w (.returned v2) x122) := ⟨v2, _, rfl, ho2, by simp; omega, FldD.snoc hD (by omega) (by omega), hs_x122.more (by omega), hg_x122⟩
            clear ho2 hs_x122 hg_x122
            go_wp2
            go_ret
            exact HF.out
          · go_simp
            refine (l1Next_any B b ((M + 26) + 1) 3 _ (by exact hs_x116) (by omega) (by omega) (by omega)).mono ?_
            rintro e x123 ⟨r, rfl, r0, r1, _, hs_x123, hgx⟩
            obtain ⟨j2, rfl⟩ := Int.eq_ofNat_of_zero_le r0
            have hj2 : j2 < 3 := by have := r1 (by omega); omega
            have hj2' : (j2 : Int) < 3 := by omega
            have hgy124 : x116.grownBy x123 (some b) := by first | exact gfromF hgx | exact hgx
            have hg_x123 : w.grownBy x123 (some b) := gthen hg_x116 hgy124
            have ho_x123 : OwnF x123 w.heap.size v l := ho_x116.src hgy124 hbw
            have hr2_x123 : RowT x123 R115 3 := hr2_x116.far hgy124 hb2_x116
            have hb2_x123 := hb2_x116
            have hr1_x123 : RowT x123 R117 3 := hr1_x116.far hgy124 hb1_x116
            have hb1_x123 := hb1_x116
            clear hs_x116 hg_x116 ho_x116 hr2_x116 hb2_x116 hr1_x116 hb1_x116
            clear r0 r1 hgx hgy124
            refine hK.out _ _ trivial (fun hHeld => ?_)
            clear hK K
            refine wpAnyH_take (i := 9) (v := .pointer (some ⟨R115, j2, none⟩)) rfl (by kernel_rfl) (by kernel_rfl) (by kernel_rfl) (fun _ _ _ h => h) (Or.inl ⟨by rfl, ?hy64⟩) (by assumption) ?ty64
            case hy64 => (intro w hSw; (try dsimp only at hSw); go_simp; first | (simp [hj2']; done) | (all_goals first | (with_reducible rfl) | omega))
            simp only [Act.put, List.getElem_toArray, List.getElem_cons_zero, List.getElem_cons_succ, List.setIfInBounds_toArray, List.set_cons_zero, List.set_cons_succ]
            refine wpAnyH_ready (rs := [5, 10]) (by kernel_rfl) (by simp) ?_
            refine AllReadyH.cons rfl (fun K hK => ?_) (AllReadyH.cons rfl (fun K hK => ?_) AllReadyH.nil)
            · obtain ⟨ta, hcsta, hBta, hlta⟩ := hr1_x123.2 j1 hj1
              go_simp
              refine hK.out _ _ trivial (fun hHeld => ?_)
              clear hK K
              clear hcsta
              refine wpAnyH_ready (rs := [10]) (by kernel_rfl) (by simp) ?_
              refine AllReadyH.cons rfl (fun K hK => ?_) AllReadyH.nil
              obtain ⟨tb, hcstb, hBtb, hltb⟩ := hr2_x123.2 j2 hj2
              go_simp
              refine hK.out _ _ trivial (fun hHeld => ?_)
              clear hK K
              clear hcstb
              refine wpAnyH_take (i := 11) (v := ?_) rfl (by kernel_rfl) (by kernel_rfl) (by kernel_rfl) (fun _ _ _ h => h) (Or.inl ⟨by rfl, ?hy65⟩) (by assumption) ?ty65
              case hy65 => (intro w hSw; (try dsimp only at hSw); go_simp; all_goals with_reducible rfl)
              simp only [Act.put, List.getElem_toArray, List.getElem_cons_zero, List.getElem_cons_succ, List.setIfInBounds_toArray, List.set_cons_zero, List.set_cons_succ]
              refine wpAnyH_ready (rs := [12]) (by kernel_rfl) (by simp) ?_
              refine AllReadyH.cons rfl (fun K hK => ?_) AllReadyH.nil
              go_simp
              refine hK.out _ _ trivial (fun hHeld => ?_)
              clear hK K
              have hs_x125 : Src (x123.alloc (.cells #[.string (str ta), .string (str tb)] 35)) B b (((M + 26) + 1) + 1) := hs_x123.below ((Below.refl _ _).alloc (by have := (id hs_x123).2.1; omega) _)
              have hg_x125 : w.grownBy (x123.alloc (.cells #[.string (str ta), .string (str tb)] 35)) (some b) := gnew hg_x123 _
              have ho_x125 : OwnF (x123.alloc (.cells #[.string (str ta), .string (str tb)] 35)) w.heap.size v l := ho_x123.alloc _
              have hfc : FCell (x123.alloc (.cells #[.string (str ta), .string (str tb)] 35)) x123.heap.size (str ta) (str tb) := FCell.new x123 _ rfl _ _
              clear hs_x123 hg_x123 ho_x123
              generalize x123.alloc (.cells #[.string (str ta), .string (str tb)] 35) = x125 at *
              generalize x123.heap.size = R126 at *
              refine wpAnyH_ready (rs := [13]) (by kernel_rfl) (by simp) ?_
              refine AllReadyH.cons rfl (fun K hK => ?_) AllReadyH.nil
              refine step_appF (by rfl) _ _ (by rfl) w.heap.size v l (by rfl) ho_x125 ⟨R126, 0, none⟩ 1 1 [(str ta, str tb)] (by rfl) (by rfl) hfc.nw (by omega) hg_x125.size ?_
              intro v2 x127 ho2 hb2 _
              have hs_x127 := hs_x125.below (hb2.mono (by omega))
              have hg_x127 := glow hg_x125 hb2
              clear hs_x125 hg_x125 ho_x125 hfc hb2
              refine hK.out _ _ trivial (fun hHeld => ?_)
              clear hK K
              refine wpAnyH_take (i := 14) (v := ?_) rfl (by kernel_rfl) (by kernel_rfl) (by kernel_rfl) (fun _ _ _ h => h) (Or.inl ⟨by rfl, ?hy66⟩) (by assumption) ?ty66
              case hy66 => (intro w hSw; (try dsimp only at hSw); go_simp; all_goals with_reducible rfl)
              simp only [Act.put, List.getElem_toArray, List.getElem_cons_zero, List.getElem_cons_succ, List.setIfInBounds_toArray, List.set_cons_zero, List.set_cons_succ]
              refine wpAnyH_done (by kernel_rfl) ?_ _
              have HF : Hid (FldEnd B b (M + 29) 9 w (.returned v2) x127) := ⟨v2, _, rfl, ho2, by simp; omega, FldD.snoc hD (by omega) (by omega), hs_x127.more (by omega), hg_x127⟩
              clear ho2 hs_x127 hg_x127
              go_wp2
              go_ret
              exact HF.out
            · obtain ⟨tb, hcstb, hBtb, hltb⟩ := hr2_x123.2 j2 hj2
              go_simp
              refine hK.out _ _ trivial (fun hHeld => ?_)
              clear hK K
              clear hcstb
              refine wpAnyH_ready (rs := [5]) (by kernel_rfl) (by simp) ?_
              refine AllReadyH.cons rfl (fun K hK => ?_) AllReadyH.nil
              obtain ⟨ta, hcsta, hBta, hlta⟩ := hr1_x123.2 j1 hj1
              go_simp
              refine hK.out _ _ trivial (fun hHeld => ?_)
              clear hK K
              clear hcsta
              refine wpAnyH_take (i := 11) (v := ?_) rfl (by kernel_rfl) (by kernel_rfl) (by kernel_rfl) (fun _ _ _ h => h) (Or.inl ⟨by rfl, ?hy67⟩) (by assumption) ?ty67
              case hy67 => (intro w hSw; (try dsimp only at hSw); go_simp; all_goals with_reducible rfl)
              simp only [Act.put, List.getElem_toArray, List.getElem_cons_zero, List.getElem_cons_succ, List.setIfInBounds_toArray, List.set_cons_zero, List.set_cons_succ]
              refine wpAnyH_ready (rs := [12]) (by kernel_rfl) (by simp) ?_
              refine AllReadyH.cons rfl (fun K hK => ?_) AllReadyH.nil
              go_simp
              refine hK.out _ _ trivial (fun hHeld => ?_)
              clear hK K
              have hs_x128 : Src (x123.alloc (.cells #[.string (str ta), .string (str tb)] 35)) B b (((M + 26) + 1) + 1) := hs_x123.below ((Below.refl _ _).alloc (by have := (id hs_x123).2.1; omega) _)
              have hg_x128 : w.grownBy (x123.alloc (.cells #[.string (str ta), .string (str tb)] 35)) (some b) := gnew hg_x123 _
              have ho_x128 : OwnF (x123.alloc (.cells #[.string (str ta), .string (str tb)] 35)) w.heap.size v l := ho_x123.alloc _
              have hfc : FCell (x123.alloc (.cells #[.string (str ta), .string (str tb)] 35)) x123.heap.size (str ta) (str tb) := FCell.new x123 _ rfl _ _
              clear hs_x123 hg_x123 ho_x123
              generalize x123.alloc (.cells #[.string (str ta), .string (str tb)] 35) = x128 at *
              generalize x123.heap.size = R129 at *
              refine wpAnyH_ready (rs := [13]) (by kernel_rfl) (by simp) ?_
              refine AllReadyH.cons rfl (fun K hK => ?_) AllReadyH.nil
              refine step_appF (by rfl) _ _ (by rfl) w.heap.size v l (by rfl) ho_x128 ⟨R129, 0, none⟩ 1 1 [(str ta, str tb)] (by rfl) (by rfl) hfc.nw (by omega) hg_x128.size ?_
              intro v2 x130 ho2 hb2 _
              have hs_x130 := hs_x128.below (hb2.mono (by omega))
              have hg_x130 := glow hg_x128 hb2
              clear hs_x128 hg_x128 ho_x128 hfc hb2
              refine hK.out _ _ trivial (fun hHeld => ?_)
              clear hK K
              refine wpAnyH_take (i := 14) (v := ?_) rfl (by kernel_rfl) (by kernel_rfl) (by kernel_rfl) (fun _ _ _ h => h) (Or.inl ⟨by rfl, ?hy68⟩) (by assumption) ?ty68
              case hy68 => (intro w hSw; (try dsimp only at hSw); go_simp; all_goals with_reducible rfl)
              simp only [Act.put, List.getElem_toArray, List.getElem_cons_zero, List.getElem_cons_succ, List.setIfInBounds_toArray, List.set_cons_zero, List.set_cons_succ]
              refine wpAnyH_done (by kernel_rfl) ?_ _
              have HF : Hid (FldEnd B b (M + 29) 9 w (.returned v2) x130) := ⟨v2, _, rfl, ho2, by simp; omega, FldD.snoc hD (by omega) (by omega), hs_x130.more (by omega), hg_x130⟩
              clear ho2 hs_x130 hg_x130
              go_wp2
              go_ret
              exact HF.out
        · go_simp
          refine (l1Next_any B b ((M + 26) + 1) 3 _ (by exact hs_x114) (by omega) (by omega) (by omega)).mono ?_
          rintro e x131 ⟨r, rfl, r0, r1, _, hs_x131, hgx⟩
          obtain ⟨j2, rfl⟩ := Int.eq_ofNat_of_zero_le r0
          have hj2 : j2 < 3 := by have := r1 (by omega); omega
          have hj2' : (j2 : Int) < 3 := by omega
          have hgy132 : x114.grownBy x131 (some b) := by first | exact gfromF hgx | exact hgx
          have hg_x131 : w.grownBy x131 (some b) := gthen hg_x114 hgy132
          have ho_x131 : OwnF x131 w.heap.size v l := ho_x114.src hgy132 hbw
          have hr2_x131 : RowT x131 R115 3 := hr2_x114.far hgy132 hb2_x114
          have hb2_x131 := hb2_x114
          clear hs_x114 hg_x114 ho_x114 hr2_x114 hb2_x114
          clear r0 r1 hgx hgy132
          refine hK.out _ _ trivial (fun hHeld => ?_)
          clear hK K
          refine wpAnyH_take (i := 9) (v := .pointer (some ⟨R115, j2, none⟩)) rfl (by kernel_rfl) (by kernel_rfl) (by kernel_rfl) (fun _ _ _ h => h) (Or.inl ⟨by rfl, ?hy69⟩) (by assumption) ?ty69
          case hy69 => (intro w hSw; (try dsimp only at hSw); go_simp; first | (simp [hj2']; done) | (all_goals first | (with_reducible rfl) | omega))
          simp only [Act.put, List.getElem_toArray, List.getElem_cons_zero, List.getElem_cons_succ, List.setIfInBounds_toArray, List.set_cons_zero, List.set_cons_succ]
          refine wpAnyH_ready (rs := [1, 10]) (by kernel_rfl) (by simp) ?_
          refine AllReadyH.cons rfl (fun K hK => ?_) (AllReadyH.cons rfl (fun K hK => ?_) AllReadyH.nil)
          · go_simp
            refine hK.out _ _ trivial (fun hHeld => ?_)
            clear hK K
            have hs_x133 : Src (x131.alloc (.cells #[.string ⟨#[]⟩, .string ⟨#[97, 32, 98]⟩, .string ⟨#[65]⟩] 9)) B b (((M + 26) + 1) + 1) := hs_x131.below ((Below.refl _ _).alloc (by have := (id hs_x131).2.1; omega) _)
            have hg_x133 : w.grownBy (x131.alloc (.cells #[.string ⟨#[]⟩, .string ⟨#[97, 32, 98]⟩, .string ⟨#[65]⟩] 9)) (some b) := gnew hg_x131 _
            have ho_x133 : OwnF (x131.alloc (.cells #[.string ⟨#[]⟩, .string ⟨#[97, 32, 98]⟩, .string ⟨#[65]⟩] 9)) w.heap.size v l := ho_x131.alloc _
            have hr1_x133 : RowT (x131.alloc (.cells #[.string ⟨#[]⟩, .string ⟨#[97, 32, 98]⟩, .string ⟨#[65]⟩] 9)) x131.heap.size 3 := RowT.new x131 (cs := #[.string ⟨#[]⟩, .string ⟨#[97, 32, 98]⟩, .string ⟨#[65]⟩]) (ss := [⟨#[]⟩, ⟨#[97, 32, 98]⟩, ⟨#[65]⟩]) rfl (by intro s hs; simp only [List.mem_cons, List.not_mem_nil, or_false] at hs; rcases hs with rfl | rfl | rfl <;> decide)
            have hb1_x133 : b < x131.heap.size := (id hs_x131).2.1
            have hr2_x133 : RowT (x131.alloc (.cells #[.string ⟨#[]⟩, .string ⟨#[97, 32, 98]⟩, .string ⟨#[65]⟩] 9)) R115 3 := hr2_x131.alloc _
            have hb2_x133 := hb2_x131
            clear hs_x131 hg_x131 ho_x131 hr2_x131 hb2_x131
            generalize x131.alloc (.cells #[.string ⟨#[]⟩, .string ⟨#[97, 32, 98]⟩, .string ⟨#[65]⟩] 9) = x133 at *
            generalize x131.heap.size = R134 at *
            refine wpAnyH_take (i := 4) (v := .pointer (some ⟨R134, j1, none⟩)) rfl (by kernel_rfl) (by kernel_rfl) (by kernel_rfl) (fun _ _ _ h => h) (Or.inl ⟨by rfl, ?hy70⟩) (by assumption) ?ty70
            case hy70 => (intro w hSw; (try dsimp only at hSw); go_simp; first | (simp [hj1']; done) | (all_goals first | (with_reducible rfl) | omega))
            simp only [Act.put, List.getElem_toArray, List.getElem_cons_zero, List.getElem_cons_succ, List.setIfInBounds_toArray, List.set_cons_zero, List.set_cons_succ]
            refine wpAnyH_ready (rs := [5, 10]) (by kernel_rfl) (by simp) ?_
            refine AllReadyH.cons rfl (fun K hK => ?_) (AllReadyH.cons rfl (fun K hK => ?_) AllReadyH.nil)
            · obtain ⟨ta, hcsta, hBta, hlta⟩ := hr1_x133.2 j1 hj1
              go_simp
              refine hK.out _ _ trivial (fun hHeld => ?_)
              clear hK K
              clear hcsta
              refine wpAnyH_ready (rs := [10]) (by kernel_rfl) (by simp) ?_
              refine AllReadyH.cons rfl (fun K hK => ?_) AllReadyH.nil
              obtain ⟨tb, hcstb, hBtb, hltb⟩ := hr2_x133.2 j2 hj2
              go_simp
              refine hK.out _ _ trivial (fun hHeld => ?_)
              clear hK K
              clear hcstb
              refine wpAnyH_take (i := 11) (v := ?_) rfl (by kernel_rfl) (by kernel_rfl) (by kernel_rfl) (fun _ _ _ h => h) (Or.inl ⟨by rfl, ?hy71⟩) (by assumption) ?ty71
              case hy71 => (intro w hSw; (try dsimp only at hSw); go_simp; all_goals with_reducible rfl)
              simp only [Act.put, List.getElem_toArray, List.getElem_cons_zero, List.getElem_cons_succ, List.setIfInBounds_toArray, List.set_cons_zero, List.set_cons_succ]
              refine wpAnyH_ready (rs := [12]) (by kernel_rfl) (by simp) ?_
              refine AllReadyH.cons rfl (fun K hK => ?_) AllReadyH.nil
              go_simp
              refine hK.out _ _ trivial (fun hHeld => ?_)
              clear hK K
              have hs_x135 : Src (x133.alloc (.cells #[.string (str ta), .string (str tb)] 35)) B b (((M + 26) + 1) + 1) := hs_x133.below ((Below.refl _ _).alloc (by have := (id hs_x133).2.1; omega) _)
              have hg_x135 : w.grownBy (x133.alloc (.cells #[.string (str ta), .string (str tb)] 35)) (some b) := gnew hg_x133 _
              have ho_x135 : OwnF (x133.alloc (.cells #[.string (str ta), .string (str tb)] 35)) w.heap.size v l := ho_x133.alloc _
              have hfc : FCell (x133.alloc (.cells #[.string (str ta), .string (str tb)] 35)) x133.heap.size (str ta) (str tb) := FCell.new x133 _ rfl _ _
              clear hs_x133 hg_x133 ho_x133
              generalize x133.alloc (.cells #[.string (str ta), .string (str tb)] 35) = x135 at *
              generalize x133.heap.size = R136 at *
              refine wpAnyH_ready (rs := [13]) (by kernel_rfl) (by simp) ?_
              refine AllReadyH.cons rfl (fun K hK => ?_) AllReadyH.nil
              refine step_appF (by rfl) _ _ (by rfl) w.heap.size v l (by rfl) ho_x135 ⟨R136, 0, none⟩ 1 1 [(str ta, str tb)] (by rfl) (by rfl) hfc.nw (by omega) hg_x135.size ?_
              intro v2 x137 ho2 hb2 _
              have hs_x137 := hs_x135.below (hb2.mono (by omega))
              have hg_x137 := glow hg_x135 hb2
              clear hs_x135 hg_x135 ho_x135 hfc hb2
              refine hK.out _ _ trivial (fun hHeld => ?_)
              clear hK K
              refine wpAnyH_take (i := 14) (v := ?_) rfl (by kernel_rfl) (by kernel_rfl) (by kernel_rfl) (fun _ _ _ h => h) (Or.inl ⟨by rfl, ?hy72⟩) (by assumption) ?ty72
              case hy72 => (intro w hSw; (try dsimp only at hSw); go_simp; all_goals with_reducible rfl)
              simp only [Act.put, List.getElem_toArray, List.getElem_cons_zero, List.getElem_cons_succ, List.setIfInBounds_toArray, List.set_cons_zero, List.set_cons_succ]
              refine wpAnyH_done (by kernel_rfl) ?_ _
              have HF : Hid (FldEnd B b (M + 29) 9 w (.returned v2) x137) := ⟨v2, _, rfl, ho2, by simp; omega, FldD.snoc hD (by omega) (by omega), hs_x137.more (by omega), hg_x137⟩
              clear ho2 hs_x137 hg_x137
              go_wp2
              go_ret
              exact HF.out
            · obtain ⟨tb, hcstb, hBtb, hltb⟩ := hr2_x133.2 j2 hj2
              go_simp
              refine hK.out _ _ trivial (fun hHeld => ?_)
              clear hK K
              clear hcstb
              refine wpAnyH_ready (rs := [5]) (by kernel_rfl) (by simp) ?_
              refine AllReadyH.cons rfl (fun K hK => ?_) AllReadyH.nil
              obtain ⟨ta, hcsta, hBta, hlta⟩ := hr1_x133.2 j1 hj1
              go_simp
              refine hK.out _ _ trivial (fun hHeld => ?_)
              clear hK K
              clear hcsta
              refine wpAnyH_take (i := 11) (v := ?_) rfl (by kernel_rfl) (by kernel_rfl) (by kernel_rfl) (fun _ _ _ h => h) (Or.inl ⟨by rfl, ?hy73⟩) (by assumption) ?ty73
              case hy73 => (intro w hSw; (try dsimp only at hSw); go_simp; all_goals with_reducible rfl)
              simp only [Act.put, List.getElem_toArray, List.getElem_cons_zero, List.getElem_cons_succ, List.setIfInBounds_toArray, List.set_cons_zero, List.set_cons_succ]
              refine wpAnyH_ready (rs := [12]) (by kernel_rfl) (by simp) ?_
              refine AllReadyH.cons rfl (fun K hK => ?_) AllReadyH.nil
              go_simp
              refine hK.out _ _ trivial (fun hHeld => ?_)
              clear hK K
              have hs_x138 : Src (x133.alloc (.cells #[.string (str ta), .string (str tb)] 35)) B b (((M + 26) + 1) + 1) := hs_x133.below ((Below.refl _ _).alloc (by have := (id hs_x133).2.1; omega) _)
              have hg_x138 : w.grownBy (x133.alloc (.cells #[.string (str ta), .string (str tb)] 35)) (some b) := gnew hg_x133 _
              have ho_x138 : OwnF (x133.alloc (.cells #[.string (str ta), .string (str tb)] 35)) w.heap.size v l := ho_x133.alloc _
              have hfc : FCell (x133.alloc (.cells #[.string (str ta), .string (str tb)] 35)) x133.heap.size (str ta) (str tb) := FCell.new x133 _ rfl _ _
              clear hs_x133 hg_x133 ho_x133
              generalize x133.alloc (.cells #[.string (str ta), .string (str tb)] 35) = x138 at *
              generalize x133.heap.size = R139 at *
              refine wpAnyH_ready (rs := [13]) (by kernel_rfl) (by simp) ?_
              refine AllReadyH.cons rfl (fun K hK => ?_) AllReadyH.nil
              refine step_appF (by rfl) _ _ (by rfl) w.heap.size v l (by rfl) ho_x138 ⟨R139, 0, none⟩ 1 1 [(str ta, str tb)] (by rfl) (by rfl) hfc.nw (by omega) hg_x138.size ?_
              intro v2 x140 ho2 hb2 _
              have hs_x140 := hs_x138.below (hb2.mono (by omega))
              have hg_x140 := glow hg_x138 hb2
              clear hs_x138 hg_x138 ho_x138 hfc hb2
              refine hK.out _ _ trivial (fun hHeld => ?_)
              clear hK K
              refine wpAnyH_take (i := 14) (v := ?_) rfl (by kernel_rfl) (by kernel_rfl) (by kernel_rfl) (fun _ _ _ h => h) (Or.inl ⟨by rfl, ?hy74⟩) (by assumption) ?ty74
              case hy74 => (intro w hSw; (try dsimp only at hSw); go_simp; all_goals with_reducible rfl)
              simp only [Act.put, List.getElem_toArray, List.getElem_cons_zero, List.getElem_cons_succ, List.setIfInBounds_toArray, List.set_cons_zero, List.set_cons_succ]
              refine wpAnyH_done (by kernel_rfl) ?_ _
              have HF : Hid (FldEnd B b (M + 29) 9 w (.returned v2) x140) := ⟨v2, _, rfl, ho2, by simp; omega, FldD.snoc hD (by omega) (by omega), hs_x140.more (by omega), hg_x140⟩
              clear ho2 hs_x140 hg_x140
              go_wp2
              go_ret
              exact HF.out
          · obtain ⟨tb, hcstb, hBtb, hltb⟩ := hr2_x131.2 j2 hj2
            go_simp
            refine hK.out _ _ trivial (fun hHeld => ?_)
            clear hK K
            clear hcstb
            refine wpAnyH_ready (rs := [1]) (by kernel_rfl) (by simp) ?_
            refine AllReadyH.cons rfl (fun K hK => ?_) AllReadyH.nil
            go_simp
            refine hK.out _ _ trivial (fun hHeld => ?_)
            clear hK K
            have hs_x141 : Src (x131.alloc (.cells #[.string ⟨#[]⟩, .string ⟨#[97, 32, 98]⟩, .string ⟨#[65]⟩] 9)) B b (((M + 26) + 1) + 1) := hs_x131.below ((Below.refl _ _).alloc (by have := (id hs_x131).2.1; omega) _)
            have hg_x141 : w.grownBy (x131.alloc (.cells #[.string ⟨#[]⟩, .string ⟨#[97, 32, 98]⟩, .string ⟨#[65]⟩] 9)) (some b) := gnew hg_x131 _
            have ho_x141 : OwnF (x131.alloc (.cells #[.string ⟨#[]⟩, .string ⟨#[97, 32, 98]⟩, .string ⟨#[65]⟩] 9)) w.heap.size v l := ho_x131.alloc _
            have hr1_x141 : RowT (x131.alloc (.cells #[.string ⟨#[]⟩, .string ⟨#[97, 32, 98]⟩, .string ⟨#[65]⟩] 9)) x131.heap.size 3 := RowT.new x131 (cs := #[.string ⟨#[]⟩, .string ⟨#[97, 32, 98]⟩, .string ⟨#[65]⟩]) (ss := [⟨#[]⟩, ⟨#[97, 32, 98]⟩, ⟨#[65]⟩]) rfl (by intro s hs; simp only [List.mem_cons, List.not_mem_nil, or_false] at hs; rcases hs with rfl | rfl | rfl <;> decide)
            have hb1_x141 : b < x131.heap.size := (id hs_x131).2.1
            have hr2_x141 : RowT (x131.alloc (.cells #[.string ⟨#[]⟩, .string ⟨#[97, 32, 98]⟩, .string ⟨#[65]⟩] 9)) R115 3 := hr2_x131.alloc _
            have hb2_x141 := hb2_x131
            clear hs_x131 hg_x131 ho_x131 hr2_x131 hb2_x131
            generalize x131.alloc (.cells #[.string ⟨#[]⟩, .string ⟨#[97, 32, 98]⟩, .string ⟨#[65]⟩] 9) = x141 at *
            generalize x131.heap.size = R142 at *
            refine wpAnyH_take (i := 4) (v := .pointer (some ⟨R142, j1, none⟩)) rfl (by kernel_rfl) (by kernel_rfl) (by kernel_rfl) (fun _ _ _ h => h) (Or.inl ⟨by rfl, ?hy75⟩) (by assumption) ?ty75
            case hy75 => (intro w hSw; (try dsimp only at hSw); go_simp; first | (simp [hj1']; done) | (all_goals first | (with_reducible rfl) | omega))
            simp only [Act.put, List.getElem_toArray, List.getElem_cons_zero, List.getElem_cons_succ, List.setIfInBounds_toArray, List.set_cons_zero, List.set_cons_succ]
            refine wpAnyH_ready (rs := [5]) (by kernel_rfl) (by simp) ?_
            refine AllReadyH.cons rfl (fun K hK => ?_) AllReadyH.nil
            obtain ⟨ta, hcsta, hBta, hlta⟩ := hr1_x141.2 j1 hj1
            go_simp
            refine hK.out _ _ trivial (fun hHeld => ?_)
            clear hK K
            clear hcsta
            refine wpAnyH_take (i := 11) (v := ?_) rfl (by kernel_rfl) (by kernel_rfl) (by kernel_rfl) (fun _ _ _ h => h) (Or.inl ⟨by rfl, ?hy76⟩) (by assumption) ?ty76
            case hy76 => (intro w hSw; (try dsimp only at hSw); go_simp; all_goals with_reducible rfl)
            simp only [Act.put, List.getElem_toArray, List.getElem_cons_zero, List.getElem_cons_succ, List.setIfInBounds_toArray, List.set_cons_zero, List.set_cons_succ]
            refine wpAnyH_ready (rs := [12]) (by kernel_rfl) (by simp) ?_
            refine AllReadyH.cons rfl (fun K hK => ?_) AllReadyH.nil
            go_simp
            refine hK.out _ _ trivial (fun hHeld => ?_)
            clear hK K
            have hs_x143 : Src (x141.alloc (.cells #[.string (str ta), .string (str tb)] 35)) B b (((M + 26) + 1) + 1) := hs_x141.below ((Below.refl _ _).alloc (by have := (id hs_x141).2.1; omega) _)
            have hg_x143 : w.grownBy (x141.alloc (.cells #[.string (str ta), .string (str tb)] 35)) (some b) := gnew hg_x141 _
            have ho_x143 : OwnF (x141.alloc (.cells #[.string (str ta), .string (str tb)] 35)) w.heap.size v l := ho_x141.alloc _
            have hfc : FCell (x141.alloc (.cells #[.string (str ta), .string (str tb)] 35)) x141.heap.size (str ta) (str tb) := FCell.new x141 _ rfl _ _
            clear hs_x141 hg_x141 ho_x141
            generalize x141.alloc (.cells #[.string (str ta), .string (str tb)] 35) = x143 at *
            generalize x141.heap.size = R144 at *
            refine wpAnyH_ready (rs := [13]) (by kernel_rfl) (by simp) ?_
            refine AllReadyH.cons rfl (fun K hK => ?_) AllReadyH.nil
            refine step_appF (by rfl) _ _ (by rfl) w.heap.size v l (by rfl) ho_x143 ⟨R144, 0, none⟩ 1 1 [(str ta, str tb)] (by rfl) (by rfl) hfc.nw (by omega) hg_x143.size ?_
            intro v2 x145 ho2 hb2 _
            have hs_x145 := hs_x143.below (hb2.mono (by omega))
            have hg_x145 := glow hg_x143 hb2
            clear hs_x143 hg_x143 ho_x143 hfc hb2
            refine hK.out _ _ trivial (fun hHeld => ?_)
            clear hK K
            refine wpAnyH_take (i := 14) (v := ?_) rfl (by kernel_rfl) (by kernel_rfl) (by kernel_rfl) (fun _ _ _ h => h) (Or.inl ⟨by rfl, ?hy77⟩) (by assumption) ?ty77
            case hy77 => (intro w hSw; (try dsimp only at hSw); go_simp; all_goals with_reducible rfl)
            simp only [Act.put, List.getElem_toArray, List.getElem_cons_zero, List.getElem_cons_succ, List.setIfInBounds_toArray, List.set_cons_zero, List.set_cons_succ]
            refine wpAnyH_done (by kernel_rfl) ?_ _
            have HF : Hid (FldEnd B b (M + 29) 9 w (.returned v2) x145) := ⟨v2, _, rfl, ho2, by simp; omega, FldD.snoc hD (by omega) (by omega), hs_x145.more (by omega), hg_x145⟩
            clear ho2 hs_x145 hg_x145
            go_wp2
            go_ret
            exact HF.out
      · go_simp
        refine (l1Next_any B b ((M + 26) + 1) 3 _ (by exact hs_x66) (by omega) (by omega) (by omega)).mono ?_
        rintro e x146 ⟨r, rfl, r0, r1, _, hs_x146, hgx⟩
        obtain ⟨j2, rfl⟩ := Int.eq_ofNat_of_zero_le r0
        have hj2 : j2 < 3 := by have := r1 (by omega); omega
        have hj2' : (j2 : Int) < 3 := by omega
        have hgy147 : x66.grownBy x146 (some b) := by first | exact gfromF hgx | exact hgx
        have hg_x146 : w.grownBy x146 (some b) := gthen hg_x66 hgy147
        have ho_x146 : OwnF x146 w.heap.size v l := ho_x66.src hgy147 hbw
        clear hs_x66 hg_x66 ho_x66 
        clear r0 r1 hgx hgy147
        refine hK.out _ _ trivial (fun hHeld => ?_)
        clear hK K
        refine wpAnyH_ready (rs := [1, 6]) (by kernel_rfl) (by simp) ?_
        refine AllReadyH.cons rfl (fun K hK => ?_) (AllReadyH.cons rfl (fun K hK => ?_) AllReadyH.nil)
        · go_simp
          refine hK.out _ _ trivial (fun hHeld => ?_)
          clear hK K
          have hs_x148 : Src (x146.alloc (.cells #[.string ⟨#[]⟩, .string ⟨#[97, 32, 98]⟩, .string ⟨#[65]⟩] 9)) B b (((M + 26) + 1) + 1) := hs_x146.below ((Below.refl _ _).alloc (by have := (id hs_x146).2.1; omega) _)
          have hg_x148 : w.grownBy (x146.alloc (.cells #[.string ⟨#[]⟩, .string ⟨#[97, 32, 98]⟩, .string ⟨#[65]⟩] 9)) (some b) := gnew hg_x146 _
          have ho_x148 : OwnF (x146.alloc (.cells #[.string ⟨#[]⟩, .string ⟨#[97, 32, 98]⟩, .string ⟨#[65]⟩] 9)) w.heap.size v l := ho_x146.alloc _
          have hr1_x148 : RowT (x146.alloc (.cells #[.string ⟨#[]⟩, .string ⟨#[97, 32, 98]⟩, .string ⟨#[65]⟩] 9)) x146.heap.size 3 := RowT.new x146 (cs := #[.string ⟨#[]⟩, .string ⟨#[97, 32, 98]⟩, .string ⟨#[65]⟩]) (ss := [⟨#[]⟩, ⟨#[97, 32, 98]⟩, ⟨#[65]⟩]) rfl (by intro s hs; simp only [List.mem_cons, List.not_mem_nil, or_false] at hs; rcases hs with rfl | rfl | rfl <;> decide)
          have hb1_x148 : b < x146.heap.size := (id hs_x146).2.1
          clear hs_x146 hg_x146 ho_x146 
          generalize x146.alloc (.cells #[.string ⟨#[]⟩, .string ⟨#[97, 32, 98]⟩, .string ⟨#[65]⟩] 9) = x148 at *
          generalize x146.heap.size = R149 at *
          refine wpAnyH_take (i := 4) (v := .pointer (some ⟨R149, j1, none⟩)) rfl (by kernel_rfl) (by kernel_rfl) (by kernel_rfl) (fun _ _ _ h => h) (Or.inl ⟨by rfl, ?hy78⟩) (by assumption) ?ty78
          case hy78 => (intro w hSw; (try dsimp only at hSw); go_simp; first | (simp [hj1']; done) | (all_goals first | (with_reducible rfl) | omega))
          simp only [Act.put, List.getElem_toArray, List.getElem_cons_zero, List.getElem_cons_succ, List.setIfInBounds_toArray, List.set_cons_zero, List.set_cons_succ]
          refine wpAnyH_ready (rs := [5, 6]) (by kernel_rfl) (by simp) ?_
          refine AllReadyH.cons rfl (fun K hK => ?_) (AllReadyH.cons rfl (fun K hK => ?_) AllReadyH.nil)
          · obtain ⟨ta, hcsta, hBta, hlta⟩ := hr1_x148.2 j1 hj1
            go_simp
            refine hK.out _ _ trivial (fun hHeld => ?_)
            clear hK K
            clear hcsta
            refine wpAnyH_ready (rs := [6]) (by kernel_rfl) (by simp) ?_
            refine AllReadyH.cons rfl (fun K hK => ?_) AllReadyH.nil
            go_simp
            refine hK.out _ _ trivial (fun hHeld => ?_)
            clear hK K
            have hs_x150 : Src (x148.alloc (.cells #[.string ⟨#[120]⟩, .string ⟨#[10]⟩, .string ⟨#[127]⟩] 9)) B b (((M + 26) + 1) + 1) := hs_x148.below ((Below.refl _ _).alloc (by have := (id hs_x148).2.1; omega) _)
            have hg_x150 : w.grownBy (x148.alloc (.cells #[.string ⟨#[120]⟩, .string ⟨#[10]⟩, .string ⟨#[127]⟩] 9)) (some b) := gnew hg_x148 _
            have ho_x150 : OwnF (x148.alloc (.cells #[.string ⟨#[120]⟩, .string ⟨#[10]⟩, .string ⟨#[127]⟩] 9)) w.heap.size v l := ho_x148.alloc _
            have hr2_x150 : RowT (x148.alloc (.cells #[.string ⟨#[120]⟩, .string ⟨#[10]⟩, .string ⟨#[127]⟩] 9)) x148.heap.size 3 := RowT.new x148 (cs := #[.string ⟨#[120]⟩, .string ⟨#[10]⟩, .string ⟨#[127]⟩]) (ss := [⟨#[120]⟩, ⟨#[10]⟩, ⟨#[127]⟩]) rfl (by intro s hs; simp only [List.mem_cons, List.not_mem_nil, or_false] at hs; rcases hs with rfl | rfl | rfl <;> decide)
            have hb2_x150 : b < x148.heap.size := (id hs_x148).2.1
            have hr1_x150 : RowT (x148.alloc (.cells #[.string ⟨#[120]⟩, .string ⟨#[10]⟩, .string ⟨#[127]⟩] 9)) R149 3 := hr1_x148.alloc _
            have hb1_x150 := hb1_x148
            clear hs_x148 hg_x148 ho_x148 hr1_x148 hb1_x148
            generalize x148.alloc (.cells #[.string ⟨#[120]⟩, .string ⟨#[10]⟩, .string ⟨#[127]⟩] 9) = x150 at *
            generalize x148.heap.size = R151 at *
            refine wpAnyH_take (i := 9) (v := .pointer (some ⟨R151, j2, none⟩)) rfl (by kernel_rfl) (by kernel_rfl) (by kernel_rfl) (fun _ _ _ h => h) (Or.inl ⟨by rfl, ?hy79⟩) (by assumption) ?ty79
            case hy79 => (intro w hSw; (try dsimp only at hSw); go_simp; first | (simp [hj2']; done) | (all_goals first | (with_reducible rfl) | omega))
            simp only [Act.put, List.getElem_toArray, List.getElem_cons_zero, List.getElem_cons_succ, List.setIfInBounds_toArray, List.set_cons_zero, List.set_cons_succ]
            refine wpAnyH_ready (rs := [10]) (by kernel_rfl) (by simp) ?_
            refine AllReadyH.cons rfl (fun K hK => ?_) AllReadyH.nil
            obtain ⟨tb, hcstb, hBtb, hltb⟩ := hr2_x150.2 j2 hj2
            go_simp
            refine hK.out _ _ trivial (fun hHeld => ?_)
            clear hK K
            clear hcstb
            refine wpAnyH_take (i := 11) (v := ?_) rfl (by kernel_rfl) (by kernel_rfl) (by kernel_rfl) (fun _ _ _ h => h) (Or.inl ⟨by rfl, ?hy80⟩) (by assumption) ?ty80
            case hy80 => (intro w hSw; (try dsimp only at hSw); go_simp; all_goals with_reducible rfl)
            simp only [Act.put, List.getElem_toArray, List.getElem_cons_zero, List.getElem_cons_succ, List.setIfInBounds_toArray, List.set_cons_zero, List.set_cons_succ]
            refine wpAnyH_ready (rs := [12]) (by kernel_rfl) (by simp) ?_
            refine AllReadyH.cons rfl (fun K hK => ?_) AllReadyH.nil
            go_simp
            refine hK.out _ _ trivial (fun hHeld => ?_)
            clear hK K
            have hs_x152 : Src (x150.alloc (.cells #[.string (str ta), .string (str tb)] 35)) B b (((M + 26) + 1) + 1) := hs_x150.below ((Below.refl _ _).alloc (by have := (id hs_x150).2.1; omega) _)
            have hg_x152 : w.grownBy (x150.alloc (.cells #[.string (str ta), .string (str tb)] 35)) (some b) := gnew hg_x150 _
            have ho_x152 : OwnF (x150.alloc (.cells #[.string (str ta), .string (str tb)] 35)) w.heap.size v l := ho_x150.alloc _
            have hfc : FCell (x150.alloc (.cells #[.string (str ta), .string (str tb)] 35)) x150.heap.size (str ta) (str tb) := FCell.new x150 _ rfl _ _
            clear hs_x150 hg_x150 ho_x150
            generalize x150.alloc (.cells #[.string (str ta), .string (str tb)] 35) = x152 at *
            generalize x150.heap.size = R153 at *
            refine wpAnyH_ready (rs := [13]) (by kernel_rfl) (by simp) ?_
            refine AllReadyH.cons rfl (fun K hK => ?_) AllReadyH.nil
            refine step_appF (by rfl) _ _ (by rfl) w.heap.size v l (by rfl) ho_x152 ⟨R153, 0, none⟩ 1 1 [(str ta, str tb)] (by rfl) (by rfl) hfc.nw (by omega) hg_x152.size ?_
            intro v2 x154 ho2 hb2 _
            have hs_x154 := hs_x152.below (hb2.mono (by omega))
            have hg_x154 := glow hg_x152 hb2
            clear hs_x152 hg_x152 ho_x152 hfc hb2
            refine hK.out _ _ trivial (fun hHeld => ?_)
            clear hK K
            refine wpAnyH_take (i := 14) (v := ?_) rfl (by kernel_rfl) (by kernel_rfl) (by kernel_rfl) (fun _ _ _ h => h) (Or.inl ⟨by rfl, ?hy81⟩) (by assumption) ?ty81
            case hy81 => (intro w hSw; (try dsimp only at hSw); go_simp; all_goals with_reducible rfl)
            simp only [Act.put, List.getElem_toArray, List.getElem_cons_zero, List.getElem_cons_succ, List.setIfInBounds_toArray, List.set_cons_zero, List.set_cons_succ]
            refine wpAnyH_done (by kernel_rfl) ?_ _
            have HF : Hid (FldEnd B b (M + 29) 9 w (.returned v2) x154) := ⟨v2, _, rfl, ho2, by simp; omega, FldD.snoc hD (by omega) (by omega), hs_x154.more (by omega), hg_x154⟩
            clear ho2 hs_x154 hg_x154
            go_wp2
            go_ret
            exact HF.out
          · go_simp
            refine hK.out _ _ trivial (fun hHeld => ?_)
            clear hK K
            have hs_x155 : Src (x148.alloc (.cells #[.string ⟨#[120]⟩, .string ⟨#[10]⟩, .string ⟨#[127]⟩] 9)) B b (((M + 26) + 1) + 1) := hs_x148.below ((Below.refl _ _).alloc (by have := (id hs_x148).2.1; omega) _)
            have hg_x155 : w.grownBy (x148.alloc (.cells #[.string ⟨#[120]⟩, .string ⟨#[10]⟩, .string ⟨#[127]⟩] 9)) (some b) := gnew hg_x148 _
            have ho_x155 : OwnF (x148.alloc (.cells #[.string ⟨#[120]⟩, .string ⟨#[10]⟩, .string ⟨#[127]⟩] 9)) w.heap.size v l := ho_x148.alloc _
            have hr2_x155 : RowT (x148.alloc (.cells #[.string ⟨#[120]⟩, .string ⟨#[10]⟩, .string ⟨#[127]⟩] 9)) x148.heap.size 3 := RowT.new x148 (cs := #[.string ⟨#[120]⟩, .string ⟨#[10]⟩, .string ⟨#[127]⟩]) (ss := [⟨#[120]⟩, ⟨#[10]⟩, ⟨#[127]⟩]) rfl (by intro s hs; simp only [List.mem_cons, List.not_mem_nil, or_false] at hs; rcases hs with rfl | rfl | rfl <;> decide)
            have hb2_x155 : b < x148.heap.size := (id hs_x148).2.1
            have hr1_x155 : RowT (x148.alloc (.cells #[.string ⟨#[120]⟩, .string ⟨#[10]⟩, .string ⟨#[127]⟩] 9)) R149 3 := hr1_x148.alloc _
            have hb1_x155 := hb1_x148
            clear hs_x148 hg_x148 ho_x148 hr1_x148 hb1_x148
            generalize x148.alloc (.cells #[.string ⟨#[120]⟩, .string ⟨#[10]⟩, .string ⟨#[127]⟩] 9) = x155 at *
            generalize x148.heap.size = R156 at *
            refine wpAnyH_take (i := 9) (v := .pointer (some ⟨R156, j2, none⟩)) rfl (by kernel_rfl) (by kernel_rfl) (by kernel_rfl) (fun _ _ _ h => h) (Or.inl ⟨by rfl, ?hy82⟩) (by assumption) ?ty82
            case hy82 => (intro w hSw; (try dsimp only at hSw); go_simp; first | (simp [hj2']; done) | (all_goals first | (with_reducible rfl) | omega))
            simp only [Act.put, List.getElem_toArray, List.getElem_cons_zero, List.getElem_cons_succ, List.setIfInBounds_toArray, List.set_cons_zero, List.set_cons_succ]
            refine wpAnyH_ready (rs := [5, 10]) (by kernel_rfl) (by simp) ?_
            refine AllReadyH.cons rfl (fun K hK => ?_) (AllReadyH.cons rfl (fun K hK => ?_) AllReadyH.nil)
            · obtain ⟨ta, hcsta, hBta, hlta⟩ := hr1_x155.2 j1 hj1
              go_simp
              refine hK.out _ _ trivial (fun hHeld => ?_)
              clear hK K
              clear hcsta
              refine wpAnyH_ready (rs := [10]) (by kernel_rfl) (by simp) ?_
              refine AllReadyH.cons rfl (fun K hK => ?_) AllReadyH.nil
              obtain ⟨tb, hcstb, hBtb, hltb⟩ := hr2_x155.2 j2 hj2
              go_simp
              refine hK.out _ _ trivial (fun hHeld => ?_)
              clear hK K
              clear hcstb
              refine wpAnyH_take (i := 11) (v := ?_) rfl (by kernel_rfl) (by kernel_rfl) (by kernel_rfl) (fun _ _ _ h => h) (Or.inl ⟨by rfl, ?hy83⟩) (by assumption) ?ty83
              case hy83 => (intro w hSw; (try dsimp only at hSw); go_simp; all_goals with_reducible rfl)
              simp only [Act.put, List.getElem_toArray, List.getElem_cons_zero, List.getElem_cons_succ, List.setIfInBounds_toArray, List.set_cons_zero, List.set_cons_succ]
              refine wpAnyH_ready (rs := [12]) (by kernel_rfl) (by simp) ?_
              refine AllReadyH.cons rfl (fun K hK => ?_) AllReadyH.nil
              go_simp
              refine hK.out _ _ trivial (fun hHeld => ?_)
              clear hK K
              have hs_x157 : Src (x155.alloc (.cells #[.string (str ta), .string (str tb)] 35)) B b (((M + 26) + 1) + 1) := hs_x155.below ((Below.refl _ _).alloc (by have := (id hs_x155).2.1; omega) _)
              have hg_x157 : w.grownBy (x155.alloc (.cells #[.string (str ta), .string (str tb)] 35)) (some b) := gnew hg_x155 _
              have ho_x157 : OwnF (x155.alloc (.cells #[.string (str ta), .string (str tb)] 35)) w.heap.size v l := ho_x155.alloc _
              have hfc : FCell (x155.alloc (.cells #[.string (str ta), .string (str tb)] 35)) x155.heap.size (str ta) (str tb) := FCell.new x155 _ rfl _ _
              clear hs_x155 hg_x155 ho_x155
              generalize x155.alloc (.cells #[.string (str ta), .string (str tb)] 35) = x157 at *
              generalize x155.heap.size = R158 at *
              refine wpAnyH_ready (rs := [13]) (by kernel_rfl) (by simp) ?_
              refine AllReadyH.cons rfl (fun K hK => ?_) AllReadyH.nil
              refine step_appF (by rfl) _ _ (by rfl) w.heap.size v l (by rfl) ho_x157 ⟨R158, 0, none⟩ 1 1 [(str ta, str tb)] (by rfl) (by rfl) hfc.nw (by omega) hg_x157.size ?_
              intro v2 x159 ho2 hb2 _
              have hs_x159 := hs_x157.below (hb2.mono (by omega))
              have hg_x159 := glow hg_x157 hb2
              clear hs_x157 hg_x157 ho_x157 hfc hb2
              refine hK.out _ _ trivial (fun hHeld => ?_)
              clear hK K
              refine wpAnyH_take (i := 14) (v := ?_) rfl (by kernel_rfl) (by kernel_rfl) (by kernel_rfl) (fun _ _ _ h => h) (Or.inl ⟨by rfl, ?hy84⟩) (by assumption) ?ty84
              case hy84 => (intro w hSw; (try dsimp only at hSw); go_simp; all_goals with_reducible rfl)
              simp only [Act.put, List.getElem_toArray, List.getElem_cons_zero, List.getElem_cons_succ, List.setIfInBounds_toArray, List.set_cons_zero, List.set_cons_succ]
              refine wpAnyH_done (by kernel_rfl) ?_ _
              have HF : Hid (FldEnd B b (M + 29) 9 w (.returned v2) x159) := ⟨v2, _, rfl, ho2, by simp; omega, FldD.snoc hD (by omega) (by omega), hs_x159.more (by omega), hg_x159⟩
              clear ho2 hs_x159 hg_x159
              go_wp2
              go_ret
              exact HF.out
            · obtain ⟨tb, hcstb, hBtb, hltb⟩ := hr2_x155.2 j2 hj2
              go_simp
              refine hK.out _ _ trivial (fun hHeld => ?_)
              clear hK K
              clear hcstb
              refine wpAnyH_ready (rs := [5]) (by kernel_rfl) (by simp) ?_
              refine AllReadyH.cons rfl (fun K hK => ?_) AllReadyH.nil
              obtain ⟨ta, hcsta, hBta, hlta⟩ := hr1_x155.2 j1 hj1
              go_simp
              refine hK.out _ _ trivial (fun hHeld => ?_)
              clear hK K
              clear hcsta
              refine wpAnyH_take (i := 11) (v := ?_) rfl (by kernel_rfl) (by kernel_rfl) (by kernel_rfl) (fun _ _ _ h => h) (Or.inl ⟨by rfl, ?hy85⟩) (by assumption) ?ty85
              case hy85 => (intro w hSw; (try dsimp only at hSw); go_simp; all_goals with_reducible rfl)
              simp only [Act.put, List.getElem_toArray, List.getElem_cons_zero, List.getElem_cons_succ, List.setIfInBounds_toArray, List.set_cons_zero, List.set_cons_succ]
              refine wpAnyH_ready (rs := [12]) (by kernel_rfl) (by simp) ?_
              refine AllReadyH.cons rfl (fun K hK => ?_) AllReadyH.nil
              go_simp
              refine hK.out _ _ trivial (fun hHeld => ?_)
              clear hK K
              have hs_x160 : Src (x155.alloc (.cells #[.string (str ta), .string (str tb)] 35)) B b (((M + 26) + 1) + 1) := hs_x155.below ((Below.refl _ _).alloc (by have := (id hs_x155).2.1; omega) _)
              have hg_x160 : w.grownBy (x155.alloc (.cells #[.string (str ta), .string (str tb)] 35)) (some b) := gnew hg_x155 _
              have ho_x160 : OwnF (x155.alloc (.cells #[.string (str ta), .string (str tb)] 35)) w.heap.size v l := ho_x155.alloc _
              have hfc : FCell (x155.alloc (.cells #[.string (str ta), .string (str tb)] 35)) x155.heap.size (str ta) (str tb) := FCell.new x155 _ rfl _ _
              clear hs_x155 hg_x155 ho_x155
              generalize x155.alloc (.cells #[.string (str ta), .string (str tb)] 35) = x160 at *
              generalize x155.heap.size = R161 at *
              refine wpAnyH_ready (rs := [13]) (by kernel_rfl) (by simp) ?_
              refine AllReadyH.cons rfl (fun K hK => ?_) AllReadyH.nil
              refine step_appF (by rfl) _ _ (by rfl) w.heap.size v l (by rfl) ho_x160 ⟨R161, 0, none⟩ 1 1 [(str ta, str tb)] (by rfl) (by rfl) hfc.nw (by omega) hg_x160.size ?_
              intro v2 x162 ho2 hb2 _
              have hs_x162 := hs_x160.below (hb2.mono (by omega))
              have hg_x162 := glow hg_x160 hb2
              clear hs_x160 hg_x160 ho_x160 hfc hb2
              refine hK.out _ _ trivial (fun hHeld => ?_)
              clear hK K
              refine wpAnyH_take (i := 14) (v := ?_) rfl (by kernel_rfl) (by kernel_rfl) (by kernel_rfl) (fun _ _ _ h => h) (Or.inl ⟨by rfl, ?hy86⟩) (by assumption) ?ty86
              case hy86 => (intro w hSw; (try dsimp only at hSw); go_simp; all_goals with_reducible rfl)
              simp only [Act.put, List.getElem_toArray, List.getElem_cons_zero, List.getElem_cons_succ, List.setIfInBounds_toArray, List.set_cons_zero, List.set_cons_succ]
              refine wpAnyH_done (by kernel_rfl) ?_ _
              have HF : Hid (FldEnd B b (M + 29) 9 w (.returned v2) x162) := ⟨v2, _, rfl, ho2, by simp; omega, FldD.snoc hD (by omega) (by omega), hs_x162.more (by omega), hg_x162⟩
              clear ho2 hs_x162 hg_x162
              go_wp2
              go_ret
              exact HF.out
        · go_simp
          refine hK.out _ _ trivial (fun hHeld => ?_)
          clear hK K
          have hs_x163 : Src (x146.alloc (.cells #[.string ⟨#[120]⟩, .string ⟨#[10]⟩, .string ⟨#[127]⟩] 9)) B b (((M + 26) + 1) + 1) := hs_x146.below ((Below.refl _ _).alloc (by have := (id hs_x146).2.1; omega) _)
          have hg_x163 : w.grownBy (x146.alloc (.cells #[.string ⟨#[120]⟩, .string ⟨#[10]⟩, .string ⟨#[127]⟩] 9)) (some b) := gnew hg_x146 _
          have ho_x163 : OwnF (x146.alloc (.cells #[.string ⟨#[120]⟩, .string ⟨#[10]⟩, .string ⟨#[127]⟩] 9)) w.heap.size v l := ho_x146.alloc _
          have hr2_x163 : RowT (x146.alloc (.cells #[.string ⟨#[120]⟩, .string ⟨#[10]⟩, .string ⟨#[127]⟩] 9)) x146.heap.size 3 := RowT.new x146 (cs := #[.string ⟨#[120]⟩, .string ⟨#[10]⟩, .string ⟨#[127]⟩]) (ss := [⟨#[120]⟩, ⟨#[10]⟩, ⟨#[127]⟩]) rfl (by intro s hs; simp only [List.mem_cons, List.not_mem_nil, or_false] at hs; rcases hs with rfl | rfl | rfl <;> decide)
          have hb2_x163 : b < x146.heap.size := (id hs_x146).2.1
          clear hs_x146 hg_x146 ho_x146 
          generalize x146.alloc (.cells #[.string ⟨#[120]⟩, .string ⟨#[10]⟩, .string ⟨#[127]⟩] 9) = x163 at *
          generalize x146.heap.size = R164 at *
          refine wpAnyH_take (i := 9) (v := .pointer (some ⟨R164, j2, none⟩)) rfl (by kernel_rfl) (by kernel_rfl) (by kernel_rfl) (fun _ _ _ h => h) (Or.inl ⟨by rfl, ?hy87⟩) (by assumption) ?ty87
          case hy87 => (intro w hSw; (try dsimp only at hSw); go_simp; first | (simp [hj2']; done) | (all_goals first | (with_reducible rfl) | omega))
          simp only [Act.put, List.getElem_toArray, List.getElem_cons_zero, List.getElem_cons_succ, List.setIfInBounds_toArray, List.set_cons_zero, List.set_cons_succ]
          refine wpAnyH_ready (rs := [1, 10]) (by kernel_rfl) (by simp) ?_
          refine AllReadyH.cons rfl (fun K hK => ?_) (AllReadyH.cons rfl (fun K hK => ?_) AllReadyH.nil)
          · go_simp
            refine hK.out _ _ trivial (fun hHeld => ?_)
            clear hK K
            have hs_x165 : Src (x163.alloc (.cells #[.string ⟨#[]⟩, .string ⟨#[97, 32, 98]⟩, .string ⟨#[65]⟩] 9)) B b (((M + 26) + 1) + 1) := hs_x163.below ((Below.refl _ _).alloc (by have := (id hs_x163).2.1; omega) _)
            have hg_x165 : w.grownBy (x163.alloc (.cells #[.string ⟨#[]⟩, .string ⟨#[97, 32, 98]⟩, .string ⟨#[65]⟩] 9)) (some b) := gnew hg_x163 _
            have ho_x165 : OwnF (x163.alloc (.cells #[.string ⟨#[]⟩, .string ⟨#[97, 32, 98]⟩, .string ⟨#[65]⟩] 9)) w.heap.size v l := ho_x163.alloc _
            have hr1_x165 : RowT (x163.alloc (.cells #[.string ⟨#[]⟩, .string ⟨#[97, 32, 98]⟩, .string ⟨#[65]⟩] 9)) x163.heap.size 3 := RowT.new x163 (cs := #[.string ⟨#[]⟩, .string ⟨#[97, 32, 98]⟩, .string ⟨#[65]⟩]) (ss := [⟨#[]⟩, ⟨#[97, 32, 98]⟩, ⟨#[65]⟩]) rfl (by intro s hs; simp only [List.mem_cons, List.not_mem_nil, or_false] at hs; rcases hs with rfl | rfl | rfl <;> decide)
            have hb1_x165 : b < x163.heap.size := (id hs_x163).2.1
            have hr2_x165 : RowT (x163.alloc (.cells #[.string ⟨#[]⟩, .string ⟨#[97, 32, 98]⟩, .string ⟨#[65]⟩] 9)) R164 3 := hr2_x163.alloc _
            have hb2_x165 := hb2_x163
            clear hs_x163 hg_x163 ho_x163 hr2_x163 hb2_x163
            generalize x163.alloc (.cells #[.string ⟨#[]⟩, .string ⟨#[97, 32, 98]⟩, .string ⟨#[65]⟩] 9) = x165 at *
            generalize x163.heap.size = R166 at *
            refine wpAnyH_take (i := 4) (v := .pointer (some ⟨R166, j1, none⟩)) rfl (by kernel_rfl) (by kernel_rfl) (by kernel_rfl) (fun _ _ _ h => h) (Or.inl ⟨by rfl, ?hy88⟩) (by assumption) ?ty88
            case hy88 => (intro w hSw; (try dsimp only at hSw); go_simp; first | (simp [hj1']; done) | (all_goals first | (with_reducible rfl) | omega))
            simp only [Act.put, List.getElem_toArray, List.getElem_cons_zero, List.getElem_cons_succ, List.setIfInBounds_toArray, List.set_cons_zero, List.set_cons_succ]
            refine wpAnyH_ready (rs := [5, 10]) (by kernel_rfl) (by simp) ?_
            refine AllReadyH.cons rfl (fun K hK => ?_) (AllReadyH.cons rfl (fun K hK => ?_) AllReadyH.nil)
            · obtain ⟨ta, hcsta, hBta, hlta⟩ := hr1_x165.2 j1 hj1
              go_simp
              refine hK.out _ _ trivial (fun hHeld => ?_)
              clear hK K
              clear hcsta
              refine wpAnyH_ready (rs := [10]) (by kernel_rfl) (by simp) ?_
              refine AllReadyH.cons rfl (fun K hK => ?_) AllReadyH.nil
              obtain ⟨tb, hcstb, hBtb, hltb⟩ := hr2_x165.2 j2 hj2
              go_simp
              refine hK.out _ _ trivial (fun hHeld => ?_)
              clear hK K
              clear hcstb
              refine wpAnyH_take (i := 11) (v := ?_) rfl (by kernel_rfl) (by kernel_rfl) (by kernel_rfl) (fun _ _ _ h => h) (Or.inl ⟨by rfl, ?hy89⟩) (by assumption) ?ty89
              case hy89 => (intro w hSw; (try dsimp only at hSw); go_simp; all_goals with_reducible rfl)
              simp only [Act.put, List.getElem_toArray, List.getElem_cons_zero, List.getElem_cons_succ, List.setIfInBounds_toArray, List.set_cons_zero, List.set_cons_succ]
              refine wpAnyH_ready (rs := [12]) (by kernel_rfl) (by simp) ?_
              refine AllReadyH.cons rfl (fun K hK => ?_) AllReadyH.nil
              go_simp
              refine hK.out _ _ trivial (fun hHeld => ?_)
              clear hK K
              have hs_x167 : Src (x165.alloc (.cells #[.string (str ta), .string (str tb)] 35)) B b (((M + 26) + 1) + 1) := hs_x165.below ((Below.refl _ _).alloc (by have := (id hs_x165).2.1; omega) _)
              have hg_x167 : w.grownBy (x165.alloc (.cells #[.string (str ta), .string (str tb)] 35)) (some b) := gnew hg_x165 _
              have ho_x167 : OwnF (x165.alloc (.cells #[.string (str ta), .string (str tb)] 35)) w.heap.size v l := ho_x165.alloc _
              have hfc : FCell (x165.alloc (.cells #[.string (str ta), .string (str tb)] 35)) x165.heap.size (str ta) (str tb) := FCell.new x165 _ rfl _ _
              clear hs_x165 hg_x165 ho_x165
              generalize x165.alloc (.cells #[.string (str ta), .string (str tb)] 35) = x167 at *
              generalize x165.heap.size = R168 at *
              refine wpAnyH_ready (rs := [13]) (by kernel_rfl) (by simp) ?_
              refine AllReadyH.cons rfl (fun K hK => ?_) AllReadyH.nil
              refine step_appF (by rfl) _ _ (by rfl) w.heap.size v l (by rfl) ho_x167 ⟨R168, 0, none⟩ 1 1 [(str ta, str tb)] (by rfl) (by rfl) hfc.nw (by omega) hg_x167.size ?_
              intro v2 x169 ho2 hb2 _
              have hs_x169 := hs_x167.below (hb2.mono (by omega))
              have hg_x169 := glow hg_x167 hb2
              clear hs_x167 hg_x167 ho_x167 hfc hb2
              refine hK.out _ _ trivial (fun hHeld => ?_)
              clear hK K
              refine wpAnyH_take (i := 14) (v := ?_) rfl (by kernel_rfl) (by kernel_rfl) (by kernel_rfl) (fun _ _ _ h => h) (Or.inl ⟨by rfl, ?hy90⟩) (by assumption) ?ty90
              case hy90 => (intro w hSw; (try dsimp only at hSw); go_simp; all_goals with_reducible rfl)
              simp only [Act.put, List.getElem_toArray, List.getElem_cons_zero, List.getElem_cons_succ, List.setIfInBounds_toArray, List.set_cons_zero, List.set_cons_succ]
              refine wpAnyH_done (by kernel_rfl) ?_ _
              have HF : Hid (FldEnd B b (M + 29) 9 w (.returned v2) x169) := ⟨v2, _, rfl, ho2, by simp; omega, FldD.snoc hD (by omega) (by omega), hs_x169.more (by omega), hg_x169⟩
              clear ho2 hs_x169 hg_x169
              go_wp2
              go_ret
              exact HF.out
            · obtain ⟨tb, hcstb, hBtb, hltb⟩ := hr2_x165.2 j2 hj2
              go_simp
              refine hK.out _ _ trivial (fun hHeld => ?_)
              clear hK K
              clear hcstb
              refine wpAnyH_ready (rs := [5]) (by kernel_rfl) (by simp) ?_
              refine AllReadyH.cons rfl (fun K hK => ?_) AllReadyH.nil
              obtain ⟨ta, hcsta, hBta, hlta⟩ := hr1_x165.2 j1 hj1
              go_simp
              refine hK.out _ _ trivial (fun hHeld => ?_)
              clear hK K
              clear hcsta
              refine wpAnyH_take (i := 11) (v := ?_) rfl (by kernel_rfl) (by kernel_rfl) (by kernel_rfl) (fun _ _ _ h => h) (Or.inl ⟨by rfl, ?hy91⟩) (by assumption) ?ty91
              case hy91 => (intro w hSw; (try dsimp only at hSw); go_simp; all_goals with_reducible rfl)
              simp only [Act.put, List.getElem_toArray, List.getElem_cons_zero, List.getElem_cons_succ, List.setIfInBounds_toArray, List.set_cons_zero, List.set_cons_succ]
              refine wpAnyH_ready (rs := [12]) (by kernel_rfl) (by simp) ?_
              refine AllReadyH.cons rfl (fun K hK => ?_) AllReadyH.nil
              go_simp
              refine hK.out _ _ trivial (fun hHeld => ?_)
              clear hK K
              have hs_x170 : Src (x165.alloc (.cells #[.string (str ta), .string (str tb)] 35)) B b (((M + 26) + 1) + 1) := hs_x165.below ((Below.refl _ _).alloc (by have := (id hs_x165).2.1; omega) _)
              have hg_x170 : w.grownBy (x165.alloc (.cells #[.string (str ta), .string (str tb)] 35)) (some b) := gnew hg_x165 _
              have ho_x170 : OwnF (x165.alloc (.cells #[.string (str ta), .string (str tb)] 35)) w.heap.size v l := ho_x165.alloc _
              have hfc : FCell (x165.alloc (.cells #[.string (str ta), .string (str tb)] 35)) x165.heap.size (str ta) (str tb) := FCell.new x165 _ rfl _ _
              clear hs_x165 hg_x165 ho_x165
              generalize x165.alloc (.cells #[.string (str ta), .string (str tb)] 35) = x170 at *
              generalize x165.heap.size = R171 at *
              refine wpAnyH_ready (rs := [13]) (by kernel_rfl) (by simp) ?_
              refine AllReadyH.cons rfl (fun K hK => ?_) AllReadyH.nil
              refine step_appF (by rfl) _ _ (by rfl) w.heap.size v l (by rfl) ho_x170 ⟨R171, 0, none⟩ 1 1 [(str ta, str tb)] (by rfl) (by rfl) hfc.nw (by omega) hg_x170.size ?_
              intro v2 x172 ho2 hb2 _
              have hs_x172 := hs_x170.below (hb2.mono (by omega))
              have hg_x172 := glow hg_x170 hb2
              clear hs_x170 hg_x170 ho_x170 hfc hb2
              refine hK.out _ _ trivial (fun hHeld => ?_)
              clear hK K
              refine wpAnyH_take (i := 14) (v := ?_) rfl (by kernel_rfl) (by kernel_rfl) (by kernel_rfl) (fun _ _ _ h => h) (Or.inl ⟨by rfl, ?hy92⟩) (by assumption) ?ty92
              case hy92 => (intro w hSw; (try dsimp only at hSw); go_simp; all_goals with_reducible rfl)
              simp only [Act.put, List.getElem_toArray, List.getElem_cons_zero, List.getElem_cons_succ, List.setIfInBounds_toArray, List.set_cons_zero, List.set_cons_succ]
              refine wpAnyH_done (by kernel_rfl) ?_ _
              have HF : Hid (FldEnd B b (M + 29) 9 w (.returned v2) x172) := ⟨v2, _, rfl, ho2, by simp; omega, FldD.snoc hD (by omega) (by omega), hs_x172.more (by omega), hg_x172⟩
              clear ho2 hs_x172 hg_x172
              go_wp2
              go_ret
              exact HF.out
          · obtain ⟨tb, hcstb, hBtb, hltb⟩ := hr2_x163.2 j2 hj2
            go_simp
            refine hK.out _ _ trivial (fun hHeld => ?_)
            clear hK K
            clear hcstb
            refine wpAnyH_ready (rs := [1]) (by kernel_rfl) (by simp) ?_
            refine AllReadyH.cons rfl (fun K hK => ?_) AllReadyH.nil
            go_simp
            refine hK.out _ _ trivial (fun hHeld => ?_)
            clear hK K
            have hs_x173 : Src (x163.alloc (.cells #[.string ⟨#[]⟩, .string ⟨#[97, 32, 98]⟩, .string ⟨#[65]⟩] 9)) B b (((M + 26) + 1) + 1) := hs_x163.below ((Below.refl _ _).alloc (by have := (id hs_x163).2.1; omega) _)
            have hg_x173 : w.grownBy (x163.alloc (.cells #[.string ⟨#[]⟩, .string ⟨#[97, 32, 98]⟩, .string ⟨#[65]⟩] 9)) (some b) := gnew hg_x163 _
            have ho_x173 : OwnF (x163.alloc (.cells #[.string ⟨#[]⟩, .string ⟨#[97, 32, 98]⟩, .string ⟨#[65]⟩] 9)) w.heap.size v l := ho_x163.alloc _
            have hr1_x173 : RowT (x163.alloc (.cells #[.string ⟨#[]⟩, .string ⟨#[97, 32, 98]⟩, .string ⟨#[65]⟩] 9)) x163.heap.size 3 := RowT.new x163 (cs := #[.string ⟨#[]⟩, .string ⟨#[97, 32, 98]⟩, .string ⟨#[65]⟩]) (ss := [⟨#[]⟩, ⟨#[97, 32, 98]⟩, ⟨#[65]⟩]) rfl (by intro s hs; simp only [List.mem_cons, List.not_mem_nil, or_false] at hs; rcases hs with rfl | rfl | rfl <;> decide)
            have hb1_x173 : b < x163.heap.size := (id hs_x163).2.1
            have hr2_x173 : RowT (x163.alloc (.cells #[.string ⟨#[]⟩, .string ⟨#[97, 32, 98]⟩, .string ⟨#[65]⟩] 9)) R164 3 := hr2_x163.alloc _
            have hb2_x173 := hb2_x163
            clear hs_x163 hg_x163 ho_x163 hr2_x163 hb2_x163
            generalize x163.alloc (.cells #[.string ⟨#[]⟩, .string ⟨#[97, 32, 98]⟩, .string ⟨#[65]⟩] 9) = x173 at *
            generalize x163.heap.size = R174 at *
            refine wpAnyH_take (i := 4) (v := .pointer (some ⟨R174, j1, none⟩)) rfl (by kernel_rfl) (by kernel_rfl) (by kernel_rfl) (fun _ _ _ h => h) (Or.inl ⟨by rfl, ?hy93⟩) (by assumption) ?ty93
            case hy93 => (intro w hSw; (try dsimp only at hSw); go_simp; first | (simp [hj1']; done) | (all_goals first | (with_reducible rfl) | omega))
            simp only [Act.put, List.getElem_toArray, List.getElem_cons_zero, List.getElem_cons_succ, List.setIfInBounds_toArray, List.set_cons_zero, List.set_cons_succ]
            refine wpAnyH_ready (rs := [5]) (by kernel_rfl) (by simp) ?_
            refine AllReadyH.cons rfl (fun K hK => ?_) AllReadyH.nil
            obtain ⟨ta, hcsta, hBta, hlta⟩ := hr1_x173.2 j1 hj1
            go_simp
            refine hK.out _ _ trivial (fun hHeld => ?_)
            clear hK K
            clear hcsta
            refine wpAnyH_take (i := 11) (v := ?_) rfl (by kernel_rfl) (by kernel_rfl) (by kernel_rfl) (fun _ _ _ h => h) (Or.inl ⟨by rfl, ?hy94⟩) (by assumption) ?ty94
            case hy94 => (intro w hSw; (try dsimp only at hSw); go_simp; all_goals with_reducible rfl)
            simp only [Act.put, List.getElem_toArray, List.getElem_cons_zero, List.getElem_cons_succ, List.setIfInBounds_toArray, List.set_cons_zero, List.set_cons_succ]
            refine wpAnyH_ready (rs := [12]) (by kernel_rfl) (by simp) ?_
            refine AllReadyH.cons rfl (fun K hK => ?_) AllReadyH.nil
            go_simp
            refine hK.out _ _ trivial (fun hHeld => ?_)
            clear hK K
            have hs_x175 : Src (x173.alloc (.cells #[.string (str ta), .string (str tb)] 35)) B b (((M + 26) + 1) + 1) := hs_x173.below ((Below.refl _ _).alloc (by have := (id hs_x173).2.1; omega) _)
            have hg_x175 : w.grownBy (x173.alloc (.cells #[.string (str ta), .string (str tb)] 35)) (some b) := gnew hg_x173 _
            have ho_x175 : OwnF (x173.alloc (.cells #[.string (str ta), .string (str tb)] 35)) w.heap.size v l := ho_x173.alloc _
            have hfc : FCell (x173.alloc (.cells #[.string (str ta), .string (str tb)] 35)) x173.heap.size (str ta) (str tb) := FCell.new x173 _ rfl _ _
            clear hs_x173 hg_x173 ho_x173
            generalize x173.alloc (.cells #[.string (str ta), .string (str tb)] 35) = x175 at *
            generalize x173.heap.size = R176 at *
            refine wpAnyH_ready (rs := [13]) (by kernel_rfl) (by simp) ?_
            refine AllReadyH.cons rfl (fun K hK => ?_) AllReadyH.nil
            refine step_appF (by rfl) _ _ (by rfl) w.heap.size v l (by rfl) ho_x175 ⟨R176, 0, none⟩ 1 1 [(str ta, str tb)] (by rfl) (by rfl) hfc.nw (by omega) hg_x175.size ?_
            intro v2 x177 ho2 hb2 _
            have hs_x177 := hs_x175.below (hb2.mono (by omega))
            have hg_x177 := glow hg_x175 hb2
            clear hs_x175 hg_x175 ho_x175 hfc hb2
            refine hK.out _ _ trivial (fun hHeld => ?_)
            clear hK K
            refine wpAnyH_take (i := 14) (v := ?_) rfl (by kernel_rfl) (by kernel_rfl) (by kernel_rfl) (fun _ _ _ h => h) (Or.inl ⟨by rfl, ?hy95⟩) (by assumption) ?ty95
            case hy95 => (intro w hSw; (try dsimp only at hSw); go_simp; all_goals with_reducible rfl)
            simp only [Act.put, List.getElem_toArray, List.getElem_cons_zero, List.getElem_cons_succ, List.setIfInBounds_toArray, List.set_cons_zero, List.set_cons_succ]
            refine wpAnyH_done (by kernel_rfl) ?_ _
            have HF : Hid (FldEnd B b (M + 29) 9 w (.returned v2) x177) := ⟨v2, _, rfl, ho2, by simp; omega, FldD.snoc hD (by omega) (by omega), hs_x177.more (by omega), hg_x177⟩
            clear ho2 hs_x177 hg_x177
            go_wp2
            go_ret
            exact HF.out
    · go_simp
      refine hK.out _ _ trivial (fun hHeld => ?_)
      clear hK K
      have hs_x178 : Src (w2.alloc (.cells #[.string ⟨#[120]⟩, .string ⟨#[10]⟩, .string ⟨#[127]⟩] 9)) B b (M + 26) := hs_w2.below ((Below.refl _ _).alloc (by have := (id hs_w2).2.1; omega) _)
      have hg_x178 : w.grownBy (w2.alloc (.cells #[.string ⟨#[120]⟩, .string ⟨#[10]⟩, .string ⟨#[127]⟩] 9)) (some b) := gnew hg_w2 _
      have ho_x178 : OwnF (w2.alloc (.cells #[.string ⟨#[120]⟩, .string ⟨#[10]⟩, .string ⟨#[127]⟩] 9)) w.heap.size v l := ho_w2.alloc _
      have hr2_x178 : RowT (w2.alloc (.cells #[.string ⟨#[120]⟩, .string ⟨#[10]⟩, .string ⟨#[127]⟩] 9)) w2.heap.size 3 := RowT.new w2 (cs := #[.string ⟨#[120]⟩, .string ⟨#[10]⟩, .string ⟨#[127]⟩]) (ss := [⟨#[120]⟩, ⟨#[10]⟩, ⟨#[127]⟩]) rfl (by intro s hs; simp only [List.mem_cons, List.not_mem_nil, or_false] at hs; rcases hs with rfl | rfl | rfl <;> decide)
      have hb2_x178 : b < w2.heap.size := (id hs_w2).2.1
      clear hs_w2 hg_w2 ho_w2 
      generalize w2.alloc (.cells #[.string ⟨#[120]⟩, .string ⟨#[10]⟩, .string ⟨#[127]⟩] 9) = x178 at *
      generalize w2.heap.size = R179 at *
      refine wpAnyH_ready (rs := [1, 3]) (by kernel_rfl) (by simp) ?_
      refine AllReadyH.cons rfl (fun K hK => ?_) (AllReadyH.cons rfl (fun K hK => ?_) AllReadyH.nil)
      · go_simp
        refine hK.out _ _ trivial (fun hHeld => ?_)
        clear hK K
        have hs_x180 : Src (x178.alloc (.cells #[.string ⟨#[]⟩, .string ⟨#[97, 32, 98]⟩, .string ⟨#[65]⟩] 9)) B b (M + 26) := hs_x178.below ((Below.refl _ _).alloc (by have := (id hs_x178).2.1; omega) _)
        have hg_x180 : w.grownBy (x178.alloc (.cells #[.string ⟨#[]⟩, .string ⟨#[97, 32, 98]⟩, .string ⟨#[65]⟩] 9)) (some b) := gnew hg_x178 _
        have ho_x180 : OwnF (x178.alloc (.cells #[.string ⟨#[]⟩, .string ⟨#[97, 32, 98]⟩, .string ⟨#[65]⟩] 9)) w.heap.size v l := ho_x178.alloc _
        have hr1_x180 : RowT (x178.alloc (.cells #[.string ⟨#[]⟩, .string ⟨#[97, 32, 98]⟩, .string ⟨#[65]⟩] 9)) x178.heap.size 3 := RowT.new x178 (cs := #[.string ⟨#[]⟩, .string ⟨#[97, 32, 98]⟩, .string ⟨#[65]⟩]) (ss := [⟨#[]⟩, ⟨#[97, 32, 98]⟩, ⟨#[65]⟩]) rfl (by intro s hs; simp only [List.mem_cons, List.not_mem_nil, or_false] at hs; rcases hs with rfl | rfl | rfl <;> decide)
        have hb1_x180 : b < x178.heap.size := (id hs_x178).2.1
        have hr2_x180 : RowT (x178.alloc (.cells #[.string ⟨#[]⟩, .string ⟨#[97, 32, 98]⟩, .string ⟨#[65]⟩] 9)) R179 3 := hr2_x178.alloc _
        have hb2_x180 := hb2_x178
        clear hs_x178 hg_x178 ho_x178 hr2_x178 hb2_x178
        generalize x178.alloc (.cells #[.string ⟨#[]⟩, .string ⟨#[97, 32, 98]⟩, .string ⟨#[65]⟩] 9) = x180 at *
        generalize x178.heap.size = R181 at *
        refine wpAnyH_ready (rs := [3]) (by kernel_rfl) (by simp) ?_
        refine AllReadyH.cons rfl (fun K hK => ?_) AllReadyH.nil
        go_simp
        refine (l1Next_any B b (M + 26) 3 _ (by exact hs_x180) (by omega) (by omega) (by omega)).mono ?_
        rintro e x182 ⟨r, rfl, r0, r1, _, hs_x182, hgx⟩
        obtain ⟨j1, rfl⟩ := Int.eq_ofNat_of_zero_le r0
        have hj1 : j1 < 3 := by have := r1 (by omega); omega
        have hj1' : (j1 : Int) < 3 := by omega
        have hgy183 : x180.grownBy x182 (some b) := by first | exact gfromF hgx | exact hgx
        have hg_x182 : w.grownBy x182 (some b) := gthen hg_x180 hgy183
        have ho_x182 : OwnF x182 w.heap.size v l := ho_x180.src hgy183 hbw
        have hr2_x182 : RowT x182 R179 3 := hr2_x180.far hgy183 hb2_x180
        have hb2_x182 := hb2_x180
        have hr1_x182 : RowT x182 R181 3 := hr1_x180.far hgy183 hb1_x180
        have hb1_x182 := hb1_x180
        clear hs_x180 hg_x180 ho_x180 hr2_x180 hb2_x180 hr1_x180 hb1_x180
        clear r0 r1 hgx hgy183
        refine hK.out _ _ trivial (fun hHeld => ?_)
        clear hK K
        refine wpAnyH_take (i := 4) (v := .pointer (some ⟨R181, j1, none⟩)) rfl (by kernel_rfl) (by kernel_rfl) (by kernel_rfl) (fun _ _ _ h => h) (Or.inl ⟨by rfl, ?hy96⟩) (by assumption) ?ty96
        case hy96 => (intro w hSw; (try dsimp only at hSw); go_simp; first | (simp [hj1']; done) | (all_goals first | (with_reducible rfl) | omega))
        simp only [Act.put, List.getElem_toArray, List.getElem_cons_zero, List.getElem_cons_succ, List.setIfInBounds_toArray, List.set_cons_zero, List.set_cons_succ]
        refine wpAnyH_ready (rs := [5, 8]) (by kernel_rfl) (by simp) ?_
        refine AllReadyH.cons rfl (fun K hK => ?_) (AllReadyH.cons rfl (fun K hK => ?_) AllReadyH.nil)
        · obtain ⟨ta, hcsta, hBta, hlta⟩ := hr1_x182.2 j1 hj1
          go_simp
          refine hK.out _ _ trivial (fun hHeld => ?_)
          clear hK K
          clear hcsta
          refine wpAnyH_ready (rs := [8]) (by kernel_rfl) (by simp) ?_
          refine AllReadyH.cons rfl (fun K hK => ?_) AllReadyH.nil
          go_simp
          refine (l1Next_any B b ((M + 26) + 1) 3 _ (by exact hs_x182) (by omega) (by omega) (by omega)).mono ?_
          rintro e x184 ⟨r, rfl, r0, r1, _, hs_x184, hgx⟩
          obtain ⟨j2, rfl⟩ := Int.eq_ofNat_of_zero_le r0
          have hj2 : j2 < 3 := by have := r1 (by omega); omega
          have hj2' : (j2 : Int) < 3 := by omega
          have hgy185 : x182.grownBy x184 (some b) := by first | exact gfromF hgx | exact hgx
          have hg_x184 : w.grownBy x184 (some b) := gthen hg_x182 hgy185
          have ho_x184 : OwnF x184 w.heap.size v l := ho_x182.src hgy185 hbw
          have hr2_x184 : RowT x184 R179 3 := hr2_x182.far hgy185 hb2_x182
          have hb2_x184 := hb2_x182
          have hr1_x184 : RowT x184 R181 3 := hr1_x182.far hgy185 hb1_x182
          have hb1_x184 := hb1_x182
          clear hs_x182 hg_x182 ho_x182 hr2_x182 hb2_x182 hr1_x182 hb1_x182
          clear r0 r1 hgx hgy185
          refine hK.out _ _ trivial (fun hHeld => ?_)
          clear hK K
          refine wpAnyH_take (i := 9) (v := .pointer (some ⟨R179, j2, none⟩)) rfl (by kernel_rfl) (by kernel_rfl) (by kernel_rfl) (fun _ _ _ h => h) (Or.inl ⟨by rfl, ?hy97⟩) (by assumption) ?ty97
          case hy97 => (intro w hSw; (try dsimp only at hSw); go_simp; first | (simp [hj2']; done) | (all_goals first | (with_reducible rfl) | omega))
          simp only [Act.put, List.getElem_toArray, List.getElem_cons_zero, List.getElem_cons_succ, List.setIfInBounds_toArray, List.set_cons_zero, List.set_cons_succ]
          refine wpAnyH_ready (rs := [10]) (by kernel_rfl) (by simp) ?_
          refine AllReadyH.cons rfl (fun K hK => ?_) AllReadyH.nil
          obtain ⟨tb, hcstb, hBtb, hltb⟩ := hr2_x184.2 j2 hj2
          go_simp
          refine hK.out _ _ trivial (fun hHeld => ?_)
          clear hK K
          clear hcstb
          refine wpAnyH_take (i := 11) (v := ?_) rfl (by kernel_rfl) (by kernel_rfl) (by kernel_rfl) (fun _ _ _ h => h) (Or.inl ⟨by rfl, ?hy98⟩) (by assumption) ?ty98
          case hy98 => (intro w hSw; (try dsimp only at hSw); go_simp; all_goals with_reducible rfl)
          simp only [Act.put, List.getElem_toArray, List.getElem_cons_zero, List.getElem_cons_succ, List.setIfInBounds_toArray, List.set_cons_zero, List.set_cons_succ]
          refine wpAnyH_ready (rs := [12]) (by kernel_rfl) (by simp) ?_
          refine AllReadyH.cons rfl (fun K hK => ?_) AllReadyH.nil
          go_simp
          refine hK.out _ _ trivial (fun hHeld => ?_)
          clear hK K
          have hs_x186 : Src (x184.alloc (.cells #[.string (str ta), .string (str tb)] 35)) B b (((M + 26) + 1) + 1) := hs_x184.below ((Below.refl _ _).alloc (by have := (id hs_x184).2.1; omega) _)
          have hg_x186 : w.grownBy (x184.alloc (.cells #[.string (str ta), .string (str tb)] 35)) (some b) := gnew hg_x184 _
          have ho_x186 : OwnF (x184.alloc (.cells #[.string (str ta), .string (str tb)] 35)) w.heap.size v l := ho_x184.alloc _
          have hfc : FCell (x184.alloc (.cells #[.string (str ta), .string (str tb)] 35)) x184.heap.size (str ta) (str tb) := FCell.new x184 _ rfl _ _
          clear hs_x184 hg_x184 ho_x184
          generalize x184.alloc (.cells #[.string (str ta), .string (str tb)] 35) = x186 at *
          generalize x184.heap.size = R187 at *
          refine wpAnyH_ready (rs := [13]) (by kernel_rfl) (by simp) ?_
          refine AllReadyH.cons rfl (fun K hK => ?_) AllReadyH.nil
          refine step_appF (by rfl) _ _ (by rfl) w.heap.size v l (by rfl) ho_x186 ⟨R187, 0, none⟩ 1 1 [(str ta, str tb)] (by rfl) (by rfl) hfc.nw (by omega) hg_x186.size ?_
          intro v2 x188 ho2 hb2 _
          have hs_x188 := hs_x186.below (hb2.mono (by omega))
          have hg_x188 := glow hg_x186 hb2
          clear hs_x186 hg_x186 ho_x186 hfc hb2
          refine hK.out _ _ trivial (fun hHeld => ?_)
          clear hK K
          refine wpAnyH_take (i := 14) (v := ?_) rfl (by kernel_rfl) (by kernel_rfl) (by kernel_rfl) (fun _ _ _ h => h) (Or.inl ⟨by rfl, ?hy99⟩) (by assumption) ?ty99
          case hy99 => (intro w hSw; (try dsimp only at hSw); go_simp; all_goals with_reducible rfl)
          simp only [Act.put, List.getElem_toArray, List.getElem_cons_zero, List.getElem_cons_succ, List.setIfInBounds_toArray, List.set_cons_zero, List.set_cons_succ]
          refine wpAnyH_done (by kernel_rfl) ?_ _
          have HF : Hid (FldEnd B b (M + 29) 9 w (.returned v2) x188) := ⟨v2, _, rfl, ho2, by simp; omega, FldD.snoc hD (by omega) (by omega), hs_x188.more (by omega), hg_x188⟩
          clear ho2 hs_x188 hg_x188
          go_wp2
          go_ret
          exact HF.out
        · go_simp
          refine (l1Next_any B b ((M + 26) + 1) 3 _ (by exact hs_x182) (by omega) (by omega) (by omega)).mono ?_
          rintro e x189 ⟨r, rfl, r0, r1, _, hs_x189, hgx⟩
          obtain ⟨j2, rfl⟩ := Int.eq_ofNat_of_zero_le r0
          have hj2 : j2 < 3 := by have := r1 (by omega); omega
          have hj2' : (j2 : Int) < 3 := by omega
          have hgy190 : x182.grownBy x189 (some b) := by first | exact gfromF hgx | exact hgx
          have hg_x189 : w.grownBy x189 (some b) := gthen hg_x182 hgy190
          have ho_x189 : OwnF x189 w.heap.size v l := ho_x182.src hgy190 hbw
          have hr2_x189 : RowT x189 R179 3 := hr2_x182.far hgy190 hb2_x182
          have hb2_x189 := hb2_x182
          have hr1_x189 : RowT x189 R181 3 := hr1_x182.far hgy190 hb1_x182
          have hb1_x189 := hb1_x182
          clear hs_x182 hg_x182 ho_x182 hr2_x182 hb2_x182 hr1_x182 hb1_x182
          clear r0 r1 hgx hgy190
          refine hK.out _ _ trivial (fun hHeld => ?_)
          clear hK K
          refine wpAnyH_take (i := 9) (v := .pointer (some ⟨R179, j2, none⟩)) rfl (by kernel_rfl) (by kernel_rfl) (by kernel_rfl) (fun _ _ _ h => h) (Or.inl ⟨by rfl, ?hy100⟩) (by assumption) ?ty100
          case hy100 => (intro w hSw; (try dsimp only at hSw); go_simp; first | (simp [hj2']; done) | (all_goals first | (with_reducible rfl) | omega))
          simp only [Act.put, List.getElem_toArray, List.getElem_cons_zero, List.getElem_cons_succ, List.setIfInBounds_toArray, List.set_cons_zero, List.set_cons_succ]
          refine wpAnyH_ready (rs := [5, 10]) (by kernel_rfl) (by simp) ?_
          refine AllReadyH.cons rfl (fun K hK => ?_) (AllReadyH.cons rfl (fun K hK => ?_) AllReadyH.nil)
          · obtain ⟨ta, hcsta, hBta, hlta⟩ := hr1_x189.2 j1 hj1
            go_simp
            refine hK.out _ _ trivial (fun hHeld => ?_)
            clear hK K
            clear hcsta
            refine wpAnyH_ready (rs := [10]) (by kernel_rfl) (by simp) ?_
            refine AllReadyH.cons rfl (fun K hK => ?_) AllReadyH.nil
            obtain ⟨tb, hcstb, hBtb, hltb⟩ := hr2_x189.2 j2 hj2
            go_simp
            refine hK.out _ _ trivial (fun hHeld => ?_)
            clear hK K
            clear hcstb
            refine wpAnyH_take (i := 11) (v := ?_) rfl (by kernel_rfl) (by kernel_rfl) (by kernel_rfl) (fun _ _ _ h => h) (Or.inl ⟨by rfl, ?hy101⟩) (by assumption) ?ty101
            case hy101 => (intro w hSw; (try dsimp only at hSw); go_simp; all_goals with_reducible rfl)
            simp only [Act.put, List.getElem_toArray, List.getElem_cons_zero, List.getElem_cons_succ, List.setIfInBounds_toArray, List.set_cons_zero, List.set_cons_succ]
            refine wpAnyH_ready (rs := [12]) (by kernel_rfl) (by simp) ?_
            refine AllReadyH.cons rfl (fun K hK => ?_) AllReadyH.nil
            go_simp
            refine hK.out _ _ trivial (fun hHeld => ?_)
            clear hK K
            have hs_x191 : Src (x189.alloc (.cells #[.string (str ta), .string (str tb)] 35)) B b (((M + 26) + 1) + 1) := hs_x189.below ((Below.refl _ _).alloc (by have := (id hs_x189).2.1; omega) _)
            have hg_x191 : w.grownBy (x189.alloc (.cells #[.string (str ta), .string (str tb)] 35)) (some b) := gnew hg_x189 _
            have ho_x191 : OwnF (x189.alloc (.cells #[.string (str ta), .string (str tb)] 35)) w.heap.size v l := ho_x189.alloc _
            have hfc : FCell (x189.alloc (.cells #[.string (str ta), .string (str tb)] 35)) x189.heap.size (str ta) (str tb) := FCell.new x189 _ rfl _ _
            clear hs_x189 hg_x189 ho_x189
            generalize x189.alloc (.cells #[.string (str ta), .string (str tb)] 35) = x191 at *
            generalize x189.heap.size = R192 at *
            refine wpAnyH_ready (rs := [13]) (by kernel_rfl) (by simp) ?_
            refine AllReadyH.cons rfl (fun K hK => ?_) AllReadyH.nil
            refine step_appF (by rfl) _ _ (by rfl) w.heap.size v l (by rfl) ho_x191 ⟨R192, 0, none⟩ 1 1 [(str ta, str tb)] (by rfl) (by rfl) hfc.nw (by omega) hg_x191.size ?_
            intro v2 x193 ho2 hb2 _
            have hs_x193 := hs_x191.below (hb2.mono (by omega))
            have hg_x193 := glow hg_x191 hb2
            clear hs_x191 hg_x191 ho_x191 hfc hb2
            refine hK.out _ _ trivial (fun hHeld => ?_)
            clear hK K
            refine wpAnyH_take (i := 14) (v := ?_) rfl (by kernel_rfl) (by kernel_rfl) (by kernel_rfl) (fun _ _ _ h => h) (Or.inl ⟨by rfl, ?hy102⟩) (by assumption) ?ty102
            case hy102 => (intro w hSw; (try dsimp only at hSw); go_simp; all_goals with_reducible rfl)
            simp only [Act.put, List.getElem_toArray, List.getElem_cons_zero, List.getElem_cons_succ, List.setIfInBounds_toArray, List.set_cons_zero, List.set_cons_succ]
            refine wpAnyH_done (by kernel_rfl) ?_ _
            have HF : Hid (FldEnd B b (M + 29) 9 w (.returned v2) x193) := ⟨v2, _, rfl, ho2, by simp; omega, FldD.snoc hD (by omega) (by omega), hs_x193.more (by omega), hg_x193⟩
            clear ho2 hs_x193 hg_x193
            go_wp2
            go_ret
            exact HF.out
          · obtain ⟨tb, hcstb, hBtb, hltb⟩ := hr2_x189.2 j2 hj2
            go_simp
            refine hK.out _ _ trivial (fun hHeld => ?_)
            clear hK K
            clear hcstb
            refine wpAnyH_ready (rs := [5]) (by kernel_rfl) (by simp) ?_
            refine AllReadyH.cons rfl (fun K hK => ?_) AllReadyH.nil
            obtain ⟨ta, hcsta, hBta, hlta⟩ := hr1_x189.2 j1 hj1
            go_simp
            refine hK.out _ _ trivial (fun hHeld => ?_)
            clear hK K
            clear hcsta
            refine wpAnyH_take (i := 11) (v := ?_) rfl (by kernel_rfl) (by kernel_rfl) (by kernel_rfl) (fun _ _ _ h => h) (Or.inl ⟨by rfl, ?hy103⟩) (by assumption) ?ty103
            case hy103 => (intro w hSw; (try dsimp only at hSw); go_simp; all_goals with_reducible rfl)
            simp only [Act.put, List.getElem_toArray, List.getElem_cons_zero, List.getElem_cons_succ, List.setIfInBounds_toArray, List.set_cons_zero, List.set_cons_succ]
            refine wpAnyH_ready (rs := [12]) (by kernel_rfl) (by simp) ?_
            refine AllReadyH.cons rfl (fun K hK => ?_) AllReadyH.nil
            go_simp
            refine hK.out _ _ trivial (fun hHeld => ?_)
            clear hK K
            have hs_x194 : Src (x189.alloc (.cells #[.string (str ta), .string (str tb)] 35)) B b (((M + 26) + 1) + 1) := hs_x189.below ((Below.refl _ _).alloc (by have := (id hs_x189).2.1; omega) _)
            have hg_x194 : w.grownBy (x189.alloc (.cells #[.string (str ta), .string (str tb)] 35)) (some b) := gnew hg_x189 _
            have ho_x194 : OwnF (x189.alloc (.cells #[.string (str ta), .string (str tb)] 35)) w.heap.size v l := ho_x189.alloc _
            have hfc : FCell (x189.alloc (.cells #[.string (str ta), .string (str tb)] 35)) x189.heap.size (str ta) (str tb) := FCell.new x189 _ rfl _ _
            clear hs_x189 hg_x189 ho_x189
            generalize x189.alloc (.cells #[.string (str ta), .string (str tb)] 35) = x194 at *
            generalize x189.heap.size = R195 at *
            refine wpAnyH_ready (rs := [13]) (by kernel_rfl) (by simp) ?_
            refine AllReadyH.cons rfl (fun K hK => ?_) AllReadyH.nil
            refine step_appF (by rfl) _ _ (by rfl) w.heap.size v l (by rfl) ho_x194 ⟨R195, 0, none⟩ 1 1 [(str ta, str tb)] (by rfl) (by rfl) hfc.nw (by omega) hg_x194.size ?_
            intro v2 x196 ho2 hb2 _
            have hs_x196 := hs_x194.below (hb2.mono (by omega))
            have hg_x196 := glow hg_x194 hb2
            clear hs_x194 hg_x194 ho_x194 hfc hb2
            refine hK.out _ _ trivial (fun hHeld => ?_)
            clear hK K
            refine wpAnyH_take (i := 14) (v := ?_) rfl (by kernel_rfl) (by kernel_rfl) (by kernel_rfl) (fun _ _ _ h => h) (Or.inl ⟨by rfl, ?hy104⟩) (by assumption) ?ty104
            case hy104 => (intro w hSw; (try dsimp only at hSw); go_simp; all_goals with_reducible rfl)
            simp only [Act.put, List.getElem_toArray, List.getElem_cons_zero, List.getElem_cons_succ, List.setIfInBounds_toArray, List.set_cons_zero, List.set_cons_succ]
            refine wpAnyH_done (by kernel_rfl) ?_ _
            have HF : Hid (FldEnd B b (M + 29) 9 w (.returned v2) x196) := ⟨v2, _, rfl, ho2, by simp; omega, FldD.snoc hD (by omega) (by omega), hs_x196.more (by omega), hg_x196⟩
            clear ho2 hs_x196 hg_x196
            go_wp2
            go_ret
            exact HF.out
      · go_simp
        refine (l1Next_any B b (M + 26) 3 _ (by exact hs_x178) (by omega) (by omega) (by omega)).mono ?_
        rintro e x197 ⟨r, rfl, r0, r1, _, hs_x197, hgx⟩
        obtain ⟨j1, rfl⟩ := Int.eq_ofNat_of_zero_le r0
        have hj1 : j1 < 3 := by have := r1 (by omega); omega
        have hj1' : (j1 : Int) < 3 := by omega
        have hgy198 : x178.grownBy x197 (some b) := by first | exact gfromF hgx | exact hgx
        have hg_x197 : w.grownBy x197 (some b) := gthen hg_x178 hgy198
        have ho_x197 : OwnF x197 w.heap.size v l := ho_x178.src hgy198 hbw
        have hr2_x197 : RowT x197 R179 3 := hr2_x178.far hgy198 hb2_x178
        have hb2_x197 := hb2_x178
        clear hs_x178 hg_x178 ho_x178 hr2_x178 hb2_x178
        clear r0 r1 hgx hgy198
        refine hK.out _ _ trivial (fun hHeld => ?_)
        clear hK K
        refine wpAnyH_ready (rs := [1, 8]) (by kernel_rfl) (by simp) ?_
        refine AllReadyH.cons rfl (fun K hK => ?_) (AllReadyH.cons rfl (fun K hK => ?_) AllReadyH.nil)
        · go_simp
          refine hK.out _ _ trivial (fun hHeld => ?_)
          clear hK K
          have hs_x199 : Src (x197.alloc (.cells #[.string ⟨#[]⟩, .string ⟨#[97, 32, 98]⟩, .string ⟨#[65]⟩] 9)) B b ((M + 26) + 1) := hs_x197.below ((Below.refl _ _).alloc (by have := (id hs_x197).2.1; omega) _)
          have hg_x199 : w.grownBy (x197.alloc (.cells #[.string ⟨#[]⟩, .string ⟨#[97, 32, 98]⟩, .string ⟨#[65]⟩] 9)) (some b) := gnew hg_x197 _
          have ho_x199 : OwnF (x197.alloc (.cells #[.string ⟨#[]⟩, .string ⟨#[97, 32, 98]⟩, .string ⟨#[65]⟩] 9)) w.heap.size v l := ho_x197.alloc _
          have hr1_x199 : RowT (x197.alloc (.cells #[.string ⟨#[]⟩, .string ⟨#[97, 32, 98]⟩, .string ⟨#[65]⟩] 9)) x197.heap.size 3 := RowT.new x197 (cs := #[.string ⟨#[]⟩, .string ⟨#[97, 32, 98]⟩, .string ⟨#[65]⟩]) (ss := [⟨#[]⟩, ⟨#[97, 32, 98]⟩, ⟨#[65]⟩]) rfl (by intro s hs; simp only [List.mem_cons, List.not_mem_nil, or_false] at hs; rcases hs with rfl | rfl | rfl <;> decide)
          have hb1_x199 : b < x197.heap.size := (id hs_x197).2.1
          have hr2_x199 : RowT (x197.alloc (.cells #[.string ⟨#[]⟩, .string ⟨#[97, 32, 98]⟩, .string ⟨#[65]⟩] 9)) R179 3 := hr2_x197.alloc _
          have hb2_x199 := hb2_x197
          clear hs_x197 hg_x197 ho_x197 hr2_x197 hb2_x197
          generalize x197.alloc (.cells #[.string ⟨#[]⟩, .string ⟨#[97, 32, 98]⟩, .string ⟨#[65]⟩] 9) = x199 at *
          generalize x197.heap.size = R200 at *
          refine wpAnyH_take (i := 4) (v := .pointer (some ⟨R200, j1, none⟩)) rfl (by kernel_rfl) (by kernel_rfl) (by kernel_rfl) (fun _ _ _ h => h) (Or.inl ⟨by rfl, ?hy105⟩) (by assumption) ?ty105
          case hy105 => (intro w hSw; (try dsimp only at hSw); go_simp; first | (simp [hj1']; done) | (all_goals first | (with_reducible rfl) | omega))
          simp only [Act.put, List.getElem_toArray, List.getElem_cons_zero, List.getElem_cons_succ, List.setIfInBounds_toArray, List.set_cons_zero, List.set_cons_succ]
          refine wpAnyH_ready (rs := [5, 8]) (by kernel_rfl) (by simp) ?_
          refine AllReadyH.cons rfl (fun K hK => ?_) (AllReadyH.cons rfl (fun K hK => ?_) AllReadyH.nil)
          · obtain ⟨ta, hcsta, hBta, hlta⟩ := hr1_x199.2 j1 hj1
            go_simp
            refine hK.out _ _ trivial (fun hHeld => ?_)
            clear hK K
            clear hcsta
            refine wpAnyH_ready (rs := [8]) (by kernel_rfl) (by simp) ?_
            refine AllReadyH.cons rfl (fun K hK => ?_) AllReadyH.nil
            go_simp
            refine (l1Next_any B b ((M + 26) + 1) 3 _ (by exact hs_x199) (by omega) (by omega) (by omega)).mono ?_
            rintro e x201 ⟨r, rfl, r0, r1, _, hs_x201, hgx⟩
            obtain ⟨j2, rfl⟩ := Int.eq_ofNat_of_zero_le r0
            have hj2 : j2 < 3 := by have := r1 (by omega); omega
            have hj2' : (j2 : Int) < 3 := by omega
            have hgy202 : x199.grownBy x201 (some b) := by first | exact gfromF hgx | exact hgx
            have hg_x201 : w.grownBy x201 (some b) := gthen hg_x199 hgy202
            have ho_x201 : OwnF x201 w.heap.size v l := ho_x199.src hgy202 hbw
            have hr2_x201 : RowT x201 R179 3 := hr2_x199.far hgy202 hb2_x199
            have hb2_x201 := hb2_x199
            have hr1_x201 : RowT x201 R200 3 := hr1_x199.far hgy202 hb1_x199
            have hb1_x201 := hb1_x199
            clear hs_x199 hg_x199 ho_x199 hr2_x199 hb2_x199 hr1_x199 hb1_x199
            clear r0 r1 hgx hgy202
            refine hK.out _ _ trivial (fun hHeld => ?_)
            clear hK K
            refine wpAnyH_take (i := 9) (v := .pointer (some ⟨R179, j2, none⟩)) rfl (by kernel_rfl) (by kernel_rfl) (by kernel_rfl) (fun _ _ _ h => h) (Or.inl ⟨by rfl, ?hy106⟩) (by assumption) ?ty106
            case hy106 => (intro w hSw; (try dsimp only at hSw); go_simp; first | (simp [hj2']; done) | (all_goals first | (with_reducible rfl) | omega))
            simp only [Act.put, List.getElem_toArray, List.getElem_cons_zero, List.getElem_cons_succ, List.setIfInBounds_toArray, List.set_cons_zero, List.set_cons_succ]
            refine wpAnyH_ready (rs := [10]) (by kernel_rfl) (by simp) ?_
            refine AllReadyH.cons rfl (fun K hK => ?_) AllReadyH.nil
            obtain ⟨tb, hcstb, hBtb, hltb⟩ := hr2_x201.2 j2 hj2
            go_simp
            refine hK.out _ _ trivial (fun hHeld => ?_)
            clear hK K
            clear hcstb
            refine wpAnyH_take (i := 11) (v := ?_) rfl (by kernel_rfl) (by kernel_rfl) (by kernel_rfl) (fun _ _ _ h => h) (Or.inl ⟨by rfl, ?hy107⟩) (by assumption) ?ty107
            case hy107 => (intro w hSw; (try dsimp only at hSw); go_simp; all_goals with_reducible rfl)
            simp only [Act.put, List.getElem_toArray, List.getElem_cons_zero, List.getElem_cons_succ, List.setIfInBounds_toArray, List.set_cons_zero, List.set_cons_succ]
            refine wpAnyH_ready (rs := [12]) (by kernel_rfl) (by simp) ?_
            refine AllReadyH.cons rfl (fun K hK => ?_) AllReadyH.nil
            go_simp
            refine hK.out _ _ trivial (fun hHeld => ?_)
            clear hK K
            have hs_x203 : Src (x201.alloc (.cells #[.string (str ta), .string (str tb)] 35)) B b (((M + 26) + 1) + 1) := hs_x201.below ((Below.refl _ _).alloc (by have := (id hs_x201).2.1; omega) _)
            have hg_x203 : w.grownBy (x201.alloc (.cells #[.string (str ta), .string (str tb)] 35)) (some b) := gnew hg_x201 _
            have ho_x203 : OwnF (x201.alloc (.cells #[.string (str ta), .string (str tb)] 35)) w.heap.size v l := ho_x201.alloc _
            have hfc : FCell (x201.alloc (.cells #[.string (str ta), .string (str tb)] 35)) x201.heap.size (str ta) (str tb) := FCell.new x201 _ rfl _ _
            clear hs_x201 hg_x201 ho_x201
            generalize x201.alloc (.cells #[.string (str ta), .string (str tb)] 35) = x203 at *
            generalize x201.heap.size = R204 at *
            refine wpAnyH_ready (rs := [13]) (by kernel_rfl) (by simp) ?_
            refine AllReadyH.cons rfl (fun K hK => ?_) AllReadyH.nil
            refine step_appF (by rfl) _ _ (by rfl) w.heap.size v l (by rfl) ho_x203 ⟨R204, 0, none⟩ 1 1 [(str ta, str tb)] (by rfl) (by rfl) hfc.nw (by omega) hg_x203.size ?_
            intro v2 x205 ho2 hb2 _
            have hs_x205 := hs_x203.below (hb2.mono (by omega))
            have hg_x205 := glow hg_x203 hb2
            clear hs_x203 hg_x203 ho_x203 hfc hb2
            refine hK.out _ _ trivial (fun hHeld => ?_)
            clear hK K
            refine wpAnyH_take (i := 14) (v := ?_) rfl (by kernel_rfl) (by kernel_rfl) (by kernel_rfl) (fun _ _ _ h => h) (Or.inl ⟨by rfl, ?hy108⟩) (by assumption) ?ty108
            case hy108 => (intro w hSw; (try dsimp only at hSw); go_simp; all_goals with_reducible rfl)
            simp only [Act.put, List.getElem_toArray, List.getElem_cons_zero, List.getElem_cons_succ, List.setIfInBounds_toArray, List.set_cons_zero, List.set_cons_succ]
            refine wpAnyH_done (by kernel_rfl) ?_ _
            have HF : Hid (FldEnd B b (M + 29) 9 w (.returned v2) x205) := ⟨v2, _, rfl, ho2, by simp; omega, FldD.snoc hD (by omega) (by omega), hs_x205.more (by omega), hg_x205⟩
            clear ho2 hs_x205 hg_x205
            go_wp2
            go_ret
            exact HF.out
          · go_simp
            refine (l1Next_any B b ((M + 26) + 1) 3 _ (by exact hs_x199) (by omega) (by omega) (by omega)).mono ?_
            rintro e x206 ⟨r, rfl, r0, r1, _, hs_x206, hgx⟩
            obtain ⟨j2, rfl⟩ := Int.eq_ofNat_of_zero_le r0
            have hj2 : j2 < 3 := by have := r1 (by omega); omega
            have hj2' : (j2 : Int) < 3 := by omega
            have hgy207 : x199.grownBy x206 (some b) := by first | exact gfromF hgx | exact hgx
            have hg_x206 : w.grownBy x206 (some b) := gthen hg_x199 hgy207
            have ho_x206 : OwnF x206 w.heap.size v l := ho_x199.src hgy207 hbw
            have hr2_x206 : RowT x206 R179 3 := hr2_x199.far hgy207 hb2_x199
            have hb2_x206 := hb2_x199
            have hr1_x206 : RowT x206 R200 3 := hr1_x199.far hgy207 hb1_x199
            have hb1_x206 := hb1_x199
            clear hs_x199 hg_x199 ho_x199 hr2_x199 hb2_x199 hr1_x199 hb1_x199
            clear r0 r1 hgx hgy207
            refine hK.out _ _ trivial (fun hHeld => ?_)
            clear hK K
            refine wpAnyH_take (i := 9) (v := .pointer (some ⟨R179, j2, none⟩)) rfl (by kernel_rfl) (by kernel_rfl) (by kernel_rfl) (fun _ _ _ h => h) (Or.inl ⟨by rfl, ?hy109⟩) (by assumption) ?ty109
            case hy109 => (intro w hSw; (try dsimp only at hSw); go_simp; first | (simp [hj2']; done) | (all_goals first | (with_reducible rfl) | omega))
            simp only [Act.put, List.getElem_toArray, List.getElem_cons_zero, List.getElem_cons_succ, List.setIfInBounds_toArray, List.set_cons_zero, List.set_cons_succ]
            refine wpAnyH_ready (rs := [5, 10]) (by kernel_rfl) (by simp) ?_
            refine AllReadyH.cons rfl (fun K hK => ?_) (AllReadyH.cons rfl (fun K hK => ?_) AllReadyH.nil)
            · obtain ⟨ta, hcsta, hBta, hlta⟩ := hr1_x206.2 j1 hj1
              go_simp
              refine hK.out _ _ trivial (fun hHeld => ?_)
              clear hK K
              clear hcsta
              refine wpAnyH_ready (rs := [10]) (by kernel_rfl) (by simp) ?_
              refine AllReadyH.cons rfl (fun K hK => ?_) AllReadyH.nil
              obtain ⟨tb, hcstb, hBtb, hltb⟩ := hr2_x206.2 j2 hj2
              go_simp
              refine hK.out _ _ trivial (fun hHeld => ?_)
              clear hK K
              clear hcstb
              refine wpAnyH_take (i := 11) (v := ?_) rfl (by kernel_rfl) (by kernel_rfl) (by kernel_rfl) (fun _ _ _ h => h) (Or.inl ⟨by rfl, ?hy110⟩) (by assumption) ?ty110
              case hy110 => (intro w hSw; (try dsimp only at hSw); go_simp; all_goals with_reducible rfl)
              simp only [Act.put, List.getElem_toArray, List.getElem_cons_zero, List.getElem_cons_succ, List.setIfInBounds_toArray, List.set_cons_zero, List.set_cons_succ]
              refine wpAnyH_ready (rs := [12]) (by kernel_rfl) (by simp) ?_
              refine AllReadyH.cons rfl (fun K hK => ?_) AllReadyH.nil
              go_simp
              refine hK.out _ _ trivial (fun hHeld => ?_)
              clear hK K
              have hs_x208 : Src (x206.alloc (.cells #[.string (str ta), .string (str tb)] 35)) B b (((M + 26) + 1) + 1) := hs_x206.below ((Below.refl _ _).alloc (by have := (id hs_x206).2.1; omega) _)
              have hg_x208 : w.grownBy (x206.alloc (.cells #[.string (str ta), .string (str tb)] 35)) (some b) := gnew hg_x206 _
              have ho_x208 : OwnF (x206.alloc (.cells #[.string (str ta), .string (str tb)] 35)) w.heap.size v l := ho_x206.alloc _
              have hfc : FCell (x206.alloc (.cells #[.string (str ta), .string (str tb)] 35)) x206.heap.size (str ta) (str tb) := FCell.new x206 _ rfl _ _
              clear hs_x206 hg_x206 ho_x206
              generalize x206.alloc (.cells #[.string (str ta), .string (str tb)] 35) = x208 at *
              generalize x206.heap.size = R209 at *
              refine wpAnyH_ready (rs := [13]) (by kernel_rfl) (by simp) ?_
              refine AllReadyH.cons rfl (fun K hK => ?_) AllReadyH.nil
              refine step_appF (by rfl) _ _ (by rfl) w.heap.size v l (by rfl) ho_x208 ⟨R209, 0, none⟩ 1 1 [(str ta, str tb)] (by rfl) (by rfl) hfc.nw (by omega) hg_x208.size ?_
              intro v2 x210 ho2 hb2 _
              have hs_x210 := hs_x208.below (hb2.mono (by omega))
              have hg_x210 := glow hg_x208 hb2
              clear hs_x208 hg_x208 ho_x208 hfc hb2
              refine hK.out _ _ trivial (fun hHeld => ?_)
              clear hK K
              refine wpAnyH_take (i := 14) (v := ?_) rfl (by kernel_rfl) (by kernel_rfl) (by kernel_rfl) (fun _ _ _ h => h) (Or.inl ⟨by rfl, ?hy111⟩) (by assumption) ?ty111
              case hy111 => (intro w hSw; (try dsimp only at hSw); go_simp; all_goals with_reducible rfl)
              simp only [Act.put, List.getElem_toArray, List.getElem_cons_zero, List.getElem_cons_succ, List.setIfInBounds_toArray, List.set_cons_zero, List.set_cons_succ]
              refine wpAnyH_done (by kernel_rfl) ?_ _
              have HF : Hid (FldEnd B b (M + 29) 9 w (.returned v2) x210) := ⟨v2, _, rfl, ho2, by simp; omega, FldD.snoc hD (by omega) (by omega), hs_x210.more (by omega), hg_x210⟩
              clear ho2 hs_x210 hg_x210
              go_wp2
              go_ret
              exact HF.out
            · obtain ⟨tb, hcstb, hBtb, hltb⟩ := hr2_x206.2 j2 hj2
              go_simp
              refine hK.out _ _ trivial (fun hHeld => ?_)
              clear hK K
              clear hcstb
              refine wpAnyH_ready (rs := [5]) (by kernel_rfl) (by simp) ?_
              refine AllReadyH.cons rfl (fun K hK => ?_) AllReadyH.nil
              obtain ⟨ta, hcsta, hBta, hlta⟩ := hr1_x206.2 j1 hj1
              go_simp
              refine hK.out _ _ trivial (fun hHeld => ?_)
              clear hK K
              clear hcsta
              refine wpAnyH_take (i := 11) (v := ?_) rfl (by kernel_rfl) (by kernel_rfl) (by kernel_rfl) (fun _ _ _ h => h) (Or.inl ⟨by rfl, ?hy112⟩) (by assumption) ?ty112
              case hy112 => (intro w hSw; (try dsimp only at hSw); go_simp; all_goals with_reducible rfl)
              simp only [Act.put, List.getElem_toArray, List.getElem_cons_zero, List.getElem_cons_succ, List.setIfInBounds_toArray, List.set_cons_zero, List.set_cons_succ]
              refine wpAnyH_ready (rs := [12]) (by kernel_rfl) (by simp) ?_
              refine AllReadyH.cons rfl (fun K hK => ?_) AllReadyH.nil
              go_simp
              refine hK.out _ _ trivial (fun hHeld => ?_)
              clear hK K
              have hs_x211 : Src (x206.alloc (.cells #[.string (str ta), .string (str tb)] 35)) B b (((M + 26) + 1) + 1) := hs_x206.below ((Below.refl _ _).alloc (by have := (id hs_x206).2.1; omega) _)
              have hg_x211 : w.grownBy (x206.alloc (.cells #[.string (str ta), .string (str tb)] 35)) (some b) := gnew hg_x206 _
              have ho_x211 : OwnF (x206.alloc (.cells #[.string (str ta), .string (str tb)] 35)) w.heap.size v l := ho_x206.alloc _
              have hfc : FCell (x206.alloc (.cells #[.string (str ta), .string (str tb)] 35)) x206.heap.size (str ta) (str tb) := FCell.new x206 _ rfl _ _
              clear hs_x206 hg_x206 ho_x206
              generalize x206.alloc (.cells #[.string (str ta), .string (str tb)] 35) = x211 at *
              generalize x206.heap.size = R212 at *
              refine wpAnyH_ready (rs := [13]) (by kernel_rfl) (by simp) ?_
              refine AllReadyH.cons rfl (fun K hK => ?_) AllReadyH.nil
              refine step_appF (by rfl) _ _ (by rfl) w.heap.size v l (by rfl) ho_x211 ⟨R212, 0, none⟩ 1 1 [(str ta, str tb)] (by rfl) (by rfl) hfc.nw (by omega) hg_x211.size ?_
              intro v2 x213 ho2 hb2 _
              have hs_x213 := hs_x211.below (hb2.mono (by omega))
              have hg_x213 := glow hg_x211 hb2
              clear hs_x211 hg_x211 ho_x211 hfc hb2
              refine hK.out _ _ trivial (fun hHeld => ?_)
              clear hK K
              refine wpAnyH_take (i := 14) (v := ?_) rfl (by kernel_rfl) (by kernel_rfl) (by kernel_rfl) (fun _ _ _ h => h) (Or.inl ⟨by rfl, ?hy113⟩) (by assumption) ?ty113
              case hy113 => (intro w hSw; (try dsimp only at hSw); go_simp; all_goals with_reducible rfl)
              simp only [Act.put, List.getElem_toArray, List.getElem_cons_zero, List.getElem_cons_succ, List.setIfInBounds_toArray, List.set_cons_zero, List.set_cons_succ]
              refine wpAnyH_done (by kernel_rfl) ?_ _
              have HF : Hid (FldEnd B b (M + 29) 9 w (.returned v2) x213) := ⟨v2, _, rfl, ho2, by simp; omega, FldD.snoc hD (by omega) (by omega), hs_x213.more (by omega), hg_x213⟩
              clear ho2 hs_x213 hg_x213
              go_wp2
              go_ret
              exact HF.out
        · go_simp
          refine (l1Next_any B b ((M + 26) + 1) 3 _ (by exact hs_x197) (by omega) (by omega) (by omega)).mono ?_
          rintro e x214 ⟨r, rfl, r0, r1, _, hs_x214, hgx⟩
          obtain ⟨j2, rfl⟩ := Int.eq_ofNat_of_zero_le r0
          have hj2 : j2 < 3 := by have := r1 (by omega); omega
          have hj2' : (j2 : Int) < 3 := by omega
          have hgy215 : x197.grownBy x214 (some b) := by first | exact gfromF hgx | exact hgx
          have hg_x214 : w.grownBy x214 (some b) := gthen hg_x197 hgy215
          have ho_x214 : OwnF x214 w.heap.size v l := ho_x197.src hgy215 hbw
          have hr2_x214 : RowT x214 R179 3 := hr2_x197.far hgy215 hb2_x197
          have hb2_x214 := hb2_x197
          clear hs_x197 hg_x197 ho_x197 hr2_x197 hb2_x197
          clear r0 r1 hgx hgy215
          refine hK.out _ _ trivial (fun hHeld => ?_)
          clear hK K
          refine wpAnyH_take (i := 9) (v := .pointer (some ⟨R179, j2, none⟩)) rfl (by kernel_rfl) (by kernel_rfl) (by kernel_rfl) (fun _ _ _ h => h) (Or.inl ⟨by rfl, ?hy114⟩) (by assumption) ?ty114
          case hy114 => (intro w hSw; (try dsimp only at hSw); go_simp; first | (simp [hj2']; done) | (all_goals first | (with_reducible rfl) | omega))
          simp only [Act.put, List.getElem_toArray, List.getElem_cons_zero, List.getElem_cons_succ, List.setIfInBounds_toArray, List.set_cons_zero, List.set_cons_succ]
          refine wpAnyH_ready (rs := [1, 10]) (by kernel_rfl) (by simp) ?_
          refine AllReadyH.cons rfl (fun K hK => ?_) (AllReadyH.cons rfl (fun K hK => ?_) AllReadyH.nil)
          · go_simp
            refine hK.out _ _ trivial (fun hHeld => ?_)
            clear hK K
            have hs_x216 : Src (x214.alloc (.cells #[.string ⟨#[]⟩, .string ⟨#[97, 32, 98]⟩, .string ⟨#[65]⟩] 9)) B b (((M + 26) + 1) + 1) := hs_x214.below ((Below.refl _ _).alloc (by have := (id hs_x214).2.1; omega) _)
            have hg_x216 : w.grownBy (x214.alloc (.cells #[.string ⟨#[]⟩, .string ⟨#[97, 32, 98]⟩, .string ⟨#[65]⟩] 9)) (some b) := gnew hg_x214 _
            have ho_x216 : OwnF (x214.alloc (.cells #[.string ⟨#[]⟩, .string ⟨#[97, 32, 98]⟩, .string ⟨#[65]⟩] 9)) w.heap.size v l := ho_x214.alloc _
            have hr1_x216 : RowT (x214.alloc (.cells #[.string ⟨#[]⟩, .string ⟨#[97, 32, 98]⟩, .string ⟨#[65]⟩] 9)) x214.heap.size 3 := RowT.new x214 (cs := #[.string ⟨#[]⟩, .string ⟨#[97, 32, 98]⟩, .string ⟨#[65]⟩]) (ss := [⟨#[]⟩, ⟨#[97, 32, 98]⟩, ⟨#[65]⟩]) rfl (by intro s hs; simp only [List.mem_cons, List.not_mem_nil, or_false] at hs; rcases hs with rfl | rfl | rfl <;> decide)
            have hb1_x216 : b < x214.heap.size := (id hs_x214).2.1
            have hr2_x216 : RowT (x214.alloc (.cells #[.string ⟨#[]⟩, .string ⟨#[97, 32, 98]⟩, .string ⟨#[65]⟩] 9)) R179 3 := hr2_x214.alloc _
            have hb2_x216 := hb2_x214
            clear hs_x214 hg_x214 ho_x214 hr2_x214 hb2_x214
            generalize x214.alloc (.cells #[.string ⟨#[]⟩, .string ⟨#[97, 32, 98]⟩, .string ⟨#[65]⟩] 9) = x216 at *
            generalize x214.heap.size = R217 at *
            refine wpAnyH_take (i := 4) (v := .pointer (some ⟨R217, j1, none⟩)) rfl (by kernel_rfl) (by kernel_rfl) (by kernel_rfl) (fun _ _ _ h => h) (Or.inl ⟨by rfl, ?hy115⟩) (by assumption) ?ty115
            case hy115 => (intro w hSw; (try dsimp only at hSw); go_simp; first | (simp [hj1']; done) | (all_goals first | (with_reducible rfl) | omega))
            simp only [Act.put, List.getElem_toArray, List.getElem_cons_zero, List.getElem_cons_succ, List.setIfInBounds_toArray, List.set_cons_zero, List.set_cons_succ]
            refine wpAnyH_ready (rs := [5, 10]) (by kernel_rfl) (by simp) ?_
            refine AllReadyH.cons rfl (fun K hK => ?_) (AllReadyH.cons rfl (fun K hK => ?_) AllReadyH.nil)
            · obtain ⟨ta, hcsta, hBta, hlta⟩ := hr1_x216.2 j1 hj1
              go_simp
              refine hK.out _ _ trivial (fun hHeld => ?_)
              clear hK K
              clear hcsta
              refine wpAnyH_ready (rs := [10]) (by kernel_rfl) (by simp) ?_
              refine AllReadyH.cons rfl (fun K hK => ?_) AllReadyH.nil
              obtain ⟨tb, hcstb, hBtb, hltb⟩ := hr2_x216.2 j2 hj2
              go_simp
              refine hK.out _ _ trivial (fun hHeld => ?_)
              clear hK K
              clear hcstb
              refine wpAnyH_take (i := 11) (v := ?_) rfl (by kernel_rfl) (by kernel_rfl) (by kernel_rfl) (fun _ _ _ h => h) (Or.inl ⟨by rfl, ?hy116⟩) (by assumption) ?ty116
              case hy116 => (intro w hSw; (try dsimp only at hSw); go_simp; all_goals with_reducible rfl)
              simp only [Act.put, List.getElem_toArray, List.getElem_cons_zero, List.getElem_cons_succ, List.setIfInBounds_toArray, List.set_cons_zero, List.set_cons_succ]
              refine wpAnyH_ready (rs := [12]) (by kernel_rfl) (by simp) ?_
              refine AllReadyH.cons rfl (fun K hK => ?_) AllReadyH.nil
              go_simp
              refine hK.out _ _ trivial (fun hHeld => ?_)
              clear hK K
              have hs_x218 : Src (x216.alloc (.cells #[.string (str ta), .string (str tb)] 35)) B b (((M + 26) + 1) + 1) := hs_x216.below ((Below.refl _ _).alloc (by have := (id hs_x216).2.1; omega) _)
              have hg_x218 : w.grownBy (x216.alloc (.cells #[.string (str ta), .string (str tb)] 35)) (some b) := gnew hg_x216 _
              have ho_x218 : OwnF (x216.alloc (.cells #[.string (str ta), .string (str tb)] 35)) w.heap.size v l := ho_x216.alloc _
              have hfc : FCell (x216.alloc (.cells #[.string (str ta), .string (str tb)] 35)) x216.heap.size (str ta) (str tb) := FCell.new x216 _ rfl _ _
              clear hs_x216 hg_x216 ho_x216
              generalize x216.alloc (.cells #[.string (str ta), .string (str tb)] 35) = x218 at *
              generalize x216.heap.size = R219 at *
              refine wpAnyH_ready (rs := [13]) (by kernel_rfl) (by simp) ?_
              refine AllReadyH.cons rfl (fun K hK => ?_) AllReadyH.nil
              refine step_appF (by rfl) _ _ (by rfl) w.heap.size v l (by rfl) ho_x218 ⟨R219, 0, none⟩ 1 1 [(str ta, str tb)] (by rfl) (by rfl) hfc.nw (by omega) hg_x218.size ?_
              intro v2 x220 ho2 hb2 _
              have hs_x220 := hs_x218.below (hb2.mono (by omega))
              have hg_x220 := glow hg_x218 hb2
              clear hs_x218 hg_x218 ho_x218 hfc hb2
              refine hK.out _ _ trivial (fun hHeld => ?_)
              clear hK K
              refine wpAnyH_take (i := 14) (v := ?_) rfl (by kernel_rfl) (by kernel_rfl) (by kernel_rfl) (fun _ _ _ h => h) (Or.inl ⟨by rfl, ?hy117⟩) (by assumption) ?ty117
              case hy117 => (intro w hSw; (try dsimp only at hSw); go_simp; all_goals with_reducible rfl)
              simp only [Act.put, List.getElem_toArray, List.getElem_cons_zero, List.getElem_cons_succ, List.setIfInBounds_toArray, List.set_cons_zero, List.set_cons_succ]
              refine wpAnyH_done (by kernel_rfl) ?_ _
              have HF : Hid (FldEnd B b (M + 29) 9 w (.returned v2) x220) := ⟨v2, _, rfl, ho2, by simp; omega, FldD.snoc hD (by omega) (by omega), hs_x220.more (by omega), hg_x220⟩
              clear ho2 hs_x220 hg_x220
              go_wp2
              go_ret
              exact HF.out
            · obtain ⟨tb, hcstb, hBtb, hltb⟩ := hr2_x216.2 j2 hj2
              go_simp
              refine hK.out _ _ trivial (fun hHeld => ?_)
              clear hK K
              clear hcstb
              refine wpAnyH_ready (rs := [5]) (by kernel_rfl) (by simp) ?_
              refine AllReadyH.cons rfl (fun K hK => ?_) AllReadyH.nil
              obtain ⟨ta, hcsta, hBta, hlta⟩ := hr1_x216.2 j1 hj1
              go_simp
              refine hK.out _ _ trivial (fun hHeld => ?_)
              clear hK K
              clear hcsta
              refine wpAnyH_take (i := 11) (v := ?_) rfl (by kernel_rfl) (by kernel_rfl) (by kernel_rfl) (fun _ _ _ h => h) (Or.inl ⟨by rfl, ?hy118⟩) (by assumption) ?ty118
              case hy118 => (intro w hSw; (try dsimp only at hSw); go_simp; all_goals with_reducible rfl)
              simp only [Act.put, List.getElem_toArray, List.getElem_cons_zero, List.getElem_cons_succ, List.setIfInBounds_toArray, List.set_cons_zero, List.set_cons_succ]
              refine wpAnyH_ready (rs := [12]) (by kernel_rfl) (by simp) ?_
              refine AllReadyH.cons rfl (fun K hK => ?_) AllReadyH.nil
              go_simp
              refine hK.out _ _ trivial (fun hHeld => ?_)
              clear hK K
              have hs_x221 : Src (x216.alloc (.cells #[.string (str ta), .string (str tb)] 35)) B b (((M + 26) + 1) + 1) := hs_x216.below ((Below.refl _ _).alloc (by have := (id hs_x216).2.1; omega) _)
              have hg_x221 : w.grownBy (x216.alloc (.cells #[.string (str ta), .string (str tb)] 35)) (some b) := gnew hg_x216 _
              have ho_x221 : OwnF (x216.alloc (.cells #[.string (str ta), .string (str tb)] 35)) w.heap.size v l := ho_x216.alloc _
              have hfc : FCell (x216.alloc (.cells #[.string (str ta), .string (str tb)] 35)) x216.heap.size (str ta) (str tb) := FCell.new x216 _ rfl _ _
              clear hs_x216 hg_x216 ho_x216
              generalize x216.alloc (.cells #[.string (str ta), .string (str tb)] 35) = x221 at *
              generalize x216.heap.size = R222 at *
              refine wpAnyH_ready (rs := [13]) (by kernel_rfl) (by simp) ?_
              refine AllReadyH.cons rfl (fun K hK => ?_) AllReadyH.nil
              refine step_appF (by rfl) _ _ (by rfl) w.heap.size v l (by rfl) ho_x221 ⟨R222, 0, none⟩ 1 1 [(str ta, str tb)] (by rfl) (by rfl) hfc.nw (by omega) hg_x221.size ?_
              intro v2 x223 ho2 hb2 _
              have hs_x223 := hs_x221.below (hb2.mono (by omega))
              have hg_x223 := glow hg_x221 hb2
              clear hs_x221 hg_x221 ho_x221 hfc hb2
              refine hK.out _ _ trivial (fun hHeld => ?_)
              clear hK K
              refine wpAnyH_take (i := 14) (v := ?_) rfl (by kernel_rfl) (by kernel_rfl) (by kernel_rfl) (fun _ _ _ h => h) (Or.inl ⟨by rfl, ?hy119⟩) (by assumption) ?ty119
              case hy119 => (intro w hSw; (try dsimp only at hSw); go_simp; all_goals with_reducible rfl)
              simp only [Act.put, List.getElem_toArray, List.getElem_cons_zero, List.getElem_cons_succ, List.setIfInBounds_toArray, List.set_cons_zero, List.set_cons_succ]
              refine wpAnyH_done (by kernel_rfl) ?_ _
              have HF : Hid (FldEnd B b (M + 29) 9 w (.returned v2) x223) := ⟨v2, _, rfl, ho2, by simp; omega, FldD.snoc hD (by omega) (by omega), hs_x223.more (by omega), hg_x223⟩
              clear ho2 hs_x223 hg_x223
              go_wp2
              go_ret
              exact HF.out
          · obtain ⟨tb, hcstb, hBtb, hltb⟩ := hr2_x214.2 j2 hj2
            go_simp
            refine hK.out _ _ trivial (fun hHeld => ?_)
            clear hK K
            clear hcstb
            refine wpAnyH_ready (rs := [1]) (by kernel_rfl) (by simp) ?_
            refine AllReadyH.cons rfl (fun K hK => ?_) AllReadyH.nil
            go_simp
            refine hK.out _ _ trivial (fun hHeld => ?_)
            clear hK K
            have hs_x224 : Src (x214.alloc (.cells #[.string ⟨#[]⟩, .string ⟨#[97, 32, 98]⟩, .string ⟨#[65]⟩] 9)) B b (((M + 26) + 1) + 1) := hs_x214.below ((Below.refl _ _).alloc (by have := (id hs_x214).2.1; omega) _)
            have hg_x224 : w.grownBy (x214.alloc (.cells #[.string ⟨#[]⟩, .string ⟨#[97, 32, 98]⟩, .string ⟨#[65]⟩] 9)) (some b) := gnew hg_x214 _
            have ho_x224 : OwnF (x214.alloc (.cells #[.string ⟨#[]⟩, .string ⟨#[97, 32, 98]⟩, .string ⟨#[65]⟩] 9)) w.heap.size v l := ho_x214.alloc _
            have hr1_x224 : RowT (x214.alloc (.cells #[.string ⟨#[]⟩, .string ⟨#[97, 32, 98]⟩, .string ⟨#[65]⟩] 9)) x214.heap.size 3 := RowT.new x214 (cs := #[.string ⟨#[]⟩, .string ⟨#[97, 32, 98]⟩, .string ⟨#[65]⟩]) (ss := [⟨#[]⟩, ⟨#[97, 32, 98]⟩, ⟨#[65]⟩]) rfl (by intro s hs; simp only [List.mem_cons, List.not_mem_nil, or_false] at hs; rcases hs with rfl | rfl | rfl <;> decide)
            have hb1_x224 : b < x214.heap.size := (id hs_x214).2.1
            have hr2_x224 : RowT (x214.alloc (.cells #[.string ⟨#[]⟩, .string ⟨#[97, 32, 98]⟩, .string ⟨#[65]⟩] 9)) R179 3 := hr2_x214.alloc _
            have hb2_x224 := hb2_x214
            clear hs_x214 hg_x214 ho_x214 hr2_x214 hb2_x214
            generalize x214.alloc (.cells #[.string ⟨#[]⟩, .string ⟨#[97, 32, 98]⟩, .string ⟨#[65]⟩] 9) = x224 at *
            generalize x214.heap.size = R225 at *
            refine wpAnyH_take (i := 4) (v := .pointer (some ⟨R225, j1, none⟩)) rfl (by kernel_rfl) (by kernel_rfl) (by kernel_rfl) (fun _ _ _ h => h) (Or.inl ⟨by rfl, ?hy120⟩) (by assumption) ?ty120
            case hy120 => (intro w hSw; (try dsimp only at hSw); go_simp; first | (simp [hj1']; done) | (all_goals first | (with_reducible rfl) | omega))
            simp only [Act.put, List.getElem_toArray, List.getElem_cons_zero, List.getElem_cons_succ, List.setIfInBounds_toArray, List.set_cons_zero, List.set_cons_succ]
            refine wpAnyH_ready (rs := [5]) (by kernel_rfl) (by simp) ?_
            refine AllReadyH.cons rfl (fun K hK => ?_) AllReadyH.nil
            obtain ⟨ta, hcsta, hBta, hlta⟩ := hr1_x224.2 j1 hj1
            go_simp
            refine hK.out _ _ trivial (fun hHeld => ?_)
            clear hK K
            clear hcsta
            refine wpAnyH_take (i := 11) (v := ?_) rfl (by kernel_rfl) (by kernel_rfl) (by kernel_rfl) (fun _ _ _ h => h) (Or.inl ⟨by rfl, ?hy121⟩) (by assumption) ?ty121
            case hy121 => (intro w hSw; (try dsimp only at hSw); go_simp; all_goals with_reducible rfl)
            simp only [Act.put, List.getElem_toArray, List.getElem_cons_zero, List.getElem_cons_succ, List.setIfInBounds_toArray, List.set_cons_zero, List.set_cons_succ]
            refine wpAnyH_ready (rs := [12]) (by kernel_rfl) (by simp) ?_
            refine AllReadyH.cons rfl (fun K hK => ?_) AllReadyH.nil
            go_simp
            refine hK.out _ _ trivial (fun hHeld => ?_)
            clear hK K
            have hs_x226 : Src (x224.alloc (.cells #[.string (str ta), .string (str tb)] 35)) B b (((M + 26) + 1) + 1) := hs_x224.below ((Below.refl _ _).alloc (by have := (id hs_x224).2.1; omega) _)
            have hg_x226 : w.grownBy (x224.alloc (.cells #[.string (str ta), .string (str tb)] 35)) (some b) := gnew hg_x224 _
            have ho_x226 : OwnF (x224.alloc (.cells #[.string (str ta), .string (str tb)] 35)) w.heap.size v l := ho_x224.alloc _
            have hfc : FCell (x224.alloc (.cells #[.string (str ta), .string (str tb)] 35)) x224.heap.size (str ta) (str tb) := FCell.new x224 _ rfl _ _
            clear hs_x224 hg_x224 ho_x224
            generalize x224.alloc (.cells #[.string (str ta), .string (str tb)] 35) = x226 at *
            generalize x224.heap.size = R227 at *
            refine wpAnyH_ready (rs := [13]) (by kernel_rfl) (by simp) ?_
            refine AllReadyH.cons rfl (fun K hK => ?_) AllReadyH.nil
            refine step_appF (by rfl) _ _ (by rfl) w.heap.size v l (by rfl) ho_x226 ⟨R227, 0, none⟩ 1 1 [(str ta, str tb)] (by rfl) (by rfl) hfc.nw (by omega) hg_x226.size ?_
            intro v2 x228 ho2 hb2 _
            have hs_x228 := hs_x226.below (hb2.mono (by omega))
            have hg_x228 := glow hg_x226 hb2
            clear hs_x226 hg_x226 ho_x226 hfc hb2
            refine hK.out _ _ trivial (fun hHeld => ?_)
            clear hK K
            refine wpAnyH_take (i := 14) (v := ?_) rfl (by kernel_rfl) (by kernel_rfl) (by kernel_rfl) (fun _ _ _ h => h) (Or.inl ⟨by rfl, ?hy122⟩) (by assumption) ?ty122
            case hy122 => (intro w hSw; (try dsimp only at hSw); go_simp; all_goals with_reducible rfl)
            simp only [Act.put, List.getElem_toArray, List.getElem_cons_zero, List.getElem_cons_succ, List.setIfInBounds_toArray, List.set_cons_zero, List.set_cons_succ]
            refine wpAnyH_done (by kernel_rfl) ?_ _
            have HF : Hid (FldEnd B b (M + 29) 9 w (.returned v2) x228) := ⟨v2, _, rfl, ho2, by simp; omega, FldD.snoc hD (by omega) (by omega), hs_x228.more (by omega), hg_x228⟩
            clear ho2 hs_x228 hg_x228
            go_wp2
            go_ret
            exact HF.out
  · have e0 : (q == 0) = false := beq_eq_false_iff_ne.2 h0
    by_cases h1 : q = 1
    · subst h1
      go_wp2_with (at_make; refine wpList_make_full _ rfl _ _ 25 rfl w.heap.size 35 i0 zeroF 2 Try.underlying25 hi hz0 hz1 .i64 .i64 _ _ 9 rfl rfl rfl rfl (by rw [hz2]; omega) (by unfold maxLen; omega) hg_w2.size ?_; intro w3 hown3 hgrow3)
      have ho3 : OwnF w3 w.heap.size (.slice (some ⟨w2.heap.size, 0, none⟩) 9 9) (List.replicate 9 (ByteArray.empty, ByteArray.empty)) := by
        unfold OwnF
        rw [List.length_replicate, ← made_fields]
        exact hown3
      have hb3 : Below w2.heap.size w2 w3 := (Below.refl _ _).grown hgrow3 (Nat.le_refl _) (by intro k hk; cases hk)
      have HF : Hid (FldEnd B b (M + 29) 9 w (.returned (.slice (some ⟨w2.heap.size, 0, none⟩) 9 9)) w3) := ⟨_, _, rfl, ho3, by simp, FldD.zero 9, (hs_w2.below (hb3.mono (by have := (id hs_w2).2.1; omega))).more (by omega), glow hg_w2 (hb3.mono hg_w2.size)⟩
      clear hown3 hgrow3 ho3 hb3 hi hz0 hz1 hz2 ho_w2 hs_w2 hg_w2
      go_wp2
      go_ret
      exact HF.out
    · have e1 : (q == 1) = false := beq_eq_false_iff_ne.2 h1
      have HF : Hid (FldEnd B b (M + 29) 9 w (.returned v) w2) := ⟨v, l, rfl, ho_w2, by omega, hD, hs_w2.more (by omega), hg_w2⟩
      clear ho_w2 hs_w2 hg_w2 hi hz0 hz1 hz2
      go_wp2
      go_ret
      exact HF.out

/-- Fields that were drawn, ahead of a call. -/
def FldAns (w : World) (e : Ending) (w' : World) : Prop := ∃ (v : Value) (l : List FldP), e = .returned v ∧ OwnF w' w.heap.size v l ∧ l.length ≤ 9 ∧ FldD l ∧ Below w.heap.size w w'
set_option maxHeartbeats 1600000 in
set_option maxRecDepth 100000 in
theorem drawPackHeader_any (a : Option Addr) (n cap : Nat) (l : List Nat) (w : World) (hl : l.length = n) (hr : Rd w a l) (hB : IsB l) (hn : n ≤ 1048576) :
    Calls Try.prog 10 #[.slice a n cap] w fun e w' => FldAns w e w' := by
  go_enter Try.func10, Try.ntmps10
  go_wp2_with fail
  refine (l1Source_any a n cap l _ hl hr hB hn).mono ?_
  rintro e w1 ⟨rfl, hs1, hb⟩
  have hlt : w.heap.size < w1.heap.size := (id hs1).2.1
  go_wp2_with fail
  refine (l4Bent_any w.heap.size w.heap.size 0 _ hs1 (by omega)).mono ?_
  rintro e w2 ⟨v, l', rfl, ho, hk, hD, -, hg⟩
  have HF : Hid (FldAns w (.returned v) w2) := ⟨v, l', rfl, ho.low (by omega), hk, hD, hb.trans (gbelow hg hlt)⟩
  clear hs1 hb ho hg
  go_wp2
  go_ret
  exact HF.out
end Go.Proofs.Ytpgjichcpnjeoaa
