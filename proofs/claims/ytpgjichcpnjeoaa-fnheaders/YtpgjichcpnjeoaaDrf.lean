/- The draws of fields: some fields, not many, none of them long; sources of at most 1048576 bytes. -/
import Derived.Test.YtpgjichcpnjeoaaDrv
import Derived.Test.YtpgjichcpnjeoaaHdr6
namespace Go.Proofs.Ytpgjichcpnjeoaa
open Go.RowKit

theorem gfromF {w w1 : World} {row : Option Nat} (h : w.drew.grownBy w1 row) : w.grownBy w1 row := ⟨h.os, h.tape, h.output, h.size, h.block⟩
theorem OwnF.src {w w' : World} {C b : Nat} {v : Value} {l : List FldP} (h : OwnF w C v l) (hg : w.grownBy w' (some b)) (hb : b < C) : OwnF w' C v l :=
  h.far hg (fun k hk e => by have := (World.ownsRow.lt h k hk).1; cases e; omega)
/-- A row of texts that was laid. -/
def RowT (w : World) (R n : Nat) : Prop := R < w.heap.size ∧ ∀ i, i < n → ∃ l : List Nat, w.cell? ⟨R, i, none⟩ = some (.string (str l)) ∧ IsB l ∧ l.length ≤ 100
theorem RowT.new (w : World) {cs : Array Value} {t : TypeId} {ss : List ByteArray} (h : cs.toList = ss.map Value.string) (hs : ∀ s ∈ ss, s.size ≤ 100) : RowT (w.alloc (.cells cs t)) w.heap.size ss.length :=
  ⟨by simp, fun i hi => row_wordV h hs i hi⟩
theorem RowT.alloc {w : World} {R n : Nat} (h : RowT w R n) (o : Obj) : RowT (w.alloc o) R n :=
  ⟨by have := h.1; simp; omega, fun i hi => by
    obtain ⟨l, h1, h2⟩ := h.2 i hi
    exact ⟨l, (((Below.refl w.heap.size w).alloc (Nat.le_refl _) o).cell (p := ⟨R, i, none⟩) h.1).trans h1, h2⟩⟩
theorem RowT.far {w w' : World} {R n b : Nat} (h : RowT w R n) (hg : w.grownBy w' (some b)) (hb : b < R) : RowT w' R n :=
  ⟨Nat.lt_of_lt_of_le h.1 hg.size, fun i hi => by
    obtain ⟨l, h1, h2⟩ := h.2 i hi
    exact ⟨l, (hg.cell_far ⟨R, i, none⟩ h.1 (by simp; omega)).trans h1, h2⟩⟩
/-- Fields that were drawn. -/
def FldD (l : List FldP) : Prop := ∀ p ∈ l, p.1.size ≤ 100 ∧ p.2.size ≤ 400
theorem FldD.fit {l : List FldP} (h : FldD l) : Fit l := fun p hp => by have := h p hp; omega
theorem FldD.snoc {l : List FldP} {x y : List Nat} (h : FldD l) (hx : x.length ≤ 100) (hy : y.length ≤ 400) : FldD (l ++ [(str x, str y)]) := fun p hp => by
  rcases List.mem_append.1 hp with hp | hp
  · exact h p hp
  · rw [List.mem_singleton] at hp
    subst hp
    simp only [str_size]
    exact ⟨hx, hy⟩
theorem FldD.nil : FldD [] := fun _ h => by simp at h
/-- How a draw of fields ends. -/
def FldEnd (B b M K : Nat) (w : World) (e : Ending) (w' : World) : Prop := ∃ (v : Value) (l : List FldP), e = .returned v ∧ OwnF w' w.heap.size v l ∧ l.length ≤ K ∧ FldD l ∧ Src w' B b M ∧ w.grownBy w' (some b)

set_option maxHeartbeats 6400000 in
set_option maxRecDepth 100000 in
theorem l4Right_any (B b M : Nat) (w : World) (hs0 : Src w B b M) (hM : M ≤ 700) :
    Calls Try.prog 27 #[.pointer (some ⟨b, 0, none⟩)] w fun e w' => FldEnd B b (M + 25) 3 w e w' := by
  obtain ⟨hBb, hbw, _⟩ := id hs0
  have hown0 : OwnF (w.alloc (.cells #[] 35)) w.heap.size (.slice (some ⟨w.heap.size, 0, none⟩) 0 0) [] := OwnF.lit0 w _ (Nat.le_refl _)
  have hg0 : w.grownBy (w.alloc (.cells #[] 35)) (some b) := World.grownBy_alloc _ _ _
  have hsA : Src (w.alloc (.cells #[] 35)) B b M := hs0.below ((Below.refl _ _).alloc (by omega) _)
  go_enter Try.func27, Try.ntmps27
  go_wp2_with fail
  refine (l1Next_any B b M 4 _ hsA (by omega) (by omega) (by omega)).mono ?_
  rintro e w1 ⟨r, rfl, r0, r1, _, hs1, hg1⟩
  obtain ⟨n, rfl⟩ := Int.eq_ofNat_of_zero_le r0
  have hn4 : n < 4 := by have := r1 (by omega); omega
  have HA : Hid (OwnF w1 w.heap.size (.slice (some ⟨w.heap.size, 0, none⟩) 0 0) [] ∧ Src w1 B b (M + 1) ∧ w.grownBy w1 (some b)) := ⟨hown0.src hg1 hbw, hs1, gthen hg0 hg1⟩
  clear hs0 hg1 hown0 hg0 hsA hs1 r1
  go_wp2
  go_loopw [3, 4] (fun v j wr => ∃ (k : Nat) (l : List FldP), k ≤ n ∧ j = .int .i64 (k : Int) ∧ OwnF wr w.heap.size v l ∧ l.length + k ≤ 3 ∧ FldD l ∧ Src wr B b (M + 1 + 8 * (3 - k)) ∧ w.grownBy wr (some b)) (fun _ j _ => (intOf j).toNat)
  case atStart => exact ⟨n, [], by omega, rfl, HA.out.1, by simp; omega, FldD.nil, HA.out.2.1.more (by omega), HA.out.2.2⟩
  case round =>
    obtain ⟨k, l, hk, rfl, hown, hlk, hD, hsr, hbel⟩ := hrel
    clear HA
    obtain ⟨av, cv, hv, -, -⟩ := hown.form
    subst hv
    by_cases hk0 : 0 < k
    · have hj : (0 : Int) < (k : Int) := by omega
      obtain ⟨Mk, hMk⟩ : ∃ Mk, M + 1 + 8 * (3 - k) = Mk := ⟨_, rfl⟩
      rw [hMk] at hsr
      have hs_wr := hsr
      have hg_wr := hbel
      have ho_wr := hown
      clear hsr hbel hown
      generalize hvv : Value.slice av l.length cv = v at *
      go_wp2_with fail
      refine wp_region_held_drew (S := fun _ => True) (by kernel_rfl) ?hS1 (fun hHeld => ?_)
      case hS1 => exact trivial
      refine wpAnyH_take (i := 0) (v := ?_) rfl (by kernel_rfl) (by kernel_rfl) (by kernel_rfl) (fun _ _ _ h => h) (Or.inl ⟨by rfl, ?hy2⟩) (by assumption) ?ty2
      case hy2 => (intro w hSw; (try dsimp only at hSw); go_simp; all_goals with_reducible rfl)
      simp only [Act.put, List.getElem_toArray, List.getElem_cons_zero, List.setIfInBounds_toArray, List.set_cons_zero, List.set_cons_succ]
      refine wpAnyH_take (i := 2) (v := ?_) rfl (by kernel_rfl) (by kernel_rfl) (by kernel_rfl) (fun _ _ _ h => h) (Or.inl ⟨by rfl, ?hy3⟩) (by assumption) ?ty3
      case hy3 => (intro w hSw; (try dsimp only at hSw); go_simp; all_goals with_reducible rfl)
      simp only [Act.put, List.getElem_toArray, List.getElem_cons_zero, List.getElem_cons_succ, List.setIfInBounds_toArray, List.set_cons_zero, List.set_cons_succ]
      refine wpAnyH_take (i := 6) (v := ?_) rfl (by kernel_rfl) (by kernel_rfl) (by kernel_rfl) (fun _ _ _ h => h) (Or.inl ⟨by rfl, ?hy4⟩) (by assumption) ?ty4
      case hy4 => (intro w hSw; (try dsimp only at hSw); go_simp; all_goals with_reducible rfl)
      simp only [Act.put, List.getElem_toArray, List.getElem_cons_zero, List.getElem_cons_succ, List.setIfInBounds_toArray, List.set_cons_zero, List.set_cons_succ]
      refine wpAnyH_ready (rs := [1, 3]) (by kernel_rfl) (by simp) ?_
      refine AllReadyH.cons rfl (fun K hK => ?_) (AllReadyH.cons rfl (fun K hK => ?_) AllReadyH.nil)
      · go_simp
        refine hK.out _ _ trivial (fun hHeld => ?_)
        clear hK K
        have hs_x1 : Src (wr.alloc (.cells #[.string ⟨#[83, 117, 98, 106, 101, 99, 116]⟩, .string ⟨#[84, 111]⟩, .string ⟨#[99, 111, 110, 116, 101, 110, 116, 45, 116, 121, 112, 101]⟩, .string ⟨#[88, 45, 49]⟩] 9)) B b Mk := hs_wr.below ((Below.refl _ _).alloc (by have := (id hs_wr).2.1; omega) _)
        have hg_x1 : w.grownBy (wr.alloc (.cells #[.string ⟨#[83, 117, 98, 106, 101, 99, 116]⟩, .string ⟨#[84, 111]⟩, .string ⟨#[99, 111, 110, 116, 101, 110, 116, 45, 116, 121, 112, 101]⟩, .string ⟨#[88, 45, 49]⟩] 9)) (some b) := gnew hg_wr _
        have ho_x1 : OwnF (wr.alloc (.cells #[.string ⟨#[83, 117, 98, 106, 101, 99, 116]⟩, .string ⟨#[84, 111]⟩, .string ⟨#[99, 111, 110, 116, 101, 110, 116, 45, 116, 121, 112, 101]⟩, .string ⟨#[88, 45, 49]⟩] 9)) w.heap.size v l := ho_wr.alloc _
        have hr1_x1 : RowT (wr.alloc (.cells #[.string ⟨#[83, 117, 98, 106, 101, 99, 116]⟩, .string ⟨#[84, 111]⟩, .string ⟨#[99, 111, 110, 116, 101, 110, 116, 45, 116, 121, 112, 101]⟩, .string ⟨#[88, 45, 49]⟩] 9)) wr.heap.size 4 := RowT.new wr (cs := #[.string ⟨#[83, 117, 98, 106, 101, 99, 116]⟩, .string ⟨#[84, 111]⟩, .string ⟨#[99, 111, 110, 116, 101, 110, 116, 45, 116, 121, 112, 101]⟩, .string ⟨#[88, 45, 49]⟩]) (ss := [⟨#[83, 117, 98, 106, 101, 99, 116]⟩, ⟨#[84, 111]⟩, ⟨#[99, 111, 110, 116, 101, 110, 116, 45, 116, 121, 112, 101]⟩, ⟨#[88, 45, 49]⟩]) rfl (by intro s hs; simp only [List.mem_cons, List.not_mem_nil, or_false] at hs; rcases hs with rfl | rfl | rfl | rfl <;> decide)
        have hb1_x1 : b < wr.heap.size := (id hs_wr).2.1
        clear hs_wr hg_wr ho_wr 
        generalize wr.alloc (.cells #[.string ⟨#[83, 117, 98, 106, 101, 99, 116]⟩, .string ⟨#[84, 111]⟩, .string ⟨#[99, 111, 110, 116, 101, 110, 116, 45, 116, 121, 112, 101]⟩, .string ⟨#[88, 45, 49]⟩] 9) = x1 at *
        generalize wr.heap.size = R2 at *
        refine wpAnyH_ready (rs := [3]) (by kernel_rfl) (by simp) ?_
        refine AllReadyH.cons rfl (fun K hK => ?_) AllReadyH.nil
        go_simp
        refine (l1Next_any B b Mk 4 _ (by exact hs_x1) (by omega) (by omega) (by omega)).mono ?_
        rintro e x3 ⟨r, rfl, r0, r1, _, hs_x3, hgx⟩
        obtain ⟨j1, rfl⟩ := Int.eq_ofNat_of_zero_le r0
        have hj1 : j1 < 4 := by have := r1 (by omega); omega
        have hj1' : (j1 : Int) < 4 := by omega
        have hgy4 : x1.grownBy x3 (some b) := by first | exact gfromF hgx | exact hgx
        have hg_x3 : w.grownBy x3 (some b) := gthen hg_x1 hgy4
        have ho_x3 : OwnF x3 w.heap.size v l := ho_x1.src hgy4 hbw
        have hr1_x3 : RowT x3 R2 4 := hr1_x1.far hgy4 hb1_x1
        have hb1_x3 := hb1_x1
        clear hs_x1 hg_x1 ho_x1 hr1_x1 hb1_x1
        clear r0 r1 hgx hgy4
        refine hK.out _ _ trivial (fun hHeld => ?_)
        clear hK K
        refine wpAnyH_take (i := 4) (v := .pointer (some ⟨R2, j1, none⟩)) rfl (by kernel_rfl) (by kernel_rfl) (by kernel_rfl) (fun _ _ _ h => h) (Or.inl ⟨by rfl, ?hy5⟩) (by assumption) ?ty5
        case hy5 => (intro w hSw; (try dsimp only at hSw); go_simp; first | (simp [hj1']; done) | (all_goals first | (with_reducible rfl) | omega))
        simp only [Act.put, List.getElem_toArray, List.getElem_cons_zero, List.getElem_cons_succ, List.setIfInBounds_toArray, List.set_cons_zero, List.set_cons_succ]
        refine wpAnyH_ready (rs := [5, 7]) (by kernel_rfl) (by simp) ?_
        refine AllReadyH.cons rfl (fun K hK => ?_) (AllReadyH.cons rfl (fun K hK => ?_) AllReadyH.nil)
        · obtain ⟨ta, hcsta, hBta, hlta⟩ := hr1_x3.2 j1 hj1
          go_simp
          refine hK.out _ _ trivial (fun hHeld => ?_)
          clear hK K
          clear hcsta
          refine wpAnyH_ready (rs := [7]) (by kernel_rfl) (by simp) ?_
          refine AllReadyH.cons rfl (fun K hK => ?_) AllReadyH.nil
          go_simp
          refine (l4DrawValue_any B b (Mk + 1) _ (by exact hs_x3) (by omega)).mono ?_
          rintro e x5 ⟨t2, rfl, hBt2, hlt2, hs_x5, hgx⟩
          have hgy6 : x3.grownBy x5 (some b) := by first | exact gfromF hgx | exact hgx
          have hg_x5 : w.grownBy x5 (some b) := gthen hg_x3 hgy6
          have ho_x5 : OwnF x5 w.heap.size v l := ho_x3.src hgy6 hbw
          have hr1_x5 : RowT x5 R2 4 := hr1_x3.far hgy6 hb1_x3
          have hb1_x5 := hb1_x3
          clear hs_x3 hg_x3 ho_x3 hr1_x3 hb1_x3
          clear hgx hgy6
          refine hK.out _ _ trivial (fun hHeld => ?_)
          clear hK K
          refine wpAnyH_take (i := 8) (v := ?_) rfl (by kernel_rfl) (by kernel_rfl) (by kernel_rfl) (fun _ _ _ h => h) (Or.inl ⟨by rfl, ?hy6⟩) (by assumption) ?ty6
          case hy6 => (intro w hSw; (try dsimp only at hSw); go_simp; all_goals with_reducible rfl)
          simp only [Act.put, List.getElem_toArray, List.getElem_cons_zero, List.getElem_cons_succ, List.setIfInBounds_toArray, List.set_cons_zero, List.set_cons_succ]
          refine wpAnyH_ready (rs := [9]) (by kernel_rfl) (by simp) ?_
          refine AllReadyH.cons rfl (fun K hK => ?_) AllReadyH.nil
          go_simp
          refine hK.out _ _ trivial (fun hHeld => ?_)
          clear hK K
          have hs_x7 : Src (x5.alloc (.cells #[.string (str ta), .string (str t2)] 35)) B b ((Mk + 1) + 7) := hs_x5.below ((Below.refl _ _).alloc (by have := (id hs_x5).2.1; omega) _)
          have hg_x7 : w.grownBy (x5.alloc (.cells #[.string (str ta), .string (str t2)] 35)) (some b) := gnew hg_x5 _
          have ho_x7 : OwnF (x5.alloc (.cells #[.string (str ta), .string (str t2)] 35)) w.heap.size v l := ho_x5.alloc _
          have hfc : FCell (x5.alloc (.cells #[.string (str ta), .string (str t2)] 35)) x5.heap.size (str ta) (str t2) := FCell.new x5 _ rfl _ _
          clear hs_x5 hg_x5 ho_x5
          generalize x5.alloc (.cells #[.string (str ta), .string (str t2)] 35) = x7 at *
          generalize x5.heap.size = R8 at *
          refine wpAnyH_ready (rs := [10]) (by kernel_rfl) (by simp) ?_
          refine AllReadyH.cons rfl (fun K hK => ?_) AllReadyH.nil
          refine step_appF (by rfl) _ _ (by rfl) w.heap.size v l (by rfl) ho_x7 ⟨R8, 0, none⟩ 1 1 [(str ta, str t2)] (by rfl) (by rfl) hfc.nw (by omega) hg_x7.size ?_
          intro v2 x9 ho2 hb2 _
          have hs_x9 := hs_x7.below (hb2.mono (by omega))
          have hg_x9 := glow hg_x7 hb2
          clear hs_x7 hg_x7 ho_x7 hfc hb2
          refine hK.out _ _ trivial (fun hHeld => ?_)
          clear hK K
          refine wpAnyH_take (i := 11) (v := ?_) rfl (by kernel_rfl) (by kernel_rfl) (by kernel_rfl) (fun _ _ _ h => h) (Or.inl ⟨by rfl, ?hy7⟩) (by assumption) ?ty7
          case hy7 => (intro w hSw; (try dsimp only at hSw); go_simp; all_goals with_reducible rfl)
          simp only [Act.put, List.getElem_toArray, List.getElem_cons_zero, List.getElem_cons_succ, List.setIfInBounds_toArray, List.set_cons_zero, List.set_cons_succ]
          refine wpAnyH_done (by kernel_rfl) ?_ _
          have HF : Hid (FldD (l ++ [(str ta, str t2)])) := FldD.snoc hD (by omega) (by omega)
          obtain ⟨a', c', rfl, -, -⟩ := ho2.form
          go_wp2
          go_roundw
          case rel => exact ⟨k - 1, l ++ [(str ta, str t2)], by omega, by go_num, ho2, by simp; omega, HF.out, hs_x9.more (by omega), hg_x9⟩
          case measure => simp [intOf]; omega
        · go_simp
          refine (l4DrawValue_any B b (Mk + 1) _ (by exact hs_x3) (by omega)).mono ?_
          rintro e x10 ⟨t2, rfl, hBt2, hlt2, hs_x10, hgx⟩
          have hgy11 : x3.grownBy x10 (some b) := by first | exact gfromF hgx | exact hgx
          have hg_x10 : w.grownBy x10 (some b) := gthen hg_x3 hgy11
          have ho_x10 : OwnF x10 w.heap.size v l := ho_x3.src hgy11 hbw
          have hr1_x10 : RowT x10 R2 4 := hr1_x3.far hgy11 hb1_x3
          have hb1_x10 := hb1_x3
          clear hs_x3 hg_x3 ho_x3 hr1_x3 hb1_x3
          clear hgx hgy11
          refine hK.out _ _ trivial (fun hHeld => ?_)
          clear hK K
          refine wpAnyH_ready (rs := [5]) (by kernel_rfl) (by simp) ?_
          refine AllReadyH.cons rfl (fun K hK => ?_) AllReadyH.nil
          obtain ⟨ta, hcsta, hBta, hlta⟩ := hr1_x10.2 j1 hj1
          go_simp
          refine hK.out _ _ trivial (fun hHeld => ?_)
          clear hK K
          clear hcsta
          refine wpAnyH_take (i := 8) (v := ?_) rfl (by kernel_rfl) (by kernel_rfl) (by kernel_rfl) (fun _ _ _ h => h) (Or.inl ⟨by rfl, ?hy8⟩) (by assumption) ?ty8
          case hy8 => (intro w hSw; (try dsimp only at hSw); go_simp; all_goals with_reducible rfl)
          simp only [Act.put, List.getElem_toArray, List.getElem_cons_zero, List.getElem_cons_succ, List.setIfInBounds_toArray, List.set_cons_zero, List.set_cons_succ]
          refine wpAnyH_ready (rs := [9]) (by kernel_rfl) (by simp) ?_
          refine AllReadyH.cons rfl (fun K hK => ?_) AllReadyH.nil
          go_simp
          refine hK.out _ _ trivial (fun hHeld => ?_)
          clear hK K
          have hs_x12 : Src (x10.alloc (.cells #[.string (str ta), .string (str t2)] 35)) B b ((Mk + 1) + 7) := hs_x10.below ((Below.refl _ _).alloc (by have := (id hs_x10).2.1; omega) _)
          have hg_x12 : w.grownBy (x10.alloc (.cells #[.string (str ta), .string (str t2)] 35)) (some b) := gnew hg_x10 _
          have ho_x12 : OwnF (x10.alloc (.cells #[.string (str ta), .string (str t2)] 35)) w.heap.size v l := ho_x10.alloc _
          have hfc : FCell (x10.alloc (.cells #[.string (str ta), .string (str t2)] 35)) x10.heap.size (str ta) (str t2) := FCell.new x10 _ rfl _ _
          clear hs_x10 hg_x10 ho_x10
          generalize x10.alloc (.cells #[.string (str ta), .string (str t2)] 35) = x12 at *
          generalize x10.heap.size = R13 at *
          refine wpAnyH_ready (rs := [10]) (by kernel_rfl) (by simp) ?_
          refine AllReadyH.cons rfl (fun K hK => ?_) AllReadyH.nil
          refine step_appF (by rfl) _ _ (by rfl) w.heap.size v l (by rfl) ho_x12 ⟨R13, 0, none⟩ 1 1 [(str ta, str t2)] (by rfl) (by rfl) hfc.nw (by omega) hg_x12.size ?_
          intro v2 x14 ho2 hb2 _
          have hs_x14 := hs_x12.below (hb2.mono (by omega))
          have hg_x14 := glow hg_x12 hb2
          clear hs_x12 hg_x12 ho_x12 hfc hb2
          refine hK.out _ _ trivial (fun hHeld => ?_)
          clear hK K
          refine wpAnyH_take (i := 11) (v := ?_) rfl (by kernel_rfl) (by kernel_rfl) (by kernel_rfl) (fun _ _ _ h => h) (Or.inl ⟨by rfl, ?hy9⟩) (by assumption) ?ty9
          case hy9 => (intro w hSw; (try dsimp only at hSw); go_simp; all_goals with_reducible rfl)
          simp only [Act.put, List.getElem_toArray, List.getElem_cons_zero, List.getElem_cons_succ, List.setIfInBounds_toArray, List.set_cons_zero, List.set_cons_succ]
          refine wpAnyH_done (by kernel_rfl) ?_ _
          have HF : Hid (FldD (l ++ [(str ta, str t2)])) := FldD.snoc hD (by omega) (by omega)
          obtain ⟨a', c', rfl, -, -⟩ := ho2.form
          go_wp2
          go_roundw
          case rel => exact ⟨k - 1, l ++ [(str ta, str t2)], by omega, by go_num, ho2, by simp; omega, HF.out, hs_x14.more (by omega), hg_x14⟩
          case measure => simp [intOf]; omega
      · go_simp
        refine (l1Next_any B b Mk 4 _ (by exact hs_wr) (by omega) (by omega) (by omega)).mono ?_
        rintro e x15 ⟨r, rfl, r0, r1, _, hs_x15, hgx⟩
        obtain ⟨j1, rfl⟩ := Int.eq_ofNat_of_zero_le r0
        have hj1 : j1 < 4 := by have := r1 (by omega); omega
        have hj1' : (j1 : Int) < 4 := by omega
        have hgy16 : wr.grownBy x15 (some b) := by first | exact gfromF hgx | exact hgx
        have hg_x15 : w.grownBy x15 (some b) := gthen hg_wr hgy16
        have ho_x15 : OwnF x15 w.heap.size v l := ho_wr.src hgy16 hbw
        clear hs_wr hg_wr ho_wr 
        clear r0 r1 hgx hgy16
        refine hK.out _ _ trivial (fun hHeld => ?_)
        clear hK K
        refine wpAnyH_ready (rs := [1, 7]) (by kernel_rfl) (by simp) ?_
        refine AllReadyH.cons rfl (fun K hK => ?_) (AllReadyH.cons rfl (fun K hK => ?_) AllReadyH.nil)
        · go_simp
          refine hK.out _ _ trivial (fun hHeld => ?_)
          clear hK K
          have hs_x17 : Src (x15.alloc (.cells #[.string ⟨#[83, 117, 98, 106, 101, 99, 116]⟩, .string ⟨#[84, 111]⟩, .string ⟨#[99, 111, 110, 116, 101, 110, 116, 45, 116, 121, 112, 101]⟩, .string ⟨#[88, 45, 49]⟩] 9)) B b (Mk + 1) := hs_x15.below ((Below.refl _ _).alloc (by have := (id hs_x15).2.1; omega) _)
          have hg_x17 : w.grownBy (x15.alloc (.cells #[.string ⟨#[83, 117, 98, 106, 101, 99, 116]⟩, .string ⟨#[84, 111]⟩, .string ⟨#[99, 111, 110, 116, 101, 110, 116, 45, 116, 121, 112, 101]⟩, .string ⟨#[88, 45, 49]⟩] 9)) (some b) := gnew hg_x15 _
          have ho_x17 : OwnF (x15.alloc (.cells #[.string ⟨#[83, 117, 98, 106, 101, 99, 116]⟩, .string ⟨#[84, 111]⟩, .string ⟨#[99, 111, 110, 116, 101, 110, 116, 45, 116, 121, 112, 101]⟩, .string ⟨#[88, 45, 49]⟩] 9)) w.heap.size v l := ho_x15.alloc _
          have hr1_x17 : RowT (x15.alloc (.cells #[.string ⟨#[83, 117, 98, 106, 101, 99, 116]⟩, .string ⟨#[84, 111]⟩, .string ⟨#[99, 111, 110, 116, 101, 110, 116, 45, 116, 121, 112, 101]⟩, .string ⟨#[88, 45, 49]⟩] 9)) x15.heap.size 4 := RowT.new x15 (cs := #[.string ⟨#[83, 117, 98, 106, 101, 99, 116]⟩, .string ⟨#[84, 111]⟩, .string ⟨#[99, 111, 110, 116, 101, 110, 116, 45, 116, 121, 112, 101]⟩, .string ⟨#[88, 45, 49]⟩]) (ss := [⟨#[83, 117, 98, 106, 101, 99, 116]⟩, ⟨#[84, 111]⟩, ⟨#[99, 111, 110, 116, 101, 110, 116, 45, 116, 121, 112, 101]⟩, ⟨#[88, 45, 49]⟩]) rfl (by intro s hs; simp only [List.mem_cons, List.not_mem_nil, or_false] at hs; rcases hs with rfl | rfl | rfl | rfl <;> decide)
          have hb1_x17 : b < x15.heap.size := (id hs_x15).2.1
          clear hs_x15 hg_x15 ho_x15 
          generalize x15.alloc (.cells #[.string ⟨#[83, 117, 98, 106, 101, 99, 116]⟩, .string ⟨#[84, 111]⟩, .string ⟨#[99, 111, 110, 116, 101, 110, 116, 45, 116, 121, 112, 101]⟩, .string ⟨#[88, 45, 49]⟩] 9) = x17 at *
          generalize x15.heap.size = R18 at *
          refine wpAnyH_take (i := 4) (v := .pointer (some ⟨R18, j1, none⟩)) rfl (by kernel_rfl) (by kernel_rfl) (by kernel_rfl) (fun _ _ _ h => h) (Or.inl ⟨by rfl, ?hy10⟩) (by assumption) ?ty10
          case hy10 => (intro w hSw; (try dsimp only at hSw); go_simp; first | (simp [hj1']; done) | (all_goals first | (with_reducible rfl) | omega))
          simp only [Act.put, List.getElem_toArray, List.getElem_cons_zero, List.getElem_cons_succ, List.setIfInBounds_toArray, List.set_cons_zero, List.set_cons_succ]
          refine wpAnyH_ready (rs := [5, 7]) (by kernel_rfl) (by simp) ?_
          refine AllReadyH.cons rfl (fun K hK => ?_) (AllReadyH.cons rfl (fun K hK => ?_) AllReadyH.nil)
          · obtain ⟨ta, hcsta, hBta, hlta⟩ := hr1_x17.2 j1 hj1
            go_simp
            refine hK.out _ _ trivial (fun hHeld => ?_)
            clear hK K
            clear hcsta
            refine wpAnyH_ready (rs := [7]) (by kernel_rfl) (by simp) ?_
            refine AllReadyH.cons rfl (fun K hK => ?_) AllReadyH.nil
            go_simp
            refine (l4DrawValue_any B b (Mk + 1) _ (by exact hs_x17) (by omega)).mono ?_
            rintro e x19 ⟨t2, rfl, hBt2, hlt2, hs_x19, hgx⟩
            have hgy20 : x17.grownBy x19 (some b) := by first | exact gfromF hgx | exact hgx
            have hg_x19 : w.grownBy x19 (some b) := gthen hg_x17 hgy20
            have ho_x19 : OwnF x19 w.heap.size v l := ho_x17.src hgy20 hbw
            have hr1_x19 : RowT x19 R18 4 := hr1_x17.far hgy20 hb1_x17
            have hb1_x19 := hb1_x17
            clear hs_x17 hg_x17 ho_x17 hr1_x17 hb1_x17
            clear hgx hgy20
            refine hK.out _ _ trivial (fun hHeld => ?_)
            clear hK K
            refine wpAnyH_take (i := 8) (v := ?_) rfl (by kernel_rfl) (by kernel_rfl) (by kernel_rfl) (fun _ _ _ h => h) (Or.inl ⟨by rfl, ?hy11⟩) (by assumption) ?ty11
            case hy11 => (intro w hSw; (try dsimp only at hSw); go_simp; all_goals with_reducible rfl)
            simp only [Act.put, List.getElem_toArray, List.getElem_cons_zero, List.getElem_cons_succ, List.setIfInBounds_toArray, List.set_cons_zero, List.set_cons_succ]
            refine wpAnyH_ready (rs := [9]) (by kernel_rfl) (by simp) ?_
            refine AllReadyH.cons rfl (fun K hK => ?_) AllReadyH.nil
            go_simp
            refine hK.out _ _ trivial (fun hHeld => ?_)
            clear hK K
            have hs_x21 : Src (x19.alloc (.cells #[.string (str ta), .string (str t2)] 35)) B b ((Mk + 1) + 7) := hs_x19.below ((Below.refl _ _).alloc (by have := (id hs_x19).2.1; omega) _)
            have hg_x21 : w.grownBy (x19.alloc (.cells #[.string (str ta), .string (str t2)] 35)) (some b) := gnew hg_x19 _
            have ho_x21 : OwnF (x19.alloc (.cells #[.string (str ta), .string (str t2)] 35)) w.heap.size v l := ho_x19.alloc _
            have hfc : FCell (x19.alloc (.cells #[.string (str ta), .string (str t2)] 35)) x19.heap.size (str ta) (str t2) := FCell.new x19 _ rfl _ _
            clear hs_x19 hg_x19 ho_x19
            generalize x19.alloc (.cells #[.string (str ta), .string (str t2)] 35) = x21 at *
            generalize x19.heap.size = R22 at *
            refine wpAnyH_ready (rs := [10]) (by kernel_rfl) (by simp) ?_
            refine AllReadyH.cons rfl (fun K hK => ?_) AllReadyH.nil
            refine step_appF (by rfl) _ _ (by rfl) w.heap.size v l (by rfl) ho_x21 ⟨R22, 0, none⟩ 1 1 [(str ta, str t2)] (by rfl) (by rfl) hfc.nw (by omega) hg_x21.size ?_
            intro v2 x23 ho2 hb2 _
            have hs_x23 := hs_x21.below (hb2.mono (by omega))
            have hg_x23 := glow hg_x21 hb2
            clear hs_x21 hg_x21 ho_x21 hfc hb2
            refine hK.out _ _ trivial (fun hHeld => ?_)
            clear hK K
            refine wpAnyH_take (i := 11) (v := ?_) rfl (by kernel_rfl) (by kernel_rfl) (by kernel_rfl) (fun _ _ _ h => h) (Or.inl ⟨by rfl, ?hy12⟩) (by assumption) ?ty12
            case hy12 => (intro w hSw; (try dsimp only at hSw); go_simp; all_goals with_reducible rfl)
            simp only [Act.put, List.getElem_toArray, List.getElem_cons_zero, List.getElem_cons_succ, List.setIfInBounds_toArray, List.set_cons_zero, List.set_cons_succ]
            refine wpAnyH_done (by kernel_rfl) ?_ _
            have HF : Hid (FldD (l ++ [(str ta, str t2)])) := FldD.snoc hD (by omega) (by omega)
            obtain ⟨a', c', rfl, -, -⟩ := ho2.form
            go_wp2
            go_roundw
            case rel => exact ⟨k - 1, l ++ [(str ta, str t2)], by omega, by go_num, ho2, by simp; omega, HF.out, hs_x23.more (by omega), hg_x23⟩
            case measure => simp [intOf]; omega
          · go_simp
            refine (l4DrawValue_any B b (Mk + 1) _ (by exact hs_x17) (by omega)).mono ?_
            rintro e x24 ⟨t2, rfl, hBt2, hlt2, hs_x24, hgx⟩
            have hgy25 : x17.grownBy x24 (some b) := by first | exact gfromF hgx | exact hgx
            have hg_x24 : w.grownBy x24 (some b) := gthen hg_x17 hgy25
            have ho_x24 : OwnF x24 w.heap.size v l := ho_x17.src hgy25 hbw
            have hr1_x24 : RowT x24 R18 4 := hr1_x17.far hgy25 hb1_x17
            have hb1_x24 := hb1_x17
            clear hs_x17 hg_x17 ho_x17 hr1_x17 hb1_x17
            clear hgx hgy25
            refine hK.out _ _ trivial (fun hHeld => ?_)
            clear hK K
            refine wpAnyH_ready (rs := [5]) (by kernel_rfl) (by simp) ?_
            refine AllReadyH.cons rfl (fun K hK => ?_) AllReadyH.nil
            obtain ⟨ta, hcsta, hBta, hlta⟩ := hr1_x24.2 j1 hj1
            go_simp
            refine hK.out _ _ trivial (fun hHeld => ?_)
            clear hK K
            clear hcsta
            refine wpAnyH_take (i := 8) (v := ?_) rfl (by kernel_rfl) (by kernel_rfl) (by kernel_rfl) (fun _ _ _ h => h) (Or.inl ⟨by rfl, ?hy13⟩) (by assumption) ?ty13
            case hy13 => (intro w hSw; (try dsimp only at hSw); go_simp; all_goals with_reducible rfl)
            simp only [Act.put, List.getElem_toArray, List.getElem_cons_zero, List.getElem_cons_succ, List.setIfInBounds_toArray, List.set_cons_zero, List.set_cons_succ]
            refine wpAnyH_ready (rs := [9]) (by kernel_rfl) (by simp) ?_
            refine AllReadyH.cons rfl (fun K hK => ?_) AllReadyH.nil
            go_simp
            refine hK.out _ _ trivial (fun hHeld => ?_)
            clear hK K
            have hs_x26 : Src (x24.alloc (.cells #[.string (str ta), .string (str t2)] 35)) B b ((Mk + 1) + 7) := hs_x24.below ((Below.refl _ _).alloc (by have := (id hs_x24).2.1; omega) _)
            have hg_x26 : w.grownBy (x24.alloc (.cells #[.string (str ta), .string (str t2)] 35)) (some b) := gnew hg_x24 _
            have ho_x26 : OwnF (x24.alloc (.cells #[.string (str ta), .string (str t2)] 35)) w.heap.size v l := ho_x24.alloc _
            have hfc : FCell (x24.alloc (.cells #[.string (str ta), .string (str t2)] 35)) x24.heap.size (str ta) (str t2) := FCell.new x24 _ rfl _ _
            clear hs_x24 hg_x24 ho_x24
            generalize x24.alloc (.cells #[.string (str ta), .string (str t2)] 35) = x26 at *
            generalize x24.heap.size = R27 at *
            refine wpAnyH_ready (rs := [10]) (by kernel_rfl) (by simp) ?_
            refine AllReadyH.cons rfl (fun K hK => ?_) AllReadyH.nil
            refine step_appF (by rfl) _ _ (by rfl) w.heap.size v l (by rfl) ho_x26 ⟨R27, 0, none⟩ 1 1 [(str ta, str t2)] (by rfl) (by rfl) hfc.nw (by omega) hg_x26.size ?_
            intro v2 x28 ho2 hb2 _
            have hs_x28 := hs_x26.below (hb2.mono (by omega))
            have hg_x28 := glow hg_x26 hb2
            clear hs_x26 hg_x26 ho_x26 hfc hb2
            refine hK.out _ _ trivial (fun hHeld => ?_)
            clear hK K
            refine wpAnyH_take (i := 11) (v := ?_) rfl (by kernel_rfl) (by kernel_rfl) (by kernel_rfl) (fun _ _ _ h => h) (Or.inl ⟨by rfl, ?hy14⟩) (by assumption) ?ty14
            case hy14 => (intro w hSw; (try dsimp only at hSw); go_simp; all_goals with_reducible rfl)
            simp only [Act.put, List.getElem_toArray, List.getElem_cons_zero, List.getElem_cons_succ, List.setIfInBounds_toArray, List.set_cons_zero, List.set_cons_succ]
            refine wpAnyH_done (by kernel_rfl) ?_ _
            have HF : Hid (FldD (l ++ [(str ta, str t2)])) := FldD.snoc hD (by omega) (by omega)
            obtain ⟨a', c', rfl, -, -⟩ := ho2.form
            go_wp2
            go_roundw
            case rel => exact ⟨k - 1, l ++ [(str ta, str t2)], by omega, by go_num, ho2, by simp; omega, HF.out, hs_x28.more (by omega), hg_x28⟩
            case measure => simp [intOf]; omega
        · go_simp
          refine (l4DrawValue_any B b (Mk + 1) _ (by exact hs_x15) (by omega)).mono ?_
          rintro e x29 ⟨t2, rfl, hBt2, hlt2, hs_x29, hgx⟩
          have hgy30 : x15.grownBy x29 (some b) := by first | exact gfromF hgx | exact hgx
          have hg_x29 : w.grownBy x29 (some b) := gthen hg_x15 hgy30
          have ho_x29 : OwnF x29 w.heap.size v l := ho_x15.src hgy30 hbw
          clear hs_x15 hg_x15 ho_x15 
          clear hgx hgy30
          refine hK.out _ _ trivial (fun hHeld => ?_)
          clear hK K
          refine wpAnyH_ready (rs := [1]) (by kernel_rfl) (by simp) ?_
          refine AllReadyH.cons rfl (fun K hK => ?_) AllReadyH.nil
          go_simp
          refine hK.out _ _ trivial (fun hHeld => ?_)
          clear hK K
          have hs_x31 : Src (x29.alloc (.cells #[.string ⟨#[83, 117, 98, 106, 101, 99, 116]⟩, .string ⟨#[84, 111]⟩, .string ⟨#[99, 111, 110, 116, 101, 110, 116, 45, 116, 121, 112, 101]⟩, .string ⟨#[88, 45, 49]⟩] 9)) B b ((Mk + 1) + 7) := hs_x29.below ((Below.refl _ _).alloc (by have := (id hs_x29).2.1; omega) _)
          have hg_x31 : w.grownBy (x29.alloc (.cells #[.string ⟨#[83, 117, 98, 106, 101, 99, 116]⟩, .string ⟨#[84, 111]⟩, .string ⟨#[99, 111, 110, 116, 101, 110, 116, 45, 116, 121, 112, 101]⟩, .string ⟨#[88, 45, 49]⟩] 9)) (some b) := gnew hg_x29 _
          have ho_x31 : OwnF (x29.alloc (.cells #[.string ⟨#[83, 117, 98, 106, 101, 99, 116]⟩, .string ⟨#[84, 111]⟩, .string ⟨#[99, 111, 110, 116, 101, 110, 116, 45, 116, 121, 112, 101]⟩, .string ⟨#[88, 45, 49]⟩] 9)) w.heap.size v l := ho_x29.alloc _
          have hr1_x31 : RowT (x29.alloc (.cells #[.string ⟨#[83, 117, 98, 106, 101, 99, 116]⟩, .string ⟨#[84, 111]⟩, .string ⟨#[99, 111, 110, 116, 101, 110, 116, 45, 116, 121, 112, 101]⟩, .string ⟨#[88, 45, 49]⟩] 9)) x29.heap.size 4 := RowT.new x29 (cs := #[.string ⟨#[83, 117, 98, 106, 101, 99, 116]⟩, .string ⟨#[84, 111]⟩, .string ⟨#[99, 111, 110, 116, 101, 110, 116, 45, 116, 121, 112, 101]⟩, .string ⟨#[88, 45, 49]⟩]) (ss := [⟨#[83, 117, 98, 106, 101, 99, 116]⟩, ⟨#[84, 111]⟩, ⟨#[99, 111, 110, 116, 101, 110, 116, 45, 116, 121, 112, 101]⟩, ⟨#[88, 45, 49]⟩]) rfl (by intro s hs; simp only [List.mem_cons, List.not_mem_nil, or_false] at hs; rcases hs with rfl | rfl | rfl | rfl <;> decide)
          have hb1_x31 : b < x29.heap.size := (id hs_x29).2.1
          clear hs_x29 hg_x29 ho_x29 
          generalize x29.alloc (.cells #[.string ⟨#[83, 117, 98, 106, 101, 99, 116]⟩, .string ⟨#[84, 111]⟩, .string ⟨#[99, 111, 110, 116, 101, 110, 116, 45, 116, 121, 112, 101]⟩, .string ⟨#[88, 45, 49]⟩] 9) = x31 at *
          generalize x29.heap.size = R32 at *
          refine wpAnyH_take (i := 4) (v := .pointer (some ⟨R32, j1, none⟩)) rfl (by kernel_rfl) (by kernel_rfl) (by kernel_rfl) (fun _ _ _ h => h) (Or.inl ⟨by rfl, ?hy15⟩) (by assumption) ?ty15
          case hy15 => (intro w hSw; (try dsimp only at hSw); go_simp; first | (simp [hj1']; done) | (all_goals first | (with_reducible rfl) | omega))
          simp only [Act.put, List.getElem_toArray, List.getElem_cons_zero, List.getElem_cons_succ, List.setIfInBounds_toArray, List.set_cons_zero, List.set_cons_succ]
          refine wpAnyH_ready (rs := [5]) (by kernel_rfl) (by simp) ?_
          refine AllReadyH.cons rfl (fun K hK => ?_) AllReadyH.nil
          obtain ⟨ta, hcsta, hBta, hlta⟩ := hr1_x31.2 j1 hj1
          go_simp
          refine hK.out _ _ trivial (fun hHeld => ?_)
          clear hK K
          clear hcsta
          refine wpAnyH_take (i := 8) (v := ?_) rfl (by kernel_rfl) (by kernel_rfl) (by kernel_rfl) (fun _ _ _ h => h) (Or.inl ⟨by rfl, ?hy16⟩) (by assumption) ?ty16
          case hy16 => (intro w hSw; (try dsimp only at hSw); go_simp; all_goals with_reducible rfl)
          simp only [Act.put, List.getElem_toArray, List.getElem_cons_zero, List.getElem_cons_succ, List.setIfInBounds_toArray, List.set_cons_zero, List.set_cons_succ]
          refine wpAnyH_ready (rs := [9]) (by kernel_rfl) (by simp) ?_
          refine AllReadyH.cons rfl (fun K hK => ?_) AllReadyH.nil
          go_simp
          refine hK.out _ _ trivial (fun hHeld => ?_)
          clear hK K
          have hs_x33 : Src (x31.alloc (.cells #[.string (str ta), .string (str t2)] 35)) B b ((Mk + 1) + 7) := hs_x31.below ((Below.refl _ _).alloc (by have := (id hs_x31).2.1; omega) _)
          have hg_x33 : w.grownBy (x31.alloc (.cells #[.string (str ta), .string (str t2)] 35)) (some b) := gnew hg_x31 _
          have ho_x33 : OwnF (x31.alloc (.cells #[.string (str ta), .string (str t2)] 35)) w.heap.size v l := ho_x31.alloc _
          have hfc : FCell (x31.alloc (.cells #[.string (str ta), .string (str t2)] 35)) x31.heap.size (str ta) (str t2) := FCell.new x31 _ rfl _ _
          clear hs_x31 hg_x31 ho_x31
          generalize x31.alloc (.cells #[.string (str ta), .string (str t2)] 35) = x33 at *
          generalize x31.heap.size = R34 at *
          refine wpAnyH_ready (rs := [10]) (by kernel_rfl) (by simp) ?_
          refine AllReadyH.cons rfl (fun K hK => ?_) AllReadyH.nil
          refine step_appF (by rfl) _ _ (by rfl) w.heap.size v l (by rfl) ho_x33 ⟨R34, 0, none⟩ 1 1 [(str ta, str t2)] (by rfl) (by rfl) hfc.nw (by omega) hg_x33.size ?_
          intro v2 x35 ho2 hb2 _
          have hs_x35 := hs_x33.below (hb2.mono (by omega))
          have hg_x35 := glow hg_x33 hb2
          clear hs_x33 hg_x33 ho_x33 hfc hb2
          refine hK.out _ _ trivial (fun hHeld => ?_)
          clear hK K
          refine wpAnyH_take (i := 11) (v := ?_) rfl (by kernel_rfl) (by kernel_rfl) (by kernel_rfl) (fun _ _ _ h => h) (Or.inl ⟨by rfl, ?hy17⟩) (by assumption) ?ty17
          case hy17 => (intro w hSw; (try dsimp only at hSw); go_simp; all_goals with_reducible rfl)
          simp only [Act.put, List.getElem_toArray, List.getElem_cons_zero, List.getElem_cons_succ, List.setIfInBounds_toArray, List.set_cons_zero, List.set_cons_succ]
          refine wpAnyH_done (by kernel_rfl) ?_ _
          have HF : Hid (FldD (l ++ [(str ta, str t2)])) := FldD.snoc hD (by omega) (by omega)
          obtain ⟨a', c', rfl, -, -⟩ := ho2.form
          go_wp2
          go_roundw
          case rel => exact ⟨k - 1, l ++ [(str ta, str t2)], by omega, by go_num, ho2, by simp; omega, HF.out, hs_x35.more (by omega), hg_x35⟩
          case measure => simp [intOf]; omega
    · have hj : ¬ (0 : Int) < (k : Int) := by omega
      go_wp2
      go_ret
      exact ⟨_, l, rfl, hown, by omega, hD, hsr.more (by omega), hbel⟩
end Go.Proofs.Ytpgjichcpnjeoaa
