/- PartBytes, the program's. -/
import Derived.Test.YtkjnhcnbbojajaaGreatDoorPbyToDecQ4
import Derived.Test.YtkjnhcnbbojajaaGreatDoorVwnToVwo
import Derived.Deep.RegionHeld3
namespace Go.Proofs.YtkjnhcnbbojajaaGreatDoor
open Go.RowKit

/-- The bytes that a part tells, or a code. -/
def pbP (d : List Nat) (p : PtP) : Int × List Nat := byV (cutN d p.2.1.1.toNat p.2.1.2.toNat) p.1.2.2
/-- What PartBytes answers. -/
def pbV (d : List Nat) (k : Int) : Int × List Nat := if (pwV d k).1 = 0 then pbP d (ppV d k) else ((pwV d k).1, [])

set_option maxHeartbeats 1600000 in
set_option maxRecDepth 100000 in
theorem partBytes1_any (b m B0 B1 : Nat) (d : List Nat) (k : Int) (w : World) (hr : Rd w (some ⟨b, 0, none⟩) d) (hT : TabC w) (hTB : TabB w) (hTH : TabH w) (hMI : MaxI w) (hB : IsB d) (hl : d.length = m)
    (h0 : w.cell? ⟨B0, 0, none⟩ = some (.slice (some ⟨b, 0, none⟩) m m)) (h1 : w.cell? ⟨B1, 0, none⟩ = some (.int .i64 k)) :
    Calls Tryz.prog 95 #[.pointer (some ⟨B0, 0, none⟩), .pointer (some ⟨B1, 0, none⟩)] w (SeeB (pbV d k) w) := by
  have l0 := World.block_lt_of_cell? w ⟨B0, 0, none⟩ h0
  have l1 := World.block_lt_of_cell? w ⟨B1, 0, none⟩ h1
  dsimp only at l0 l1
  have HP := partIn_any b m d k w.drew hr hT hB hl
  have HY : Hid (∀ w', Below w.heap.size w w' → (pwV d k).1 = 0 → Calls Tryz.prog 96 #[.slice (some ⟨b, 0, none⟩) m m, ptA (ppV d k)] w' (SeeB (pbV d k) w')) := fun w' hb h => by
    obtain ⟨h4, f, t, h1, h2, h3⟩ := ppV_in h
    have e : pbV d k = byV (cutN d f t) (ppV d k).1.2.2 := by
      unfold pbV pbP
      rw [if_pos h, h1]
      simp
    rw [e]
    exact bytesOfPart_any b m d (ppV d k) f t w' (hr.below hb) hB hl (by omega) h1 h2 (by omega) (hTB.below hb) (hTH.below hb) (hMI.below hb)
  have HZ : Hid ((pwV d k).1 ≠ 0 → pbV d k = ((pwV d k).1, [])) := fun h => if_neg h
  have HQ : Hid ((pwV d k).1 = 0 → nthP (pwV d k).2 k.toNat = ppV d k) := fun h => (if_pos h).symm
  generalize pbV d k = r at *
  generalize ppV d k = q at *
  generalize pwV d k = pw at *
  unfold ptA at *
  obtain ⟨⟨p0, p1, p2⟩, ⟨p3, p4⟩, p5, p6⟩ := q
  dsimp only at HY
  go_enter Tryz.func95, Tryz.ntmps95
  go_wp2_with fail
  refine wp_region_held_drew (S := fun w' => w'.cell? ⟨B0, 0, none⟩ = some (.slice (some ⟨b, 0, none⟩) m m) ∧ w'.cell? ⟨B1, 0, none⟩ = some (.int .i64 k)) (by kernel_rfl) ?hS1 (fun hHeld => ?_)
  case hS1 => exact ⟨h0, h1⟩
  refine wpAnyH_take (i := 0) (v := ?_) rfl (by kernel_rfl) (by kernel_rfl) (by kernel_rfl) (fun _ _ _ h => h) (Or.inl ⟨by rfl, ?hy2⟩) (by assumption) ?ty2
  case hy2 => (intro w hSw; (try dsimp only at hSw); go_simp; all_goals with_reducible rfl)
  simp only [Act.put, List.getElem_toArray, List.getElem_cons_zero, List.setIfInBounds_toArray, List.set_cons_zero, List.set_cons_succ]
  refine wpAnyH_take (i := 1) (v := ?_) rfl (by kernel_rfl) (by kernel_rfl) (by kernel_rfl) (fun _ _ _ h => h) (Or.inl ⟨by rfl, ?hy3⟩) (by assumption) ?ty3
  case hy3 => (intro w hSw; (try dsimp only at hSw); go_simp; all_goals with_reducible rfl)
  simp only [Act.put, List.getElem_toArray, List.getElem_cons_zero, List.getElem_cons_succ, List.setIfInBounds_toArray, List.set_cons_zero, List.set_cons_succ]
  refine wpAnyH_take (i := 2) (v := ?_) rfl (by kernel_rfl) (by kernel_rfl) (by kernel_rfl) (fun _ _ _ h => h) (Or.inl ⟨by rfl, ?hy4⟩) (by assumption) ?ty4
  case hy4 => (intro w hSw; (try dsimp only at hSw); go_simp; all_goals with_reducible rfl)
  simp only [Act.put, List.getElem_toArray, List.getElem_cons_zero, List.getElem_cons_succ, List.setIfInBounds_toArray, List.set_cons_zero, List.set_cons_succ]
  refine wpAnyH_ready (rs := [3]) (by kernel_rfl) (by simp) ?_
  refine AllReadyH.cons rfl (fun K hK => ?_) AllReadyH.nil
  go_simp
  refine HP.mono ?_
  rintro e w1 ⟨⟨h2, he⟩ | ⟨h2, rfl⟩, hb1⟩
  · rw [HQ.out h2] at he
    subst he
    dsimp only [ptA]
    have hW : Below w.heap.size w w1 := (Below.refl _ _).drew.trans hb1
    have hsS : w1.cell? ⟨B0, 0, none⟩ = some (.slice (some ⟨b, 0, none⟩) m m) ∧ w1.cell? ⟨B1, 0, none⟩ = some (.int .i64 k) := ⟨(hW.cell (p := ⟨B0, 0, none⟩) l0).trans h0, (hW.cell (p := ⟨B1, 0, none⟩) l1).trans h1⟩
    refine hK.out _ _ hsS (fun hHeld => ?_)
    clear hK K
    refine wpAnyH_ready (rs := [4]) (by kernel_rfl) (by simp) ?_
    refine AllReadyH.cons rfl (fun K hK => ?_) AllReadyH.nil
    go_simp
    refine (HY.out _ hW h2).mono ?_
    rintro e w2 ⟨⟨h3, v, rfl, ho⟩ | ⟨h3, rfl⟩, hb2⟩
    · have hW2 := hW.trans (hb2.mono hW.size)
      have ho2 : Own w2 w.heap.size v r.2 := row_low ho hW.size
      obtain ⟨a, cp, hv, -, -⟩ := ho2.form
      subst hv
      have hsS2 : w2.cell? ⟨B0, 0, none⟩ = some (.slice (some ⟨b, 0, none⟩) m m) ∧ w2.cell? ⟨B1, 0, none⟩ = some (.int .i64 k) := ⟨(hW2.cell (p := ⟨B0, 0, none⟩) l0).trans h0, (hW2.cell (p := ⟨B1, 0, none⟩) l1).trans h1⟩
      refine hK.out _ _ hsS2 (fun hHeld => ?_)
      clear hK K
      refine wpAnyH_take (i := 5) (v := ?_) rfl (by kernel_rfl) (by kernel_rfl) (by kernel_rfl) (fun _ _ _ h => h) (Or.inl ⟨by rfl, ?hy5⟩) (by assumption) ?ty5
      case hy5 => (intro w hSw; (try dsimp only at hSw); go_simp; all_goals with_reducible rfl)
      simp only [Act.put, List.getElem_toArray, List.getElem_cons_zero, List.getElem_cons_succ, List.setIfInBounds_toArray, List.set_cons_zero, List.set_cons_succ]
      refine wpAnyH_done (by kernel_rfl) ?_ _
      clear hHeld
      go_wp2
      go_ret
      exact ⟨.inl ⟨h3, _, rfl, ho2⟩, hW2⟩
    · exact ⟨rfl, .inr ⟨h3, rfl⟩, hW.trans (hb2.mono hW.size)⟩
  · refine ⟨rfl, ?_⟩
    rw [HZ.out h2]
    exact ⟨.inr ⟨h2, rfl⟩, (Below.refl _ _).drew.trans hb1⟩
end Go.Proofs.YtkjnhcnbbojajaaGreatDoor
