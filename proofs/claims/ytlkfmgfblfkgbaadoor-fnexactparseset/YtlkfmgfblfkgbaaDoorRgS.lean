/- The laws' helpers over slices of ranges: they copy one, reckon its size, and hold two against each other. -/
import Derived.Test.YtlkfmgfblfkgbaaDoorOpnY
import Derived.Test.YtlkfmgfblfkgbaaDoorBytI
import Derived.Deep.RegionHeld3
import Derived.Handy
import Derived.Below
namespace Go.Proofs.YtlkfmgfblfkgbaaDoor
open Go.RowKit

/-- What the making of a row of n fields lays. -/
theorem made_ranges (n : Nat) : (madeCells #[Value.int .i64 0, Value.int .i64 0] (n * 2)).toList = yc (List.replicate n (0, 0)) := by
  apply List.ext_getElem?
  intro j
  by_cases hj : j < n * 2
  · have h1 : (madeCells #[Value.int .i64 0, Value.int .i64 0] (n * 2)).toList[j]? = some (.int .i64 0) := by
      have hm : j % 2 = 0 ∨ j % 2 = 1 := by omega
      rcases hm with hm | hm <;> simp [madeCells, hj, hm]
    have hi : j / 2 < (List.replicate n ((0, 0) : YgP)).length := by rw [List.length_replicate]; omega
    have hf := yc_get (List.replicate n (0, 0)) (j / 2) hi
    rw [nthY_get hi, List.getElem_replicate] at hf
    rw [h1]
    have hm : j = j / 2 * 2 ∨ j = j / 2 * 2 + 1 := by omega
    rcases hm with hm | hm
    · rw [hm]; exact hf.1.symm
    · rw [hm]; exact hf.2.symm
  · rw [List.getElem?_eq_none (by simp [madeCells]; omega), List.getElem?_eq_none (by rw [yc_len, List.length_replicate]; omega)]

/-- A copy in the making. -/
def halfY (l : List YgP) (k : Nat) : List YgP := l.take k ++ List.replicate (l.length - k) (0, 0)
theorem halfY_zero (l : List YgP) : halfY l 0 = List.replicate l.length (0, 0) := by simp [halfY]
theorem halfY_all (l : List YgP) : halfY l l.length = l := by simp [halfY]
theorem halfY_len (l : List YgP) (k : Nat) (h : k ≤ l.length) : (halfY l k).length = l.length := by simp [halfY]; omega
theorem yc_set : ∀ (l : List YgP) (k : Nat) (p : YgP), k < l.length → ((yc l).set (k * 2) (.int .i64 p.1)).set (k * 2 + 1) (.int .i64 p.2) = yc (l.set k p)
  | [], _, _, h => by simp at h
  | q :: l, 0, p, _ => rfl
  | q :: l, k + 1, p, h => by
    have := yc_set l k p (by simpa using h)
    rw [yc_cons, show (k + 1) * 2 = k * 2 + 1 + 1 by omega, List.set_cons_succ, List.set_cons_succ, List.set_cons_succ, List.set_cons_succ, this, List.set_cons_succ, yc_cons]
theorem halfY_set (l : List YgP) (k : Nat) (h : k < l.length) : (halfY l k).set k (nthY l k) = halfY l (k + 1) := by
  have e : l.length - k = (l.length - (k + 1)) + 1 := by omega
  unfold halfY
  have hk : (l.take k).length = k := by simp; omega
  rw [take_snocY l k h, List.set_append, hk, if_neg (Nat.lt_irrefl k), e, List.replicate_succ, Nat.sub_self]
  simp
set_option maxHeartbeats 800000 in
set_option maxRecDepth 100000 in
theorem eqRange_same (x y : Int) (w : World) : Calls Tryd.prog 22 #[.agg #[.int .i64 x, .int .i64 y], .agg #[.int .i64 x, .int .i64 y]] w fun e w' => e = .returned (.bool true) ∧ Below w.heap.size w w' := by
  go_enter Tryd.func22, Tryd.ntmps22
  go_wp2
  go_ret
  exact ⟨rfl, by go_grown⟩

set_option maxHeartbeats 1600000 in
set_option maxRecDepth 100000 in
theorem eqRangeS_same (a c : Option Addr) (n cap cap' : Nat) (l : List YgP) (w : World) (hl : l.length = n) (hr : RdY w a l) (hs : RdY w c l) (hn : n ≤ 1048576) :
    Calls Tryd.prog 12 #[.slice a n cap, .slice c n cap'] w fun e w' => e = .returned (.bool true) ∧ Below w.heap.size w w' := by
  go_enter Tryd.func12, Tryd.ntmps12
  go_wp2
  go_loopw [5] (fun i wr => ∃ k : Nat, k ≤ n ∧ i = .int .i64 k ∧ Below w.heap.size w wr) (fun i _ => n - (intOf i).toNat)
  case atStart => exact ⟨0, Nat.zero_le _, rfl, Below.refl _ _⟩
  case round =>
    obtain ⟨k, hk, rfl, hbel⟩ := hrel
    by_cases hkn : k < n
    · obtain ⟨b, off, rfl, hblt, hcell⟩ := hr.at_ (by omega)
      obtain ⟨d, off', rfl, hdlt, hdell⟩ := hs.at_ (by omega)
      have hc0 : wr.cell? ⟨b, off + k * 2, none⟩ = some (.int .i64 (nthY l k).1) := (hbel.cell (p := ⟨b, off + k * 2, none⟩) hblt).trans (hcell k (by omega)).1
      have hc1 : wr.cell? ⟨b, off + k * 2 + 1, none⟩ = some (.int .i64 (nthY l k).2) := (hbel.cell (p := ⟨b, off + k * 2 + 1, none⟩) hblt).trans (hcell k (by omega)).2
      have hd0 : wr.cell? ⟨d, off' + k * 2, none⟩ = some (.int .i64 (nthY l k).1) := (hbel.cell (p := ⟨d, off' + k * 2, none⟩) hdlt).trans (hdell k (by omega)).1
      have hd1 : wr.cell? ⟨d, off' + k * 2 + 1, none⟩ = some (.int .i64 (nthY l k).2) := (hbel.cell (p := ⟨d, off' + k * 2 + 1, none⟩) hdlt).trans (hdell k (by omega)).2
      have hki : (k : Int) < (n : Int) := by omega
      clear hcell hdell hr hs
      generalize nthY l k = p at *
      obtain ⟨x, y⟩ := p
      simp only at hc0 hc1 hd0 hd1
      go_wp2_with fail
      have lb : b < wr.heap.size := Nat.lt_of_lt_of_le hblt hbel.size
      have ld : d < wr.heap.size := Nat.lt_of_lt_of_le hdlt hbel.size
      refine wp_region_held_drew (S := fun w' => (w'.cell? ⟨b, off + k * 2, none⟩ = some (.int .i64 x) ∧ w'.cell? ⟨b, off + k * 2 + 1, none⟩ = some (.int .i64 y)) ∧ (w'.cell? ⟨d, off' + k * 2, none⟩ = some (.int .i64 x) ∧ w'.cell? ⟨d, off' + k * 2 + 1, none⟩ = some (.int .i64 y))) (by kernel_rfl) ?hS1 (fun hHeld => ?_)
      case hS1 => exact ⟨⟨hc0, hc1⟩, ⟨hd0, hd1⟩⟩
      refine wpAnyH_take (i := 0) (v := ?_) rfl (by kernel_rfl) (by kernel_rfl) (by kernel_rfl) (fun _ _ _ h => h) (Or.inl ⟨by rfl, ?hy2⟩) (by assumption) ?ty2
      case hy2 => (intro w hSw; (try dsimp only at hSw); go_simp; all_goals with_reducible rfl)
      simp only [Act.put, List.getElem_toArray, List.getElem_cons_zero, List.setIfInBounds_toArray, List.set_cons_zero, List.set_cons_succ]
      refine wpAnyH_take (i := 1) (v := ?_) rfl (by kernel_rfl) (by kernel_rfl) (by kernel_rfl) (fun _ _ _ h => h) (Or.inl ⟨by rfl, ?hy3⟩) (by assumption) ?ty3
      case hy3 => (intro w hSw; (try dsimp only at hSw); go_simp; all_goals with_reducible rfl)
      simp only [Act.put, List.getElem_toArray, List.getElem_cons_zero, List.getElem_cons_succ, List.setIfInBounds_toArray, List.set_cons_zero, List.set_cons_succ]
      refine wpAnyH_take (i := 2) (v := ?_) rfl (by kernel_rfl) (by kernel_rfl) (by kernel_rfl) (fun _ _ _ h => h) (Or.inl ⟨by rfl, ?hy4⟩) (by assumption) ?ty4
      case hy4 => (intro w hSw; (try dsimp only at hSw); go_simp; all_goals with_reducible rfl)
      simp only [Act.put, List.getElem_toArray, List.getElem_cons_zero, List.getElem_cons_succ, List.setIfInBounds_toArray, List.set_cons_zero, List.set_cons_succ]
      refine wpAnyH_take (i := 3) (v := ?_) rfl (by kernel_rfl) (by kernel_rfl) (by kernel_rfl) (fun _ _ _ h => h) (Or.inl ⟨by rfl, ?hy5⟩) (by assumption) ?ty5
      case hy5 => (intro w hSw; (try dsimp only at hSw); go_simp; all_goals with_reducible rfl)
      simp only [Act.put, List.getElem_toArray, List.getElem_cons_zero, List.getElem_cons_succ, List.setIfInBounds_toArray, List.set_cons_zero, List.set_cons_succ]
      refine wpAnyH_take (i := 4) (v := ?_) rfl (by kernel_rfl) (by kernel_rfl) (by kernel_rfl) (fun _ _ _ h => h) (Or.inl ⟨by rfl, ?hy6⟩) (by assumption) ?ty6
      case hy6 => (intro w hSw; (try dsimp only at hSw); go_simp; all_goals with_reducible rfl)
      simp only [Act.put, List.getElem_toArray, List.getElem_cons_zero, List.getElem_cons_succ, List.setIfInBounds_toArray, List.set_cons_zero, List.set_cons_succ]
      refine wpAnyH_take (i := 5) (v := ?_) rfl (by kernel_rfl) (by kernel_rfl) (by kernel_rfl) (fun _ _ _ h => h) (Or.inl ⟨by rfl, ?hy7⟩) (by assumption) ?ty7
      case hy7 => (intro w hSw; (try dsimp only at hSw); go_simp; all_goals with_reducible rfl)
      simp only [Act.put, List.getElem_toArray, List.getElem_cons_zero, List.getElem_cons_succ, List.setIfInBounds_toArray, List.set_cons_zero, List.set_cons_succ]
      refine wpAnyH_take (i := 6) (v := ?_) rfl (by kernel_rfl) (by kernel_rfl) (by kernel_rfl) (fun _ _ _ h => h) (Or.inl ⟨by rfl, ?hy8⟩) (by assumption) ?ty8
      case hy8 => (intro w hSw; (try dsimp only at hSw); go_simp; all_goals with_reducible rfl)
      simp only [Act.put, List.getElem_toArray, List.getElem_cons_zero, List.getElem_cons_succ, List.setIfInBounds_toArray, List.set_cons_zero, List.set_cons_succ]
      refine wpAnyH_take (i := 7) (v := ?_) rfl (by kernel_rfl) (by kernel_rfl) (by kernel_rfl) (fun _ _ _ h => h) (Or.inl ⟨by rfl, ?hy9⟩) (by assumption) ?ty9
      case hy9 => (intro w hSw; (try dsimp only at hSw); go_simp; all_goals with_reducible rfl)
      simp only [Act.put, List.getElem_toArray, List.getElem_cons_zero, List.getElem_cons_succ, List.setIfInBounds_toArray, List.set_cons_zero, List.set_cons_succ]
      refine wpAnyH_ready (rs := [8]) (by kernel_rfl) (by simp) ?_
      refine AllReadyH.cons rfl (fun K hK => ?_) AllReadyH.nil
      go_simp
      refine (eqRange_same x y _).mono ?_
      rintro e w1 ⟨rfl, hbx⟩
      have HW : Hid (Below wr.heap.size wr w1) := (Below.refl _ _).drew.trans hbx
      have hsS : (w1.cell? ⟨b, off + k * 2, none⟩ = some (.int .i64 x) ∧ w1.cell? ⟨b, off + k * 2 + 1, none⟩ = some (.int .i64 y)) ∧ (w1.cell? ⟨d, off' + k * 2, none⟩ = some (.int .i64 x) ∧ w1.cell? ⟨d, off' + k * 2 + 1, none⟩ = some (.int .i64 y)) := ⟨⟨(HW.out.cell (p := ⟨b, off + k * 2, none⟩) lb).trans hc0, (HW.out.cell (p := ⟨b, off + k * 2 + 1, none⟩) lb).trans hc1⟩, ⟨(HW.out.cell (p := ⟨d, off' + k * 2, none⟩) ld).trans hd0, (HW.out.cell (p := ⟨d, off' + k * 2 + 1, none⟩) ld).trans hd1⟩⟩
      refine hK.out _ _ hsS (fun hHeld => ?_)
      clear hK K
      refine wpAnyH_take (i := 9) (v := ?_) rfl (by kernel_rfl) (by kernel_rfl) (by kernel_rfl) (fun _ _ _ h => h) (Or.inl ⟨by rfl, ?hy10⟩) (by assumption) ?ty10
      case hy10 => (intro w hSw; (try dsimp only at hSw); go_simp; all_goals with_reducible rfl)
      simp only [Act.put, List.getElem_toArray, List.getElem_cons_zero, List.getElem_cons_succ, List.setIfInBounds_toArray, List.set_cons_zero, List.set_cons_succ]
      refine wpAnyH_done (by kernel_rfl) ?_ _
      have hbel2 := hbel.trans (HW.out.mono hbel.size)
      clear hHeld hsS hbx HW
      go_wp2
      go_roundw
      case rel => exact ⟨k + 1, by omega, by go_num, hbel2⟩
      case measure => simp [intOf]; omega
    · have hki : ¬ (k : Int) < (n : Int) := by omega
      go_wp2
      go_ret
      exact ⟨rfl, hbel⟩
end Go.Proofs.YtlkfmgfblfkgbaaDoor
