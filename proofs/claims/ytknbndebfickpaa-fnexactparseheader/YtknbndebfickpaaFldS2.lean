/- More of the laws' helpers over slices of fields: a slice's size, and whether two are the same. -/
import Derived.Test.YtknbndebfickpaaFldS
namespace Go.Proofs.Ytknbndebfickpaa
open Go.RowKit

/-- How the reckoning of a field's size ends. -/
def SzEnd (left : Int) (x y : ByteArray) (w : World) (e : Ending) (w' : World) : Prop := ∃ r : Int, e = .returned (.int .i64 r) ∧ (r = -1 ∨ 0 ≤ r ∧ r ≤ left ∧ x.size ≤ 1048576 ∧ y.size ≤ 1048576) ∧ Below w.heap.size w w'

set_option maxHeartbeats 800000 in
set_option maxRecDepth 100000 in
theorem szField_any (x y : ByteArray) (left : Int) (w : World) (h0 : 0 ≤ left) (h1 : left ≤ 1048576) (hx : x.size ≤ maxLen) (hy : y.size ≤ maxLen) :
    Calls Try.prog 48 #[.agg #[.string x, .string y], .int .i64 left] w fun e w' => SzEnd left x y w e w' := by
  unfold maxLen at hx hy
  by_cases c1 : left - (x.size : Int) < 0
  · go_enter Try.func48, Try.ntmps48
    go_wp2
    go_ret
    exact ⟨-1, rfl, .inl rfl, by go_grown⟩
  · by_cases c2 : left - (x.size : Int) - (y.size : Int) < 0
    · go_enter Try.func48, Try.ntmps48
      go_wp2
      go_ret
      exact ⟨-1, rfl, .inl rfl, by go_grown⟩
    · go_enter Try.func48, Try.ntmps48
      go_wp2
      go_ret
      exact ⟨left - (x.size : Int) - (y.size : Int), rfl, .inr ⟨by omega, by omega, by omega, by omega⟩, by go_grown⟩

/-- How the reckoning of a slice's size ends. -/
def SzsEnd (n : Nat) (l : List FldP) (w : World) (e : Ending) (w' : World) : Prop := ∃ r : Int, e = .returned (.int .i64 r) ∧ (r = -1 ∨ 0 ≤ r ∧ n ≤ 1048576 ∧ ∀ p ∈ l, p.1.size ≤ 1048576 ∧ p.2.size ≤ 1048576) ∧ Below w.heap.size w w'

set_option maxHeartbeats 1600000 in
set_option maxRecDepth 100000 in
theorem szFieldS_any (a : Option Addr) (n cap : Nat) (l : List FldP) (w : World) (h : IsFlds w a n cap l) :
    Calls Try.prog 19 #[.slice a n cap, .int .i64 1048576] w fun e w' => SzsEnd n l w e w' := by
  obtain ⟨hl, hnc, hcm, hr, hsz⟩ := h
  unfold maxLen at hcm
  by_cases hbig : 1048576 < n
  · have c1 : (1048576 : Int) - (n : Int) < 0 := by omega
    go_enter Try.func19, Try.ntmps19
    go_wp2
    go_ret
    exact ⟨-1, rfl, .inl rfl, Below.refl _ _⟩
  · have c1 : ¬ (1048576 : Int) - (n : Int) < 0 := by omega
    go_enter Try.func19, Try.ntmps19
    go_wp2
    go_loopw [1, 5] (fun q i wr => ∃ (k : Nat) (r : Int), k ≤ n ∧ i = .int .i64 k ∧ q = .int .i64 r ∧ 0 ≤ r ∧ r ≤ 1048576 ∧ (∀ p ∈ l.take k, p.1.size ≤ 1048576 ∧ p.2.size ≤ 1048576) ∧ Below w.heap.size w wr)
      (fun _ i _ => n - (intOf i).toNat)
    case atStart => exact ⟨0, _, Nat.zero_le _, rfl, rfl, by omega, by omega, fun p hp => by simp at hp, Below.refl _ _⟩
    case round =>
      obtain ⟨k, r, hk, rfl, rfl, hr0, hr1, hall, hbel⟩ := hrel
      by_cases hkn : k < n
      · obtain ⟨b, off, rfl, hblt, hcell⟩ := hr.at_ (by omega)
        have hc0 : wr.cell? ⟨b, off + k * 2, none⟩ = some (.string (nthF l k).1) := (hbel.cell (p := ⟨b, off + k * 2, none⟩) hblt).trans (hcell k (by omega)).1
        have hc1 : wr.cell? ⟨b, off + k * 2 + 1, none⟩ = some (.string (nthF l k).2) := (hbel.cell (p := ⟨b, off + k * 2 + 1, none⟩) hblt).trans (hcell k (by omega)).2
        have hmem : nthF l k ∈ l := by rw [nthF_get (by omega)]; exact List.getElem_mem _
        have hs := hsz _ hmem
        have hki : (k : Int) < (n : Int) := by omega
        have HA : Hid ((nthF l k).1.size ≤ 1048576 → (nthF l k).2.size ≤ 1048576 → ∀ p ∈ l.take (k + 1), p.1.size ≤ 1048576 ∧ p.2.size ≤ 1048576) := fun h1 h2 p hp => by
          rw [take_snocF l k (by omega)] at hp
          rcases List.mem_append.1 hp with hp | hp
          · exact hall p hp
          · rw [List.mem_singleton] at hp; subst hp; exact ⟨h1, h2⟩
        clear hcell hall hmem
        generalize nthF l k = p at *
        obtain ⟨x, y⟩ := p
        simp only at hc0 hc1 hs HA
        obtain ⟨s1, s2⟩ := hs
        go_wp2_with fail
        refine (szField_any x y r _ hr0 hr1 s1 s2).mono ?_
        rintro e w1 ⟨r', rfl, hcase, hb1⟩
        have hbel1 := hbel.trans (hb1.mono hbel.size)
        clear hb1 hbel
        rcases hcase with rfl | ⟨q0, q1, q2, q3⟩
        · go_wp2
          go_ret
          exact ⟨-1, rfl, .inl rfl, hbel1⟩
        · have hneg : ¬ r' < 0 := by omega
          have HM : Hid (_) := HA.out q2 q3
          clear HA
          go_wp2
          go_roundw
          case rel => exact ⟨k + 1, r', by omega, by go_num, by trivial, q0, by omega, HM.out, hbel1⟩
          case measure => simp [intOf]; omega
      · have hki : ¬ (k : Int) < (n : Int) := by omega
        have HM : Hid (∀ p ∈ l, p.1.size ≤ 1048576 ∧ p.2.size ≤ 1048576) := by
          show ∀ p ∈ l, _
          rw [show k = l.length by omega, List.take_length] at hall
          exact hall
        clear hall
        go_wp2
        go_ret
        exact ⟨r, rfl, .inr ⟨hr0, by omega, HM.out⟩, hbel⟩

theorem eqField_same (x y : ByteArray) (w : World) : Calls Try.prog 50 #[.agg #[.string x, .string y], .agg #[.string x, .string y]] w fun e w' => e = .returned (.bool true) ∧ Below w.heap.size w w' := by
  go_enter Try.func50, Try.ntmps50
  go_wp2
  go_ret
  exact ⟨rfl, by go_grown⟩

set_option maxHeartbeats 1600000 in
set_option maxRecDepth 100000 in
theorem eqFieldS_same (a c : Option Addr) (n cap cap' : Nat) (l : List FldP) (w : World) (hl : l.length = n) (hr : RdF w a l) (hs : RdF w c l) (hn : n ≤ 1048576) :
    Calls Try.prog 22 #[.slice a n cap, .slice c n cap'] w fun e w' => e = .returned (.bool true) ∧ Below w.heap.size w w' := by
  go_enter Try.func22, Try.ntmps22
  go_wp2
  go_loopw [5] (fun i wr => ∃ k : Nat, k ≤ n ∧ i = .int .i64 k ∧ Below w.heap.size w wr) (fun i _ => n - (intOf i).toNat)
  case atStart => exact ⟨0, Nat.zero_le _, rfl, Below.refl _ _⟩
  case round =>
    obtain ⟨k, hk, rfl, hbel⟩ := hrel
    by_cases hkn : k < n
    · obtain ⟨b, off, rfl, hblt, hcell⟩ := hr.at_ (by omega)
      obtain ⟨d, off', rfl, hdlt, hdell⟩ := hs.at_ (by omega)
      have hc0 : wr.cell? ⟨b, off + k * 2, none⟩ = some (.string (nthF l k).1) := (hbel.cell (p := ⟨b, off + k * 2, none⟩) hblt).trans (hcell k (by omega)).1
      have hc1 : wr.cell? ⟨b, off + k * 2 + 1, none⟩ = some (.string (nthF l k).2) := (hbel.cell (p := ⟨b, off + k * 2 + 1, none⟩) hblt).trans (hcell k (by omega)).2
      have hd0 : wr.cell? ⟨d, off' + k * 2, none⟩ = some (.string (nthF l k).1) := (hbel.cell (p := ⟨d, off' + k * 2, none⟩) hdlt).trans (hdell k (by omega)).1
      have hd1 : wr.cell? ⟨d, off' + k * 2 + 1, none⟩ = some (.string (nthF l k).2) := (hbel.cell (p := ⟨d, off' + k * 2 + 1, none⟩) hdlt).trans (hdell k (by omega)).2
      have hki : (k : Int) < (n : Int) := by omega
      clear hcell hdell hr hs
      generalize nthF l k = p at *
      obtain ⟨x, y⟩ := p
      simp only at hc0 hc1 hd0 hd1
      go_wp2_with fail
      have lb : b < wr.heap.size := Nat.lt_of_lt_of_le hblt hbel.size
      have ld : d < wr.heap.size := Nat.lt_of_lt_of_le hdlt hbel.size
      refine wp_region_held_drew (S := fun w' => (w'.cell? ⟨b, off + k * 2, none⟩ = some (.string x) ∧ w'.cell? ⟨b, off + k * 2 + 1, none⟩ = some (.string y)) ∧ (w'.cell? ⟨d, off' + k * 2, none⟩ = some (.string x) ∧ w'.cell? ⟨d, off' + k * 2 + 1, none⟩ = some (.string y))) (by kernel_rfl) ?hS1 (fun hHeld => ?_)
      case hS1 => exact ⟨⟨hc0, hc1⟩, ⟨hd0, hd1⟩⟩
      refine wpAnyH_take (i := 0) (v := ?_) rfl (by kernel_rfl) (by kernel_rfl) (by kernel_rfl) (fun _ _ _ h => h) (Or.inl ⟨by rfl, ?hy2⟩) (by assumption) ?ty2
      case hy2 => (intro w hSw; (try dsimp only at hSw); go_simp; all_goals with_reducible rfl)
      simp only [Act.put, List.getElem_toArray, List.getElem_cons_zero, List.setIfInBounds_toArray, List.set_cons_zero, List.set_cons_succ]
      refine wpAnyH_take (i := 1) (v := ?_) rfl (by kernel_rfl) (by kernel_rfl) (by kernel_rfl) (fun _ _ _ h => h) (Or.inl ⟨by rfl, ?hy3⟩) (by assumption) ?ty3
      case hy3 => (intro w hSw; (try dsimp only at hSw); go_simp; all_goals with_reducible rfl)
      simp only [Act.put, List.getElem_toArray, List.getElem_cons_zero, List.getElem_cons_succ, List.setIfInBounds_toArray, List.set_cons_zero, List.set_cons_succ]
      refine wpAnyH_take (i := 2) (v := ?_) rfl (by kernel_rfl) (by kernel_rfl) (by kernel_rfl) (fun _ _ _ h => h) (Or.inl ⟨by rfl, ?hy4⟩) (by assumption) ?ty4
      case hy4 => (intro w hSw; (try dsimp only at hSw); go_simp; all_goals with_reducible rfl)
      simp only [Act.put, List.getElem_toArray, List.getElem_cons_zero, List.getElem_cons_succ, List.setIfInBounds_toArray, List.set_cons_zero, List.set_cons_succ]
      refine wpAnyH_take (i := 3) (v := ?_) rfl (by kernel_rfl) (by kernel_rfl) (by kernel_rfl) (fun _ _ _ h => h) (Or.inl ⟨by rfl, ?hy5⟩) (by assumption) ?ty5
      case hy5 => (intro w hSw; (try dsimp only at hSw); go_simp; all_goals with_reducible rfl)
      simp only [Act.put, List.getElem_toArray, List.getElem_cons_zero, List.getElem_cons_succ, List.setIfInBounds_toArray, List.set_cons_zero, List.set_cons_succ]
      refine wpAnyH_take (i := 4) (v := ?_) rfl (by kernel_rfl) (by kernel_rfl) (by kernel_rfl) (fun _ _ _ h => h) (Or.inl ⟨by rfl, ?hy6⟩) (by assumption) ?ty6
      case hy6 => (intro w hSw; (try dsimp only at hSw); go_simp; all_goals with_reducible rfl)
      simp only [Act.put, List.getElem_toArray, List.getElem_cons_zero, List.getElem_cons_succ, List.setIfInBounds_toArray, List.set_cons_zero, List.set_cons_succ]
      refine wpAnyH_take (i := 5) (v := ?_) rfl (by kernel_rfl) (by kernel_rfl) (by kernel_rfl) (fun _ _ _ h => h) (Or.inl ⟨by rfl, ?hy7⟩) (by assumption) ?ty7
      case hy7 => (intro w hSw; (try dsimp only at hSw); go_simp; all_goals with_reducible rfl)
      simp only [Act.put, List.getElem_toArray, List.getElem_cons_zero, List.getElem_cons_succ, List.setIfInBounds_toArray, List.set_cons_zero, List.set_cons_succ]
      refine wpAnyH_take (i := 6) (v := ?_) rfl (by kernel_rfl) (by kernel_rfl) (by kernel_rfl) (fun _ _ _ h => h) (Or.inl ⟨by rfl, ?hy8⟩) (by assumption) ?ty8
      case hy8 => (intro w hSw; (try dsimp only at hSw); go_simp; all_goals with_reducible rfl)
      simp only [Act.put, List.getElem_toArray, List.getElem_cons_zero, List.getElem_cons_succ, List.setIfInBounds_toArray, List.set_cons_zero, List.set_cons_succ]
      refine wpAnyH_take (i := 7) (v := ?_) rfl (by kernel_rfl) (by kernel_rfl) (by kernel_rfl) (fun _ _ _ h => h) (Or.inl ⟨by rfl, ?hy9⟩) (by assumption) ?ty9
      case hy9 => (intro w hSw; (try dsimp only at hSw); go_simp; all_goals with_reducible rfl)
      simp only [Act.put, List.getElem_toArray, List.getElem_cons_zero, List.getElem_cons_succ, List.setIfInBounds_toArray, List.set_cons_zero, List.set_cons_succ]
      refine wpAnyH_ready (rs := [8]) (by kernel_rfl) (by simp) ?_
      refine AllReadyH.cons rfl (fun K hK => ?_) AllReadyH.nil
      go_simp
      refine (eqField_same x y _).mono ?_
      rintro e w1 ⟨rfl, hbx⟩
      have HW : Hid (Below wr.heap.size wr w1) := (Below.refl _ _).drew.trans hbx
      have hsS : (w1.cell? ⟨b, off + k * 2, none⟩ = some (.string x) ∧ w1.cell? ⟨b, off + k * 2 + 1, none⟩ = some (.string y)) ∧ (w1.cell? ⟨d, off' + k * 2, none⟩ = some (.string x) ∧ w1.cell? ⟨d, off' + k * 2 + 1, none⟩ = some (.string y)) := ⟨⟨(HW.out.cell (p := ⟨b, off + k * 2, none⟩) lb).trans hc0, (HW.out.cell (p := ⟨b, off + k * 2 + 1, none⟩) lb).trans hc1⟩, ⟨(HW.out.cell (p := ⟨d, off' + k * 2, none⟩) ld).trans hd0, (HW.out.cell (p := ⟨d, off' + k * 2 + 1, none⟩) ld).trans hd1⟩⟩
      refine hK.out _ _ hsS (fun hHeld => ?_)
      clear hK K
      refine wpAnyH_take (i := 9) (v := ?_) rfl (by kernel_rfl) (by kernel_rfl) (by kernel_rfl) (fun _ _ _ h => h) (Or.inl ⟨by rfl, ?hy10⟩) (by assumption) ?ty10
      case hy10 => (intro w hSw; (try dsimp only at hSw); go_simp; all_goals with_reducible rfl)
      simp only [Act.put, List.getElem_toArray, List.getElem_cons_zero, List.getElem_cons_succ, List.setIfInBounds_toArray, List.set_cons_zero, List.set_cons_succ]
      refine wpAnyH_done (by kernel_rfl) ?_ _
      have hbel2 := hbel.trans (HW.out.mono hbel.size)
      clear hHeld hsS hbx HW
      go_wp2
      go_roundw
      case rel => exact ⟨k + 1, by omega, by go_num, hbel2⟩
      case measure => simp [intOf]; omega
    · have hki : ¬ (k : Int) < (n : Int) := by omega
      go_wp2
      go_ret
      exact ⟨rfl, hbel⟩
end Go.Proofs.Ytknbndebfickpaa
