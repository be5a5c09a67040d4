/- The laws' helpers over slices of fields: they copy one, reckon its size, and hold two against each other. -/
import Derived.Test.YtknbndebfickpaaAppF
import Derived.Test.YtknbndebfickpaaOpnF
import Derived.Deep.RegionHeld3
namespace Go.Proofs.Ytknbndebfickpaa
open Go.RowKit

set_option maxHeartbeats 800000 in
set_option maxRecDepth 100000 in
theorem toField_any (x y : ByteArray) (w : World) : Calls Try.prog 49 #[.agg #[.string x, .string y]] w fun e w' => e = .returned (.agg #[.string x, .string y]) ∧ Below w.heap.size w w' := by
  go_enter Try.func49, Try.ntmps49
  go_wp2
  go_returns
  exact ⟨rfl, by go_grown⟩

set_option maxHeartbeats 1600000 in
set_option maxRecDepth 100000 in
theorem toFieldS_any (a : Option Addr) (n cap : Nat) (l : List FldP) (w : World) (hl : l.length = n) (hr : RdF w a l) (hn : n ≤ 1048576) :
    Calls Try.prog 21 #[.slice a n cap] w fun e w' =>
      e = .returned (.slice (some ⟨w.heap.size, 0, none⟩) n n) ∧ OwnF w' w.heap.size (.slice (some ⟨w.heap.size, 0, none⟩) n n) l ∧ Below w.heap.size w w' := by
  obtain ⟨i0, hi, hz0, hz1, hz2⟩ := info_parts infoF
  go_enter Try.func21, Try.ntmps21
  go_wp2_with (at_make; refine wpList_make_full _ rfl _ _ 25 rfl w.heap.size 35 i0 zeroF 2 Try.underlying25 hi hz0 hz1 .i64 .i64 _ _ n rfl rfl rfl rfl (by rw [hz2]; omega) (by unfold maxLen; omega) (Nat.le_refl _) ?_; intro w0 hown0 hgrow0)
  have hown0' : w0.ownsRow w.heap.size 35 2 (.slice (some ⟨w.heap.size, 0, none⟩) n n) n (fc (halfF l 0)) := by
    rw [halfF_zero, hl, ← made_fields]
    exact hown0
  have hbel0 : Below w.heap.size w w0 := (Below.refl _ _).grown hgrow0 (Nat.le_refl _) (by intro k hk; cases hk)
  clear hgrow0 hown0
  go_loopw [4] (fun i wr => ∃ k : Nat, k ≤ n ∧ i = .int .i64 k ∧ wr.ownsRow w.heap.size 35 2 (.slice (some ⟨w.heap.size, 0, none⟩) n n) n (fc (halfF l k)) ∧ Below w.heap.size w wr)
    (fun i _ => n - (intOf i).toNat)
  case atStart => exact ⟨0, Nat.zero_le _, rfl, hown0', hbel0⟩
  case round =>
    obtain ⟨k, hk, rfl, hown, hbel⟩ := hrel
    clear hown0' hbel0
    by_cases hkn : k < n
    · obtain ⟨b, off, rfl, hblt, hcell⟩ := hr.at_ (by omega)
      have hc0 : wr.cell? ⟨b, off + k * 2, none⟩ = some (.string (nthF l k).1) := (hbel.cell (p := ⟨b, off + k * 2, none⟩) hblt).trans (hcell k (by omega)).1
      have hc1 : wr.cell? ⟨b, off + k * 2 + 1, none⟩ = some (.string (nthF l k).2) := (hbel.cell (p := ⟨b, off + k * 2 + 1, none⟩) hblt).trans (hcell k (by omega)).2
      have hkk : k < (halfF l k).length := by rw [halfF_len l k (by omega)]; omega
      have hki : (k : Int) < (n : Int) := by omega
      have HFS : Hid (fc ((halfF l k).set k (nthF l k)) = fc (halfF l (k + 1))) := by
        show _ = _
        rw [halfF_set l k (by omega)]
      clear hcell
      generalize nthF l k = p at *
      obtain ⟨x, y⟩ := p
      simp only at hc0 hc1
      go_wp2_with fail
      refine (toField_any x y _).mono ?_
      rintro e w1 ⟨rfl, hb1⟩
      have hown1 : w1.ownsRow w.heap.size 35 2 (.slice (some ⟨w.heap.size, 0, none⟩) n n) n (fc (halfF l k)) := by
        have h := (show OwnF wr w.heap.size (.slice (some ⟨w.heap.size, 0, none⟩) n n) (halfF l k) by unfold OwnF; rw [halfF_len l k (by omega), hl]; exact hown).below hb1 (Nat.le_refl _)
        unfold OwnF at h
        rw [halfF_len l k (by omega), hl] at h
        exact h
      have hbel1 : Below w.heap.size w w1 := hbel.trans (hb1.mono hbel.size)
      have f := fc_get (halfF l k) k hkk
      have g0 : w1.cell? ⟨w.heap.size, k * 2, none⟩ = some (.string (nthF (halfF l k) k).1) := by rw [hown1.cellAt (k * 2) (by omega)]; exact f.1
      have g1 : w1.cell? ⟨w.heap.size, k * 2 + 1, none⟩ = some (.string (nthF (halfF l k) k).2) := by rw [hown1.cellAt (k * 2 + 1) (by omega)]; exact f.2
      have z0 := hown1.frozenAt (k * 2)
      have z1 := hown1.frozenAt (k * 2 + 1)
      obtain ⟨hst, hgr⟩ := hown1.stored (k * 2) (.string x)
      obtain ⟨hst2, hgr2⟩ := hst.stored (k * 2 + 1) (.string y)
      rw [fc_set (halfF l k) k (x, y) hkk] at hst2
      have HB2 : Hid (Below w.heap.size w ((w1.setCell ⟨w.heap.size, k * 2, none⟩ (.string x)).setCell ⟨w.heap.size, k * 2 + 1, none⟩ (.string y))) := (hbel1.setCell (by simp) _).setCell (by simp) _
      have HO2 : Hid (((w1.setCell ⟨w.heap.size, k * 2, none⟩ (.string x)).setCell ⟨w.heap.size, k * 2 + 1, none⟩ (.string y)).ownsRow w.heap.size 35 2 (.slice (some ⟨w.heap.size, 0, none⟩) n n) n (fc (halfF l (k + 1)))) := by
        rw [← HFS.out]; exact hst2
      generalize (nthF (halfF l k) k).1 = p0 at *
      generalize (nthF (halfF l k) k).2 = p1 at *
      clear hst hst2 hgr hgr2 hown1 hown hb1 f HFS hbel
      go_wp2
      go_roundw
      case rel => exact ⟨k + 1, by omega, by go_num, HO2.out, HB2.out⟩
      case measure => simp [intOf]; omega
    · have hkk : k = n := by omega
      subst hkk
      rw [← hl, halfF_all, hl] at hown
      have hki : ¬ (k : Int) < (k : Int) := by omega
      have HO : Hid (OwnF wr w.heap.size (.slice (some ⟨w.heap.size, 0, none⟩) k k) l) := by
        show OwnF _ _ _ _
        unfold OwnF
        rw [hl]
        exact hown
      clear hown
      go_wp2
      go_ret
      exact ⟨rfl, HO.out, hbel⟩
end Go.Proofs.Ytknbndebfickpaa
