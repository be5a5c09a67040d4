/- The laws' look at two slices of numbers: whether they are the same; at most 1048576 numbers. -/
import Derived.Test.YtlkfmgfblfkgbaaGreatDoorBytI
import Derived.Handy
namespace Go.Proofs.YtlkfmgfblfkgbaaGreatDoor
open Go.RowKit

theorem eqL_step {l s : List Int} {j : Nat} (h : ∀ i, i < j → nthI l i = nthI s i) (hx : nthI l j = nthI s j) : ∀ i, i < j + 1 → nthI l i = nthI s i := fun i hi => by
  by_cases hij : i < j
  · exact h i hij
  · have : i = j := by omega
    subst this; exact hx
theorem eqL_end {l s : List Int} {n : Nat} (hl : l.length = n) (hs : s.length = n) (h : ∀ i, i < n → nthI l i = nthI s i) : l = s := by
  apply List.ext_getElem (by omega)
  intro i h1 h2
  have := h i (by omega)
  rwa [nthI_get h1, nthI_get h2] at this

set_option maxHeartbeats 800000 in
set_option maxRecDepth 100000 in
theorem lwNums_any (a c : Option Addr) (n m cap cap' : Nat) (l s : List Int) (w : World) (hl : l.length = n) (hm : s.length = m) (hr : RdI w a l) (hs : RdI w c s) (hn : n ≤ 1048576) (hmm : m ≤ 1048576) :
    Calls Tryz.prog 12 #[.slice a n cap, .slice c m cap'] w fun e w' => e = .returned (.bool (decide (l = s))) ∧ Below w.heap.size w w' := by
  by_cases hnm : n = m
  · subst hnm
    go_enter Tryz.func12, Tryz.ntmps12
    go_wp2
    go_loopw [5] (fun i wr => ∃ k : Nat, k ≤ n ∧ i = .int .i64 k ∧ (∀ i, i < k → nthI l i = nthI s i) ∧ Below w.heap.size w wr) (fun i _ => n - (intOf i).toNat)
    case atStart => exact ⟨0, Nat.zero_le _, rfl, fun i hi => by omega, Below.refl _ _⟩
    case round =>
      obtain ⟨k, hk, rfl, hsame, hbel⟩ := hrel
      by_cases hkn : k < n
      · obtain ⟨b, off, rfl, hblt, hcell⟩ := hr.at_ (by omega)
        obtain ⟨d, off', rfl, hdlt, hdell⟩ := hs.at_ (by omega)
        have hc : wr.cell? ⟨b, off + k, none⟩ = some (.int .i64 (nthI l k)) := (hbel.cell (p := ⟨b, off + k, none⟩) hblt).trans (hcell k (by omega))
        have hd : wr.cell? ⟨d, off' + k, none⟩ = some (.int .i64 (nthI s k)) := (hbel.cell (p := ⟨d, off' + k, none⟩) hdlt).trans (hdell k (by omega))
        have hki : (k : Int) < (n : Int) := by omega
        have HY : Hid (nthI l k = nthI s k → ∀ i, i < k + 1 → nthI l i = nthI s i) := fun h => eqL_step hsame h
        have HN : Hid (nthI l k ≠ nthI s k → decide (l = s) = false) := fun h => decide_eq_false (fun e => h (by rw [e]))
        clear hcell hdell hr hs hsame
        generalize nthI l k = x at *
        generalize nthI s k = y at *
        by_cases hxy : x = y
        · have HM : Hid (_) := HY.out hxy
          subst hxy
          clear HY HN
          go_wp2
          go_quiet (fail)
          go_wp2
          go_roundw
          case rel => exact ⟨k + 1, by omega, by go_num, HM.out, below_drewN hbel _⟩
          case measure => simp [intOf]; omega
        · have HM : Hid (_) := HN.out hxy
          have e0 : (x != y) = true := by simpa using hxy
          clear HY HN
          go_wp2
          go_quiet (fail)
          go_wp2
          go_ret
          exact ⟨by rw [HM.out]; rfl, below_drewN hbel _⟩
      · have HT : Hid (decide (l = s) = true) := decide_eq_true (eqL_end hl hm (fun i hi => hsame i (by omega)))
        have hki : ¬ (k : Int) < (n : Int) := by omega
        clear hsame
        go_wp2
        go_ret
        exact ⟨by rw [HT.out]; rfl, hbel⟩
  · have HF : Hid (decide (l = s) = false) := decide_eq_false (fun h => hnm (by rw [← hl, ← hm, h]))
    have e0 : ((n : Int) != (m : Int)) = true := by simp; omega
    go_enter Tryz.func12, Tryz.ntmps12
    go_wp2
    go_ret
    exact ⟨by rw [HF.out]; rfl, Below.refl _ _⟩
end Go.Proofs.YtlkfmgfblfkgbaaGreatDoor
