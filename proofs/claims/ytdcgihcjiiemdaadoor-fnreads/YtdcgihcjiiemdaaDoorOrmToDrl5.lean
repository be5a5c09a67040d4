/- ReadOp on both sides, as its law takes them; no conditions beyond those that each fact names · The draw of a text and a piece of it, once more, with a word on texts of nothing; and a choice that the laws make. -/
import Derived.Test.YtdcgihcjiiemdaaDoorOrl
import Derived.Test.YtdcgihcjiiemdaaDoorRmc
import Derived.Test.YtdcgihcjiiemdaaDoorRmd
import Derived.Test.YtdcgihcjiiemdaaDoorDecQToDrl4
import Derived.Laws.AppendOwnNone
namespace Go.Proofs.YtdcgihcjiiemdaaDoor
open Go.RowKit
theorem HL9_any : Hid (∀ (a : Option Addr) (n cap : Nat) (d : List Nat) (w : World), d.length = n → 2 ≤ n → n ≤ 1048576 → Rd w a d → IsB d → Calls Tryd.prog 28 #[.slice a n cap] w fun e w' => RfEnd (rdM d) w e w') :=
  fun a n cap d w h1 h2 h3 h4 h5 => l9Read_any a n cap d w h1 h2 h3 h4 h5
end Go.Proofs.YtdcgihcjiiemdaaDoor

namespace Go.Proofs.YtdcgihcjiiemdaaDoor
open Go.RowKit

/-- A slice of numbers that can be read; one without an address has no room. -/
def SlN (w : World) (v : Value) (l : List Int) : Prop := ∃ (a : Option Addr) (n cap : Nat), v = .slice a n cap ∧ l.length = n ∧ n ≤ cap ∧ n ≤ 100 ∧ (a = none → cap = 0) ∧ RdI w a l
theorem SlN.below {w w' : World} {v : Value} {l : List Int} (h : SlN w v l) (hb : Below w.heap.size w w') : SlN w' v l := by
  obtain ⟨a, n, cap, e, h1, h2, h3, h5, h4⟩ := h
  exact ⟨a, n, cap, e, h1, h2, h3, h5, h4.below hb⟩
set_option maxHeartbeats 1600000 in
set_option maxRecDepth 100000 in
theorem lwAt_any (a : Option Addr) (n cap i : Nat) (k : Int) (l : List Nat) (w : World) (hl : l.length = n) (hr : Rd w a l) (hB : IsB l) (hn : n ≤ 1048576) (hi : i ≤ 10) (h0 : 1 ≤ k) (hk : k ≤ 2000) :
    Calls Tryd.prog 13 #[.slice a n cap, .int .i64 (i : Int), .int .i64 k] w fun e w' => ∃ r : Int, e = .returned (.int .i64 r) ∧ 0 ≤ r ∧ r < k ∧ Below w.heap.size w w' := by
  by_cases hk1 : k ≤ 1
  · go_enter Tryd.func13, Tryd.ntmps13
    go_wp2
    go_ret
    exact ⟨0, rfl, by omega, by omega, Below.refl _ _⟩
  · by_cases hn0 : n = 0
    · subst hn0
      go_enter Tryd.func13, Tryd.ntmps13
      go_wp2
      go_ret
      have r1 := Int.emod_nonneg ((i : Int) * 7) (show k ≠ 0 by omega)
      have r2 := Int.emod_lt_of_pos ((i : Int) * 7) (show 0 < k by omega)
      exact ⟨_, rfl, r1, r2, Below.refl _ _⟩
    · obtain ⟨q1, hq1⟩ : ∃ q, q = i % n := ⟨_, rfl⟩
      obtain ⟨q2, hq2⟩ : ∃ q, q = (i + 1) % n := ⟨_, rfl⟩
      obtain ⟨p, hp⟩ : ∃ p, p = i / n := ⟨_, rfl⟩
      have q1n : q1 < n := by rw [hq1]; exact Nat.mod_lt _ (by omega)
      have q2n : q2 < n := by rw [hq2]; exact Nat.mod_lt _ (by omega)
      have hp' : p ≤ 1000 := by have := Nat.div_le_self i n; omega
      obtain ⟨d, off, rfl, hdlt, hc⟩ := hr.at_ (by omega)
      have x1 := hc q1 (by omega)
      have x2 := hc q2 (by omega)
      have b1 := nth_lt hB q1
      have b2 := nth_lt hB q2
      generalize nth l q1 = y1 at *
      generalize nth l q2 = y2 at *
      have e1 : (i : Int) % (n : Int) = (q1 : Int) := by rw [hq1]; exact (Int.natCast_emod _ _).symm
      have e2 : ((i : Int) + 1) % (n : Int) = (q2 : Int) := by rw [hq2, Int.natCast_emod]; rfl
      have e3 : (i : Int) / (n : Int) = (p : Int) := by rw [hp]; exact (Int.natCast_ediv _ _).symm
      have i1 : (q1 : Int) < (n : Int) := by omega
      have i2 : (q2 : Int) < (n : Int) := by omega
      have n0 : ((n : Int) == 0) = false := beq_eq_false_iff_ne.2 (by omega)
      clear hc hq1 hq2 hp
      by_cases hk2 : 200 < k
      · go_enter Tryd.func13, Tryd.ntmps13
        go_wp2
        go_quiet (fail)
        go_wp2
        go_ret
        have r1 := Int.emod_nonneg (((y1 : Int) + (p : Int) * 3) * 251 + (y2 : Int)) (show k ≠ 0 by omega)
        have r2 := Int.emod_lt_of_pos (((y1 : Int) + (p : Int) * 3) * 251 + (y2 : Int)) (show 0 < k by omega)
        exact ⟨_, rfl, r1, r2, below_drewN (Below.refl _ _) _⟩
      · go_enter Tryd.func13, Tryd.ntmps13
        go_wp2
        go_quiet (fail)
        go_wp2
        go_ret
        have r1 := Int.emod_nonneg ((y1 : Int) + (p : Int) * 3) (show k ≠ 0 by omega)
        have r2 := Int.emod_lt_of_pos ((y1 : Int) + (p : Int) * 3) (show 0 < k by omega)
        exact ⟨_, rfl, r1, r2, below_drewN (Below.refl _ _) _⟩
end Go.Proofs.YtdcgihcjiiemdaaDoor
