/- CodesFault, the program's and the model's, at every slice of at most 1048576 numbers: both by one plain function · An answer with bytes of the call's own · EncodeText, the program's and the model's, at every charset and every slice of at most 1048576 numbers: both by one plain function · Characters that may stand for themselves, the model's. -/
import Derived.Test.YtdcgihcjiiemdaaDoorChs0ToTel2
import Derived.Test.YtdcgihcjiiemdaaDoorMemToApp
import Derived.Test.YtdcgihcjiiemdaaDoorTel3
import Derived.Test.YtdcgihcjiiemdaaDoorDrw2ToAppI
namespace Go.Proofs.YtdcgihcjiiemdaaDoor
open Go.RowKit

/-- The fault of some characters. -/
def flt (l : List Int) : Int := if 400 < l.length then 2 else if l.all chr then 0 else 3
theorem flt_ok {l : List Int} (h : ¬ 400 < l.length) (ha : l.all chr = true) : flt l = 0 := by unfold flt; rw [if_neg h, if_pos ha]
end Go.Proofs.YtdcgihcjiiemdaaDoor

namespace Go.Proofs.YtdcgihcjiiemdaaDoor
open Go.RowKit

theorem Own.lower {w : World} {B C : Nat} {v : Value} {l : List Nat} (h : Own w B v l) (hC : C ≤ B) : Own w C v l := by
  refine ⟨h.1, ?_⟩
  rcases h.2 with h' | ⟨g, cap, cur, h1, h2, h3⟩
  · exact .inl h'
  · exact .inr ⟨g, cap, cur, h1, Nat.le_trans hC h2, h3⟩
theorem Own.kept {w : World} {B : Nat} {v : Value} {l : List Nat} (h : Own w B v l) (p : Addr) (hp : p.block < B) (u : Value) : Own (w.setCell p u) B v l := ownsRow_setCell_below h hp u

/-- An answer with bytes. -/
def BytEnd (r : Int × List Nat) (w : World) (e : Ending) (w' : World) : Prop := ∃ v, e = .returned (.agg #[.int .i64 r.1, v]) ∧ Own w' w.heap.size v r.2 ∧ Below w.heap.size w w'
theorem BytEnd.some {c : Int} {w w1 : World} {v : Value} {l : List Nat} (hbel : Below w.heap.size w w1) (hown : Own w1 (w.heap.size + 1) v l) (x y : Value) : BytEnd (c, l) w (.returned (.agg #[.int .i64 c, v])) ((w1.setCell ⟨w.heap.size, 0, none⟩ x).setCell ⟨w.heap.size, 1, none⟩ y) :=
  ⟨_, rfl, ((hown.kept _ (by simp) _).kept _ (by simp) _).lower (by omega), (hbel.setCell (by simp) _).setCell (by simp) _⟩
end Go.Proofs.YtdcgihcjiiemdaaDoor

namespace Go.Proofs.YtdcgihcjiiemdaaDoor
open Go.RowKit

theorem OwnI.lower {w : World} {B C : Nat} {v : Value} {l : List Int} (h : OwnI w B v l) (hC : C ≤ B) : OwnI w C v l := by
  refine ⟨h.1, ?_⟩
  rcases h.2 with h' | ⟨g, cap, cur, h1, h2, h3⟩
  · exact .inl h'
  · exact .inr ⟨g, cap, cur, h1, Nat.le_trans hC h2, h3⟩
theorem OwnI.kept {w : World} {B : Nat} {v : Value} {l : List Int} (h : OwnI w B v l) (p : Addr) (hp : p.block < B) (u : Value) : OwnI (w.setCell p u) B v l := ownsRow_setCell_below h hp u

/-- What EncodeText answers. -/
def encT (cs : Int) (l : List Int) : Int × List Nat := if 1 ≤ cs ∧ cs ≤ 5 then (if flt l = 0 then encV cs l else (flt l, [])) else (4, [])
theorem encT_fault {cs : Int} {l : List Int} (h : 1 ≤ cs ∧ cs ≤ 5) (hf : flt l ≠ 0) : encT cs l = (flt l, []) := by unfold encT; rw [if_pos h, if_neg hf]
theorem encT_ok {cs : Int} {l : List Int} (h : 1 ≤ cs ∧ cs ≤ 5) (hf : flt l = 0) : encT cs l = encV cs l := by unfold encT; rw [if_pos h, if_pos hf]
theorem flt_zero {l : List Int} (h : flt l = 0) : l.length ≤ 400 ∧ ∀ x ∈ l, chr x = true := by
  unfold flt at h
  split at h
  · cases h
  · split at h
    · exact ⟨by omega, by rename_i h2; rw [List.all_eq_true] at h2; exact h2⟩
    · cases h
theorem hasC_3 : hasC 3 = cyB := by funext c; simp [hasC, cyB]
end Go.Proofs.YtdcgihcjiiemdaaDoor

namespace Go.Proofs.YtdcgihcjiiemdaaDoor
open Go.RowKit

/-- May the character at a place stand for itself? -/
def sfB (l : List Int) (k : Nat) : Bool := decide (32 ≤ nthI l k ∧ nthI l k ≤ 126) && !decide (0 < k ∧ nthI l (k - 1) = 61 ∧ nthI l k = 63)
/-- May all? -/
def sfV (l : List Int) : Bool := (List.range l.length).all (sfB l)
theorem sfV_no {l : List Int} {k : Nat} (h : k < l.length) (hb : sfB l k = false) : sfV l = false := by
  unfold sfV
  rw [List.all_eq_false]
  exact ⟨k, List.mem_range.2 h, by rw [hb]; simp⟩
theorem sfV_yes {l : List Int} (h : ∀ k, k < l.length → sfB l k = true) : sfV l = true := by
  unfold sfV
  rw [List.all_eq_true]
  exact fun k hk => h k (List.mem_range.1 hk)

set_option maxHeartbeats 1600000 in
set_option maxRecDepth 100000 in
theorem l4Self_any (a : Option Addr) (n cap : Nat) (l : List Int) (w : World) (hl : l.length = n) (hr : RdI w a l) (hn : n ≤ 1048576) :
    Calls Tryd.prog 81 #[.slice a n cap] w fun e w' => e = .returned (.bool (sfV l)) ∧ w = w' := by
  have HL : Hid (l.length = n) := hl
  clear hl
  go_enter Tryd.func81, Tryd.ntmps81
  go_wp2
  go_loop [3] (fun v => ∃ k : Nat, k ≤ n ∧ v = .int .i64 k ∧ Hid (∀ i, i < k → sfB l i = true)) (fun v => n - (intOf v).toNat)
  case atStart => exact ⟨0, Nat.zero_le _, rfl, fun i hi => absurd hi (Nat.not_lt_zero _)⟩
  case round =>
    obtain ⟨k, hk, rfl, HA⟩ := hrel
    by_cases hkn : k < n
    · have hki : (k : Int) < (n : Int) := by omega
      obtain ⟨b, off, rfl, hblt, hcell⟩ := hr.at_ (by have := HL.out; omega)
      have hc := hcell k (by have := HL.out; omega)
      have HN : Hid (sfB l k = false → sfV l = false) := fun h => sfV_no (by have := HL.out; omega) h
      have HY : Hid (sfB l k = true → ∀ i, i < k + 1 → sfB l i = true) := fun h i hi => by
        by_cases he : i = k
        · rw [he]; exact h
        · exact HA.out i (by omega)
      have HD : Hid (sfB l k = (decide (32 ≤ nthI l k ∧ nthI l k ≤ 126) && !decide (0 < k ∧ nthI l (k - 1) = 61 ∧ nthI l k = 63))) := rfl
      clear HA
      by_cases h0 : 0 < k
      · obtain ⟨j, rfl⟩ : ∃ j, k = j + 1 := ⟨k - 1, by omega⟩
        have hd := hcell j (by have := HL.out; omega)
        rw [show j + 1 - 1 = j by omega] at HD
        clear hcell
        generalize sfB l (j + 1) = r at *
        generalize nthI l (j + 1) = x at *
        generalize nthI l j = y at *
        by_cases hx : 32 ≤ x ∧ x ≤ 126
        · have hx' : decide (32 ≤ x ∧ x ≤ 126) = true := decide_eq_true hx
          by_cases hy : y = 61
          · by_cases hz : x = 63
            · have HM : Hid (_) := HN.out (by rw [HD.out, hx', decide_eq_true (by omega)]; rfl)
              clear HN HY HD hx
              subst hy hz
              go_wp2_with fail
              refine (l1In_any _ _ _ _).mono ?_
              rintro e w' ⟨rfl, rfl⟩
              rw [hx']
              go_wp2
              go_ret
              exact ⟨by rw [HM.out]; rfl, rfl⟩
            · have HM : Hid (_) := HY.out (by rw [HD.out, hx', decide_eq_false (by omega)]; rfl)
              have hz' : (x == 63) = false := by simp [hz]
              clear HN HY HD hx
              subst hy
              go_wp2_with fail
              refine (l1In_any _ _ _ _).mono ?_
              rintro e w' ⟨rfl, rfl⟩
              rw [hx']
              go_wp2
              go_round
              case rel => exact ⟨j + 1 + 1, by omega, by go_num, HM⟩
              case measure => simp [intOf]; omega
          · have HM : Hid (_) := HY.out (by rw [HD.out, hx', decide_eq_false (by omega)]; rfl)
            have hy' : (y == 61) = false := by simp [hy]
            clear HN HY HD hx
            go_wp2_with fail
            refine (l1In_any _ _ _ _).mono ?_
            rintro e w' ⟨rfl, rfl⟩
            rw [hx']
            go_wp2
            go_round
            case rel => exact ⟨j + 1 + 1, by omega, by go_num, HM⟩
            case measure => simp [intOf]; omega
        · have hx' : decide (32 ≤ x ∧ x ≤ 126) = false := decide_eq_false hx
          have HM : Hid (_) := HN.out (by rw [HD.out, hx']; rfl)
          clear HN HY HD hx
          go_wp2_with fail
          refine (l1In_any _ _ _ _).mono ?_
          rintro e w' ⟨rfl, rfl⟩
          rw [hx']
          go_wp2
          go_ret
          exact ⟨by rw [HM.out]; rfl, rfl⟩
      · obtain rfl : k = 0 := by omega
        clear hcell
        rw [Nat.add_zero] at hc
        generalize sfB l 0 = r at *
        generalize nthI l 0 = x at *
        by_cases hx : 32 ≤ x ∧ x ≤ 126
        · have hx' : decide (32 ≤ x ∧ x ≤ 126) = true := decide_eq_true hx
          have HM : Hid (_) := HY.out (by rw [HD.out, hx', decide_eq_false (by omega)]; rfl)
          clear HN HY HD hx
          go_wp2_with fail
          refine (l1In_any _ _ _ _).mono ?_
          rintro e w' ⟨rfl, rfl⟩
          rw [hx']
          go_wp2
          go_round
          case rel => exact ⟨0 + 1, by omega, by go_num, HM⟩
          case measure => simp [intOf]; omega
        · have hx' : decide (32 ≤ x ∧ x ≤ 126) = false := decide_eq_false hx
          have HM : Hid (_) := HN.out (by rw [HD.out, hx']; rfl)
          clear HN HY HD hx
          go_wp2_with fail
          refine (l1In_any _ _ _ _).mono ?_
          rintro e w' ⟨rfl, rfl⟩
          rw [hx']
          go_wp2
          go_ret
          exact ⟨by rw [HM.out]; rfl, rfl⟩
    · have hki : ¬ (k : Int) < (n : Int) := by omega
      have HM : Hid (sfV l = true) := sfV_yes (fun i hi => HA.out i (by have := HL.out; omega))
      go_wp2
      go_ret
      exact ⟨by rw [HM.out]; rfl, rfl⟩
end Go.Proofs.YtdcgihcjiiemdaaDoor
