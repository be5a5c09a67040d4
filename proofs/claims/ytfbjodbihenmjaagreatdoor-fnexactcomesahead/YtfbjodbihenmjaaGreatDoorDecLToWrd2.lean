/- The characters that some bytes tell: plain functions, with no program in them, and how an answer with numbers ends · A told word: plain functions, with no program in them · Characters that may stand for themselves, the model's. -/
import Derived.Test.YtfbjodbihenmjaaGreatDoorTel3ToDec2
import Derived.Test.YtfbjodbihenmjaaGreatDoorWrd3
import Derived.Test.YtfbjodbihenmjaaGreatDoorWPmToNam2
import Derived.Test.YtfbjodbihenmjaaGreatDoorLowToBytI
import Derived.Lib.Strings
import Derived.Test.YtfbjodbihenmjaaGreatDoorAppFToChs0
namespace Go.Proofs.YtfbjodbihenmjaaGreatDoor
open Go.RowKit

/-- The characters of some bytes, if they tell any. -/
def decL (cs : Int) (l : List Nat) : Option (List Int) :=
  if _h : 1 ≤ l.length ∧ (rdC cs l).2 ≠ 0 then (decL cs (l.drop (rdC cs l).2)).map (((rdC cs l).1 : Int) :: ·) else if l.length = 0 then some [] else none
termination_by l.length
decreasing_by
  rw [List.length_drop]
  omega
theorem decL_nil {cs : Int} {l : List Nat} (h : l.length = 0) : decL cs l = some [] := by
  rw [decL, dif_neg (by omega), if_pos h]
theorem decL_none {cs : Int} {l : List Nat} (h : 1 ≤ l.length) (h0 : (rdC cs l).2 = 0) : decL cs l = none := by
  rw [decL, dif_neg (by intro h'; exact h'.2 h0), if_neg (by omega)]
theorem decL_step {cs : Int} {l : List Nat} {c s : Nat} (h : 1 ≤ l.length) (hs : s ≠ 0) (hr : rdC cs l = (c, s)) : decL cs l = (decL cs (l.drop s)).map ((c : Int) :: ·) := by
  rw [decL, dif_pos ⟨h, by rw [hr]; exact hs⟩, hr]
/-- What DecodeText answers. -/
def decT (cs : Int) (l : List Nat) : Int × List Int := if 1 ≤ cs ∧ cs ≤ 5 then (if 400 < l.length then (2, []) else match decL cs l with | some u => (0, u) | none => (8, [])) else (4, [])
theorem decT_cs {cs : Int} {l : List Nat} (h : ¬ (1 ≤ cs ∧ cs ≤ 5)) : decT cs l = (4, []) := if_neg h
theorem decT_many {cs : Int} {l : List Nat} (h : 1 ≤ cs ∧ cs ≤ 5) (h4 : 400 < l.length) : decT cs l = (2, []) := by unfold decT; rw [if_pos h, if_pos h4]
theorem decT_no {cs : Int} {l : List Nat} (h : 1 ≤ cs ∧ cs ≤ 5) (h4 : ¬ 400 < l.length) (hd : decL cs l = none) : decT cs l = (8, []) := by unfold decT; rw [if_pos h, if_neg h4, hd]
theorem decT_ok {cs : Int} {l : List Nat} {u : List Int} (h : 1 ≤ cs ∧ cs ≤ 5) (h4 : ¬ 400 < l.length) (hd : decL cs l = some u) : decT cs l = (0, u) := by unfold decT; rw [if_pos h, if_neg h4, hd]
theorem omap_app {o : Option (List Int)} {a : List Int} {c : Int} : (o.map (c :: ·)).map (a ++ ·) = o.map ((a ++ [c]) ++ ·) := by cases o <;> simp

/-- An answer with numbers. -/
def CodEnd (r : Int × List Int) (w : World) (e : Ending) (w' : World) : Prop := ∃ v, e = .returned (.agg #[.int .i64 r.1, v]) ∧ OwnI w' w.heap.size v r.2 ∧ Below w.heap.size w w'
theorem CodEnd.code {c : Int} {w w1 : World} (hbel : Below w.heap.size w w1) (x y : Value) : CodEnd (c, []) w (.returned (.agg #[.int .i64 c, .slice none 0 0])) ((w1.setCell ⟨w.heap.size, 0, none⟩ x).setCell ⟨w.heap.size, 1, none⟩ y) :=
  ⟨_, rfl, OwnI.nil _ _, (hbel.setCell (by simp) _).setCell (by simp) _⟩
theorem CodEnd.some {c : Int} {w w1 : World} {v : Value} {l : List Int} (hbel : Below w.heap.size w w1) (hown : OwnI w1 (w.heap.size + 1) v l) (x y : Value) : CodEnd (c, l) w (.returned (.agg #[.int .i64 c, v])) ((w1.setCell ⟨w.heap.size, 0, none⟩ x).setCell ⟨w.heap.size, 1, none⟩ y) :=
  ⟨_, rfl, ((hown.kept _ (by simp) _).kept _ (by simp) _).lower (by omega), (hbel.setCell (by simp) _).setCell (by simp) _⟩

end Go.Proofs.YtfbjodbihenmjaaGreatDoor

namespace Go.Proofs.YtfbjodbihenmjaaGreatDoor
open Go.RowKit

/-- The place of the question mark behind the charset. -/
def wdA (v : List Nat) : Nat := 2 + runL noQu v 2
/-- The place of the question mark behind the letters. -/
def wdZ (v : List Nat) : Nat := wdA v + 3 + runL noQu v (wdA v + 3)
/-- Has it the form? -/
def wdF (v : List Nat) : Prop := nth v 0 = 61 ∧ nth v 1 = 63 ∧ nth v (wdA v + 2) = 63 ∧ nth v (wdZ v + 1) = 61
instance (v : List Nat) : Decidable (wdF v) := by unfold wdF; infer_instance
/-- Its charset. -/
def wdC (v : List Nat) : Int := csI (str (((v.take (wdA v)).drop 2).map low))
/-- Its bytes. -/
def wdB (v : List Nat) : Option (List Nat) := toldV (nth v (wdA v + 1)) ((v.take (wdZ v)).drop (wdA v + 3))
/-- Its characters, and how many bytes it has. -/
def wdV (v : List Nat) : Option (List Int × Nat) := if wdF v then (if wdC v = 0 then none else match wdB v with
  | none => none
  | some bs => (decL (wdC v) bs).map fun u => (u, wdZ v + 2)) else none
theorem wdV_form {v : List Nat} (h : ¬ wdF v) : wdV v = none := if_neg h
theorem wdV_cs {v : List Nat} (h : wdC v = 0) : wdV v = none := by
  unfold wdV
  split
  · rfl
  · rfl
theorem wdV_by {v : List Nat} (h : wdB v = none) : wdV v = none := by
  unfold wdV
  split
  · split
    · rfl
    · rw [h]
  · rfl
theorem wdV_dec {v : List Nat} {bs : List Nat} (hf : wdF v) (hc : wdC v ≠ 0) (h : wdB v = some bs) : wdV v = (decL (wdC v) bs).map fun u => (u, wdZ v + 2) := by
  unfold wdV
  rw [if_pos hf, if_neg hc, h]
theorem wdV_some {v : List Nat} {r : List Int × Nat} (h : wdV v = some r) : wdF v ∧ wdC v ≠ 0 ∧ ∃ bs, wdB v = some bs ∧ decL (wdC v) bs = some r.1 ∧ r.2 = wdZ v + 2 := by
  by_cases hf : wdF v
  · by_cases hc : wdC v = 0
    · rw [wdV_cs hc] at h; cases h
    · cases hb : wdB v with
      | none => rw [wdV_by hb] at h; cases h
      | some bs =>
        rw [wdV_dec hf hc hb] at h
        cases hd : decL (wdC v) bs with
        | none => rw [hd] at h; cases h
        | some u =>
          rw [hd] at h
          have e : (u, wdZ v + 2) = r := by simpa using h
          subst e
          exact ⟨hf, hc, bs, rfl, hd, rfl⟩
  · rw [wdV_form hf] at h; cases h
theorem wdF_at (t : List Nat) (i : Nat) : wdF (t.drop i) ↔ nth t i = 61 ∧ nth t (i + 1) = 63 ∧ nth t (i + (wdA (t.drop i) + 2)) = 63 ∧ nth t (i + (wdZ (t.drop i) + 1)) = 61 := by
  unfold wdF
  rw [nth_drop, nth_drop, nth_drop, nth_drop, Nat.add_zero]
theorem mk_at (t : List Nat) (i j : Nat) : mkV t (i + j) = if i + (j + runL noQu (t.drop i) j) < t.length then ((i + (j + runL noQu (t.drop i) j) : Nat) : Int) else -1 := by
  unfold mkV
  rw [runL_drop, Nat.add_assoc]
theorem nth_lt_len {l : List Nat} {k : Nat} (h : nth l k ≠ 0) : k < l.length := by
  rcases Nat.lt_or_ge k l.length with h1 | h1
  · exact h1
  · exfalso; apply h; unfold nth; rw [List.getD_eq_getElem?_getD, List.getElem?_eq_none h1]; rfl
theorem findN_lt {f : Nat → ByteArray} {s : ByteArray} : ∀ {n i : Nat}, findN f s n = some i → i < n
  | 0, i, h => by cases h
  | n + 1, i, h => by
    unfold findN at h
    cases e : findN f s n with
    | some j =>
      rw [e] at h
      have e2 : j = i := by simpa using h
      have := findN_lt e
      omega
    | none =>
      rw [e] at h
      simp only at h
      split at h
      · have e2 : n = i := by simpa using h
        omega
      · cases h
theorem csI_in (s : ByteArray) : csI s = 0 ∨ 1 ≤ csI s ∧ csI s ≤ 5 := by
  unfold csI
  cases h : findN csN s 5 with
  | none => exact .inl rfl
  | some i =>
    right
    have : i < 5 := findN_lt h
    show 1 ≤ (i : Int) + 1 ∧ (i : Int) + 1 ≤ 5
    omega
/-- A character of a text that is no told word. -/
def cuV (v : List Nat) : Int × Nat := if (rdC 4 v).2 = 0 then (65533, 1) else (((rdC 4 v).1 : Int), (rdC 4 v).2)
theorem cuV_no {v : List Nat} (h : (rdC 4 v).2 = 0) : cuV v = (65533, 1) := if_pos h
theorem cuV_yes {v : List Nat} (h : (rdC 4 v).2 ≠ 0) : cuV v = (((rdC 4 v).1 : Int), (rdC 4 v).2) := if_neg h
theorem cuV_pos (v : List Nat) : 0 < (cuV v).2 := by
  unfold cuV
  split
  · exact Nat.one_pos
  · rename_i h; simp only; omega
theorem wdOk : WdOk wdV cuV where
  pos := fun v r h => by obtain ⟨_, _, _, _, _, e⟩ := wdV_some h; omega
  head := fun v r h => (wdV_some h).1.1
  one := fun v _ => cuV_pos v
  gap := fun v h hg => by
    have hg' := of_decide_eq_true hg
    have e := rdC_4_one (l := v) (by omega) (by omega)
    rw [cuV_yes (by rw [e]; simp), e]
/-- The text of a piece of a text. -/
theorem str_piece (t : List Nat) (a b : Nat) : (str t).extract a b = str ((t.take b).drop a) := by
  rw [Lib.extract_eq, show (str t).data.toList = t.map UInt8.ofNat by simp [str], ← List.map_drop, ← List.map_take, List.drop_take]
  rfl
theorem piece_drop (t : List Nat) (i a b : Nat) : (t.take (i + b)).drop (i + a) = ((t.drop i).take b).drop a := by
  rw [List.drop_take, List.drop_take, List.drop_drop]
  congr 1
  omega
end Go.Proofs.YtfbjodbihenmjaaGreatDoor

namespace Go.Proofs.YtfbjodbihenmjaaGreatDoor
open Go.RowKit

/-- May the character at a place stand for itself? -/
def sfB (l : List Int) (k : Nat) : Bool := decide (32 ≤ nthI l k ∧ nthI l k ≤ 126) && !decide (0 < k ∧ nthI l (k - 1) = 61 ∧ nthI l k = 63)
/-- May all? -/
def sfV (l : List Int) : Bool := (List.range l.length).all (sfB l)
theorem sfV_no {l : List Int} {k : Nat} (h : k < l.length) (hb : sfB l k = false) : sfV l = false := by
  unfold sfV
  rw [List.all_eq_false]
  exact ⟨k, List.mem_range.2 h, by rw [hb]; simp⟩
theorem sfV_yes {l : List Int} (h : ∀ k, k < l.length → sfB l k = true) : sfV l = true := by
  unfold sfV
  rw [List.all_eq_true]
  exact fun k hk => h k (List.mem_range.1 hk)

set_option maxHeartbeats 1600000 in
set_option maxRecDepth 100000 in
theorem l4Self_any (a : Option Addr) (n cap : Nat) (l : List Int) (w : World) (hl : l.length = n) (hr : RdI w a l) (hn : n ≤ 1048576) :
    Calls Tryz.prog 79 #[.slice a n cap] w fun e w' => e = .returned (.bool (sfV l)) ∧ w = w' := by
  have HL : Hid (l.length = n) := hl
  clear hl
  go_enter Tryz.func79, Tryz.ntmps79
  go_wp2
  go_loop [3] (fun v => ∃ k : Nat, k ≤ n ∧ v = .int .i64 k ∧ Hid (∀ i, i < k → sfB l i = true)) (fun v => n - (intOf v).toNat)
  case atStart => exact ⟨0, Nat.zero_le _, rfl, fun i hi => absurd hi (Nat.not_lt_zero _)⟩
  case round =>
    obtain ⟨k, hk, rfl, HA⟩ := hrel
    by_cases hkn : k < n
    · have hki : (k : Int) < (n : Int) := by omega
      obtain ⟨b, off, rfl, hblt, hcell⟩ := hr.at_ (by have := HL.out; omega)
      have hc := hcell k (by have := HL.out; omega)
      have HN : Hid (sfB l k = false → sfV l = false) := fun h => sfV_no (by have := HL.out; omega) h
      have HY : Hid (sfB l k = true → ∀ i, i < k + 1 → sfB l i = true) := fun h i hi => by
        by_cases he : i = k
        · rw [he]; exact h
        · exact HA.out i (by omega)
      have HD : Hid (sfB l k = (decide (32 ≤ nthI l k ∧ nthI l k ≤ 126) && !decide (0 < k ∧ nthI l (k - 1) = 61 ∧ nthI l k = 63))) := rfl
      clear HA
      by_cases h0 : 0 < k
      · obtain ⟨j, rfl⟩ : ∃ j, k = j + 1 := ⟨k - 1, by omega⟩
        have hd := hcell j (by have := HL.out; omega)
        rw [show j + 1 - 1 = j by omega] at HD
        clear hcell
        generalize sfB l (j + 1) = r at *
        generalize nthI l (j + 1) = x at *
        generalize nthI l j = y at *
        by_cases hx : 32 ≤ x ∧ x ≤ 126
        · have hx' : decide (32 ≤ x ∧ x ≤ 126) = true := decide_eq_true hx
          by_cases hy : y = 61
          · by_cases hz : x = 63
            · have HM : Hid (_) := HN.out (by rw [HD.out, hx', decide_eq_true (by omega)]; rfl)
              clear HN HY HD hx
              subst hy hz
              go_wp2_with fail
              refine (l1In_any _ _ _ _).mono ?_
              rintro e w' ⟨rfl, rfl⟩
              rw [hx']
              go_wp2
              go_ret
              exact ⟨by rw [HM.out]; rfl, rfl⟩
            · have HM : Hid (_) := HY.out (by rw [HD.out, hx', decide_eq_false (by omega)]; rfl)
              have hz' : (x == 63) = false := by simp [hz]
              clear HN HY HD hx
              subst hy
              go_wp2_with fail
              refine (l1In_any _ _ _ _).mono ?_
              rintro e w' ⟨rfl, rfl⟩
              rw [hx']
              go_wp2
              go_round
              case rel => exact ⟨j + 1 + 1, by omega, by go_num, HM⟩
              case measure => simp [intOf]; omega
          · have HM : Hid (_) := HY.out (by rw [HD.out, hx', decide_eq_false (by omega)]; rfl)
            have hy' : (y == 61) = false := by simp [hy]
            clear HN HY HD hx
            go_wp2_with fail
            refine (l1In_any _ _ _ _).mono ?_
            rintro e w' ⟨rfl, rfl⟩
            rw [hx']
            go_wp2
            go_round
            case rel => exact ⟨j + 1 + 1, by omega, by go_num, HM⟩
            case measure => simp [intOf]; omega
        · have hx' : decide (32 ≤ x ∧ x ≤ 126) = false := decide_eq_false hx
          have HM : Hid (_) := HN.out (by rw [HD.out, hx']; rfl)
          clear HN HY HD hx
          go_wp2_with fail
          refine (l1In_any _ _ _ _).mono ?_
          rintro e w' ⟨rfl, rfl⟩
          rw [hx']
          go_wp2
          go_ret
          exact ⟨by rw [HM.out]; rfl, rfl⟩
      · obtain rfl : k = 0 := by omega
        clear hcell
        rw [Nat.add_zero] at hc
        generalize sfB l 0 = r at *
        generalize nthI l 0 = x at *
        by_cases hx : 32 ≤ x ∧ x ≤ 126
        · have hx' : decide (32 ≤ x ∧ x ≤ 126) = true := decide_eq_true hx
          have HM : Hid (_) := HY.out (by rw [HD.out, hx', decide_eq_false (by omega)]; rfl)
          clear HN HY HD hx
          go_wp2_with fail
          refine (l1In_any _ _ _ _).mono ?_
          rintro e w' ⟨rfl, rfl⟩
          rw [hx']
          go_wp2
          go_round
          case rel => exact ⟨0 + 1, by omega, by go_num, HM⟩
          case measure => simp [intOf]; omega
        · have hx' : decide (32 ≤ x ∧ x ≤ 126) = false := decide_eq_false hx
          have HM : Hid (_) := HN.out (by rw [HD.out, hx']; rfl)
          clear HN HY HD hx
          go_wp2_with fail
          refine (l1In_any _ _ _ _).mono ?_
          rintro e w' ⟨rfl, rfl⟩
          rw [hx']
          go_wp2
          go_ret
          exact ⟨by rw [HM.out]; rfl, rfl⟩
    · have hki : ¬ (k : Int) < (n : Int) := by omega
      have HM : Hid (sfV l = true) := sfV_yes (fun i hi => HA.out i (by have := HL.out; omega))
      go_wp2
      go_ret
      exact ⟨by rw [HM.out]; rfl, rfl⟩
end Go.Proofs.YtfbjodbihenmjaaGreatDoor
