/- The characters that some bytes tell: plain functions, with no program in them, and how an answer with numbers ends · A told word: plain functions, with no program in them · Characters that may stand for themselves, the model's · Words of characters: plain functions, with no program in them; what stands for itself by its characters does so by its bytes · Where a byte stands first in bytes: plain functions, with no program in them · Letters of a told word as quoted text; a text cut at question marks: plain functions, with no program in them. -/
import Derived.Test.YtfbjodbihenmjaaGreatDoorTel3ToDec2
import Derived.Test.YtfbjodbihenmjaaGreatDoorWrd3
import Derived.Test.YtfbjodbihenmjaaGreatDoorWPmToNam2
import Derived.Test.YtfbjodbihenmjaaGreatDoorLowToChs2
import Derived.Lib.Strings
import Derived.Test.YtfbjodbihenmjaaGreatDoorAppToChs0
import Derived.Test.YtfbjodbihenmjaaGreatDoorMath
import Derived.Lib.IndexMore
import Derived.Lib.Replace
import Derived.Lib.IndexBytes
import Derived.Lib.SplitLaws
namespace Go.Proofs.YtfbjodbihenmjaaGreatDoor
open Go.RowKit

/-- The characters of some bytes, if they tell any. -/
def decL (cs : Int) (l : List Nat) : Option (List Int) :=
  if _h : 1 ≤ l.length ∧ (rdC cs l).2 ≠ 0 then (decL cs (l.drop (rdC cs l).2)).map (((rdC cs l).1 : Int) :: ·) else if l.length = 0 then some [] else none
termination_by l.length
decreasing_by
  rw [List.length_drop]
  omega
theorem decL_nil {cs : Int} {l : List Nat} (h : l.length = 0) : decL cs l = some [] := by
  rw [decL, dif_neg (by omega), if_pos h]
theorem decL_none {cs : Int} {l : List Nat} (h : 1 ≤ l.length) (h0 : (rdC cs l).2 = 0) : decL cs l = none := by
  rw [decL, dif_neg (by intro h'; exact h'.2 h0), if_neg (by omega)]
theorem decL_step {cs : Int} {l : List Nat} {c s : Nat} (h : 1 ≤ l.length) (hs : s ≠ 0) (hr : rdC cs l = (c, s)) : decL cs l = (decL cs (l.drop s)).map ((c : Int) :: ·) := by
  rw [decL, dif_pos ⟨h, by rw [hr]; exact hs⟩, hr]
/-- What DecodeText answers. -/
def decT (cs : Int) (l : List Nat) : Int × List Int := if 1 ≤ cs ∧ cs ≤ 5 then (if 400 < l.length then (2, []) else match decL cs l with | some u => (0, u) | none => (8, [])) else (4, [])
theorem decT_cs {cs : Int} {l : List Nat} (h : ¬ (1 ≤ cs ∧ cs ≤ 5)) : decT cs l = (4, []) := if_neg h
theorem decT_many {cs : Int} {l : List Nat} (h : 1 ≤ cs ∧ cs ≤ 5) (h4 : 400 < l.length) : decT cs l = (2, []) := by unfold decT; rw [if_pos h, if_pos h4]
theorem decT_no {cs : Int} {l : List Nat} (h : 1 ≤ cs ∧ cs ≤ 5) (h4 : ¬ 400 < l.length) (hd : decL cs l = none) : decT cs l = (8, []) := by unfold decT; rw [if_pos h, if_neg h4, hd]
theorem decT_ok {cs : Int} {l : List Nat} {u : List Int} (h : 1 ≤ cs ∧ cs ≤ 5) (h4 : ¬ 400 < l.length) (hd : decL cs l = some u) : decT cs l = (0, u) := by unfold decT; rw [if_pos h, if_neg h4, hd]
theorem omap_app {o : Option (List Int)} {a : List Int} {c : Int} : (o.map (c :: ·)).map (a ++ ·) = o.map ((a ++ [c]) ++ ·) := by cases o <;> simp

/-- An answer with numbers. -/
def CodEnd (r : Int × List Int) (w : World) (e : Ending) (w' : World) : Prop := ∃ v, e = .returned (.agg #[.int .i64 r.1, v]) ∧ OwnI w' w.heap.size v r.2 ∧ Below w.heap.size w w'
theorem CodEnd.code {c : Int} {w w1 : World} (hbel : Below w.heap.size w w1) (x y : Value) : CodEnd (c, []) w (.returned (.agg #[.int .i64 c, .slice none 0 0])) ((w1.setCell ⟨w.heap.size, 0, none⟩ x).setCell ⟨w.heap.size, 1, none⟩ y) :=
  ⟨_, rfl, OwnI.nil _ _, (hbel.setCell (by simp) _).setCell (by simp) _⟩
theorem CodEnd.some {c : Int} {w w1 : World} {v : Value} {l : List Int} (hbel : Below w.heap.size w w1) (hown : OwnI w1 (w.heap.size + 1) v l) (x y : Value) : CodEnd (c, l) w (.returned (.agg #[.int .i64 c, v])) ((w1.setCell ⟨w.heap.size, 0, none⟩ x).setCell ⟨w.heap.size, 1, none⟩ y) :=
  ⟨_, rfl, ((hown.kept _ (by simp) _).kept _ (by simp) _).lower (by omega), (hbel.setCell (by simp) _).setCell (by simp) _⟩

end Go.Proofs.YtfbjodbihenmjaaGreatDoor

namespace Go.Proofs.YtfbjodbihenmjaaGreatDoor
open Go.RowKit

/-- The place of the question mark behind the charset. -/
def wdA (v : List Nat) : Nat := 2 + runL noQu v 2
/-- The place of the question mark behind the letters. -/
def wdZ (v : List Nat) : Nat := wdA v + 3 + runL noQu v (wdA v + 3)
/-- Has it the form? -/
def wdF (v : List Nat) : Prop := nth v 0 = 61 ∧ nth v 1 = 63 ∧ nth v (wdA v + 2) = 63 ∧ nth v (wdZ v + 1) = 61
instance (v : List Nat) : Decidable (wdF v) := by unfold wdF; infer_instance
/-- Its charset. -/
def wdC (v : List Nat) : Int := csI (str (((v.take (wdA v)).drop 2).map low))
/-- Its bytes. -/
def wdB (v : List Nat) : Option (List Nat) := toldV (nth v (wdA v + 1)) ((v.take (wdZ v)).drop (wdA v + 3))
/-- Its characters, and how many bytes it has. -/
def wdV (v : List Nat) : Option (List Int × Nat) := if wdF v then (if wdC v = 0 then none else match wdB v with
  | none => none
  | some bs => (decL (wdC v) bs).map fun u => (u, wdZ v + 2)) else none
theorem wdV_form {v : List Nat} (h : ¬ wdF v) : wdV v = none := if_neg h
theorem wdV_cs {v : List Nat} (h : wdC v = 0) : wdV v = none := by
  unfold wdV
  split
  · rfl
  · rfl
theorem wdV_by {v : List Nat} (h : wdB v = none) : wdV v = none := by
  unfold wdV
  split
  · split
    · rfl
    · rw [h]
  · rfl
theorem wdV_dec {v : List Nat} {bs : List Nat} (hf : wdF v) (hc : wdC v ≠ 0) (h : wdB v = some bs) : wdV v = (decL (wdC v) bs).map fun u => (u, wdZ v + 2) := by
  unfold wdV
  rw [if_pos hf, if_neg hc, h]
theorem wdV_some {v : List Nat} {r : List Int × Nat} (h : wdV v = some r) : wdF v ∧ wdC v ≠ 0 ∧ ∃ bs, wdB v = some bs ∧ decL (wdC v) bs = some r.1 ∧ r.2 = wdZ v + 2 := by
  by_cases hf : wdF v
  · by_cases hc : wdC v = 0
    · rw [wdV_cs hc] at h; cases h
    · cases hb : wdB v with
      | none => rw [wdV_by hb] at h; cases h
      | some bs =>
        rw [wdV_dec hf hc hb] at h
        cases hd : decL (wdC v) bs with
        | none => rw [hd] at h; cases h
        | some u =>
          rw [hd] at h
          have e : (u, wdZ v + 2) = r := by simpa using h
          subst e
          exact ⟨hf, hc, bs, rfl, hd, rfl⟩
  · rw [wdV_form hf] at h; cases h
theorem wdF_at (t : List Nat) (i : Nat) : wdF (t.drop i) ↔ nth t i = 61 ∧ nth t (i + 1) = 63 ∧ nth t (i + (wdA (t.drop i) + 2)) = 63 ∧ nth t (i + (wdZ (t.drop i) + 1)) = 61 := by
  unfold wdF
  rw [nth_drop, nth_drop, nth_drop, nth_drop, Nat.add_zero]
theorem mk_at (t : List Nat) (i j : Nat) : mkV t (i + j) = if i + (j + runL noQu (t.drop i) j) < t.length then ((i + (j + runL noQu (t.drop i) j) : Nat) : Int) else -1 := by
  unfold mkV
  rw [runL_drop, Nat.add_assoc]
theorem nth_lt_len {l : List Nat} {k : Nat} (h : nth l k ≠ 0) : k < l.length := by
  rcases Nat.lt_or_ge k l.length with h1 | h1
  · exact h1
  · exfalso; apply h; unfold nth; rw [List.getD_eq_getElem?_getD, List.getElem?_eq_none h1]; rfl
theorem findN_lt {f : Nat → ByteArray} {s : ByteArray} : ∀ {n i : Nat}, findN f s n = some i → i < n
  | 0, i, h => by cases h
  | n + 1, i, h => by
    unfold findN at h
    cases e : findN f s n with
    | some j =>
      rw [e] at h
      have e2 : j = i := by simpa using h
      have := findN_lt e
      omega
    | none =>
      rw [e] at h
      simp only at h
      split at h
      · have e2 : n = i := by simpa using h
        omega
      · cases h
theorem csI_in (s : ByteArray) : csI s = 0 ∨ 1 ≤ csI s ∧ csI s ≤ 5 := by
  unfold csI
  cases h : findN csN s 5 with
  | none => exact .inl rfl
  | some i =>
    right
    have : i < 5 := findN_lt h
    show 1 ≤ (i : Int) + 1 ∧ (i : Int) + 1 ≤ 5
    omega
/-- A character of a text that is no told word. -/
def cuV (v : List Nat) : Int × Nat := if (rdC 4 v).2 = 0 then (65533, 1) else (((rdC 4 v).1 : Int), (rdC 4 v).2)
theorem cuV_no {v : List Nat} (h : (rdC 4 v).2 = 0) : cuV v = (65533, 1) := if_pos h
theorem cuV_yes {v : List Nat} (h : (rdC 4 v).2 ≠ 0) : cuV v = (((rdC 4 v).1 : Int), (rdC 4 v).2) := if_neg h
theorem cuV_pos (v : List Nat) : 0 < (cuV v).2 := by
  unfold cuV
  split
  · exact Nat.one_pos
  · rename_i h; simp only; omega
theorem wdOk : WdOk wdV cuV where
  pos := fun v r h => by obtain ⟨_, _, _, _, _, e⟩ := wdV_some h; omega
  head := fun v r h => (wdV_some h).1.1
  one := fun v _ => cuV_pos v
  gap := fun v h hg => by
    have hg' := of_decide_eq_true hg
    have e := rdC_4_one (l := v) (by omega) (by omega)
    rw [cuV_yes (by rw [e]; simp), e]
/-- The text of a piece of a text. -/
theorem str_piece (t : List Nat) (a b : Nat) : (str t).extract a b = str ((t.take b).drop a) := by
  rw [Lib.extract_eq, show (str t).data.toList = t.map UInt8.ofNat by simp [str], ← List.map_drop, ← List.map_take, List.drop_take]
  rfl
theorem piece_drop (t : List Nat) (i a b : Nat) : (t.take (i + b)).drop (i + a) = ((t.drop i).take b).drop a := by
  rw [List.drop_take, List.drop_take, List.drop_drop]
  congr 1
  omega
end Go.Proofs.YtfbjodbihenmjaaGreatDoor

namespace Go.Proofs.YtfbjodbihenmjaaGreatDoor
open Go.RowKit

/-- May the character at a place stand for itself? -/
def sfB (l : List Int) (k : Nat) : Bool := decide (32 ≤ nthI l k ∧ nthI l k ≤ 126) && !decide (0 < k ∧ nthI l (k - 1) = 61 ∧ nthI l k = 63)
/-- May all? -/
def sfV (l : List Int) : Bool := (List.range l.length).all (sfB l)
theorem sfV_no {l : List Int} {k : Nat} (h : k < l.length) (hb : sfB l k = false) : sfV l = false := by
  unfold sfV
  rw [List.all_eq_false]
  exact ⟨k, List.mem_range.2 h, by rw [hb]; simp⟩
theorem sfV_yes {l : List Int} (h : ∀ k, k < l.length → sfB l k = true) : sfV l = true := by
  unfold sfV
  rw [List.all_eq_true]
  exact fun k hk => h k (List.mem_range.1 hk)

set_option maxHeartbeats 1600000 in
set_option maxRecDepth 100000 in
theorem l4Self_any (a : Option Addr) (n cap : Nat) (l : List Int) (w : World) (hl : l.length = n) (hr : RdI w a l) (hn : n ≤ 1048576) :
    Calls Tryz.prog 79 #[.slice a n cap] w fun e w' => e = .returned (.bool (sfV l)) ∧ w = w' := by
  have HL : Hid (l.length = n) := hl
  clear hl
  go_enter Tryz.func79, Tryz.ntmps79
  go_wp2
  go_loop [3] (fun v => ∃ k : Nat, k ≤ n ∧ v = .int .i64 k ∧ Hid (∀ i, i < k → sfB l i = true)) (fun v => n - (intOf v).toNat)
  case atStart => exact ⟨0, Nat.zero_le _, rfl, fun i hi => absurd hi (Nat.not_lt_zero _)⟩
  case round =>
    obtain ⟨k, hk, rfl, HA⟩ := hrel
    by_cases hkn : k < n
    · have hki : (k : Int) < (n : Int) := by omega
      obtain ⟨b, off, rfl, hblt, hcell⟩ := hr.at_ (by have := HL.out; omega)
      have hc := hcell k (by have := HL.out; omega)
      have HN : Hid (sfB l k = false → sfV l = false) := fun h => sfV_no (by have := HL.out; omega) h
      have HY : Hid (sfB l k = true → ∀ i, i < k + 1 → sfB l i = true) := fun h i hi => by
        by_cases he : i = k
        · rw [he]; exact h
        · exact HA.out i (by omega)
      have HD : Hid (sfB l k = (decide (32 ≤ nthI l k ∧ nthI l k ≤ 126) && !decide (0 < k ∧ nthI l (k - 1) = 61 ∧ nthI l k = 63))) := rfl
      clear HA
      by_cases h0 : 0 < k
      · obtain ⟨j, rfl⟩ : ∃ j, k = j + 1 := ⟨k - 1, by omega⟩
        have hd := hcell j (by have := HL.out; omega)
        rw [show j + 1 - 1 = j by omega] at HD
        clear hcell
        generalize sfB l (j + 1) = r at *
        generalize nthI l (j + 1) = x at *
        generalize nthI l j = y at *
        by_cases hx : 32 ≤ x ∧ x ≤ 126
        · have hx' : decide (32 ≤ x ∧ x ≤ 126) = true := decide_eq_true hx
          by_cases hy : y = 61
          · by_cases hz : x = 63
            · have HM : Hid (_) := HN.out (by rw [HD.out, hx', decide_eq_true (by omega)]; rfl)
              clear HN HY HD hx
              subst hy hz
              go_wp2_with fail
              refine (l1In_any _ _ _ _).mono ?_
              rintro e w' ⟨rfl, rfl⟩
              rw [hx']
              go_wp2
              go_ret
              exact ⟨by rw [HM.out]; rfl, rfl⟩
            · have HM : Hid (_) := HY.out (by rw [HD.out, hx', decide_eq_false (by omega)]; rfl)
              have hz' : (x == 63) = false := by simp [hz]
              clear HN HY HD hx
              subst hy
              go_wp2_with fail
              refine (l1In_any _ _ _ _).mono ?_
              rintro e w' ⟨rfl, rfl⟩
              rw [hx']
              go_wp2
              go_round
              case rel => exact ⟨j + 1 + 1, by omega, by go_num, HM⟩
              case measure => simp [intOf]; omega
          · have HM : Hid (_) := HY.out (by rw [HD.out, hx', decide_eq_false (by omega)]; rfl)
            have hy' : (y == 61) = false := by simp [hy]
            clear HN HY HD hx
            go_wp2_with fail
            refine (l1In_any _ _ _ _).mono ?_
            rintro e w' ⟨rfl, rfl⟩
            rw [hx']
            go_wp2
            go_round
            case rel => exact ⟨j + 1 + 1, by omega, by go_num, HM⟩
            case measure => simp [intOf]; omega
        · have hx' : decide (32 ≤ x ∧ x ≤ 126) = false := decide_eq_false hx
          have HM : Hid (_) := HN.out (by rw [HD.out, hx']; rfl)
          clear HN HY HD hx
          go_wp2_with fail
          refine (l1In_any _ _ _ _).mono ?_
          rintro e w' ⟨rfl, rfl⟩
          rw [hx']
          go_wp2
          go_ret
          exact ⟨by rw [HM.out]; rfl, rfl⟩
      · obtain rfl : k = 0 := by omega
        clear hcell
        rw [Nat.add_zero] at hc
        generalize sfB l 0 = r at *
        generalize nthI l 0 = x at *
        by_cases hx : 32 ≤ x ∧ x ≤ 126
        · have hx' : decide (32 ≤ x ∧ x ≤ 126) = true := decide_eq_true hx
          have HM : Hid (_) := HY.out (by rw [HD.out, hx', decide_eq_false (by omega)]; rfl)
          clear HN HY HD hx
          go_wp2_with fail
          refine (l1In_any _ _ _ _).mono ?_
          rintro e w' ⟨rfl, rfl⟩
          rw [hx']
          go_wp2
          go_round
          case rel => exact ⟨0 + 1, by omega, by go_num, HM⟩
          case measure => simp [intOf]; omega
        · have hx' : decide (32 ≤ x ∧ x ≤ 126) = false := decide_eq_false hx
          have HM : Hid (_) := HN.out (by rw [HD.out, hx']; rfl)
          clear HN HY HD hx
          go_wp2_with fail
          refine (l1In_any _ _ _ _).mono ?_
          rintro e w' ⟨rfl, rfl⟩
          rw [hx']
          go_wp2
          go_ret
          exact ⟨by rw [HM.out]; rfl, rfl⟩
    · have hki : ¬ (k : Int) < (n : Int) := by omega
      have HM : Hid (sfV l = true) := sfV_yes (fun i hi => HA.out i (by have := HL.out; omega))
      go_wp2
      go_ret
      exact ⟨by rw [HM.out]; rfl, rfl⟩
end Go.Proofs.YtfbjodbihenmjaaGreatDoor

namespace Go.Proofs.YtfbjodbihenmjaaGreatDoor
open Go.RowKit

/-- A blank, or a byte that is seen. -/
def bosB (c : Nat) : Bool := decide (32 ≤ c ∧ c ≤ 126)
/-- Is there `=?`? -/
def eqq : List Nat → Bool
  | [] => false
  | a :: r => (decide (a = 61 ∧ nth r 0 = 63)) || eqq r
theorem nth_cons (a : Nat) (r : List Nat) (k : Nat) : nth (a :: r) (k + 1) = nth r k := by simp [nth]
theorem nth_head (a : Nat) (r : List Nat) : nth (a :: r) 0 = a := by simp [nth]
theorem nth_out {l : List Nat} {k : Nat} (h : l.length ≤ k) : nth l k = 0 := by
  unfold nth; rw [List.getD_eq_getElem?_getD, List.getElem?_eq_none h]; rfl
theorem eqq_iff : ∀ t : List Nat, eqq t = true ↔ ∃ k, nth t k = 61 ∧ nth t (k + 1) = 63
  | [] => by
    constructor
    · intro h; cases h
    · rintro ⟨k, h, _⟩; rw [nth_out (by simp)] at h; cases h
  | a :: r => by
    rw [eqq, Bool.or_eq_true, decide_eq_true_iff, eqq_iff r]
    constructor
    · rintro (⟨h1, h2⟩ | ⟨k, h1, h2⟩)
      · exact ⟨0, by rw [nth_head]; exact h1, by rw [nth_cons]; exact h2⟩
      · exact ⟨k + 1, by rw [nth_cons]; exact h1, by rw [nth_cons]; exact h2⟩
    · rintro ⟨k, h1, h2⟩
      cases k with
      | zero => left; rw [nth_head] at h1; rw [nth_cons] at h2; exact ⟨h1, h2⟩
      | succ k => right; rw [nth_cons] at h1 h2; exact ⟨k, h1, h2⟩
theorem pre2 (a : Nat) (r : List Nat) (hB : IsB (a :: r)) : ([(61 : UInt8), 63].isPrefixOf ((a :: r).map UInt8.ofNat)) = decide (a = 61 ∧ nth r 0 = 63) := by
  have ha := hB a (by simp)
  have e1 : ∀ x c : Nat, x < 256 → c < 256 → (UInt8.ofNat c == UInt8.ofNat x) = decide (x = c) := fun x c hx hc => by
    rw [Bool.eq_iff_iff, beq_iff_eq, decide_eq_true_iff]
    constructor
    · intro h
      have := congrArg UInt8.toNat h
      rw [UInt8.toNat_ofNat', UInt8.toNat_ofNat'] at this
      omega
    · intro h; rw [h]
  match r, hB with
  | [], _ =>
    rw [decide_eq_false (by intro h; have := h.2; rw [nth_out (by simp)] at this; cases this)]
    rw [List.map_cons, List.map_nil, List.isPrefixOf_cons_cons]
    simp
  | b :: r, hB =>
    have hb := hB b (by simp)
    rw [List.map_cons, List.map_cons, List.isPrefixOf_cons_cons, List.isPrefixOf_cons_cons, List.isPrefixOf_nil_left, Bool.and_true, nth_head]
    have h1 := e1 a 61 ha (by omega)
    have h2 := e1 b 63 hb (by omega)
    rw [show (UInt8.ofNat 61) = (61 : UInt8) from rfl] at h1
    rw [show (UInt8.ofNat 63) = (63 : UInt8) from rfl] at h2
    rw [h1, h2, Bool.eq_iff_iff]
    simp
theorem contains_eqq : ∀ t : List Nat, IsB t → Lib.contains (t.map UInt8.ofNat) [61, 63] = eqq t
  | [], _ => rfl
  | a :: r, hB => by
    have ih := contains_eqq r (fun x hx => hB x (by simp [hx]))
    have hp := pre2 a r hB
    rw [eqq, ← hp, ← ih]
    unfold Lib.contains
    rw [List.map_cons] at *
    rw [Lib.index]
    have hge := Lib.index_ge (r.map UInt8.ofNat) [61, 63]
    cases h : ([(61 : UInt8), 63].isPrefixOf (UInt8.ofNat a :: r.map UInt8.ofNat)) with
    | true => simp
    | false =>
      simp only [Bool.false_eq_true, if_false, Bool.false_or]
      by_cases hm : Lib.index (r.map UInt8.ofNat) [61, 63] = -1
      · rw [hm]; rfl
      · rw [if_neg (by simp [hm])]
        exact decide_eq_decide.2 (by omega)

theorem nthI_out {l : List Int} {k : Nat} (h : l.length ≤ k) : nthI l k = 0 := by
  unfold nthI; rw [List.getD_eq_getElem?_getD, List.getElem?_eq_none h]; rfl
theorem nthI_toNat (l : List Int) (k : Nat) : nth (l.map Int.toNat) k = (nthI l k).toNat := by
  unfold nth nthI
  rw [List.getD_eq_getElem?_getD, List.getD_eq_getElem?_getD, List.getElem?_map]
  cases l[k]? <;> rfl
/-- A character that may stand for itself. -/
def slfB (c : Int) : Bool := decide (32 ≤ c ∧ c ≤ 126)
theorem sfV_eq (l : List Int) : sfV l = (l.all slfB && !eqq (l.map Int.toNat)) := by
  rw [Bool.eq_iff_iff, Bool.and_eq_true, Bool.not_eq_true', ← Bool.not_eq_true, eqq_iff]
  unfold sfV
  rw [List.all_eq_true, List.all_eq_true]
  constructor
  · intro h
    refine ⟨fun x hx => ?_, ?_⟩
    · obtain ⟨k, hk, rfl⟩ := List.getElem_of_mem hx
      have := h k (List.mem_range.2 hk)
      unfold sfB at this
      rw [Bool.and_eq_true] at this
      have h1 := of_decide_eq_true this.1
      rw [nthI_get hk] at h1
      exact decide_eq_true h1
    · rintro ⟨k, h1, h2⟩
      rw [nthI_toNat] at h1 h2
      by_cases hk : k + 1 < l.length
      · have := h (k + 1) (List.mem_range.2 hk)
        unfold sfB at this
        rw [Bool.and_eq_true, Bool.not_eq_true', decide_eq_false_iff_not] at this
        exact this.2 ⟨by omega, by rw [show k + 1 - 1 = k by omega]; omega, by omega⟩
      · rw [nthI_out (by omega)] at h2; cases h2
  · rintro ⟨h1, h2⟩ k hk
    have hk := List.mem_range.1 hk
    unfold sfB
    rw [Bool.and_eq_true, Bool.not_eq_true', decide_eq_false_iff_not]
    have hx := of_decide_eq_true (h1 (nthI l k) (by rw [nthI_get hk]; exact List.getElem_mem hk))
    refine ⟨decide_eq_true hx, ?_⟩
    rintro ⟨h0, h3, h4⟩
    refine h2 ⟨k - 1, ?_, ?_⟩
    · rw [nthI_toNat, h3]; rfl
    · rw [nthI_toNat, show k - 1 + 1 = k by omega, h4]; rfl
theorem tell4 (c : Int) : tellL 4 c = u8L c.toNat := by unfold tellL; rw [if_neg (by decide), if_pos rfl]
theorem u8_self {c : Int} (h : slfB c = true) : tellL 4 c = [c.toNat] := by
  have h' := of_decide_eq_true h
  rw [tell4]; unfold u8L; rw [if_pos (by omega)]
theorem u8_bos {c : Int} (hc : chr c = true) : (tellL 4 c).all bosB = slfB c := by
  have h := chr_iff.1 hc
  rw [tell4]
  unfold u8L
  by_cases h1 : c.toNat < 128
  · rw [if_pos h1, List.all_cons, List.all_nil, Bool.and_true]
    exact decide_eq_decide.2 (by omega)
  · have hs : slfB c = false := decide_eq_false (by omega)
    rw [if_neg h1, hs]
    split
    · rw [List.all_cons, show bosB (192 + c.toNat / 64) = false from decide_eq_false (by omega)]; rfl
    · rw [List.all_cons, show bosB (224 + c.toNat / 4096) = false from decide_eq_false (by omega)]; rfl
theorem flat_bos : ∀ l : List Int, (∀ x ∈ l, chr x = true) → (l.flatMap (tellL 4)).all bosB = l.all slfB
  | [], _ => rfl
  | c :: l, h => by
    rw [List.flatMap_cons, List.all_append, u8_bos (h c (by simp)), flat_bos l (fun x hx => h x (by simp [hx])), List.all_cons]
theorem flat_self : ∀ l : List Int, l.all slfB = true → l.flatMap (tellL 4) = l.map Int.toNat
  | [], _ => rfl
  | c :: l, h => by
    rw [List.all_cons, Bool.and_eq_true] at h
    rw [List.flatMap_cons, u8_self h.1, flat_self l h.2]; rfl
theorem self_bytes (l : List Int) (h : ∀ x ∈ l, chr x = true) : ((l.flatMap (tellL 4)).all bosB && !eqq (l.flatMap (tellL 4))) = sfV l := by
  rw [sfV_eq, flat_bos l h]
  cases ha : l.all slfB with
  | false => rfl
  | true => rw [flat_self l ha]
/-- The letters around a told word. -/
def twB : List Nat := [61, 63, 117, 116, 102, 45, 56, 63, 66, 63]
/-- One told word. -/
def toldW (o : List Nat) : List Nat := (twB ++ Xf.enc o) ++ [63, 61]
theorem toldW_len (o : List Nat) : (toldW o).length = (Xf.enc o).length + 12 := by
  unfold toldW twB
  rw [List.length_append, List.length_append]
  simp only [List.length_cons, List.length_nil]
  omega
/-- What EncodeWords answers. -/
def ewV (l : List Int) : Int × List Nat := if (encT 4 l).1 = 0 then (if sfV l then (0, (encT 4 l).2) else if 400 < (toldW (encT 4 l).2).length then (2, []) else (0, toldW (encT 4 l).2)) else ((encT 4 l).1, [])
theorem ewV_bad {l : List Int} (h : (encT 4 l).1 ≠ 0) : ewV l = ((encT 4 l).1, []) := if_neg h
theorem ewV_self {l : List Int} (h : (encT 4 l).1 = 0) (hs : sfV l = true) : ewV l = (0, (encT 4 l).2) := by unfold ewV; rw [if_pos h, if_pos hs]
theorem ewV_many {l : List Int} (h : (encT 4 l).1 = 0) (hs : sfV l = false) (h4 : 400 < (toldW (encT 4 l).2).length) : ewV l = (2, []) := by unfold ewV; rw [if_pos h, hs, if_neg (by simp), if_pos h4]
theorem ewV_told {l : List Int} (h : (encT 4 l).1 = 0) (hs : sfV l = false) (h4 : ¬ 400 < (toldW (encT 4 l).2).length) : ewV l = (0, toldW (encT 4 l).2) := by unfold ewV; rw [if_pos h, hs, if_neg (by simp), if_neg h4]
/-- What stands behind an answer without a code. -/
theorem encT_zero {l : List Int} (h : (encT 4 l).1 = 0) : flt l = 0 ∧ (encT 4 l).2 = l.flatMap (tellL 4) ∧ (encT 4 l).2.length ≤ 400 := by
  by_cases hf : flt l = 0
  · rw [encT_ok (by omega) hf] at h ⊢
    refine ⟨hf, ?_⟩
    cases ha : l.all (hasC 4) with
    | false => rw [encV_bad ha] at h; cases h
    | true =>
      by_cases h4 : 400 < (l.flatMap (tellL 4)).length
      · rw [encV_many ha h4] at h; cases h
      · rw [encV_ok ha h4]; exact ⟨rfl, by simp only; omega⟩
  · rw [encT_fault (by omega) hf] at h; exact absurd h hf
theorem u8L_isB (k : Nat) (h : k ≤ 65535) : IsB (u8L k) := by
  unfold u8L
  split
  · intro b hb; simp only [List.mem_cons, List.not_mem_nil, or_false] at hb; omega
  · split
    · intro b hb; simp only [List.mem_cons, List.not_mem_nil, or_false] at hb; omega
    · intro b hb; simp only [List.mem_cons, List.not_mem_nil, or_false] at hb; omega
theorem encT_isB {l : List Int} (h : (encT 4 l).1 = 0) : IsB (encT 4 l).2 := by
  obtain ⟨hf, he, _⟩ := encT_zero h
  rw [he]
  intro b hb
  obtain ⟨c, hc, hb⟩ := List.mem_flatMap.1 hb
  have := chr_iff.1 ((flt_zero hf).2 c hc)
  rw [tell4] at hb
  exact u8L_isB c.toNat (by omega) b hb
end Go.Proofs.YtfbjodbihenmjaaGreatDoor

namespace Go.Proofs.YtfbjodbihenmjaaGreatDoor
open Go.RowKit

theorem u8_neW {b c : Nat} (hb : b < 256) (hc : c < 256) (h : b ≠ c) : (UInt8.ofNat b == UInt8.ofNat c) = false := by
  rw [beq_eq_false_iff_ne]
  intro e
  have := congrArg UInt8.toNat e
  rw [UInt8.toNat_ofNat', UInt8.toNat_ofNat'] at this
  omega
theorem idx_natW {c : Nat} (hc : c < 256) {p : Nat → Bool} (hp : ∀ b, p b = decide (b ≠ c)) : ∀ l : List Nat, IsB l → Lib.indexByte (l.map UInt8.ofNat) (UInt8.ofNat c) = if (l.takeWhile p).length < l.length then ((l.takeWhile p).length : Int) else -1
  | [], _ => rfl
  | b :: l, h => by
    have hb := h b (by simp)
    have ih := idx_natW hc hp l (fun x hx => h x (by simp [hx]))
    rw [List.map_cons, Lib.indexByte, List.takeWhile_cons, hp b]
    by_cases e : b = c
    · subst e
      simp
    · rw [u8_neW hb hc e, decide_eq_true e]
      simp only [if_true, List.length_cons, Bool.false_eq_true, if_false]
      by_cases hl : (l.takeWhile p).length < l.length
      · have ih' := ih.trans (if_pos hl)
        rw [ih', if_pos (show (l.takeWhile p).length + 1 < l.length + 1 by omega), if_neg (by simp)]
        omega
      · have ih' := ih.trans (if_neg hl)
        rw [ih', if_neg (show ¬ (l.takeWhile p).length + 1 < l.length + 1 by omega), if_pos (by simp)]
theorem tw_split {p : Nat → Bool} : ∀ l : List Nat, (l.takeWhile p).length < l.length → ∃ x r, l = l.takeWhile p ++ x :: r ∧ p x = false ∧ l.drop ((l.takeWhile p).length + 1) = r ∧ l.take (l.takeWhile p).length = l.takeWhile p
  | [], h => by simp at h
  | b :: l, h => by
    rw [List.takeWhile_cons] at h ⊢
    cases e : p b with
    | false => exact ⟨b, l, by simp, e, by simp, by simp⟩
    | true =>
      rw [e] at h
      simp only [if_true, List.length_cons] at h ⊢
      obtain ⟨x, r, h1, h2, h3, h4⟩ := tw_split (p := p) l (by omega)
      refine ⟨x, r, ?_, h2, ?_, ?_⟩
      · rw [List.cons_append, ← h1]
      · rw [List.drop_succ_cons]; exact h3
      · rw [List.take_succ_cons, h4]
theorem tw_all {p : Nat → Bool} : ∀ l : List Nat, ¬ (l.takeWhile p).length < l.length → l.all p = true
  | [], _ => rfl
  | b :: l, h => by
    rw [List.takeWhile_cons] at h
    cases e : p b with
    | false => rw [e] at h; simp at h
    | true =>
      rw [e] at h
      simp only [if_true, List.length_cons] at h
      rw [List.all_cons, e, tw_all l (by omega)]; rfl
theorem tw_allp (p : Nat → Bool) (l : List Nat) : (l.takeWhile p).all p = true := by
  rw [List.all_eq_true]
  intro x hx
  induction l with
  | nil => cases hx
  | cons b l ih =>
    rw [List.takeWhile_cons] at hx
    cases e : p b with
    | false => rw [e] at hx; cases hx
    | true =>
      rw [e] at hx
      rcases List.mem_cons.1 hx with rfl | hx
      · exact e
      · exact ih hx
end Go.Proofs.YtfbjodbihenmjaaGreatDoor

namespace Go.Proofs.YtfbjodbihenmjaaGreatDoor
open Go.RowKit

/-- No letter for a blank. -/
def noUs (c : Nat) : Bool := decide (c ≠ 95)
theorem repU_none {l : List Nat} (h : l.all noUs = true) : repU l = l := by
  induction l with
  | nil => rfl
  | cons c l ih =>
    rw [List.all_cons, Bool.and_eq_true] at h
    have hc := of_decide_eq_true h.1
    rw [repU_cons, if_neg hc, ih h.2]; rfl
theorem repU_app (a b : List Nat) : repU (a ++ b) = repU a ++ repU b := by simp [repU, List.flatMap_append]
theorem replK : ∀ (k : Nat) (t : List Nat), IsB t → (Lib.countByte (t.map UInt8.ofNat) 95) = k → Lib.replaceK [95] [61, 50, 48] k (t.map UInt8.ofNat) = (repU t).map UInt8.ofNat := by
  intro k
  induction k with
  | zero =>
    intro t hB hc
    have hall : t.all noUs = true := by
      rw [List.all_eq_true]
      intro x hx
      refine decide_eq_true (fun e => ?_)
      subst e
      have h0 : List.count (95 : UInt8) (t.map UInt8.ofNat) = 0 := hc
      rw [List.count_eq_zero] at h0
      exact h0 (List.mem_map.2 ⟨95, hx, rfl⟩)
    rw [repU_none hall]
    rfl
  | succ k ih =>
    intro t hB hc
    have hi := idx_natW (c := 95) (by omega) (p := noUs) (fun b => rfl) t hB
    rw [show (UInt8.ofNat 95) = (95 : UInt8) from rfl] at hi
    by_cases hl : (t.takeWhile noUs).length < t.length
    · rw [if_pos hl] at hi
      obtain ⟨x, r, h1, h2, h3, h4⟩ := tw_split t hl
      have hx : x = 95 := by
        have := of_decide_eq_false h2
        omega
      subst hx
      rw [Lib.replaceK_hit _ _ k _ (t.takeWhile noUs).length (by rw [Lib.index_one]; exact hi), ← List.map_take, ← List.map_drop, h4]
      rw [show (t.takeWhile noUs).length + [(95 : UInt8)].length = (t.takeWhile noUs).length + 1 from rfl, h3]
      have hBr : IsB r := fun y hy => hB y (by rw [h1]; simp [hy])
      have hcr : Lib.countByte (r.map UInt8.ofNat) 95 = k := by
        have h5 : List.count (95 : UInt8) (t.map UInt8.ofNat) = k + 1 := hc
        rw [h1, List.map_append, List.map_cons, List.count_append, List.count_cons] at h5
        have h6 : List.count (95 : UInt8) ((t.takeWhile noUs).map UInt8.ofNat) = 0 := by
          rw [List.count_eq_zero]
          intro hm
          obtain ⟨y, hy, e⟩ := List.mem_map.1 hm
          have hy' := of_decide_eq_true (List.all_eq_true.1 (tw_allp noUs t) y hy)
          have hyB := hB y (by rw [h1]; simp [hy])
          have := u8_neW hyB (by omega : (95 : Nat) < 256) hy'
          rw [show (UInt8.ofNat 95) = (95 : UInt8) from rfl, e] at this
          simp at this
        rw [h6] at h5
        have h7 : ((UInt8.ofNat 95 == (95 : UInt8)) = true) := rfl
        rw [if_pos h7] at h5
        show List.count (95 : UInt8) (r.map UInt8.ofNat) = k
        omega
      rw [ih r hBr hcr]
      conv => rhs; rw [h1]
      rw [repU_app, repU_cons, if_pos rfl, repU_none (tw_allp noUs t), List.map_append, List.map_append, List.append_assoc]
      rfl
    · exfalso
      have hall := tw_all t hl
      have h0 : List.count (95 : UInt8) (t.map UInt8.ofNat) = 0 := by
        rw [List.count_eq_zero]
        intro hm
        obtain ⟨y, hy, e⟩ := List.mem_map.1 hm
        have hy' := of_decide_eq_true (List.all_eq_true.1 hall y hy)
        have := u8_neW (hB y hy) (by omega : (95 : Nat) < 256) hy'
        rw [show (UInt8.ofNat 95) = (95 : UInt8) from rfl, e] at this
        simp at this
      have h5 : List.count (95 : UInt8) (t.map UInt8.ofNat) = k + 1 := hc
      omega
theorem replAll (t : List Nat) (hB : IsB t) : (⟨(Lib.replaceAll (str t).data.toList [95] [61, 50, 48]).toArray⟩ : ByteArray) = str (repU t) := by
  have e : (str t).data.toList = t.map UInt8.ofNat := by simp [str]
  rw [e]
  unfold Lib.replaceAll Lib.replace
  rw [if_neg (by decide)]
  unfold Lib.replaceNum
  rw [if_pos (.inl (by decide)), Lib.count_one]
  have hk := replK _ t hB rfl
  unfold Lib.countByte at hk
  rw [hk]
  rfl
theorem repU_len : ∀ t : List Nat, (repU t).length ≤ 3 * t.length
  | [] => by simp [repU]
  | c :: t => by
    have := repU_len t
    rw [repU_cons, List.length_append, List.length_cons]
    split
    · simp only [List.length_cons, List.length_nil]; omega
    · simp only [List.length_cons, List.length_nil]; omega
theorem repU_isB {t : List Nat} (hB : IsB t) : IsB (repU t) := by
  intro b hb
  unfold repU at hb
  obtain ⟨c, hc, hb⟩ := List.mem_flatMap.1 hb
  split at hb
  · simp only [List.mem_cons, List.not_mem_nil, or_false] at hb; omega
  · simp only [List.mem_cons, List.not_mem_nil, or_false] at hb; rw [hb]; exact hB c hc

/-- A text cut at its first question marks. -/
def spl : Nat → List Nat → List (List Nat)
  | 0, v => [v]
  | k + 1, v => if (v.takeWhile noQu).length < v.length then v.takeWhile noQu :: spl k (v.drop ((v.takeWhile noQu).length + 1)) else [v]
theorem splB (k : Nat) : ∀ v : List Nat, IsB v → Lib.splitB ⟨#[63]⟩ 0 k (str v) = (spl k v).map str := by
  induction k with
  | zero => intro v _; rfl
  | succ k ih =>
    intro v hB
    have hi := idx_natW (c := 63) (by omega) (p := noQu) (fun b => rfl) v hB
    rw [show (UInt8.ofNat 63) = (63 : UInt8) from rfl] at hi
    have e : Lib.indexB (str v) ⟨#[63]⟩ = Lib.indexByte (v.map UInt8.ofNat) 63 := by
      rw [← Lib.index_one]
      show Lib.index (str v).data.toList [63] = _
      rw [show (str v).data.toList = v.map UInt8.ofNat by simp [str]]
    unfold spl
    by_cases hl : (v.takeWhile noQu).length < v.length
    · rw [if_pos hl] at hi ⊢
      rw [Lib.splitB_hit _ _ _ _ (v.takeWhile noQu).length (e.trans hi), List.map_cons]
      obtain ⟨x, r, h1, h2, h3, h4⟩ := tw_split v hl
      rw [str_piece, str_piece, str_size, List.take_length, List.drop_zero, Nat.add_zero, h4]
      rw [show (v.takeWhile noQu).length + (⟨#[63]⟩ : ByteArray).size = (v.takeWhile noQu).length + 1 from rfl, ih _ (isB_drop hB _)]
    · rw [if_neg hl] at hi ⊢
      rw [Lib.splitB_miss _ _ _ _ (e.trans hi)]
      rfl
end Go.Proofs.YtfbjodbihenmjaaGreatDoor
