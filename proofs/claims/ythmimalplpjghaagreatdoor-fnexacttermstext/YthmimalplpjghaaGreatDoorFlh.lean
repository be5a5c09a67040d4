/- The words of flags: the model's side; no conditions beyond those that each fact names. -/
import Derived.Test.YthmimalplpjghaaGreatDoorFlg
namespace Go.Proofs.YthmimalplpjghaaGreatDoor
open Go.RowKit

set_option maxHeartbeats 800000 in
set_option maxRecDepth 100000 in
theorem l7FlagName_any (j : Nat) (w : World) (hj : j < 4) :
    Calls Tryz.prog 194 #[.int .i64 (j : Int)] w fun e w' => e = .returned (.string (str (flL.getD j []))) ∧ Below w.heap.size w w' := by
  obtain rfl | rfl | rfl | rfl : j = 0 ∨ j = 1 ∨ j = 2 ∨ j = 3 := by omega
  all_goals
    go_enter Tryz.func194, Tryz.ntmps194
    go_wp2
    go_ret
    exact ⟨rfl, by go_grown⟩

/-- The model's text below the place j. -/
def otL (k : Nat) : Nat → List Nat
  | 0 => []
  | j + 1 => if k.testBit j = true then (if otL k j = [] then flL.getD j [] else (otL k j ++ [32]) ++ flL.getD j []) else otL k j
theorem otFacts : ∀ k : Nat, k < 16 → (∀ j : Nat, j < 5 → (otL k j).length ≤ 60) ∧ (if otL k 4 = [] then [110, 111, 110, 101] else otL k 4) = fxL k ∧ ∀ j : Nat, j < 4 → ((k : Int) / 2 ^ j).tmod 2 = if k.testBit j = true then 1 else 0 := by decide +kernel
theorem flLen : ∀ j : Nat, j < 4 → (flL.getD j []).length ≤ 10 := by decide
theorem strF_app (a b : List Nat) : str a ++ str b = str (a ++ b) := by
  have h : (str a ++ str b).data = (str (a ++ b)).data := by
    rw [ByteArray.data_append]
    simp [str]
  exact congrArg ByteArray.mk h
theorem str_emp {a : List Nat} : (str a).toList.isEmpty = decide (a = []) := by
  rw [ByteArray.toList_eq]
  cases a <;> simp [str]

set_option maxHeartbeats 1600000 in
set_option maxRecDepth 100000 in
theorem l7Flags_any (k : Nat) (w : World) (hk : k < 16) :
    Calls Tryz.prog 144 #[.int .i64 (k : Int)] w fun e w' => e = .returned (.string (str (fxL k))) ∧ Below w.heap.size w w' := by
  obtain ⟨h1, h2, h3⟩ := otFacts k hk
  have HL : Hid (∀ j : Nat, j < 5 → (otL k j).length ≤ 60) := h1
  have HE : Hid ((if otL k 4 = [] then [110, 111, 110, 101] else otL k 4) = fxL k) := h2
  have HT : Hid (∀ j : Nat, j < 4 → ((k : Int) / 2 ^ j).tmod 2 = if k.testBit j = true then 1 else 0) := h3
  clear h1 h2 h3
  obtain ⟨r, hr⟩ : ∃ r, str (fxL k) = r := ⟨_, rfl⟩
  have HM : Hid (str (fxL k) = r) := hr
  rw [hr]
  clear hr
  go_enter Tryz.func144, Tryz.ntmps144
  go_wp2_with fail
  go_loopw [3, 4] (fun q i wr => ∃ j : Nat, j ≤ 4 ∧ i = .int .i64 j ∧ q = .string (str (otL k j)) ∧ Below w.heap.size w wr) (fun _ i _ => 4 - (intOf i).toNat)
  case atStart => exact ⟨0, Nat.zero_le _, rfl, rfl, Below.refl _ _⟩
  case round =>
    obtain ⟨j, hj, rfl, rfl, hbel⟩ := hrel
    by_cases hj4 : j < 4
    · have hji : (j : Int) < 4 := by omega
      have hz := HL.out j (by omega)
      have ht := HT.out j hj4
      have HC := l7FlagName_any j wr hj4
      have hfl := flLen j hj4
      have HS : Hid (otL k (j + 1) = if k.testBit j = true then (if otL k j = [] then flL.getD j [] else (otL k j ++ [32]) ++ flL.getD j []) else otL k j) := rfl
      have hsz : (str (otL k j)).size ≤ 60 := by rw [str_size]; exact hz
      have hfz : (str (flL.getD j [])).size ≤ 10 := by rw [str_size]; exact hfl
      cases hbit : k.testBit j with
      | true =>
        have hb : ¬ ((k : Int) / 2 ^ j).tmod 2 = 0 := by rw [ht, hbit]; decide
        by_cases he : otL k j = []
        · have HW : Hid (str (otL k (j + 1)) = str (flL.getD j [])) := by show _ = _; rw [HS.out, hbit, if_pos rfl, if_pos he]
          have he' : (str (otL k j)).toList.isEmpty = true := by rw [str_emp]; exact decide_eq_true he
          have he2 : (str (otL k j)).toList = [] := List.isEmpty_iff.1 he'
          have HO : Hid (str (otL k j) ++ str (flL.getD j []) = str (flL.getD j [])) := by show _ = _; rw [strF_app, he]; rfl
          clear HS HT HL HE ht hz hfl hbit he
          generalize str (otL k j) = o at *
          generalize str (flL.getD j []) = f at *
          go_wp2_with fail
          refine HC.mono ?_
          rintro e w2 ⟨rfl, hb2⟩
          have hbel2 := hbel.trans (hb2.mono hbel.size)
          clear HC
          go_wp2
          go_roundw
          case rel => exact ⟨j + 1, by omega, by go_num, by rw [HW.out, HO.out], hbel2⟩
          case measure => simp [intOf]; omega
        · have HW : Hid (str (otL k (j + 1)) = str ((otL k j ++ [32]) ++ flL.getD j [])) := by show _ = _; rw [HS.out, hbit, if_pos rfl, if_neg he]
          have he' : (str (otL k j)).toList.isEmpty = false := by rw [str_emp]; exact decide_eq_false he
          have he2 : ¬ (str (otL k j)).toList = [] := List.isEmpty_eq_false_iff.1 he'
          have HO : Hid ((str (otL k j) ++ ⟨#[32]⟩) ++ str (flL.getD j []) = str ((otL k j ++ [32]) ++ flL.getD j [])) := by
            show _ = _
            rw [← strF_app, ← strF_app]; rfl
          clear HS HT HL HE ht hz hfl hbit he
          generalize str ((otL k j ++ [32]) ++ flL.getD j []) = o2 at *
          generalize str (otL k j) = o at *
          generalize str (flL.getD j []) = f at *
          have hsz2 : (o ++ (⟨#[32]⟩ : ByteArray)).size ≤ 61 := by rw [ByteArray.size_append]; have : (⟨#[32]⟩ : ByteArray).size = 1 := rfl; omega
          go_wp2_with fail
          refine HC.mono ?_
          rintro e w2 ⟨rfl, hb2⟩
          have hbel2 := hbel.trans (hb2.mono hbel.size)
          clear HC
          go_wp2
          go_roundw
          case rel => exact ⟨j + 1, by omega, by go_num, by rw [HW.out, ← HO.out], hbel2⟩
          case measure => simp [intOf]; omega
      | false =>
        have hb : ((k : Int) / 2 ^ j).tmod 2 = 0 := by rw [ht, hbit]; rfl
        have HW : Hid (str (otL k (j + 1)) = str (otL k j)) := by show _ = _; rw [HS.out, hbit]; rfl
        clear HS HT HL HE ht hz hfl hbit
        generalize str (otL k j) = o at *
        go_wp2
        go_roundw
        case rel => exact ⟨j + 1, by omega, by go_num, by rw [HW.out], hbel⟩
        case measure => simp [intOf]; omega
    · have hjj : j = 4 := by omega
      subst hjj
      have hji : ¬ ((4 : Nat) : Int) < 4 := by omega
      by_cases he : otL k 4 = []
      · have HR : Hid (r = ⟨#[110, 111, 110, 101]⟩) := by show _ = _; rw [← HM.out, ← HE.out, if_pos he]; rfl
        have he' : (str (otL k 4)).toList.isEmpty = true := by rw [str_emp]; exact decide_eq_true he
        have he2 : (str (otL k 4)).toList = [] := List.isEmpty_iff.1 he'
        clear HM HE HT HL he
        generalize str (otL k 4) = o at *
        go_wp2
        go_ret
        exact ⟨by rw [HR.out]; rfl, hbel⟩
      · have HR : Hid (r = str (otL k 4)) := by show _ = _; rw [← HM.out, ← HE.out, if_neg he]
        have he' : (str (otL k 4)).toList.isEmpty = false := by rw [str_emp]; exact decide_eq_false he
        have he2 : ¬ (str (otL k 4)).toList = [] := List.isEmpty_eq_false_iff.1 he'
        clear HM HE HT HL he
        generalize str (otL k 4) = o at *
        go_wp2
        go_ret
        exact ⟨by rw [HR.out]; rfl, hbel⟩
end Go.Proofs.YthmimalplpjghaaGreatDoor
