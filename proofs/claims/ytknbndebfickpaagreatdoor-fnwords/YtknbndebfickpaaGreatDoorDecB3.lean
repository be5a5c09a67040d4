/- The model's l1Digit and l1Decode: letters read by groups of four, and held against their own text. -/
import Derived.Test.YtknbndebfickpaaGreatDoorDecB2
import Derived.Test.YtknbndebfickpaaGreatDoorEncB3
namespace Go.Proofs.YtknbndebfickpaaGreatDoor
open Go.RowKit

/-- The value of a digit, or -1. -/
def posI (c : Nat) : Int := if Xf.pos c < 64 then (Xf.pos c : Int) else -1
theorem posI_in {c : Nat} (h : Xf.pos c < 64) : posI c = (Xf.pos c : Int) := if_pos h
theorem posI_out {c : Nat} (h : ¬ Xf.pos c < 64) : posI c = -1 := if_neg h

set_option maxHeartbeats 1600000 in
set_option maxRecDepth 100000 in
theorem l1Digit_any (c : Nat) (w : World) : Calls Tryz.prog 87 #[.int .u8 (c : Int)] w fun e w' => e = .returned (.int .i64 (posI c)) ∧ w = w' := by
  have hle := Xf.pos_le c
  go_enter Tryz.func87, Tryz.ntmps87
  go_wp2
  go_loop [3] (fun i => ∃ k : Nat, k ≤ 64 ∧ k ≤ Xf.pos c ∧ i = .int .i64 k) (fun i => 64 - (intOf i).toNat)
  case atStart => exact ⟨0, by omega, by omega, rfl⟩
  case round =>
    obtain ⟨k, hk, hku, rfl⟩ := hrel
    by_cases hk64 : k < 64
    · have hiff := Xf.dig_eq_iff hk64 hku
      have hi : (k : Int) < 64 := by omega
      by_cases he : k = Xf.pos c
      · have e1 : (((Xf.dig k : Nat) : Int) == (c : Int)) = true := by rw [hiff.2 he]; simp
        have H : Hid (posI c = (k : Int)) := by
          show _ = _
          rw [posI_in (by omega), he]
        clear hiff he hku hle
        go_wp2_with fail
        refine (l1Base_int _ k _ rfl hk64).mono ?_
        rintro e w1 ⟨rfl, rfl⟩
        go_wp2
        go_ret
        exact ⟨by rw [H.out]; rfl, rfl⟩
      · have hne : Xf.dig k ≠ c := fun h => he (hiff.1 h)
        have e1 : (((Xf.dig k : Nat) : Int) == (c : Int)) = false := beq_eq_false_iff_ne.2 (by omega)
        have hlt : Hid (k + 1 ≤ Xf.pos c) := by show _ ≤ _; omega
        clear hiff he hku hle hne
        go_wp2_with fail
        refine (l1Base_int _ k _ rfl hk64).mono ?_
        rintro e w1 ⟨rfl, rfl⟩
        go_wp2
        go_round
        case rel => exact ⟨k + 1, by omega, hlt.out, by go_num⟩
        case measure => simp [intOf]; omega
    · have hu : ¬ Xf.pos c < 64 := by omega
      have hi : ¬ (k : Int) < 64 := by omega
      have H : Hid (posI c = -1) := posI_out hu
      clear hu hku hle
      go_wp2
      go_ret
      exact ⟨by rw [H.out]; rfl, rfl⟩

/-- How many letters the model takes as told, step by step. -/
theorem cntS_spec (last : Bool) (x0 x1 x2 x3 : Nat) : 2 ≤ Xf.cntS last x2 x3 ∧ Xf.cntS last x2 x3 ≤ 4 ∧
    (∀ m, Xf.cntS last x2 x3 < m → m ≤ 4 → last = true ∧ nth [x0, x1, x2, x3] (m - 1) = 61) ∧
    (2 < Xf.cntS last x2 x3 → last = true → nth [x0, x1, x2, x3] (Xf.cntS last x2 x3 - 1) ≠ 61) := by
  unfold Xf.cntS
  cases last
  · simp
  · by_cases h3 : x3 = 61
    · by_cases h2 : x2 = 61
      · simp only [h3, h2, and_self, if_true]
        refine ⟨by omega, by omega, fun m h1 h4 => ⟨trivial, ?_⟩, by omega⟩
        rcases (show m = 3 ∨ m = 4 by omega) with rfl | rfl <;> rfl
      · simp only [h3, h2, and_self, if_true, if_false]
        refine ⟨by omega, by omega, fun m h1 h4 => ⟨trivial, ?_⟩, fun _ _ => by simpa [nth] using h2⟩
        obtain rfl : m = 4 := by omega
        rfl
    · simp only [h3, and_false, if_false]
      exact ⟨by omega, by omega, fun m h1 h4 => by omega, fun _ _ => by simpa [nth] using h3⟩

theorem str_injB {a b : List Nat} (ha : IsB a) (hb : IsB b) (h : str a = str b) : a = b := by
  have h1 : a.length = b.length := by rw [← str_size a, ← str_size b, h]
  apply List.ext_getElem h1
  intro i ha' hb'
  have e1 := str_get ha (i := i) (by rw [str_size]; exact ha')
  have e2 := str_get hb (i := i) (by rw [str_size]; exact hb')
  rw [← nth_get ha', ← nth_get hb', ← e1, ← e2]
  simp only [h]

theorem raw_group {t : List Nat} {x0 x1 x2 x3 : Nat} {r : List Nat} (ht : t = x0 :: x1 :: x2 :: x3 :: r) : Xf.raw t =
    if Xf.good (Xf.cntS r.isEmpty x2 x3) x0 x1 x2 x3 = false then none
    else (Xf.raw r).map (Xf.three (Xf.bitsOf (Xf.cntS r.isEmpty x2 x3) x0 x1 x2 x3) (Xf.cntS r.isEmpty x2 x3 - 1) ++ ·) := by subst ht; rfl
theorem three_isB {v m : Nat} (h : v < 16777216) : IsB (Xf.three v m) := by
  intro b hb
  have := List.mem_of_mem_take hb
  simp only [List.mem_cons, List.not_mem_nil, or_false] at this
  omega

/-- How l1Decode ends: a plain word, so that no walk opens it. -/
def BasEnd (t : List Nat) (w : World) (e : Ending) (w' : World) : Prop := ∃ v ok l, e = .returned (.tuple #[v, .bool ok]) ∧ Own w' w.heap.size v l ∧ Below w.heap.size w w' ∧ ((ok = true ∧ Xf.dec t = some l) ∨ (ok = false ∧ Xf.dec t = none))
theorem decEnd_no {t l : List Nat} {w w' : World} {v : Value} (ho : Own w' w.heap.size v l) (hb : Below w.heap.size w w') (h : Xf.dec t = none) : BasEnd t w (.returned (.tuple #[v, .bool false])) w' := ⟨_, _, l, rfl, ho, hb, .inr ⟨rfl, h⟩⟩
theorem decEnd_yes {t l : List Nat} {w w' : World} {v : Value} (ho : Own w' w.heap.size v l) (hb : Below w.heap.size w w') (h : Xf.dec t = some l) : BasEnd t w (.returned (.tuple #[v, .bool true])) w' := ⟨_, _, l, rfl, ho, hb, .inl ⟨rfl, h⟩⟩
theorem dec_of_raw_none {t : List Nat} (h : Xf.raw t = none) : Xf.dec t = none := by
  have := Xf.raw_dec t (fun b hb => by rw [h] at hb; cases hb)
  rw [h] at this
  exact this.symm
theorem dec_of_raw {t l : List Nat} (h : Xf.raw t = some l) (hB : IsB l) : Xf.dec t = if Xf.enc l = t then some l else none := by
  have := Xf.raw_dec t (fun b hb => by rw [h] at hb; cases hb; exact hB)
  rw [h] at this
  exact this.symm
end Go.Proofs.YtknbndebfickpaaGreatDoor
