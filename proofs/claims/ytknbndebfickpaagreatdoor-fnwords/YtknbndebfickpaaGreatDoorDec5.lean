/- The model's DecodeText, at every charset and at every slice of at most 1048576 bytes, by the same plain function. -/
import Derived.Test.YtknbndebfickpaaGreatDoorDecLToDrw3a
namespace Go.Proofs.YtknbndebfickpaaGreatDoor
open Go.RowKit

/-- What a byte that goes on a character tells; -1: it is none. -/
def mre (l : List Nat) (i : Nat) : Int := if i < l.length ∧ 128 ≤ nth l i ∧ nth l i ≤ 191 then (nth l i : Int) - 128 else -1
theorem mre_yes {l : List Nat} {i : Nat} (h : i < l.length ∧ 128 ≤ nth l i ∧ nth l i ≤ 191) : mre l i = (nth l i : Int) - 128 := if_pos h
theorem mre_no {l : List Nat} {i : Nat} (h : ¬ (i < l.length ∧ 128 ≤ nth l i ∧ nth l i ≤ 191)) : mre l i = -1 := if_neg h

set_option maxHeartbeats 1600000 in
set_option maxRecDepth 100000 in
theorem l2More_any (a : Option Addr) (n cap i : Nat) (l : List Nat) (w : World) (hl : l.length = n) (hr : Rd w a l) (hB : IsB l) :
    Calls Tryz.prog 59 #[.slice a n cap, .int .i64 (i : Int)] w fun e w' => e = .returned (.int .i64 (mre l i)) ∧ w = w' := by
  by_cases h1 : i < n
  · obtain ⟨b, off, rfl, hlt, hc⟩ := hr.at_ (by omega)
    have h0 := hc i (by omega)
    have hx := nth_lt hB i
    have h1' : ¬ (n : Int) ≤ (i : Int) := by omega
    by_cases h2 : 128 ≤ nth l i
    · by_cases h3 : nth l i ≤ 191
      · rw [mre_yes ⟨by omega, h2, h3⟩]
        clear hc hr hB
        generalize nth l i = x at *
        have h2' : ¬ (x : Int) < 128 := by omega
        have h3' : ¬ (191 : Int) < (x : Int) := by omega
        go_enter Tryz.func59, Tryz.ntmps59
        go_wp2
        go_ret
        exact ret_int rfl
      · rw [mre_no (by omega)]
        clear hc hr hB
        generalize nth l i = x at *
        have h2' : ¬ (x : Int) < 128 := by omega
        have h3' : (191 : Int) < (x : Int) := by omega
        go_enter Tryz.func59, Tryz.ntmps59
        go_wp2
        go_ret
        exact ret_int rfl
    · rw [mre_no (by omega)]
      clear hc hr hB
      generalize nth l i = x at *
      have h2' : (x : Int) < 128 := by omega
      go_enter Tryz.func59, Tryz.ntmps59
      go_wp2
      go_ret
      exact ret_int rfl
  · rw [mre_no (by omega)]
    have h1' : (n : Int) ≤ (i : Int) := by omega
    go_enter Tryz.func59, Tryz.ntmps59
    go_wp2
    go_ret
    exact ret_int rfl

theorem ret_two {a a' b b' : Int} {w : World} (h : a = a') (h' : b = b') : Ending.returned (Value.tuple #[.int .i64 a, .int .i64 b]) = .returned (.tuple #[.int .i64 a', .int .i64 b']) ∧ w = w := ⟨by rw [h, h'], rfl⟩

set_option maxHeartbeats 12800000 in
set_option maxRecDepth 100000 in
theorem l2Utf8_any (a : Option Addr) (n cap i : Nat) (l : List Nat) (w : World) (hl : l.length = n) (hr : Rd w a l) (hB : IsB l) (hi : i < n) (hn : n ≤ 1048576) :
    Calls Tryz.prog 38 #[.slice a n cap, .int .i64 (i : Int)] w fun e w' => e = .returned (.tuple #[.int .i64 ((rdC 4 (l.drop i)).1 : Int), .int .i64 ((rdC 4 (l.drop i)).2 : Int)]) ∧ w = w' := by
  have hM1 : Hid (Calls Tryz.prog 59 #[.slice a n cap, .int .i64 ((i : Int) + 1)] w fun e w' => e = .returned (.int .i64 (mre l (i + 1))) ∧ w = w') := l2More_any a n cap (i + 1) l w hl hr hB
  have hM2 : Hid (Calls Tryz.prog 59 #[.slice a n cap, .int .i64 ((i : Int) + 2)] w fun e w' => e = .returned (.int .i64 (mre l (i + 2))) ∧ w = w') := l2More_any a n cap (i + 2) l w hl hr hB
  obtain ⟨b, off, rfl, hlt, hc⟩ := hr.at_ (by omega)
  have h0 := hc i (by omega)
  clear hc hr
  have hBd := isB_drop hB i
  have hxb := nth_lt hB i
  have n0 : nth (l.drop i) 0 = nth l i := by rw [nth_drop]; rfl
  have n1 : nth (l.drop i) 1 = nth l (i + 1) := nth_drop _ _ _
  have n2 : nth (l.drop i) 2 = nth l (i + 2) := nth_drop _ _ _
  have hL : (l.drop i).length = n - i := by rw [List.length_drop, hl]
  have hyes1 : Hid (i + 1 < n ∧ 128 ≤ nth l (i + 1) ∧ nth l (i + 1) ≤ 191 → mre l (i + 1) = (nth l (i + 1) : Int) - 128) := fun h => mre_yes ⟨by omega, h.2⟩
  have hno1 : Hid (¬ (i + 1 < n ∧ 128 ≤ nth l (i + 1) ∧ nth l (i + 1) ≤ 191) → mre l (i + 1) = -1) := fun h => mre_no (by rw [hl]; exact h)
  have hyes2 : Hid (i + 2 < n ∧ 128 ≤ nth l (i + 2) ∧ nth l (i + 2) ≤ 191 → mre l (i + 2) = (nth l (i + 2) : Int) - 128) := fun h => mre_yes ⟨by omega, h.2⟩
  have hno2 : Hid (¬ (i + 2 < n ∧ 128 ≤ nth l (i + 2) ∧ nth l (i + 2) ≤ 191) → mre l (i + 2) = -1) := fun h => mre_no (by rw [hl]; exact h)
  have R1 := @rdC_4_one (l.drop i)
  have R2 := @rdC_4_two (l.drop i)
  have R3 := @rdC_4_three (l.drop i)
  have R0 := @rdC_4_no (l.drop i) hBd
  rw [hL, n0] at R1
  rw [hL, n0, n1] at R2
  rw [hL, n0, n1, n2] at R3
  rw [hL, n0, n1, n2] at R0
  have q1 := nth_lt hB (i + 1)
  have q2 := nth_lt hB (i + 2)
  clear hB hBd n0 n1 n2 hL
  generalize mre l (i + 1) = X at *
  generalize mre l (i + 2) = Y at *
  generalize nth l i = x at *
  generalize nth l (i + 1) = y at *
  generalize nth l (i + 2) = z at *
  generalize rdC 4 (l.drop i) = r at *
  have hin : (i : Int) < (n : Int) := by omega
  by_cases h1 : x < 128
  · obtain rfl := R1 (by omega) h1
    have h1' : (x : Int) < 128 := by omega
    clear hM1 hM2 R2 R3 R0
    go_enter Tryz.func38, Tryz.ntmps38
    go_wp2
    go_ret2
    exact ret_two rfl rfl
  · have h1' : ¬ (x : Int) < 128 := by omega
    clear R1
    by_cases hX : i + 1 < n ∧ 128 ≤ y ∧ y ≤ 191
    · obtain rfl := hyes1.out hX
      obtain ⟨p, hp⟩ : ∃ p, p = y - 128 := ⟨_, rfl⟩
      have hpe : (y : Int) - 128 = (p : Int) := by omega
      have hp' : p < 64 := by omega
      rw [hpe] at hM1
      by_cases h2 : 194 ≤ x ∧ x < 224
      · obtain rfl := R2 (by omega) h2 hX.2
        have a1 : (194 : Int) ≤ (x : Int) := by omega
        have a2 : (x : Int) < 224 := by omega
        have e1 : (((x - 192) * 64 + (y - 128) : Nat) : Int) = ((x : Int) - 192) * 64 + (p : Int) := by omega
        rw [e1]
        clear hM2 R3 R0 hyes1 hno1 hyes2 hno2 e1 hp hpe
        go_enter Tryz.func38, Tryz.ntmps38
        go_wp2_with fail
        refine Calls.mono hM1.out ?_
        rintro e w' ⟨rfl, rfl⟩
        go_wp2
        go_ret2
        exact ret_two rfl rfl
      · by_cases h3 : 224 ≤ x ∧ x < 240
        · have b1 : (194 : Int) ≤ (x : Int) := by omega
          have b2 : ¬ (x : Int) < 224 := by omega
          have b3 : (224 : Int) ≤ (x : Int) := by omega
          have b4 : (x : Int) < 240 := by omega
          by_cases hY : i + 2 < n ∧ 128 ≤ z ∧ z ≤ 191
          · obtain rfl := hyes2.out hY
            obtain ⟨q, hq⟩ : ∃ q, q = z - 128 := ⟨_, rfl⟩
            have hqe : (z : Int) - 128 = (q : Int) := by omega
            have hq' : q < 64 := by omega
            rw [hqe] at hM2
            obtain ⟨C, hC⟩ : ∃ C, C = (x - 224) * 4096 + (y - 128) * 64 + (z - 128) := ⟨_, rfl⟩
            have hCe : ((x : Int) - 224) * 4096 + (p : Int) * 64 + (q : Int) = (C : Int) := by omega
            have hCl : C < 65536 := by omega
            rw [← hC] at R3 R0
            by_cases h5 : 2048 ≤ C ∧ chr (C : Int) = true
            · obtain rfl := R3 (by omega) h3 hX.2 hY.2 h5.1 h5.2
              have c1 : (2048 : Int) ≤ (C : Int) := by omega
              have c2 := h5.2
              clear R0 R2 hyes1 hno1 hyes2 hno2 h5 hp hq hC
              go_enter Tryz.func38, Tryz.ntmps38
              go_wp2_with fail
              refine Calls.mono hM1.out ?_
              rintro e w' ⟨rfl, rfl⟩
              go_wp2_with fail
              refine Calls.mono hM2.out ?_
              rintro e w' ⟨rfl, rfl⟩
              go_wp2_with fail
              refine (l2Char_any _ _).mono ?_
              rintro e w' ⟨rfl, rfl⟩
              rw [c2]
              go_wp2
              go_ret2
              exact ret_two rfl rfl
            · obtain rfl := R0 (by omega) (by omega) (fun h => h5 ⟨h.2.2.2.2.2.2.2.1, h.2.2.2.2.2.2.2.2⟩)
              by_cases c1 : 2048 ≤ C
              · have c1' : (2048 : Int) ≤ (C : Int) := by omega
                have c2 : chr (C : Int) = false := by
                  cases hc : chr (C : Int)
                  · rfl
                  · exact absurd ⟨c1, hc⟩ h5
                clear R3 R2 hyes1 hno1 hyes2 hno2 h5 hp hq hC
                go_enter Tryz.func38, Tryz.ntmps38
                go_wp2_with fail
                refine Calls.mono hM1.out ?_
                rintro e w' ⟨rfl, rfl⟩
                go_wp2_with fail
                refine Calls.mono hM2.out ?_
                rintro e w' ⟨rfl, rfl⟩
                go_wp2_with fail
                refine (l2Char_any _ _).mono ?_
                rintro e w' ⟨rfl, rfl⟩
                rw [c2]
                go_wp2
                go_ret2
                exact ret_two rfl rfl
              · have c1' : ¬ (2048 : Int) ≤ (C : Int) := by omega
                clear R3 R2 hyes1 hno1 hyes2 hno2 h5 hp hq hC
                go_enter Tryz.func38, Tryz.ntmps38
                go_wp2_with fail
                refine Calls.mono hM1.out ?_
                rintro e w' ⟨rfl, rfl⟩
                go_wp2_with fail
                refine Calls.mono hM2.out ?_
                rintro e w' ⟨rfl, rfl⟩
                go_wp2
                go_ret2
                exact ret_two rfl rfl
          · obtain rfl := hno2.out hY
            obtain rfl := R0 (by omega) (by omega) (fun h => hY ⟨by omega, h.2.2.2.2.2.1, h.2.2.2.2.2.2.1⟩)
            clear R3 R2 hyes1 hno1 hyes2 hno2
            go_enter Tryz.func38, Tryz.ntmps38
            go_wp2_with fail
            refine Calls.mono hM1.out ?_
            rintro e w' ⟨rfl, rfl⟩
            go_wp2_with fail
            refine Calls.mono hM2.out ?_
            rintro e w' ⟨rfl, rfl⟩
            go_wp2
            go_ret2
            exact ret_two rfl rfl
        · obtain rfl := R0 (by omega) (by omega) (fun h => h3 ⟨h.2.1, h.2.2.1⟩)
          clear R3 R2 hyes1 hno1 hyes2 hno2
          by_cases d1 : x < 194
          · have d1' : ¬ (194 : Int) ≤ (x : Int) := by omega
            have d2' : ¬ (224 : Int) ≤ (x : Int) := by omega
            go_enter Tryz.func38, Tryz.ntmps38
            go_wp2_with fail
            refine Calls.mono hM1.out ?_
            rintro e w' ⟨rfl, rfl⟩
            go_wp2_with fail
            refine Calls.mono hM2.out ?_
            rintro e w' ⟨rfl, rfl⟩
            go_wp2
            go_ret2
            exact ret_two rfl rfl
          · have d1' : (194 : Int) ≤ (x : Int) := by omega
            have d2' : ¬ (x : Int) < 224 := by omega
            have d3' : (224 : Int) ≤ (x : Int) := by omega
            have d4' : ¬ (x : Int) < 240 := by omega
            go_enter Tryz.func38, Tryz.ntmps38
            go_wp2_with fail
            refine Calls.mono hM1.out ?_
            rintro e w' ⟨rfl, rfl⟩
            go_wp2_with fail
            refine Calls.mono hM2.out ?_
            rintro e w' ⟨rfl, rfl⟩
            go_wp2
            go_ret2
            exact ret_two rfl rfl
    · obtain rfl := hno1.out hX
      obtain rfl := R0 (by omega) (fun h => hX ⟨by omega, h.2.2.2⟩) (fun h => hX ⟨by omega, h.2.2.2.1, h.2.2.2.2.1⟩)
      clear R3 R2 hyes1 hno1 hyes2 hno2
      by_cases d1 : x < 194
      · have d1' : ¬ (194 : Int) ≤ (x : Int) := by omega
        have d2' : ¬ (224 : Int) ≤ (x : Int) := by omega
        go_enter Tryz.func38, Tryz.ntmps38
        go_wp2_with fail
        refine Calls.mono hM1.out ?_
        rintro e w' ⟨rfl, rfl⟩
        go_wp2_with fail
        refine Calls.mono hM2.out ?_
        rintro e w' ⟨rfl, rfl⟩
        go_wp2
        go_ret2
        exact ret_two rfl rfl
      · have d1' : (194 : Int) ≤ (x : Int) := by omega
        by_cases d2 : x < 224
        · have d2' : (x : Int) < 224 := by omega
          have d3' : ¬ (224 : Int) ≤ (x : Int) := by omega
          go_enter Tryz.func38, Tryz.ntmps38
          go_wp2_with fail
          refine Calls.mono hM1.out ?_
          rintro e w' ⟨rfl, rfl⟩
          go_wp2_with fail
          refine Calls.mono hM2.out ?_
          rintro e w' ⟨rfl, rfl⟩
          go_wp2
          go_ret2
          exact ret_two rfl rfl
        · have d2' : ¬ (x : Int) < 224 := by omega
          have d3' : (224 : Int) ≤ (x : Int) := by omega
          by_cases d4 : x < 240
          · have d4' : (x : Int) < 240 := by omega
            go_enter Tryz.func38, Tryz.ntmps38
            go_wp2_with fail
            refine Calls.mono hM1.out ?_
            rintro e w' ⟨rfl, rfl⟩
            go_wp2_with fail
            refine Calls.mono hM2.out ?_
            rintro e w' ⟨rfl, rfl⟩
            go_wp2
            go_ret2
            exact ret_two rfl rfl
          · have d4' : ¬ (x : Int) < 240 := by omega
            go_enter Tryz.func38, Tryz.ntmps38
            go_wp2_with fail
            refine Calls.mono hM1.out ?_
            rintro e w' ⟨rfl, rfl⟩
            go_wp2_with fail
            refine Calls.mono hM2.out ?_
            rintro e w' ⟨rfl, rfl⟩
            go_wp2
            go_ret2
            exact ret_two rfl rfl
end Go.Proofs.YtknbndebfickpaaGreatDoor
