/- The model's DecodeText, at every charset and at every slice of at most 1048576 bytes, by the same plain function · The model's l2Single, l2One, l2Decode and DecodeText, by the same plain functions; at most 1048576 bytes. -/
import Derived.Test.YtooifkdbpghcfaaGreatDoorDecLToDec4
namespace Go.Proofs.YtooifkdbpghcfaaGreatDoor
open Go.RowKit

/-- What a byte that goes on a character tells; -1: it is none. -/
def mre (l : List Nat) (i : Nat) : Int := if i < l.length ∧ 128 ≤ nth l i ∧ nth l i ≤ 191 then (nth l i : Int) - 128 else -1
theorem mre_yes {l : List Nat} {i : Nat} (h : i < l.length ∧ 128 ≤ nth l i ∧ nth l i ≤ 191) : mre l i = (nth l i : Int) - 128 := if_pos h
theorem mre_no {l : List Nat} {i : Nat} (h : ¬ (i < l.length ∧ 128 ≤ nth l i ∧ nth l i ≤ 191)) : mre l i = -1 := if_neg h

set_option maxHeartbeats 1600000 in
set_option maxRecDepth 100000 in
theorem l2More_any (a : Option Addr) (n cap i : Nat) (l : List Nat) (w : World) (hl : l.length = n) (hr : Rd w a l) (hB : IsB l) :
    Calls Tryz.prog 149 #[.slice a n cap, .int .i64 (i : Int)] w fun e w' => e = .returned (.int .i64 (mre l i)) ∧ w = w' := by
  by_cases h1 : i < n
  · obtain ⟨b, off, rfl, hlt, hc⟩ := hr.at_ (by omega)
    have h0 := hc i (by omega)
    have hx := nth_lt hB i
    have h1' : ¬ (n : Int) ≤ (i : Int) := by omega
    by_cases h2 : 128 ≤ nth l i
    · by_cases h3 : nth l i ≤ 191
      · rw [mre_yes ⟨by omega, h2, h3⟩]
        clear hc hr hB
        generalize nth l i = x at *
        have h2' : ¬ (x : Int) < 128 := by omega
        have h3' : ¬ (191 : Int) < (x : Int) := by omega
        go_enter Tryz.func149, Tryz.ntmps149
        go_wp2
        go_ret
        exact ret_int rfl
      · rw [mre_no (by omega)]
        clear hc hr hB
        generalize nth l i = x at *
        have h2' : ¬ (x : Int) < 128 := by omega
        have h3' : (191 : Int) < (x : Int) := by omega
        go_enter Tryz.func149, Tryz.ntmps149
        go_wp2
        go_ret
        exact ret_int rfl
    · rw [mre_no (by omega)]
      clear hc hr hB
      generalize nth l i = x at *
      have h2' : (x : Int) < 128 := by omega
      go_enter Tryz.func149, Tryz.ntmps149
      go_wp2
      go_ret
      exact ret_int rfl
  · rw [mre_no (by omega)]
    have h1' : (n : Int) ≤ (i : Int) := by omega
    go_enter Tryz.func149, Tryz.ntmps149
    go_wp2
    go_ret
    exact ret_int rfl

theorem ret_two {a a' b b' : Int} {w : World} (h : a = a') (h' : b = b') : Ending.returned (Value.tuple #[.int .i64 a, .int .i64 b]) = .returned (.tuple #[.int .i64 a', .int .i64 b']) ∧ w = w := ⟨by rw [h, h'], rfl⟩

set_option maxHeartbeats 12800000 in
set_option maxRecDepth 100000 in
theorem l2Utf8_any (a : Option Addr) (n cap i : Nat) (l : List Nat) (w : World) (hl : l.length = n) (hr : Rd w a l) (hB : IsB l) (hi : i < n) (hn : n ≤ 1048576) :
    Calls Tryz.prog 121 #[.slice a n cap, .int .i64 (i : Int)] w fun e w' => e = .returned (.tuple #[.int .i64 ((rdC 4 (l.drop i)).1 : Int), .int .i64 ((rdC 4 (l.drop i)).2 : Int)]) ∧ w = w' := by
  have hM1 : Hid (Calls Tryz.prog 149 #[.slice a n cap, .int .i64 ((i : Int) + 1)] w fun e w' => e = .returned (.int .i64 (mre l (i + 1))) ∧ w = w') := l2More_any a n cap (i + 1) l w hl hr hB
  have hM2 : Hid (Calls Tryz.prog 149 #[.slice a n cap, .int .i64 ((i : Int) + 2)] w fun e w' => e = .returned (.int .i64 (mre l (i + 2))) ∧ w = w') := l2More_any a n cap (i + 2) l w hl hr hB
  obtain ⟨b, off, rfl, hlt, hc⟩ := hr.at_ (by omega)
  have h0 := hc i (by omega)
  clear hc hr
  have hBd := isB_drop hB i
  have hxb := nth_lt hB i
  have n0 : nth (l.drop i) 0 = nth l i := by rw [nth_drop]; rfl
  have n1 : nth (l.drop i) 1 = nth l (i + 1) := nth_drop _ _ _
  have n2 : nth (l.drop i) 2 = nth l (i + 2) := nth_drop _ _ _
  have hL : (l.drop i).length = n - i := by rw [List.length_drop, hl]
  have hyes1 : Hid (i + 1 < n ∧ 128 ≤ nth l (i + 1) ∧ nth l (i + 1) ≤ 191 → mre l (i + 1) = (nth l (i + 1) : Int) - 128) := fun h => mre_yes ⟨by omega, h.2⟩
  have hno1 : Hid (¬ (i + 1 < n ∧ 128 ≤ nth l (i + 1) ∧ nth l (i + 1) ≤ 191) → mre l (i + 1) = -1) := fun h => mre_no (by rw [hl]; exact h)
  have hyes2 : Hid (i + 2 < n ∧ 128 ≤ nth l (i + 2) ∧ nth l (i + 2) ≤ 191 → mre l (i + 2) = (nth l (i + 2) : Int) - 128) := fun h => mre_yes ⟨by omega, h.2⟩
  have hno2 : Hid (¬ (i + 2 < n ∧ 128 ≤ nth l (i + 2) ∧ nth l (i + 2) ≤ 191) → mre l (i + 2) = -1) := fun h => mre_no (by rw [hl]; exact h)
  have R1 := @rdC_4_one (l.drop i)
  have R2 := @rdC_4_two (l.drop i)
  have R3 := @rdC_4_three (l.drop i)
  have R0 := @rdC_4_no (l.drop i) hBd
  rw [hL, n0] at R1
  rw [hL, n0, n1] at R2
  rw [hL, n0, n1, n2] at R3
  rw [hL, n0, n1, n2] at R0
  have q1 := nth_lt hB (i + 1)
  have q2 := nth_lt hB (i + 2)
  clear hB hBd n0 n1 n2 hL
  generalize mre l (i + 1) = X at *
  generalize mre l (i + 2) = Y at *
  generalize nth l i = x at *
  generalize nth l (i + 1) = y at *
  generalize nth l (i + 2) = z at *
  generalize rdC 4 (l.drop i) = r at *
  have hin : (i : Int) < (n : Int) := by omega
  by_cases h1 : x < 128
  · obtain rfl := R1 (by omega) h1
    have h1' : (x : Int) < 128 := by omega
    clear hM1 hM2 R2 R3 R0
    go_enter Tryz.func121, Tryz.ntmps121
    go_wp2
    go_ret2
    exact ret_two rfl rfl
  · have h1' : ¬ (x : Int) < 128 := by omega
    clear R1
    by_cases hX : i + 1 < n ∧ 128 ≤ y ∧ y ≤ 191
    · obtain rfl := hyes1.out hX
      obtain ⟨p, hp⟩ : ∃ p, p = y - 128 := ⟨_, rfl⟩
      have hpe : (y : Int) - 128 = (p : Int) := by omega
      have hp' : p < 64 := by omega
      rw [hpe] at hM1
      by_cases h2 : 194 ≤ x ∧ x < 224
      · obtain rfl := R2 (by omega) h2 hX.2
        have a1 : (194 : Int) ≤ (x : Int) := by omega
        have a2 : (x : Int) < 224 := by omega
        have e1 : (((x - 192) * 64 + (y - 128) : Nat) : Int) = ((x : Int) - 192) * 64 + (p : Int) := by omega
        rw [e1]
        clear hM2 R3 R0 hyes1 hno1 hyes2 hno2 e1 hp hpe
        go_enter Tryz.func121, Tryz.ntmps121
        go_wp2_with fail
        refine Calls.mono hM1.out ?_
        rintro e w' ⟨rfl, rfl⟩
        go_wp2
        go_ret2
        exact ret_two rfl rfl
      · by_cases h3 : 224 ≤ x ∧ x < 240
        · have b1 : (194 : Int) ≤ (x : Int) := by omega
          have b2 : ¬ (x : Int) < 224 := by omega
          have b3 : (224 : Int) ≤ (x : Int) := by omega
          have b4 : (x : Int) < 240 := by omega
          by_cases hY : i + 2 < n ∧ 128 ≤ z ∧ z ≤ 191
          · obtain rfl := hyes2.out hY
            obtain ⟨q, hq⟩ : ∃ q, q = z - 128 := ⟨_, rfl⟩
            have hqe : (z : Int) - 128 = (q : Int) := by omega
            have hq' : q < 64 := by omega
            rw [hqe] at hM2
            obtain ⟨C, hC⟩ : ∃ C, C = (x - 224) * 4096 + (y - 128) * 64 + (z - 128) := ⟨_, rfl⟩
            have hCe : ((x : Int) - 224) * 4096 + (p : Int) * 64 + (q : Int) = (C : Int) := by omega
            have hCl : C < 65536 := by omega
            rw [← hC] at R3 R0
            by_cases h5 : 2048 ≤ C ∧ chr (C : Int) = true
            · obtain rfl := R3 (by omega) h3 hX.2 hY.2 h5.1 h5.2
              have c1 : (2048 : Int) ≤ (C : Int) := by omega
              have c2 := h5.2
              clear R0 R2 hyes1 hno1 hyes2 hno2 h5 hp hq hC
              go_enter Tryz.func121, Tryz.ntmps121
              go_wp2_with fail
              refine Calls.mono hM1.out ?_
              rintro e w' ⟨rfl, rfl⟩
              go_wp2_with fail
              refine Calls.mono hM2.out ?_
              rintro e w' ⟨rfl, rfl⟩
              go_wp2_with fail
              refine (l2Char_any _ _).mono ?_
              rintro e w' ⟨rfl, rfl⟩
              rw [c2]
              go_wp2
              go_ret2
              exact ret_two rfl rfl
            · obtain rfl := R0 (by omega) (by omega) (fun h => h5 ⟨h.2.2.2.2.2.2.2.1, h.2.2.2.2.2.2.2.2⟩)
              by_cases c1 : 2048 ≤ C
              · have c1' : (2048 : Int) ≤ (C : Int) := by omega
                have c2 : chr (C : Int) = false := by
                  cases hc : chr (C : Int)
                  · rfl
                  · exact absurd ⟨c1, hc⟩ h5
                clear R3 R2 hyes1 hno1 hyes2 hno2 h5 hp hq hC
                go_enter Tryz.func121, Tryz.ntmps121
                go_wp2_with fail
                refine Calls.mono hM1.out ?_
                rintro e w' ⟨rfl, rfl⟩
                go_wp2_with fail
                refine Calls.mono hM2.out ?_
                rintro e w' ⟨rfl, rfl⟩
                go_wp2_with fail
                refine (l2Char_any _ _).mono ?_
                rintro e w' ⟨rfl, rfl⟩
                rw [c2]
                go_wp2
                go_ret2
                exact ret_two rfl rfl
              · have c1' : ¬ (2048 : Int) ≤ (C : Int) := by omega
                clear R3 R2 hyes1 hno1 hyes2 hno2 h5 hp hq hC
                go_enter Tryz.func121, Tryz.ntmps121
                go_wp2_with fail
                refine Calls.mono hM1.out ?_
                rintro e w' ⟨rfl, rfl⟩
                go_wp2_with fail
                refine Calls.mono hM2.out ?_
                rintro e w' ⟨rfl, rfl⟩
                go_wp2
                go_ret2
                exact ret_two rfl rfl
          · obtain rfl := hno2.out hY
            obtain rfl := R0 (by omega) (by omega) (fun h => hY ⟨by omega, h.2.2.2.2.2.1, h.2.2.2.2.2.2.1⟩)
            clear R3 R2 hyes1 hno1 hyes2 hno2
            go_enter Tryz.func121, Tryz.ntmps121
            go_wp2_with fail
            refine Calls.mono hM1.out ?_
            rintro e w' ⟨rfl, rfl⟩
            go_wp2_with fail
            refine Calls.mono hM2.out ?_
            rintro e w' ⟨rfl, rfl⟩
            go_wp2
            go_ret2
            exact ret_two rfl rfl
        · obtain rfl := R0 (by omega) (by omega) (fun h => h3 ⟨h.2.1, h.2.2.1⟩)
          clear R3 R2 hyes1 hno1 hyes2 hno2
          by_cases d1 : x < 194
          · have d1' : ¬ (194 : Int) ≤ (x : Int) := by omega
            have d2' : ¬ (224 : Int) ≤ (x : Int) := by omega
            go_enter Tryz.func121, Tryz.ntmps121
            go_wp2_with fail
            refine Calls.mono hM1.out ?_
            rintro e w' ⟨rfl, rfl⟩
            go_wp2_with fail
            refine Calls.mono hM2.out ?_
            rintro e w' ⟨rfl, rfl⟩
            go_wp2
            go_ret2
            exact ret_two rfl rfl
          · have d1' : (194 : Int) ≤ (x : Int) := by omega
            have d2' : ¬ (x : Int) < 224 := by omega
            have d3' : (224 : Int) ≤ (x : Int) := by omega
            have d4' : ¬ (x : Int) < 240 := by omega
            go_enter Tryz.func121, Tryz.ntmps121
            go_wp2_with fail
            refine Calls.mono hM1.out ?_
            rintro e w' ⟨rfl, rfl⟩
            go_wp2_with fail
            refine Calls.mono hM2.out ?_
            rintro e w' ⟨rfl, rfl⟩
            go_wp2
            go_ret2
            exact ret_two rfl rfl
    · obtain rfl := hno1.out hX
      obtain rfl := R0 (by omega) (fun h => hX ⟨by omega, h.2.2.2⟩) (fun h => hX ⟨by omega, h.2.2.2.1, h.2.2.2.2.1⟩)
      clear R3 R2 hyes1 hno1 hyes2 hno2
      by_cases d1 : x < 194
      · have d1' : ¬ (194 : Int) ≤ (x : Int) := by omega
        have d2' : ¬ (224 : Int) ≤ (x : Int) := by omega
        go_enter Tryz.func121, Tryz.ntmps121
        go_wp2_with fail
        refine Calls.mono hM1.out ?_
        rintro e w' ⟨rfl, rfl⟩
        go_wp2_with fail
        refine Calls.mono hM2.out ?_
        rintro e w' ⟨rfl, rfl⟩
        go_wp2
        go_ret2
        exact ret_two rfl rfl
      · have d1' : (194 : Int) ≤ (x : Int) := by omega
        by_cases d2 : x < 224
        · have d2' : (x : Int) < 224 := by omega
          have d3' : ¬ (224 : Int) ≤ (x : Int) := by omega
          go_enter Tryz.func121, Tryz.ntmps121
          go_wp2_with fail
          refine Calls.mono hM1.out ?_
          rintro e w' ⟨rfl, rfl⟩
          go_wp2_with fail
          refine Calls.mono hM2.out ?_
          rintro e w' ⟨rfl, rfl⟩
          go_wp2
          go_ret2
          exact ret_two rfl rfl
        · have d2' : ¬ (x : Int) < 224 := by omega
          have d3' : (224 : Int) ≤ (x : Int) := by omega
          by_cases d4 : x < 240
          · have d4' : (x : Int) < 240 := by omega
            go_enter Tryz.func121, Tryz.ntmps121
            go_wp2_with fail
            refine Calls.mono hM1.out ?_
            rintro e w' ⟨rfl, rfl⟩
            go_wp2_with fail
            refine Calls.mono hM2.out ?_
            rintro e w' ⟨rfl, rfl⟩
            go_wp2
            go_ret2
            exact ret_two rfl rfl
          · have d4' : ¬ (x : Int) < 240 := by omega
            go_enter Tryz.func121, Tryz.ntmps121
            go_wp2_with fail
            refine Calls.mono hM1.out ?_
            rintro e w' ⟨rfl, rfl⟩
            go_wp2_with fail
            refine Calls.mono hM2.out ?_
            rintro e w' ⟨rfl, rfl⟩
            go_wp2
            go_ret2
            exact ret_two rfl rfl
end Go.Proofs.YtooifkdbpghcfaaGreatDoor

namespace Go.Proofs.YtooifkdbpghcfaaGreatDoor
open Go.RowKit

set_option maxHeartbeats 1600000 in
set_option maxRecDepth 100000 in
theorem l2Single_any (cs : Int) (x : Nat) (r : Int) (w : World) (hx : x < 256)
    (hr : (cs = 1 ∧ x < 128 ∧ r = (x : Int)) ∨ (cs = 1 ∧ ¬ x < 128 ∧ r = -1) ∨ (cs = 2 ∧ r = (x : Int)) ∨ (cs = 3 ∧ r = (cyU x : Int))) :
    Calls Tryz.prog 122 #[.int .i64 cs, .int .i64 (x : Int)] w fun e w' => e = .returned (.int .i64 r) ∧ w = w' := by
  rcases hr with ⟨rfl, h1, rfl⟩ | ⟨rfl, h1, rfl⟩ | ⟨rfl, rfl⟩ | ⟨rfl, rfl⟩
  · have hh : hasC 1 (x : Int) = true := by rw [hasC_1]; exact decide_eq_true (by omega)
    go_enter Tryz.func122, Tryz.ntmps122
    go_wp2_with (first | (go_at_call 92; refine (l2Has_any _ _ _ (by omega)).mono ?_; rintro e w' ⟨rfl, rfl⟩; rw [hh]))
    go_ret
    exact ret_int rfl
  · have hh : hasC 1 (x : Int) = false := by rw [hasC_1]; exact decide_eq_false (by omega)
    go_enter Tryz.func122, Tryz.ntmps122
    go_wp2_with (first | (go_at_call 92; refine (l2Has_any _ _ _ (by omega)).mono ?_; rintro e w' ⟨rfl, rfl⟩; rw [hh]))
    go_ret
    exact ret_int rfl
  · have hh : hasC 2 (x : Int) = true := by rw [hasC_2]; exact decide_eq_true (by omega)
    go_enter Tryz.func122, Tryz.ntmps122
    go_wp2_with (first | (go_at_call 92; refine (l2Has_any _ _ _ (by omega)).mono ?_; rintro e w' ⟨rfl, rfl⟩; rw [hh]))
    go_ret
    exact ret_int rfl
  · have hk := cyU_ok hx
    have hh : hasC 3 (cyU x : Int) = true := by rw [hasC_3]; exact decide_eq_true (by rw [hk.2]; omega)
    by_cases h1 : x = 253
    · subst h1
      go_enter Tryz.func122, Tryz.ntmps122
      go_wp2
      go_ret
      exact ret_int rfl
    · by_cases h2 : x = 240
      · subst h2
        go_enter Tryz.func122, Tryz.ntmps122
        go_wp2
        go_ret
        exact ret_int rfl
      · have e1 : ((x : Int) == 253) = false := by simp; omega
        have e2 : ((x : Int) == 240) = false := by simp; omega
        by_cases h3 : x ≤ 160
        · have e : cyU x = x := by unfold cyU; rw [if_neg h1, if_neg h2, if_pos (.inl h3)]
          rw [e] at hh ⊢
          have e3 : ¬ (160 : Int) < (x : Int) := by omega
          clear hk e
          go_enter Tryz.func122, Tryz.ntmps122
          go_wp2_with (first | (go_at_call 92; refine (l2Has_any _ _ _ (by omega)).mono ?_; rintro e w' ⟨rfl, rfl⟩; rw [hh]))
          go_ret
          exact ret_int rfl
        · have e3 : (160 : Int) < (x : Int) := by omega
          by_cases h4 : x = 173
          · subst h4
            have hh' : hasC 3 ((173 : Nat) : Int) = true := by rw [hasC_3]; decide
            go_enter Tryz.func122, Tryz.ntmps122
            go_wp2_with (first | (go_at_call 92; refine (l2Has_any _ _ _ (by omega)).mono ?_; rintro e w' ⟨rfl, rfl⟩; rw [show hasC 3 173 = true from hh']))
            go_ret
            exact ret_int rfl
          · have e : cyU x = x + 864 := by unfold cyU; rw [if_neg h1, if_neg h2, if_neg (by omega)]
            rw [e] at hh ⊢
            have e4 : ((x : Int) != 173) = true := by simp; omega
            have e5 : ((x + 864 : Nat) : Int) = (x : Int) + 864 := by omega
            rw [e5] at hh ⊢
            clear hk e e5
            go_enter Tryz.func122, Tryz.ntmps122
            go_wp2_with (first | (go_at_call 92; refine (l2Has_any _ _ _ (by omega)).mono ?_; rintro e w' ⟨rfl, rfl⟩; rw [hh]))
            go_ret
            exact ret_int rfl

theorem ret_twoB {a a' b b' : Int} {w w' : World} {n : Nat} (h : a = a') (h' : b = b') (hb : Below n w w') : Ending.returned (Value.tuple #[.int .i64 a, .int .i64 b]) = .returned (.tuple #[.int .i64 a', .int .i64 b']) ∧ Below n w w' := ⟨by rw [h, h'], hb⟩

set_option maxHeartbeats 3200000 in
set_option maxRecDepth 100000 in
theorem l2One_any (cs : Int) (a : Option Addr) (n cap i : Nat) (l : List Nat) (w : World) (hcs : 1 ≤ cs ∧ cs ≤ 5) (hl : l.length = n) (hr : Rd w a l) (hB : IsB l) (hi : i < n) (hn : n ≤ 1048576) :
    Calls Tryz.prog 90 #[.int .i64 cs, .slice a n cap, .int .i64 (i : Int)] w fun e w' => e = .returned (.tuple #[.int .i64 ((rdC cs (l.drop i)).1 : Int), .int .i64 ((rdC cs (l.drop i)).2 : Int)]) ∧ Below w.heap.size w w' := by
  have hU := l2Utf8_any a n cap i l w hl hr hB hi hn
  obtain ⟨b, off, rfl, hlt, hc⟩ := hr.at_ (by omega)
  have h0 := hc i (by omega)
  have hin : (i : Int) < (n : Int) := by omega
  have hBd := isB_drop hB i
  have hxb := nth_lt hB i
  have hyb := nth_lt hB (i + 1)
  have n0 : nth (l.drop i) 0 = nth l i := by rw [nth_drop]; rfl
  have n1 : nth (l.drop i) 1 = nth l (i + 1) := nth_drop _ _ _
  have hL : (l.drop i).length = n - i := by rw [List.length_drop, hl]
  rcases cs_cases hcs with rfl | rfl | rfl | rfl | rfl
  · have R := @rdC_1 (l.drop i) (by omega)
    rw [n0] at R
    clear hU hc n1
    generalize rdC 1 (l.drop i) = r at *
    generalize nth l i = x at *
    by_cases h1 : x < 128
    · rw [if_pos h1] at R
      subst R
      have h1' : ¬ (x : Int) < 0 := by omega
      go_enter Tryz.func90, Tryz.ntmps90
      go_wp2_with (first | (go_at_call 122; refine (l2Single_any 1 x (x : Int) _ hxb (.inl ⟨rfl, h1, rfl⟩)).mono ?_; rintro e w' ⟨rfl, rfl⟩))
      go_ret2
      exact ret_twoB rfl rfl (Below.refl _ _)
    · rw [if_neg h1] at R
      subst R
      go_enter Tryz.func90, Tryz.ntmps90
      go_wp2_with (first | (go_at_call 122; refine (l2Single_any 1 x (-1) _ hxb (.inr (.inl ⟨rfl, h1, rfl⟩))).mono ?_; rintro e w' ⟨rfl, rfl⟩))
      go_ret2
      exact ret_twoB rfl rfl (Below.refl _ _)
  · have R := @rdC_2 (l.drop i) hBd (by omega)
    rw [n0] at R
    clear hU hc n1
    generalize rdC 2 (l.drop i) = r at *
    generalize nth l i = x at *
    subst R
    have h1' : ¬ (x : Int) < 0 := by omega
    go_enter Tryz.func90, Tryz.ntmps90
    go_wp2_with (first | (go_at_call 122; refine (l2Single_any 2 x (x : Int) _ hxb (.inr (.inr (.inl ⟨rfl, rfl⟩)))).mono ?_; rintro e w' ⟨rfl, rfl⟩))
    go_ret2
    exact ret_twoB rfl rfl (Below.refl _ _)
  · have R := @rdC_3 (l.drop i) hBd (by omega)
    rw [n0] at R
    clear hU hc n1
    generalize rdC 3 (l.drop i) = r at *
    generalize nth l i = x at *
    subst R
    have HS : Hid (_) := fun w => l2Single_any 3 x (cyU x : Int) w hxb (.inr (.inr (.inr ⟨rfl, rfl⟩)))
    generalize cyU x = y at *
    have h1' : ¬ (y : Int) < 0 := by omega
    go_enter Tryz.func90, Tryz.ntmps90
    go_wp2_with (first | (go_at_call 122; refine (HS.out _).mono ?_; rintro e w' ⟨rfl, rfl⟩))
    go_ret2
    exact ret_twoB rfl rfl (Below.refl _ _)
  · clear hc n1 n0
    generalize rdC 4 (l.drop i) = r at *
    obtain ⟨g, s⟩ := r
    go_enter Tryz.func90, Tryz.ntmps90
    go_wp2_with fail
    refine Calls.mono hU ?_
    rintro e w' ⟨rfl, rfl⟩
    go_wp2
    go_ret2
    exact ret_twoB rfl rfl (Below.refl _ _)
  · have R := @rdC_5 (l.drop i) hBd
    rw [hL, n0, n1] at R
    by_cases h2 : i + 1 < n
    · have hk1 := hc (i + 1) (by omega)
      clear hU hc
      generalize rdC 5 (l.drop i) = r at *
      generalize nth l i = x at *
      generalize nth l (i + 1) = y at *
      obtain ⟨j, hj⟩ : ∃ j, j = i + 1 := ⟨_, rfl⟩
      rw [← hj] at hk1
      have hji : (i : Int) + 1 = (j : Int) := by omega
      have hjn : (j : Int) < (n : Int) := by omega
      have h2' : ¬ (n : Int) ≤ (j : Int) := by omega
      clear hj
      obtain ⟨C, hC⟩ : ∃ C, C = x * 256 + y := ⟨_, rfl⟩
      have hCe : (x : Int) * 256 + (y : Int) = (C : Int) := by omega
      rw [← hC] at R
      clear hC
      cases hch : chr (C : Int) with
      | true =>
        rw [if_pos ⟨by omega, hch⟩] at R
        subst R
        go_enter Tryz.func90, Tryz.ntmps90
        go_wp2
        go_quiet (fail)
        go_wp2_with (first | (go_at_call 91; refine (l2Char_any _ _).mono ?_; rintro e w' ⟨rfl, rfl⟩; rw [hch]))
        go_ret2
        exact ret_twoB rfl rfl (below_drewN (Below.refl _ _) _)
      | false =>
        rw [if_neg (by rw [hch]; simp)] at R
        subst R
        go_enter Tryz.func90, Tryz.ntmps90
        go_wp2
        go_quiet (fail)
        go_wp2_with (first | (go_at_call 91; refine (l2Char_any _ _).mono ?_; rintro e w' ⟨rfl, rfl⟩; rw [hch]))
        go_ret2
        exact ret_twoB rfl rfl (below_drewN (Below.refl _ _) _)
    · rw [if_neg (by omega)] at R
      clear hU hc
      generalize rdC 5 (l.drop i) = r at *
      subst R
      have h2' : (n : Int) ≤ (i : Int) + 1 := by omega
      go_enter Tryz.func90, Tryz.ntmps90
      go_wp2
      go_ret2
      exact ret_twoB rfl rfl (Below.refl _ _)

/-- How the model's reading ends. -/
def DecEnd (cs : Int) (l : List Nat) (w : World) (e : Ending) (w' : World) : Prop :=
  (∃ v u, e = .returned (.tuple #[v, .bool true]) ∧ decL cs l = some u ∧ OwnI w' w.heap.size v u ∧ u.length ≤ l.length ∧ Below w.heap.size w w') ∨ (e = .returned (.tuple #[.slice none 0 0, .bool false]) ∧ decL cs l = none ∧ Below w.heap.size w w')

set_option maxHeartbeats 3200000 in
set_option maxRecDepth 100000 in
theorem l2Decode_any (cs : Int) (a : Option Addr) (n cap : Nat) (l : List Nat) (w : World) (hcs : 1 ≤ cs ∧ cs ≤ 5) (hl : l.length = n) (hr : Rd w a l) (hB : IsB l) (hn : n ≤ 1048576) :
    Calls Tryz.prog 67 #[.int .i64 cs, .slice a n cap] w fun e w' => DecEnd cs l w e w' := by
  go_enter Tryz.func67, Tryz.ntmps67
  go_wp2
  have hO := OwnI.lit w w.heap.size (Nat.le_refl _) #[] [] rfl (by simp [maxLen])
  have hB0 : Below w.heap.size w (w.alloc (.cells #[] 2)) := (Below.refl _ _).alloc (Nat.le_refl _) _
  go_loopw [6, 7] (fun v i wr => ∃ (k : Nat) (out : List Int), k ≤ n ∧ i = .int .i64 k ∧ OwnI wr w.heap.size v out ∧ Hid (decL cs l = (decL cs (l.drop k)).map (out ++ ·)) ∧ out.length ≤ k ∧ Below w.heap.size w wr) (fun _ i _ => n - (intOf i).toNat)
  case atStart => exact ⟨0, [], Nat.zero_le _, rfl, hO, by show _ = _; rw [List.drop_zero]; cases decL cs l <;> simp, Nat.le_refl _, hB0⟩
  case round =>
    obtain ⟨k, out, hk, rfl, hown, hq, hol, hbel⟩ := hrel
    clear hO hB0
    have hsz := hbel.size
    have hlk : (l.drop k).length = n - k := by rw [List.length_drop, hl]
    by_cases hkn : k < n
    · have HC : Hid (Calls Tryz.prog 90 #[.int .i64 cs, .slice a n cap, .int .i64 (k : Int)] wr fun e w' => e = .returned (.tuple #[.int .i64 ((rdC cs (l.drop k)).1 : Int), .int .i64 ((rdC cs (l.drop k)).2 : Int)]) ∧ Below wr.heap.size wr w') := l2One_any cs a n cap k l wr hcs hl (hr.below hbel) hB hkn hn
      have hrle := rdC_le cs (l.drop k) (by omega)
      generalize hrd : rdC cs (l.drop k) = r at *
      obtain ⟨g, s⟩ := r
      simp only at HC hrle
      rw [hlk] at hrle
      have hki : (k : Int) < (n : Int) := by omega
      by_cases hs : s = 0
      · subst hs
        have HD : Hid (decL cs l = none) := by
          show _ = _
          rw [hq.out, decL_none (by omega) (by rw [hrd])]; rfl
        clear hq hrd
        go_wp2_with fail
        refine Calls.mono HC.out ?_
        rintro e w1 ⟨rfl, hb1⟩
        have hbE := hbel.trans (hb1.mono hsz)
        clear HC hb1 hbel
        go_wp2
        go_ret2
        exact .inr ⟨rfl, HD.out, hbE⟩
      · have hs' : ((s : Int) == 0) = false := by simp; omega
        have HQ : Hid (decL cs l = (decL cs (l.drop (k + s))).map ((out ++ [(g : Int)]) ++ ·)) := by
          show _ = _
          rw [hq.out, decL_step (by omega) hs hrd, List.drop_drop, omap_app]
        clear hq hrd
        go_wp2_with fail
        refine Calls.mono HC.out ?_
        rintro e w1 ⟨rfl, hb1⟩
        have hown1 : OwnI w1 w.heap.size _ out := hown.below hb1 (Nat.le_refl _)
        have hbE := hbel.trans (hb1.mono hsz)
        have hz1 := hbE.size
        clear HC hb1 hbel hown
        go_wp2_with (at_builtin; refine wpList_app_newI rfl _ _ rfl w.heap.size _ out rfl hown1 1 1 [(g : Int)] rfl rfl rfl (by omega) hz1 ?_; intro v' w2 hown' hb')
        go_wp2
        go_roundw
        case rel => exact ⟨k + s, out ++ [(g : Int)], by omega, by go_num, hown', HQ, by simp; omega, hbE.trans hb'⟩
        case measure => simp [intOf]; omega
    · have hki : ¬ (k : Int) < (n : Int) := by omega
      have HD : Hid (decL cs l = some out) := by
        show _ = _
        rw [hq.out, decL_nil (by omega)]; simp
      clear hq
      go_wp2
      go_ret2
      exact .inl ⟨_, out, rfl, HD.out, hown, by omega, hbel⟩

end Go.Proofs.YtooifkdbpghcfaaGreatDoor
