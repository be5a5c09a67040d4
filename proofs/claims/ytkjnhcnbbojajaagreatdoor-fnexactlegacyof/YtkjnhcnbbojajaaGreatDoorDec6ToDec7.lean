/- The model's l2Single, l2One, l2Decode and DecodeText, by the same plain functions; at most 1048576 bytes · The program's and the model's DecodeText at once. -/
import Derived.Test.YtkjnhcnbbojajaaGreatDoorDec4ToDec5
namespace Go.Proofs.YtkjnhcnbbojajaaGreatDoor
open Go.RowKit

set_option maxHeartbeats 1600000 in
set_option maxRecDepth 100000 in
theorem l2Single_any (cs : Int) (x : Nat) (r : Int) (w : World) (hx : x < 256)
    (hr : (cs = 1 ∧ x < 128 ∧ r = (x : Int)) ∨ (cs = 1 ∧ ¬ x < 128 ∧ r = -1) ∨ (cs = 2 ∧ r = (x : Int)) ∨ (cs = 3 ∧ r = (cyU x : Int))) :
    Calls Tryz.prog 257 #[.int .i64 cs, .int .i64 (x : Int)] w fun e w' => e = .returned (.int .i64 r) ∧ w = w' := by
  rcases hr with ⟨rfl, h1, rfl⟩ | ⟨rfl, h1, rfl⟩ | ⟨rfl, rfl⟩ | ⟨rfl, rfl⟩
  · have hh : hasC 1 (x : Int) = true := by rw [hasC_1]; exact decide_eq_true (by omega)
    go_enter Tryz.func257, Tryz.ntmps257
    go_wp2_with (first | (go_at_call 217; refine (l2Has_any _ _ _ (by omega)).mono ?_; rintro e w' ⟨rfl, rfl⟩; rw [hh]))
    go_ret
    exact ret_int rfl
  · have hh : hasC 1 (x : Int) = false := by rw [hasC_1]; exact decide_eq_false (by omega)
    go_enter Tryz.func257, Tryz.ntmps257
    go_wp2_with (first | (go_at_call 217; refine (l2Has_any _ _ _ (by omega)).mono ?_; rintro e w' ⟨rfl, rfl⟩; rw [hh]))
    go_ret
    exact ret_int rfl
  · have hh : hasC 2 (x : Int) = true := by rw [hasC_2]; exact decide_eq_true (by omega)
    go_enter Tryz.func257, Tryz.ntmps257
    go_wp2_with (first | (go_at_call 217; refine (l2Has_any _ _ _ (by omega)).mono ?_; rintro e w' ⟨rfl, rfl⟩; rw [hh]))
    go_ret
    exact ret_int rfl
  · have hk := cyU_ok hx
    have hh : hasC 3 (cyU x : Int) = true := by rw [hasC_3]; exact decide_eq_true (by rw [hk.2]; omega)
    by_cases h1 : x = 253
    · subst h1
      go_enter Tryz.func257, Tryz.ntmps257
      go_wp2
      go_ret
      exact ret_int rfl
    · by_cases h2 : x = 240
      · subst h2
        go_enter Tryz.func257, Tryz.ntmps257
        go_wp2
        go_ret
        exact ret_int rfl
      · have e1 : ((x : Int) == 253) = false := by simp; omega
        have e2 : ((x : Int) == 240) = false := by simp; omega
        by_cases h3 : x ≤ 160
        · have e : cyU x = x := by unfold cyU; rw [if_neg h1, if_neg h2, if_pos (.inl h3)]
          rw [e] at hh ⊢
          have e3 : ¬ (160 : Int) < (x : Int) := by omega
          clear hk e
          go_enter Tryz.func257, Tryz.ntmps257
          go_wp2_with (first | (go_at_call 217; refine (l2Has_any _ _ _ (by omega)).mono ?_; rintro e w' ⟨rfl, rfl⟩; rw [hh]))
          go_ret
          exact ret_int rfl
        · have e3 : (160 : Int) < (x : Int) := by omega
          by_cases h4 : x = 173
          · subst h4
            have hh' : hasC 3 ((173 : Nat) : Int) = true := by rw [hasC_3]; decide
            go_enter Tryz.func257, Tryz.ntmps257
            go_wp2_with (first | (go_at_call 217; refine (l2Has_any _ _ _ (by omega)).mono ?_; rintro e w' ⟨rfl, rfl⟩; rw [show hasC 3 173 = true from hh']))
            go_ret
            exact ret_int rfl
          · have e : cyU x = x + 864 := by unfold cyU; rw [if_neg h1, if_neg h2, if_neg (by omega)]
            rw [e] at hh ⊢
            have e4 : ((x : Int) != 173) = true := by simp; omega
            have e5 : ((x + 864 : Nat) : Int) = (x : Int) + 864 := by omega
            rw [e5] at hh ⊢
            clear hk e e5
            go_enter Tryz.func257, Tryz.ntmps257
            go_wp2_with (first | (go_at_call 217; refine (l2Has_any _ _ _ (by omega)).mono ?_; rintro e w' ⟨rfl, rfl⟩; rw [hh]))
            go_ret
            exact ret_int rfl

theorem ret_twoB {a a' b b' : Int} {w w' : World} {n : Nat} (h : a = a') (h' : b = b') (hb : Below n w w') : Ending.returned (Value.tuple #[.int .i64 a, .int .i64 b]) = .returned (.tuple #[.int .i64 a', .int .i64 b']) ∧ Below n w w' := ⟨by rw [h, h'], hb⟩

set_option maxHeartbeats 3200000 in
set_option maxRecDepth 100000 in
theorem l2One_any (cs : Int) (a : Option Addr) (n cap i : Nat) (l : List Nat) (w : World) (hcs : 1 ≤ cs ∧ cs ≤ 5) (hl : l.length = n) (hr : Rd w a l) (hB : IsB l) (hi : i < n) (hn : n ≤ 1048576) :
    Calls Tryz.prog 219 #[.int .i64 cs, .slice a n cap, .int .i64 (i : Int)] w fun e w' => e = .returned (.tuple #[.int .i64 ((rdC cs (l.drop i)).1 : Int), .int .i64 ((rdC cs (l.drop i)).2 : Int)]) ∧ Below w.heap.size w w' := by
  have hU := l2Utf8_any a n cap i l w hl hr hB hi hn
  obtain ⟨b, off, rfl, hlt, hc⟩ := hr.at_ (by omega)
  have h0 := hc i (by omega)
  have hin : (i : Int) < (n : Int) := by omega
  have hBd := isB_drop hB i
  have hxb := nth_lt hB i
  have hyb := nth_lt hB (i + 1)
  have n0 : nth (l.drop i) 0 = nth l i := by rw [nth_drop]; rfl
  have n1 : nth (l.drop i) 1 = nth l (i + 1) := nth_drop _ _ _
  have hL : (l.drop i).length = n - i := by rw [List.length_drop, hl]
  rcases cs_cases hcs with rfl | rfl | rfl | rfl | rfl
  · have R := @rdC_1 (l.drop i) (by omega)
    rw [n0] at R
    clear hU hc n1
    generalize rdC 1 (l.drop i) = r at *
    generalize nth l i = x at *
    by_cases h1 : x < 128
    · rw [if_pos h1] at R
      subst R
      have h1' : ¬ (x : Int) < 0 := by omega
      go_enter Tryz.func219, Tryz.ntmps219
      go_wp2_with (first | (go_at_call 257; refine (l2Single_any 1 x (x : Int) _ hxb (.inl ⟨rfl, h1, rfl⟩)).mono ?_; rintro e w' ⟨rfl, rfl⟩))
      go_ret2
      exact ret_twoB rfl rfl (Below.refl _ _)
    · rw [if_neg h1] at R
      subst R
      go_enter Tryz.func219, Tryz.ntmps219
      go_wp2_with (first | (go_at_call 257; refine (l2Single_any 1 x (-1) _ hxb (.inr (.inl ⟨rfl, h1, rfl⟩))).mono ?_; rintro e w' ⟨rfl, rfl⟩))
      go_ret2
      exact ret_twoB rfl rfl (Below.refl _ _)
  · have R := @rdC_2 (l.drop i) hBd (by omega)
    rw [n0] at R
    clear hU hc n1
    generalize rdC 2 (l.drop i) = r at *
    generalize nth l i = x at *
    subst R
    have h1' : ¬ (x : Int) < 0 := by omega
    go_enter Tryz.func219, Tryz.ntmps219
    go_wp2_with (first | (go_at_call 257; refine (l2Single_any 2 x (x : Int) _ hxb (.inr (.inr (.inl ⟨rfl, rfl⟩)))).mono ?_; rintro e w' ⟨rfl, rfl⟩))
    go_ret2
    exact ret_twoB rfl rfl (Below.refl _ _)
  · have R := @rdC_3 (l.drop i) hBd (by omega)
    rw [n0] at R
    clear hU hc n1
    generalize rdC 3 (l.drop i) = r at *
    generalize nth l i = x at *
    subst R
    have HS : Hid (_) := fun w => l2Single_any 3 x (cyU x : Int) w hxb (.inr (.inr (.inr ⟨rfl, rfl⟩)))
    generalize cyU x = y at *
    have h1' : ¬ (y : Int) < 0 := by omega
    go_enter Tryz.func219, Tryz.ntmps219
    go_wp2_with (first | (go_at_call 257; refine (HS.out _).mono ?_; rintro e w' ⟨rfl, rfl⟩))
    go_ret2
    exact ret_twoB rfl rfl (Below.refl _ _)
  · clear hc n1 n0
    generalize rdC 4 (l.drop i) = r at *
    obtain ⟨g, s⟩ := r
    go_enter Tryz.func219, Tryz.ntmps219
    go_wp2_with fail
    refine Calls.mono hU ?_
    rintro e w' ⟨rfl, rfl⟩
    go_wp2
    go_ret2
    exact ret_twoB rfl rfl (Below.refl _ _)
  · have R := @rdC_5 (l.drop i) hBd
    rw [hL, n0, n1] at R
    by_cases h2 : i + 1 < n
    · have hk1 := hc (i + 1) (by omega)
      clear hU hc
      generalize rdC 5 (l.drop i) = r at *
      generalize nth l i = x at *
      generalize nth l (i + 1) = y at *
      obtain ⟨j, hj⟩ : ∃ j, j = i + 1 := ⟨_, rfl⟩
      rw [← hj] at hk1
      have hji : (i : Int) + 1 = (j : Int) := by omega
      have hjn : (j : Int) < (n : Int) := by omega
      have h2' : ¬ (n : Int) ≤ (j : Int) := by omega
      clear hj
      obtain ⟨C, hC⟩ : ∃ C, C = x * 256 + y := ⟨_, rfl⟩
      have hCe : (x : Int) * 256 + (y : Int) = (C : Int) := by omega
      rw [← hC] at R
      clear hC
      cases hch : chr (C : Int) with
      | true =>
        rw [if_pos ⟨by omega, hch⟩] at R
        subst R
        go_enter Tryz.func219, Tryz.ntmps219
        go_wp2
        go_quiet (fail)
        go_wp2_with (first | (go_at_call 216; refine (l2Char_any _ _).mono ?_; rintro e w' ⟨rfl, rfl⟩; rw [hch]))
        go_ret2
        exact ret_twoB rfl rfl (below_drewN (Below.refl _ _) _)
      | false =>
        rw [if_neg (by rw [hch]; simp)] at R
        subst R
        go_enter Tryz.func219, Tryz.ntmps219
        go_wp2
        go_quiet (fail)
        go_wp2_with (first | (go_at_call 216; refine (l2Char_any _ _).mono ?_; rintro e w' ⟨rfl, rfl⟩; rw [hch]))
        go_ret2
        exact ret_twoB rfl rfl (below_drewN (Below.refl _ _) _)
    · rw [if_neg (by omega)] at R
      clear hU hc
      generalize rdC 5 (l.drop i) = r at *
      subst R
      have h2' : (n : Int) ≤ (i : Int) + 1 := by omega
      go_enter Tryz.func219, Tryz.ntmps219
      go_wp2
      go_ret2
      exact ret_twoB rfl rfl (Below.refl _ _)

/-- How the model's reading ends. -/
def DecEnd (cs : Int) (l : List Nat) (w : World) (e : Ending) (w' : World) : Prop :=
  (∃ v u, e = .returned (.tuple #[v, .bool true]) ∧ decL cs l = some u ∧ OwnI w' w.heap.size v u ∧ u.length ≤ l.length ∧ Below w.heap.size w w') ∨ (e = .returned (.tuple #[.slice none 0 0, .bool false]) ∧ decL cs l = none ∧ Below w.heap.size w w')

set_option maxHeartbeats 3200000 in
set_option maxRecDepth 100000 in
theorem l2Decode_any (cs : Int) (a : Option Addr) (n cap : Nat) (l : List Nat) (w : World) (hcs : 1 ≤ cs ∧ cs ≤ 5) (hl : l.length = n) (hr : Rd w a l) (hB : IsB l) (hn : n ≤ 1048576) :
    Calls Tryz.prog 170 #[.int .i64 cs, .slice a n cap] w fun e w' => DecEnd cs l w e w' := by
  go_enter Tryz.func170, Tryz.ntmps170
  go_wp2
  have hO := OwnI.lit w w.heap.size (Nat.le_refl _) #[] [] rfl (by simp [maxLen])
  have hB0 : Below w.heap.size w (w.alloc (.cells #[] 2)) := (Below.refl _ _).alloc (Nat.le_refl _) _
  go_loopw [6, 7] (fun v i wr => ∃ (k : Nat) (out : List Int), k ≤ n ∧ i = .int .i64 k ∧ OwnI wr w.heap.size v out ∧ Hid (decL cs l = (decL cs (l.drop k)).map (out ++ ·)) ∧ out.length ≤ k ∧ Below w.heap.size w wr) (fun _ i _ => n - (intOf i).toNat)
  case atStart => exact ⟨0, [], Nat.zero_le _, rfl, hO, by show _ = _; rw [List.drop_zero]; cases decL cs l <;> simp, Nat.le_refl _, hB0⟩
  case round =>
    obtain ⟨k, out, hk, rfl, hown, hq, hol, hbel⟩ := hrel
    clear hO hB0
    have hsz := hbel.size
    have hlk : (l.drop k).length = n - k := by rw [List.length_drop, hl]
    by_cases hkn : k < n
    · have HC : Hid (Calls Tryz.prog 219 #[.int .i64 cs, .slice a n cap, .int .i64 (k : Int)] wr fun e w' => e = .returned (.tuple #[.int .i64 ((rdC cs (l.drop k)).1 : Int), .int .i64 ((rdC cs (l.drop k)).2 : Int)]) ∧ Below wr.heap.size wr w') := l2One_any cs a n cap k l wr hcs hl (hr.below hbel) hB hkn hn
      have hrle := rdC_le cs (l.drop k) (by omega)
      generalize hrd : rdC cs (l.drop k) = r at *
      obtain ⟨g, s⟩ := r
      simp only at HC hrle
      rw [hlk] at hrle
      have hki : (k : Int) < (n : Int) := by omega
      by_cases hs : s = 0
      · subst hs
        have HD : Hid (decL cs l = none) := by
          show _ = _
          rw [hq.out, decL_none (by omega) (by rw [hrd])]; rfl
        clear hq hrd
        go_wp2_with fail
        refine Calls.mono HC.out ?_
        rintro e w1 ⟨rfl, hb1⟩
        have hbE := hbel.trans (hb1.mono hsz)
        clear HC hb1 hbel
        go_wp2
        go_ret2
        exact .inr ⟨rfl, HD.out, hbE⟩
      · have hs' : ((s : Int) == 0) = false := by simp; omega
        have HQ : Hid (decL cs l = (decL cs (l.drop (k + s))).map ((out ++ [(g : Int)]) ++ ·)) := by
          show _ = _
          rw [hq.out, decL_step (by omega) hs hrd, List.drop_drop, omap_app]
        clear hq hrd
        go_wp2_with fail
        refine Calls.mono HC.out ?_
        rintro e w1 ⟨rfl, hb1⟩
        have hown1 : OwnI w1 w.heap.size _ out := hown.below hb1 (Nat.le_refl _)
        have hbE := hbel.trans (hb1.mono hsz)
        have hz1 := hbE.size
        clear HC hb1 hbel hown
        go_wp2_with (at_builtin; refine wpList_app_newI rfl _ _ rfl w.heap.size _ out rfl hown1 1 1 [(g : Int)] rfl rfl rfl (by omega) hz1 ?_; intro v' w2 hown' hb')
        go_wp2
        go_roundw
        case rel => exact ⟨k + s, out ++ [(g : Int)], by omega, by go_num, hown', HQ, by simp; omega, hbE.trans hb'⟩
        case measure => simp [intOf]; omega
    · have hki : ¬ (k : Int) < (n : Int) := by omega
      have HD : Hid (decL cs l = some out) := by
        show _ = _
        rw [hq.out, decL_nil (by omega)]; simp
      clear hq
      go_wp2
      go_ret2
      exact .inl ⟨_, out, rfl, HD.out, hown, by omega, hbel⟩

end Go.Proofs.YtkjnhcnbbojajaaGreatDoor

namespace Go.Proofs.YtkjnhcnbbojajaaGreatDoor
open Go.RowKit

theorem decL_len (cs : Int) : ∀ (n : Nat) (l : List Nat) (u : List Int), l.length ≤ n → decL cs l = some u → u.length ≤ l.length := by
  intro n
  induction n with
  | zero =>
    intro l u hl h
    rw [decL_nil (by omega)] at h
    cases h
    exact Nat.zero_le _
  | succ n ih =>
    intro l u hl h
    by_cases h0 : l.length = 0
    · rw [decL_nil h0] at h
      cases h
      exact Nat.zero_le _
    · by_cases hs : (rdC cs l).2 = 0
      · rw [decL_none (by omega) hs] at h; cases h
      · rw [decL_step (c := (rdC cs l).1) (s := (rdC cs l).2) (by omega) hs rfl] at h
        cases hd : decL cs (l.drop (rdC cs l).2) with
        | none => rw [hd] at h; cases h
        | some v =>
          rw [hd] at h
          simp only [Option.map_some, Option.some.injEq] at h
          subst h
          have := ih _ _ (by rw [List.length_drop]; omega) hd
          rw [List.length_drop] at this
          rw [List.length_cons]
          omega
theorem decT_few (cs : Int) (l : List Nat) : (decT cs l).2.length ≤ 400 := by
  unfold decT
  split
  · split
    · simp
    · cases hd : decL cs l with
      | none => simp
      | some u =>
        have := decL_len cs l.length l u (Nat.le_refl _) hd
        simp only
        omega
  · simp
end Go.Proofs.YtkjnhcnbbojajaaGreatDoor
