/- What characters count as, the order of two lists of numbers, and pieces of a list: plain functions with no program in them, and what follows of them · What a character counts as, the program's and the model's, at every comparator and number: both by one plain function · The laws' helpers that write marks into an answer's numbers, look for them again, and hold two answers with numbers against each other, do what their texts say; at most 1048576 numbers · The laws' helpers that write marks into an answer's bytes, look for them again, and hold two answers with bytes against each other, do what their texts say; at most 1048576 bytes · A row of bytes of the call's own is kept where another one grows · A row of the call's own, behind a call that wrote into another row; no conditions beyond those that each fact names · MapCodes, the program's and the model's, at every comparator and slice of at most 1048576 numbers: both by one plain function. -/
import Derived.Test.YtfbjodbihenmjaaGreatDoorTel3ToDec2
import Derived.Test.YtfbjodbihenmjaaGreatDoorLowToChs2
import Derived.Test.YtfbjodbihenmjaaGreatDoorAppToChs0
import Derived.Handy
import Derived.Test.YtfbjodbihenmjaaGreatDoorBytToEncQ
namespace Go.Proofs.YtfbjodbihenmjaaGreatDoor
open Go.RowKit

/-- The large letter of a plain one. -/
def lgA (c : Int) : Int := if 97 ≤ c ∧ c ≤ 122 then c - 32 else c
/-- The large letter of any. -/
def lgU (c : Int) : Int := if c = 247 ∨ c = 962 then c else if (224 ≤ c ∧ c ≤ 254) ∨ (945 ≤ c ∧ c ≤ 969) ∨ (1072 ≤ c ∧ c ≤ 1103) then c - 32 else if 1104 ≤ c ∧ c ≤ 1119 then c - 80 else lgA c
/-- What a character counts as. -/
def mapC (k c : Int) : Int := if k = 2 then lgA c else if k = 3 then lgU c else c
theorem mapC_1 (c : Int) : mapC 1 c = c := by simp [mapC]
theorem mapC_2 (c : Int) : mapC 2 c = lgA c := by simp [mapC]
theorem mapC_3 (c : Int) : mapC 3 c = lgU c := by simp [mapC]
theorem lgA_yes {c : Int} (h : 97 ≤ c ∧ c ≤ 122) : lgA c = c - 32 := if_pos h
theorem lgA_no {c : Int} (h : ¬ (97 ≤ c ∧ c ≤ 122)) : lgA c = c := if_neg h
theorem lgU_same {c : Int} (h : c = 247 ∨ c = 962) : lgU c = c := if_pos h
theorem lgU_near {c : Int} (h : ¬ (c = 247 ∨ c = 962)) (h2 : (224 ≤ c ∧ c ≤ 254) ∨ (945 ≤ c ∧ c ≤ 969) ∨ (1072 ≤ c ∧ c ≤ 1103)) : lgU c = c - 32 := by unfold lgU; rw [if_neg h, if_pos h2]
theorem lgU_far {c : Int} (h : 1104 ≤ c ∧ c ≤ 1119) : lgU c = c - 80 := by unfold lgU; rw [if_neg (by omega), if_neg (by omega), if_pos h]
theorem lgU_plain {c : Int} (h : ¬ ((224 ≤ c ∧ c ≤ 254) ∨ (945 ≤ c ∧ c ≤ 969) ∨ (1072 ≤ c ∧ c ≤ 1103))) (h2 : ¬ (1104 ≤ c ∧ c ≤ 1119)) : lgU c = lgA c := by
  unfold lgU; rw [if_neg (by omega), if_neg h, if_neg h2]

theorem lgA_again (c : Int) : lgA (lgA c) = lgA c := by
  unfold lgA
  split
  · rw [if_neg (by omega)]
  · rfl
theorem lgU_again (c : Int) : lgU (lgU c) = lgU c := by
  by_cases h1 : c = 247 ∨ c = 962
  · rw [lgU_same h1, lgU_same h1]
  · by_cases h2 : (224 ≤ c ∧ c ≤ 254) ∨ (945 ≤ c ∧ c ≤ 969) ∨ (1072 ≤ c ∧ c ≤ 1103)
    · rw [lgU_near h1 h2, lgU_plain (by omega) (by omega), lgA_no (by omega)]
    · by_cases h3 : 1104 ≤ c ∧ c ≤ 1119
      · rw [lgU_far h3, lgU_plain (by omega) (by omega), lgA_no (by omega)]
      · rw [lgU_plain h2 h3]
        by_cases h4 : 97 ≤ c ∧ c ≤ 122
        · rw [lgA_yes h4, lgU_plain (by omega) (by omega), lgA_no (by omega)]
        · rw [lgA_no h4, lgU_plain h2 h3, lgA_no h4]
theorem mapC_again (k c : Int) : mapC k (mapC k c) = mapC k c := by
  unfold mapC
  split
  · exact lgA_again c
  · split
    · exact lgU_again c
    · rfl
theorem lgA_chr {c : Int} (h : chr c = true) : chr (lgA c) = true := by
  rw [chr_iff] at h ⊢
  unfold lgA
  split <;> omega
theorem mapC_chr {k c : Int} (h : chr c = true) : chr (mapC k c) = true := by
  unfold mapC
  split
  · exact lgA_chr h
  · split
    · unfold lgU
      split
      · exact h
      · split
        · rw [chr_iff] at h ⊢; omega
        · split
          · rw [chr_iff] at h ⊢; omega
          · exact lgA_chr h
    · exact h
theorem map_again (k : Int) (l : List Int) : (l.map (mapC k)).map (mapC k) = l.map (mapC k) := by
  rw [List.map_map]
  exact List.map_congr_left fun c _ => mapC_again k c
theorem flt_map {k : Int} {l : List Int} (h : flt l = 0) : flt (l.map (mapC k)) = 0 := by
  unfold flt at h ⊢
  rw [List.length_map]
  by_cases h4 : 400 < l.length
  · rw [if_pos h4] at h; omega
  · rw [if_neg h4] at h ⊢
    by_cases ha : l.all chr = true
    · rw [if_pos (by rw [List.all_map, List.all_eq_true]; intro x hx; exact mapC_chr (List.all_eq_true.1 ha x hx))]
    · rw [if_neg ha] at h; omega

/-- The order of two lists of numbers. -/
def cmpL : List Int → List Int → Int
  | [], [] => 0
  | [], _ :: _ => -1
  | _ :: _, [] => 1
  | x :: xs, y :: ys => if x < y then -1 else if y < x then 1 else cmpL xs ys
theorem cmpL_cases : ∀ a b : List Int, cmpL a b = -1 ∨ cmpL a b = 0 ∨ cmpL a b = 1
  | [], [] => .inr (.inl rfl)
  | [], _ :: _ => .inl rfl
  | _ :: _, [] => .inr (.inr rfl)
  | x :: xs, y :: ys => by
    rw [cmpL]
    split
    · exact .inl rfl
    · split
      · exact .inr (.inr rfl)
      · exact cmpL_cases xs ys
theorem cmpL_refl : ∀ a : List Int, cmpL a a = 0
  | [] => rfl
  | x :: xs => by rw [cmpL, if_neg (by omega), if_neg (by omega)]; exact cmpL_refl xs
theorem cmpL_eq : ∀ a b : List Int, cmpL a b = 0 ↔ a = b
  | [], [] => by simp [cmpL]
  | [], _ :: _ => by simp [cmpL]
  | _ :: _, [] => by simp [cmpL]
  | x :: xs, y :: ys => by
    rw [cmpL]
    split
    · simp; omega
    · split
      · simp; omega
      · rw [cmpL_eq xs ys]
        have : x = y := by omega
        simp [this]
theorem cmpL_back : ∀ a b : List Int, cmpL b a = - cmpL a b
  | [], [] => rfl
  | [], _ :: _ => rfl
  | _ :: _, [] => rfl
  | x :: xs, y :: ys => by
    rw [cmpL, cmpL]
    by_cases h1 : x < y
    · rw [if_neg (by omega), if_pos h1, if_pos h1]; rfl
    · by_cases h2 : y < x
      · rw [if_pos h2, if_neg h1, if_pos h2]
      · rw [if_neg h2, if_neg h1, if_neg h1, if_neg h2]; exact cmpL_back xs ys
theorem cmpL_trans : ∀ a b c : List Int, cmpL a b ≤ 0 → cmpL b c ≤ 0 → cmpL a c ≤ 0
  | [], _, [], _, _ => by simp [cmpL]
  | [], _, _ :: _, _, _ => by simp [cmpL]
  | _ :: _, [], _, h, _ => by simp [cmpL] at h
  | _ :: _, _ :: _, [], _, h => by simp [cmpL] at h
  | x :: xs, y :: ys, z :: zs, h1, h2 => by
    rw [cmpL] at h1 h2 ⊢
    by_cases p1 : x < y
    · by_cases p2 : y < z
      · rw [if_pos (by omega)]; omega
      · by_cases p3 : z < y
        · rw [if_neg p2, if_pos p3] at h2; omega
        · rw [if_pos (by omega)]; omega
    · by_cases q1 : y < x
      · rw [if_neg p1, if_pos q1] at h1; omega
      · rw [if_neg p1, if_neg q1] at h1
        by_cases p2 : y < z
        · rw [if_pos (by omega)]; omega
        · by_cases p3 : z < y
          · rw [if_neg p2, if_pos p3] at h2; omega
          · rw [if_neg p2, if_neg p3] at h2
            rw [if_neg (by omega), if_neg (by omega)]
            exact cmpL_trans xs ys zs h1 h2
/-- Two lists behind k places that are the same. -/
theorem cmpL_drop {a b : List Int} : ∀ {k : Nat}, k ≤ a.length → k ≤ b.length → (∀ i, i < k → nthI a i = nthI b i) → cmpL a b = cmpL (a.drop k) (b.drop k) := by
  intro k
  induction k generalizing a b with
  | zero => intro _ _ _; simp
  | succ k ih =>
    intro h1 h2 h3
    cases a with
    | nil => simp at h1
    | cons x xs =>
      cases b with
      | nil => simp at h2
      | cons y ys =>
        have h0 : x = y := h3 0 (by omega)
        subst h0
        rw [cmpL, if_neg (by omega), if_neg (by omega), List.drop_succ_cons, List.drop_succ_cons]
        exact ih (by simpa using h1) (by simpa using h2) (fun i hi => h3 (i + 1) (by omega))
theorem cmpL_less {a b : List Int} {k : Nat} (h1 : k < a.length) (h2 : k < b.length) (h3 : ∀ i, i < k → nthI a i = nthI b i) (h : nthI a k < nthI b k) : cmpL a b = -1 := by
  rw [cmpL_drop (by omega) (by omega) h3, drop_consI a k h1, drop_consI b k h2, cmpL, if_pos h]
theorem cmpL_more {a b : List Int} {k : Nat} (h1 : k < a.length) (h2 : k < b.length) (h3 : ∀ i, i < k → nthI a i = nthI b i) (h : nthI b k < nthI a k) : cmpL a b = 1 := by
  rw [cmpL_drop (by omega) (by omega) h3, drop_consI a k h1, drop_consI b k h2, cmpL, if_neg (by omega), if_pos h]
theorem cmpL_ends {a b : List Int} (h3 : ∀ i, i < a.length → i < b.length → nthI a i = nthI b i) : cmpL a b = if a.length < b.length then -1 else if b.length < a.length then 1 else 0 := by
  by_cases h1 : a.length < b.length
  · rw [if_pos h1, cmpL_drop (Nat.le_refl _) (by omega) (fun i hi => h3 i hi (by omega)), List.drop_length, drop_consI b a.length h1]; rfl
  · by_cases h2 : b.length < a.length
    · rw [if_neg h1, if_pos h2, cmpL_drop (k := b.length) (by omega) (Nat.le_refl _) (fun i hi => h3 i (by omega) hi), List.drop_length, drop_consI a b.length h2]; rfl
    · rw [if_neg h1, if_neg h2, cmpL_drop (k := a.length) (Nat.le_refl _) (by omega) (fun i hi => h3 i hi (by omega)), List.drop_length, show a.length = b.length by omega, List.drop_length]; rfl

/-- Does a piece stand at a place of a list? -/
def hasAt (l p : List Int) (i : Nat) : Bool := cmpL ((l.drop i).take p.length) p == 0
/-- Does it stand somewhere in it? -/
def hasP (l p : List Int) : Bool := (List.range (l.length + 1 - p.length)).any (hasAt l p)
theorem hasP_yes {l p : List Int} {i : Nat} (h : i + p.length ≤ l.length) (hi : hasAt l p i = true) : hasP l p = true := by
  unfold hasP
  rw [List.any_eq_true]
  exact ⟨i, by rw [List.mem_range]; omega, hi⟩
theorem hasP_no {l p : List Int} (h : ∀ i, i + p.length ≤ l.length → hasAt l p i = false) : hasP l p = false := by
  unfold hasP
  rw [List.any_eq_false]
  intro i hi
  rw [List.mem_range] at hi
  rw [h i (by omega)]
  simp
theorem hasP_iff {l p : List Int} : hasP l p = true ↔ ∃ i, i + p.length ≤ l.length ∧ (l.drop i).take p.length = p := by
  unfold hasP
  rw [List.any_eq_true]
  constructor
  · rintro ⟨i, hi, h⟩
    rw [List.mem_range] at hi
    exact ⟨i, by omega, (cmpL_eq _ _).1 (by simpa [hasAt] using h)⟩
  · rintro ⟨i, hi, h⟩
    exact ⟨i, by rw [List.mem_range]; omega, by unfold hasAt; rw [h, cmpL_refl]; rfl⟩
theorem hasP_parts {l p : List Int} : hasP l p = true ↔ ∃ x y, l = x ++ p ++ y := by
  rw [hasP_iff]
  constructor
  · rintro ⟨i, hi, h⟩
    refine ⟨l.take i, (l.drop i).drop p.length, ?_⟩
    have e : p ++ (l.drop i).drop p.length = l.drop i := by
      conv => lhs; rw [← h]
      rw [List.length_take, List.length_drop, Nat.min_eq_left (by omega)]
      exact List.take_append_drop _ _
    rw [List.append_assoc, e, List.take_append_drop]
  · rintro ⟨x, y, rfl⟩
    refine ⟨x.length, by simp, ?_⟩
    rw [List.append_assoc, List.drop_left, List.take_left]
theorem hasP_self (l : List Int) : hasP l l = true := hasP_parts.2 ⟨[], [], by simp⟩
theorem hasP_nil (l : List Int) : hasP l [] = true := hasP_parts.2 ⟨[], l, by simp⟩
theorem hasP_more {l p a b : List Int} (h : hasP l p = true) : hasP (a ++ l ++ b) p = true := by
  obtain ⟨x, y, rfl⟩ := hasP_parts.1 h
  exact hasP_parts.2 ⟨a ++ x, y ++ b, by simp⟩
theorem hasP_piece (l : List Int) (i m : Nat) : hasP l ((l.drop i).take m) = true :=
  hasP_parts.2 ⟨l.take i, (l.drop i).drop m, by rw [List.append_assoc, List.take_append_drop, List.take_append_drop]⟩
theorem hasP_le {l p : List Int} (h : hasP l p = true) : p.length ≤ l.length := by
  obtain ⟨i, hi, _⟩ := hasP_iff.1 h
  omega
end Go.Proofs.YtfbjodbihenmjaaGreatDoor

namespace Go.Proofs.YtfbjodbihenmjaaGreatDoor
open Go.RowKit

theorem isBetween_any (c a b : Int) (w : World) : Calls Tryz.prog 31 #[.int .i64 c, .int .i64 a, .int .i64 b] w fun e w' => e = .returned (.bool (decide (a ≤ c ∧ c ≤ b))) ∧ w = w' := by
  go_enter Tryz.func31, Tryz.ntmps31
  go_wp2
  all_goals (go_ret; refine ret_bool ?_; rw [Bool.eq_iff_iff]; simp; try omega)
theorem isComparator_any (k : Int) (w : World) : Calls Tryz.prog 23 #[.int .i64 k] w fun e w' => e = .returned (.bool (decide (1 ≤ k ∧ k ≤ 3))) ∧ w = w' := by
  go_enter Tryz.func23, Tryz.ntmps23
  go_wp2_with (first | (go_at_call 31; refine (isBetween_any _ _ _ _).mono ?_; rintro e w' ⟨rfl, rfl⟩))
  go_ret
  refine ret_bool ?_
  simp
theorem l3Cmp_any (k : Int) (w : World) : Calls Tryz.prog 27 #[.int .i64 k] w fun e w' => e = .returned (.bool (decide (1 ≤ k ∧ k ≤ 3))) ∧ w = w' := by
  go_enter Tryz.func27, Tryz.ntmps27
  go_wp2_with (first | (go_at_call 32; refine (l1In_any _ _ _ _).mono ?_; rintro e w' ⟨rfl, rfl⟩))
  go_ret
  refine ret_bool ?_
  simp
theorem largeAscii_any (c : Int) (w : World) : Calls Tryz.prog 82 #[.int .i64 c] w fun e w' => e = .returned (.int .i64 (lgA c)) ∧ w = w' := by
  by_cases h : 97 ≤ c ∧ c ≤ 122
  · have h1 := h.1
    have h2 := h.2
    rw [lgA_yes h]
    go_enter Tryz.func82, Tryz.ntmps82
    go_wp2_with (first | (go_at_call 31; refine (isBetween_any _ _ _ _).mono ?_; rintro e w' ⟨rfl, rfl⟩; rw [decide_eq_true h]))
    go_ret
    exact ⟨rfl, rfl⟩
  · rw [lgA_no h]
    have hd := decide_eq_false h
    go_enter Tryz.func82, Tryz.ntmps82
    go_wp2_with (first | (go_at_call 31; refine (isBetween_any _ _ _ _).mono ?_; rintro e w' ⟨rfl, rfl⟩; rw [decide_eq_false h]))
    go_ret
    exact ⟨rfl, rfl⟩
/-- Between: a plain word, so that no walk opens it. -/
def btw (c a b : Int) : Bool := decide (a ≤ c ∧ c ≤ b)
theorem btw_yes {c a b : Int} (h : a ≤ c ∧ c ≤ b) : btw c a b = true := decide_eq_true h
theorem btw_no {c a b : Int} (h : ¬ (a ≤ c ∧ c ≤ b)) : btw c a b = false := decide_eq_false h
theorem isBetween_b (c a b : Int) (w : World) : Calls Tryz.prog 31 #[.int .i64 c, .int .i64 a, .int .i64 b] w fun e w' => e = .returned (.bool (btw c a b)) ∧ w = w' := isBetween_any c a b w
theorem l1In_b (c a b : Int) (w : World) : Calls Tryz.prog 32 #[.int .i64 c, .int .i64 a, .int .i64 b] w fun e w' => e = .returned (.bool (btw c a b)) ∧ w = w' := l1In_any c a b w

set_option maxHeartbeats 1600000 in
theorem largeUnicode_any (c : Int) (w : World) : Calls Tryz.prog 83 #[.int .i64 c] w fun e w' => e = .returned (.int .i64 (lgU c)) ∧ w = w' := by
  by_cases h1 : c = 247 ∨ c = 962
  · rw [lgU_same h1]
    rcases h1 with rfl | rfl
    all_goals
      go_enter Tryz.func83, Tryz.ntmps83
      go_wp2
      go_ret
      exact ⟨rfl, rfl⟩
  · have e1 : (c == 247) = false := by simp; omega
    have e2 : (c == 962) = false := by simp; omega
    by_cases h2 : 224 ≤ c ∧ c ≤ 254
    · have H : Hid (btw c 224 254 = true) := btw_yes h2
      rw [lgU_near h1 (.inl h2)]
      obtain ⟨p1, p2⟩ := h2
      clear h1
      go_enter Tryz.func83, Tryz.ntmps83
      go_wp2_with (first | (go_at_call 31; refine (isBetween_b _ _ _ _).mono ?_; rintro e w' ⟨rfl, rfl⟩; rw [H.out]))
      go_ret
      exact ⟨rfl, rfl⟩
    · have H : Hid (btw c 224 254 = false) := btw_no h2
      by_cases h3 : 945 ≤ c ∧ c ≤ 969
      · have H3 : Hid (btw c 945 969 = true) := btw_yes h3
        rw [lgU_near h1 (.inr (.inl h3))]
        obtain ⟨p1, p2⟩ := h3
        clear h1 h2
        go_enter Tryz.func83, Tryz.ntmps83
        go_wp2_with (first | (go_at_call 31; refine (isBetween_b _ _ _ _).mono ?_; rintro e w' ⟨rfl, rfl⟩; first | rw [H.out] | rw [H3.out]))
        go_ret
        exact ⟨rfl, rfl⟩
      · have H3 : Hid (btw c 945 969 = false) := btw_no h3
        by_cases h4 : 1072 ≤ c ∧ c ≤ 1103
        · have H4 : Hid (btw c 1072 1103 = true) := btw_yes h4
          rw [lgU_near h1 (.inr (.inr h4))]
          obtain ⟨p1, p2⟩ := h4
          clear h1 h2 h3
          go_enter Tryz.func83, Tryz.ntmps83
          go_wp2_with (first | (go_at_call 31; refine (isBetween_b _ _ _ _).mono ?_; rintro e w' ⟨rfl, rfl⟩; first | rw [H.out] | rw [H3.out] | rw [H4.out]))
          go_ret
          exact ⟨rfl, rfl⟩
        · have H4 : Hid (btw c 1072 1103 = false) := btw_no h4
          by_cases h5 : 1104 ≤ c ∧ c ≤ 1119
          · have H5 : Hid (btw c 1104 1119 = true) := btw_yes h5
            rw [lgU_far h5]
            obtain ⟨p1, p2⟩ := h5
            clear h1 h2 h3 h4
            go_enter Tryz.func83, Tryz.ntmps83
            go_wp2_with (first | (go_at_call 31; refine (isBetween_b _ _ _ _).mono ?_; rintro e w' ⟨rfl, rfl⟩; first | rw [H.out] | rw [H3.out] | rw [H4.out] | rw [H5.out]))
            go_ret
            exact ⟨rfl, rfl⟩
          · have H5 : Hid (btw c 1104 1119 = false) := btw_no h5
            rw [lgU_plain (by omega) h5]
            clear h1 h2 h3 h4 h5
            go_enter Tryz.func83, Tryz.ntmps83
            go_wp2_with (first | (go_at_call 31; refine (isBetween_b _ _ _ _).mono ?_; rintro e w' ⟨rfl, rfl⟩; first | rw [H.out] | rw [H3.out] | rw [H4.out] | rw [H5.out]) | (go_at_call 82; refine (largeAscii_any _ _).mono ?_; rintro e w' ⟨rfl, rfl⟩))
            go_ret
            exact ⟨rfl, rfl⟩

theorem cmp_cases {k : Int} (h : 1 ≤ k ∧ k ≤ 3) : k = 1 ∨ k = 2 ∨ k = 3 := by omega
set_option maxHeartbeats 1600000 in
theorem countsAs_any (k c : Int) (w : World) (hk : 1 ≤ k ∧ k ≤ 3) : Calls Tryz.prog 64 #[.int .i64 k, .int .i64 c] w fun e w' => e = .returned (.int .i64 (mapC k c)) ∧ w = w' := by
  rcases cmp_cases hk with rfl | rfl | rfl
  · rw [mapC_1]
    go_enter Tryz.func64, Tryz.ntmps64
    go_wp2
    go_ret
    exact ⟨rfl, rfl⟩
  · rw [mapC_2]
    go_enter Tryz.func64, Tryz.ntmps64
    go_wp2_with (first | (go_at_call 82; refine (largeAscii_any _ _).mono ?_; rintro e w' ⟨rfl, rfl⟩))
    go_ret
    exact ⟨rfl, rfl⟩
  · rw [mapC_3]
    go_enter Tryz.func64, Tryz.ntmps64
    go_wp2_with (first | (go_at_call 83; refine (largeUnicode_any _ _).mono ?_; rintro e w' ⟨rfl, rfl⟩))
    go_ret
    exact ⟨rfl, rfl⟩

set_option maxHeartbeats 3200000 in
theorem l3Char_any (k c : Int) (w : World) (hk : 1 ≤ k ∧ k ≤ 3) : Calls Tryz.prog 54 #[.int .i64 k, .int .i64 c] w fun e w' => e = .returned (.int .i64 (mapC k c)) ∧ w = w' := by
  rcases cmp_cases hk with rfl | rfl | rfl
  · rw [mapC_1]
    go_enter Tryz.func54, Tryz.ntmps54
    go_wp2
    go_ret
    exact ⟨rfl, rfl⟩
  · rw [mapC_2]
    by_cases h : 97 ≤ c ∧ c ≤ 122
    · rw [lgA_yes h]
      have H : Hid (btw c 97 122 = true) := btw_yes h
      obtain ⟨p1, p2⟩ := h
      go_enter Tryz.func54, Tryz.ntmps54
      go_wp2_with (first | (go_at_call 32; refine (l1In_b _ _ _ _).mono ?_; rintro e w' ⟨rfl, rfl⟩; rw [H.out]))
      go_ret
      exact ⟨rfl, rfl⟩
    · rw [lgA_no h]
      have H : Hid (btw c 97 122 = false) := btw_no h
      clear h
      go_enter Tryz.func54, Tryz.ntmps54
      go_wp2_with (first | (go_at_call 32; refine (l1In_b _ _ _ _).mono ?_; rintro e w' ⟨rfl, rfl⟩; rw [H.out]))
      go_ret
      exact ⟨rfl, rfl⟩
  · rw [mapC_3]
    by_cases h : 97 ≤ c ∧ c ≤ 122
    · rw [lgU_plain (by omega) (by omega), lgA_yes h]
      have H : Hid (btw c 97 122 = true) := btw_yes h
      obtain ⟨p1, p2⟩ := h
      go_enter Tryz.func54, Tryz.ntmps54
      go_wp2_with (first | (go_at_call 32; refine (l1In_b _ _ _ _).mono ?_; rintro e w' ⟨rfl, rfl⟩; rw [H.out]))
      go_ret
      exact ⟨rfl, rfl⟩
    · have H : Hid (btw c 97 122 = false) := btw_no h
      by_cases h1 : c = 247 ∨ c = 962
      · rw [lgU_same h1]
        clear h H
        rcases h1 with rfl | rfl
        all_goals
          go_enter Tryz.func54, Tryz.ntmps54
          go_wp2_with (first | (go_at_call 32; refine (l1In_any _ _ _ _).mono ?_; rintro e w' ⟨rfl, rfl⟩))
          go_ret
          exact ⟨rfl, rfl⟩
      · have e1 : (c != 247) = true := by simp; omega
        have e2 : (c != 962) = true := by simp; omega
        by_cases h2 : 224 ≤ c ∧ c ≤ 254
        · have H2 : Hid (btw c 224 254 = true) := btw_yes h2
          rw [lgU_near h1 (.inl h2)]
          obtain ⟨p1, p2⟩ := h2
          clear h1 h
          go_enter Tryz.func54, Tryz.ntmps54
          go_wp2_with (first | (go_at_call 32; refine (l1In_b _ _ _ _).mono ?_; rintro e w' ⟨rfl, rfl⟩; first | rw [H.out] | rw [H2.out]))
          go_ret
          exact ⟨rfl, rfl⟩
        · have H2 : Hid (btw c 224 254 = false) := btw_no h2
          by_cases h3 : 945 ≤ c ∧ c ≤ 969
          · have H3 : Hid (btw c 945 969 = true) := btw_yes h3
            rw [lgU_near h1 (.inr (.inl h3))]
            obtain ⟨p1, p2⟩ := h3
            clear h1 h h2
            go_enter Tryz.func54, Tryz.ntmps54
            go_wp2_with (first | (go_at_call 32; refine (l1In_b _ _ _ _).mono ?_; rintro e w' ⟨rfl, rfl⟩; first | rw [H.out] | rw [H2.out] | rw [H3.out]))
            go_ret
            exact ⟨rfl, rfl⟩
          · have H3 : Hid (btw c 945 969 = false) := btw_no h3
            by_cases h4 : 1072 ≤ c ∧ c ≤ 1103
            · have H4 : Hid (btw c 1072 1103 = true) := btw_yes h4
              rw [lgU_near h1 (.inr (.inr h4))]
              obtain ⟨p1, p2⟩ := h4
              clear h1 h h2 h3
              go_enter Tryz.func54, Tryz.ntmps54
              go_wp2_with (first | (go_at_call 32; refine (l1In_b _ _ _ _).mono ?_; rintro e w' ⟨rfl, rfl⟩; first | rw [H.out] | rw [H2.out] | rw [H3.out] | rw [H4.out]))
              go_ret
              exact ⟨rfl, rfl⟩
            · have H4 : Hid (btw c 1072 1103 = false) := btw_no h4
              by_cases h5 : 1104 ≤ c ∧ c ≤ 1119
              · have H5 : Hid (btw c 1104 1119 = true) := btw_yes h5
                rw [lgU_far h5]
                obtain ⟨p1, p2⟩ := h5
                clear h1 h h2 h3 h4
                go_enter Tryz.func54, Tryz.ntmps54
                go_wp2_with (first | (go_at_call 32; refine (l1In_b _ _ _ _).mono ?_; rintro e w' ⟨rfl, rfl⟩; first | rw [H.out] | rw [H2.out] | rw [H3.out] | rw [H4.out] | rw [H5.out]))
                go_ret
                exact ⟨rfl, rfl⟩
              · have H5 : Hid (btw c 1104 1119 = false) := btw_no h5
                rw [lgU_plain (by omega) h5, lgA_no h]
                clear h1 h h2 h3 h4 h5
                go_enter Tryz.func54, Tryz.ntmps54
                go_wp2_with (first | (go_at_call 32; refine (l1In_b _ _ _ _).mono ?_; rintro e w' ⟨rfl, rfl⟩; first | rw [H.out] | rw [H2.out] | rw [H3.out] | rw [H4.out] | rw [H5.out]))
                go_ret
                exact ⟨rfl, rfl⟩

/-- What MapChar answers. -/
def mapV (k c : Int) : Int × Int := if 1 ≤ k ∧ k ≤ 3 then (if chr c = true then (0, mapC k c) else (3, 0)) else (4, 0)
theorem mapV_ok {k c : Int} (h : 1 ≤ k ∧ k ≤ 3) (hc : chr c = true) : mapV k c = (0, mapC k c) := by unfold mapV; rw [if_pos h, if_pos hc]
theorem mapV_bad {k c : Int} (h : 1 ≤ k ∧ k ≤ 3) (hc : chr c = false) : mapV k c = (3, 0) := by unfold mapV; rw [if_pos h, hc]; rfl
theorem mapV_none {k c : Int} (h : ¬ (1 ≤ k ∧ k ≤ 3)) : mapV k c = (4, 0) := if_neg h
/-- An answer with one number. -/
def IntEndC (r : Int × Int) (w : World) (e : Ending) (w' : World) : Prop := e = .returned (.agg #[.int .i64 r.1, .int .i64 r.2]) ∧ Below w.heap.size w w'

end Go.Proofs.YtfbjodbihenmjaaGreatDoor

namespace Go.Proofs.YtfbjodbihenmjaaGreatDoor
open Go.RowKit

/-- The marks: n numbers from k on. -/
def marksI (n k : Nat) : List Int := (List.range n).map fun i => ((k + i : Nat) : Int)
theorem marksI_len (n k : Nat) : (marksI n k).length = n := by simp [marksI]
theorem marksI_nth {n k i : Nat} (h : i < n) : nthI (marksI n k) i = ((k + i : Nat) : Int) := by
  rw [nthI_get (by rw [marksI_len]; exact h)]; simp [marksI]
def mhalfI (l : List Int) (k i : Nat) : List Int := marksI i k ++ l.drop i
theorem mhalfI_zero (l : List Int) (k : Nat) : mhalfI l k 0 = l := by simp [mhalfI, marksI]
theorem mhalfI_all (l : List Int) (k : Nat) : mhalfI l k l.length = marksI l.length k := by simp [mhalfI]
theorem mhalfI_len (l : List Int) (k i : Nat) (h : i ≤ l.length) : (mhalfI l k i).length = l.length := by simp [mhalfI, marksI_len]; omega
theorem mhalfI_set (l : List Int) (k i : Nat) (h : i < l.length) : (ic (mhalfI l k i)).set i (.int .i64 ((k + i : Nat) : Int)) = ic (mhalfI l k (i + 1)) := by
  have hm : (ic (marksI i k)).length = i := by rw [ic_len, marksI_len]
  have e : marksI (i + 1) k = marksI i k ++ [((k + i : Nat) : Int)] := by simp [marksI, List.range_succ]
  unfold mhalfI
  rw [e, ic_app, List.set_append, hm, if_neg (Nat.lt_irrefl i), Nat.sub_self, drop_consI l i h]
  simp [ic]

end Go.Proofs.YtfbjodbihenmjaaGreatDoor

namespace Go.Proofs.YtfbjodbihenmjaaGreatDoor
open Go.RowKit

/-- The marks: n numbers from k on, what 256 leaves of them. -/
def marks (n k : Nat) : List Nat := (List.range n).map fun i => (k + i) % 256
theorem marks_len (n k : Nat) : (marks n k).length = n := by simp [marks]
theorem marks_nth {n k i : Nat} (h : i < n) : nth (marks n k) i = (k + i) % 256 := by
  rw [nth_get (by rw [marks_len]; exact h)]; simp [marks]
def mhalf (l : List Nat) (k i : Nat) : List Nat := marks i k ++ l.drop i
theorem mhalf_zero (l : List Nat) (k : Nat) : mhalf l k 0 = l := by simp [mhalf, marks]
theorem mhalf_all (l : List Nat) (k : Nat) : mhalf l k l.length = marks l.length k := by simp [mhalf]
theorem mhalf_len (l : List Nat) (k i : Nat) (h : i ≤ l.length) : (mhalf l k i).length = l.length := by simp [mhalf, marks_len]; omega
theorem mhalf_set (l : List Nat) (k i : Nat) (h : i < l.length) : (bc (mhalf l k i)).set i (.int .u8 (((k + i) % 256 : Nat) : Int)) = bc (mhalf l k (i + 1)) := by
  have hm : (bc (marks i k)).length = i := by rw [bc_len, marks_len]
  have e : marks (i + 1) k = marks i k ++ [(k + i) % 256] := by simp [marks, List.range_succ]
  unfold mhalf
  rw [e, bc_app, List.set_append, hm, if_neg (Nat.lt_irrefl i), Nat.sub_self, drop_cons l i h]
  simp [bc]

end Go.Proofs.YtfbjodbihenmjaaGreatDoor

namespace Go.Proofs.YtfbjodbihenmjaaGreatDoor
open Go.RowKit

theorem Own.far {w w' : World} {B : Nat} {v : Value} {l : List Nat} {row : Option Nat} (h : Own w B v l) (hg : w.grownBy w' row) (hne : ∀ b, v.ownBlock = some b → some b ≠ row) : Own w' B v l := by
  refine ⟨h.1, ?_⟩
  rcases h.2 with h' | ⟨g, cap, cur, h1, h2, h3, h4⟩
  · exact .inl h'
  · refine .inr ⟨g, cap, cur, h1, h2, ?_, h4⟩
    have hlt : g < w.heap.size := by
      rcases Nat.lt_or_ge g w.heap.size with hlt | hge
      · exact hlt
      · simp [Array.getElem?_eq_none hge] at h3
    rw [hg.block g hlt (hne g (by rw [h1]; rfl))]; exact h3
end Go.Proofs.YtfbjodbihenmjaaGreatDoor

namespace Go.Proofs.YtfbjodbihenmjaaGreatDoor
open Go.RowKit

theorem OwnI.far {w w' : World} {B : Nat} {v : Value} {l : List Int} {row : Option Nat} (h : OwnI w B v l) (hg : w.grownBy w' row) (hne : ∀ b, v.ownBlock = some b → some b ≠ row) : OwnI w' B v l := by
  refine ⟨h.1, ?_⟩
  rcases h.2 with h' | ⟨g, cap, cur, h1, h2, h3, h4⟩
  · exact .inl h'
  · refine .inr ⟨g, cap, cur, h1, h2, ?_, h4⟩
    have hlt : g < w.heap.size := by
      rcases Nat.lt_or_ge g w.heap.size with hlt | hge
      · exact hlt
      · simp [Array.getElem?_eq_none hge] at h3
    rw [hg.block g hlt (hne g (by rw [h1]; rfl))]; exact h3
end Go.Proofs.YtfbjodbihenmjaaGreatDoor

namespace Go.Proofs.YtfbjodbihenmjaaGreatDoor
open Go.RowKit

theorem OwnI.lowerM {w : World} {B C : Nat} {v : Value} {l : List Int} (h : OwnI w B v l) (hC : C ≤ B) : OwnI w C v l := by
  refine ⟨h.1, ?_⟩
  rcases h.2 with h' | ⟨g, cap, cur, h1, h2, h3⟩
  · exact .inl h'
  · exact .inr ⟨g, cap, cur, h1, Nat.le_trans hC h2, h3⟩
theorem OwnI.keptM {w : World} {B : Nat} {v : Value} {l : List Int} (h : OwnI w B v l) (p : Addr) (hp : p.block < B) (u : Value) : OwnI (w.setCell p u) B v l := ownsRow_setCell_below h hp u
theorem fltCases (l : List Int) : flt l = 0 ∨ flt l = 2 ∨ flt l = 3 := by
  unfold flt
  split
  · simp
  · split <;> simp
theorem fltZero {l : List Int} (h : flt l = 0) : l.length ≤ 400 := by
  unfold flt at h
  split at h
  · omega
  · omega

/-- What MapCodes answers. -/
def mapT (k : Int) (l : List Int) : Int × List Int := if 1 ≤ k ∧ k ≤ 3 then (if flt l = 0 then (0, l.map (mapC k)) else (flt l, [])) else (4, [])
theorem mapT_none {k : Int} {l : List Int} (h : ¬ (1 ≤ k ∧ k ≤ 3)) : mapT k l = (4, []) := if_neg h
theorem mapT_fault {k : Int} {l : List Int} (h : 1 ≤ k ∧ k ≤ 3) (hf : flt l ≠ 0) : mapT k l = (flt l, []) := by unfold mapT; rw [if_pos h, if_neg hf]
theorem mapT_ok {k : Int} {l : List Int} (h : 1 ≤ k ∧ k ≤ 3) (hf : flt l = 0) : mapT k l = (0, l.map (mapC k)) := by unfold mapT; rw [if_pos h, if_pos hf]
theorem mapT_few (k : Int) (l : List Int) : (mapT k l).2.length ≤ 400 := by
  unfold mapT
  split
  · split
    · have := fltZero (l := l) (by assumption)
      simpa using this
    · simp
  · simp

/-- An answer with numbers. -/
def NumEnd (r : Int × List Int) (w : World) (e : Ending) (w' : World) : Prop := ∃ v, e = .returned (.agg #[.int .i64 r.1, v]) ∧ OwnI w' w.heap.size v r.2 ∧ Below w.heap.size w w'
theorem NumEnd.code {c : Int} {w w1 : World} (hbel : Below w.heap.size w w1) (x y : Value) : NumEnd (c, []) w (.returned (.agg #[.int .i64 c, .slice none 0 0])) ((w1.setCell ⟨w.heap.size, 0, none⟩ x).setCell ⟨w.heap.size, 1, none⟩ y) :=
  ⟨_, rfl, OwnI.nil _ _, (hbel.setCell (by simp) _).setCell (by simp) _⟩
theorem NumEnd.some {c : Int} {w w1 : World} {v : Value} {l : List Int} (hbel : Below w.heap.size w w1) (hown : OwnI w1 (w.heap.size + 1) v l) (x y : Value) : NumEnd (c, l) w (.returned (.agg #[.int .i64 c, v])) ((w1.setCell ⟨w.heap.size, 0, none⟩ x).setCell ⟨w.heap.size, 1, none⟩ y) :=
  ⟨_, rfl, ((hown.keptM _ (by simp) _).keptM _ (by simp) _).lowerM (by omega), (hbel.setCell (by simp) _).setCell (by simp) _⟩

theorem map_step {f : Int → Int} {l : List Int} {k : Nat} (h : k < l.length) : (l.take (k + 1)).map f = (l.take k).map f ++ [f (nthI l k)] := by
  rw [take_snocI l k h, List.map_append]; rfl
theorem map_end {f : Int → Int} {l : List Int} {n : Nat} (h : l.length = n) : (l.take n).map f = l.map f := by rw [← h, List.take_length]

set_option maxHeartbeats 1600000 in
set_option maxRecDepth 100000 in
theorem mapCodes_ok (k : Int) (a : Option Addr) (n cap : Nat) (l : List Int) (w : World) (hk : 1 ≤ k ∧ k ≤ 3) (hl : l.length = n) (hr : RdI w a l) (hf : flt l = 0) :
    Calls Tryz.prog 49 #[.int .i64 k, .slice a n cap] w fun e w' => NumEnd (mapT k l) w e w' := by
  have hn4 : n ≤ 400 := by have := fltZero hf; omega
  have H : Hid (mapT k l = (0, l.map (mapC k))) := mapT_ok hk hf
  have hb0 : Below w.heap.size w (w.alloc (.cells #[.int .i64 0, .slice none 0 0] 70)) := (Below.refl _ _).alloc (Nat.le_refl _) _
  have hr0 := hr.below hb0
  have hWs : (w.alloc (.cells #[.int .i64 0, .slice none 0 0] 70)).heap.size = w.heap.size + 1 := by simp
  go_enter Tryz.func49, Tryz.ntmps49
  go_wp2_with (first | (go_at_call 23; refine (isComparator_any _ _).mono ?_; rintro e w' ⟨rfl, rfl⟩; rw [decide_eq_true hk]) | (go_at_call 63; refine (codesFault_any a n cap l _ hl hr0 (by omega)).mono ?_; rintro e w1 ⟨rfl, hb1⟩; rw [hf]))
  have hbl1 : Below (w.heap.size + 1) (w.alloc (.cells #[.int .i64 0, .slice none 0 0] 70)) w1 := by rw [← hWs]; exact hb1
  generalize hW : w.alloc (.cells #[.int .i64 0, .slice none 0 0] 70) = W at *
  go_loopw [6, 21] (fun v i wr => ∃ j : Nat, j ≤ n ∧ i = .int .i64 j ∧ OwnI wr (w.heap.size + 1) v ((l.take j).map (mapC k)) ∧ Below (w.heap.size + 1) W wr)
    (fun _ i _ => n - (intOf i).toNat)
  case atStart => exact ⟨0, Nat.zero_le _, rfl, OwnI.nil _ _, hbl1⟩
  case round =>
    obtain ⟨j, hj, rfl, hown, hbel⟩ := hrel
    have hz : w.heap.size + 1 ≤ wr.heap.size := by have := hbel.size; omega
    clear hb1 hbl1
    by_cases hjn : j < n
    · obtain ⟨b, off, rfl, hblt, hcell⟩ := hr0.at_ (by omega)
      have hc : wr.cell? ⟨b, off + j, none⟩ = some (.int .i64 (nthI l j)) := (hbel.cell (p := ⟨b, off + j, none⟩) (by rw [← hWs]; exact hblt)).trans (hcell j (by omega))
      have HQ : Hid ((l.take (j + 1)).map (mapC k) = (l.take j).map (mapC k) ++ [mapC k (nthI l j)]) := map_step (by omega)
      have hjn' : (j : Int) < (n : Int) := by omega
      have hlen : ((l.take j).map (mapC k)).length ≤ 400 := by rw [List.length_map, List.length_take]; omega
      generalize (l.take j).map (mapC k) = out at *
      generalize nthI l j = x at *
      clear hcell hr0 hr
      go_wp2_with (first | (go_at_call 64; refine (countsAs_any _ _ _ hk).mono ?_; rintro e w' ⟨rfl, rfl⟩) | (at_builtin; refine wpList_app_newI rfl _ _ rfl (w.heap.size + 1) _ out rfl hown 1 1 [mapC k x] rfl rfl rfl (by omega) hz ?_; intro v' w2 hown' hb'))
      go_roundw
      case rel => exact ⟨j + 1, by omega, by go_num, by rw [HQ.out]; exact hown', hbel.trans hb'⟩
      case measure => simp [intOf]; omega
    · have hjj : j = n := by omega
      subst hjj
      rw [map_end hl] at hown
      have hjn' : ¬ (j : Int) < (j : Int) := by omega
      obtain ⟨hcw, hcw1, hfw, hfw1⟩ := res_block hW hbel
      have hbE : Below w.heap.size w wr := hb0.trans (hbel.mono (by omega))
      generalize l.map (mapC k) = out at *
      obtain ⟨ao, ocap, hv, -, -⟩ := hown.form
      rw [hv] at hown ⊢
      clear hv
      have HO : Hid (OwnI wr (w.heap.size + 1) (.slice ao out.length ocap) out) := hown
      clear hown
      generalize out.length = N at *
      obtain ⟨hk0, hk1⟩ := res_cells hcw hcw1 (.int .i64 0) (.slice ao N ocap)
      go_wp2
      refine bodyPost_ret (v := .agg #[.int .i64 0, .slice ao N ocap]) (by simp [results, Tryz.results49, go_sem, hk0, hk1]) rfl ?_
      rw [H.out]
      exact NumEnd.some hbE HO.out _ _

set_option maxHeartbeats 1600000 in
set_option maxRecDepth 100000 in
theorem mapCodes_any (k : Int) (a : Option Addr) (n cap : Nat) (l : List Int) (w : World) (hl : l.length = n) (hr : RdI w a l) (hn : n ≤ 1048576) :
    Calls Tryz.prog 49 #[.int .i64 k, .slice a n cap] w fun e w' => NumEnd (mapT k l) w e w' := by
  by_cases hk : 1 ≤ k ∧ k ≤ 3
  · by_cases hf : flt l = 0
    · exact mapCodes_ok k a n cap l w hk hl hr hf
    · have H : Hid (mapT k l = (flt l, [])) := mapT_fault hk hf
      have hb0 : Below w.heap.size w (w.alloc (.cells #[.int .i64 0, .slice none 0 0] 70)) := (Below.refl _ _).alloc (Nat.le_refl _) _
      have hr0 := hr.below hb0
      have hc23 : flt l = 2 ∨ flt l = 3 := by rcases fltCases l with h | h | h; exact absurd h hf; exact .inl h; exact .inr h
      have HC : Hid (∀ w, RdI w a l → Calls Tryz.prog 63 #[.slice a n cap] w fun e w' => e = .returned (.int .i64 (flt l)) ∧ Below w.heap.size w w') := fun w hr => codesFault_any a n cap l w hl hr hn
      clear hf
      generalize flt l = c at *
      rcases hc23 with rfl | rfl
      all_goals
        go_enter Tryz.func49, Tryz.ntmps49
        go_wp2_with (first | (go_at_call 23; refine (isComparator_any _ _).mono ?_; rintro e w' ⟨rfl, rfl⟩; rw [decide_eq_true hk]))
        refine (HC.out _ hr0).mono ?_
        rintro e w1 ⟨rfl, hb1⟩
        have hbl : Below (w.heap.size + 1) (w.alloc (.cells #[.int .i64 0, .slice none 0 0] 70)) w1 := hb1.mono (by simp)
        obtain ⟨hcw, hcw1, hfw, hfw1⟩ := res_block rfl hbl
        have hbel : Below w.heap.size w w1 := hb0.trans (hbl.mono (by omega))
        clear hb1 hbl hr hr0 HC
      · obtain ⟨hk0, hk1⟩ := res_cells hcw hcw1 (.int .i64 2) (.slice none 0 0)
        go_wp2
        refine bodyPost_ret (v := .agg #[.int .i64 2, .slice none 0 0]) (by simp [results, Tryz.results49, go_sem, hk0, hk1]) rfl ?_
        rw [H.out]
        exact NumEnd.code hbel _ _
      · obtain ⟨hk0, hk1⟩ := res_cells hcw hcw1 (.int .i64 3) (.slice none 0 0)
        go_wp2
        refine bodyPost_ret (v := .agg #[.int .i64 3, .slice none 0 0]) (by simp [results, Tryz.results49, go_sem, hk0, hk1]) rfl ?_
        rw [H.out]
        exact NumEnd.code hbel _ _
  · have H : Hid (mapT k l = (4, [])) := mapT_none hk
    go_enter Tryz.func49, Tryz.ntmps49
    go_wp2_with (first | (go_at_call 23; refine (isComparator_any _ _).mono ?_; rintro e w' ⟨rfl, rfl⟩; rw [decide_eq_false hk]))
    go_returns
    exact ⟨.slice none 0 0, by rw [H.out], by rw [H.out]; exact OwnI.nil _ _, by go_grown⟩

end Go.Proofs.YtfbjodbihenmjaaGreatDoor
