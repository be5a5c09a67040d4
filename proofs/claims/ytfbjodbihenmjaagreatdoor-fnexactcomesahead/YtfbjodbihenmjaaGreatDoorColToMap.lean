/- What characters count as, the order of two lists of numbers, and pieces of a list: plain functions with no program in them, and what follows of them · What a character counts as, the program's and the model's, at every comparator and number: both by one plain function. -/
import Derived.Test.YtfbjodbihenmjaaGreatDoorTel3ToDec2
namespace Go.Proofs.YtfbjodbihenmjaaGreatDoor
open Go.RowKit

/-- The large letter of a plain one. -/
def lgA (c : Int) : Int := if 97 ≤ c ∧ c ≤ 122 then c - 32 else c
/-- The large letter of any. -/
def lgU (c : Int) : Int := if c = 247 ∨ c = 962 then c else if (224 ≤ c ∧ c ≤ 254) ∨ (945 ≤ c ∧ c ≤ 969) ∨ (1072 ≤ c ∧ c ≤ 1103) then c - 32 else if 1104 ≤ c ∧ c ≤ 1119 then c - 80 else lgA c
/-- What a character counts as. -/
def mapC (k c : Int) : Int := if k = 2 then lgA c else if k = 3 then lgU c else c
theorem mapC_1 (c : Int) : mapC 1 c = c := by simp [mapC]
theorem mapC_2 (c : Int) : mapC 2 c = lgA c := by simp [mapC]
theorem mapC_3 (c : Int) : mapC 3 c = lgU c := by simp [mapC]
theorem lgA_yes {c : Int} (h : 97 ≤ c ∧ c ≤ 122) : lgA c = c - 32 := if_pos h
theorem lgA_no {c : Int} (h : ¬ (97 ≤ c ∧ c ≤ 122)) : lgA c = c := if_neg h
theorem lgU_same {c : Int} (h : c = 247 ∨ c = 962) : lgU c = c := if_pos h
theorem lgU_near {c : Int} (h : ¬ (c = 247 ∨ c = 962)) (h2 : (224 ≤ c ∧ c ≤ 254) ∨ (945 ≤ c ∧ c ≤ 969) ∨ (1072 ≤ c ∧ c ≤ 1103)) : lgU c = c - 32 := by unfold lgU; rw [if_neg h, if_pos h2]
theorem lgU_far {c : Int} (h : 1104 ≤ c ∧ c ≤ 1119) : lgU c = c - 80 := by unfold lgU; rw [if_neg (by omega), if_neg (by omega), if_pos h]
theorem lgU_plain {c : Int} (h : ¬ ((224 ≤ c ∧ c ≤ 254) ∨ (945 ≤ c ∧ c ≤ 969) ∨ (1072 ≤ c ∧ c ≤ 1103))) (h2 : ¬ (1104 ≤ c ∧ c ≤ 1119)) : lgU c = lgA c := by
  unfold lgU; rw [if_neg (by omega), if_neg h, if_neg h2]

theorem lgA_again (c : Int) : lgA (lgA c) = lgA c := by
  unfold lgA
  split
  · rw [if_neg (by omega)]
  · rfl
theorem lgU_again (c : Int) : lgU (lgU c) = lgU c := by
  by_cases h1 : c = 247 ∨ c = 962
  · rw [lgU_same h1, lgU_same h1]
  · by_cases h2 : (224 ≤ c ∧ c ≤ 254) ∨ (945 ≤ c ∧ c ≤ 969) ∨ (1072 ≤ c ∧ c ≤ 1103)
    · rw [lgU_near h1 h2, lgU_plain (by omega) (by omega), lgA_no (by omega)]
    · by_cases h3 : 1104 ≤ c ∧ c ≤ 1119
      · rw [lgU_far h3, lgU_plain (by omega) (by omega), lgA_no (by omega)]
      · rw [lgU_plain h2 h3]
        by_cases h4 : 97 ≤ c ∧ c ≤ 122
        · rw [lgA_yes h4, lgU_plain (by omega) (by omega), lgA_no (by omega)]
        · rw [lgA_no h4, lgU_plain h2 h3, lgA_no h4]
theorem mapC_again (k c : Int) : mapC k (mapC k c) = mapC k c := by
  unfold mapC
  split
  · exact lgA_again c
  · split
    · exact lgU_again c
    · rfl
theorem lgA_chr {c : Int} (h : chr c = true) : chr (lgA c) = true := by
  rw [chr_iff] at h ⊢
  unfold lgA
  split <;> omega
theorem mapC_chr {k c : Int} (h : chr c = true) : chr (mapC k c) = true := by
  unfold mapC
  split
  · exact lgA_chr h
  · split
    · unfold lgU
      split
      · exact h
      · split
        · rw [chr_iff] at h ⊢; omega
        · split
          · rw [chr_iff] at h ⊢; omega
          · exact lgA_chr h
    · exact h
theorem map_again (k : Int) (l : List Int) : (l.map (mapC k)).map (mapC k) = l.map (mapC k) := by
  rw [List.map_map]
  exact List.map_congr_left fun c _ => mapC_again k c
theorem flt_map {k : Int} {l : List Int} (h : flt l = 0) : flt (l.map (mapC k)) = 0 := by
  unfold flt at h ⊢
  rw [List.length_map]
  by_cases h4 : 400 < l.length
  · rw [if_pos h4] at h; omega
  · rw [if_neg h4] at h ⊢
    by_cases ha : l.all chr = true
    · rw [if_pos (by rw [List.all_map, List.all_eq_true]; intro x hx; exact mapC_chr (List.all_eq_true.1 ha x hx))]
    · rw [if_neg ha] at h; omega

/-- The order of two lists of numbers. -/
def cmpL : List Int → List Int → Int
  | [], [] => 0
  | [], _ :: _ => -1
  | _ :: _, [] => 1
  | x :: xs, y :: ys => if x < y then -1 else if y < x then 1 else cmpL xs ys
theorem cmpL_cases : ∀ a b : List Int, cmpL a b = -1 ∨ cmpL a b = 0 ∨ cmpL a b = 1
  | [], [] => .inr (.inl rfl)
  | [], _ :: _ => .inl rfl
  | _ :: _, [] => .inr (.inr rfl)
  | x :: xs, y :: ys => by
    rw [cmpL]
    split
    · exact .inl rfl
    · split
      · exact .inr (.inr rfl)
      · exact cmpL_cases xs ys
theorem cmpL_refl : ∀ a : List Int, cmpL a a = 0
  | [] => rfl
  | x :: xs => by rw [cmpL, if_neg (by omega), if_neg (by omega)]; exact cmpL_refl xs
theorem cmpL_eq : ∀ a b : List Int, cmpL a b = 0 ↔ a = b
  | [], [] => by simp [cmpL]
  | [], _ :: _ => by simp [cmpL]
  | _ :: _, [] => by simp [cmpL]
  | x :: xs, y :: ys => by
    rw [cmpL]
    split
    · simp; omega
    · split
      · simp; omega
      · rw [cmpL_eq xs ys]
        have : x = y := by omega
        simp [this]
theorem cmpL_back : ∀ a b : List Int, cmpL b a = - cmpL a b
  | [], [] => rfl
  | [], _ :: _ => rfl
  | _ :: _, [] => rfl
  | x :: xs, y :: ys => by
    rw [cmpL, cmpL]
    by_cases h1 : x < y
    · rw [if_neg (by omega), if_pos h1, if_pos h1]; rfl
    · by_cases h2 : y < x
      · rw [if_pos h2, if_neg h1, if_pos h2]
      · rw [if_neg h2, if_neg h1, if_neg h1, if_neg h2]; exact cmpL_back xs ys
theorem cmpL_trans : ∀ a b c : List Int, cmpL a b ≤ 0 → cmpL b c ≤ 0 → cmpL a c ≤ 0
  | [], _, [], _, _ => by simp [cmpL]
  | [], _, _ :: _, _, _ => by simp [cmpL]
  | _ :: _, [], _, h, _ => by simp [cmpL] at h
  | _ :: _, _ :: _, [], _, h => by simp [cmpL] at h
  | x :: xs, y :: ys, z :: zs, h1, h2 => by
    rw [cmpL] at h1 h2 ⊢
    by_cases p1 : x < y
    · by_cases p2 : y < z
      · rw [if_pos (by omega)]; omega
      · by_cases p3 : z < y
        · rw [if_neg p2, if_pos p3] at h2; omega
        · rw [if_pos (by omega)]; omega
    · by_cases q1 : y < x
      · rw [if_neg p1, if_pos q1] at h1; omega
      · rw [if_neg p1, if_neg q1] at h1
        by_cases p2 : y < z
        · rw [if_pos (by omega)]; omega
        · by_cases p3 : z < y
          · rw [if_neg p2, if_pos p3] at h2; omega
          · rw [if_neg p2, if_neg p3] at h2
            rw [if_neg (by omega), if_neg (by omega)]
            exact cmpL_trans xs ys zs h1 h2
/-- Two lists behind k places that are the same. -/
theorem cmpL_drop {a b : List Int} : ∀ {k : Nat}, k ≤ a.length → k ≤ b.length → (∀ i, i < k → nthI a i = nthI b i) → cmpL a b = cmpL (a.drop k) (b.drop k) := by
  intro k
  induction k generalizing a b with
  | zero => intro _ _ _; simp
  | succ k ih =>
    intro h1 h2 h3
    cases a with
    | nil => simp at h1
    | cons x xs =>
      cases b with
      | nil => simp at h2
      | cons y ys =>
        have h0 : x = y := h3 0 (by omega)
        subst h0
        rw [cmpL, if_neg (by omega), if_neg (by omega), List.drop_succ_cons, List.drop_succ_cons]
        exact ih (by simpa using h1) (by simpa using h2) (fun i hi => h3 (i + 1) (by omega))
theorem cmpL_less {a b : List Int} {k : Nat} (h1 : k < a.length) (h2 : k < b.length) (h3 : ∀ i, i < k → nthI a i = nthI b i) (h : nthI a k < nthI b k) : cmpL a b = -1 := by
  rw [cmpL_drop (by omega) (by omega) h3, drop_consI a k h1, drop_consI b k h2, cmpL, if_pos h]
theorem cmpL_more {a b : List Int} {k : Nat} (h1 : k < a.length) (h2 : k < b.length) (h3 : ∀ i, i < k → nthI a i = nthI b i) (h : nthI b k < nthI a k) : cmpL a b = 1 := by
  rw [cmpL_drop (by omega) (by omega) h3, drop_consI a k h1, drop_consI b k h2, cmpL, if_neg (by omega), if_pos h]
theorem cmpL_ends {a b : List Int} (h3 : ∀ i, i < a.length → i < b.length → nthI a i = nthI b i) : cmpL a b = if a.length < b.length then -1 else if b.length < a.length then 1 else 0 := by
  by_cases h1 : a.length < b.length
  · rw [if_pos h1, cmpL_drop (Nat.le_refl _) (by omega) (fun i hi => h3 i hi (by omega)), List.drop_length, drop_consI b a.length h1]; rfl
  · by_cases h2 : b.length < a.length
    · rw [if_neg h1, if_pos h2, cmpL_drop (k := b.length) (by omega) (Nat.le_refl _) (fun i hi => h3 i (by omega) hi), List.drop_length, drop_consI a b.length h2]; rfl
    · rw [if_neg h1, if_neg h2, cmpL_drop (k := a.length) (Nat.le_refl _) (by omega) (fun i hi => h3 i hi (by omega)), List.drop_length, show a.length = b.length by omega, List.drop_length]; rfl

/-- Does a piece stand at a place of a list? -/
def hasAt (l p : List Int) (i : Nat) : Bool := cmpL ((l.drop i).take p.length) p == 0
/-- Does it stand somewhere in it? -/
def hasP (l p : List Int) : Bool := (List.range (l.length + 1 - p.length)).any (hasAt l p)
theorem hasP_yes {l p : List Int} {i : Nat} (h : i + p.length ≤ l.length) (hi : hasAt l p i = true) : hasP l p = true := by
  unfold hasP
  rw [List.any_eq_true]
  exact ⟨i, by rw [List.mem_range]; omega, hi⟩
theorem hasP_no {l p : List Int} (h : ∀ i, i + p.length ≤ l.length → hasAt l p i = false) : hasP l p = false := by
  unfold hasP
  rw [List.any_eq_false]
  intro i hi
  rw [List.mem_range] at hi
  rw [h i (by omega)]
  simp
theorem hasP_iff {l p : List Int} : hasP l p = true ↔ ∃ i, i + p.length ≤ l.length ∧ (l.drop i).take p.length = p := by
  unfold hasP
  rw [List.any_eq_true]
  constructor
  · rintro ⟨i, hi, h⟩
    rw [List.mem_range] at hi
    exact ⟨i, by omega, (cmpL_eq _ _).1 (by simpa [hasAt] using h)⟩
  · rintro ⟨i, hi, h⟩
    exact ⟨i, by rw [List.mem_range]; omega, by unfold hasAt; rw [h, cmpL_refl]; rfl⟩
theorem hasP_parts {l p : List Int} : hasP l p = true ↔ ∃ x y, l = x ++ p ++ y := by
  rw [hasP_iff]
  constructor
  · rintro ⟨i, hi, h⟩
    refine ⟨l.take i, (l.drop i).drop p.length, ?_⟩
    have e : p ++ (l.drop i).drop p.length = l.drop i := by
      conv => lhs; rw [← h]
      rw [List.length_take, List.length_drop, Nat.min_eq_left (by omega)]
      exact List.take_append_drop _ _
    rw [List.append_assoc, e, List.take_append_drop]
  · rintro ⟨x, y, rfl⟩
    refine ⟨x.length, by simp, ?_⟩
    rw [List.append_assoc, List.drop_left, List.take_left]
theorem hasP_self (l : List Int) : hasP l l = true := hasP_parts.2 ⟨[], [], by simp⟩
theorem hasP_nil (l : List Int) : hasP l [] = true := hasP_parts.2 ⟨[], l, by simp⟩
theorem hasP_more {l p a b : List Int} (h : hasP l p = true) : hasP (a ++ l ++ b) p = true := by
  obtain ⟨x, y, rfl⟩ := hasP_parts.1 h
  exact hasP_parts.2 ⟨a ++ x, y ++ b, by simp⟩
theorem hasP_piece (l : List Int) (i m : Nat) : hasP l ((l.drop i).take m) = true :=
  hasP_parts.2 ⟨l.take i, (l.drop i).drop m, by rw [List.append_assoc, List.take_append_drop, List.take_append_drop]⟩
theorem hasP_le {l p : List Int} (h : hasP l p = true) : p.length ≤ l.length := by
  obtain ⟨i, hi, _⟩ := hasP_iff.1 h
  omega
end Go.Proofs.YtfbjodbihenmjaaGreatDoor

namespace Go.Proofs.YtfbjodbihenmjaaGreatDoor
open Go.RowKit

theorem isBetween_any (c a b : Int) (w : World) : Calls Tryz.prog 31 #[.int .i64 c, .int .i64 a, .int .i64 b] w fun e w' => e = .returned (.bool (decide (a ≤ c ∧ c ≤ b))) ∧ w = w' := by
  go_enter Tryz.func31, Tryz.ntmps31
  go_wp2
  all_goals (go_ret; refine ret_bool ?_; rw [Bool.eq_iff_iff]; simp; try omega)
theorem isComparator_any (k : Int) (w : World) : Calls Tryz.prog 23 #[.int .i64 k] w fun e w' => e = .returned (.bool (decide (1 ≤ k ∧ k ≤ 3))) ∧ w = w' := by
  go_enter Tryz.func23, Tryz.ntmps23
  go_wp2_with (first | (go_at_call 31; refine (isBetween_any _ _ _ _).mono ?_; rintro e w' ⟨rfl, rfl⟩))
  go_ret
  refine ret_bool ?_
  simp
theorem l3Cmp_any (k : Int) (w : World) : Calls Tryz.prog 27 #[.int .i64 k] w fun e w' => e = .returned (.bool (decide (1 ≤ k ∧ k ≤ 3))) ∧ w = w' := by
  go_enter Tryz.func27, Tryz.ntmps27
  go_wp2_with (first | (go_at_call 32; refine (l1In_any _ _ _ _).mono ?_; rintro e w' ⟨rfl, rfl⟩))
  go_ret
  refine ret_bool ?_
  simp
theorem largeAscii_any (c : Int) (w : World) : Calls Tryz.prog 82 #[.int .i64 c] w fun e w' => e = .returned (.int .i64 (lgA c)) ∧ w = w' := by
  by_cases h : 97 ≤ c ∧ c ≤ 122
  · have h1 := h.1
    have h2 := h.2
    rw [lgA_yes h]
    go_enter Tryz.func82, Tryz.ntmps82
    go_wp2_with (first | (go_at_call 31; refine (isBetween_any _ _ _ _).mono ?_; rintro e w' ⟨rfl, rfl⟩; rw [decide_eq_true h]))
    go_ret
    exact ⟨rfl, rfl⟩
  · rw [lgA_no h]
    have hd := decide_eq_false h
    go_enter Tryz.func82, Tryz.ntmps82
    go_wp2_with (first | (go_at_call 31; refine (isBetween_any _ _ _ _).mono ?_; rintro e w' ⟨rfl, rfl⟩; rw [decide_eq_false h]))
    go_ret
    exact ⟨rfl, rfl⟩
/-- Between: a plain word, so that no walk opens it. -/
def btw (c a b : Int) : Bool := decide (a ≤ c ∧ c ≤ b)
theorem btw_yes {c a b : Int} (h : a ≤ c ∧ c ≤ b) : btw c a b = true := decide_eq_true h
theorem btw_no {c a b : Int} (h : ¬ (a ≤ c ∧ c ≤ b)) : btw c a b = false := decide_eq_false h
theorem isBetween_b (c a b : Int) (w : World) : Calls Tryz.prog 31 #[.int .i64 c, .int .i64 a, .int .i64 b] w fun e w' => e = .returned (.bool (btw c a b)) ∧ w = w' := isBetween_any c a b w
theorem l1In_b (c a b : Int) (w : World) : Calls Tryz.prog 32 #[.int .i64 c, .int .i64 a, .int .i64 b] w fun e w' => e = .returned (.bool (btw c a b)) ∧ w = w' := l1In_any c a b w

set_option maxHeartbeats 1600000 in
theorem largeUnicode_any (c : Int) (w : World) : Calls Tryz.prog 83 #[.int .i64 c] w fun e w' => e = .returned (.int .i64 (lgU c)) ∧ w = w' := by
  by_cases h1 : c = 247 ∨ c = 962
  · rw [lgU_same h1]
    rcases h1 with rfl | rfl
    all_goals
      go_enter Tryz.func83, Tryz.ntmps83
      go_wp2
      go_ret
      exact ⟨rfl, rfl⟩
  · have e1 : (c == 247) = false := by simp; omega
    have e2 : (c == 962) = false := by simp; omega
    by_cases h2 : 224 ≤ c ∧ c ≤ 254
    · have H : Hid (btw c 224 254 = true) := btw_yes h2
      rw [lgU_near h1 (.inl h2)]
      obtain ⟨p1, p2⟩ := h2
      clear h1
      go_enter Tryz.func83, Tryz.ntmps83
      go_wp2_with (first | (go_at_call 31; refine (isBetween_b _ _ _ _).mono ?_; rintro e w' ⟨rfl, rfl⟩; rw [H.out]))
      go_ret
      exact ⟨rfl, rfl⟩
    · have H : Hid (btw c 224 254 = false) := btw_no h2
      by_cases h3 : 945 ≤ c ∧ c ≤ 969
      · have H3 : Hid (btw c 945 969 = true) := btw_yes h3
        rw [lgU_near h1 (.inr (.inl h3))]
        obtain ⟨p1, p2⟩ := h3
        clear h1 h2
        go_enter Tryz.func83, Tryz.ntmps83
        go_wp2_with (first | (go_at_call 31; refine (isBetween_b _ _ _ _).mono ?_; rintro e w' ⟨rfl, rfl⟩; first | rw [H.out] | rw [H3.out]))
        go_ret
        exact ⟨rfl, rfl⟩
      · have H3 : Hid (btw c 945 969 = false) := btw_no h3
        by_cases h4 : 1072 ≤ c ∧ c ≤ 1103
        · have H4 : Hid (btw c 1072 1103 = true) := btw_yes h4
          rw [lgU_near h1 (.inr (.inr h4))]
          obtain ⟨p1, p2⟩ := h4
          clear h1 h2 h3
          go_enter Tryz.func83, Tryz.ntmps83
          go_wp2_with (first | (go_at_call 31; refine (isBetween_b _ _ _ _).mono ?_; rintro e w' ⟨rfl, rfl⟩; first | rw [H.out] | rw [H3.out] | rw [H4.out]))
          go_ret
          exact ⟨rfl, rfl⟩
        · have H4 : Hid (btw c 1072 1103 = false) := btw_no h4
          by_cases h5 : 1104 ≤ c ∧ c ≤ 1119
          · have H5 : Hid (btw c 1104 1119 = true) := btw_yes h5
            rw [lgU_far h5]
            obtain ⟨p1, p2⟩ := h5
            clear h1 h2 h3 h4
            go_enter Tryz.func83, Tryz.ntmps83
            go_wp2_with (first | (go_at_call 31; refine (isBetween_b _ _ _ _).mono ?_; rintro e w' ⟨rfl, rfl⟩; first | rw [H.out] | rw [H3.out] | rw [H4.out] | rw [H5.out]))
            go_ret
            exact ⟨rfl, rfl⟩
          · have H5 : Hid (btw c 1104 1119 = false) := btw_no h5
            rw [lgU_plain (by omega) h5]
            clear h1 h2 h3 h4 h5
            go_enter Tryz.func83, Tryz.ntmps83
            go_wp2_with (first | (go_at_call 31; refine (isBetween_b _ _ _ _).mono ?_; rintro e w' ⟨rfl, rfl⟩; first | rw [H.out] | rw [H3.out] | rw [H4.out] | rw [H5.out]) | (go_at_call 82; refine (largeAscii_any _ _).mono ?_; rintro e w' ⟨rfl, rfl⟩))
            go_ret
            exact ⟨rfl, rfl⟩

theorem cmp_cases {k : Int} (h : 1 ≤ k ∧ k ≤ 3) : k = 1 ∨ k = 2 ∨ k = 3 := by omega
set_option maxHeartbeats 1600000 in
theorem countsAs_any (k c : Int) (w : World) (hk : 1 ≤ k ∧ k ≤ 3) : Calls Tryz.prog 64 #[.int .i64 k, .int .i64 c] w fun e w' => e = .returned (.int .i64 (mapC k c)) ∧ w = w' := by
  rcases cmp_cases hk with rfl | rfl | rfl
  · rw [mapC_1]
    go_enter Tryz.func64, Tryz.ntmps64
    go_wp2
    go_ret
    exact ⟨rfl, rfl⟩
  · rw [mapC_2]
    go_enter Tryz.func64, Tryz.ntmps64
    go_wp2_with (first | (go_at_call 82; refine (largeAscii_any _ _).mono ?_; rintro e w' ⟨rfl, rfl⟩))
    go_ret
    exact ⟨rfl, rfl⟩
  · rw [mapC_3]
    go_enter Tryz.func64, Tryz.ntmps64
    go_wp2_with (first | (go_at_call 83; refine (largeUnicode_any _ _).mono ?_; rintro e w' ⟨rfl, rfl⟩))
    go_ret
    exact ⟨rfl, rfl⟩

set_option maxHeartbeats 3200000 in
theorem l3Char_any (k c : Int) (w : World) (hk : 1 ≤ k ∧ k ≤ 3) : Calls Tryz.prog 54 #[.int .i64 k, .int .i64 c] w fun e w' => e = .returned (.int .i64 (mapC k c)) ∧ w = w' := by
  rcases cmp_cases hk with rfl | rfl | rfl
  · rw [mapC_1]
    go_enter Tryz.func54, Tryz.ntmps54
    go_wp2
    go_ret
    exact ⟨rfl, rfl⟩
  · rw [mapC_2]
    by_cases h : 97 ≤ c ∧ c ≤ 122
    · rw [lgA_yes h]
      have H : Hid (btw c 97 122 = true) := btw_yes h
      obtain ⟨p1, p2⟩ := h
      go_enter Tryz.func54, Tryz.ntmps54
      go_wp2_with (first | (go_at_call 32; refine (l1In_b _ _ _ _).mono ?_; rintro e w' ⟨rfl, rfl⟩; rw [H.out]))
      go_ret
      exact ⟨rfl, rfl⟩
    · rw [lgA_no h]
      have H : Hid (btw c 97 122 = false) := btw_no h
      clear h
      go_enter Tryz.func54, Tryz.ntmps54
      go_wp2_with (first | (go_at_call 32; refine (l1In_b _ _ _ _).mono ?_; rintro e w' ⟨rfl, rfl⟩; rw [H.out]))
      go_ret
      exact ⟨rfl, rfl⟩
  · rw [mapC_3]
    by_cases h : 97 ≤ c ∧ c ≤ 122
    · rw [lgU_plain (by omega) (by omega), lgA_yes h]
      have H : Hid (btw c 97 122 = true) := btw_yes h
      obtain ⟨p1, p2⟩ := h
      go_enter Tryz.func54, Tryz.ntmps54
      go_wp2_with (first | (go_at_call 32; refine (l1In_b _ _ _ _).mono ?_; rintro e w' ⟨rfl, rfl⟩; rw [H.out]))
      go_ret
      exact ⟨rfl, rfl⟩
    · have H : Hid (btw c 97 122 = false) := btw_no h
      by_cases h1 : c = 247 ∨ c = 962
      · rw [lgU_same h1]
        clear h H
        rcases h1 with rfl | rfl
        all_goals
          go_enter Tryz.func54, Tryz.ntmps54
          go_wp2_with (first | (go_at_call 32; refine (l1In_any _ _ _ _).mono ?_; rintro e w' ⟨rfl, rfl⟩))
          go_ret
          exact ⟨rfl, rfl⟩
      · have e1 : (c != 247) = true := by simp; omega
        have e2 : (c != 962) = true := by simp; omega
        by_cases h2 : 224 ≤ c ∧ c ≤ 254
        · have H2 : Hid (btw c 224 254 = true) := btw_yes h2
          rw [lgU_near h1 (.inl h2)]
          obtain ⟨p1, p2⟩ := h2
          clear h1 h
          go_enter Tryz.func54, Tryz.ntmps54
          go_wp2_with (first | (go_at_call 32; refine (l1In_b _ _ _ _).mono ?_; rintro e w' ⟨rfl, rfl⟩; first | rw [H.out] | rw [H2.out]))
          go_ret
          exact ⟨rfl, rfl⟩
        · have H2 : Hid (btw c 224 254 = false) := btw_no h2
          by_cases h3 : 945 ≤ c ∧ c ≤ 969
          · have H3 : Hid (btw c 945 969 = true) := btw_yes h3
            rw [lgU_near h1 (.inr (.inl h3))]
            obtain ⟨p1, p2⟩ := h3
            clear h1 h h2
            go_enter Tryz.func54, Tryz.ntmps54
            go_wp2_with (first | (go_at_call 32; refine (l1In_b _ _ _ _).mono ?_; rintro e w' ⟨rfl, rfl⟩; first | rw [H.out] | rw [H2.out] | rw [H3.out]))
            go_ret
            exact ⟨rfl, rfl⟩
          · have H3 : Hid (btw c 945 969 = false) := btw_no h3
            by_cases h4 : 1072 ≤ c ∧ c ≤ 1103
            · have H4 : Hid (btw c 1072 1103 = true) := btw_yes h4
              rw [lgU_near h1 (.inr (.inr h4))]
              obtain ⟨p1, p2⟩ := h4
              clear h1 h h2 h3
              go_enter Tryz.func54, Tryz.ntmps54
              go_wp2_with (first | (go_at_call 32; refine (l1In_b _ _ _ _).mono ?_; rintro e w' ⟨rfl, rfl⟩; first | rw [H.out] | rw [H2.out] | rw [H3.out] | rw [H4.out]))
              go_ret
              exact ⟨rfl, rfl⟩
            · have H4 : Hid (btw c 1072 1103 = false) := btw_no h4
              by_cases h5 : 1104 ≤ c ∧ c ≤ 1119
              · have H5 : Hid (btw c 1104 1119 = true) := btw_yes h5
                rw [lgU_far h5]
                obtain ⟨p1, p2⟩ := h5
                clear h1 h h2 h3 h4
                go_enter Tryz.func54, Tryz.ntmps54
                go_wp2_with (first | (go_at_call 32; refine (l1In_b _ _ _ _).mono ?_; rintro e w' ⟨rfl, rfl⟩; first | rw [H.out] | rw [H2.out] | rw [H3.out] | rw [H4.out] | rw [H5.out]))
                go_ret
                exact ⟨rfl, rfl⟩
              · have H5 : Hid (btw c 1104 1119 = false) := btw_no h5
                rw [lgU_plain (by omega) h5, lgA_no h]
                clear h1 h h2 h3 h4 h5
                go_enter Tryz.func54, Tryz.ntmps54
                go_wp2_with (first | (go_at_call 32; refine (l1In_b _ _ _ _).mono ?_; rintro e w' ⟨rfl, rfl⟩; first | rw [H.out] | rw [H2.out] | rw [H3.out] | rw [H4.out] | rw [H5.out]))
                go_ret
                exact ⟨rfl, rfl⟩

/-- What MapChar answers. -/
def mapV (k c : Int) : Int × Int := if 1 ≤ k ∧ k ≤ 3 then (if chr c = true then (0, mapC k c) else (3, 0)) else (4, 0)
theorem mapV_ok {k c : Int} (h : 1 ≤ k ∧ k ≤ 3) (hc : chr c = true) : mapV k c = (0, mapC k c) := by unfold mapV; rw [if_pos h, if_pos hc]
theorem mapV_bad {k c : Int} (h : 1 ≤ k ∧ k ≤ 3) (hc : chr c = false) : mapV k c = (3, 0) := by unfold mapV; rw [if_pos h, hc]; rfl
theorem mapV_none {k c : Int} (h : ¬ (1 ≤ k ∧ k ≤ 3)) : mapV k c = (4, 0) := if_neg h
/-- An answer with one number. -/
def IntEndC (r : Int × Int) (w : World) (e : Ending) (w' : World) : Prop := e = .returned (.agg #[.int .i64 r.1, .int .i64 r.2]) ∧ Below w.heap.size w w'

end Go.Proofs.YtfbjodbihenmjaaGreatDoor
