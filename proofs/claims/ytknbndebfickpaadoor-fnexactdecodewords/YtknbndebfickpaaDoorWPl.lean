/- Told words: plain functions, with no program in them. -/
import Derived.Test.YtknbndebfickpaaDoorWrdToQMath
namespace Go.Proofs.YtknbndebfickpaaDoor
open Go.RowKit

/-- The bytes that the letters of a told word with Q tell. -/
def ltV : List Nat → Option (List Nat)
  | [] => some []
  | c :: r => if c = 95 then (ltV r).map (32 :: ·) else if c < 33 ∨ 126 < c then none else if c ≠ 61 then (ltV r).map (c :: ·)
    else match r with
      | [] => none
      | a :: r1 => match r1 with
          | [] => none
          | b :: r2 => if Xq.unhex a < 16 ∧ Xq.unhex b < 16 then (ltV r2).map ((Xq.unhex a * 16 + Xq.unhex b) :: ·) else none
theorem ltV_us (r : List Nat) : ltV (95 :: r) = (ltV r).map (32 :: ·) := by rw [ltV.eq_def]; simp
theorem ltV_bad {c : Nat} {r : List Nat} (h : c < 33 ∨ 126 < c) : ltV (c :: r) = none := by
  rw [ltV.eq_def]
  have h1 : c ≠ 95 := by omega
  simp only [h1, h, if_true, if_false]
theorem ltV_self {c : Nat} {r : List Nat} (h : 33 ≤ c ∧ c ≤ 126) (h1 : c ≠ 95) (h2 : c ≠ 61) : ltV (c :: r) = (ltV r).map (c :: ·) := by
  rw [ltV.eq_def]
  have h3 : ¬ (c < 33 ∨ 126 < c) := by omega
  simp only [h1, h3, h2, ne_eq, not_false_eq_true, if_true, if_false]
theorem ltV_short {r : List Nat} (h : r.length < 2) : ltV (61 :: r) = none := by
  match r, h with
  | [], _ => rw [ltV.eq_def]; simp
  | [a], _ => rw [ltV.eq_def]; simp
theorem ltV_hex {a b : Nat} {r : List Nat} (h : Xq.unhex a < 16 ∧ Xq.unhex b < 16) : ltV (61 :: a :: b :: r) = (ltV r).map ((Xq.unhex a * 16 + Xq.unhex b) :: ·) := by
  rw [ltV.eq_def]; simp [h]
theorem ltV_nohex {a b : Nat} {r : List Nat} (h : ¬ (Xq.unhex a < 16 ∧ Xq.unhex b < 16)) : ltV (61 :: a :: b :: r) = none := by
  rw [ltV.eq_def]
  simp only [h, if_false]
  simp
/-- The same, at a place. -/
theorem ltV_at_us {t : List Nat} {k : Nat} (h : k < t.length) (hx : nth t k = 95) : ltV (t.drop k) = (ltV (t.drop (k + 1))).map (32 :: ·) := by
  rw [drop_cons t k h, hx, ltV_us]
theorem ltV_at_bad {t : List Nat} {k : Nat} (h : k < t.length) (hx : nth t k < 33 ∨ 126 < nth t k) : ltV (t.drop k) = none := by
  rw [drop_cons t k h, ltV_bad hx]
theorem ltV_at_self {t : List Nat} {k : Nat} (h : k < t.length) (h0 : 33 ≤ nth t k ∧ nth t k ≤ 126) (h1 : nth t k ≠ 95) (h2 : nth t k ≠ 61) : ltV (t.drop k) = (ltV (t.drop (k + 1))).map (nth t k :: ·) := by
  rw [drop_cons t k h, ltV_self h0 h1 h2]
theorem ltV_at_short {t : List Nat} {k : Nat} (h : k < t.length) (hx : nth t k = 61) (h2 : t.length ≤ k + 2) : ltV (t.drop k) = none := by
  rw [drop_cons t k h, hx, ltV_short (by rw [List.length_drop]; omega)]
theorem ltV_at_hex {t : List Nat} {k : Nat} (h : k + 2 < t.length) (hx : nth t k = 61) (h1 : Xq.unhex (nth t (k + 1)) < 16) (h2 : Xq.unhex (nth t (k + 2)) < 16) :
    ltV (t.drop k) = (ltV (t.drop (k + 3))).map ((Xq.unhex (nth t (k + 1)) * 16 + Xq.unhex (nth t (k + 2))) :: ·) := by
  rw [drop_cons t k (by omega), drop_cons t (k + 1) (by omega), drop_cons t (k + 1 + 1) (by omega), hx]
  exact ltV_hex ⟨h1, h2⟩
theorem ltV_at_nohex {t : List Nat} {k : Nat} (h : k + 2 < t.length) (hx : nth t k = 61) (h1 : ¬ (Xq.unhex (nth t (k + 1)) < 16 ∧ Xq.unhex (nth t (k + 2)) < 16)) : ltV (t.drop k) = none := by
  rw [drop_cons t k (by omega), drop_cons t (k + 1) (by omega), drop_cons t (k + 1 + 1) (by omega), hx]
  exact ltV_nohex h1
theorem omapN_app {o : Option (List Nat)} {a : List Nat} {c : Nat} : (o.map (c :: ·)).map (a ++ ·) = o.map ((a ++ [c]) ++ ·) := by cases o <;> simp

/-- A byte that is seen. -/
def seenB (c : Nat) : Bool := decide (33 ≤ c ∧ c ≤ 126)
/-- Blanks told as quoted bytes. -/
def repU (t : List Nat) : List Nat := t.flatMap fun c => if c = 95 then [61, 50, 48] else [c]
theorem repU_cons (c : Nat) (t : List Nat) : repU (c :: t) = (if c = 95 then [61, 50, 48] else [c]) ++ repU t := rfl
theorem self_seen {c : Nat} {r : List Nat} (h : 33 ≤ c ∧ c ≤ 126) (h2 : c ≠ 61) : Xq.self c r = true := by
  unfold Xq.self
  rw [if_neg (by omega), if_neg (by omega)]
  exact decide_eq_true ⟨h.1, h.2, h2⟩
theorem unhex_us : ¬ Xq.unhex 95 < 16 := by decide
theorem unhex_eq : ¬ Xq.unhex 61 < 16 := by decide
theorem unq_repU : ∀ (n : Nat) (t : List Nat), t.length ≤ n → t.all seenB = true → Xq.unq (repU t) = ltV t := by
  intro n
  induction n with
  | zero =>
    intro t h _
    have : t = [] := List.length_eq_zero_iff.1 (by omega)
    subst this; rfl
  | succ n ih =>
    intro t h ha
    match t, h, ha with
    | [], _, _ => rfl
    | c :: r, h, ha =>
      rw [List.all_cons, Bool.and_eq_true] at ha
      have hc := of_decide_eq_true ha.1
      have hr := ha.2
      rw [List.length_cons] at h
      rw [repU_cons]
      by_cases h95 : c = 95
      · subst h95
        rw [if_pos rfl, ltV_us]
        show Xq.unq (61 :: 50 :: 48 :: repU r) = _
        rw [Xq.unq_byte (by decide) (by decide), ih r (by omega) hr]
        rfl
      · rw [if_neg h95]
        show Xq.unq (c :: repU r) = _
        by_cases h61 : c = 61
        · subst h61
          match r, hr, h with
          | [], _, _ => rw [ltV_short (by simp)]; exact Xq.unq_short1
          | [a], hr, _ =>
            rw [ltV_short (by simp)]
            have ha := of_decide_eq_true (show seenB a = true by simpa using hr)
            rw [repU_cons]
            by_cases h9 : a = 95
            · rw [if_pos h9]
              show Xq.unq (61 :: 61 :: 50 :: 48 :: []) = _
              exact Xq.unq_bad (by decide) (by decide)
            · rw [if_neg h9]
              show Xq.unq [61, a] = _
              exact Xq.unq_short2 (by omega)
          | a :: b :: r, hr, h =>
            rw [List.all_cons, List.all_cons, Bool.and_eq_true, Bool.and_eq_true] at hr
            have ha := of_decide_eq_true hr.1
            have hb := of_decide_eq_true hr.2.1
            simp only [List.length_cons] at h
            rw [repU_cons]
            by_cases h9 : a = 95
            · subst h9
              rw [if_pos rfl, ltV_nohex (fun h => unhex_us h.1)]
              show Xq.unq (61 :: 61 :: 50 :: 48 :: repU (b :: r)) = _
              exact Xq.unq_bad (by decide) (fun h => unhex_eq h.1)
            · rw [if_neg h9, repU_cons]
              by_cases h8 : b = 95
              · subst h8
                rw [if_pos rfl, ltV_nohex (fun h => unhex_us h.2)]
                show Xq.unq (61 :: a :: 61 :: 50 :: 48 :: repU r) = _
                exact Xq.unq_bad (by omega) (fun h => unhex_eq h.2)
              · rw [if_neg h8]
                show Xq.unq (61 :: a :: b :: repU r) = _
                by_cases hx : Xq.unhex a < 16 ∧ Xq.unhex b < 16
                · rw [ltV_hex hx, Xq.unq_byte (by omega) hx, ih r (by omega) hr.2.2]
                · rw [ltV_nohex hx, Xq.unq_bad (by omega) hx]
        · rw [ltV_self hc h95 h61, Xq.unq_self (self_seen hc h61), ih r (by omega) hr]
theorem unhex_seen {c : Nat} (h : Xq.unhex c < 16) : seenB c = true := by
  refine decide_eq_true ?_
  unfold Xq.unhex at h
  split at h
  · omega
  · split at h <;> omega
theorem ltV_unseen : ∀ (n : Nat) (t : List Nat), t.length ≤ n → t.all seenB = false → ltV t = none := by
  intro n
  induction n with
  | zero =>
    intro t h ha
    have : t = [] := List.length_eq_zero_iff.1 (by omega)
    subst this; cases ha
  | succ n ih =>
    intro t h ha
    match t, h, ha with
    | [], _, ha => cases ha
    | c :: r, h, ha =>
      rw [List.length_cons] at h
      rw [List.all_cons] at ha
      by_cases hc : 33 ≤ c ∧ c ≤ 126
      · have hs : seenB c = true := decide_eq_true hc
        rw [hs, Bool.true_and] at ha
        by_cases h95 : c = 95
        · subst h95; rw [ltV_us, ih r (by omega) ha]; rfl
        · by_cases h61 : c = 61
          · subst h61
            match r, ha, h with
            | [], _, _ => exact ltV_short (by simp)
            | [a], _, _ => exact ltV_short (by simp)
            | a :: b :: r, ha, h =>
              by_cases hx : Xq.unhex a < 16 ∧ Xq.unhex b < 16
              · rw [List.all_cons, List.all_cons, unhex_seen hx.1, unhex_seen hx.2, Bool.true_and, Bool.true_and] at ha
                simp only [List.length_cons] at h
                rw [ltV_hex hx, ih r (by omega) ha]; rfl
              · exact ltV_nohex hx
          · rw [ltV_self hc h95 h61, ih r (by omega) ha]; rfl
      · exact ltV_bad (by omega)
theorem ltV_len : ∀ (n : Nat) (t : List Nat) (u : List Nat), t.length ≤ n → ltV t = some u → u.length ≤ t.length ∧ (IsB t → IsB u) := by
  intro n
  induction n with
  | zero =>
    intro t u h ha
    have : t = [] := List.length_eq_zero_iff.1 (by omega)
    subst this
    have : u = [] := by simpa [ltV] using ha.symm
    subst this; exact ⟨Nat.le_refl _, fun h => h⟩
  | succ n ih =>
    intro t u h ha
    have key : ∀ (x : Nat) (r u : List Nat), x < 256 → r.length ≤ n → (ltV r).map (x :: ·) = some u → u.length ≤ r.length + 1 ∧ (IsB r → IsB u) := by
      intro x r u hx hr hm
      cases e : ltV r with
      | none => rw [e] at hm; cases hm
      | some u' =>
        rw [e] at hm
        have hm' : x :: u' = u := by simpa using hm
        have := ih r u' hr e
        subst hm'
        refine ⟨by rw [List.length_cons]; omega, fun hB b hb => ?_⟩
        rcases List.mem_cons.1 hb with rfl | hb
        · exact hx
        · exact this.2 hB b hb
    match t, h, ha with
    | [], _, ha =>
      have : u = [] := by simpa [ltV] using ha.symm
      subst this; exact ⟨Nat.le_refl _, fun h => h⟩
    | c :: r, h, ha =>
      rw [List.length_cons] at h
      by_cases hc : 33 ≤ c ∧ c ≤ 126
      · by_cases h95 : c = 95
        · subst h95
          rw [ltV_us] at ha
          have := key 32 r u (by omega) (by omega) ha
          exact ⟨by rw [List.length_cons]; omega, fun hB => this.2 (fun b hb => hB b (List.mem_cons_of_mem _ hb))⟩
        · by_cases h61 : c = 61
          · subst h61
            match r, ha, h with
            | [], ha, _ => rw [ltV_short (by simp)] at ha; cases ha
            | [a], ha, _ => rw [ltV_short (by simp)] at ha; cases ha
            | a :: b :: r, ha, h =>
              simp only [List.length_cons] at h
              by_cases hx : Xq.unhex a < 16 ∧ Xq.unhex b < 16
              · rw [ltV_hex hx] at ha
                have := key _ r u (by omega) (by omega) ha
                exact ⟨by simp only [List.length_cons]; omega, fun hB => this.2 (fun b hb => hB b (by simp [hb]))⟩
              · rw [ltV_nohex hx] at ha; cases ha
          · rw [ltV_self hc h95 h61] at ha
            have := key c r u (by omega) (by omega) ha
            exact ⟨by rw [List.length_cons]; omega, fun hB => this.2 (fun b hb => hB b (List.mem_cons_of_mem _ hb))⟩
      · rw [ltV_bad (by omega)] at ha; cases ha
end Go.Proofs.YtknbndebfickpaaDoor
