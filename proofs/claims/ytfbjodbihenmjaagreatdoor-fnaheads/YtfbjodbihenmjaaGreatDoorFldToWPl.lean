/- A field of a result that is held as a value: plain reading · Told words, the model's: the place of a question mark, blanks and tabs · Plain facts on lists of bytes, with no program in them: quoted text is read back as the bytes that it was told of, and it is plain; no conditions · Told words: plain functions, with no program in them. -/
import Derived.Test.YtfbjodbihenmjaaGreatDoorAppToChs0
import Derived.Test.YtfbjodbihenmjaaGreatDoorHdrToFdp
import Derived.Test.YtfbjodbihenmjaaGreatDoorJfqToInf
namespace Go.Proofs.YtfbjodbihenmjaaGreatDoor
open Go.RowKit

theorem fldB0 (x y : Value) (w : World) : (Instr.field 145 (.agg #[x, y]) 0).run Tryz.prog w = .ok x w := by
  simp [Instr.field, asAgg, go_sem]
theorem fldB1 (x y : Value) (w : World) : (Instr.field 145 (.agg #[x, y]) 1).run Tryz.prog w = .ok y w := by
  simp [Instr.field, asAgg, go_sem]
theorem fldT0 (x y : Value) (w : World) : (Instr.field 95 (.agg #[x, y]) 0).run Tryz.prog w = .ok x w := by
  simp [Instr.field, asAgg, go_sem]
theorem fldT1 (x y : Value) (w : World) : (Instr.field 95 (.agg #[x, y]) 1).run Tryz.prog w = .ok y w := by
  simp [Instr.field, asAgg, go_sem]
end Go.Proofs.YtfbjodbihenmjaaGreatDoor

namespace Go.Proofs.YtfbjodbihenmjaaGreatDoor
open Go.RowKit

/-- How many bytes from a place on are such. -/
def runL (p : Nat → Bool) (t : List Nat) (i : Nat) : Nat := ((t.drop i).takeWhile p).length
theorem runL_step {p : Nat → Bool} {t : List Nat} {i : Nat} (h : i < t.length) (hc : p (nth t i) = true) : runL p t i = runL p t (i + 1) + 1 := by
  unfold runL
  rw [drop_cons t i h, List.takeWhile_cons, if_pos hc, List.length_cons]
theorem runL_here {p : Nat → Bool} {t : List Nat} {i : Nat} (h : i < t.length) (hc : p (nth t i) = false) : runL p t i = 0 := by
  unfold runL
  rw [drop_cons t i h, List.takeWhile_cons, if_neg (by rw [hc]; simp)]; rfl
theorem runL_end {p : Nat → Bool} {t : List Nat} {i : Nat} (h : t.length ≤ i) : runL p t i = 0 := by
  unfold runL
  rw [List.drop_eq_nil_of_le h]; rfl
/-- No question mark. -/
def noQu (c : Nat) : Bool := decide (c ≠ 63)
/-- A blank or a tab. -/
def gapB (c : Nat) : Bool := decide (c = 32 ∨ c = 9)
/-- The place of a question mark. -/
def mkV (t : List Nat) (i : Nat) : Int := if i + runL noQu t i < t.length then ((i + runL noQu t i : Nat) : Int) else -1
theorem mkV_step {t : List Nat} {i : Nat} (h : i < t.length) (hc : nth t i ≠ 63) : mkV t i = mkV t (i + 1) := by
  unfold mkV
  rw [runL_step h (by simp [noQu, hc]), show i + (runL noQu t (i + 1) + 1) = i + 1 + runL noQu t (i + 1) by omega]
theorem mkV_here {t : List Nat} {i : Nat} (h : i < t.length) (hc : nth t i = 63) : mkV t i = i := by
  unfold mkV
  rw [runL_here h (by simp [noQu, hc]), if_pos (by omega)]; rfl
theorem mkV_end {t : List Nat} {i : Nat} (h : t.length ≤ i) : mkV t i = -1 := by
  unfold mkV
  rw [runL_end h, if_neg (by omega)]

set_option maxHeartbeats 1600000 in
set_option maxRecDepth 100000 in
theorem l4Mark_any (t : List Nat) (n i : Nat) (w : World) (hl : t.length = n) (hB : IsB t) (hn : n ≤ 1048576) (hi : i ≤ 2097152) :
    Calls Tryz.prog 121 #[.string (str t), .int .i64 (i : Int)] w fun e w' => e = .returned (.int .i64 (mkV t i)) ∧ w = w' := by
  have hsz : (str t).size = n := by rw [str_size, hl]
  have HL : Hid (t.length = n) := hl
  clear hl
  go_enter Tryz.func121, Tryz.ntmps121
  go_wp2
  go_loop [5] (fun v => ∃ k : Nat, k ≤ n + 2097152 ∧ v = .int .i64 k ∧ Hid (mkV t i = mkV t k)) (fun v => n - (intOf v).toNat)
  case atStart => exact ⟨i, by omega, rfl, rfl⟩
  case round =>
    obtain ⟨k, hk, rfl, HA⟩ := hrel
    by_cases hkn : k < n
    · have hki : (k : Int) < (n : Int) := by omega
      have g0 := str_get hB (i := k) (by rw [hsz]; exact hkn)
      by_cases h10 : nth t k = 63
      · have HM : Hid (mkV t i = k) := HA.out.trans (mkV_here (by have := HL.out; omega) h10)
        rw [h10] at g0
        go_wp2
        go_ret
        exact ⟨by rw [HM.out]; rfl, rfl⟩
      · have HM : Hid (mkV t i = mkV t (k + 1)) := HA.out.trans (mkV_step (by have := HL.out; omega) h10)
        have h10' : ((nth t k : Int) == 63) = false := by simp; omega
        generalize nth t k = x at *
        go_wp2
        go_round
        case rel => exact ⟨k + 1, by omega, by go_num, HM⟩
        case measure => simp [intOf]; omega
    · have hki : ¬ (k : Int) < (n : Int) := by omega
      have HM : Hid (mkV t i = -1) := HA.out.trans (mkV_end (by have := HL.out; omega))
      go_wp2
      go_ret
      exact ⟨by rw [HM.out]; rfl, rfl⟩

set_option maxHeartbeats 1600000 in
set_option maxRecDepth 100000 in
theorem l4Gap_any (t : List Nat) (n i : Nat) (w : World) (hl : t.length = n) (hB : IsB t) (hn : n ≤ 1048576) (hi : i ≤ n) :
    Calls Tryz.prog 105 #[.string (str t), .int .i64 (i : Int)] w fun e w' => e = .returned (.int .i64 (runL gapB t i : Int)) ∧ w = w' := by
  have hsz : (str t).size = n := by rw [str_size, hl]
  have HL : Hid (t.length = n) := hl
  clear hl
  go_enter Tryz.func105, Tryz.ntmps105
  go_wp2
  go_loop [5] (fun v => ∃ k : Nat, i + k ≤ n ∧ v = .int .i64 k ∧ Hid (runL gapB t i = k + runL gapB t (i + k))) (fun v => n - (intOf v).toNat)
  case atStart => exact ⟨0, by omega, rfl, by show _ = _; rw [Nat.add_zero, Nat.zero_add]⟩
  case round =>
    obtain ⟨k, hk, rfl, HA⟩ := hrel
    by_cases hkn : i + k < n
    · have hki : (i : Int) + (k : Int) < (n : Int) := by omega
      have g0 := str_get hB (i := i + k) (by rw [hsz]; exact hkn)
      by_cases h10 : nth t (i + k) = 32 ∨ nth t (i + k) = 9
      · have HM : Hid (runL gapB t i = (k + 1) + runL gapB t (i + (k + 1))) := by
          show _ = _
          rw [HA.out, runL_step (by have := HL.out; omega) (by simp [gapB, h10]), show i + (k + 1) = i + k + 1 by omega]; omega
        rcases h10 with h | h
        all_goals
          rw [h] at g0
          go_wp2
          go_round
          case rel => exact ⟨k + 1, by omega, by go_num, HM⟩
          case measure => simp [intOf]; omega
      · have HM : Hid (runL gapB t i = k) := by
          show _ = _
          rw [HA.out, runL_here (by have := HL.out; omega) (by simp [gapB, h10])]; rfl
        have e1 : ((nth t (i + k) : Int) == 32) = false := by simp; omega
        have e2 : ((nth t (i + k) : Int) == 9) = false := by simp; omega
        generalize nth t (i + k) = x at *
        go_wp2
        go_ret
        exact ⟨by rw [HM.out]; rfl, rfl⟩
    · have hki : ¬ (i : Int) + (k : Int) < (n : Int) := by omega
      have HM : Hid (runL gapB t i = k) := by
        show _ = _
        rw [HA.out, runL_end (by have := HL.out; omega)]; rfl
      go_wp2
      go_ret
      exact ⟨by rw [HM.out]; rfl, rfl⟩
end Go.Proofs.YtfbjodbihenmjaaGreatDoor

namespace Go.Proofs.YtfbjodbihenmjaaGreatDoor
namespace Xq

/-- Does a byte stand as itself, ahead of r? -/
def self (b : Nat) (r : List Nat) : Bool :=
  if b = 10 then true else if b = 32 ∨ b = 9 then decide (0 < r.length ∧ nth r 0 ≠ 10) else decide (33 ≤ b ∧ b ≤ 126 ∧ b ≠ 61)
def hex (v : Nat) : Nat := if v < 10 then 48 + v else 55 + v
theorem hex_lt {v : Nat} (h : v < 16) : hex v < 128 ∧ 1 ≤ hex v ∧ hex v ≠ 10 := by unfold hex; split <;> omega
/-- The quoted text of some bytes. -/
def quo : List Nat → List Nat
  | [] => []
  | b :: r => if self b r = true then b :: quo r else 61 :: hex (b / 16) :: hex (b % 16) :: quo r
/-- The value of a digit; 16: it is none. -/
def unhex (c : Nat) : Nat := if 48 ≤ c ∧ c ≤ 57 then c - 48 else if 65 ≤ c ∧ c ≤ 70 then c - 55 else 16
theorem unhex_le (c : Nat) : unhex c ≤ 16 := by unfold unhex; split <;> (try split) <;> omega
theorem unhex_hex {v : Nat} (h : v < 16) : unhex (hex v) = v := by
  have : ∀ v, v < 16 → unhex (hex v) = v := by decide
  exact this v h
theorem hex_unhex {c : Nat} (h : unhex c < 16) : hex (unhex c) = c := by
  by_cases h1 : 48 ≤ c ∧ c ≤ 57
  · have e : unhex c = c - 48 := by unfold unhex; rw [if_pos h1]
    rw [e]; unfold hex; rw [if_pos (by omega)]; omega
  · by_cases h2 : 65 ≤ c ∧ c ≤ 70
    · have e : unhex c = c - 55 := by unfold unhex; rw [if_neg h1, if_pos h2]
      rw [e]; unfold hex; rw [if_neg (by omega)]; omega
    · have e : unhex c = 16 := by unfold unhex; rw [if_neg h1, if_neg h2]
      omega
/-- Up to the place of a digit a loop finds it nowhere, and there it finds it. -/
theorem hex_eq_iff {c v : Nat} (h : v < 16) (_hle : v ≤ unhex c) : hex v = c ↔ v = unhex c := by
  constructor
  · intro e; rw [← e, unhex_hex h]
  · intro e; rw [e]; exact hex_unhex (by omega)

theorem quo_len_ge : ∀ l : List Nat, l.length ≤ (quo l).length
  | [] => by simp [quo]
  | b :: r => by
    have := quo_len_ge r
    rw [quo]
    split <;> simp <;> omega
theorem quo_len_le : ∀ l : List Nat, (quo l).length ≤ 3 * l.length
  | [] => by simp [quo]
  | b :: r => by
    have := quo_len_le r
    rw [quo]
    split <;> simp <;> omega
theorem self_plain {b : Nat} {r : List Nat} (h : self b r = true) : 1 ≤ b ∧ b < 128 ∧ b ≠ 61 := by
  unfold self at h
  split at h
  · omega
  · split at h
    · omega
    · simp at h; omega
theorem quo_plain : ∀ l : List Nat, IsB l → ∀ x ∈ quo l, 1 ≤ x ∧ x < 128
  | [], _ => by simp [quo]
  | b :: r, h => by
    have hb := h b (by simp)
    have ih := quo_plain r (fun y hy => h y (by simp [hy]))
    rw [quo]
    split
    · rename_i hs
      have := self_plain hs
      intro x hx
      rcases List.mem_cons.1 hx with rfl | hx
      · omega
      · exact ih x hx
    · intro x hx
      have h1 := hex_lt (v := b / 16) (by omega)
      have h2 := hex_lt (v := b % 16) (by omega)
      simp only [List.mem_cons] at hx
      rcases hx with rfl | rfl | rfl | hx
      · omega
      · omega
      · omega
      · exact ih x hx

/-- A quoted text, read. -/
def unq : List Nat → Option (List Nat)
  | [] => some []
  | c :: r => if self c r = true then (unq r).map (c :: ·)
    else if c ≠ 61 then none
    else match r with
      | [] => none
      | a :: r1 => if a = 10 then unq r1
        else match r1 with
          | [] => none
          | b :: r2 => if unhex a < 16 ∧ unhex b < 16 then (unq r2).map ((unhex a * 16 + unhex b) :: ·) else none

theorem unq_self {c : Nat} {r : List Nat} (h : self c r = true) : unq (c :: r) = (unq r).map (c :: ·) := by rw [unq.eq_def]; simp only [h, if_true]
theorem unq_none {c : Nat} {r : List Nat} (h : self c r = false) (hc : c ≠ 61) : unq (c :: r) = none := by rw [unq.eq_def]; simp only [h, hc, ne_eq, not_false_eq_true, if_true]; rfl
theorem unq_break (r : List Nat) : unq (61 :: 10 :: r) = unq r := by rw [unq.eq_def]; simp [self]
theorem unq_byte {a b : Nat} {r : List Nat} (ha : a ≠ 10) (h : unhex a < 16 ∧ unhex b < 16) : unq (61 :: a :: b :: r) = (unq r).map ((unhex a * 16 + unhex b) :: ·) := by rw [unq.eq_def]; simp [self, ha, h]
theorem unq_bad {a b : Nat} {r : List Nat} (ha : a ≠ 10) (h : ¬ (unhex a < 16 ∧ unhex b < 16)) : unq (61 :: a :: b :: r) = none := by rw [unq.eq_def]; simp only [self, ha]; simp; intro h1 h2; exact absurd ⟨h1, h2⟩ h
theorem unq_short1 : unq [61] = none := by rw [unq.eq_def]; simp [self]
theorem unq_short2 {a : Nat} (ha : a ≠ 10) : unq [61, a] = none := by rw [unq.eq_def]; simp [self, ha]

/-- The quoted text begins with a line feed where the bytes do. -/
theorem quo_head (r : List Nat) (h : 0 < r.length) : 0 < (quo r).length ∧ (nth (quo r) 0 = 10 ↔ nth r 0 = 10) := by
  match r, h with
  | c :: r, _ =>
    rw [quo]
    by_cases hc : c = 10
    · subst hc
      simp [self, nth]
    · split
      · simp [nth]
      · simp [nth, hc]
theorem self_quo (b : Nat) (r : List Nat) : self b (quo r) = self b r := by
  unfold self
  by_cases h1 : b = 10
  · simp [h1]
  · by_cases h2 : b = 32 ∨ b = 9
    · rw [if_neg h1, if_pos h2, if_neg h1, if_pos h2]
      by_cases hr : 0 < r.length
      · obtain ⟨q1, q2⟩ := quo_head r hr
        simp only [q1, hr, true_and, ne_eq, q2]
      · have : r = [] := List.length_eq_zero_iff.1 (by omega)
        subst this
        simp [quo]
    · rw [if_neg h1, if_neg h2, if_neg h1, if_neg h2]
theorem self_fill (r : List Nat) : self 61 r = false := by simp [self]
theorem unq_quo : ∀ l : List Nat, IsB l → unq (quo l) = some l
  | [], _ => rfl
  | b :: r, h => by
    have hb := h b (by simp)
    have ih := unq_quo r (fun y hy => h y (by simp [hy]))
    rw [quo]
    by_cases hs : self b r = true
    · rw [if_pos hs, unq_self (by rw [self_quo]; exact hs), ih]
      rfl
    · have h1 := unhex_hex (v := b / 16) (by omega)
      have h2 := unhex_hex (v := b % 16) (by omega)
      have h3 := hex_lt (v := b / 16) (by omega)
      rw [if_neg hs, unq_byte h3.2.2 (by rw [h1, h2]; omega), h1, h2, ih]
      simp
      omega
end Xq
end Go.Proofs.YtfbjodbihenmjaaGreatDoor

namespace Go.Proofs.YtfbjodbihenmjaaGreatDoor
open Go.RowKit

/-- The bytes that the letters of a told word with Q tell. -/
def ltV : List Nat → Option (List Nat)
  | [] => some []
  | c :: r => if c = 95 then (ltV r).map (32 :: ·) else if c < 33 ∨ 126 < c then none else if c ≠ 61 then (ltV r).map (c :: ·)
    else match r with
      | [] => none
      | a :: r1 => match r1 with
          | [] => none
          | b :: r2 => if Xq.unhex a < 16 ∧ Xq.unhex b < 16 then (ltV r2).map ((Xq.unhex a * 16 + Xq.unhex b) :: ·) else none
theorem ltV_us (r : List Nat) : ltV (95 :: r) = (ltV r).map (32 :: ·) := by rw [ltV.eq_def]; simp
theorem ltV_bad {c : Nat} {r : List Nat} (h : c < 33 ∨ 126 < c) : ltV (c :: r) = none := by
  rw [ltV.eq_def]
  have h1 : c ≠ 95 := by omega
  simp only [h1, h, if_true, if_false]
theorem ltV_self {c : Nat} {r : List Nat} (h : 33 ≤ c ∧ c ≤ 126) (h1 : c ≠ 95) (h2 : c ≠ 61) : ltV (c :: r) = (ltV r).map (c :: ·) := by
  rw [ltV.eq_def]
  have h3 : ¬ (c < 33 ∨ 126 < c) := by omega
  simp only [h1, h3, h2, ne_eq, not_false_eq_true, if_true, if_false]
theorem ltV_short {r : List Nat} (h : r.length < 2) : ltV (61 :: r) = none := by
  match r, h with
  | [], _ => rw [ltV.eq_def]; simp
  | [a], _ => rw [ltV.eq_def]; simp
theorem ltV_hex {a b : Nat} {r : List Nat} (h : Xq.unhex a < 16 ∧ Xq.unhex b < 16) : ltV (61 :: a :: b :: r) = (ltV r).map ((Xq.unhex a * 16 + Xq.unhex b) :: ·) := by
  rw [ltV.eq_def]; simp [h]
theorem ltV_nohex {a b : Nat} {r : List Nat} (h : ¬ (Xq.unhex a < 16 ∧ Xq.unhex b < 16)) : ltV (61 :: a :: b :: r) = none := by
  rw [ltV.eq_def]
  simp only [h, if_false]
  simp
/-- The same, at a place. -/
theorem ltV_at_us {t : List Nat} {k : Nat} (h : k < t.length) (hx : nth t k = 95) : ltV (t.drop k) = (ltV (t.drop (k + 1))).map (32 :: ·) := by
  rw [drop_cons t k h, hx, ltV_us]
theorem ltV_at_bad {t : List Nat} {k : Nat} (h : k < t.length) (hx : nth t k < 33 ∨ 126 < nth t k) : ltV (t.drop k) = none := by
  rw [drop_cons t k h, ltV_bad hx]
theorem ltV_at_self {t : List Nat} {k : Nat} (h : k < t.length) (h0 : 33 ≤ nth t k ∧ nth t k ≤ 126) (h1 : nth t k ≠ 95) (h2 : nth t k ≠ 61) : ltV (t.drop k) = (ltV (t.drop (k + 1))).map (nth t k :: ·) := by
  rw [drop_cons t k h, ltV_self h0 h1 h2]
theorem ltV_at_short {t : List Nat} {k : Nat} (h : k < t.length) (hx : nth t k = 61) (h2 : t.length ≤ k + 2) : ltV (t.drop k) = none := by
  rw [drop_cons t k h, hx, ltV_short (by rw [List.length_drop]; omega)]
theorem ltV_at_hex {t : List Nat} {k : Nat} (h : k + 2 < t.length) (hx : nth t k = 61) (h1 : Xq.unhex (nth t (k + 1)) < 16) (h2 : Xq.unhex (nth t (k + 2)) < 16) :
    ltV (t.drop k) = (ltV (t.drop (k + 3))).map ((Xq.unhex (nth t (k + 1)) * 16 + Xq.unhex (nth t (k + 2))) :: ·) := by
  rw [drop_cons t k (by omega), drop_cons t (k + 1) (by omega), drop_cons t (k + 1 + 1) (by omega), hx]
  exact ltV_hex ⟨h1, h2⟩
theorem ltV_at_nohex {t : List Nat} {k : Nat} (h : k + 2 < t.length) (hx : nth t k = 61) (h1 : ¬ (Xq.unhex (nth t (k + 1)) < 16 ∧ Xq.unhex (nth t (k + 2)) < 16)) : ltV (t.drop k) = none := by
  rw [drop_cons t k (by omega), drop_cons t (k + 1) (by omega), drop_cons t (k + 1 + 1) (by omega), hx]
  exact ltV_nohex h1
theorem omapN_app {o : Option (List Nat)} {a : List Nat} {c : Nat} : (o.map (c :: ·)).map (a ++ ·) = o.map ((a ++ [c]) ++ ·) := by cases o <;> simp

/-- A byte that is seen. -/
def seenB (c : Nat) : Bool := decide (33 ≤ c ∧ c ≤ 126)
/-- Blanks told as quoted bytes. -/
def repU (t : List Nat) : List Nat := t.flatMap fun c => if c = 95 then [61, 50, 48] else [c]
theorem repU_cons (c : Nat) (t : List Nat) : repU (c :: t) = (if c = 95 then [61, 50, 48] else [c]) ++ repU t := rfl
theorem self_seen {c : Nat} {r : List Nat} (h : 33 ≤ c ∧ c ≤ 126) (h2 : c ≠ 61) : Xq.self c r = true := by
  unfold Xq.self
  rw [if_neg (by omega), if_neg (by omega)]
  exact decide_eq_true ⟨h.1, h.2, h2⟩
theorem unhex_us : ¬ Xq.unhex 95 < 16 := by decide
theorem unhex_eq : ¬ Xq.unhex 61 < 16 := by decide
theorem unq_repU : ∀ (n : Nat) (t : List Nat), t.length ≤ n → t.all seenB = true → Xq.unq (repU t) = ltV t := by
  intro n
  induction n with
  | zero =>
    intro t h _
    have : t = [] := List.length_eq_zero_iff.1 (by omega)
    subst this; rfl
  | succ n ih =>
    intro t h ha
    match t, h, ha with
    | [], _, _ => rfl
    | c :: r, h, ha =>
      rw [List.all_cons, Bool.and_eq_true] at ha
      have hc := of_decide_eq_true ha.1
      have hr := ha.2
      rw [List.length_cons] at h
      rw [repU_cons]
      by_cases h95 : c = 95
      · subst h95
        rw [if_pos rfl, ltV_us]
        show Xq.unq (61 :: 50 :: 48 :: repU r) = _
        rw [Xq.unq_byte (by decide) (by decide), ih r (by omega) hr]
        rfl
      · rw [if_neg h95]
        show Xq.unq (c :: repU r) = _
        by_cases h61 : c = 61
        · subst h61
          match r, hr, h with
          | [], _, _ => rw [ltV_short (by simp)]; exact Xq.unq_short1
          | [a], hr, _ =>
            rw [ltV_short (by simp)]
            have ha := of_decide_eq_true (show seenB a = true by simpa using hr)
            rw [repU_cons]
            by_cases h9 : a = 95
            · rw [if_pos h9]
              show Xq.unq (61 :: 61 :: 50 :: 48 :: []) = _
              exact Xq.unq_bad (by decide) (by decide)
            · rw [if_neg h9]
              show Xq.unq [61, a] = _
              exact Xq.unq_short2 (by omega)
          | a :: b :: r, hr, h =>
            rw [List.all_cons, List.all_cons, Bool.and_eq_true, Bool.and_eq_true] at hr
            have ha := of_decide_eq_true hr.1
            have hb := of_decide_eq_true hr.2.1
            simp only [List.length_cons] at h
            rw [repU_cons]
            by_cases h9 : a = 95
            · subst h9
              rw [if_pos rfl, ltV_nohex (fun h => unhex_us h.1)]
              show Xq.unq (61 :: 61 :: 50 :: 48 :: repU (b :: r)) = _
              exact Xq.unq_bad (by decide) (fun h => unhex_eq h.1)
            · rw [if_neg h9, repU_cons]
              by_cases h8 : b = 95
              · subst h8
                rw [if_pos rfl, ltV_nohex (fun h => unhex_us h.2)]
                show Xq.unq (61 :: a :: 61 :: 50 :: 48 :: repU r) = _
                exact Xq.unq_bad (by omega) (fun h => unhex_eq h.2)
              · rw [if_neg h8]
                show Xq.unq (61 :: a :: b :: repU r) = _
                by_cases hx : Xq.unhex a < 16 ∧ Xq.unhex b < 16
                · rw [ltV_hex hx, Xq.unq_byte (by omega) hx, ih r (by omega) hr.2.2]
                · rw [ltV_nohex hx, Xq.unq_bad (by omega) hx]
        · rw [ltV_self hc h95 h61, Xq.unq_self (self_seen hc h61), ih r (by omega) hr]
theorem unhex_seen {c : Nat} (h : Xq.unhex c < 16) : seenB c = true := by
  refine decide_eq_true ?_
  unfold Xq.unhex at h
  split at h
  · omega
  · split at h <;> omega
theorem ltV_unseen : ∀ (n : Nat) (t : List Nat), t.length ≤ n → t.all seenB = false → ltV t = none := by
  intro n
  induction n with
  | zero =>
    intro t h ha
    have : t = [] := List.length_eq_zero_iff.1 (by omega)
    subst this; cases ha
  | succ n ih =>
    intro t h ha
    match t, h, ha with
    | [], _, ha => cases ha
    | c :: r, h, ha =>
      rw [List.length_cons] at h
      rw [List.all_cons] at ha
      by_cases hc : 33 ≤ c ∧ c ≤ 126
      · have hs : seenB c = true := decide_eq_true hc
        rw [hs, Bool.true_and] at ha
        by_cases h95 : c = 95
        · subst h95; rw [ltV_us, ih r (by omega) ha]; rfl
        · by_cases h61 : c = 61
          · subst h61
            match r, ha, h with
            | [], _, _ => exact ltV_short (by simp)
            | [a], _, _ => exact ltV_short (by simp)
            | a :: b :: r, ha, h =>
              by_cases hx : Xq.unhex a < 16 ∧ Xq.unhex b < 16
              · rw [List.all_cons, List.all_cons, unhex_seen hx.1, unhex_seen hx.2, Bool.true_and, Bool.true_and] at ha
                simp only [List.length_cons] at h
                rw [ltV_hex hx, ih r (by omega) ha]; rfl
              · exact ltV_nohex hx
          · rw [ltV_self hc h95 h61, ih r (by omega) ha]; rfl
      · exact ltV_bad (by omega)
theorem ltV_len : ∀ (n : Nat) (t : List Nat) (u : List Nat), t.length ≤ n → ltV t = some u → u.length ≤ t.length ∧ (IsB t → IsB u) := by
  intro n
  induction n with
  | zero =>
    intro t u h ha
    have : t = [] := List.length_eq_zero_iff.1 (by omega)
    subst this
    have : u = [] := by simpa [ltV] using ha.symm
    subst this; exact ⟨Nat.le_refl _, fun h => h⟩
  | succ n ih =>
    intro t u h ha
    have key : ∀ (x : Nat) (r u : List Nat), x < 256 → r.length ≤ n → (ltV r).map (x :: ·) = some u → u.length ≤ r.length + 1 ∧ (IsB r → IsB u) := by
      intro x r u hx hr hm
      cases e : ltV r with
      | none => rw [e] at hm; cases hm
      | some u' =>
        rw [e] at hm
        have hm' : x :: u' = u := by simpa using hm
        have := ih r u' hr e
        subst hm'
        refine ⟨by rw [List.length_cons]; omega, fun hB b hb => ?_⟩
        rcases List.mem_cons.1 hb with rfl | hb
        · exact hx
        · exact this.2 hB b hb
    match t, h, ha with
    | [], _, ha =>
      have : u = [] := by simpa [ltV] using ha.symm
      subst this; exact ⟨Nat.le_refl _, fun h => h⟩
    | c :: r, h, ha =>
      rw [List.length_cons] at h
      by_cases hc : 33 ≤ c ∧ c ≤ 126
      · by_cases h95 : c = 95
        · subst h95
          rw [ltV_us] at ha
          have := key 32 r u (by omega) (by omega) ha
          exact ⟨by rw [List.length_cons]; omega, fun hB => this.2 (fun b hb => hB b (List.mem_cons_of_mem _ hb))⟩
        · by_cases h61 : c = 61
          · subst h61
            match r, ha, h with
            | [], ha, _ => rw [ltV_short (by simp)] at ha; cases ha
            | [a], ha, _ => rw [ltV_short (by simp)] at ha; cases ha
            | a :: b :: r, ha, h =>
              simp only [List.length_cons] at h
              by_cases hx : Xq.unhex a < 16 ∧ Xq.unhex b < 16
              · rw [ltV_hex hx] at ha
                have := key _ r u (by omega) (by omega) ha
                exact ⟨by simp only [List.length_cons]; omega, fun hB => this.2 (fun b hb => hB b (by simp [hb]))⟩
              · rw [ltV_nohex hx] at ha; cases ha
          · rw [ltV_self hc h95 h61] at ha
            have := key c r u (by omega) (by omega) ha
            exact ⟨by rw [List.length_cons]; omega, fun hB => this.2 (fun b hb => hB b (List.mem_cons_of_mem _ hb))⟩
      · rw [ltV_bad (by omega)] at ha; cases ha
end Go.Proofs.YtfbjodbihenmjaaGreatDoor
