/- Told words, the model's: the place of a question mark, blanks and tabs · Told words: plain functions, with no program in them · The letters of a told word, the model's: by a plain function. -/
import Derived.Test.YtkjnhcnbbojajaaGreatDoorFldSToHdr
import Derived.Test.YtkjnhcnbbojajaaGreatDoorEncB2ToEncQ
import Derived.Test.YtkjnhcnbbojajaaGreatDoorEncQ3ToSeo
import Derived.Test.YtkjnhcnbbojajaaGreatDoorDecB4ToEncQ2
namespace Go.Proofs.YtkjnhcnbbojajaaGreatDoor
open Go.RowKit

/-- How many bytes from a place on are such. -/
def runL (p : Nat → Bool) (t : List Nat) (i : Nat) : Nat := ((t.drop i).takeWhile p).length
theorem runL_step {p : Nat → Bool} {t : List Nat} {i : Nat} (h : i < t.length) (hc : p (nth t i) = true) : runL p t i = runL p t (i + 1) + 1 := by
  unfold runL
  rw [drop_cons t i h, List.takeWhile_cons, if_pos hc, List.length_cons]
theorem runL_here {p : Nat → Bool} {t : List Nat} {i : Nat} (h : i < t.length) (hc : p (nth t i) = false) : runL p t i = 0 := by
  unfold runL
  rw [drop_cons t i h, List.takeWhile_cons, if_neg (by rw [hc]; simp)]; rfl
theorem runL_end {p : Nat → Bool} {t : List Nat} {i : Nat} (h : t.length ≤ i) : runL p t i = 0 := by
  unfold runL
  rw [List.drop_eq_nil_of_le h]; rfl
/-- No question mark. -/
def noQu (c : Nat) : Bool := decide (c ≠ 63)
/-- A blank or a tab. -/
def gapB (c : Nat) : Bool := decide (c = 32 ∨ c = 9)
/-- The place of a question mark. -/
def mkV (t : List Nat) (i : Nat) : Int := if i + runL noQu t i < t.length then ((i + runL noQu t i : Nat) : Int) else -1
theorem mkV_step {t : List Nat} {i : Nat} (h : i < t.length) (hc : nth t i ≠ 63) : mkV t i = mkV t (i + 1) := by
  unfold mkV
  rw [runL_step h (by simp [noQu, hc]), show i + (runL noQu t (i + 1) + 1) = i + 1 + runL noQu t (i + 1) by omega]
theorem mkV_here {t : List Nat} {i : Nat} (h : i < t.length) (hc : nth t i = 63) : mkV t i = i := by
  unfold mkV
  rw [runL_here h (by simp [noQu, hc]), if_pos (by omega)]; rfl
theorem mkV_end {t : List Nat} {i : Nat} (h : t.length ≤ i) : mkV t i = -1 := by
  unfold mkV
  rw [runL_end h, if_neg (by omega)]

set_option maxHeartbeats 1600000 in
set_option maxRecDepth 100000 in
theorem l4Mark_any (t : List Nat) (n i : Nat) (w : World) (hl : t.length = n) (hB : IsB t) (hn : n ≤ 1048576) (hi : i ≤ 2097152) :
    Calls Tryz.prog 226 #[.string (str t), .int .i64 (i : Int)] w fun e w' => e = .returned (.int .i64 (mkV t i)) ∧ w = w' := by
  have hsz : (str t).size = n := by rw [str_size, hl]
  have HL : Hid (t.length = n) := hl
  clear hl
  go_enter Tryz.func226, Tryz.ntmps226
  go_wp2
  go_loop [5] (fun v => ∃ k : Nat, k ≤ n + 2097152 ∧ v = .int .i64 k ∧ Hid (mkV t i = mkV t k)) (fun v => n - (intOf v).toNat)
  case atStart => exact ⟨i, by omega, rfl, rfl⟩
  case round =>
    obtain ⟨k, hk, rfl, HA⟩ := hrel
    by_cases hkn : k < n
    · have hki : (k : Int) < (n : Int) := by omega
      have g0 := str_get hB (i := k) (by rw [hsz]; exact hkn)
      by_cases h10 : nth t k = 63
      · have HM : Hid (mkV t i = k) := HA.out.trans (mkV_here (by have := HL.out; omega) h10)
        rw [h10] at g0
        go_wp2
        go_ret
        exact ⟨by rw [HM.out]; rfl, rfl⟩
      · have HM : Hid (mkV t i = mkV t (k + 1)) := HA.out.trans (mkV_step (by have := HL.out; omega) h10)
        have h10' : ((nth t k : Int) == 63) = false := by simp; omega
        generalize nth t k = x at *
        go_wp2
        go_round
        case rel => exact ⟨k + 1, by omega, by go_num, HM⟩
        case measure => simp [intOf]; omega
    · have hki : ¬ (k : Int) < (n : Int) := by omega
      have HM : Hid (mkV t i = -1) := HA.out.trans (mkV_end (by have := HL.out; omega))
      go_wp2
      go_ret
      exact ⟨by rw [HM.out]; rfl, rfl⟩

set_option maxHeartbeats 1600000 in
set_option maxRecDepth 100000 in
theorem l4Gap_any (t : List Nat) (n i : Nat) (w : World) (hl : t.length = n) (hB : IsB t) (hn : n ≤ 1048576) (hi : i ≤ n) :
    Calls Tryz.prog 180 #[.string (str t), .int .i64 (i : Int)] w fun e w' => e = .returned (.int .i64 (runL gapB t i : Int)) ∧ w = w' := by
  have hsz : (str t).size = n := by rw [str_size, hl]
  have HL : Hid (t.length = n) := hl
  clear hl
  go_enter Tryz.func180, Tryz.ntmps180
  go_wp2
  go_loop [5] (fun v => ∃ k : Nat, i + k ≤ n ∧ v = .int .i64 k ∧ Hid (runL gapB t i = k + runL gapB t (i + k))) (fun v => n - (intOf v).toNat)
  case atStart => exact ⟨0, by omega, rfl, by show _ = _; rw [Nat.add_zero, Nat.zero_add]⟩
  case round =>
    obtain ⟨k, hk, rfl, HA⟩ := hrel
    by_cases hkn : i + k < n
    · have hki : (i : Int) + (k : Int) < (n : Int) := by omega
      have g0 := str_get hB (i := i + k) (by rw [hsz]; exact hkn)
      by_cases h10 : nth t (i + k) = 32 ∨ nth t (i + k) = 9
      · have HM : Hid (runL gapB t i = (k + 1) + runL gapB t (i + (k + 1))) := by
          show _ = _
          rw [HA.out, runL_step (by have := HL.out; omega) (by simp [gapB, h10]), show i + (k + 1) = i + k + 1 by omega]; omega
        rcases h10 with h | h
        all_goals
          rw [h] at g0
          go_wp2
          go_round
          case rel => exact ⟨k + 1, by omega, by go_num, HM⟩
          case measure => simp [intOf]; omega
      · have HM : Hid (runL gapB t i = k) := by
          show _ = _
          rw [HA.out, runL_here (by have := HL.out; omega) (by simp [gapB, h10])]; rfl
        have e1 : ((nth t (i + k) : Int) == 32) = false := by simp; omega
        have e2 : ((nth t (i + k) : Int) == 9) = false := by simp; omega
        generalize nth t (i + k) = x at *
        go_wp2
        go_ret
        exact ⟨by rw [HM.out]; rfl, rfl⟩
    · have hki : ¬ (i : Int) + (k : Int) < (n : Int) := by omega
      have HM : Hid (runL gapB t i = k) := by
        show _ = _
        rw [HA.out, runL_end (by have := HL.out; omega)]; rfl
      go_wp2
      go_ret
      exact ⟨by rw [HM.out]; rfl, rfl⟩
end Go.Proofs.YtkjnhcnbbojajaaGreatDoor

namespace Go.Proofs.YtkjnhcnbbojajaaGreatDoor
open Go.RowKit

/-- The bytes that the letters of a told word with Q tell. -/
def ltV : List Nat → Option (List Nat)
  | [] => some []
  | c :: r => if c = 95 then (ltV r).map (32 :: ·) else if c < 33 ∨ 126 < c then none else if c ≠ 61 then (ltV r).map (c :: ·)
    else match r with
      | [] => none
      | a :: r1 => match r1 with
          | [] => none
          | b :: r2 => if Xq.unhex a < 16 ∧ Xq.unhex b < 16 then (ltV r2).map ((Xq.unhex a * 16 + Xq.unhex b) :: ·) else none
theorem ltV_us (r : List Nat) : ltV (95 :: r) = (ltV r).map (32 :: ·) := by rw [ltV.eq_def]; simp
theorem ltV_bad {c : Nat} {r : List Nat} (h : c < 33 ∨ 126 < c) : ltV (c :: r) = none := by
  rw [ltV.eq_def]
  have h1 : c ≠ 95 := by omega
  simp only [h1, h, if_true, if_false]
theorem ltV_self {c : Nat} {r : List Nat} (h : 33 ≤ c ∧ c ≤ 126) (h1 : c ≠ 95) (h2 : c ≠ 61) : ltV (c :: r) = (ltV r).map (c :: ·) := by
  rw [ltV.eq_def]
  have h3 : ¬ (c < 33 ∨ 126 < c) := by omega
  simp only [h1, h3, h2, ne_eq, not_false_eq_true, if_true, if_false]
theorem ltV_short {r : List Nat} (h : r.length < 2) : ltV (61 :: r) = none := by
  match r, h with
  | [], _ => rw [ltV.eq_def]; simp
  | [a], _ => rw [ltV.eq_def]; simp
theorem ltV_hex {a b : Nat} {r : List Nat} (h : Xq.unhex a < 16 ∧ Xq.unhex b < 16) : ltV (61 :: a :: b :: r) = (ltV r).map ((Xq.unhex a * 16 + Xq.unhex b) :: ·) := by
  rw [ltV.eq_def]; simp [h]
theorem ltV_nohex {a b : Nat} {r : List Nat} (h : ¬ (Xq.unhex a < 16 ∧ Xq.unhex b < 16)) : ltV (61 :: a :: b :: r) = none := by
  rw [ltV.eq_def]
  simp only [h, if_false]
  simp
/-- The same, at a place. -/
theorem ltV_at_us {t : List Nat} {k : Nat} (h : k < t.length) (hx : nth t k = 95) : ltV (t.drop k) = (ltV (t.drop (k + 1))).map (32 :: ·) := by
  rw [drop_cons t k h, hx, ltV_us]
theorem ltV_at_bad {t : List Nat} {k : Nat} (h : k < t.length) (hx : nth t k < 33 ∨ 126 < nth t k) : ltV (t.drop k) = none := by
  rw [drop_cons t k h, ltV_bad hx]
theorem ltV_at_self {t : List Nat} {k : Nat} (h : k < t.length) (h0 : 33 ≤ nth t k ∧ nth t k ≤ 126) (h1 : nth t k ≠ 95) (h2 : nth t k ≠ 61) : ltV (t.drop k) = (ltV (t.drop (k + 1))).map (nth t k :: ·) := by
  rw [drop_cons t k h, ltV_self h0 h1 h2]
theorem ltV_at_short {t : List Nat} {k : Nat} (h : k < t.length) (hx : nth t k = 61) (h2 : t.length ≤ k + 2) : ltV (t.drop k) = none := by
  rw [drop_cons t k h, hx, ltV_short (by rw [List.length_drop]; omega)]
theorem ltV_at_hex {t : List Nat} {k : Nat} (h : k + 2 < t.length) (hx : nth t k = 61) (h1 : Xq.unhex (nth t (k + 1)) < 16) (h2 : Xq.unhex (nth t (k + 2)) < 16) :
    ltV (t.drop k) = (ltV (t.drop (k + 3))).map ((Xq.unhex (nth t (k + 1)) * 16 + Xq.unhex (nth t (k + 2))) :: ·) := by
  rw [drop_cons t k (by omega), drop_cons t (k + 1) (by omega), drop_cons t (k + 1 + 1) (by omega), hx]
  exact ltV_hex ⟨h1, h2⟩
theorem ltV_at_nohex {t : List Nat} {k : Nat} (h : k + 2 < t.length) (hx : nth t k = 61) (h1 : ¬ (Xq.unhex (nth t (k + 1)) < 16 ∧ Xq.unhex (nth t (k + 2)) < 16)) : ltV (t.drop k) = none := by
  rw [drop_cons t k (by omega), drop_cons t (k + 1) (by omega), drop_cons t (k + 1 + 1) (by omega), hx]
  exact ltV_nohex h1
theorem omapN_app {o : Option (List Nat)} {a : List Nat} {c : Nat} : (o.map (c :: ·)).map (a ++ ·) = o.map ((a ++ [c]) ++ ·) := by cases o <;> simp

/-- A byte that is seen. -/
def seenB (c : Nat) : Bool := decide (33 ≤ c ∧ c ≤ 126)
/-- Blanks told as quoted bytes. -/
def repU (t : List Nat) : List Nat := t.flatMap fun c => if c = 95 then [61, 50, 48] else [c]
theorem repU_cons (c : Nat) (t : List Nat) : repU (c :: t) = (if c = 95 then [61, 50, 48] else [c]) ++ repU t := rfl
theorem self_seen {c : Nat} {r : List Nat} (h : 33 ≤ c ∧ c ≤ 126) (h2 : c ≠ 61) : Xq.self c r = true := by
  unfold Xq.self
  rw [if_neg (by omega), if_neg (by omega)]
  exact decide_eq_true ⟨h.1, h.2, h2⟩
theorem unhex_us : ¬ Xq.unhex 95 < 16 := by decide
theorem unhex_eq : ¬ Xq.unhex 61 < 16 := by decide
theorem unq_repU : ∀ (n : Nat) (t : List Nat), t.length ≤ n → t.all seenB = true → Xq.unq (repU t) = ltV t := by
  intro n
  induction n with
  | zero =>
    intro t h _
    have : t = [] := List.length_eq_zero_iff.1 (by omega)
    subst this; rfl
  | succ n ih =>
    intro t h ha
    match t, h, ha with
    | [], _, _ => rfl
    | c :: r, h, ha =>
      rw [List.all_cons, Bool.and_eq_true] at ha
      have hc := of_decide_eq_true ha.1
      have hr := ha.2
      rw [List.length_cons] at h
      rw [repU_cons]
      by_cases h95 : c = 95
      · subst h95
        rw [if_pos rfl, ltV_us]
        show Xq.unq (61 :: 50 :: 48 :: repU r) = _
        rw [Xq.unq_byte (by decide) (by decide), ih r (by omega) hr]
        rfl
      · rw [if_neg h95]
        show Xq.unq (c :: repU r) = _
        by_cases h61 : c = 61
        · subst h61
          match r, hr, h with
          | [], _, _ => rw [ltV_short (by simp)]; exact Xq.unq_short1
          | [a], hr, _ =>
            rw [ltV_short (by simp)]
            have ha := of_decide_eq_true (show seenB a = true by simpa using hr)
            rw [repU_cons]
            by_cases h9 : a = 95
            · rw [if_pos h9]
              show Xq.unq (61 :: 61 :: 50 :: 48 :: []) = _
              exact Xq.unq_bad (by decide) (by decide)
            · rw [if_neg h9]
              show Xq.unq [61, a] = _
              exact Xq.unq_short2 (by omega)
          | a :: b :: r, hr, h =>
            rw [List.all_cons, List.all_cons, Bool.and_eq_true, Bool.and_eq_true] at hr
            have ha := of_decide_eq_true hr.1
            have hb := of_decide_eq_true hr.2.1
            simp only [List.length_cons] at h
            rw [repU_cons]
            by_cases h9 : a = 95
            · subst h9
              rw [if_pos rfl, ltV_nohex (fun h => unhex_us h.1)]
              show Xq.unq (61 :: 61 :: 50 :: 48 :: repU (b :: r)) = _
              exact Xq.unq_bad (by decide) (fun h => unhex_eq h.1)
            · rw [if_neg h9, repU_cons]
              by_cases h8 : b = 95
              · subst h8
                rw [if_pos rfl, ltV_nohex (fun h => unhex_us h.2)]
                show Xq.unq (61 :: a :: 61 :: 50 :: 48 :: repU r) = _
                exact Xq.unq_bad (by omega) (fun h => unhex_eq h.2)
              · rw [if_neg h8]
                show Xq.unq (61 :: a :: b :: repU r) = _
                by_cases hx : Xq.unhex a < 16 ∧ Xq.unhex b < 16
                · rw [ltV_hex hx, Xq.unq_byte (by omega) hx, ih r (by omega) hr.2.2]
                · rw [ltV_nohex hx, Xq.unq_bad (by omega) hx]
        · rw [ltV_self hc h95 h61, Xq.unq_self (self_seen hc h61), ih r (by omega) hr]
theorem unhex_seen {c : Nat} (h : Xq.unhex c < 16) : seenB c = true := by
  refine decide_eq_true ?_
  unfold Xq.unhex at h
  split at h
  · omega
  · split at h <;> omega
theorem ltV_unseen : ∀ (n : Nat) (t : List Nat), t.length ≤ n → t.all seenB = false → ltV t = none := by
  intro n
  induction n with
  | zero =>
    intro t h ha
    have : t = [] := List.length_eq_zero_iff.1 (by omega)
    subst this; cases ha
  | succ n ih =>
    intro t h ha
    match t, h, ha with
    | [], _, ha => cases ha
    | c :: r, h, ha =>
      rw [List.length_cons] at h
      rw [List.all_cons] at ha
      by_cases hc : 33 ≤ c ∧ c ≤ 126
      · have hs : seenB c = true := decide_eq_true hc
        rw [hs, Bool.true_and] at ha
        by_cases h95 : c = 95
        · subst h95; rw [ltV_us, ih r (by omega) ha]; rfl
        · by_cases h61 : c = 61
          · subst h61
            match r, ha, h with
            | [], _, _ => exact ltV_short (by simp)
            | [a], _, _ => exact ltV_short (by simp)
            | a :: b :: r, ha, h =>
              by_cases hx : Xq.unhex a < 16 ∧ Xq.unhex b < 16
              · rw [List.all_cons, List.all_cons, unhex_seen hx.1, unhex_seen hx.2, Bool.true_and, Bool.true_and] at ha
                simp only [List.length_cons] at h
                rw [ltV_hex hx, ih r (by omega) ha]; rfl
              · exact ltV_nohex hx
          · rw [ltV_self hc h95 h61, ih r (by omega) ha]; rfl
      · exact ltV_bad (by omega)
theorem ltV_len : ∀ (n : Nat) (t : List Nat) (u : List Nat), t.length ≤ n → ltV t = some u → u.length ≤ t.length ∧ (IsB t → IsB u) := by
  intro n
  induction n with
  | zero =>
    intro t u h ha
    have : t = [] := List.length_eq_zero_iff.1 (by omega)
    subst this
    have : u = [] := by simpa [ltV] using ha.symm
    subst this; exact ⟨Nat.le_refl _, fun h => h⟩
  | succ n ih =>
    intro t u h ha
    have key : ∀ (x : Nat) (r u : List Nat), x < 256 → r.length ≤ n → (ltV r).map (x :: ·) = some u → u.length ≤ r.length + 1 ∧ (IsB r → IsB u) := by
      intro x r u hx hr hm
      cases e : ltV r with
      | none => rw [e] at hm; cases hm
      | some u' =>
        rw [e] at hm
        have hm' : x :: u' = u := by simpa using hm
        have := ih r u' hr e
        subst hm'
        refine ⟨by rw [List.length_cons]; omega, fun hB b hb => ?_⟩
        rcases List.mem_cons.1 hb with rfl | hb
        · exact hx
        · exact this.2 hB b hb
    match t, h, ha with
    | [], _, ha =>
      have : u = [] := by simpa [ltV] using ha.symm
      subst this; exact ⟨Nat.le_refl _, fun h => h⟩
    | c :: r, h, ha =>
      rw [List.length_cons] at h
      by_cases hc : 33 ≤ c ∧ c ≤ 126
      · by_cases h95 : c = 95
        · subst h95
          rw [ltV_us] at ha
          have := key 32 r u (by omega) (by omega) ha
          exact ⟨by rw [List.length_cons]; omega, fun hB => this.2 (fun b hb => hB b (List.mem_cons_of_mem _ hb))⟩
        · by_cases h61 : c = 61
          · subst h61
            match r, ha, h with
            | [], ha, _ => rw [ltV_short (by simp)] at ha; cases ha
            | [a], ha, _ => rw [ltV_short (by simp)] at ha; cases ha
            | a :: b :: r, ha, h =>
              simp only [List.length_cons] at h
              by_cases hx : Xq.unhex a < 16 ∧ Xq.unhex b < 16
              · rw [ltV_hex hx] at ha
                have := key _ r u (by omega) (by omega) ha
                exact ⟨by simp only [List.length_cons]; omega, fun hB => this.2 (fun b hb => hB b (by simp [hb]))⟩
              · rw [ltV_nohex hx] at ha; cases ha
          · rw [ltV_self hc h95 h61] at ha
            have := key c r u (by omega) (by omega) ha
            exact ⟨by rw [List.length_cons]; omega, fun hB => this.2 (fun b hb => hB b (List.mem_cons_of_mem _ hb))⟩
      · rw [ltV_bad (by omega)] at ha; cases ha
end Go.Proofs.YtkjnhcnbbojajaaGreatDoor

namespace Go.Proofs.YtkjnhcnbbojajaaGreatDoor
open Go.RowKit

/-- Bytes, or none. -/
def OptEnd (o : Option (List Nat)) (w : World) (e : Ending) (w' : World) : Prop := Below w.heap.size w w' ∧ match o with
  | some l => ∃ v, e = .returned (.tuple #[v, .bool true]) ∧ Own w' w.heap.size v l
  | none => ∃ v, e = .returned (.tuple #[v, .bool false])
theorem OptEnd.no {o : Option (List Nat)} {w w' : World} (hb : Below w.heap.size w w') (h : o = none) (v : Value) : OptEnd o w (.returned (.tuple #[v, .bool false])) w' := by subst h; exact ⟨hb, v, rfl⟩
theorem OptEnd.yes {o : Option (List Nat)} {w w' : World} {l : List Nat} {v : Value} (hb : Below w.heap.size w w') (h : o = some l) (ho : Own w' w.heap.size v l) : OptEnd o w (.returned (.tuple #[v, .bool true])) w' := by subst h; exact ⟨hb, v, rfl, ho⟩
theorem BasEnd.opt {t : List Nat} {w : World} {e : Ending} {w' : World} (h : BasEnd t w e w') : OptEnd (Xf.dec t) w e w' := by
  obtain ⟨v, ok, l, rfl, ho, hb, ⟨rfl, h⟩ | ⟨rfl, h⟩⟩ := h
  · exact .yes hb h ho
  · exact .no hb h v
theorem app_new {wr : World} {q : Nat} : ∀ (x : World), x = (wr.alloc (.cells #[.int .u8 (q : Int)] 5)).drew → ∀ j, j < 1 → x.cell? ((⟨wr.heap.size, 0, none⟩ : Addr).add j) = some (.int .u8 (nth [q] j : Int)) := by
  intro x hx j hj
  obtain rfl : j = 0 := by omega
  subst hx
  rw [Go.WideShapes.add_plain]
  show (wr.alloc (.cells #[.int .u8 (q : Int)] 5)).cell? _ = _
  simp [nth]

set_option maxHeartbeats 3200000 in
set_option maxRecDepth 100000 in
theorem l4Letters_any (t : List Nat) (n : Nat) (w : World) (hl : t.length = n) (hB : IsB t) (hn : n ≤ 1048576) :
    Calls Tryz.prog 262 #[.string (str t)] w fun e w' => OptEnd (ltV t) w e w' := by
  have hsz : (str t).size = n := by rw [str_size, hl]
  have HL : Hid (t.length = n) := hl
  clear hl
  go_enter Tryz.func262, Tryz.ntmps262
  go_wp2
  have hown0 : Own (w.alloc (.cells #[] 5)) w.heap.size (.slice (some ⟨w.heap.size, 0, none⟩) 0 0) [] := Own.lit w _ (Nat.le_refl _) #[] [] rfl (by decide)
  have hbel0 : Below w.heap.size w (w.alloc (.cells #[] 5)) := (Below.refl _ _).alloc (Nat.le_refl _) _
  go_loopw [4, 5] (fun v i wr => ∃ (k : Nat) (out : List Nat), k ≤ n ∧ i = .int .i64 k ∧ Own wr w.heap.size v out ∧ Below w.heap.size w wr ∧ Hid (ltV t = (ltV (t.drop k)).map (out ++ ·)) ∧ out.length ≤ k)
    (fun _ i _ => n - (intOf i).toNat)
  case atStart => exact ⟨0, [], Nat.zero_le _, rfl, hown0, hbel0, by show _ = _; rw [List.drop_zero]; cases ltV t <;> simp, Nat.le_refl _⟩
  case round =>
    obtain ⟨k, out, hk, rfl, hown, hbel, HQ, hol⟩ := hrel
    clear hown0 hbel0
    have hz := hbel.size
    by_cases hkn : k < n
    · have g0 := str_get hB (i := k) (by rw [hsz]; exact hkn)
      have hk' : (k : Int) < (n : Int) := by omega
      have hkl : k < t.length := by have := HL.out; omega
      have hx := nth_lt hB k
      by_cases h95 : nth t k = 95
      · have HM : Hid (ltV t = (ltV (t.drop (k + 1))).map ((out ++ [32]) ++ ·)) := by
          show _ = _
          rw [HQ.out, ltV_at_us hkl h95, omapN_app]
        rw [h95] at g0
        clear HQ
        go_wp2_with (at_builtin; refine wpList_app_new rfl _ _ rfl (w.heap.size) _ out rfl hown 1 1 [32] rfl rfl rfl (by omega) hz ?_; intro v' w2 hown' hb')
        go_wp2
        go_roundw
        case rel => exact ⟨k + 1, out ++ [32], by omega, by go_num, hown', hbel.trans hb', HM, by simp; omega⟩
        case measure => simp [intOf]; omega
      · have n95 : (((nth t k : Nat) : Int) == 95) = false := beq_eq_false_iff_ne.2 (by omega)
        by_cases h33 : nth t k < 33
        · have r1 : ((nth t k : Nat) : Int) < 33 := by omega
          have HM : Hid (ltV t = none) := by
            show _ = _
            rw [HQ.out, ltV_at_bad hkl (.inl h33)]; rfl
          clear HQ
          go_wp2
          go_ret2
          exact .no hbel HM.out _
        · have r1 : ¬ ((nth t k : Nat) : Int) < 33 := by omega
          by_cases h126 : 126 < nth t k
          · have r2 : (126 : Int) < ((nth t k : Nat) : Int) := by omega
            have HM : Hid (ltV t = none) := by
              show _ = _
              rw [HQ.out, ltV_at_bad hkl (.inr h126)]; rfl
            clear HQ
            go_wp2
            go_ret2
            exact .no hbel HM.out _
          · have r2 : ¬ (126 : Int) < ((nth t k : Nat) : Int) := by omega
            by_cases h61 : nth t k = 61
            · rw [h61] at g0
              clear r1 r2 n95
              by_cases hn2 : k + 2 < n
              · have hn1 : k + 1 < n := by omega
                have g1 := str_get hB (i := k + 1) (by rw [hsz]; exact hn1)
                have g2 := str_get hB (i := k + 2) (by rw [hsz]; exact hn2)
                have x1 := nth_lt hB (k + 1)
                have x2 := nth_lt hB (k + 2)
                have hn2' : ¬ (n : Int) ≤ (k : Int) + 2 := by omega
                have hn1i : (k : Int) + 1 < (n : Int) := by omega
                have hn2i : (k : Int) + 2 < (n : Int) := by omega
                by_cases ha : Xq.unhex (nth t (k + 1)) < 16
                · have Ha0 : Hid (hexI (nth t (k + 1)) = (Xq.unhex (nth t (k + 1)) : Int)) := hexI_in ha
                  by_cases hb : Xq.unhex (nth t (k + 2)) < 16
                  · have Hb0 : Hid (hexI (nth t (k + 2)) = (Xq.unhex (nth t (k + 2)) : Int)) := hexI_in hb
                    have HM0 : Hid (ltV t = (ltV (t.drop (k + 3))).map ((out ++ [Xq.unhex (nth t (k + 1)) * 16 + Xq.unhex (nth t (k + 2))]) ++ ·)) := by
                      show _ = _
                      rw [HQ.out, ltV_at_hex (by have := HL.out; omega) h61 ha hb, omapN_app]
                    obtain ⟨xa, hxa⟩ : ∃ xa, Xq.unhex (nth t (k + 1)) = xa := ⟨_, rfl⟩
                    obtain ⟨xb, hxb⟩ : ∃ xb, Xq.unhex (nth t (k + 2)) = xb := ⟨_, rfl⟩
                    rw [hxa] at ha Ha0 HM0
                    rw [hxb] at hb Hb0 HM0
                    obtain ⟨q, hq⟩ : ∃ q, xa * 16 + xb = q := ⟨_, rfl⟩
                    rw [hq] at HM0
                    have Ha : Hid (hexI (nth t (k + 1)) = (xa : Int)) := Ha0
                    have Hb : Hid (hexI (nth t (k + 2)) = (xb : Int)) := Hb0
                    have HM : Hid (_) := HM0
                    have hq256 : q < 256 := by omega
                    have p1 : ¬ (xa : Int) < 0 := by omega
                    have p2 : ¬ (xb : Int) < 0 := by omega
                    have hw1 : IntKind.i64.wrap ((k : Int) + 1) = (k : Int) + 1 := wrap_small _ (by omega) (by omega)
                    have hw2 : IntKind.i64.wrap ((k : Int) + 2) = (k : Int) + 2 := wrap_small _ (by omega) (by omega)
                    have hw3 : IntKind.i64.wrap (16 * (xa : Int)) = 16 * (xa : Int) := wrap_small _ (by omega) (by omega)
                    have hw4 : IntKind.i64.wrap (16 * (xa : Int) + (xb : Int)) = (q : Int) := by rw [wrap_small _ (by omega) (by omega)]; omega
                    have hw5 : IntKind.u8.wrap (q : Int) = (q : Int) := wraps_u8 _ (by omega) (by omega)
                    have hnewq : ∀ x, x = (wr.alloc (.cells #[.int .u8 (q : Int)] 5)).drew → ∀ j, j < 1 → x.cell? ((⟨wr.heap.size, 0, none⟩ : Addr).add j) = some (.int .u8 (nth [q] j : Int)) := app_new
                    have hbA : Below w.heap.size wr (wr.alloc (.cells #[.int .u8 (q : Int)] 5)).drew := ((Below.refl _ _).alloc hz _).drew
                    clear HQ hxa hxb hq Ha0 Hb0 HM0
                    go_wp2_with fail
                    refine (l1HexValue_any (nth t (k + 1)) _ x1).mono ?_
                    rintro e u1 ⟨rfl, rfl⟩
                    rw [Ha.out]
                    go_wp2_with fail
                    refine (l1HexValue_any (nth t (k + 2)) _ x2).mono ?_
                    rintro e u2 ⟨rfl, rfl⟩
                    rw [Hb.out]
                    go_wp2_with fail
                    refine wp_region_held_drew (S := fun _ => True) (by kernel_rfl) ?hS1 (fun hHeld => ?_)
                    case hS1 => exact trivial
                    refine wpAnyH_take (i := 0) (v := ?_) rfl (by kernel_rfl) (by kernel_rfl) (by kernel_rfl) (fun _ _ _ h => h) (Or.inl ⟨by rfl, ?hy2⟩) (by assumption) ?ty2
                    case hy2 => (intro w hSw; (try dsimp only at hSw); go_simp; all_goals with_reducible rfl)
                    simp only [Act.put, List.getElem_toArray, List.getElem_cons_zero, List.setIfInBounds_toArray, List.set_cons_zero, List.set_cons_succ]
                    refine wpAnyH_take (i := 1) (v := ?_) rfl (by kernel_rfl) (by kernel_rfl) (by kernel_rfl) (fun _ _ _ h => h) (Or.inl ⟨by rfl, ?hy3⟩) (by assumption) ?ty3
                    case hy3 => (intro w hSw; (try dsimp only at hSw); go_simp; all_goals with_reducible rfl)
                    simp only [Act.put, List.getElem_toArray, List.getElem_cons_zero, List.getElem_cons_succ, List.setIfInBounds_toArray, List.set_cons_zero, List.set_cons_succ]
                    refine wpAnyH_take (i := 2) (v := ?_) rfl (by kernel_rfl) (by kernel_rfl) (by kernel_rfl) (fun _ _ _ h => h) (Or.inl ⟨by rfl, ?hy4⟩) (by assumption) ?ty4
                    case hy4 => (intro w hSw; (try dsimp only at hSw); go_simp; all_goals with_reducible rfl)
                    simp only [Act.put, List.getElem_toArray, List.getElem_cons_zero, List.getElem_cons_succ, List.setIfInBounds_toArray, List.set_cons_zero, List.set_cons_succ]
                    refine wpAnyH_take (i := 3) (v := .int .i64 ((k : Int) + 1)) rfl (by kernel_rfl) (by kernel_rfl) (by kernel_rfl) (fun _ _ _ h => h) (Or.inl ⟨by rfl, ?hy5⟩) (by assumption) ?ty5
                    case hy5 => (intro w hSw; (try dsimp only at hSw); go_simp; first | (simp [hw1]; done) | (all_goals with_reducible rfl))
                    simp only [Act.put, List.getElem_toArray, List.getElem_cons_zero, List.getElem_cons_succ, List.setIfInBounds_toArray, List.set_cons_zero, List.set_cons_succ]
                    refine wpAnyH_take (i := 4) (v := .int .u8 (nth t (k + 1) : Int)) rfl (by kernel_rfl) (by kernel_rfl) (by kernel_rfl) (fun _ _ _ h => h) (Or.inl ⟨by rfl, ?hy6⟩) (by assumption) ?ty6
                    case hy6 => (intro w hSw; (try dsimp only at hSw); go_simp; first | (intro hneg; omega) | (simp [g1]; done))
                    simp only [Act.put, List.getElem_toArray, List.getElem_cons_zero, List.getElem_cons_succ, List.setIfInBounds_toArray, List.set_cons_zero, List.set_cons_succ]
                    refine wpAnyH_take (i := 7) (v := ?_) rfl (by kernel_rfl) (by kernel_rfl) (by kernel_rfl) (fun _ _ _ h => h) (Or.inl ⟨by rfl, ?hy7⟩) (by assumption) ?ty7
                    case hy7 => (intro w hSw; (try dsimp only at hSw); go_simp; all_goals with_reducible rfl)
                    simp only [Act.put, List.getElem_toArray, List.getElem_cons_zero, List.getElem_cons_succ, List.setIfInBounds_toArray, List.set_cons_zero, List.set_cons_succ]
                    refine wpAnyH_take (i := 8) (v := ?_) rfl (by kernel_rfl) (by kernel_rfl) (by kernel_rfl) (fun _ _ _ h => h) (Or.inl ⟨by rfl, ?hy8⟩) (by assumption) ?ty8
                    case hy8 => (intro w hSw; (try dsimp only at hSw); go_simp; all_goals with_reducible rfl)
                    simp only [Act.put, List.getElem_toArray, List.getElem_cons_zero, List.getElem_cons_succ, List.setIfInBounds_toArray, List.set_cons_zero, List.set_cons_succ]
                    refine wpAnyH_take (i := 9) (v := .int .i64 ((k : Int) + 2)) rfl (by kernel_rfl) (by kernel_rfl) (by kernel_rfl) (fun _ _ _ h => h) (Or.inl ⟨by rfl, ?hy9⟩) (by assumption) ?ty9
                    case hy9 => (intro w hSw; (try dsimp only at hSw); go_simp; first | (simp [hw2]; done) | (all_goals with_reducible rfl))
                    simp only [Act.put, List.getElem_toArray, List.getElem_cons_zero, List.getElem_cons_succ, List.setIfInBounds_toArray, List.set_cons_zero, List.set_cons_succ]
                    refine wpAnyH_take (i := 10) (v := .int .u8 (nth t (k + 2) : Int)) rfl (by kernel_rfl) (by kernel_rfl) (by kernel_rfl) (fun _ _ _ h => h) (Or.inl ⟨by rfl, ?hy10⟩) (by assumption) ?ty10
                    case hy10 => (intro w hSw; (try dsimp only at hSw); go_simp; first | (simp [show ((k : Int) + 2).toNat = k + 2 from by omega, g2]; done) | (intro hneg; omega))
                    simp only [Act.put, List.getElem_toArray, List.getElem_cons_zero, List.getElem_cons_succ, List.setIfInBounds_toArray, List.set_cons_zero, List.set_cons_succ]
                    refine wpAnyH_ready (rs := [5]) (by kernel_rfl) (by simp) ?_
                    refine AllReadyH.cons rfl (fun K hK => ?_) AllReadyH.nil
                    go_simp
                    refine (l1HexValue_any (nth t (k + 1)) _ x1).mono ?_
                    rintro e u1 ⟨rfl, rfl⟩
                    rw [Ha.out]
                    simp only
                    refine hK.out _ _ trivial (fun hHeld => ?_)
                    clear hK K
                    refine wpAnyH_take (i := 6) (v := .int .i64 (16 * (xa : Int))) rfl (by kernel_rfl) (by kernel_rfl) (by kernel_rfl) (fun _ _ _ h => h) (Or.inl ⟨by rfl, ?hy11⟩) (by assumption) ?ty11
                    case hy11 => (intro w hSw; (try dsimp only at hSw); go_simp; first | (simp [hw3]; done) | (all_goals with_reducible rfl))
                    simp only [Act.put, List.getElem_toArray, List.getElem_cons_zero, List.getElem_cons_succ, List.setIfInBounds_toArray, List.set_cons_zero, List.set_cons_succ]
                    refine wpAnyH_ready (rs := [11]) (by kernel_rfl) (by simp) ?_
                    refine AllReadyH.cons rfl (fun K hK => ?_) AllReadyH.nil
                    go_simp
                    refine (l1HexValue_any (nth t (k + 2)) _ x2).mono ?_
                    rintro e u2 ⟨rfl, rfl⟩
                    rw [Hb.out]
                    simp only
                    refine hK.out _ _ trivial (fun hHeld => ?_)
                    clear hK K
                    refine wpAnyH_take (i := 12) (v := .int .i64 (q : Int)) rfl (by kernel_rfl) (by kernel_rfl) (by kernel_rfl) (fun _ _ _ h => h) (Or.inl ⟨by rfl, ?hy12⟩) (by assumption) ?ty12
                    case hy12 => (intro w hSw; (try dsimp only at hSw); go_simp; first | (simp [hw4]; done) | (all_goals with_reducible rfl))
                    simp only [Act.put, List.getElem_toArray, List.getElem_cons_zero, List.getElem_cons_succ, List.setIfInBounds_toArray, List.set_cons_zero, List.set_cons_succ]
                    refine wpAnyH_take (i := 13) (v := .int .u8 (q : Int)) rfl (by kernel_rfl) (by kernel_rfl) (by kernel_rfl) (fun _ _ _ h => h) (Or.inl ⟨by rfl, ?hy13⟩) (by assumption) ?ty13
                    case hy13 => (intro w hSw; (try dsimp only at hSw); go_simp; first | (simp [hw5]; done) | (all_goals with_reducible rfl))
                    simp only [Act.put, List.getElem_toArray, List.getElem_cons_zero, List.getElem_cons_succ, List.setIfInBounds_toArray, List.set_cons_zero, List.set_cons_succ]
                    refine wpAnyH_ready (rs := [14]) (by kernel_rfl) (by simp) ?_
                    refine AllReadyH.cons rfl (fun K hK => ?_) AllReadyH.nil
                    go_simp
                    refine hK.out _ _ trivial (fun hHeld => ?_)
                    clear hK K
                    refine wpAnyH_ready (rs := [15]) (by kernel_rfl) (by simp) ?_
                    refine AllReadyH.cons rfl (fun K hK => ?_) AllReadyH.nil
                    refine step_app (by rfl) _ _ (by rfl) w.heap.size _ out (by rfl) ((hown.alloc _).drew) ⟨wr.heap.size, 0, none⟩ 1 _ [q] (by rfl) (by rfl) (hnewq _ rfl) (by omega) (by simp; omega) ?_
                    intro v' w2 hown' hb'
                    have hb2 := (hbA).trans hb'
                    refine hK.out _ _ trivial (fun hHeld => ?_)
                    clear hK K
                    refine wpAnyH_take (i := 16) (v := ?_) rfl (by kernel_rfl) (by kernel_rfl) (by kernel_rfl) (fun _ _ _ h => h) (Or.inl ⟨by rfl, ?hy14⟩) (by assumption) ?ty14
                    case hy14 => (intro w hSw; (try dsimp only at hSw); go_simp; all_goals with_reducible rfl)
                    simp only [Act.put, List.getElem_toArray, List.getElem_cons_zero, List.getElem_cons_succ, List.setIfInBounds_toArray, List.set_cons_zero, List.set_cons_succ]
                    refine wpAnyH_done (by kernel_rfl) ?_ _
                    go_wp2
                    go_roundw
                    case rel => exact ⟨k + 3, out ++ [q], by omega, by go_num, hown', hbel.trans hb2, HM, by simp; omega⟩
                    case measure => simp [intOf]; omega
                  · have Hb : Hid (hexI (nth t (k + 2)) = -1) := hexI_out hb
                    have HM : Hid (ltV t = none) := by
                      show _ = _
                      rw [HQ.out, ltV_at_nohex (by have := HL.out; omega) h61 (fun h => hb h.2)]; rfl
                    obtain ⟨xa, hxa⟩ : ∃ xa, Xq.unhex (nth t (k + 1)) = xa := ⟨_, rfl⟩
                    rw [hxa] at Ha0
                    have p1 : ¬ (xa : Int) < 0 := by omega
                    clear HQ hxa
                    go_wp2_with fail
                    refine (l1HexValue_any (nth t (k + 1)) _ x1).mono ?_
                    rintro e u1 ⟨rfl, rfl⟩
                    rw [Ha0.out]
                    go_wp2_with fail
                    refine (l1HexValue_any (nth t (k + 2)) _ x2).mono ?_
                    rintro e u2 ⟨rfl, rfl⟩
                    rw [Hb.out]
                    go_wp2
                    go_ret2
                    exact .no hbel HM.out _
                · have Ha : Hid (hexI (nth t (k + 1)) = -1) := hexI_out ha
                  have HM : Hid (ltV t = none) := by
                    show _ = _
                    rw [HQ.out, ltV_at_nohex (by have := HL.out; omega) h61 (fun h => ha h.1)]; rfl
                  clear HQ
                  go_wp2_with fail
                  refine (l1HexValue_any (nth t (k + 1)) _ x1).mono ?_
                  rintro e u1 ⟨rfl, rfl⟩
                  rw [Ha.out]
                  go_wp2
                  go_ret2
                  exact .no hbel HM.out _
              · have hn2' : (n : Int) ≤ (k : Int) + 2 := by omega
                have HM : Hid (ltV t = none) := by
                  show _ = _
                  rw [HQ.out, ltV_at_short hkl h61 (by have := HL.out; omega)]; rfl
                clear HQ
                go_wp2
                go_ret2
                exact .no hbel HM.out _
            · have n61 : (((nth t k : Nat) : Int) == 61) = false := beq_eq_false_iff_ne.2 (by omega)
              have HM : Hid (ltV t = (ltV (t.drop (k + 1))).map ((out ++ [nth t k]) ++ ·)) := by
                show _ = _
                rw [HQ.out, ltV_at_self hkl (by omega) h95 h61, omapN_app]
              clear HQ
              generalize nth t k = x at *
              go_wp2_with (at_builtin; refine wpList_app_new rfl _ _ rfl (w.heap.size) _ out rfl hown 1 1 [x] rfl rfl rfl (by omega) hz ?_; intro v' w2 hown' hb')
              go_wp2
              go_roundw
              case rel => exact ⟨k + 1, out ++ [x], by omega, by go_num, hown', hbel.trans hb', HM, by simp; omega⟩
              case measure => simp [intOf]; omega
    · have HS : Hid (ltV t = some out) := by
        show _ = _
        rw [HQ.out, List.drop_of_length_le (by have := HL.out; omega)]; simp [ltV]
      have hk' : ¬ (k : Int) < (n : Int) := by omega
      clear HQ
      go_wp2
      go_ret2
      exact .yes hbel HS.out hown

/-- The bytes that a told word tells. -/
def toldV (kind : Nat) (t : List Nat) : Option (List Nat) := if kind = 66 ∨ kind = 98 then Xf.dec t else if kind = 81 ∨ kind = 113 then ltV t else none
theorem toldV_b {kind : Nat} {t : List Nat} (h : kind = 66 ∨ kind = 98) : toldV kind t = Xf.dec t := if_pos h
theorem toldV_q {kind : Nat} {t : List Nat} (h : kind = 81 ∨ kind = 113) : toldV kind t = ltV t := by unfold toldV; rw [if_neg (by omega), if_pos h]
theorem toldV_no {kind : Nat} {t : List Nat} (h : ¬ (kind = 66 ∨ kind = 98)) (h1 : ¬ (kind = 81 ∨ kind = 113)) : toldV kind t = none := by unfold toldV; rw [if_neg h, if_neg h1]

set_option maxHeartbeats 1600000 in
set_option maxRecDepth 100000 in
theorem l4Told_any (kind : Nat) (t : List Nat) (n : Nat) (w : World) (hk : kind < 256) (hl : t.length = n) (hB : IsB t) (hn : n ≤ 1048576) :
    Calls Tryz.prog 227 #[.int .u8 (kind : Int), .string (str t)] w fun e w' => OptEnd (toldV kind t) w e w' := by
  by_cases h1 : kind = 66 ∨ kind = 98
  · rw [toldV_b h1]
    have HD : Calls Tryz.prog 214 #[.string (str t)] w fun e w' => OptEnd (Xf.dec t) w e w' := (l1Decode_any t n w hl hB hn).mono fun e w' h => h.opt
    generalize Xf.dec t = o at *
    rcases h1 with rfl | rfl
    all_goals
      go_enter Tryz.func227, Tryz.ntmps227
      go_wp2_with fail
      refine HD.mono ?_
      intro e w' h
      cases o with
      | none =>
        obtain ⟨hb, v, rfl⟩ := h
        go_wp2
        go_ret2
        exact .no hb rfl _
      | some l =>
        obtain ⟨hb, v, rfl, ho⟩ := h
        go_wp2
        go_ret2
        exact .yes hb rfl ho
  · by_cases h2 : kind = 81 ∨ kind = 113
    · rw [toldV_q h2]
      have HD := l4Letters_any t n w hl hB hn
      generalize ltV t = o at *
      rcases h2 with rfl | rfl
      all_goals
        go_enter Tryz.func227, Tryz.ntmps227
        go_wp2_with fail
        refine HD.mono ?_
        intro e w' h
        cases o with
        | none =>
          obtain ⟨hb, v, rfl⟩ := h
          go_wp2
          go_ret2
          exact .no hb rfl _
        | some l =>
          obtain ⟨hb, v, rfl, ho⟩ := h
          go_wp2
          go_ret2
          exact .yes hb rfl ho
    · have e1 : ((kind : Int) == 66) = false := beq_eq_false_iff_ne.2 (by omega)
      have e2 : ((kind : Int) == 98) = false := beq_eq_false_iff_ne.2 (by omega)
      have e3 : ((kind : Int) == 81) = false := beq_eq_false_iff_ne.2 (by omega)
      have e4 : ((kind : Int) == 113) = false := beq_eq_false_iff_ne.2 (by omega)
      rw [toldV_no h1 h2]
      clear h1 h2
      go_enter Tryz.func227, Tryz.ntmps227
      go_wp2
      go_ret2
      exact .no (Below.refl _ _) rfl _
end Go.Proofs.YtkjnhcnbbojajaaGreatDoor
