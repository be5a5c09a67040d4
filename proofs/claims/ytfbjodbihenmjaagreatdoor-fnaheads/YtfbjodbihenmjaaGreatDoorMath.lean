/- Plain facts on lists of bytes, with no program in them: the text of some bytes in base digits is read back from it and from no other text, and so is the quoted text, which is plain; no conditions. -/
import Derived.Test.YtfbjodbihenmjaaGreatDoorJfqToInf
namespace Go.Proofs.YtfbjodbihenmjaaGreatDoor
namespace Xf

/-- The 64 digits, as numbers. -/
def digs : List Nat := [65, 66, 67, 68, 69, 70, 71, 72, 73, 74, 75, 76, 77, 78, 79, 80, 81, 82, 83, 84, 85, 86, 87, 88, 89, 90, 97, 98, 99, 100, 101, 102, 103, 104, 105, 106, 107, 108, 109, 110, 111, 112, 113, 114, 115, 116, 117, 118, 119, 120, 121, 122, 48, 49, 50, 51, 52, 53, 54, 55, 56, 57, 43, 47]
def dig (v : Nat) : Nat := digs.getD v 0
def pos (c : Nat) : Nat := digs.findIdx (fun x => x == c)

theorem digs_len : digs.length = 64 := by decide
theorem dig_lt (v : Nat) : dig v < 128 := by
  by_cases h : v < 64
  · have : ∀ v, v < 64 → dig v < 128 := by decide
    exact this v h
  · unfold dig; rw [List.getD_eq_getElem?_getD, List.getElem?_eq_none (by rw [digs_len]; omega)]; decide
theorem dig_pos {v : Nat} (h : v < 64) : 1 ≤ dig v := by
  have : ∀ v, v < 64 → 1 ≤ dig v := by decide
  exact this v h
theorem dig_ne {v : Nat} (h : v < 64) : dig v ≠ 61 := by
  have : ∀ v, v < 64 → dig v ≠ 61 := by decide
  exact this v h
theorem pos_dig {v : Nat} (h : v < 64) : pos (dig v) = v := by
  have : ∀ v, v < 64 → pos (dig v) = v := by decide
  exact this v h
theorem dig_of_pos {c : Nat} (h : pos c < 64) : dig (pos c) = c := by
  have h' : pos c < digs.length := by rw [digs_len]; exact h
  have := List.findIdx_getElem (p := fun x => x == c) (xs := digs) (w := h')
  have e : digs[pos c] = c := eq_of_beq this
  unfold dig
  rw [List.getD_eq_getElem?_getD, List.getElem?_eq_getElem h']
  exact e
theorem pos_le (c : Nat) : pos c ≤ 64 := by
  have := List.findIdx_le_length (p := fun x => x == c) (xs := digs)
  rw [digs_len] at this; exact this
/-- Up to the place of a digit a loop finds it nowhere, and there it finds it. -/
theorem dig_eq_iff {c v : Nat} (h : v < 64) (_hle : v ≤ pos c) : dig v = c ↔ v = pos c := by
  constructor
  · intro e; rw [← e, pos_dig h]
  · intro e; rw [e]; exact dig_of_pos (by omega)

/- Arithmetic of four digits and three bytes. -/
theorem ar_split (v : Nat) : v / 262144 * 262144 + v / 4096 % 64 * 4096 + v / 64 % 64 * 64 + v % 64 = v := by omega
theorem ar_bytes (v : Nat) : v / 65536 * 65536 + v / 256 % 256 * 256 + v % 256 = v := by omega
theorem ar_digits (v p0 p1 p2 p3 : Nat) (h1 : p1 < 64) (h2 : p2 < 64) (h3 : p3 < 64) (hv : p0 * 262144 + p1 * 4096 + p2 * 64 + p3 = v) :
    v / 262144 = p0 ∧ v / 4096 % 64 = p1 ∧ v / 64 % 64 = p2 ∧ v % 64 = p3 := by omega
theorem ar_lt (v p0 p1 p2 p3 : Nat) (h0 : p0 < 64) (h1 : p1 < 64) (h2 : p2 < 64) (h3 : p3 < 64) (hv : p0 * 262144 + p1 * 4096 + p2 * 64 + p3 = v) : v < 16777216 := by omega
theorem ar_bs (v : Nat) (h : v < 16777216) : v / 65536 < 256 ∧ v / 256 % 256 < 256 ∧ v % 256 < 256 := by omega
theorem ar_two (a b v : Nat) (hb : b < 256) (hv : a * 65536 + b * 256 = v) : v / 65536 = a ∧ v / 256 % 256 = b ∧ v % 256 = 0 ∧ v % 64 = 0 := by omega
theorem ar_three (a b c v : Nat) (hb : b < 256) (hc : c < 256) (hv : a * 65536 + b * 256 + c = v) : v / 65536 = a ∧ v / 256 % 256 = b ∧ v % 256 = c := by omega
theorem ar_one (a : Nat) : a * 65536 / 262144 * 262144 + a * 65536 / 4096 % 64 * 4096 + 0 * 64 + 0 = a * 65536 := by omega
theorem ar_two' (a b v : Nat) (hv : a * 65536 + b * 256 = v) : v / 262144 * 262144 + v / 4096 % 64 * 4096 + v / 64 % 64 * 64 + 0 = v := by
  have h1 := ar_split v
  have h2 : v % 64 = 0 := by omega
  rw [h2] at h1
  exact h1
theorem ar_digits3 (v p0 p1 p2 : Nat) (h0 : p0 < 64) (h1 : p1 < 64) (h2 : p2 < 64) (hv : p0 * 262144 + p1 * 4096 + p2 * 64 = v) :
    v / 262144 = p0 ∧ v / 4096 % 64 = p1 ∧ v / 64 % 64 = p2 ∧ v < 16777216 := by omega
theorem ar_digits2 (v p0 p1 : Nat) (h0 : p0 < 64) (h1 : p1 < 64) (hv : p0 * 262144 + p1 * 4096 = v) :
    v / 262144 = p0 ∧ v / 4096 % 64 = p1 ∧ v < 16777216 := by omega

/-- The base text of some bytes. -/
def enc : List Nat → List Nat
  | [] => []
  | [a] => [dig (a * 65536 / 262144), dig (a * 65536 / 4096 % 64), 61, 61]
  | [a, b] => [dig ((a * 65536 + b * 256) / 262144), dig ((a * 65536 + b * 256) / 4096 % 64), dig ((a * 65536 + b * 256) / 64 % 64), 61]
  | a :: b :: c :: r => dig ((a * 65536 + b * 256 + c) / 262144) :: dig ((a * 65536 + b * 256 + c) / 4096 % 64) :: dig ((a * 65536 + b * 256 + c) / 64 % 64) :: dig ((a * 65536 + b * 256 + c) % 64) :: enc r

theorem enc_len : ∀ l : List Nat, (enc l).length = (l.length + 2) / 3 * 4
  | [] => rfl
  | [_] => by simp [enc]
  | [_, _] => by simp [enc]
  | a :: b :: c :: r => by
    have := enc_len r
    simp only [enc, List.length_cons, this]
    omega


theorem enc_plain : ∀ l : List Nat, IsB l → ∀ x ∈ enc l, 1 ≤ x ∧ x < 128
  | [], _ => by simp [enc]
  | [a], h => by
    have ha := h a (by simp)
    intro x hx
    simp only [enc, List.mem_cons, List.not_mem_nil, or_false] at hx
    rcases hx with rfl | rfl | rfl | rfl
    · exact ⟨dig_pos (by omega), dig_lt _⟩
    · exact ⟨dig_pos (by omega), dig_lt _⟩
    · omega
    · omega
  | [a, b], h => by
    have ha := h a (by simp)
    have hb := h b (by simp)
    intro x hx
    simp only [enc, List.mem_cons, List.not_mem_nil, or_false] at hx
    rcases hx with rfl | rfl | rfl | rfl
    · exact ⟨dig_pos (by omega), dig_lt _⟩
    · exact ⟨dig_pos (by omega), dig_lt _⟩
    · exact ⟨dig_pos (by omega), dig_lt _⟩
    · omega
  | a :: b :: c :: r, h => by
    have ha := h a (by simp)
    have hb := h b (by simp)
    have hc := h c (by simp)
    intro x hx
    simp only [enc, List.mem_cons] at hx
    rcases hx with rfl | rfl | rfl | rfl | hx
    · exact ⟨dig_pos (by omega), dig_lt _⟩
    · exact ⟨dig_pos (by omega), dig_lt _⟩
    · exact ⟨dig_pos (by omega), dig_lt _⟩
    · exact ⟨dig_pos (by omega), dig_lt _⟩
    · exact enc_plain r (fun y hy => h y (by simp [hy])) x hx

/-- How many of four letters are told: behind the last ones there is fill. -/
def cnt (x0 x1 x2 x3 : Nat) : Nat := if x3 ≠ 61 then 4 else if x2 ≠ 61 then 3 else if x1 ≠ 61 then 2 else if x0 ≠ 61 then 1 else 0
/-- The value of a letter at a place of a group of which n are told. -/
def at_ (n k x : Nat) : Nat := if k < n then pos x else 0
def bitsOf (n x0 x1 x2 x3 : Nat) : Nat := at_ n 0 x0 * 262144 + at_ n 1 x1 * 4096 + at_ n 2 x2 * 64 + at_ n 3 x3
def good (n x0 x1 x2 x3 : Nat) : Bool := decide (at_ n 0 x0 < 64) && decide (at_ n 1 x1 < 64) && decide (at_ n 2 x2 < 64) && decide (at_ n 3 x3 < 64)
def three (v m : Nat) : List Nat := [v / 65536, v / 256 % 256, v % 256].take m
/-- What lies behind the bytes that are told. -/
def left (v m : Nat) : Nat := if m = 1 then v % 65536 else if m = 2 then v % 256 else 0

/-- A group as the program reads it: none, or the bytes. -/
def grpN (n x0 x1 x2 x3 : Nat) : Option (List Nat) :=
  if n < 2 then none else if good n x0 x1 x2 x3 = false then none
  else if left (bitsOf n x0 x1 x2 x3) (n - 1) ≠ 0 then none else some (three (bitsOf n x0 x1 x2 x3) (n - 1))
def grp (x0 x1 x2 x3 : Nat) : Option (List Nat) := grpN (cnt x0 x1 x2 x3) x0 x1 x2 x3

/-- A text as the program reads it. -/
def dec : List Nat → Option (List Nat)
  | [] => some []
  | x0 :: x1 :: x2 :: x3 :: r => match grp x0 x1 x2 x3 with
    | none => none
    | some g => if g.length < 3 ∧ r ≠ [] then none else (dec r).map (g ++ ·)
  | _ => none

/-- How many of four letters the model takes as told. -/
def cntS (last : Bool) (x2 x3 : Nat) : Nat := if last = true ∧ x3 = 61 then (if x2 = 61 then 2 else 3) else 4
/-- A text as the model reads it, ahead of its last look. -/
def raw : List Nat → Option (List Nat)
  | [] => some []
  | x0 :: x1 :: x2 :: x3 :: r =>
    if good (cntS r.isEmpty x2 x3) x0 x1 x2 x3 = false then none
    else (raw r).map (three (bitsOf (cntS r.isEmpty x2 x3) x0 x1 x2 x3) (cntS r.isEmpty x2 x3 - 1) ++ ·)
  | _ => none

theorem pos_fill : pos 61 = 64 := by decide

theorem dec_enc : ∀ l : List Nat, IsB l → dec (enc l) = some l
  | [], _ => rfl
  | [a], h => by
    have ha := h a (by simp)
    have n1 := dig_ne (v := a * 65536 / 4096 % 64) (by omega)
    have p0 := pos_dig (v := a * 65536 / 262144) (by omega)
    have p1 := pos_dig (v := a * 65536 / 4096 % 64) (by omega)
    have hc : cnt (dig (a * 65536 / 262144)) (dig (a * 65536 / 4096 % 64)) 61 61 = 2 := by simp [cnt, n1]
    have hb : bitsOf 2 (dig (a * 65536 / 262144)) (dig (a * 65536 / 4096 % 64)) 61 61 = a * 65536 := by simp only [bitsOf, at_, p0, p1, Nat.reduceLT, ↓reduceIte]; exact ar_one a
    have hg : good 2 (dig (a * 65536 / 262144)) (dig (a * 65536 / 4096 % 64)) 61 61 = true := by simp [good, at_, p0, p1]; omega
    have hl : left (a * 65536) 1 = 0 := by simp [left]
    have ht : three (a * 65536) 1 = [a] := by simp [three]
    simp only [enc, dec, grp, grpN, hc, hb, hg, hl, ht]
    simp
  | [a, b], h => by
    have ha := h a (by simp)
    have hb' := h b (by simp)
    generalize hv : a * 65536 + b * 256 = v
    have hvl : v < 16777216 := by omega
    have n1 := dig_ne (v := v / 64 % 64) (by omega)
    have p0 := pos_dig (v := v / 262144) (by omega)
    have p1 := pos_dig (v := v / 4096 % 64) (by omega)
    have p2 := pos_dig (v := v / 64 % 64) (by omega)
    have hc : cnt (dig (v / 262144)) (dig (v / 4096 % 64)) (dig (v / 64 % 64)) 61 = 3 := by simp [cnt, n1]
    have hb : bitsOf 3 (dig (v / 262144)) (dig (v / 4096 % 64)) (dig (v / 64 % 64)) 61 = v := by simp only [bitsOf, at_, p0, p1, p2, Nat.reduceLT, ↓reduceIte]; exact ar_two' a b v hv
    have hg : good 3 (dig (v / 262144)) (dig (v / 4096 % 64)) (dig (v / 64 % 64)) 61 = true := by simp [good, at_, p0, p1, p2]; omega
    have hl : left v 2 = 0 := by simp [left]; omega
    have ht : three v 2 = [a, b] := by simp [three]; omega
    simp only [enc, hv, dec, grp, grpN, hc, hb, hg, hl, ht]
    simp
  | a :: b :: c :: r, h => by
    have ha := h a (by simp)
    have hb' := h b (by simp)
    have hc' := h c (by simp)
    have ih := dec_enc r (fun y hy => h y (by simp [hy]))
    generalize hv : a * 65536 + b * 256 + c = v
    have hvl : v < 16777216 := by omega
    have n3 := dig_ne (v := v % 64) (by omega)
    have p0 := pos_dig (v := v / 262144) (by omega)
    have p1 := pos_dig (v := v / 4096 % 64) (by omega)
    have p2 := pos_dig (v := v / 64 % 64) (by omega)
    have p3 := pos_dig (v := v % 64) (by omega)
    have hc : cnt (dig (v / 262144)) (dig (v / 4096 % 64)) (dig (v / 64 % 64)) (dig (v % 64)) = 4 := by simp [cnt, n3]
    have hb : bitsOf 4 (dig (v / 262144)) (dig (v / 4096 % 64)) (dig (v / 64 % 64)) (dig (v % 64)) = v := by simp only [bitsOf, at_, p0, p1, p2, p3, Nat.reduceLT, ↓reduceIte]; exact ar_split v
    have hg : good 4 (dig (v / 262144)) (dig (v / 4096 % 64)) (dig (v / 64 % 64)) (dig (v % 64)) = true := by simp [good, at_, p0, p1, p2, p3]; omega
    have hl : left v 3 = 0 := by simp [left]
    have ht : three v 3 = [a, b, c] := by simp [three]; omega
    simp only [enc, hv, dec, grp, grpN, hc, hb, hg, hl, ht, ih]
    simp

theorem raw_enc : ∀ l : List Nat, IsB l → raw (enc l) = some l
  | [], _ => rfl
  | [a], h => by
    have ha := h a (by simp)
    have p0 := pos_dig (v := a * 65536 / 262144) (by omega)
    have p1 := pos_dig (v := a * 65536 / 4096 % 64) (by omega)
    have hb : bitsOf 2 (dig (a * 65536 / 262144)) (dig (a * 65536 / 4096 % 64)) 61 61 = a * 65536 := by simp only [bitsOf, at_, p0, p1, Nat.reduceLT, ↓reduceIte]; exact ar_one a
    have hg : good 2 (dig (a * 65536 / 262144)) (dig (a * 65536 / 4096 % 64)) 61 61 = true := by simp [good, at_, p0, p1]; omega
    have ht : three (a * 65536) 1 = [a] := by simp [three]
    have hc : cntS ([] : List Nat).isEmpty 61 61 = 2 := by simp [cntS]
    simp only [enc, raw, hc, hb, hg, ht]
    simp
  | [a, b], h => by
    have ha := h a (by simp)
    have hb' := h b (by simp)
    generalize hv : a * 65536 + b * 256 = v
    have hvl : v < 16777216 := by omega
    have n1 := dig_ne (v := v / 64 % 64) (by omega)
    have p0 := pos_dig (v := v / 262144) (by omega)
    have p1 := pos_dig (v := v / 4096 % 64) (by omega)
    have p2 := pos_dig (v := v / 64 % 64) (by omega)
    have hb : bitsOf 3 (dig (v / 262144)) (dig (v / 4096 % 64)) (dig (v / 64 % 64)) 61 = v := by simp only [bitsOf, at_, p0, p1, p2, Nat.reduceLT, ↓reduceIte]; exact ar_two' a b v hv
    have hg : good 3 (dig (v / 262144)) (dig (v / 4096 % 64)) (dig (v / 64 % 64)) 61 = true := by simp [good, at_, p0, p1, p2]; omega
    have ht : three v 2 = [a, b] := by simp [three]; omega
    have hc : cntS ([] : List Nat).isEmpty (dig (v / 64 % 64)) 61 = 3 := by simp [cntS, n1]
    simp only [enc, hv, raw, hc, hb, hg, ht]
    simp
  | a :: b :: c :: r, h => by
    have ha := h a (by simp)
    have hb' := h b (by simp)
    have hc' := h c (by simp)
    have ih := raw_enc r (fun y hy => h y (by simp [hy]))
    generalize hv : a * 65536 + b * 256 + c = v
    have hvl : v < 16777216 := by omega
    have n3 := dig_ne (v := v % 64) (by omega)
    have p0 := pos_dig (v := v / 262144) (by omega)
    have p1 := pos_dig (v := v / 4096 % 64) (by omega)
    have p2 := pos_dig (v := v / 64 % 64) (by omega)
    have p3 := pos_dig (v := v % 64) (by omega)
    have hb : bitsOf 4 (dig (v / 262144)) (dig (v / 4096 % 64)) (dig (v / 64 % 64)) (dig (v % 64)) = v := by simp only [bitsOf, at_, p0, p1, p2, p3, Nat.reduceLT, ↓reduceIte]; exact ar_split v
    have hg : good 4 (dig (v / 262144)) (dig (v / 4096 % 64)) (dig (v / 64 % 64)) (dig (v % 64)) = true := by simp [good, at_, p0, p1, p2, p3]; omega
    have ht : three v 3 = [a, b, c] := by simp [three]; omega
    have hc : cntS (enc r).isEmpty (dig (v / 64 % 64)) (dig (v % 64)) = 4 := by simp [cntS, n3]
    simp only [enc, hv, raw, hc, hb, hg, ht, ih]
    simp

theorem cnt_cases (x0 x1 x2 x3 : Nat) (h : ¬ cnt x0 x1 x2 x3 < 2) :
    (cnt x0 x1 x2 x3 = 4 ∧ x3 ≠ 61) ∨ (cnt x0 x1 x2 x3 = 3 ∧ x3 = 61 ∧ x2 ≠ 61) ∨ (cnt x0 x1 x2 x3 = 2 ∧ x3 = 61 ∧ x2 = 61 ∧ x1 ≠ 61) := by
  unfold cnt at h ⊢
  by_cases h3 : x3 = 61
  · by_cases h2 : x2 = 61
    · by_cases h1 : x1 = 61
      · by_cases h0 : x0 = 61 <;> simp [h3, h2, h1, h0] at h
      · simp [h3, h2, h1]
    · simp [h3, h2]
  · simp [h3]

/-- What is read of a group is told so again. -/
theorem grp_enc (x0 x1 x2 x3 : Nat) (g : List Nat) (h : grp x0 x1 x2 x3 = some g) :
    IsB g ∧ 1 ≤ g.length ∧ g.length ≤ 3 ∧ (g.length < 3 → enc g = [x0, x1, x2, x3]) ∧ (g.length = 3 → ∀ r, enc (g ++ r) = x0 :: x1 :: x2 :: x3 :: enc r) := by
  unfold grp grpN at h
  by_cases h2 : cnt x0 x1 x2 x3 < 2
  · simp [h2] at h
  · rcases cnt_cases x0 x1 x2 x3 h2 with ⟨e, _⟩ | ⟨e, e3, _⟩ | ⟨e, e3, e2, _⟩
    · rw [e] at h
      by_cases hg : good 4 x0 x1 x2 x3 = false
      · simp [hg] at h
      · have hg' : pos x0 < 64 ∧ pos x1 < 64 ∧ pos x2 < 64 ∧ pos x3 < 64 := by
          simp [good, at_] at hg; omega
        obtain ⟨q0, q1, q2, q3⟩ := hg'
        have d0 := dig_of_pos q0
        have d1 := dig_of_pos q1
        have d2 := dig_of_pos q2
        have d3 := dig_of_pos q3
        have hb : bitsOf 4 x0 x1 x2 x3 = pos x0 * 262144 + pos x1 * 4096 + pos x2 * 64 + pos x3 := by simp [bitsOf, at_]
        rw [hb] at h
        generalize hv : pos x0 * 262144 + pos x1 * 4096 + pos x2 * 64 + pos x3 = v at h
        obtain ⟨r0, r1, r2, r3⟩ := ar_digits v _ _ _ _ q1 q2 q3 hv
        obtain ⟨b0, b1, b2⟩ := ar_bs v (ar_lt v _ _ _ _ q0 q1 q2 q3 hv)
        simp [hg, left] at h
        subst h
        refine ⟨?_, by simp [three], by simp [three], by simp [three], ?_⟩
        · intro b hb'
          simp [three] at hb'
          rcases hb' with rfl | rfl | rfl
          · exact b0
          · exact b1
          · exact b2
        · intro _ r
          simp only [three, List.take, List.cons_append, List.nil_append, enc, ar_bytes v, r0, r1, r2, r3, d0, d1, d2, d3]
    · rw [e] at h
      subst e3
      by_cases hg : good 3 x0 x1 x2 61 = false
      · simp [hg] at h
      · have hg' : pos x0 < 64 ∧ pos x1 < 64 ∧ pos x2 < 64 := by
          simp [good, at_] at hg; omega
        obtain ⟨q0, q1, q2⟩ := hg'
        have d0 := dig_of_pos q0
        have d1 := dig_of_pos q1
        have d2 := dig_of_pos q2
        have hb : bitsOf 3 x0 x1 x2 61 = pos x0 * 262144 + pos x1 * 4096 + pos x2 * 64 := by simp [bitsOf, at_]
        rw [hb] at h
        generalize hv : pos x0 * 262144 + pos x1 * 4096 + pos x2 * 64 = v at h
        obtain ⟨r0, r1, r2, rl⟩ := ar_digits3 v _ _ _ q0 q1 q2 hv
        obtain ⟨b0, b1, _⟩ := ar_bs v rl
        by_cases hl : v % 256 = 0
        · have a0 := ar_bytes v
          rw [hl, Nat.add_zero] at a0
          simp [hg, left, hl] at h
          subst h
          refine ⟨?_, by simp [three], by simp [three], ?_, by simp [three]⟩
          · intro b hb'
            simp [three] at hb'
            rcases hb' with rfl | rfl
            · exact b0
            · exact b1
          · intro _
            simp only [three, List.take, enc, a0, r0, r1, r2, d0, d1, d2]
        · simp [hg, left, hl] at h
    · rw [e] at h
      subst e3 e2
      by_cases hg : good 2 x0 x1 61 61 = false
      · simp [hg] at h
      · have hg' : pos x0 < 64 ∧ pos x1 < 64 := by
          simp [good, at_] at hg; omega
        obtain ⟨q0, q1⟩ := hg'
        have d0 := dig_of_pos q0
        have d1 := dig_of_pos q1
        have hb : bitsOf 2 x0 x1 61 61 = pos x0 * 262144 + pos x1 * 4096 := by simp [bitsOf, at_]
        rw [hb] at h
        generalize hv : pos x0 * 262144 + pos x1 * 4096 = v at h
        obtain ⟨r0, r1, rl⟩ := ar_digits2 v _ _ q0 q1 hv
        obtain ⟨b0, _, _⟩ := ar_bs v rl
        by_cases hl : v % 65536 = 0
        · have a0 : v / 65536 * 65536 = v := Nat.div_mul_cancel (Nat.dvd_of_mod_eq_zero hl)
          simp [hg, left, hl] at h
          subst h
          refine ⟨?_, by simp [three], by simp [three], ?_, by simp [three]⟩
          · intro b hb'
            simp [three] at hb'
            subst hb'
            exact b0
          · intro _
            simp only [three, List.take, enc, a0, r0, r1, d0, d1]
        · simp [hg, left, hl] at h

theorem dec_some : ∀ (t b : List Nat), dec t = some b → enc b = t ∧ IsB b
  | [], b, h => by simp [dec] at h; subst h; exact ⟨rfl, by intro x hx; simp at hx⟩
  | [_], b, h => by simp [dec] at h
  | [_, _], b, h => by simp [dec] at h
  | [_, _, _], b, h => by simp [dec] at h
  | x0 :: x1 :: x2 :: x3 :: r, b, h => by
    rw [dec] at h
    cases hg : grp x0 x1 x2 x3 with
    | none => simp [hg] at h
    | some g =>
      obtain ⟨gB, g1, g3, gl, ge⟩ := grp_enc x0 x1 x2 x3 g hg
      simp only [hg] at h
      by_cases hc : g.length < 3 ∧ r ≠ []
      · simp [hc] at h
      · rw [if_neg hc] at h
        cases hr : dec r with
        | none => simp [hr] at h
        | some d =>
          simp [hr] at h
          subst h
          obtain ⟨e1, e2⟩ := dec_some r d hr
          have hB : IsB (g ++ d) := by
            intro x hx
            rcases List.mem_append.1 hx with hx | hx
            · exact gB x hx
            · exact e2 x hx
          refine ⟨?_, hB⟩
          by_cases h3 : g.length < 3
          · have hr0 : r = [] := by
              by_cases hr0 : r = []
              · exact hr0
              · exact absurd ⟨h3, hr0⟩ hc
            subst hr0
            simp [dec] at hr
            subst hr
            simpa using gl h3
          · rw [ge (by omega) d, e1]

theorem dec_eq_some (t b : List Nat) (hb : IsB b) : dec t = some b ↔ enc b = t :=
  ⟨fun h => (dec_some t b h).1, fun h => h ▸ dec_enc b hb⟩

/-- The model's answer is the program's. -/
theorem raw_dec (t : List Nat) (ht : ∀ b, raw t = some b → IsB b) : (match raw t with | some b => if enc b = t then some b else none | none => none) = dec t := by
  cases hd : dec t with
  | some b =>
    obtain ⟨e, hb⟩ := dec_some t b hd
    have : raw t = some b := by rw [← e]; exact raw_enc b hb
    simp [this, e]
  | none =>
    cases hr : raw t with
    | none => rfl
    | some b =>
      by_cases e : enc b = t
      · have := dec_enc b (ht b hr)
        rw [e, hd] at this
        cases this
      · simp [e]
end Xf
end Go.Proofs.YtfbjodbihenmjaaGreatDoor
