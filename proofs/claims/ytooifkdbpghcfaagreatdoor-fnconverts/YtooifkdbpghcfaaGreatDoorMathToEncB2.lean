/- Plain facts on lists of bytes, with no program in them: the text of some bytes in base digits is read back from it and from no other text, and so is the quoted text, which is plain; no conditions · Plain facts on groups of four base letters, with no program in them; letters are bytes · The digit of each number from 0 to 63, as the program's table and the model's text have it: the two are one; the number is 0 to 63 · EncodeBase, the program's: of at most 400 bytes it answers their base text, of more the code 2 · EncodeBase, the program's: of at most 400 bytes it answers their base text. -/
import Derived.Test.YtooifkdbpghcfaaGreatDoorMemToApp
import Derived.Test.YtooifkdbpghcfaaGreatDoorByeToHdr
import Derived.Handy
import Derived.Deep.RegionHeld3
import Derived.WalkLawsBesides
import Derived.Laws.BitsAllLaws
namespace Go.Proofs.YtooifkdbpghcfaaGreatDoor
namespace Xf

/-- The 64 digits, as numbers. -/
def digs : List Nat := [65, 66, 67, 68, 69, 70, 71, 72, 73, 74, 75, 76, 77, 78, 79, 80, 81, 82, 83, 84, 85, 86, 87, 88, 89, 90, 97, 98, 99, 100, 101, 102, 103, 104, 105, 106, 107, 108, 109, 110, 111, 112, 113, 114, 115, 116, 117, 118, 119, 120, 121, 122, 48, 49, 50, 51, 52, 53, 54, 55, 56, 57, 43, 47]
def dig (v : Nat) : Nat := digs.getD v 0
def pos (c : Nat) : Nat := digs.findIdx (fun x => x == c)

theorem digs_len : digs.length = 64 := by decide
theorem dig_lt (v : Nat) : dig v < 128 := by
  by_cases h : v < 64
  · have : ∀ v, v < 64 → dig v < 128 := by decide
    exact this v h
  · unfold dig; rw [List.getD_eq_getElem?_getD, List.getElem?_eq_none (by rw [digs_len]; omega)]; decide
theorem dig_pos {v : Nat} (h : v < 64) : 1 ≤ dig v := by
  have : ∀ v, v < 64 → 1 ≤ dig v := by decide
  exact this v h
theorem dig_ne {v : Nat} (h : v < 64) : dig v ≠ 61 := by
  have : ∀ v, v < 64 → dig v ≠ 61 := by decide
  exact this v h
theorem pos_dig {v : Nat} (h : v < 64) : pos (dig v) = v := by
  have : ∀ v, v < 64 → pos (dig v) = v := by decide
  exact this v h
theorem dig_of_pos {c : Nat} (h : pos c < 64) : dig (pos c) = c := by
  have h' : pos c < digs.length := by rw [digs_len]; exact h
  have := List.findIdx_getElem (p := fun x => x == c) (xs := digs) (w := h')
  have e : digs[pos c] = c := eq_of_beq this
  unfold dig
  rw [List.getD_eq_getElem?_getD, List.getElem?_eq_getElem h']
  exact e
theorem pos_le (c : Nat) : pos c ≤ 64 := by
  have := List.findIdx_le_length (p := fun x => x == c) (xs := digs)
  rw [digs_len] at this; exact this
/-- Up to the place of a digit a loop finds it nowhere, and there it finds it. -/
theorem dig_eq_iff {c v : Nat} (h : v < 64) (_hle : v ≤ pos c) : dig v = c ↔ v = pos c := by
  constructor
  · intro e; rw [← e, pos_dig h]
  · intro e; rw [e]; exact dig_of_pos (by omega)

/- Arithmetic of four digits and three bytes. -/
theorem ar_split (v : Nat) : v / 262144 * 262144 + v / 4096 % 64 * 4096 + v / 64 % 64 * 64 + v % 64 = v := by omega
theorem ar_bytes (v : Nat) : v / 65536 * 65536 + v / 256 % 256 * 256 + v % 256 = v := by omega
theorem ar_digits (v p0 p1 p2 p3 : Nat) (h1 : p1 < 64) (h2 : p2 < 64) (h3 : p3 < 64) (hv : p0 * 262144 + p1 * 4096 + p2 * 64 + p3 = v) :
    v / 262144 = p0 ∧ v / 4096 % 64 = p1 ∧ v / 64 % 64 = p2 ∧ v % 64 = p3 := by omega
theorem ar_lt (v p0 p1 p2 p3 : Nat) (h0 : p0 < 64) (h1 : p1 < 64) (h2 : p2 < 64) (h3 : p3 < 64) (hv : p0 * 262144 + p1 * 4096 + p2 * 64 + p3 = v) : v < 16777216 := by omega
theorem ar_bs (v : Nat) (h : v < 16777216) : v / 65536 < 256 ∧ v / 256 % 256 < 256 ∧ v % 256 < 256 := by omega
theorem ar_one (a : Nat) : a * 65536 / 262144 * 262144 + a * 65536 / 4096 % 64 * 4096 + 0 * 64 + 0 = a * 65536 := by omega
theorem ar_two' (a b v : Nat) (hv : a * 65536 + b * 256 = v) : v / 262144 * 262144 + v / 4096 % 64 * 4096 + v / 64 % 64 * 64 + 0 = v := by
  have h1 := ar_split v
  have h2 : v % 64 = 0 := by omega
  rw [h2] at h1
  exact h1
theorem ar_digits3 (v p0 p1 p2 : Nat) (h0 : p0 < 64) (h1 : p1 < 64) (h2 : p2 < 64) (hv : p0 * 262144 + p1 * 4096 + p2 * 64 = v) :
    v / 262144 = p0 ∧ v / 4096 % 64 = p1 ∧ v / 64 % 64 = p2 ∧ v < 16777216 := by omega
theorem ar_digits2 (v p0 p1 : Nat) (h0 : p0 < 64) (h1 : p1 < 64) (hv : p0 * 262144 + p1 * 4096 = v) :
    v / 262144 = p0 ∧ v / 4096 % 64 = p1 ∧ v < 16777216 := by omega

/-- The base text of some bytes. -/
def enc : List Nat → List Nat
  | [] => []
  | [a] => [dig (a * 65536 / 262144), dig (a * 65536 / 4096 % 64), 61, 61]
  | [a, b] => [dig ((a * 65536 + b * 256) / 262144), dig ((a * 65536 + b * 256) / 4096 % 64), dig ((a * 65536 + b * 256) / 64 % 64), 61]
  | a :: b :: c :: r => dig ((a * 65536 + b * 256 + c) / 262144) :: dig ((a * 65536 + b * 256 + c) / 4096 % 64) :: dig ((a * 65536 + b * 256 + c) / 64 % 64) :: dig ((a * 65536 + b * 256 + c) % 64) :: enc r

theorem enc_len : ∀ l : List Nat, (enc l).length = (l.length + 2) / 3 * 4
  | [] => rfl
  | [_] => by simp [enc]
  | [_, _] => by simp [enc]
  | a :: b :: c :: r => by
    have := enc_len r
    simp only [enc, List.length_cons, this]
    omega


theorem enc_plain : ∀ l : List Nat, IsB l → ∀ x ∈ enc l, 1 ≤ x ∧ x < 128
  | [], _ => by simp [enc]
  | [a], h => by
    have ha := h a (by simp)
    intro x hx
    simp only [enc, List.mem_cons, List.not_mem_nil, or_false] at hx
    rcases hx with rfl | rfl | rfl | rfl
    · exact ⟨dig_pos (by omega), dig_lt _⟩
    · exact ⟨dig_pos (by omega), dig_lt _⟩
    · omega
    · omega
  | [a, b], h => by
    have ha := h a (by simp)
    have hb := h b (by simp)
    intro x hx
    simp only [enc, List.mem_cons, List.not_mem_nil, or_false] at hx
    rcases hx with rfl | rfl | rfl | rfl
    · exact ⟨dig_pos (by omega), dig_lt _⟩
    · exact ⟨dig_pos (by omega), dig_lt _⟩
    · exact ⟨dig_pos (by omega), dig_lt _⟩
    · omega
  | a :: b :: c :: r, h => by
    have ha := h a (by simp)
    have hb := h b (by simp)
    have hc := h c (by simp)
    intro x hx
    simp only [enc, List.mem_cons] at hx
    rcases hx with rfl | rfl | rfl | rfl | hx
    · exact ⟨dig_pos (by omega), dig_lt _⟩
    · exact ⟨dig_pos (by omega), dig_lt _⟩
    · exact ⟨dig_pos (by omega), dig_lt _⟩
    · exact ⟨dig_pos (by omega), dig_lt _⟩
    · exact enc_plain r (fun y hy => h y (by simp [hy])) x hx

/-- How many of four letters are told: behind the last ones there is fill. -/
def cnt (x0 x1 x2 x3 : Nat) : Nat := if x3 ≠ 61 then 4 else if x2 ≠ 61 then 3 else if x1 ≠ 61 then 2 else if x0 ≠ 61 then 1 else 0
/-- The value of a letter at a place of a group of which n are told. -/
def at_ (n k x : Nat) : Nat := if k < n then pos x else 0
def bitsOf (n x0 x1 x2 x3 : Nat) : Nat := at_ n 0 x0 * 262144 + at_ n 1 x1 * 4096 + at_ n 2 x2 * 64 + at_ n 3 x3
def good (n x0 x1 x2 x3 : Nat) : Bool := decide (at_ n 0 x0 < 64) && decide (at_ n 1 x1 < 64) && decide (at_ n 2 x2 < 64) && decide (at_ n 3 x3 < 64)
def three (v m : Nat) : List Nat := [v / 65536, v / 256 % 256, v % 256].take m
/-- What lies behind the bytes that are told. -/
def left (v m : Nat) : Nat := if m = 1 then v % 65536 else if m = 2 then v % 256 else 0

/-- A group as the program reads it: none, or the bytes. -/
def grpN (n x0 x1 x2 x3 : Nat) : Option (List Nat) :=
  if n < 2 then none else if good n x0 x1 x2 x3 = false then none
  else if left (bitsOf n x0 x1 x2 x3) (n - 1) ≠ 0 then none else some (three (bitsOf n x0 x1 x2 x3) (n - 1))
def grp (x0 x1 x2 x3 : Nat) : Option (List Nat) := grpN (cnt x0 x1 x2 x3) x0 x1 x2 x3

/-- A text as the program reads it. -/
def dec : List Nat → Option (List Nat)
  | [] => some []
  | x0 :: x1 :: x2 :: x3 :: r => match grp x0 x1 x2 x3 with
    | none => none
    | some g => if g.length < 3 ∧ r ≠ [] then none else (dec r).map (g ++ ·)
  | _ => none

/-- How many of four letters the model takes as told. -/
def cntS (last : Bool) (x2 x3 : Nat) : Nat := if last = true ∧ x3 = 61 then (if x2 = 61 then 2 else 3) else 4
/-- A text as the model reads it, ahead of its last look. -/
def raw : List Nat → Option (List Nat)
  | [] => some []
  | x0 :: x1 :: x2 :: x3 :: r =>
    if good (cntS r.isEmpty x2 x3) x0 x1 x2 x3 = false then none
    else (raw r).map (three (bitsOf (cntS r.isEmpty x2 x3) x0 x1 x2 x3) (cntS r.isEmpty x2 x3 - 1) ++ ·)
  | _ => none

theorem dec_enc : ∀ l : List Nat, IsB l → dec (enc l) = some l
  | [], _ => rfl
  | [a], h => by
    have ha := h a (by simp)
    have n1 := dig_ne (v := a * 65536 / 4096 % 64) (by omega)
    have p0 := pos_dig (v := a * 65536 / 262144) (by omega)
    have p1 := pos_dig (v := a * 65536 / 4096 % 64) (by omega)
    have hc : cnt (dig (a * 65536 / 262144)) (dig (a * 65536 / 4096 % 64)) 61 61 = 2 := by simp [cnt, n1]
    have hb : bitsOf 2 (dig (a * 65536 / 262144)) (dig (a * 65536 / 4096 % 64)) 61 61 = a * 65536 := by simp only [bitsOf, at_, p0, p1, Nat.reduceLT, ↓reduceIte]; exact ar_one a
    have hg : good 2 (dig (a * 65536 / 262144)) (dig (a * 65536 / 4096 % 64)) 61 61 = true := by simp [good, at_, p0, p1]; omega
    have hl : left (a * 65536) 1 = 0 := by simp [left]
    have ht : three (a * 65536) 1 = [a] := by simp [three]
    simp only [enc, dec, grp, grpN, hc, hb, hg, hl, ht]
    simp
  | [a, b], h => by
    have ha := h a (by simp)
    have hb' := h b (by simp)
    generalize hv : a * 65536 + b * 256 = v
    have hvl : v < 16777216 := by omega
    have n1 := dig_ne (v := v / 64 % 64) (by omega)
    have p0 := pos_dig (v := v / 262144) (by omega)
    have p1 := pos_dig (v := v / 4096 % 64) (by omega)
    have p2 := pos_dig (v := v / 64 % 64) (by omega)
    have hc : cnt (dig (v / 262144)) (dig (v / 4096 % 64)) (dig (v / 64 % 64)) 61 = 3 := by simp [cnt, n1]
    have hb : bitsOf 3 (dig (v / 262144)) (dig (v / 4096 % 64)) (dig (v / 64 % 64)) 61 = v := by simp only [bitsOf, at_, p0, p1, p2, Nat.reduceLT, ↓reduceIte]; exact ar_two' a b v hv
    have hg : good 3 (dig (v / 262144)) (dig (v / 4096 % 64)) (dig (v / 64 % 64)) 61 = true := by simp [good, at_, p0, p1, p2]; omega
    have hl : left v 2 = 0 := by simp [left]; omega
    have ht : three v 2 = [a, b] := by simp [three]; omega
    simp only [enc, hv, dec, grp, grpN, hc, hb, hg, hl, ht]
    simp
  | a :: b :: c :: r, h => by
    have ha := h a (by simp)
    have hb' := h b (by simp)
    have hc' := h c (by simp)
    have ih := dec_enc r (fun y hy => h y (by simp [hy]))
    generalize hv : a * 65536 + b * 256 + c = v
    have hvl : v < 16777216 := by omega
    have n3 := dig_ne (v := v % 64) (by omega)
    have p0 := pos_dig (v := v / 262144) (by omega)
    have p1 := pos_dig (v := v / 4096 % 64) (by omega)
    have p2 := pos_dig (v := v / 64 % 64) (by omega)
    have p3 := pos_dig (v := v % 64) (by omega)
    have hc : cnt (dig (v / 262144)) (dig (v / 4096 % 64)) (dig (v / 64 % 64)) (dig (v % 64)) = 4 := by simp [cnt, n3]
    have hb : bitsOf 4 (dig (v / 262144)) (dig (v / 4096 % 64)) (dig (v / 64 % 64)) (dig (v % 64)) = v := by simp only [bitsOf, at_, p0, p1, p2, p3, Nat.reduceLT, ↓reduceIte]; exact ar_split v
    have hg : good 4 (dig (v / 262144)) (dig (v / 4096 % 64)) (dig (v / 64 % 64)) (dig (v % 64)) = true := by simp [good, at_, p0, p1, p2, p3]; omega
    have hl : left v 3 = 0 := by simp [left]
    have ht : three v 3 = [a, b, c] := by simp [three]; omega
    simp only [enc, hv, dec, grp, grpN, hc, hb, hg, hl, ht, ih]
    simp

theorem raw_enc : ∀ l : List Nat, IsB l → raw (enc l) = some l
  | [], _ => rfl
  | [a], h => by
    have ha := h a (by simp)
    have p0 := pos_dig (v := a * 65536 / 262144) (by omega)
    have p1 := pos_dig (v := a * 65536 / 4096 % 64) (by omega)
    have hb : bitsOf 2 (dig (a * 65536 / 262144)) (dig (a * 65536 / 4096 % 64)) 61 61 = a * 65536 := by simp only [bitsOf, at_, p0, p1, Nat.reduceLT, ↓reduceIte]; exact ar_one a
    have hg : good 2 (dig (a * 65536 / 262144)) (dig (a * 65536 / 4096 % 64)) 61 61 = true := by simp [good, at_, p0, p1]; omega
    have ht : three (a * 65536) 1 = [a] := by simp [three]
    have hc : cntS ([] : List Nat).isEmpty 61 61 = 2 := by simp [cntS]
    simp only [enc, raw, hc, hb, hg, ht]
    simp
  | [a, b], h => by
    have ha := h a (by simp)
    have hb' := h b (by simp)
    generalize hv : a * 65536 + b * 256 = v
    have hvl : v < 16777216 := by omega
    have n1 := dig_ne (v := v / 64 % 64) (by omega)
    have p0 := pos_dig (v := v / 262144) (by omega)
    have p1 := pos_dig (v := v / 4096 % 64) (by omega)
    have p2 := pos_dig (v := v / 64 % 64) (by omega)
    have hb : bitsOf 3 (dig (v / 262144)) (dig (v / 4096 % 64)) (dig (v / 64 % 64)) 61 = v := by simp only [bitsOf, at_, p0, p1, p2, Nat.reduceLT, ↓reduceIte]; exact ar_two' a b v hv
    have hg : good 3 (dig (v / 262144)) (dig (v / 4096 % 64)) (dig (v / 64 % 64)) 61 = true := by simp [good, at_, p0, p1, p2]; omega
    have ht : three v 2 = [a, b] := by simp [three]; omega
    have hc : cntS ([] : List Nat).isEmpty (dig (v / 64 % 64)) 61 = 3 := by simp [cntS, n1]
    simp only [enc, hv, raw, hc, hb, hg, ht]
    simp
  | a :: b :: c :: r, h => by
    have ha := h a (by simp)
    have hb' := h b (by simp)
    have hc' := h c (by simp)
    have ih := raw_enc r (fun y hy => h y (by simp [hy]))
    generalize hv : a * 65536 + b * 256 + c = v
    have hvl : v < 16777216 := by omega
    have n3 := dig_ne (v := v % 64) (by omega)
    have p0 := pos_dig (v := v / 262144) (by omega)
    have p1 := pos_dig (v := v / 4096 % 64) (by omega)
    have p2 := pos_dig (v := v / 64 % 64) (by omega)
    have p3 := pos_dig (v := v % 64) (by omega)
    have hb : bitsOf 4 (dig (v / 262144)) (dig (v / 4096 % 64)) (dig (v / 64 % 64)) (dig (v % 64)) = v := by simp only [bitsOf, at_, p0, p1, p2, p3, Nat.reduceLT, ↓reduceIte]; exact ar_split v
    have hg : good 4 (dig (v / 262144)) (dig (v / 4096 % 64)) (dig (v / 64 % 64)) (dig (v % 64)) = true := by simp [good, at_, p0, p1, p2, p3]; omega
    have ht : three v 3 = [a, b, c] := by simp [three]; omega
    have hc : cntS (enc r).isEmpty (dig (v / 64 % 64)) (dig (v % 64)) = 4 := by simp [cntS, n3]
    simp only [enc, hv, raw, hc, hb, hg, ht, ih]
    simp

theorem cnt_cases (x0 x1 x2 x3 : Nat) (h : ¬ cnt x0 x1 x2 x3 < 2) :
    (cnt x0 x1 x2 x3 = 4 ∧ x3 ≠ 61) ∨ (cnt x0 x1 x2 x3 = 3 ∧ x3 = 61 ∧ x2 ≠ 61) ∨ (cnt x0 x1 x2 x3 = 2 ∧ x3 = 61 ∧ x2 = 61 ∧ x1 ≠ 61) := by
  unfold cnt at h ⊢
  by_cases h3 : x3 = 61
  · by_cases h2 : x2 = 61
    · by_cases h1 : x1 = 61
      · by_cases h0 : x0 = 61 <;> simp [h3, h2, h1, h0] at h
      · simp [h3, h2, h1]
    · simp [h3, h2]
  · simp [h3]

/-- What is read of a group is told so again. -/
theorem grp_enc (x0 x1 x2 x3 : Nat) (g : List Nat) (h : grp x0 x1 x2 x3 = some g) :
    IsB g ∧ 1 ≤ g.length ∧ g.length ≤ 3 ∧ (g.length < 3 → enc g = [x0, x1, x2, x3]) ∧ (g.length = 3 → ∀ r, enc (g ++ r) = x0 :: x1 :: x2 :: x3 :: enc r) := by
  unfold grp grpN at h
  by_cases h2 : cnt x0 x1 x2 x3 < 2
  · simp [h2] at h
  · rcases cnt_cases x0 x1 x2 x3 h2 with ⟨e, _⟩ | ⟨e, e3, _⟩ | ⟨e, e3, e2, _⟩
    · rw [e] at h
      by_cases hg : good 4 x0 x1 x2 x3 = false
      · simp [hg] at h
      · have hg' : pos x0 < 64 ∧ pos x1 < 64 ∧ pos x2 < 64 ∧ pos x3 < 64 := by
          simp [good, at_] at hg; omega
        obtain ⟨q0, q1, q2, q3⟩ := hg'
        have d0 := dig_of_pos q0
        have d1 := dig_of_pos q1
        have d2 := dig_of_pos q2
        have d3 := dig_of_pos q3
        have hb : bitsOf 4 x0 x1 x2 x3 = pos x0 * 262144 + pos x1 * 4096 + pos x2 * 64 + pos x3 := by simp [bitsOf, at_]
        rw [hb] at h
        generalize hv : pos x0 * 262144 + pos x1 * 4096 + pos x2 * 64 + pos x3 = v at h
        obtain ⟨r0, r1, r2, r3⟩ := ar_digits v _ _ _ _ q1 q2 q3 hv
        obtain ⟨b0, b1, b2⟩ := ar_bs v (ar_lt v _ _ _ _ q0 q1 q2 q3 hv)
        simp [hg, left] at h
        subst h
        refine ⟨?_, by simp [three], by simp [three], by simp [three], ?_⟩
        · intro b hb'
          simp [three] at hb'
          rcases hb' with rfl | rfl | rfl
          · exact b0
          · exact b1
          · exact b2
        · intro _ r
          simp only [three, List.take, List.cons_append, List.nil_append, enc, ar_bytes v, r0, r1, r2, r3, d0, d1, d2, d3]
    · rw [e] at h
      subst e3
      by_cases hg : good 3 x0 x1 x2 61 = false
      · simp [hg] at h
      · have hg' : pos x0 < 64 ∧ pos x1 < 64 ∧ pos x2 < 64 := by
          simp [good, at_] at hg; omega
        obtain ⟨q0, q1, q2⟩ := hg'
        have d0 := dig_of_pos q0
        have d1 := dig_of_pos q1
        have d2 := dig_of_pos q2
        have hb : bitsOf 3 x0 x1 x2 61 = pos x0 * 262144 + pos x1 * 4096 + pos x2 * 64 := by simp [bitsOf, at_]
        rw [hb] at h
        generalize hv : pos x0 * 262144 + pos x1 * 4096 + pos x2 * 64 = v at h
        obtain ⟨r0, r1, r2, rl⟩ := ar_digits3 v _ _ _ q0 q1 q2 hv
        obtain ⟨b0, b1, _⟩ := ar_bs v rl
        by_cases hl : v % 256 = 0
        · have a0 := ar_bytes v
          rw [hl, Nat.add_zero] at a0
          simp [hg, left, hl] at h
          subst h
          refine ⟨?_, by simp [three], by simp [three], ?_, by simp [three]⟩
          · intro b hb'
            simp [three] at hb'
            rcases hb' with rfl | rfl
            · exact b0
            · exact b1
          · intro _
            simp only [three, List.take, enc, a0, r0, r1, r2, d0, d1, d2]
        · simp [hg, left, hl] at h
    · rw [e] at h
      subst e3 e2
      by_cases hg : good 2 x0 x1 61 61 = false
      · simp [hg] at h
      · have hg' : pos x0 < 64 ∧ pos x1 < 64 := by
          simp [good, at_] at hg; omega
        obtain ⟨q0, q1⟩ := hg'
        have d0 := dig_of_pos q0
        have d1 := dig_of_pos q1
        have hb : bitsOf 2 x0 x1 61 61 = pos x0 * 262144 + pos x1 * 4096 := by simp [bitsOf, at_]
        rw [hb] at h
        generalize hv : pos x0 * 262144 + pos x1 * 4096 = v at h
        obtain ⟨r0, r1, rl⟩ := ar_digits2 v _ _ q0 q1 hv
        obtain ⟨b0, _, _⟩ := ar_bs v rl
        by_cases hl : v % 65536 = 0
        · have a0 : v / 65536 * 65536 = v := Nat.div_mul_cancel (Nat.dvd_of_mod_eq_zero hl)
          simp [hg, left, hl] at h
          subst h
          refine ⟨?_, by simp [three], by simp [three], ?_, by simp [three]⟩
          · intro b hb'
            simp [three] at hb'
            subst hb'
            exact b0
          · intro _
            simp only [three, List.take, enc, a0, r0, r1, d0, d1]
        · simp [hg, left, hl] at h

theorem dec_some : ∀ (t b : List Nat), dec t = some b → enc b = t ∧ IsB b
  | [], b, h => by simp [dec] at h; subst h; exact ⟨rfl, by intro x hx; simp at hx⟩
  | [_], b, h => by simp [dec] at h
  | [_, _], b, h => by simp [dec] at h
  | [_, _, _], b, h => by simp [dec] at h
  | x0 :: x1 :: x2 :: x3 :: r, b, h => by
    rw [dec] at h
    cases hg : grp x0 x1 x2 x3 with
    | none => simp [hg] at h
    | some g =>
      obtain ⟨gB, g1, g3, gl, ge⟩ := grp_enc x0 x1 x2 x3 g hg
      simp only [hg] at h
      by_cases hc : g.length < 3 ∧ r ≠ []
      · simp [hc] at h
      · rw [if_neg hc] at h
        cases hr : dec r with
        | none => simp [hr] at h
        | some d =>
          simp [hr] at h
          subst h
          obtain ⟨e1, e2⟩ := dec_some r d hr
          have hB : IsB (g ++ d) := by
            intro x hx
            rcases List.mem_append.1 hx with hx | hx
            · exact gB x hx
            · exact e2 x hx
          refine ⟨?_, hB⟩
          by_cases h3 : g.length < 3
          · have hr0 : r = [] := by
              by_cases hr0 : r = []
              · exact hr0
              · exact absurd ⟨h3, hr0⟩ hc
            subst hr0
            simp [dec] at hr
            subst hr
            simpa using gl h3
          · rw [ge (by omega) d, e1]

/-- The model's answer is the program's. -/
theorem raw_dec (t : List Nat) (ht : ∀ b, raw t = some b → IsB b) : (match raw t with | some b => if enc b = t then some b else none | none => none) = dec t := by
  cases hd : dec t with
  | some b =>
    obtain ⟨e, hb⟩ := dec_some t b hd
    have : raw t = some b := by rw [← e]; exact raw_enc b hb
    simp [this, e]
  | none =>
    cases hr : raw t with
    | none => rfl
    | some b =>
      by_cases e : enc b = t
      · have := dec_enc b (ht b hr)
        rw [e, hd] at this
        cases this
      · simp [e]
end Xf
end Go.Proofs.YtooifkdbpghcfaaGreatDoor

namespace Go.Proofs.YtooifkdbpghcfaaGreatDoor
namespace Xf

/-- The bits of the first k letters of a group of which n are told. -/
def acc (n : Nat) (g : List Nat) : Nat → Nat
  | 0 => 0
  | k + 1 => acc n g k * 64 + at_ n k (nth g k)
/-- The first k letters are digits, or are not told. -/
def okTo (n : Nat) (g : List Nat) (k : Nat) : Prop := ∀ i, i < k → at_ n i (nth g i) < 64
theorem acc_lt {n : Nat} {g : List Nat} : ∀ {k : Nat}, okTo n g k → acc n g k < 64 ^ k
  | 0, _ => by simp [acc]
  | k + 1, h => by
    have ih := acc_lt (k := k) (fun i hi => h i (by omega))
    have h1 := h k (by omega)
    rw [acc, Nat.pow_succ]
    omega
theorem acc_lt4 {n : Nat} {g : List Nat} {k : Nat} (hk : k ≤ 4) (h : okTo n g k) : acc n g k < 16777216 := by
  have h1 := acc_lt h
  have h2 : (64 : Nat) ^ k ≤ 64 ^ 4 := Nat.pow_le_pow_right (by decide) hk
  have h3 : (64 : Nat) ^ 4 = 16777216 := by decide
  omega
theorem acc_lt3 {n : Nat} {g : List Nat} {k : Nat} (hk : k < 4) (h : okTo n g k) : acc n g k < 262144 := by
  have h1 := acc_lt h
  have h2 : (64 : Nat) ^ k ≤ 64 ^ 3 := Nat.pow_le_pow_right (by decide) (by omega)
  have h3 : (64 : Nat) ^ 3 = 262144 := by decide
  omega
theorem acc_four (n x0 x1 x2 x3 : Nat) : acc n [x0, x1, x2, x3] 4 = bitsOf n x0 x1 x2 x3 := by
  simp only [acc, bitsOf, nth, List.getD_cons_zero, List.getD_cons_succ]
  generalize at_ n 0 x0 = p0
  generalize at_ n 1 x1 = p1
  generalize at_ n 2 x2 = p2
  generalize at_ n 3 x3 = p3
  omega
theorem good_iff (n x0 x1 x2 x3 : Nat) : good n x0 x1 x2 x3 = true ↔ okTo n [x0, x1, x2, x3] 4 := by
  constructor
  · intro h i hi
    simp only [good, Bool.and_eq_true, decide_eq_true_eq] at h
    match i, hi with
    | 0, _ => simpa [nth] using h.1.1.1
    | 1, _ => simpa [nth] using h.1.1.2
    | 2, _ => simpa [nth] using h.1.2
    | 3, _ => simpa [nth] using h.2
  · intro h
    have h0 := h 0 (by decide)
    have h1 := h 1 (by decide)
    have h2 := h 2 (by decide)
    have h3 := h 3 (by decide)
    simp only [good, Bool.and_eq_true, decide_eq_true_eq]
    simp only [nth, List.getD_cons_zero, List.getD_cons_succ] at h0 h1 h2 h3
    exact ⟨⟨⟨h0, h1⟩, h2⟩, h3⟩
theorem good_bad {n x0 x1 x2 x3 i : Nat} (hi : i < 4) (h : ¬ at_ n i (nth [x0, x1, x2, x3] i) < 64) : good n x0 x1 x2 x3 = false := by
  cases hg : good n x0 x1 x2 x3 with
  | false => rfl
  | true => exact absurd ((good_iff n x0 x1 x2 x3).1 hg i hi) h

/-- Where the fill begins. -/
theorem cnt_spec (x0 x1 x2 x3 : Nat) : cnt x0 x1 x2 x3 ≤ 4 ∧ (∀ i, cnt x0 x1 x2 x3 ≤ i → i < 4 → nth [x0, x1, x2, x3] i = 61) ∧ (0 < cnt x0 x1 x2 x3 → nth [x0, x1, x2, x3] (cnt x0 x1 x2 x3 - 1) ≠ 61) := by
  unfold cnt
  by_cases h3 : x3 = 61
  · by_cases h2 : x2 = 61
    · by_cases h1 : x1 = 61
      · by_cases h0 : x0 = 61
        · subst h0 h1 h2 h3
          refine ⟨by decide, fun i _ hi => ?_, by decide⟩
          match i, hi with
          | 0, _ => rfl
          | 1, _ => rfl
          | 2, _ => rfl
          | 3, _ => rfl
        · subst h1 h2 h3
          simp only [ne_eq, not_true, if_false, h0, not_false_eq_true, if_true]
          refine ⟨by decide, fun i h hi => ?_, fun _ => by simpa [nth] using h0⟩
          match i, h, hi with
          | 1, _, _ => rfl
          | 2, _, _ => rfl
          | 3, _, _ => rfl
      · subst h2 h3
        simp only [ne_eq, not_true, if_false, h1, not_false_eq_true, if_true]
        refine ⟨by decide, fun i h hi => ?_, fun _ => by simpa [nth] using h1⟩
        match i, h, hi with
        | 2, _, _ => rfl
        | 3, _, _ => rfl
    · subst h3
      simp only [ne_eq, not_true, if_false, h2, not_false_eq_true, if_true]
      refine ⟨by decide, fun i h hi => ?_, fun _ => by simpa [nth] using h2⟩
      match i, h, hi with
      | 3, _, _ => rfl
  · simp only [ne_eq, h3, not_false_eq_true, if_true]
    exact ⟨by decide, fun i h hi => by omega, fun _ => by simpa [nth] using h3⟩

/-- The first c bytes of 24 bits, as the program takes them off. -/
def bts : Nat → Nat → List Nat
  | _, 0 => []
  | b, c + 1 => b / 65536 % 256 :: bts (b * 256 % 4294967296) c
theorem bts_len : ∀ (b c : Nat), (bts b c).length = c
  | _, 0 => rfl
  | b, c + 1 => by rw [bts, List.length_cons, bts_len]
theorem bs1 (b : Nat) (_h : b < 16777216) : b * 256 % 4294967296 / 65536 % 256 = b / 256 % 256 := by omega
theorem bs2 (b : Nat) (_h : b < 16777216) : b * 256 % 4294967296 * 256 % 4294967296 / 65536 % 256 = b % 256 := by omega
theorem bs0 (b : Nat) (_h : b < 16777216) : b / 65536 % 256 = b / 65536 := by omega
theorem bts_three (b c : Nat) (h : b < 16777216) (hc : c ≤ 3) : bts b c = three b c := by
  rcases (show c = 0 ∨ c = 1 ∨ c = 2 ∨ c = 3 by omega) with rfl | rfl | rfl | rfl
  · simp [bts, three]
  · simp only [bts, three, bs0 b h]; rfl
  · simp only [bts, three, bs0 b h, bs1 b h]; rfl
  · simp only [bts, three, bs0 b h, bs1 b h, bs2 b h]; rfl
theorem three_len (v m : Nat) (h : m ≤ 3) : (three v m).length = m := by simp [three]; omega

/-- What is left of the bits behind the bytes that are told, by a shift. -/
theorem left_shift (b n : Nat) (_hb : b < 16777216) (h2 : 2 ≤ n) (h4 : n ≤ 4) : b * 2 ^ min (8 + 8 * (n - 1)) 32 % 4294967296 = 0 ↔ left b (n - 1) = 0 := by
  rcases (show n = 2 ∨ n = 3 ∨ n = 4 by omega) with rfl | rfl | rfl
  · have : min (8 + 8 * (2 - 1)) 32 = 16 := by decide
    rw [this]; simp [left]; omega
  · have : min (8 + 8 * (3 - 1)) 32 = 24 := by decide
    rw [this]; simp [left]; omega
  · have : min (8 + 8 * (4 - 1)) 32 = 32 := by decide
    rw [this]; simp [left]

theorem dec_group {t : List Nat} {x0 x1 x2 x3 : Nat} {r : List Nat} (ht : t = x0 :: x1 :: x2 :: x3 :: r) : dec t = match grp x0 x1 x2 x3 with
    | none => none
    | some g => if g.length < 3 ∧ r ≠ [] then none else (dec r).map (g ++ ·) := by subst ht; rfl
theorem dec_odd : ∀ t : List Nat, t.length % 4 ≠ 0 → dec t = none
  | [], h => by simp at h
  | [_], _ => rfl
  | [_, _], _ => rfl
  | [_, _, _], _ => rfl
  | x0 :: x1 :: x2 :: x3 :: r, h => by
    have ih := dec_odd r (by simp at h; omega)
    rw [dec]
    cases grp x0 x1 x2 x3 with
    | none => rfl
    | some g => simp only; split <;> simp [ih]
/-- Four letters of a text, and the rest. -/
theorem drop_four (t : List Nat) (i : Nat) (h : i + 4 ≤ t.length) : t.drop i = nth t i :: nth t (i + 1) :: nth t (i + 2) :: nth t (i + 3) :: t.drop (i + 4) := by
  rw [drop_cons t i (by omega), drop_cons t (i + 1) (by omega), drop_cons t (i + 1 + 1) (by omega), drop_cons t (i + 1 + 1 + 1) (by omega)]
theorem take_four (t : List Nat) (i : Nat) (h : i + 4 ≤ t.length) : (t.drop i).take 4 = [nth t i, nth t (i + 1), nth t (i + 2), nth t (i + 3)] := by
  rw [drop_four t i h]; rfl
end Xf
end Go.Proofs.YtooifkdbpghcfaaGreatDoor

namespace Go.Proofs.YtooifkdbpghcfaaGreatDoor
open Go.RowKit

theorem ret_intD {k : IntKind} {a b : Int} (h : a = b) : Ending.returned (.int k a) = .returned (.int k b) := by rw [h]
theorem base_text (k : Nat) (h : k < 64) : ((⟨#[65, 66, 67, 68, 69, 70, 71, 72, 73, 74, 75, 76, 77, 78, 79, 80, 81, 82, 83, 84, 85, 86, 87, 88, 89, 90, 97, 98, 99, 100, 101, 102, 103, 104, 105, 106, 107, 108, 109, 110, 111, 112, 113, 114, 115, 116, 117, 118, 119, 120, 121, 122, 48, 49, 50, 51, 52, 53, 54, 55, 56, 57, 43, 47]⟩ : ByteArray)[k]'h).toNat = Xf.dig k := by
  have : ∀ k (h : k < 64), ((⟨#[65, 66, 67, 68, 69, 70, 71, 72, 73, 74, 75, 76, 77, 78, 79, 80, 81, 82, 83, 84, 85, 86, 87, 88, 89, 90, 97, 98, 99, 100, 101, 102, 103, 104, 105, 106, 107, 108, 109, 110, 111, 112, 113, 114, 115, 116, 117, 118, 119, 120, 121, 122, 48, 49, 50, 51, 52, 53, 54, 55, 56, 57, 43, 47]⟩ : ByteArray)[k]'h).toNat = Xf.dig k := by decide +kernel
  exact this k h

/-- The table as the row lists it. -/
def tabI : List Int := [65, 66, 67, 68, 69, 70, 71, 72, 73, 74, 75, 76, 77, 78, 79, 80, 81, 82, 83, 84, 85, 86, 87, 88, 89, 90, 97, 98, 99, 100, 101, 102, 103, 104, 105, 106, 107, 108, 109, 110, 111, 112, 113, 114, 115, 116, 117, 118, 119, 120, 121, 122, 48, 49, 50, 51, 52, 53, 54, 55, 56, 57, 43, 47]
theorem tabI_len : tabI.length = 64 := by decide
theorem tabI_get (v : Nat) (h : v < 64) : tabI.getD v 0 = (Xf.dig v : Int) := by
  have : ∀ v, v < 64 → tabI.getD v 0 = (Xf.dig v : Int) := by decide +kernel
  exact this v h
/-- THE TABLE OF DIGITS LIES IN ITS VARIABLE. -/
def TabB (w : World) : Prop := ∀ v, v < 64 → w.cell? ⟨0, v, none⟩ = some (.int .u8 (Xf.dig v : Int))
theorem TabB.below {w w' : World} (h : TabB w) (hb : Below w.heap.size w w') : TabB w' := fun v hv =>
  (hb.cell (p := ⟨0, v, none⟩) (World.block_lt_of_cell? w ⟨0, 0, none⟩ (h 0 (by decide)))).trans (h v hv)

set_option maxHeartbeats 800000 in
set_option maxRecDepth 100000 in
theorem l1Base_any (k : Nat) (h : k < 64) (w : World) : Calls Tryz.prog 137 #[.int .i64 (k : Int)] w fun e w' => e = .returned (.int .u8 (Xf.dig k : Int)) ∧ w' = w := by
  have h' : (k : Int) < 64 := by omega
  go_enter Tryz.func137, Tryz.ntmps137
  go_wp2
  go_ret
  exact ⟨ret_intD (by rw [← base_text k h]), rfl⟩

end Go.Proofs.YtooifkdbpghcfaaGreatDoor

namespace Go.Proofs.YtooifkdbpghcfaaGreatDoor
open Go.RowKit

/-- The first c digits of 24 bits. -/
def dgs : Nat → Nat → List Nat
  | _, 0 => []
  | b, c + 1 => Xf.dig (b / 262144 % 64) :: dgs (b * 64 % 4294967296) c
theorem sh1 (b : Nat) (_h : b < 16777216) : b * 64 % 4294967296 / 262144 % 64 = b / 4096 % 64 := by omega
theorem sh2 (b : Nat) (_h : b < 16777216) : b * 64 % 4294967296 * 64 % 4294967296 / 262144 % 64 = b / 64 % 64 := by omega
theorem sh3 (b : Nat) (_h : b < 16777216) : b * 64 % 4294967296 * 64 % 4294967296 * 64 % 4294967296 / 262144 % 64 = b % 64 := by omega
theorem sh0 (b : Nat) (_h : b < 16777216) : b / 262144 % 64 = b / 262144 := by omega
theorem dgs_four (b : Nat) (h : b < 16777216) : dgs b 4 = [Xf.dig (b / 262144), Xf.dig (b / 4096 % 64), Xf.dig (b / 64 % 64), Xf.dig (b % 64)] := by
  simp only [dgs, sh0 b h, sh1 b h, sh2 b h, sh3 b h]
theorem dgs_three (b : Nat) (h : b < 16777216) : dgs b 3 = [Xf.dig (b / 262144), Xf.dig (b / 4096 % 64), Xf.dig (b / 64 % 64)] := by
  simp only [dgs, sh0 b h, sh1 b h, sh2 b h]
theorem dgs_two (b : Nat) (h : b < 16777216) : dgs b 2 = [Xf.dig (b / 262144), Xf.dig (b / 4096 % 64)] := by
  simp only [dgs, sh0 b h, sh1 b h]
/-- What is still to be told, three bytes a step. -/
theorem enc_step {l : List Nat} {i : Nat} (hB : IsB l) (h : i + 3 ≤ l.length) :
    Xf.enc (l.drop i) = dgs (nth l i * 65536 + nth l (i + 1) * 256 + nth l (i + 2)) 4 ++ Xf.enc (l.drop (i + 3)) := by
  have h0 := nth_lt hB i
  have h1 := nth_lt hB (i + 1)
  have h2 := nth_lt hB (i + 2)
  rw [drop_cons l i (by omega), drop_cons l (i + 1) (by omega), drop_cons l (i + 1 + 1) (by omega), Xf.enc, dgs_four _ (by omega)]
  rfl
theorem enc_one {l : List Nat} {i : Nat} (hB : IsB l) (h : i + 1 = l.length) : Xf.enc (l.drop i) = dgs (nth l i * 65536) 2 ++ [61, 61] := by
  have h0 := nth_lt hB i
  rw [drop_cons l i (by omega), List.drop_of_length_le (by omega), Xf.enc, dgs_two _ (by omega)]
  rfl
theorem enc_two {l : List Nat} {i : Nat} (hB : IsB l) (h : i + 2 = l.length) : Xf.enc (l.drop i) = dgs (nth l i * 65536 + nth l (i + 1) * 256) 3 ++ [61] := by
  have h0 := nth_lt hB i
  have h1 := nth_lt hB (i + 1)
  rw [drop_cons l i (by omega), drop_cons l (i + 1) (by omega), List.drop_of_length_le (by omega), Xf.enc, dgs_three _ (by omega)]
  rfl

end Go.Proofs.YtooifkdbpghcfaaGreatDoor

namespace Go.Proofs.YtooifkdbpghcfaaGreatDoor
open Go.RowKit

/-- How long a slice is. -/
def sliceLen : Value → Nat
  | .slice _ m _ => m
  | _ => 0

end Go.Proofs.YtooifkdbpghcfaaGreatDoor
