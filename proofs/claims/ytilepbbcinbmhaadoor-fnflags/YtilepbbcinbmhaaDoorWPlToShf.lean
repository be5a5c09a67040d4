/- Told words: plain functions, with no program in them · Contracts of the library, laid over this program: each is one application of a theorem of the library; no conditions beyond those that each names. -/
import Derived.Test.YtilepbbcinbmhaaDoorAppFToWrd
import Derived.Test.YtilepbbcinbmhaaDoorQMath
import Derived.Shelf.Strings.Builder1
import Derived.Shelf.Strings.Builder2
import Derived.Shelf.Strings.OnBuilder
import Derived.Test.YtilepbbcinbmhaaDoorProg
namespace Go.Proofs.YtilepbbcinbmhaaDoor
open Go.RowKit

/-- The bytes that the letters of a told word with Q tell. -/
def ltV : List Nat → Option (List Nat)
  | [] => some []
  | c :: r => if c = 95 then (ltV r).map (32 :: ·) else if c < 33 ∨ 126 < c then none else if c ≠ 61 then (ltV r).map (c :: ·)
    else match r with
      | [] => none
      | a :: r1 => match r1 with
          | [] => none
          | b :: r2 => if Xq.unhex a < 16 ∧ Xq.unhex b < 16 then (ltV r2).map ((Xq.unhex a * 16 + Xq.unhex b) :: ·) else none
theorem ltV_us (r : List Nat) : ltV (95 :: r) = (ltV r).map (32 :: ·) := by rw [ltV.eq_def]; simp
theorem ltV_bad {c : Nat} {r : List Nat} (h : c < 33 ∨ 126 < c) : ltV (c :: r) = none := by
  rw [ltV.eq_def]
  have h1 : c ≠ 95 := by omega
  simp only [h1, h, if_true, if_false]
theorem ltV_self {c : Nat} {r : List Nat} (h : 33 ≤ c ∧ c ≤ 126) (h1 : c ≠ 95) (h2 : c ≠ 61) : ltV (c :: r) = (ltV r).map (c :: ·) := by
  rw [ltV.eq_def]
  have h3 : ¬ (c < 33 ∨ 126 < c) := by omega
  simp only [h1, h3, h2, ne_eq, not_false_eq_true, if_true, if_false]
theorem ltV_short {r : List Nat} (h : r.length < 2) : ltV (61 :: r) = none := by
  match r, h with
  | [], _ => rw [ltV.eq_def]; simp
  | [a], _ => rw [ltV.eq_def]; simp
theorem ltV_hex {a b : Nat} {r : List Nat} (h : Xq.unhex a < 16 ∧ Xq.unhex b < 16) : ltV (61 :: a :: b :: r) = (ltV r).map ((Xq.unhex a * 16 + Xq.unhex b) :: ·) := by
  rw [ltV.eq_def]; simp [h]
theorem ltV_nohex {a b : Nat} {r : List Nat} (h : ¬ (Xq.unhex a < 16 ∧ Xq.unhex b < 16)) : ltV (61 :: a :: b :: r) = none := by
  rw [ltV.eq_def]
  simp only [h, if_false]
  simp
/-- The same, at a place. -/
theorem ltV_at_us {t : List Nat} {k : Nat} (h : k < t.length) (hx : nth t k = 95) : ltV (t.drop k) = (ltV (t.drop (k + 1))).map (32 :: ·) := by
  rw [drop_cons t k h, hx, ltV_us]
theorem ltV_at_bad {t : List Nat} {k : Nat} (h : k < t.length) (hx : nth t k < 33 ∨ 126 < nth t k) : ltV (t.drop k) = none := by
  rw [drop_cons t k h, ltV_bad hx]
theorem ltV_at_self {t : List Nat} {k : Nat} (h : k < t.length) (h0 : 33 ≤ nth t k ∧ nth t k ≤ 126) (h1 : nth t k ≠ 95) (h2 : nth t k ≠ 61) : ltV (t.drop k) = (ltV (t.drop (k + 1))).map (nth t k :: ·) := by
  rw [drop_cons t k h, ltV_self h0 h1 h2]
theorem ltV_at_short {t : List Nat} {k : Nat} (h : k < t.length) (hx : nth t k = 61) (h2 : t.length ≤ k + 2) : ltV (t.drop k) = none := by
  rw [drop_cons t k h, hx, ltV_short (by rw [List.length_drop]; omega)]
theorem ltV_at_hex {t : List Nat} {k : Nat} (h : k + 2 < t.length) (hx : nth t k = 61) (h1 : Xq.unhex (nth t (k + 1)) < 16) (h2 : Xq.unhex (nth t (k + 2)) < 16) :
    ltV (t.drop k) = (ltV (t.drop (k + 3))).map ((Xq.unhex (nth t (k + 1)) * 16 + Xq.unhex (nth t (k + 2))) :: ·) := by
  rw [drop_cons t k (by omega), drop_cons t (k + 1) (by omega), drop_cons t (k + 1 + 1) (by omega), hx]
  exact ltV_hex ⟨h1, h2⟩
theorem ltV_at_nohex {t : List Nat} {k : Nat} (h : k + 2 < t.length) (hx : nth t k = 61) (h1 : ¬ (Xq.unhex (nth t (k + 1)) < 16 ∧ Xq.unhex (nth t (k + 2)) < 16)) : ltV (t.drop k) = none := by
  rw [drop_cons t k (by omega), drop_cons t (k + 1) (by omega), drop_cons t (k + 1 + 1) (by omega), hx]
  exact ltV_nohex h1
theorem omapN_app {o : Option (List Nat)} {a : List Nat} {c : Nat} : (o.map (c :: ·)).map (a ++ ·) = o.map ((a ++ [c]) ++ ·) := by cases o <;> simp

/-- A byte that is seen. -/
def seenB (c : Nat) : Bool := decide (33 ≤ c ∧ c ≤ 126)
/-- Blanks told as quoted bytes. -/
def repU (t : List Nat) : List Nat := t.flatMap fun c => if c = 95 then [61, 50, 48] else [c]
theorem repU_cons (c : Nat) (t : List Nat) : repU (c :: t) = (if c = 95 then [61, 50, 48] else [c]) ++ repU t := rfl
theorem self_seen {c : Nat} {r : List Nat} (h : 33 ≤ c ∧ c ≤ 126) (h2 : c ≠ 61) : Xq.self c r = true := by
  unfold Xq.self
  rw [if_neg (by omega), if_neg (by omega)]
  exact decide_eq_true ⟨h.1, h.2, h2⟩
theorem unhex_us : ¬ Xq.unhex 95 < 16 := by decide
theorem unhex_eq : ¬ Xq.unhex 61 < 16 := by decide
theorem unq_repU : ∀ (n : Nat) (t : List Nat), t.length ≤ n → t.all seenB = true → Xq.unq (repU t) = ltV t := by
  intro n
  induction n with
  | zero =>
    intro t h _
    have : t = [] := List.length_eq_zero_iff.1 (by omega)
    subst this; rfl
  | succ n ih =>
    intro t h ha
    match t, h, ha with
    | [], _, _ => rfl
    | c :: r, h, ha =>
      rw [List.all_cons, Bool.and_eq_true] at ha
      have hc := of_decide_eq_true ha.1
      have hr := ha.2
      rw [List.length_cons] at h
      rw [repU_cons]
      by_cases h95 : c = 95
      · subst h95
        rw [if_pos rfl, ltV_us]
        show Xq.unq (61 :: 50 :: 48 :: repU r) = _
        rw [Xq.unq_byte (by decide) (by decide), ih r (by omega) hr]
        rfl
      · rw [if_neg h95]
        show Xq.unq (c :: repU r) = _
        by_cases h61 : c = 61
        · subst h61
          match r, hr, h with
          | [], _, _ => rw [ltV_short (by simp)]; exact Xq.unq_short1
          | [a], hr, _ =>
            rw [ltV_short (by simp)]
            have ha := of_decide_eq_true (show seenB a = true by simpa using hr)
            rw [repU_cons]
            by_cases h9 : a = 95
            · rw [if_pos h9]
              show Xq.unq (61 :: 61 :: 50 :: 48 :: []) = _
              exact Xq.unq_bad (by decide) (by decide)
            · rw [if_neg h9]
              show Xq.unq [61, a] = _
              exact Xq.unq_short2 (by omega)
          | a :: b :: r, hr, h =>
            rw [List.all_cons, List.all_cons, Bool.and_eq_true, Bool.and_eq_true] at hr
            have ha := of_decide_eq_true hr.1
            have hb := of_decide_eq_true hr.2.1
            simp only [List.length_cons] at h
            rw [repU_cons]
            by_cases h9 : a = 95
            · subst h9
              rw [if_pos rfl, ltV_nohex (fun h => unhex_us h.1)]
              show Xq.unq (61 :: 61 :: 50 :: 48 :: repU (b :: r)) = _
              exact Xq.unq_bad (by decide) (fun h => unhex_eq h.1)
            · rw [if_neg h9, repU_cons]
              by_cases h8 : b = 95
              · subst h8
                rw [if_pos rfl, ltV_nohex (fun h => unhex_us h.2)]
                show Xq.unq (61 :: a :: 61 :: 50 :: 48 :: repU r) = _
                exact Xq.unq_bad (by omega) (fun h => unhex_eq h.2)
              · rw [if_neg h8]
                show Xq.unq (61 :: a :: b :: repU r) = _
                by_cases hx : Xq.unhex a < 16 ∧ Xq.unhex b < 16
                · rw [ltV_hex hx, Xq.unq_byte (by omega) hx, ih r (by omega) hr.2.2]
                · rw [ltV_nohex hx, Xq.unq_bad (by omega) hx]
        · rw [ltV_self hc h95 h61, Xq.unq_self (self_seen hc h61), ih r (by omega) hr]
theorem unhex_seen {c : Nat} (h : Xq.unhex c < 16) : seenB c = true := by
  refine decide_eq_true ?_
  unfold Xq.unhex at h
  split at h
  · omega
  · split at h <;> omega
theorem ltV_unseen : ∀ (n : Nat) (t : List Nat), t.length ≤ n → t.all seenB = false → ltV t = none := by
  intro n
  induction n with
  | zero =>
    intro t h ha
    have : t = [] := List.length_eq_zero_iff.1 (by omega)
    subst this; cases ha
  | succ n ih =>
    intro t h ha
    match t, h, ha with
    | [], _, ha => cases ha
    | c :: r, h, ha =>
      rw [List.length_cons] at h
      rw [List.all_cons] at ha
      by_cases hc : 33 ≤ c ∧ c ≤ 126
      · have hs : seenB c = true := decide_eq_true hc
        rw [hs, Bool.true_and] at ha
        by_cases h95 : c = 95
        · subst h95; rw [ltV_us, ih r (by omega) ha]; rfl
        · by_cases h61 : c = 61
          · subst h61
            match r, ha, h with
            | [], _, _ => exact ltV_short (by simp)
            | [a], _, _ => exact ltV_short (by simp)
            | a :: b :: r, ha, h =>
              by_cases hx : Xq.unhex a < 16 ∧ Xq.unhex b < 16
              · rw [List.all_cons, List.all_cons, unhex_seen hx.1, unhex_seen hx.2, Bool.true_and, Bool.true_and] at ha
                simp only [List.length_cons] at h
                rw [ltV_hex hx, ih r (by omega) ha]; rfl
              · exact ltV_nohex hx
          · rw [ltV_self hc h95 h61, ih r (by omega) ha]; rfl
      · exact ltV_bad (by omega)
theorem ltV_len : ∀ (n : Nat) (t : List Nat) (u : List Nat), t.length ≤ n → ltV t = some u → u.length ≤ t.length ∧ (IsB t → IsB u) := by
  intro n
  induction n with
  | zero =>
    intro t u h ha
    have : t = [] := List.length_eq_zero_iff.1 (by omega)
    subst this
    have : u = [] := by simpa [ltV] using ha.symm
    subst this; exact ⟨Nat.le_refl _, fun h => h⟩
  | succ n ih =>
    intro t u h ha
    have key : ∀ (x : Nat) (r u : List Nat), x < 256 → r.length ≤ n → (ltV r).map (x :: ·) = some u → u.length ≤ r.length + 1 ∧ (IsB r → IsB u) := by
      intro x r u hx hr hm
      cases e : ltV r with
      | none => rw [e] at hm; cases hm
      | some u' =>
        rw [e] at hm
        have hm' : x :: u' = u := by simpa using hm
        have := ih r u' hr e
        subst hm'
        refine ⟨by rw [List.length_cons]; omega, fun hB b hb => ?_⟩
        rcases List.mem_cons.1 hb with rfl | hb
        · exact hx
        · exact this.2 hB b hb
    match t, h, ha with
    | [], _, ha =>
      have : u = [] := by simpa [ltV] using ha.symm
      subst this; exact ⟨Nat.le_refl _, fun h => h⟩
    | c :: r, h, ha =>
      rw [List.length_cons] at h
      by_cases hc : 33 ≤ c ∧ c ≤ 126
      · by_cases h95 : c = 95
        · subst h95
          rw [ltV_us] at ha
          have := key 32 r u (by omega) (by omega) ha
          exact ⟨by rw [List.length_cons]; omega, fun hB => this.2 (fun b hb => hB b (List.mem_cons_of_mem _ hb))⟩
        · by_cases h61 : c = 61
          · subst h61
            match r, ha, h with
            | [], ha, _ => rw [ltV_short (by simp)] at ha; cases ha
            | [a], ha, _ => rw [ltV_short (by simp)] at ha; cases ha
            | a :: b :: r, ha, h =>
              simp only [List.length_cons] at h
              by_cases hx : Xq.unhex a < 16 ∧ Xq.unhex b < 16
              · rw [ltV_hex hx] at ha
                have := key _ r u (by omega) (by omega) ha
                exact ⟨by simp only [List.length_cons]; omega, fun hB => this.2 (fun b hb => hB b (by simp [hb]))⟩
              · rw [ltV_nohex hx] at ha; cases ha
          · rw [ltV_self hc h95 h61] at ha
            have := key c r u (by omega) (by omega) ha
            exact ⟨by rw [List.length_cons]; omega, fun hB => this.2 (fun b hb => hB b (List.mem_cons_of_mem _ hb))⟩
      · rw [ltV_bad (by omega)] at ha; cases ha
end Go.Proofs.YtilepbbcinbmhaaDoor

namespace Go.Proofs
open Go.Shelf
def Tryd.lays156_ren : Go.Shelf.Ren := ⟨fun | 156 => 56 | 165 => 72 | 166 => 73 | 169 => 74 | 240 => 77 | 241 => 78 | 276 => 84 | 277 => 85 | n => n, fun | 31 => 60 | 9 => 9 | 3 => 3 | 4 => 4 | 0 => 0 | 20 => 20 | 72 => 112 | 76 => 116 | 70 => 110 | 37 => 22 | 75 => 115 | 127 => 121 | 164 => 126 | 5 => 5 | 80 => 118 | n => n, fun | n => n⟩
theorem Tryd.lays156 : Go.Proofs.Lays.n156 Tryd.prog Tryd.lays156_ren := {
  mixed := by kernel_rfl
  f156 := Tryd.func56.trans (congrArg some (by kernel_rfl))
  f165 := Tryd.func72.trans (congrArg some (by kernel_rfl))
  f166 := Tryd.func73.trans (congrArg some (by kernel_rfl))
  f169 := Tryd.func74.trans (congrArg some (by kernel_rfl))
  f240 := Tryd.func77.trans (congrArg some (by kernel_rfl))
  f241 := Tryd.func78.trans (congrArg some (by kernel_rfl))
  f276 := Tryd.func84.trans (congrArg some (by kernel_rfl))
  f277 := Tryd.func85.trans (congrArg some (by kernel_rfl))
  t0 := Tryd.underlying0
  a0 := Tryd.isAgg0
  z0 := Tryd.sizeOf0
  v0 := Tryd.zeroValue0
  t3 := Tryd.underlying3
  a3 := Tryd.isAgg3
  z3 := Tryd.sizeOf3
  v3 := Tryd.zeroValue3
  t4 := Tryd.underlying4
  a4 := Tryd.isAgg4
  z4 := Tryd.sizeOf4
  v4 := Tryd.zeroValue4
  t9 := Tryd.underlying9
  a9 := Tryd.isAgg9
  z9 := Tryd.sizeOf9
  v9 := Tryd.zeroValue9
  t20 := Tryd.underlying20
  a20 := Tryd.isAgg20
  z20 := Tryd.sizeOf20
  v20 := Tryd.zeroValue20
  t31 := Tryd.underlying60
  a31 := Tryd.isAgg60
  z31 := Tryd.sizeOf60
  v31 := Tryd.zeroValue60
  t37 := Tryd.underlying22
  a37 := Tryd.isAgg22
  z37 := Tryd.sizeOf22
  v37 := Tryd.zeroValue22
  t70 := Tryd.underlying110
  a70 := Tryd.isAgg110
  z70 := Tryd.sizeOf110
  v70 := Tryd.zeroValue110
  t72 := Tryd.underlying112
  a72 := Tryd.isAgg112
  z72 := Tryd.sizeOf112
  v72 := Tryd.zeroValue112
  t75 := Tryd.underlying115
  a75 := Tryd.isAgg115
  z75 := Tryd.sizeOf115
  v75 := Tryd.zeroValue115
  t76 := Tryd.underlying116
  a76 := Tryd.isAgg116
  z76 := Tryd.sizeOf116
  v76 := Tryd.zeroValue116
  t127 := Tryd.underlying121
  a127 := Tryd.isAgg121
  z127 := Tryd.sizeOf121
  v127 := Tryd.zeroValue121
  t164 := Tryd.underlying126
  a164 := Tryd.isAgg126
  z164 := Tryd.sizeOf126
  v164 := Tryd.zeroValue126 }
theorem Tryd.Builder_Extra_156 : Builder.Extra Tryd.prog Tryd.lays156_ren := {
  sizeBuilder := by kernel_rfl
  liesBuilder := by kernel_rfl
  t5 := Tryd.underlying5
  a5 := Tryd.isAgg5
  z5 := Tryd.sizeOf5
  v5 := Tryd.zeroValue5
  infoByte := by kernel_rfl
  cellsByte := by kernel_rfl
  sizeByte := by kernel_rfl
  neB5 := by decide }
open Go.RowKit in
theorem Tryd.strings_Join_none (a : Option Addr) (c : Nat) (sep : ByteArray) (w : World) :
    Calls Tryd.prog 56 #[.slice a 0 c, .string sep] w fun e w' => e = .returned (.string ⟨#[]⟩) ∧ w' = w := Any.strings_Join_none Tryd.lays156 Tryd.Builder_Extra_156 a c sep w
open Go.RowKit in
theorem Tryd.strings_Join (bk o c : Nat) (xs : List ByteArray) (sep : ByteArray) (w : World) (hcells : ∀ (j : Nat) x, xs[j]? = some x → w.cell? ⟨bk, o + j, none⟩ = some (.string x)) (hbk : bk < w.heap.size) (hN : xs.length ≤ 140737488355328) (hcap : xs.length ≤ c) (hlen : (Lib.join (xs.map (·.data.toList)) sep.data.toList).length ≤ 140737488355328) :
    Calls Tryd.prog 56 #[.slice (some ⟨bk, o, none⟩) xs.length c, .string sep] w fun e w' => e = .returned (.string ⟨(Lib.join (xs.map (·.data.toList)) sep.data.toList).toArray⟩) ∧ Below w.heap.size w w' := Any.strings_Join Tryd.lays156 Tryd.Builder_Extra_156 bk o c xs sep w hcells hbk hN hcap hlen
end Go.Proofs
