/- Words that follow one another: plain functions, with no program in them; what goes byte by byte and what goes piece by piece is the same · A told word: plain functions, with no program in them · Characters that may stand for themselves, the model's · Words of characters: plain functions, with no program in them; what stands for itself by its characters does so by its bytes · Letters of a told word as quoted text; a text cut at question marks: plain functions, with no program in them. -/
import Derived.Test.YtkjnhcnbbojajaaGreatDoorWrdToWrd3
import Derived.Test.YtkjnhcnbbojajaaGreatDoorNamToJmp
import Derived.Test.YtkjnhcnbbojajaaGreatDoorDec3ToDecL
import Derived.Lib.Strings
import Derived.Test.YtkjnhcnbbojajaaGreatDoorFldSToHdr
import Derived.Test.YtkjnhcnbbojajaaGreatDoorMemToMrk0
import Derived.Test.YtkjnhcnbbojajaaGreatDoorFltToDec2
import Derived.Test.YtkjnhcnbbojajaaGreatDoorTwhToEncB
import Derived.Lib.IndexMore
import Derived.Lib.Replace
import Derived.Lib.IndexBytes
import Derived.Lib.SplitLaws
namespace Go.Proofs.YtkjnhcnbbojajaaGreatDoor
open Go.RowKit

/-- Without the blanks between two told words. -/
def skp (wd : List Nat → Option (List Int × Nat)) (told : Bool) (v : List Nat) : List Nat :=
  if told = true ∧ 0 < runL gapB v 0 ∧ (wd (v.drop (runL gapB v 0))).isSome = true then v.drop (runL gapB v 0) else v
/-- Words, byte by byte. -/
def wdsM (wd : List Nat → Option (List Int × Nat)) (cu : List Nat → Int × Nat) : Nat → Bool → List Nat → List Int
  | 0, _, _ => []
  | f + 1, told, v => if v.length = 0 then [] else match wd (skp wd told v) with
    | some r => r.1 ++ wdsM wd cu f true ((skp wd told v).drop r.2)
    | none => (cu (skp wd told v)).1 :: wdsM wd cu f false ((skp wd told v).drop (cu (skp wd told v)).2)
/-- Numbers of bytes. -/
def asI (l : List Nat) : List Int := l.map fun (b : Nat) => (b : Int)
/-- Words, piece by piece. -/
def wdsP (wd : List Nat → Option (List Int × Nat)) (cu : List Nat → Int × Nat) : Nat → Bool → List Nat → List Int
  | 0, _, _ => []
  | f + 1, told, v => if v.length = 0 then [] else match wd v with
    | some r => r.1 ++ wdsP wd cu f true (v.drop r.2)
    | none => if gapB (nth v 0) = true then
        (if told = true ∧ (wd (v.drop (runL gapB v 0))).isSome = true then wdsP wd cu f false (v.drop (runL gapB v 0)) else asI (v.take (runL gapB v 0)) ++ wdsP wd cu f false (v.drop (runL gapB v 0)))
      else (cu v).1 :: wdsP wd cu f false (v.drop (cu v).2)
/-- What is asked of a word and of a character. -/
structure WdOk (wd : List Nat → Option (List Int × Nat)) (cu : List Nat → Int × Nat) : Prop where
  pos : ∀ v r, wd v = some r → 0 < r.2
  head : ∀ v r, wd v = some r → nth v 0 = 61
  one : ∀ v, 0 < v.length → 0 < (cu v).2
  gap : ∀ v, 0 < v.length → gapB (nth v 0) = true → cu v = ((nth v 0 : Int), 1)
theorem wdsM_nil {wd : List Nat → Option (List Int × Nat)} {cu : List Nat → Int × Nat} {f : Nat} {b : Bool} {v : List Nat} (h : v.length = 0) : wdsM wd cu f b v = [] := by
  cases f with
  | zero => rfl
  | succ f => rw [wdsM, if_pos h]
theorem wdsP_nil {wd : List Nat → Option (List Int × Nat)} {cu : List Nat → Int × Nat} {f : Nat} {b : Bool} {v : List Nat} (h : v.length = 0) : wdsP wd cu f b v = [] := by
  cases f with
  | zero => rfl
  | succ f => rw [wdsP, if_pos h]
theorem wdsM_word {wd : List Nat → Option (List Int × Nat)} {cu : List Nat → Int × Nat} {f : Nat} {b : Bool} {v : List Nat} {r : List Int × Nat} (h : v.length ≠ 0) (hw : wd (skp wd b v) = some r) :
    wdsM wd cu (f + 1) b v = r.1 ++ wdsM wd cu f true ((skp wd b v).drop r.2) := by rw [wdsM, if_neg h, hw]
theorem wdsM_char {wd : List Nat → Option (List Int × Nat)} {cu : List Nat → Int × Nat} {f : Nat} {b : Bool} {v : List Nat} (h : v.length ≠ 0) (hw : wd (skp wd b v) = none) :
    wdsM wd cu (f + 1) b v = (cu (skp wd b v)).1 :: wdsM wd cu f false ((skp wd b v).drop (cu (skp wd b v)).2) := by rw [wdsM, if_neg h, hw]
theorem wdsP_word {wd : List Nat → Option (List Int × Nat)} {cu : List Nat → Int × Nat} {f : Nat} {b : Bool} {v : List Nat} {r : List Int × Nat} (h : v.length ≠ 0) (hw : wd v = some r) :
    wdsP wd cu (f + 1) b v = r.1 ++ wdsP wd cu f true (v.drop r.2) := by rw [wdsP, if_neg h, hw]
theorem wdsP_char {wd : List Nat → Option (List Int × Nat)} {cu : List Nat → Int × Nat} {f : Nat} {b : Bool} {v : List Nat} (h : v.length ≠ 0) (hw : wd v = none) (hg : gapB (nth v 0) = false) :
    wdsP wd cu (f + 1) b v = (cu v).1 :: wdsP wd cu f false (v.drop (cu v).2) := by rw [wdsP, if_neg h, hw]; simp only [hg]; rfl
theorem wdsP_skip {wd : List Nat → Option (List Int × Nat)} {cu : List Nat → Int × Nat} {f : Nat} {b : Bool} {v : List Nat} (h : v.length ≠ 0) (hw : wd v = none) (hg : gapB (nth v 0) = true) (hb : b = true) (hs : (wd (v.drop (runL gapB v 0))).isSome = true) :
    wdsP wd cu (f + 1) b v = wdsP wd cu f false (v.drop (runL gapB v 0)) := by rw [wdsP, if_neg h, hw]; simp only [hg, if_true]; rw [if_pos ⟨hb, hs⟩]
theorem wdsP_gaps {wd : List Nat → Option (List Int × Nat)} {cu : List Nat → Int × Nat} {f : Nat} {b : Bool} {v : List Nat} (h : v.length ≠ 0) (hw : wd v = none) (hg : gapB (nth v 0) = true) (hs : ¬ (b = true ∧ (wd (v.drop (runL gapB v 0))).isSome = true)) :
    wdsP wd cu (f + 1) b v = asI (v.take (runL gapB v 0)) ++ wdsP wd cu f false (v.drop (runL gapB v 0)) := by rw [wdsP, if_neg h, hw]; simp only [hg, if_true]; rw [if_neg hs]
theorem skp_false {wd : List Nat → Option (List Int × Nat)} (v : List Nat) : skp wd false v = v := by unfold skp; rw [if_neg (by simp)]
theorem skp_no {wd : List Nat → Option (List Int × Nat)} {b : Bool} {v : List Nat} (h : ¬ (b = true ∧ 0 < runL gapB v 0 ∧ (wd (v.drop (runL gapB v 0))).isSome = true)) : skp wd b v = v := if_neg h
theorem skp_yes {wd : List Nat → Option (List Int × Nat)} {b : Bool} {v : List Nat} (h : b = true ∧ 0 < runL gapB v 0 ∧ (wd (v.drop (runL gapB v 0))).isSome = true) : skp wd b v = v.drop (runL gapB v 0) := if_pos h
theorem runL_le (p : Nat → Bool) (v : List Nat) (i : Nat) (h : i ≤ v.length) : i + runL p v i ≤ v.length := by
  unfold runL
  have := (List.takeWhile_sublist p (l := v.drop i)).length_le
  rw [List.length_drop] at this; omega
theorem runL_drop (p : Nat → Bool) (v : List Nat) (k i : Nat) : runL p (v.drop k) i = runL p v (k + i) := by unfold runL; rw [List.drop_drop]
theorem WdOk.none_gap {wd : List Nat → Option (List Int × Nat)} {cu : List Nat → Int × Nat} (h : WdOk wd cu) {v : List Nat} (hg : gapB (nth v 0) = true) : wd v = none := by
  cases e : wd v with
  | none => rfl
  | some r =>
    have h1 := h.head v r e
    have h2 := of_decide_eq_true hg
    omega
theorem wdsM_run {wd : List Nat → Option (List Int × Nat)} {cu : List Nat → Int × Nat} (h : WdOk wd cu) : ∀ (k : Nat) (u : List Nat) (f : Nat), u.length ≤ f → runL gapB u 0 = k → wdsM wd cu f false u = asI (u.take k) ++ wdsM wd cu (f - k) false (u.drop k)
  | 0, u, f, _, _ => by simp [asI]
  | k + 1, u, f, hf, hk => by
    have hle := runL_le gapB u 0 (Nat.zero_le _)
    have h0 : 0 < u.length := by omega
    have hg : gapB (nth u 0) = true := by
      cases e : gapB (nth u 0) with
      | true => rfl
      | false => rw [runL_here h0 e] at hk; cases hk
    have hk' : runL gapB (u.drop 1) 0 = k := by
      rw [runL_drop, show 1 + 0 = 0 + 1 from rfl]
      have := runL_step h0 hg
      omega
    obtain ⟨f, rfl⟩ : ∃ f', f = f' + 1 := ⟨f - 1, by omega⟩
    rw [wdsM_char (by omega) (by rw [skp_false]; exact h.none_gap hg), skp_false, h.gap u h0 hg]
    have ih := wdsM_run h k (u.drop 1) f (by rw [List.length_drop]; omega) hk'
    rw [ih, show f + 1 - (k + 1) = f - k by omega, List.drop_drop, show 1 + k = k + 1 by omega]
    match u, h0 with
    | c :: u, _ => simp [asI, nth]
theorem wds_same {wd : List Nat → Option (List Int × Nat)} {cu : List Nat → Int × Nat} (h : WdOk wd cu) : ∀ (n : Nat) (v : List Nat) (b : Bool) (f1 f2 : Nat), v.length ≤ n → v.length ≤ f1 → v.length ≤ f2 → wdsM wd cu f1 b v = wdsP wd cu f2 b v := by
  intro n
  induction n with
  | zero => intro v b f1 f2 h0 _ _; rw [wdsM_nil (by omega), wdsP_nil (by omega)]
  | succ n ih =>
    intro v b f1 f2 hn h1 h2
    by_cases hv : v.length = 0
    · rw [wdsM_nil hv, wdsP_nil hv]
    · obtain ⟨f1, rfl⟩ : ∃ f', f1 = f' + 1 := ⟨f1 - 1, by omega⟩
      obtain ⟨f2, rfl⟩ : ∃ f', f2 = f' + 1 := ⟨f2 - 1, by omega⟩
      have hlen : ∀ k, 0 < k → (v.drop k).length ≤ v.length - 1 := fun k hk => by rw [List.length_drop]; omega
      cases hw : wd v with
      | some r =>
        have h61 := h.head v r hw
        have hz : runL gapB v 0 = 0 := runL_here (by omega) (by rw [h61]; decide)
        have hs : skp wd b v = v := skp_no (by omega)
        have hl := hlen r.2 (h.pos v r hw)
        rw [wdsM_word hv (by rw [hs]; exact hw), hs, wdsP_word hv hw, ih _ true f1 f2 (by omega) (by omega) (by omega)]
      | none =>
        cases hg : gapB (nth v 0) with
        | false =>
          have hz : runL gapB v 0 = 0 := runL_here (by omega) hg
          have hs : skp wd b v = v := skp_no (by omega)
          have hl := hlen _ (h.one v (by omega))
          rw [wdsM_char hv (by rw [hs]; exact hw), hs, wdsP_char hv hw hg, ih _ false f1 f2 (by omega) (by omega) (by omega)]
        | true =>
          have hgp : 0 < runL gapB v 0 := by have := runL_step (by omega : 0 < v.length) hg; omega
          have hgl := hlen _ hgp
          by_cases hc : b = true ∧ (wd (v.drop (runL gapB v 0))).isSome = true
          · obtain ⟨r, hr⟩ := Option.isSome_iff_exists.1 hc.2
            have h61 := h.head _ r hr
            have hne : (v.drop (runL gapB v 0)).length ≠ 0 := by
              intro h0
              rw [List.length_eq_zero_iff.1 h0] at h61
              cases h61
            have hs : skp wd b v = v.drop (runL gapB v 0) := skp_yes ⟨hc.1, hgp, hc.2⟩
            obtain ⟨f2, rfl⟩ : ∃ f', f2 = f' + 1 := ⟨f2 - 1, by omega⟩
            have hl : ((v.drop (runL gapB v 0)).drop r.2).length ≤ (v.drop (runL gapB v 0)).length - 1 := by
              have := h.pos _ r hr
              rw [List.length_drop]; omega
            rw [wdsM_word hv (by rw [hs]; exact hr), hs, wdsP_skip hv hw hg hc.1 hc.2, wdsP_word hne hr, ih _ true f1 f2 (by omega) (by omega) (by omega)]
          · have hs : skp wd b v = v := skp_no (fun h' => hc ⟨h'.1, h'.2.2⟩)
            have hl := hlen 1 (by omega)
            have hk : runL gapB (v.drop 1) 0 = runL gapB v 0 - 1 := by
              rw [runL_drop, show 1 + 0 = 0 + 1 from rfl]
              have := runL_step (by omega : 0 < v.length) hg
              omega
            rw [wdsM_char hv (by rw [hs]; exact hw), hs, h.gap v (by omega) hg, wdsP_gaps hv hw hg hc, wdsM_run h _ (v.drop 1) f1 (by omega) hk, List.drop_drop, show 1 + (runL gapB v 0 - 1) = runL gapB v 0 by omega,
              ih _ false (f1 - (runL gapB v 0 - 1)) f2 (by omega) (by rw [List.length_drop] at *; omega) (by omega)]
            generalize runL gapB v 0 = g at *
            obtain ⟨g, rfl⟩ : ∃ g', g = g' + 1 := ⟨g - 1, by omega⟩
            match v, hv with
            | c :: v, _ => simp [asI, nth]
/-- There are no more characters than bytes. -/
theorem wdsM_len {wd : List Nat → Option (List Int × Nat)} {cu : List Nat → Int × Nat} (h : WdOk wd cu) (hl : ∀ v r, wd v = some r → r.1.length ≤ r.2 ∧ r.2 ≤ v.length) : ∀ (f : Nat) (b : Bool) (v : List Nat), (wdsM wd cu f b v).length ≤ v.length
  | 0, _, _ => Nat.zero_le _
  | f + 1, b, v => by
    by_cases hv : v.length = 0
    · rw [wdsM_nil hv]; exact Nat.zero_le _
    · have hs : (skp wd b v).length ≤ v.length := by
        unfold skp
        split
        · rw [List.length_drop]; omega
        · exact Nat.le_refl _
      cases hw : wd (skp wd b v) with
      | some r =>
        have h1 := hl _ r hw
        have ih := wdsM_len h hl f true ((skp wd b v).drop r.2)
        rw [List.length_drop] at ih
        rw [wdsM_word hv hw, List.length_append]; omega
      | none =>
        have h0 : 0 < (skp wd b v).length := by
          by_cases hc : b = true ∧ 0 < runL gapB v 0 ∧ (wd (v.drop (runL gapB v 0))).isSome = true
          · rw [skp_yes hc]
            obtain ⟨r, hr⟩ := Option.isSome_iff_exists.1 hc.2.2
            have h61 := h.head _ r hr
            by_cases h0 : (v.drop (runL gapB v 0)).length = 0
            · rw [List.length_eq_zero_iff.1 h0] at h61; cases h61
            · omega
          · rw [skp_no hc]; omega
        have ih := wdsM_len h hl f false ((skp wd b v).drop (cu (skp wd b v)).2)
        have h1 := h.one _ h0
        rw [List.length_drop] at ih
        rw [wdsM_char hv hw, List.length_cons]; omega
/-- What holds of the characters of each word and of each character holds of all. -/
theorem wdsM_all {wd : List Nat → Option (List Int × Nat)} {cu : List Nat → Int × Nat} (p : Int → Bool) (h1 : ∀ v r, wd v = some r → r.1.all p = true) (h2 : ∀ v, p (cu v).1 = true) : ∀ (f : Nat) (b : Bool) (v : List Nat), (wdsM wd cu f b v).all p = true
  | 0, _, _ => rfl
  | f + 1, b, v => by
    by_cases hv : v.length = 0
    · rw [wdsM_nil hv]; rfl
    · cases hw : wd (skp wd b v) with
      | some r => rw [wdsM_word hv hw, List.all_append, h1 _ r hw, wdsM_all p h1 h2 f true _]; rfl
      | none => rw [wdsM_char hv hw, List.all_cons, h2, wdsM_all p h1 h2 f false _]; rfl
end Go.Proofs.YtkjnhcnbbojajaaGreatDoor

namespace Go.Proofs.YtkjnhcnbbojajaaGreatDoor
open Go.RowKit

/-- The place of the question mark behind the charset. -/
def wdA (v : List Nat) : Nat := 2 + runL noQu v 2
/-- The place of the question mark behind the letters. -/
def wdZ (v : List Nat) : Nat := wdA v + 3 + runL noQu v (wdA v + 3)
/-- Has it the form? -/
def wdF (v : List Nat) : Prop := nth v 0 = 61 ∧ nth v 1 = 63 ∧ nth v (wdA v + 2) = 63 ∧ nth v (wdZ v + 1) = 61
instance (v : List Nat) : Decidable (wdF v) := by unfold wdF; infer_instance
/-- Its charset. -/
def wdC (v : List Nat) : Int := csI (str (((v.take (wdA v)).drop 2).map low))
/-- Its bytes. -/
def wdB (v : List Nat) : Option (List Nat) := toldV (nth v (wdA v + 1)) ((v.take (wdZ v)).drop (wdA v + 3))
/-- Its characters, and how many bytes it has. -/
def wdV (v : List Nat) : Option (List Int × Nat) := if wdF v then (if wdC v = 0 then none else match wdB v with
  | none => none
  | some bs => (decL (wdC v) bs).map fun u => (u, wdZ v + 2)) else none
theorem wdV_form {v : List Nat} (h : ¬ wdF v) : wdV v = none := if_neg h
theorem wdV_cs {v : List Nat} (h : wdC v = 0) : wdV v = none := by
  unfold wdV
  split
  · rfl
  · rfl
theorem wdV_by {v : List Nat} (h : wdB v = none) : wdV v = none := by
  unfold wdV
  split
  · split
    · rfl
    · rw [h]
  · rfl
theorem wdV_dec {v : List Nat} {bs : List Nat} (hf : wdF v) (hc : wdC v ≠ 0) (h : wdB v = some bs) : wdV v = (decL (wdC v) bs).map fun u => (u, wdZ v + 2) := by
  unfold wdV
  rw [if_pos hf, if_neg hc, h]
theorem wdV_some {v : List Nat} {r : List Int × Nat} (h : wdV v = some r) : wdF v ∧ wdC v ≠ 0 ∧ ∃ bs, wdB v = some bs ∧ decL (wdC v) bs = some r.1 ∧ r.2 = wdZ v + 2 := by
  by_cases hf : wdF v
  · by_cases hc : wdC v = 0
    · rw [wdV_cs hc] at h; cases h
    · cases hb : wdB v with
      | none => rw [wdV_by hb] at h; cases h
      | some bs =>
        rw [wdV_dec hf hc hb] at h
        cases hd : decL (wdC v) bs with
        | none => rw [hd] at h; cases h
        | some u =>
          rw [hd] at h
          have e : (u, wdZ v + 2) = r := by simpa using h
          subst e
          exact ⟨hf, hc, bs, rfl, hd, rfl⟩
  · rw [wdV_form hf] at h; cases h
theorem wdF_at (t : List Nat) (i : Nat) : wdF (t.drop i) ↔ nth t i = 61 ∧ nth t (i + 1) = 63 ∧ nth t (i + (wdA (t.drop i) + 2)) = 63 ∧ nth t (i + (wdZ (t.drop i) + 1)) = 61 := by
  unfold wdF
  rw [nth_drop, nth_drop, nth_drop, nth_drop, Nat.add_zero]
theorem mk_at (t : List Nat) (i j : Nat) : mkV t (i + j) = if i + (j + runL noQu (t.drop i) j) < t.length then ((i + (j + runL noQu (t.drop i) j) : Nat) : Int) else -1 := by
  unfold mkV
  rw [runL_drop, Nat.add_assoc]
theorem nth_lt_len {l : List Nat} {k : Nat} (h : nth l k ≠ 0) : k < l.length := by
  rcases Nat.lt_or_ge k l.length with h1 | h1
  · exact h1
  · exfalso; apply h; unfold nth; rw [List.getD_eq_getElem?_getD, List.getElem?_eq_none h1]; rfl
theorem findN_lt {f : Nat → ByteArray} {s : ByteArray} : ∀ {n i : Nat}, findN f s n = some i → i < n
  | 0, i, h => by cases h
  | n + 1, i, h => by
    unfold findN at h
    cases e : findN f s n with
    | some j =>
      rw [e] at h
      have e2 : j = i := by simpa using h
      have := findN_lt e
      omega
    | none =>
      rw [e] at h
      simp only at h
      split at h
      · have e2 : n = i := by simpa using h
        omega
      · cases h
theorem csI_in (s : ByteArray) : csI s = 0 ∨ 1 ≤ csI s ∧ csI s ≤ 5 := by
  unfold csI
  cases h : findN csN s 5 with
  | none => exact .inl rfl
  | some i =>
    right
    have : i < 5 := findN_lt h
    show 1 ≤ (i : Int) + 1 ∧ (i : Int) + 1 ≤ 5
    omega
/-- A character of a text that is no told word. -/
def cuV (v : List Nat) : Int × Nat := if (rdC 4 v).2 = 0 then (65533, 1) else (((rdC 4 v).1 : Int), (rdC 4 v).2)
theorem cuV_no {v : List Nat} (h : (rdC 4 v).2 = 0) : cuV v = (65533, 1) := if_pos h
theorem cuV_yes {v : List Nat} (h : (rdC 4 v).2 ≠ 0) : cuV v = (((rdC 4 v).1 : Int), (rdC 4 v).2) := if_neg h
theorem cuV_pos (v : List Nat) : 0 < (cuV v).2 := by
  unfold cuV
  split
  · exact Nat.one_pos
  · rename_i h; simp only; omega
theorem wdOk : WdOk wdV cuV where
  pos := fun v r h => by obtain ⟨_, _, _, _, _, e⟩ := wdV_some h; omega
  head := fun v r h => (wdV_some h).1.1
  one := fun v _ => cuV_pos v
  gap := fun v h hg => by
    have hg' := of_decide_eq_true hg
    have e := rdC_4_one (l := v) (by omega) (by omega)
    rw [cuV_yes (by rw [e]; simp), e]
/-- The text of a piece of a text. -/
theorem str_piece (t : List Nat) (a b : Nat) : (str t).extract a b = str ((t.take b).drop a) := by
  rw [Lib.extract_eq, show (str t).data.toList = t.map UInt8.ofNat by simp [str], ← List.map_drop, ← List.map_take, List.drop_take]
  rfl
theorem piece_drop (t : List Nat) (i a b : Nat) : (t.take (i + b)).drop (i + a) = ((t.drop i).take b).drop a := by
  rw [List.drop_take, List.drop_take, List.drop_drop]
  congr 1
  omega
end Go.Proofs.YtkjnhcnbbojajaaGreatDoor

namespace Go.Proofs.YtkjnhcnbbojajaaGreatDoor
open Go.RowKit

/-- May the character at a place stand for itself? -/
def sfB (l : List Int) (k : Nat) : Bool := decide (32 ≤ nthI l k ∧ nthI l k ≤ 126) && !decide (0 < k ∧ nthI l (k - 1) = 61 ∧ nthI l k = 63)
/-- May all? -/
def sfV (l : List Int) : Bool := (List.range l.length).all (sfB l)
theorem sfV_no {l : List Int} {k : Nat} (h : k < l.length) (hb : sfB l k = false) : sfV l = false := by
  unfold sfV
  rw [List.all_eq_false]
  exact ⟨k, List.mem_range.2 h, by rw [hb]; simp⟩
theorem sfV_yes {l : List Int} (h : ∀ k, k < l.length → sfB l k = true) : sfV l = true := by
  unfold sfV
  rw [List.all_eq_true]
  exact fun k hk => h k (List.mem_range.1 hk)

set_option maxHeartbeats 1600000 in
set_option maxRecDepth 100000 in
theorem l4Self_any (a : Option Addr) (n cap : Nat) (l : List Int) (w : World) (hl : l.length = n) (hr : RdI w a l) (hn : n ≤ 1048576) :
    Calls Tryz.prog 225 #[.slice a n cap] w fun e w' => e = .returned (.bool (sfV l)) ∧ w = w' := by
  have HL : Hid (l.length = n) := hl
  clear hl
  go_enter Tryz.func225, Tryz.ntmps225
  go_wp2
  go_loop [3] (fun v => ∃ k : Nat, k ≤ n ∧ v = .int .i64 k ∧ Hid (∀ i, i < k → sfB l i = true)) (fun v => n - (intOf v).toNat)
  case atStart => exact ⟨0, Nat.zero_le _, rfl, fun i hi => absurd hi (Nat.not_lt_zero _)⟩
  case round =>
    obtain ⟨k, hk, rfl, HA⟩ := hrel
    by_cases hkn : k < n
    · have hki : (k : Int) < (n : Int) := by omega
      obtain ⟨b, off, rfl, hblt, hcell⟩ := hr.at_ (by have := HL.out; omega)
      have hc := hcell k (by have := HL.out; omega)
      have HN : Hid (sfB l k = false → sfV l = false) := fun h => sfV_no (by have := HL.out; omega) h
      have HY : Hid (sfB l k = true → ∀ i, i < k + 1 → sfB l i = true) := fun h i hi => by
        by_cases he : i = k
        · rw [he]; exact h
        · exact HA.out i (by omega)
      have HD : Hid (sfB l k = (decide (32 ≤ nthI l k ∧ nthI l k ≤ 126) && !decide (0 < k ∧ nthI l (k - 1) = 61 ∧ nthI l k = 63))) := rfl
      clear HA
      by_cases h0 : 0 < k
      · obtain ⟨j, rfl⟩ : ∃ j, k = j + 1 := ⟨k - 1, by omega⟩
        have hd := hcell j (by have := HL.out; omega)
        rw [show j + 1 - 1 = j by omega] at HD
        clear hcell
        generalize sfB l (j + 1) = r at *
        generalize nthI l (j + 1) = x at *
        generalize nthI l j = y at *
        by_cases hx : 32 ≤ x ∧ x ≤ 126
        · have hx' : decide (32 ≤ x ∧ x ≤ 126) = true := decide_eq_true hx
          by_cases hy : y = 61
          · by_cases hz : x = 63
            · have HM : Hid (_) := HN.out (by rw [HD.out, hx', decide_eq_true (by omega)]; rfl)
              clear HN HY HD hx
              subst hy hz
              go_wp2_with fail
              refine (l1In_any _ _ _ _).mono ?_
              rintro e w' ⟨rfl, rfl⟩
              rw [hx']
              go_wp2
              go_ret
              exact ⟨by rw [HM.out]; rfl, rfl⟩
            · have HM : Hid (_) := HY.out (by rw [HD.out, hx', decide_eq_false (by omega)]; rfl)
              have hz' : (x == 63) = false := by simp [hz]
              clear HN HY HD hx
              subst hy
              go_wp2_with fail
              refine (l1In_any _ _ _ _).mono ?_
              rintro e w' ⟨rfl, rfl⟩
              rw [hx']
              go_wp2
              go_round
              case rel => exact ⟨j + 1 + 1, by omega, by go_num, HM⟩
              case measure => simp [intOf]; omega
          · have HM : Hid (_) := HY.out (by rw [HD.out, hx', decide_eq_false (by omega)]; rfl)
            have hy' : (y == 61) = false := by simp [hy]
            clear HN HY HD hx
            go_wp2_with fail
            refine (l1In_any _ _ _ _).mono ?_
            rintro e w' ⟨rfl, rfl⟩
            rw [hx']
            go_wp2
            go_round
            case rel => exact ⟨j + 1 + 1, by omega, by go_num, HM⟩
            case measure => simp [intOf]; omega
        · have hx' : decide (32 ≤ x ∧ x ≤ 126) = false := decide_eq_false hx
          have HM : Hid (_) := HN.out (by rw [HD.out, hx']; rfl)
          clear HN HY HD hx
          go_wp2_with fail
          refine (l1In_any _ _ _ _).mono ?_
          rintro e w' ⟨rfl, rfl⟩
          rw [hx']
          go_wp2
          go_ret
          exact ⟨by rw [HM.out]; rfl, rfl⟩
      · obtain rfl : k = 0 := by omega
        clear hcell
        rw [Nat.add_zero] at hc
        generalize sfB l 0 = r at *
        generalize nthI l 0 = x at *
        by_cases hx : 32 ≤ x ∧ x ≤ 126
        · have hx' : decide (32 ≤ x ∧ x ≤ 126) = true := decide_eq_true hx
          have HM : Hid (_) := HY.out (by rw [HD.out, hx', decide_eq_false (by omega)]; rfl)
          clear HN HY HD hx
          go_wp2_with fail
          refine (l1In_any _ _ _ _).mono ?_
          rintro e w' ⟨rfl, rfl⟩
          rw [hx']
          go_wp2
          go_round
          case rel => exact ⟨0 + 1, by omega, by go_num, HM⟩
          case measure => simp [intOf]; omega
        · have hx' : decide (32 ≤ x ∧ x ≤ 126) = false := decide_eq_false hx
          have HM : Hid (_) := HN.out (by rw [HD.out, hx']; rfl)
          clear HN HY HD hx
          go_wp2_with fail
          refine (l1In_any _ _ _ _).mono ?_
          rintro e w' ⟨rfl, rfl⟩
          rw [hx']
          go_wp2
          go_ret
          exact ⟨by rw [HM.out]; rfl, rfl⟩
    · have hki : ¬ (k : Int) < (n : Int) := by omega
      have HM : Hid (sfV l = true) := sfV_yes (fun i hi => HA.out i (by have := HL.out; omega))
      go_wp2
      go_ret
      exact ⟨by rw [HM.out]; rfl, rfl⟩
end Go.Proofs.YtkjnhcnbbojajaaGreatDoor

namespace Go.Proofs.YtkjnhcnbbojajaaGreatDoor
open Go.RowKit

/-- A blank, or a byte that is seen. -/
def bosB (c : Nat) : Bool := decide (32 ≤ c ∧ c ≤ 126)
/-- Is there `=?`? -/
def eqq : List Nat → Bool
  | [] => false
  | a :: r => (decide (a = 61 ∧ nth r 0 = 63)) || eqq r
theorem nth_cons (a : Nat) (r : List Nat) (k : Nat) : nth (a :: r) (k + 1) = nth r k := by simp [nth]
theorem nth_head (a : Nat) (r : List Nat) : nth (a :: r) 0 = a := by simp [nth]
theorem nth_out {l : List Nat} {k : Nat} (h : l.length ≤ k) : nth l k = 0 := by
  unfold nth; rw [List.getD_eq_getElem?_getD, List.getElem?_eq_none h]; rfl
theorem eqq_iff : ∀ t : List Nat, eqq t = true ↔ ∃ k, nth t k = 61 ∧ nth t (k + 1) = 63
  | [] => by
    constructor
    · intro h; cases h
    · rintro ⟨k, h, _⟩; rw [nth_out (by simp)] at h; cases h
  | a :: r => by
    rw [eqq, Bool.or_eq_true, decide_eq_true_iff, eqq_iff r]
    constructor
    · rintro (⟨h1, h2⟩ | ⟨k, h1, h2⟩)
      · exact ⟨0, by rw [nth_head]; exact h1, by rw [nth_cons]; exact h2⟩
      · exact ⟨k + 1, by rw [nth_cons]; exact h1, by rw [nth_cons]; exact h2⟩
    · rintro ⟨k, h1, h2⟩
      cases k with
      | zero => left; rw [nth_head] at h1; rw [nth_cons] at h2; exact ⟨h1, h2⟩
      | succ k => right; rw [nth_cons] at h1 h2; exact ⟨k, h1, h2⟩
theorem pre2 (a : Nat) (r : List Nat) (hB : IsB (a :: r)) : ([(61 : UInt8), 63].isPrefixOf ((a :: r).map UInt8.ofNat)) = decide (a = 61 ∧ nth r 0 = 63) := by
  have ha := hB a (by simp)
  have e1 : ∀ x c : Nat, x < 256 → c < 256 → (UInt8.ofNat c == UInt8.ofNat x) = decide (x = c) := fun x c hx hc => by
    rw [Bool.eq_iff_iff, beq_iff_eq, decide_eq_true_iff]
    constructor
    · intro h
      have := congrArg UInt8.toNat h
      rw [UInt8.toNat_ofNat', UInt8.toNat_ofNat'] at this
      omega
    · intro h; rw [h]
  match r, hB with
  | [], _ =>
    rw [decide_eq_false (by intro h; have := h.2; rw [nth_out (by simp)] at this; cases this)]
    rw [List.map_cons, List.map_nil, List.isPrefixOf_cons_cons]
    simp
  | b :: r, hB =>
    have hb := hB b (by simp)
    rw [List.map_cons, List.map_cons, List.isPrefixOf_cons_cons, List.isPrefixOf_cons_cons, List.isPrefixOf_nil_left, Bool.and_true, nth_head]
    have h1 := e1 a 61 ha (by omega)
    have h2 := e1 b 63 hb (by omega)
    rw [show (UInt8.ofNat 61) = (61 : UInt8) from rfl] at h1
    rw [show (UInt8.ofNat 63) = (63 : UInt8) from rfl] at h2
    rw [h1, h2, Bool.eq_iff_iff]
    simp
theorem contains_eqq : ∀ t : List Nat, IsB t → Lib.contains (t.map UInt8.ofNat) [61, 63] = eqq t
  | [], _ => rfl
  | a :: r, hB => by
    have ih := contains_eqq r (fun x hx => hB x (by simp [hx]))
    have hp := pre2 a r hB
    rw [eqq, ← hp, ← ih]
    unfold Lib.contains
    rw [List.map_cons] at *
    rw [Lib.index]
    have hge := Lib.index_ge (r.map UInt8.ofNat) [61, 63]
    cases h : ([(61 : UInt8), 63].isPrefixOf (UInt8.ofNat a :: r.map UInt8.ofNat)) with
    | true => simp
    | false =>
      simp only [Bool.false_eq_true, if_false, Bool.false_or]
      by_cases hm : Lib.index (r.map UInt8.ofNat) [61, 63] = -1
      · rw [hm]; rfl
      · rw [if_neg (by simp [hm])]
        exact decide_eq_decide.2 (by omega)

theorem nthI_out {l : List Int} {k : Nat} (h : l.length ≤ k) : nthI l k = 0 := by
  unfold nthI; rw [List.getD_eq_getElem?_getD, List.getElem?_eq_none h]; rfl
theorem nthI_toNat (l : List Int) (k : Nat) : nth (l.map Int.toNat) k = (nthI l k).toNat := by
  unfold nth nthI
  rw [List.getD_eq_getElem?_getD, List.getD_eq_getElem?_getD, List.getElem?_map]
  cases l[k]? <;> rfl
/-- A character that may stand for itself. -/
def slfB (c : Int) : Bool := decide (32 ≤ c ∧ c ≤ 126)
theorem sfV_eq (l : List Int) : sfV l = (l.all slfB && !eqq (l.map Int.toNat)) := by
  rw [Bool.eq_iff_iff, Bool.and_eq_true, Bool.not_eq_true', ← Bool.not_eq_true, eqq_iff]
  unfold sfV
  rw [List.all_eq_true, List.all_eq_true]
  constructor
  · intro h
    refine ⟨fun x hx => ?_, ?_⟩
    · obtain ⟨k, hk, rfl⟩ := List.getElem_of_mem hx
      have := h k (List.mem_range.2 hk)
      unfold sfB at this
      rw [Bool.and_eq_true] at this
      have h1 := of_decide_eq_true this.1
      rw [nthI_get hk] at h1
      exact decide_eq_true h1
    · rintro ⟨k, h1, h2⟩
      rw [nthI_toNat] at h1 h2
      by_cases hk : k + 1 < l.length
      · have := h (k + 1) (List.mem_range.2 hk)
        unfold sfB at this
        rw [Bool.and_eq_true, Bool.not_eq_true', decide_eq_false_iff_not] at this
        exact this.2 ⟨by omega, by rw [show k + 1 - 1 = k by omega]; omega, by omega⟩
      · rw [nthI_out (by omega)] at h2; cases h2
  · rintro ⟨h1, h2⟩ k hk
    have hk := List.mem_range.1 hk
    unfold sfB
    rw [Bool.and_eq_true, Bool.not_eq_true', decide_eq_false_iff_not]
    have hx := of_decide_eq_true (h1 (nthI l k) (by rw [nthI_get hk]; exact List.getElem_mem hk))
    refine ⟨decide_eq_true hx, ?_⟩
    rintro ⟨h0, h3, h4⟩
    refine h2 ⟨k - 1, ?_, ?_⟩
    · rw [nthI_toNat, h3]; rfl
    · rw [nthI_toNat, show k - 1 + 1 = k by omega, h4]; rfl
theorem tell4 (c : Int) : tellL 4 c = u8L c.toNat := by unfold tellL; rw [if_neg (by decide), if_pos rfl]
theorem u8_self {c : Int} (h : slfB c = true) : tellL 4 c = [c.toNat] := by
  have h' := of_decide_eq_true h
  rw [tell4]; unfold u8L; rw [if_pos (by omega)]
theorem u8_bos {c : Int} (hc : chr c = true) : (tellL 4 c).all bosB = slfB c := by
  have h := chr_iff.1 hc
  rw [tell4]
  unfold u8L
  by_cases h1 : c.toNat < 128
  · rw [if_pos h1, List.all_cons, List.all_nil, Bool.and_true]
    exact decide_eq_decide.2 (by omega)
  · have hs : slfB c = false := decide_eq_false (by omega)
    rw [if_neg h1, hs]
    split
    · rw [List.all_cons, show bosB (192 + c.toNat / 64) = false from decide_eq_false (by omega)]; rfl
    · rw [List.all_cons, show bosB (224 + c.toNat / 4096) = false from decide_eq_false (by omega)]; rfl
theorem flat_bos : ∀ l : List Int, (∀ x ∈ l, chr x = true) → (l.flatMap (tellL 4)).all bosB = l.all slfB
  | [], _ => rfl
  | c :: l, h => by
    rw [List.flatMap_cons, List.all_append, u8_bos (h c (by simp)), flat_bos l (fun x hx => h x (by simp [hx])), List.all_cons]
theorem flat_self : ∀ l : List Int, l.all slfB = true → l.flatMap (tellL 4) = l.map Int.toNat
  | [], _ => rfl
  | c :: l, h => by
    rw [List.all_cons, Bool.and_eq_true] at h
    rw [List.flatMap_cons, u8_self h.1, flat_self l h.2]; rfl
theorem self_bytes (l : List Int) (h : ∀ x ∈ l, chr x = true) : ((l.flatMap (tellL 4)).all bosB && !eqq (l.flatMap (tellL 4))) = sfV l := by
  rw [sfV_eq, flat_bos l h]
  cases ha : l.all slfB with
  | false => rfl
  | true => rw [flat_self l ha]
/-- The letters around a told word. -/
def twB : List Nat := [61, 63, 117, 116, 102, 45, 56, 63, 66, 63]
/-- One told word. -/
def toldW (o : List Nat) : List Nat := (twB ++ Xf.enc o) ++ [63, 61]
theorem toldW_len (o : List Nat) : (toldW o).length = (Xf.enc o).length + 12 := by
  unfold toldW twB
  rw [List.length_append, List.length_append]
  simp only [List.length_cons, List.length_nil]
  omega
/-- What EncodeWords answers. -/
def ewV (l : List Int) : Int × List Nat := if (encT 4 l).1 = 0 then (if sfV l then (0, (encT 4 l).2) else if 400 < (toldW (encT 4 l).2).length then (2, []) else (0, toldW (encT 4 l).2)) else ((encT 4 l).1, [])
theorem ewV_bad {l : List Int} (h : (encT 4 l).1 ≠ 0) : ewV l = ((encT 4 l).1, []) := if_neg h
theorem ewV_self {l : List Int} (h : (encT 4 l).1 = 0) (hs : sfV l = true) : ewV l = (0, (encT 4 l).2) := by unfold ewV; rw [if_pos h, if_pos hs]
theorem ewV_many {l : List Int} (h : (encT 4 l).1 = 0) (hs : sfV l = false) (h4 : 400 < (toldW (encT 4 l).2).length) : ewV l = (2, []) := by unfold ewV; rw [if_pos h, hs, if_neg (by simp), if_pos h4]
theorem ewV_told {l : List Int} (h : (encT 4 l).1 = 0) (hs : sfV l = false) (h4 : ¬ 400 < (toldW (encT 4 l).2).length) : ewV l = (0, toldW (encT 4 l).2) := by unfold ewV; rw [if_pos h, hs, if_neg (by simp), if_neg h4]
/-- What stands behind an answer without a code. -/
theorem encT_zero {l : List Int} (h : (encT 4 l).1 = 0) : flt l = 0 ∧ (encT 4 l).2 = l.flatMap (tellL 4) ∧ (encT 4 l).2.length ≤ 400 := by
  by_cases hf : flt l = 0
  · rw [encT_ok (by omega) hf] at h ⊢
    refine ⟨hf, ?_⟩
    cases ha : l.all (hasC 4) with
    | false => rw [encV_bad ha] at h; cases h
    | true =>
      by_cases h4 : 400 < (l.flatMap (tellL 4)).length
      · rw [encV_many ha h4] at h; cases h
      · rw [encV_ok ha h4]; exact ⟨rfl, by simp only; omega⟩
  · rw [encT_fault (by omega) hf] at h; exact absurd h hf
theorem u8L_isB (k : Nat) (h : k ≤ 65535) : IsB (u8L k) := by
  unfold u8L
  split
  · intro b hb; simp only [List.mem_cons, List.not_mem_nil, or_false] at hb; omega
  · split
    · intro b hb; simp only [List.mem_cons, List.not_mem_nil, or_false] at hb; omega
    · intro b hb; simp only [List.mem_cons, List.not_mem_nil, or_false] at hb; omega
theorem encT_isB {l : List Int} (h : (encT 4 l).1 = 0) : IsB (encT 4 l).2 := by
  obtain ⟨hf, he, _⟩ := encT_zero h
  rw [he]
  intro b hb
  obtain ⟨c, hc, hb⟩ := List.mem_flatMap.1 hb
  have := chr_iff.1 ((flt_zero hf).2 c hc)
  rw [tell4] at hb
  exact u8L_isB c.toNat (by omega) b hb
end Go.Proofs.YtkjnhcnbbojajaaGreatDoor

namespace Go.Proofs.YtkjnhcnbbojajaaGreatDoor
open Go.RowKit

/-- No letter for a blank. -/
def noUs (c : Nat) : Bool := decide (c ≠ 95)
theorem repU_none {l : List Nat} (h : l.all noUs = true) : repU l = l := by
  induction l with
  | nil => rfl
  | cons c l ih =>
    rw [List.all_cons, Bool.and_eq_true] at h
    have hc := of_decide_eq_true h.1
    rw [repU_cons, if_neg hc, ih h.2]; rfl
theorem repU_app (a b : List Nat) : repU (a ++ b) = repU a ++ repU b := by simp [repU, List.flatMap_append]
theorem replK : ∀ (k : Nat) (t : List Nat), IsB t → (Lib.countByte (t.map UInt8.ofNat) 95) = k → Lib.replaceK [95] [61, 50, 48] k (t.map UInt8.ofNat) = (repU t).map UInt8.ofNat := by
  intro k
  induction k with
  | zero =>
    intro t hB hc
    have hall : t.all noUs = true := by
      rw [List.all_eq_true]
      intro x hx
      refine decide_eq_true (fun e => ?_)
      subst e
      have h0 : List.count (95 : UInt8) (t.map UInt8.ofNat) = 0 := hc
      rw [List.count_eq_zero] at h0
      exact h0 (List.mem_map.2 ⟨95, hx, rfl⟩)
    rw [repU_none hall]
    rfl
  | succ k ih =>
    intro t hB hc
    have hi := idx_natW (c := 95) (by omega) (p := noUs) (fun b => rfl) t hB
    rw [show (UInt8.ofNat 95) = (95 : UInt8) from rfl] at hi
    by_cases hl : (t.takeWhile noUs).length < t.length
    · rw [if_pos hl] at hi
      obtain ⟨x, r, h1, h2, h3, h4⟩ := tw_split t hl
      have hx : x = 95 := by
        have := of_decide_eq_false h2
        omega
      subst hx
      rw [Lib.replaceK_hit _ _ k _ (t.takeWhile noUs).length (by rw [Lib.index_one]; exact hi), ← List.map_take, ← List.map_drop, h4]
      rw [show (t.takeWhile noUs).length + [(95 : UInt8)].length = (t.takeWhile noUs).length + 1 from rfl, h3]
      have hBr : IsB r := fun y hy => hB y (by rw [h1]; simp [hy])
      have hcr : Lib.countByte (r.map UInt8.ofNat) 95 = k := by
        have h5 : List.count (95 : UInt8) (t.map UInt8.ofNat) = k + 1 := hc
        rw [h1, List.map_append, List.map_cons, List.count_append, List.count_cons] at h5
        have h6 : List.count (95 : UInt8) ((t.takeWhile noUs).map UInt8.ofNat) = 0 := by
          rw [List.count_eq_zero]
          intro hm
          obtain ⟨y, hy, e⟩ := List.mem_map.1 hm
          have hy' := of_decide_eq_true (List.all_eq_true.1 (tw_allp noUs t) y hy)
          have hyB := hB y (by rw [h1]; simp [hy])
          have := u8_neW hyB (by omega : (95 : Nat) < 256) hy'
          rw [show (UInt8.ofNat 95) = (95 : UInt8) from rfl, e] at this
          simp at this
        rw [h6] at h5
        have h7 : ((UInt8.ofNat 95 == (95 : UInt8)) = true) := rfl
        rw [if_pos h7] at h5
        show List.count (95 : UInt8) (r.map UInt8.ofNat) = k
        omega
      rw [ih r hBr hcr]
      conv => rhs; rw [h1]
      rw [repU_app, repU_cons, if_pos rfl, repU_none (tw_allp noUs t), List.map_append, List.map_append, List.append_assoc]
      rfl
    · exfalso
      have hall := tw_all t hl
      have h0 : List.count (95 : UInt8) (t.map UInt8.ofNat) = 0 := by
        rw [List.count_eq_zero]
        intro hm
        obtain ⟨y, hy, e⟩ := List.mem_map.1 hm
        have hy' := of_decide_eq_true (List.all_eq_true.1 hall y hy)
        have := u8_neW (hB y hy) (by omega : (95 : Nat) < 256) hy'
        rw [show (UInt8.ofNat 95) = (95 : UInt8) from rfl, e] at this
        simp at this
      have h5 : List.count (95 : UInt8) (t.map UInt8.ofNat) = k + 1 := hc
      omega
theorem replAll (t : List Nat) (hB : IsB t) : (⟨(Lib.replaceAll (str t).data.toList [95] [61, 50, 48]).toArray⟩ : ByteArray) = str (repU t) := by
  have e : (str t).data.toList = t.map UInt8.ofNat := by simp [str]
  rw [e]
  unfold Lib.replaceAll Lib.replace
  rw [if_neg (by decide)]
  unfold Lib.replaceNum
  rw [if_pos (.inl (by decide)), Lib.count_one]
  have hk := replK _ t hB rfl
  unfold Lib.countByte at hk
  rw [hk]
  rfl
theorem repU_len : ∀ t : List Nat, (repU t).length ≤ 3 * t.length
  | [] => by simp [repU]
  | c :: t => by
    have := repU_len t
    rw [repU_cons, List.length_append, List.length_cons]
    split
    · simp only [List.length_cons, List.length_nil]; omega
    · simp only [List.length_cons, List.length_nil]; omega
theorem repU_isB {t : List Nat} (hB : IsB t) : IsB (repU t) := by
  intro b hb
  unfold repU at hb
  obtain ⟨c, hc, hb⟩ := List.mem_flatMap.1 hb
  split at hb
  · simp only [List.mem_cons, List.not_mem_nil, or_false] at hb; omega
  · simp only [List.mem_cons, List.not_mem_nil, or_false] at hb; rw [hb]; exact hB c hc

/-- A text cut at its first question marks. -/
def spl : Nat → List Nat → List (List Nat)
  | 0, v => [v]
  | k + 1, v => if (v.takeWhile noQu).length < v.length then v.takeWhile noQu :: spl k (v.drop ((v.takeWhile noQu).length + 1)) else [v]
theorem splB (k : Nat) : ∀ v : List Nat, IsB v → Lib.splitB ⟨#[63]⟩ 0 k (str v) = (spl k v).map str := by
  induction k with
  | zero => intro v _; rfl
  | succ k ih =>
    intro v hB
    have hi := idx_natW (c := 63) (by omega) (p := noQu) (fun b => rfl) v hB
    rw [show (UInt8.ofNat 63) = (63 : UInt8) from rfl] at hi
    have e : Lib.indexB (str v) ⟨#[63]⟩ = Lib.indexByte (v.map UInt8.ofNat) 63 := by
      rw [← Lib.index_one]
      show Lib.index (str v).data.toList [63] = _
      rw [show (str v).data.toList = v.map UInt8.ofNat by simp [str]]
    unfold spl
    by_cases hl : (v.takeWhile noQu).length < v.length
    · rw [if_pos hl] at hi ⊢
      rw [Lib.splitB_hit _ _ _ _ (v.takeWhile noQu).length (e.trans hi), List.map_cons]
      obtain ⟨x, r, h1, h2, h3, h4⟩ := tw_split v hl
      rw [str_piece, str_piece, str_size, List.take_length, List.drop_zero, Nat.add_zero, h4]
      rw [show (v.takeWhile noQu).length + (⟨#[63]⟩ : ByteArray).size = (v.takeWhile noQu).length + 1 from rfl, ih _ (isB_drop hB _)]
    · rw [if_neg hl] at hi ⊢
      rw [Lib.splitB_miss _ _ _ _ (e.trans hi)]
      rfl
end Go.Proofs.YtkjnhcnbbojajaaGreatDoor
