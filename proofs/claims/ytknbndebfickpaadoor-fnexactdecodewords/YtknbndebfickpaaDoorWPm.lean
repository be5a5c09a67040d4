/- Words that follow one another: plain functions, with no program in them; what goes byte by byte and what goes piece by piece is the same. -/
import Derived.Test.YtknbndebfickpaaDoorWrdToQMath
namespace Go.Proofs.YtknbndebfickpaaDoor
open Go.RowKit

/-- Without the blanks between two told words. -/
def skp (wd : List Nat → Option (List Int × Nat)) (told : Bool) (v : List Nat) : List Nat :=
  if told = true ∧ 0 < runL gapB v 0 ∧ (wd (v.drop (runL gapB v 0))).isSome = true then v.drop (runL gapB v 0) else v
/-- Words, byte by byte. -/
def wdsM (wd : List Nat → Option (List Int × Nat)) (cu : List Nat → Int × Nat) : Nat → Bool → List Nat → List Int
  | 0, _, _ => []
  | f + 1, told, v => if v.length = 0 then [] else match wd (skp wd told v) with
    | some r => r.1 ++ wdsM wd cu f true ((skp wd told v).drop r.2)
    | none => (cu (skp wd told v)).1 :: wdsM wd cu f false ((skp wd told v).drop (cu (skp wd told v)).2)
/-- Numbers of bytes. -/
def asI (l : List Nat) : List Int := l.map fun (b : Nat) => (b : Int)
/-- Words, piece by piece. -/
def wdsP (wd : List Nat → Option (List Int × Nat)) (cu : List Nat → Int × Nat) : Nat → Bool → List Nat → List Int
  | 0, _, _ => []
  | f + 1, told, v => if v.length = 0 then [] else match wd v with
    | some r => r.1 ++ wdsP wd cu f true (v.drop r.2)
    | none => if gapB (nth v 0) = true then
        (if told = true ∧ (wd (v.drop (runL gapB v 0))).isSome = true then wdsP wd cu f false (v.drop (runL gapB v 0)) else asI (v.take (runL gapB v 0)) ++ wdsP wd cu f false (v.drop (runL gapB v 0)))
      else (cu v).1 :: wdsP wd cu f false (v.drop (cu v).2)
/-- What is asked of a word and of a character. -/
structure WdOk (wd : List Nat → Option (List Int × Nat)) (cu : List Nat → Int × Nat) : Prop where
  pos : ∀ v r, wd v = some r → 0 < r.2
  head : ∀ v r, wd v = some r → nth v 0 = 61
  one : ∀ v, 0 < v.length → 0 < (cu v).2
  gap : ∀ v, 0 < v.length → gapB (nth v 0) = true → cu v = ((nth v 0 : Int), 1)
theorem wdsM_nil {wd : List Nat → Option (List Int × Nat)} {cu : List Nat → Int × Nat} {f : Nat} {b : Bool} {v : List Nat} (h : v.length = 0) : wdsM wd cu f b v = [] := by
  cases f with
  | zero => rfl
  | succ f => rw [wdsM, if_pos h]
theorem wdsP_nil {wd : List Nat → Option (List Int × Nat)} {cu : List Nat → Int × Nat} {f : Nat} {b : Bool} {v : List Nat} (h : v.length = 0) : wdsP wd cu f b v = [] := by
  cases f with
  | zero => rfl
  | succ f => rw [wdsP, if_pos h]
theorem wdsM_word {wd : List Nat → Option (List Int × Nat)} {cu : List Nat → Int × Nat} {f : Nat} {b : Bool} {v : List Nat} {r : List Int × Nat} (h : v.length ≠ 0) (hw : wd (skp wd b v) = some r) :
    wdsM wd cu (f + 1) b v = r.1 ++ wdsM wd cu f true ((skp wd b v).drop r.2) := by rw [wdsM, if_neg h, hw]
theorem wdsM_char {wd : List Nat → Option (List Int × Nat)} {cu : List Nat → Int × Nat} {f : Nat} {b : Bool} {v : List Nat} (h : v.length ≠ 0) (hw : wd (skp wd b v) = none) :
    wdsM wd cu (f + 1) b v = (cu (skp wd b v)).1 :: wdsM wd cu f false ((skp wd b v).drop (cu (skp wd b v)).2) := by rw [wdsM, if_neg h, hw]
theorem wdsP_word {wd : List Nat → Option (List Int × Nat)} {cu : List Nat → Int × Nat} {f : Nat} {b : Bool} {v : List Nat} {r : List Int × Nat} (h : v.length ≠ 0) (hw : wd v = some r) :
    wdsP wd cu (f + 1) b v = r.1 ++ wdsP wd cu f true (v.drop r.2) := by rw [wdsP, if_neg h, hw]
theorem wdsP_char {wd : List Nat → Option (List Int × Nat)} {cu : List Nat → Int × Nat} {f : Nat} {b : Bool} {v : List Nat} (h : v.length ≠ 0) (hw : wd v = none) (hg : gapB (nth v 0) = false) :
    wdsP wd cu (f + 1) b v = (cu v).1 :: wdsP wd cu f false (v.drop (cu v).2) := by rw [wdsP, if_neg h, hw]; simp only [hg]; rfl
theorem wdsP_skip {wd : List Nat → Option (List Int × Nat)} {cu : List Nat → Int × Nat} {f : Nat} {b : Bool} {v : List Nat} (h : v.length ≠ 0) (hw : wd v = none) (hg : gapB (nth v 0) = true) (hb : b = true) (hs : (wd (v.drop (runL gapB v 0))).isSome = true) :
    wdsP wd cu (f + 1) b v = wdsP wd cu f false (v.drop (runL gapB v 0)) := by rw [wdsP, if_neg h, hw]; simp only [hg, if_true]; rw [if_pos ⟨hb, hs⟩]
theorem wdsP_gaps {wd : List Nat → Option (List Int × Nat)} {cu : List Nat → Int × Nat} {f : Nat} {b : Bool} {v : List Nat} (h : v.length ≠ 0) (hw : wd v = none) (hg : gapB (nth v 0) = true) (hs : ¬ (b = true ∧ (wd (v.drop (runL gapB v 0))).isSome = true)) :
    wdsP wd cu (f + 1) b v = asI (v.take (runL gapB v 0)) ++ wdsP wd cu f false (v.drop (runL gapB v 0)) := by rw [wdsP, if_neg h, hw]; simp only [hg, if_true]; rw [if_neg hs]
theorem skp_false {wd : List Nat → Option (List Int × Nat)} (v : List Nat) : skp wd false v = v := by unfold skp; rw [if_neg (by simp)]
theorem skp_no {wd : List Nat → Option (List Int × Nat)} {b : Bool} {v : List Nat} (h : ¬ (b = true ∧ 0 < runL gapB v 0 ∧ (wd (v.drop (runL gapB v 0))).isSome = true)) : skp wd b v = v := if_neg h
theorem skp_yes {wd : List Nat → Option (List Int × Nat)} {b : Bool} {v : List Nat} (h : b = true ∧ 0 < runL gapB v 0 ∧ (wd (v.drop (runL gapB v 0))).isSome = true) : skp wd b v = v.drop (runL gapB v 0) := if_pos h
theorem runL_le (p : Nat → Bool) (v : List Nat) (i : Nat) (h : i ≤ v.length) : i + runL p v i ≤ v.length := by
  unfold runL
  have := (List.takeWhile_sublist p (l := v.drop i)).length_le
  rw [List.length_drop] at this; omega
theorem runL_drop (p : Nat → Bool) (v : List Nat) (k i : Nat) : runL p (v.drop k) i = runL p v (k + i) := by unfold runL; rw [List.drop_drop]
theorem WdOk.none_gap {wd : List Nat → Option (List Int × Nat)} {cu : List Nat → Int × Nat} (h : WdOk wd cu) {v : List Nat} (hg : gapB (nth v 0) = true) : wd v = none := by
  cases e : wd v with
  | none => rfl
  | some r =>
    have h1 := h.head v r e
    have h2 := of_decide_eq_true hg
    omega
theorem wdsM_run {wd : List Nat → Option (List Int × Nat)} {cu : List Nat → Int × Nat} (h : WdOk wd cu) : ∀ (k : Nat) (u : List Nat) (f : Nat), u.length ≤ f → runL gapB u 0 = k → wdsM wd cu f false u = asI (u.take k) ++ wdsM wd cu (f - k) false (u.drop k)
  | 0, u, f, _, _ => by simp [asI]
  | k + 1, u, f, hf, hk => by
    have hle := runL_le gapB u 0 (Nat.zero_le _)
    have h0 : 0 < u.length := by omega
    have hg : gapB (nth u 0) = true := by
      cases e : gapB (nth u 0) with
      | true => rfl
      | false => rw [runL_here h0 e] at hk; cases hk
    have hk' : runL gapB (u.drop 1) 0 = k := by
      rw [runL_drop, show 1 + 0 = 0 + 1 from rfl]
      have := runL_step h0 hg
      omega
    obtain ⟨f, rfl⟩ : ∃ f', f = f' + 1 := ⟨f - 1, by omega⟩
    rw [wdsM_char (by omega) (by rw [skp_false]; exact h.none_gap hg), skp_false, h.gap u h0 hg]
    have ih := wdsM_run h k (u.drop 1) f (by rw [List.length_drop]; omega) hk'
    rw [ih, show f + 1 - (k + 1) = f - k by omega, List.drop_drop, show 1 + k = k + 1 by omega]
    match u, h0 with
    | c :: u, _ => simp [asI, nth]
theorem wds_same {wd : List Nat → Option (List Int × Nat)} {cu : List Nat → Int × Nat} (h : WdOk wd cu) : ∀ (n : Nat) (v : List Nat) (b : Bool) (f1 f2 : Nat), v.length ≤ n → v.length ≤ f1 → v.length ≤ f2 → wdsM wd cu f1 b v = wdsP wd cu f2 b v := by
  intro n
  induction n with
  | zero => intro v b f1 f2 h0 _ _; rw [wdsM_nil (by omega), wdsP_nil (by omega)]
  | succ n ih =>
    intro v b f1 f2 hn h1 h2
    by_cases hv : v.length = 0
    · rw [wdsM_nil hv, wdsP_nil hv]
    · obtain ⟨f1, rfl⟩ : ∃ f', f1 = f' + 1 := ⟨f1 - 1, by omega⟩
      obtain ⟨f2, rfl⟩ : ∃ f', f2 = f' + 1 := ⟨f2 - 1, by omega⟩
      have hlen : ∀ k, 0 < k → (v.drop k).length ≤ v.length - 1 := fun k hk => by rw [List.length_drop]; omega
      cases hw : wd v with
      | some r =>
        have h61 := h.head v r hw
        have hz : runL gapB v 0 = 0 := runL_here (by omega) (by rw [h61]; decide)
        have hs : skp wd b v = v := skp_no (by omega)
        have hl := hlen r.2 (h.pos v r hw)
        rw [wdsM_word hv (by rw [hs]; exact hw), hs, wdsP_word hv hw, ih _ true f1 f2 (by omega) (by omega) (by omega)]
      | none =>
        cases hg : gapB (nth v 0) with
        | false =>
          have hz : runL gapB v 0 = 0 := runL_here (by omega) hg
          have hs : skp wd b v = v := skp_no (by omega)
          have hl := hlen _ (h.one v (by omega))
          rw [wdsM_char hv (by rw [hs]; exact hw), hs, wdsP_char hv hw hg, ih _ false f1 f2 (by omega) (by omega) (by omega)]
        | true =>
          have hgp : 0 < runL gapB v 0 := by have := runL_step (by omega : 0 < v.length) hg; omega
          have hgl := hlen _ hgp
          by_cases hc : b = true ∧ (wd (v.drop (runL gapB v 0))).isSome = true
          · obtain ⟨r, hr⟩ := Option.isSome_iff_exists.1 hc.2
            have h61 := h.head _ r hr
            have hne : (v.drop (runL gapB v 0)).length ≠ 0 := by
              intro h0
              rw [List.length_eq_zero_iff.1 h0] at h61
              cases h61
            have hs : skp wd b v = v.drop (runL gapB v 0) := skp_yes ⟨hc.1, hgp, hc.2⟩
            obtain ⟨f2, rfl⟩ : ∃ f', f2 = f' + 1 := ⟨f2 - 1, by omega⟩
            have hl : ((v.drop (runL gapB v 0)).drop r.2).length ≤ (v.drop (runL gapB v 0)).length - 1 := by
              have := h.pos _ r hr
              rw [List.length_drop]; omega
            rw [wdsM_word hv (by rw [hs]; exact hr), hs, wdsP_skip hv hw hg hc.1 hc.2, wdsP_word hne hr, ih _ true f1 f2 (by omega) (by omega) (by omega)]
          · have hs : skp wd b v = v := skp_no (fun h' => hc ⟨h'.1, h'.2.2⟩)
            have hl := hlen 1 (by omega)
            have hk : runL gapB (v.drop 1) 0 = runL gapB v 0 - 1 := by
              rw [runL_drop, show 1 + 0 = 0 + 1 from rfl]
              have := runL_step (by omega : 0 < v.length) hg
              omega
            rw [wdsM_char hv (by rw [hs]; exact hw), hs, h.gap v (by omega) hg, wdsP_gaps hv hw hg hc, wdsM_run h _ (v.drop 1) f1 (by omega) hk, List.drop_drop, show 1 + (runL gapB v 0 - 1) = runL gapB v 0 by omega,
              ih _ false (f1 - (runL gapB v 0 - 1)) f2 (by omega) (by rw [List.length_drop] at *; omega) (by omega)]
            generalize runL gapB v 0 = g at *
            obtain ⟨g, rfl⟩ : ∃ g', g = g' + 1 := ⟨g - 1, by omega⟩
            match v, hv with
            | c :: v, _ => simp [asI, nth]
/-- There are no more characters than bytes. -/
theorem wdsM_len {wd : List Nat → Option (List Int × Nat)} {cu : List Nat → Int × Nat} (h : WdOk wd cu) (hl : ∀ v r, wd v = some r → r.1.length ≤ r.2 ∧ r.2 ≤ v.length) : ∀ (f : Nat) (b : Bool) (v : List Nat), (wdsM wd cu f b v).length ≤ v.length
  | 0, _, _ => Nat.zero_le _
  | f + 1, b, v => by
    by_cases hv : v.length = 0
    · rw [wdsM_nil hv]; exact Nat.zero_le _
    · have hs : (skp wd b v).length ≤ v.length := by
        unfold skp
        split
        · rw [List.length_drop]; omega
        · exact Nat.le_refl _
      cases hw : wd (skp wd b v) with
      | some r =>
        have h1 := hl _ r hw
        have ih := wdsM_len h hl f true ((skp wd b v).drop r.2)
        rw [List.length_drop] at ih
        rw [wdsM_word hv hw, List.length_append]; omega
      | none =>
        have h0 : 0 < (skp wd b v).length := by
          by_cases hc : b = true ∧ 0 < runL gapB v 0 ∧ (wd (v.drop (runL gapB v 0))).isSome = true
          · rw [skp_yes hc]
            obtain ⟨r, hr⟩ := Option.isSome_iff_exists.1 hc.2.2
            have h61 := h.head _ r hr
            by_cases h0 : (v.drop (runL gapB v 0)).length = 0
            · rw [List.length_eq_zero_iff.1 h0] at h61; cases h61
            · omega
          · rw [skp_no hc]; omega
        have ih := wdsM_len h hl f false ((skp wd b v).drop (cu (skp wd b v)).2)
        have h1 := h.one _ h0
        rw [List.length_drop] at ih
        rw [wdsM_char hv hw, List.length_cons]; omega
/-- What holds of the characters of each word and of each character holds of all. -/
theorem wdsM_all {wd : List Nat → Option (List Int × Nat)} {cu : List Nat → Int × Nat} (p : Int → Bool) (h1 : ∀ v r, wd v = some r → r.1.all p = true) (h2 : ∀ v, p (cu v).1 = true) : ∀ (f : Nat) (b : Bool) (v : List Nat), (wdsM wd cu f b v).all p = true
  | 0, _, _ => rfl
  | f + 1, b, v => by
    by_cases hv : v.length = 0
    · rw [wdsM_nil hv]; rfl
    · cases hw : wd (skp wd b v) with
      | some r => rw [wdsM_word hv hw, List.all_append, h1 _ r hw, wdsM_all p h1 h2 f true _]; rfl
      | none => rw [wdsM_char hv hw, List.all_cons, h2, wdsM_all p h1 h2 f false _]; rfl
end Go.Proofs.YtknbndebfickpaaDoor
