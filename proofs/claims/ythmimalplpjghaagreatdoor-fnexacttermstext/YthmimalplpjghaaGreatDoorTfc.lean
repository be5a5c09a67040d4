/- The fault of terms, in plain words: the model's way by first places, the program's way by a row of what waits; both tell the same; no program in it. -/
import Derived.Test.YthmimalplpjghaaGreatDoorChs0ToTfm
namespace Go.Proofs.YthmimalplpjghaaGreatDoor
open Go.RowKit

/-- The place of the first term of all that are in the one at a. -/
def fsF (l : List TmR) : Nat → Nat → Nat
  | 0, a => a
  | f + 1, a => if 9 ≤ (nthTm l a).k then fsF l f ((nthTm l a).l).toNat else a
def fsV (l : List TmR) (a : Nat) : Nat := fsF l (a + 1) a
/-- The first n terms are of what stands ahead of them. -/
def VP (l : List TmR) (n : Nat) : Prop := ∀ j, j < n → 9 ≤ (nthTm l j).k → 0 ≤ (nthTm l j).l ∧ (nthTm l j).l < (j : Int)
theorem fsF_more {l : List TmR} {n : Nat} (h : VP l n) : ∀ f a, a < n → a < f → fsF l f a = fsF l (a + 1) a := by
  intro f
  induction f using Nat.strongRecOn with
  | _ f ih =>
    intro a ha hf
    match f, hf with
    | f + 1, hf =>
      unfold fsF
      by_cases hk : 9 ≤ (nthTm l a).k
      · rw [if_pos hk, if_pos hk]
        obtain ⟨h0, h1⟩ := h a ha hk
        have hb : ((nthTm l a).l).toNat < a := by omega
        rw [ih f (by omega) _ (by omega) (by omega)]
        rcases Nat.lt_or_ge a (f + 1) with h2 | h2
        · by_cases h3 : a = f
          · subst h3; rw [ih a (by omega) _ (by omega) (by omega)]
          · rw [ih a (by omega) _ (by omega) (by omega)]
        · omega
      · rw [if_neg hk, if_neg hk]
theorem fsV_of {l : List TmR} {n a : Nat} (h : VP l n) (ha : a < n) (hk : 9 ≤ (nthTm l a).k) : fsV l a = fsV l ((nthTm l a).l).toNat := by
  obtain ⟨h0, h1⟩ := h a ha hk
  unfold fsV
  rw [fsF, if_pos hk]
  exact fsF_more h a _ (by omega) (by omega)
theorem fsV_leaf {l : List TmR} {a : Nat} (hk : ¬ 9 ≤ (nthTm l a).k) : fsV l a = a := by
  unfold fsV
  rw [fsF, if_neg hk]
theorem fsV_le {l : List TmR} {n : Nat} (h : VP l n) : ∀ a, a < n → fsV l a ≤ a := by
  intro a
  induction a using Nat.strongRecOn with
  | _ a ih =>
    intro ha
    by_cases hk : 9 ≤ (nthTm l a).k
    · obtain ⟨h0, h1⟩ := h a ha hk
      rw [fsV_of h ha hk]
      have := ih ((nthTm l a).l).toNat (by omega) (by omega)
      omega
    · rw [fsV_leaf hk]; exact Nat.le_refl _

/-- What it is of stands just ahead of it: the model's way. -/
def bhV (l : List TmR) (i : Nat) : Bool :=
  if (nthTm l i).k = 9 then decide (0 < i) && decide ((nthTm l i).l = (i : Int) - 1)
  else if twK (nthTm l i).k then decide (1 < i) && (decide ((nthTm l i).r = (i : Int) - 1) && (decide (0 < fsV l (i - 1)) && decide ((nthTm l i).l = (fsV l (i - 1) : Int) - 1)))
  else true
def tmG (l : List TmR) : Nat → Nat → Int
  | 0, _ => if fsV l (l.length - 1) = 0 then 0 else 1
  | f + 1, i => if fmT (nthTm l i) then (if vlT (nthTm l i) = 0 then (if bhV l i then tmG l f (i + 1) else 1) else vlT (nthTm l i)) else 1
/-- THE FAULT OF TERMS. -/
def tmV (l : List TmR) : Int := if 1 ≤ l.length ∧ l.length ≤ 12 then tmG l l.length 0 else 2

theorem fmT_k {o : TmR} (h : fmT o = true) : 1 ≤ o.k ∧ o.k ≤ 11 := by
  unfold fmT at h
  simp only [Bool.and_eq_true] at h
  exact of_decide_eq_true h.1
theorem VP.next {l : List TmR} {i : Nat} (h : VP l i) (hf : fmT (nthTm l i) = true) (hb : bhV l i = true) : VP l (i + 1) := by
  intro j hj hk
  rcases Nat.lt_or_ge j i with h' | h'
  · exact h j h' hk
  · obtain rfl : j = i := by omega
    have hkk := fmT_k hf
    unfold bhV at hb
    by_cases h9 : (nthTm l j).k = 9
    · rw [if_pos h9] at hb
      simp at hb
      omega
    · rw [if_neg h9] at hb
      have ht : twK (nthTm l j).k = true := by unfold twK; simp; omega
      rw [if_pos ht] at hb
      simp at hb
      obtain ⟨h1, h2, h3, h4⟩ := hb
      have := fsV_le h (j - 1) (by omega)
      omega

/-- The places of what it is of, the last one first. -/
def prT (o : TmR) : List Int := if o.k = 9 then [o.l] else if twK o.k then [o.r, o.l] else []
theorem prT_rev (o : TmR) : (plT o).reverse = prT o := by
  unfold plT prT
  split
  · rfl
  · split <;> rfl
/-- The program's way: what waits, the last one first. -/
def tfG (l : List TmR) : Nat → Nat → List Int → Int
  | 0, _, st => if st.length = 1 then 0 else 1
  | f + 1, i, st => if owF (nthTm l i) = 0 then (if st.take (prT (nthTm l i)).length = prT (nthTm l i) then tfG l f (i + 1) ((i : Int) :: st.drop (prT (nthTm l i)).length) else 1) else owF (nthTm l i)
def tfV (l : List TmR) : Int := if 1 ≤ l.length ∧ l.length ≤ 12 then tfG l l.length 0 [] else 2
/-- What waits tiles the first i places. -/
def Tile (l : List TmR) : List Int → Nat → Prop
  | [], i => i = 0
  | s :: st, i => s = (i : Int) - 1 ∧ 0 < i ∧ Tile l st (fsV l (i - 1))

theorem tile_step {l : List TmR} {i : Nat} {st : List Int} (h : VP l i) (hT : Tile l st i) (hf : fmT (nthTm l i) = true) :
    (st.take (prT (nthTm l i)).length = prT (nthTm l i) ↔ bhV l i = true) ∧ (bhV l i = true → Tile l ((i : Int) :: st.drop (prT (nthTm l i)).length) (i + 1)) := by
  have hkk := fmT_k hf
  have hnx : bhV l i = true → VP l (i + 1) := fun hb => h.next hf hb
  by_cases h9 : (nthTm l i).k = 9
  · have hp : prT (nthTm l i) = [(nthTm l i).l] := by unfold prT; rw [if_pos h9]
    have hb : bhV l i = (decide (0 < i) && decide ((nthTm l i).l = (i : Int) - 1)) := by unfold bhV; rw [if_pos h9]
    rw [hp]
    match st, hT with
    | [], hT =>
      have hi : i = 0 := hT
      subst hi
      rw [hb]
      simp
    | s :: st, hT =>
      obtain ⟨h1, h2, h3⟩ := hT
      refine ⟨by rw [hb]; simp; omega, fun hb' => ?_⟩
      have hV := hnx hb'
      rw [hb] at hb'
      simp at hb'
      refine ⟨by omega, by omega, ?_⟩
      show Tile l st (fsV l i)
      rw [fsV_of hV (by omega) (by omega), show ((nthTm l i).l).toNat = i - 1 by omega]
      exact h3
  · by_cases ht : twK (nthTm l i).k = true
    · have hp : prT (nthTm l i) = [(nthTm l i).r, (nthTm l i).l] := by unfold prT; rw [if_neg h9, if_pos ht]
      have hb : bhV l i = (decide (1 < i) && (decide ((nthTm l i).r = (i : Int) - 1) && (decide (0 < fsV l (i - 1)) && decide ((nthTm l i).l = (fsV l (i - 1) : Int) - 1)))) := by unfold bhV; rw [if_neg h9, if_pos ht]
      have h9k : 9 ≤ (nthTm l i).k := by unfold twK at ht; simp at ht; omega
      rw [hp]
      match st, hT with
      | [], hT =>
        have hi : i = 0 := hT
        subst hi
        rw [hb]
        simp
      | [s], hT =>
        obtain ⟨h1, h2, h3⟩ := hT
        have h3' : fsV l (i - 1) = 0 := h3
        rw [hb, h3']
        simp
      | s :: s2 :: st, hT =>
        obtain ⟨h1, h2, h3, h4, h5⟩ := hT
        have hle := fsV_le h (i - 1) (by omega)
        refine ⟨by rw [hb]; simp; omega, fun hb' => ?_⟩
        have hV := hnx hb'
        rw [hb] at hb'
        simp at hb'
        refine ⟨by omega, by omega, ?_⟩
        show Tile l st (fsV l i)
        rw [fsV_of hV (by omega) h9k, show ((nthTm l i).l).toNat = fsV l (i - 1) - 1 by omega]
        exact h5
    · have hp : prT (nthTm l i) = [] := by unfold prT; rw [if_neg h9, if_neg ht]
      have hb : bhV l i = true := by unfold bhV; rw [if_neg h9, if_neg ht]
      rw [hp]
      refine ⟨by simp [hb], fun _ => ⟨by omega, by omega, ?_⟩⟩
      show Tile l st (fsV l i)
      rw [fsV_leaf (by unfold twK at ht; simp at ht; omega)]
      exact hT
theorem tile_end {l : List TmR} {i : Nat} {st : List Int} (hT : Tile l st i) (hi : 0 < i) : st.length = 1 ↔ fsV l (i - 1) = 0 := by
  match st, hT with
  | [], hT => have : i = 0 := hT; omega
  | [s], hT => exact ⟨fun _ => hT.2.2, fun _ => rfl⟩
  | s :: s2 :: st, hT =>
    have := hT.2.2.2.1
    exact ⟨fun h => by simp at h, fun h => by omega⟩
theorem tf_mf_go {l : List TmR} : ∀ f i st, i + f = l.length → 0 < l.length → VP l i → Tile l st i → tfG l f i st = tmG l f i := by
  intro f
  induction f with
  | zero =>
    intro i st hi hl hV hT
    unfold tfG tmG
    have := tile_end hT (by omega)
    rw [show l.length - 1 = i - 1 by omega]
    by_cases h : st.length = 1
    · rw [if_pos h, if_pos (this.1 h)]
    · rw [if_neg h, if_neg (fun h' => h (this.2 h'))]
  | succ f ih =>
    intro i st hi hl hV hT
    unfold tfG tmG
    cases hf : fmT (nthTm l i) with
    | false =>
      have : owF (nthTm l i) = 1 := by unfold owF; rw [hf]; rfl
      rw [this]; rfl
    | true =>
      have ho : owF (nthTm l i) = vlT (nthTm l i) := by unfold owF; rw [hf]; rfl
      rw [ho]
      by_cases hv : vlT (nthTm l i) = 0
      · rw [if_pos hv, if_pos rfl, if_pos hv]
        obtain ⟨h1, h2⟩ := tile_step hV hT hf
        cases hb : bhV l i with
        | true =>
          rw [if_pos (h1.2 hb), if_pos rfl]
          exact ih (i + 1) _ (by omega) hl (hV.next hf hb) (h2 hb)
        | false =>
          rw [if_neg (fun h => by rw [h1.1 h] at hb; cases hb)]; rfl
      · rw [if_neg hv, if_pos rfl, if_neg hv]
/-- BOTH WAYS TELL THE SAME. -/
theorem tf_mf (l : List TmR) : tfV l = tmV l := by
  unfold tfV tmV
  by_cases h : 1 ≤ l.length ∧ l.length ≤ 12
  · rw [if_pos h, if_pos h]
    exact tf_mf_go l.length 0 [] (by omega) (by omega) (fun j hj => by omega) rfl
  · rw [if_neg h, if_neg h]
end Go.Proofs.YthmimalplpjghaaGreatDoor
