/- BuildMulti by plain functions: a line that begins with two dashes, told by lines and told by places. -/
import Derived.Test.YthphokjhonddcaaHsd
namespace Go.Proofs.Ythphokjhonddcaa
open Go.RowKit

/-- Two dashes at a place. -/
def dd (d : List Nat) (i : Nat) : Prop := i + 1 < d.length ∧ nth d i = 45 ∧ nth d (i + 1) = 45
theorem eoL_no {d : List Nat} : ∀ (n k i : Nat), d.length - k ≤ n → k ≤ i → i < eoL d k → nth d i ≠ 10
  | 0, k, i, h, h1, h2 => by
    rw [eoL_end (by omega)] at h2; omega
  | n + 1, k, i, h, h1, h2 => by
    by_cases hk : k < d.length
    · by_cases hc : nth d k = 10
      · rw [eoL_here hk hc] at h2; omega
      · rcases Nat.lt_or_ge k i with h' | h'
        · rw [eoL_step hk hc] at h2
          exact eoL_no n (k + 1) i (by omega) (by omega) h2
        · obtain rfl : i = k := by omega
          exact hc
    · rw [eoL_end (by omega)] at h2; omega
theorem eoL_lf {d : List Nat} : ∀ (n k : Nat), d.length - k ≤ n → eoL d k < d.length → nth d (eoL d k) = 10
  | 0, k, h, h2 => by rw [eoL_end (by omega)] at h2; omega
  | n + 1, k, h, h2 => by
    by_cases hk : k < d.length
    · by_cases hc : nth d k = 10
      · rw [eoL_here hk hc]; exact hc
      · rw [eoL_step hk hc] at h2 ⊢
        exact eoL_lf n (k + 1) (by omega) h2
    · rw [eoL_end (by omega)] at h2; omega
theorem pre_two {t : List Nat} (hB : IsB t) : Lib.hasPrefix (str t).data.toList [45, 45] = decide (1 < t.length ∧ nth t 0 = 45 ∧ nth t 1 = 45) := by
  have hu : ∀ x : Nat, x < 256 → ((45 : UInt8) == UInt8.ofNat x) = decide (x = 45) := by decide +kernel
  unfold Lib.hasPrefix str
  rw [List.toList_toArray]
  match t, hB with
  | [], _ => rfl
  | [a], _ => simp [List.isPrefixOf]
  | a :: b :: r, hB =>
    have ha := hB a (by simp)
    have hb := hB b (by simp)
    rw [List.map_cons, List.map_cons, List.isPrefixOf, List.isPrefixOf, List.isPrefixOf, hu a ha, hu b hb]
    simp [nth]
theorem line_dd {d : List Nat} (hB : IsB d) {k : Nat} (h : k < d.length) : dsL (str ((d.take (eoL d k)).drop k), (k : Int), (nxL d k : Int)) = true ↔ dd d k := by
  have h1 := eoL_ge d k
  have h2 := eoL_le (l := d) (i := k) (by omega)
  have hn : ∀ i, k ≤ i → i < eoL d k → nth ((d.take (eoL d k)).drop k) (i - k) = nth d i := fun i h3 h4 => by
    unfold nth
    rw [List.getD_eq_getElem?_getD, List.getD_eq_getElem?_getD, List.getElem?_drop, List.getElem?_take, if_pos (by omega), show k + (i - k) = i by omega]
  have hlen : ((d.take (eoL d k)).drop k).length = eoL d k - k := by rw [List.length_drop, List.length_take]; omega
  show Lib.hasPrefix (str ((d.take (eoL d k)).drop k)).data.toList [45, 45] = true ↔ _
  rw [pre_two (isB_drop (isB_take hB _) _), decide_eq_true_eq, hlen]
  unfold dd
  constructor
  · rintro ⟨a1, a2, a3⟩
    have e0 := hn k (Nat.le_refl _) (by omega)
    have e1 := hn (k + 1) (by omega) (by omega)
    rw [Nat.sub_self] at e0
    rw [show k + 1 - k = 1 by omega] at e1
    exact ⟨by omega, by rw [← e0]; exact a2, by rw [← e1]; exact a3⟩
  · rintro ⟨a1, a2, a3⟩
    have b1 : eoL d k = eoL d (k + 1) := eoL_step h (by omega)
    have b2 : eoL d (k + 1) = eoL d (k + 2) := eoL_step (by omega) (by omega)
    have b3 := eoL_ge d (k + 2)
    have e0 := hn k (Nat.le_refl _) (by omega)
    have e1 := hn (k + 1) (by omega) (by omega)
    rw [Nat.sub_self] at e0
    rw [show k + 1 - k = 1 by omega] at e1
    exact ⟨by omega, by rw [e0]; exact a2, by rw [e1]; exact a3⟩
theorem lns_dd {d : List Nat} (hB : IsB d) : ∀ (f k : Nat), d.length ≤ f + k → ((lnsF d f k).any dsL = true ↔ ∃ i, k ≤ i ∧ dd d i ∧ (i = k ∨ nth d (i - 1) = 10))
  | 0, k, h => by
    rw [lnsF]
    constructor
    · intro h'; cases h'
    · rintro ⟨i, h1, h2, -⟩; have := h2.1; omega
  | f + 1, k, h => by
    by_cases hk : k < d.length
    · rw [lnsF_yes hk, List.any_cons, Bool.or_eq_true, line_dd hB hk, lns_dd hB f (nxL d k) (by have := nxL_gt hk; omega)]
      have hg := nxL_gt hk
      have hge := eoL_ge d k
      constructor
      · rintro (h' | ⟨i, h1, h2, h3⟩)
        · exact ⟨k, Nat.le_refl _, h', .inl rfl⟩
        · refine ⟨i, by omega, h2, .inr ?_⟩
          rcases h3 with rfl | h3
          · have hl := h2.1
            unfold nxL at hl ⊢
            by_cases he : eoL d k < d.length
            · rw [if_pos he, Nat.add_sub_cancel]; exact eoL_lf _ k (Nat.le_refl _) he
            · rw [if_neg he] at hl; omega
          · exact h3
      · rintro ⟨i, h1, h2, h3⟩
        by_cases hik : i = k
        · subst hik; exact .inl h2
        · refine .inr ⟨i, ?_, h2, ?_⟩
          · rcases h3 with h3 | h3
            · omega
            · have : ¬ (i - 1 < eoL d k) := fun hlt => eoL_no _ k (i - 1) (Nat.le_refl _) (by omega) hlt h3
              have hl := h2.1
              unfold nxL
              split <;> omega
          · rcases h3 with h3 | h3
            · omega
            · exact .inr h3
    · rw [lnsF_no hk]
      constructor
      · intro h'; cases h'
      · rintro ⟨i, h1, h2, -⟩; have := h2.1; omega
/-- Has it a line that begins with two dashes? -/
theorem has_dd {d : List Nat} (hB : IsB d) : (lns d).any dsL = true ↔ ∃ i, dd d i ∧ (i = 0 ∨ nth d (i - 1) = 10) := by
  unfold lns
  rw [lns_dd hB d.length 0 (by omega)]
  exact ⟨fun ⟨i, _, h⟩ => ⟨i, h⟩, fun ⟨i, h⟩ => ⟨i, Nat.zero_le _, h⟩⟩
end Go.Proofs.Ythphokjhonddcaa
