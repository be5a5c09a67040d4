/- SliceOf, the program's and the model's: by one plain function. -/
import Derived.Test.YtkjnhcnbbojajaaMus
import Derived.Test.YtkjnhcnbbojajaaCpy
import Derived.Test.YtkjnhcnbbojajaaChs0
namespace Go.Proofs.Ytkjnhcnbbojajaa
open Go.RowKit

/-- What SliceOf answers. -/
def slV (d : List Nat) (f n : Int) : Int × List Nat := if 400 < d.length then (2, []) else if (0 ≤ f ∧ f ≤ 400) ∧ (0 ≤ n ∧ n ≤ 400) then (0, (d.take (min (f.toNat + n.toNat) d.length)).drop (min f.toNat d.length)) else (3, [])

theorem isBetween_s (c a b : Int) (w : World) : Calls Try.prog 38 #[.int .i64 c, .int .i64 a, .int .i64 b] w fun e w' => e = .returned (.bool (decide (a ≤ c ∧ c ≤ b))) ∧ w = w' := by
  by_cases h1 : a ≤ c
  · by_cases h2 : c ≤ b
    · rw [decide_eq_true (⟨h1, h2⟩ : a ≤ c ∧ c ≤ b)]
      go_enter Try.func38, Try.ntmps38
      go_wp2
      go_ret
      exact ⟨rfl, rfl⟩
    · rw [decide_eq_false (fun h : a ≤ c ∧ c ≤ b => h2 h.2)]
      go_enter Try.func38, Try.ntmps38
      go_wp2
      go_ret
      exact ⟨rfl, rfl⟩
  · rw [decide_eq_false (fun h : a ≤ c ∧ c ≤ b => h1 h.1)]
    go_enter Try.func38, Try.ntmps38
    go_wp2
    go_ret
    exact ⟨rfl, rfl⟩
theorem l1Min_s (x y : Int) (w : World) : Calls Try.prog 29 #[.int .i64 x, .int .i64 y] w fun e w' => e = .returned (.int .i64 (if x < y then x else y)) ∧ w = w' := by
  by_cases h : x < y
  · rw [if_pos h]
    go_enter Try.func29, Try.ntmps29
    go_wp2
    go_ret
    exact ⟨rfl, rfl⟩
  · rw [if_neg h]
    go_enter Try.func29, Try.ntmps29
    go_wp2
    go_ret
    exact ⟨rfl, rfl⟩

theorem rd_takeS {w : World} {a : Option Addr} {l : List Nat} (h : Rd w a l) (k : Nat) : Rd w a (l.take k) := by
  rcases h with h | ⟨b, off, h1, h2, h3⟩
  · subst h; exact .inl (by simp)
  · refine .inr ⟨b, off, h1, h2, fun i hi => ?_⟩
    rw [List.length_take] at hi
    have e : nth (l.take k) i = nth l i := by
      unfold nth
      rw [List.getD_eq_getElem?_getD, List.getD_eq_getElem?_getD, List.getElem?_take, if_pos (by omega)]
    rw [e]
    exact h3 i (by omega)


set_option maxHeartbeats 1600000 in
set_option maxRecDepth 100000 in
theorem sliceIn_any (b m : Nat) (d : List Nat) (f n : Int) (w : World) (hr : Rd w (some ⟨b, 0, none⟩) d) (hl : d.length = m) :
    Calls Try.prog 33 #[.slice (some ⟨b, 0, none⟩) m m, .int .i64 f, .int .i64 n] w (SeeB (slV d f n) w) := by
  by_cases h4 : 400 < m
  · have h4' : (400 : Int) < (m : Int) := by omega
    have e : slV d f n = (2, []) := if_pos (by omega)
    rw [e]
    go_enter Try.func33, Try.ntmps33
    go_wp2
    exact ⟨rfl, .inr ⟨by simp, rfl⟩, Below.refl _ _⟩
  · have h4' : ¬ (400 : Int) < (m : Int) := by omega
    by_cases hf : 0 ≤ f ∧ f ≤ 400
    · by_cases hn : 0 ≤ n ∧ n ≤ 400
      · obtain ⟨F, rfl⟩ : ∃ F : Nat, f = (F : Int) := ⟨f.toNat, by omega⟩
        obtain ⟨N, rfl⟩ : ∃ N : Nat, n = (N : Int) := ⟨n.toNat, by omega⟩
        have e : slV d (F : Int) (N : Int) = (0, (d.take (min (F + N) m)).drop (min F m)) := by unfold slV; rw [if_neg (by omega), if_pos ⟨hf, hn⟩, hl]; simp
        rw [e]
        have hF4 : F ≤ 400 := by omega
        have hN4 : N ≤ 400 := by omega
        have hFi : (F : Int) ≤ 400 := by omega
        have hNi : (N : Int) ≤ 400 := by omega
        have hF0 : (0 : Int) ≤ (F : Int) := by omega
        have hN0 : (0 : Int) ≤ (N : Int) := by omega
        clear e
        go_enter Try.func33, Try.ntmps33
        go_wp2_with fail
        refine (isBetween_s (F : Int) 0 400 _).mono ?_
        rintro e w1 ⟨rfl, rfl⟩
        rw [decide_eq_true hf]
        go_wp2_with fail
        refine (isBetween_s (N : Int) 0 400 _).mono ?_
        rintro e w1 ⟨rfl, rfl⟩
        rw [decide_eq_true hn]
        clear hf hn
        by_cases c1 : m < F
        · have c1' : (m : Int) < (F : Int) := by omega
          have c2' : (m : Int) < (F : Int) + (N : Int) := by omega
          have hcl : ((d.take (m)).drop (m)).length = m - (m) := by rw [List.length_drop, List.length_take]; omega
          have HL : (d.take (min (F + N) m)).drop (min F m) = (d.take (m)).drop (m) := by rw [show min F m = m by omega, show min (F + N) m = m by omega]
          have HR1 : Hid (Rd w (some ⟨b, m, none⟩) ((d.take (m)).drop (m))) := by
            have h := (rd_takeS hr (m)).drop (m)
            rw [Nat.zero_add] at h; exact h
          have HR0 : Hid (m = m → Rd w (some ⟨b, 0, none⟩) ((d.take (m)).drop (m))) := fun hmf => by
            rw [List.length_eq_zero_iff.1 (show ((d.take (m)).drop (m)).length = 0 by omega)]; exact .inl rfl
          go_wp2_with fail
          refine (copied_any _ _ _ ((d.take m).drop m) _ (by omega) (HR0.out (by first | trivial | omega)) (by omega)).mono ?_
          rintro e w1 ⟨v, rfl, ho, hb⟩
          have HO : Hid (Own w1 w.heap.size v ((d.take (min (F + N) m)).drop (min F m))) := by show Own _ _ _ _; rw [HL]; exact ho
          obtain ⟨a, cp, hv, -, -⟩ := ho.form
          obtain ⟨K, hK⟩ : ∃ K, ((d.take m).drop m).length = K := ⟨_, rfl⟩
          rw [hK] at hv
          subst hv
          clear ho HR1 HR0 HL hcl hK
          go_wp2
          go_ret
          exact ⟨.inl ⟨rfl, _, rfl, HO.out⟩, hb⟩
        · have c1' : ¬ (m : Int) < (F : Int) := by omega
          by_cases c2 : m < F + N
          · have c2' : (m : Int) < (F : Int) + (N : Int) := by omega
            have c3' : (F : Int) ≤ (m : Int) := by omega
            have hcl : ((d.take (m)).drop (F)).length = m - (F) := by rw [List.length_drop, List.length_take]; omega
            have HL : (d.take (min (F + N) m)).drop (min F m) = (d.take (m)).drop (F) := by rw [show min F m = F by omega, show min (F + N) m = m by omega]
            have HR1 : Hid (Rd w (some ⟨b, F, none⟩) ((d.take (m)).drop (F))) := by
              have h := (rd_takeS hr (m)).drop (F)
              rw [Nat.zero_add] at h; exact h
            have HR0 : Hid (m = F → Rd w (some ⟨b, 0, none⟩) ((d.take (m)).drop (F))) := fun hmf => by
              rw [List.length_eq_zero_iff.1 (show ((d.take (m)).drop (F)).length = 0 by omega)]; exact .inl rfl
            go_wp2_with fail
            case inl =>
              refine (copied_any _ _ _ ((d.take m).drop F) _ (by omega) (HR0.out (by first | trivial | omega)) (by omega)).mono ?_
              rintro e w1 ⟨v, rfl, ho, hb⟩
              have HO : Hid (Own w1 w.heap.size v ((d.take (min (F + N) m)).drop (min F m))) := by show Own _ _ _ _; rw [HL]; exact ho
              obtain ⟨a, cp, hv, -, -⟩ := ho.form
              obtain ⟨K, hK⟩ : ∃ K, ((d.take m).drop F).length = K := ⟨_, rfl⟩
              rw [hK] at hv
              subst hv
              clear ho HR1 HR0 HL hcl hK
              go_wp2
              go_ret
              exact ⟨.inl ⟨rfl, _, rfl, HO.out⟩, hb⟩
            case inr =>
              refine (copied_any _ _ _ ((d.take m).drop F) _ (by omega) HR1.out (by omega)).mono ?_
              rintro e w1 ⟨v, rfl, ho, hb⟩
              have HO : Hid (Own w1 w.heap.size v ((d.take (min (F + N) m)).drop (min F m))) := by show Own _ _ _ _; rw [HL]; exact ho
              obtain ⟨a, cp, hv, -, -⟩ := ho.form
              obtain ⟨K, hK⟩ : ∃ K, ((d.take m).drop F).length = K := ⟨_, rfl⟩
              rw [hK] at hv
              subst hv
              clear ho HR1 HR0 HL hcl hK
              go_wp2
              go_ret
              exact ⟨.inl ⟨rfl, _, rfl, HO.out⟩, hb⟩
          · have c2' : ¬ (m : Int) < (F : Int) + (N : Int) := by omega
            have c3' : (F : Int) + (N : Int) ≤ (m : Int) := by omega
            have hcl : ((d.take (F + N)).drop (F)).length = F + N - (F) := by rw [List.length_drop, List.length_take]; omega
            have HL : (d.take (min (F + N) m)).drop (min F m) = (d.take (F + N)).drop (F) := by rw [show min F m = F by omega, show min (F + N) m = F + N by omega]
            have HR1 : Hid (Rd w (some ⟨b, F, none⟩) ((d.take (F + N)).drop (F))) := by
              have h := (rd_takeS hr (F + N)).drop (F)
              rw [Nat.zero_add] at h; exact h
            have HR0 : Hid (m = F → Rd w (some ⟨b, 0, none⟩) ((d.take (F + N)).drop (F))) := fun hmf => by
              rw [List.length_eq_zero_iff.1 (show ((d.take (F + N)).drop (F)).length = 0 by omega)]; exact .inl rfl
            go_wp2_with fail
            case inl =>
              refine (copied_any _ _ _ ((d.take (F + N)).drop F) _ (by omega) (HR0.out (by first | trivial | omega)) (by omega)).mono ?_
              rintro e w1 ⟨v, rfl, ho, hb⟩
              have HO : Hid (Own w1 w.heap.size v ((d.take (min (F + N) m)).drop (min F m))) := by show Own _ _ _ _; rw [HL]; exact ho
              obtain ⟨a, cp, hv, -, -⟩ := ho.form
              obtain ⟨K, hK⟩ : ∃ K, ((d.take (F + N)).drop F).length = K := ⟨_, rfl⟩
              rw [hK] at hv
              subst hv
              clear ho HR1 HR0 HL hcl hK
              go_wp2
              go_ret
              exact ⟨.inl ⟨rfl, _, rfl, HO.out⟩, hb⟩
            case inr =>
              refine (copied_any _ _ _ ((d.take (F + N)).drop F) _ (by omega) HR1.out (by omega)).mono ?_
              rintro e w1 ⟨v, rfl, ho, hb⟩
              have HO : Hid (Own w1 w.heap.size v ((d.take (min (F + N) m)).drop (min F m))) := by show Own _ _ _ _; rw [HL]; exact ho
              obtain ⟨a, cp, hv, -, -⟩ := ho.form
              obtain ⟨K, hK⟩ : ∃ K, ((d.take (F + N)).drop F).length = K := ⟨_, rfl⟩
              rw [hK] at hv
              subst hv
              clear ho HR1 HR0 HL hcl hK
              go_wp2
              go_ret
              exact ⟨.inl ⟨rfl, _, rfl, HO.out⟩, hb⟩
      · have e : slV d f n = (3, []) := by unfold slV; rw [if_neg (by omega), if_neg (fun h => hn h.2)]
        rw [e]
        go_enter Try.func33, Try.ntmps33
        go_wp2_with fail
        refine (isBetween_s f 0 400 _).mono ?_
        rintro e w1 ⟨rfl, rfl⟩
        rw [decide_eq_true hf]
        go_wp2_with fail
        refine (isBetween_s n 0 400 _).mono ?_
        rintro e w1 ⟨rfl, rfl⟩
        rw [decide_eq_false hn]
        go_wp2
        exact ⟨rfl, .inr ⟨by simp, rfl⟩, Below.refl _ _⟩
    · have e : slV d f n = (3, []) := by unfold slV; rw [if_neg (by omega), if_neg (fun h => hf h.1)]
      rw [e]
      go_enter Try.func33, Try.ntmps33
      go_wp2_with fail
      refine (isBetween_s f 0 400 _).mono ?_
      rintro e w1 ⟨rfl, rfl⟩
      rw [decide_eq_false hf]
      go_wp2
      exact ⟨rfl, .inr ⟨by simp, rfl⟩, Below.refl _ _⟩
end Go.Proofs.Ytkjnhcnbbojajaa
