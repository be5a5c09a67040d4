/- The charset of each part is one that there is, or none. -/
import Derived.Test.YtkjnhcnbbojajaaGreatDoorMrkPToPwi
import Derived.Test.YtkjnhcnbbojajaaGreatDoorVwnToVwo
namespace Go.Proofs.YtkjnhcnbbojajaaGreatDoor
open Go.RowKit

theorem csI_inC (s : ByteArray) : 0 ≤ csI s ∧ csI s ≤ 5 := by
  by_cases h0 : csN 0 = s
  · rw [csI_some (j := 0) (fun i hi => by omega) h0 (by omega)]; decide
  by_cases h1 : csN 1 = s
  · rw [csI_some (j := 1) (fun i hi => match i, hi with | 0, _ => h0) h1 (by omega)]; decide
  by_cases h2 : csN 2 = s
  · rw [csI_some (j := 2) (fun i hi => match i, hi with | 0, _ => h0 | 1, _ => h1) h2 (by omega)]; decide
  by_cases h3 : csN 3 = s
  · rw [csI_some (j := 3) (fun i hi => match i, hi with | 0, _ => h0 | 1, _ => h1 | 2, _ => h2) h3 (by omega)]; decide
  by_cases h4 : csN 4 = s
  · rw [csI_some (j := 4) (fun i hi => match i, hi with | 0, _ => h0 | 1, _ => h1 | 2, _ => h2 | 3, _ => h3) h4 (by omega)]; decide
  rw [csI_none (fun i hi => match i, hi with | 0, _ => h0 | 1, _ => h1 | 2, _ => h2 | 3, _ => h3 | 4, _ => h4)]; decide
theorem oneV_cs (x : List Nat) : 0 ≤ (oneV x).1.2.1 ∧ (oneV x).1.2.1 ≤ 5 := by
  have ht : ∀ t, 0 ≤ (tyV t).2 ∧ (tyV t).2 ≤ 5 := fun t => by
    unfold tyV
    split
    · exact ⟨by decide, by decide⟩
    · split
      · exact ⟨by decide, by decide⟩
      · split
        · unfold chN
          split
          · exact ⟨by decide, by decide⟩
          · exact csI_inC _
        · exact ⟨by decide, by decide⟩
  unfold oneV
  split
  · split
    · exact ⟨(by decide : (0 : Int) ≤ 1), (by decide : (1 : Int) ≤ 5)⟩
    · exact ht _
  · exact ⟨(by decide : (0 : Int) ≤ 0), (by decide : (0 : Int) ≤ 5)⟩
/-- The charset of each part is so. -/
def OkC (l : List PtP) : Prop := ∀ p ∈ l, 0 ≤ p.1.2.1 ∧ p.1.2.1 ≤ 5
theorem OkC.snoc {d : List Nat} {l : List PtP} {fr tt : Nat} {u nu : Int} (h : OkC l) : OkC (l ++ [ptN d fr tt u nu]) := fun p hp => by
  rcases List.mem_append.1 hp with hp | hp
  · exact h p hp
  · rw [List.mem_singleton] at hp; subst hp; exact oneV_cs _
theorem adL_C {F : Nat → Nat → Int → Int → List PtP → List PtP} {b : Nat} {here : Int} (hF : ∀ x y u nu acc, OkC acc → OkC (F x y u nu acc)) : ∀ (l : List RngP) (i : Nat) (acc : List PtP), OkC acc → OkC (adL F b here l i acc)
  | [], _, _, h => h
  | _ :: r, i, _, h => adL_C hF r (i + 1) _ (hF _ _ _ _ _ h)
theorem adV_C (d : List Nat) : ∀ (D fr tt : Nat) (u nu : Int) (acc : List PtP), OkC acc → OkC (adV d D fr tt u nu acc)
  | D, fr, tt, u, nu, acc, h => by
    by_cases h8 : acc.length = 8
    · rw [adV_full h8]; exact h
    · by_cases hm : (oneV (cutN d fr tt)).2.2 = []
      · rw [adV_leaf h8 hm]; exact h.snoc
      · cases D with
        | zero => rw [adV_zero h8]; exact h.snoc
        | succ D =>
          rw [adV_in h8 hm]
          exact adL_C (fun x y u nu acc h => adV_C d D x y u nu acc h) _ _ _ h.snoc
theorem nthP_mem {l : List PtP} {n : Nat} (h : n < l.length) : nthP l n ∈ l := by rw [nthP_get h]; exact List.getElem_mem _
theorem ppV_cs {d : List Nat} {k : Int} (h : (pwV d k).1 = 0) : 0 ≤ (ppV d k).1.2.1 ∧ (ppV d k).1.2.1 ≤ 5 := by
  obtain ⟨e, n, rfl, hn, h0⟩ := pwV_in h
  have hC : OkC (psV d).2 := by
    unfold psV
    split
    · intro p hp; cases hp
    · exact adV_C d 2 0 d.length (-1) 0 [] (fun p hp => by cases hp)
  unfold ppV
  rw [if_pos h, e, Int.toNat_natCast]
  exact hC _ (nthP_mem hn)
end Go.Proofs.YtkjnhcnbbojajaaGreatDoor
