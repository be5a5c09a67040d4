/- Parts by plain functions: where each lies, in which it is; its path. -/
import Derived.Test.YtkjnhcnbbojajaaDoorMrkP
import Derived.Test.YtkjnhcnbbojajaaDoorRdp0
namespace Go.Proofs.YtkjnhcnbbojajaaDoor
open Go.RowKit

/-- Each part lies within the bytes, and in one ahead of it (the first in none). -/
def OkP (d : List Nat) (l : List PtP) : Prop := ∀ i, i < l.length → (∃ f t : Nat, (nthP l i).2.1 = ((f : Int), (t : Int)) ∧ f ≤ t ∧ t ≤ d.length) ∧ ((nthP l i).2.2.1 = -1 ∧ i = 0 ∨ ∃ u : Nat, (nthP l i).2.2.1 = (u : Int) ∧ u < i)
theorem nthP_left {a b : List PtP} {i : Nat} (h : i < a.length) : nthP (a ++ b) i = nthP a i := by
  unfold nthP
  rw [List.getD_eq_getElem?_getD, List.getD_eq_getElem?_getD, List.getElem?_append_left h]
theorem nthP_last (a : List PtP) (x : PtP) : nthP (a ++ [x]) a.length = x := by
  unfold nthP
  rw [List.getD_eq_getElem?_getD, List.getElem?_append_right (Nat.le_refl _), Nat.sub_self]; rfl
theorem OkP.snoc {d : List Nat} {l : List PtP} {p : PtP} (h : OkP d l) (h1 : ∃ f t : Nat, p.2.1 = ((f : Int), (t : Int)) ∧ f ≤ t ∧ t ≤ d.length) (h2 : p.2.2.1 = -1 ∧ l = [] ∨ ∃ u : Nat, p.2.2.1 = (u : Int) ∧ u < l.length) : OkP d (l ++ [p]) := by
  intro i hi
  rw [List.length_append, List.length_singleton] at hi
  rcases Nat.lt_or_ge i l.length with hlt | hge
  · rw [nthP_left hlt]; exact h i hlt
  · have e : i = l.length := by omega
    subst e
    rw [nthP_last]
    refine ⟨h1, ?_⟩
    rcases h2 with ⟨a, b⟩ | ⟨u, a, b⟩
    · exact .inl ⟨a, by rw [b]; rfl⟩
    · exact .inr ⟨u, a, b⟩
theorem OkP.nil (d : List Nat) : OkP d [] := fun i hi => by simp at hi
theorem ptN_in {d : List Nat} {fr tt : Nat} {u nu : Int} (h1 : fr ≤ tt) (h2 : tt ≤ d.length) : ∃ f t : Nat, (ptN d fr tt u nu).2.1 = ((f : Int), (t : Int)) ∧ f ≤ t ∧ t ≤ d.length := by
  have hcl : (cutN d fr tt).length = tt - fr := by unfold cutN; rw [List.length_drop, List.length_take]; omega
  have hat : (oneV (cutN d fr tt)).2.1 ≤ tt - fr := hcl ▸ oneV_at (cutN d fr tt)
  exact ⟨_, tt, rfl, by omega, h2⟩
theorem adL_ok {d : List Nat} {F : Nat → Nat → Int → Int → List PtP → List PtP} {b L n : Nat} (hL : L + b ≤ d.length)
    (hF : ∀ (x y : Nat) (u nu : Int) (acc : List PtP), x ≤ y → y ≤ d.length → OkP d acc → (∃ q : Nat, u = (q : Int) ∧ q < acc.length) → OkP d (F x y u nu acc) ∧ acc.length ≤ (F x y u nu acc).length) :
    ∀ (l : List RngP) (i : Nat) (acc : List PtP), (∀ s ∈ l, InL L s) → OkP d acc → n < acc.length → OkP d (adL F b (n : Int) l i acc) ∧ acc.length ≤ (adL F b (n : Int) l i acc).length
  | [], _, acc, _, h, _ => ⟨h, Nat.le_refl _⟩
  | s :: r, i, acc, hs, h, hn => by
    obtain ⟨x, y, e, h1, h2⟩ := hs s List.mem_cons_self
    subst e
    obtain ⟨k1, k2⟩ := hF (((x : Int)).toNat + b) (((y : Int)).toNat + b) (n : Int) ((i + 1 : Nat) : Int) acc (by omega) (by omega) h ⟨n, rfl, hn⟩
    obtain ⟨k3, k4⟩ := adL_ok hL hF r (i + 1) _ (fun s h => hs s (List.mem_cons_of_mem _ h)) k1 (Nat.lt_of_lt_of_le hn k2)
    exact ⟨k3, Nat.le_trans k2 k4⟩
theorem adV_ok (d : List Nat) (hd : d.length ≤ 1048576) : ∀ (D fr tt : Nat) (u nu : Int) (acc : List PtP), fr ≤ tt → tt ≤ d.length → OkP d acc → (u = -1 ∧ acc = [] ∨ ∃ q : Nat, u = (q : Int) ∧ q < acc.length) → OkP d (adV d D fr tt u nu acc) ∧ acc.length ≤ (adV d D fr tt u nu acc).length
  | D, fr, tt, u, nu, acc, h1, h2, h3, h4 => by
    by_cases h8 : acc.length = 8
    · rw [adV_full h8]; exact ⟨h3, Nat.le_refl _⟩
    · have hs : OkP d (acc ++ [ptN d fr tt u nu]) := h3.snoc (ptN_in h1 h2) h4
      by_cases hm : (oneV (cutN d fr tt)).2.2 = []
      · rw [adV_leaf h8 hm]
        exact ⟨hs, by simp⟩
      · cases D with
        | zero => rw [adV_zero h8]; exact ⟨hs, by simp⟩
        | succ D =>
          have hcl : (cutN d fr tt).length = tt - fr := by unfold cutN; rw [List.length_drop, List.length_take]; omega
          have hat : (oneV (cutN d fr tt)).2.1 ≤ tt - fr := hcl ▸ oneV_at (cutN d fr tt)
          rw [adV_in h8 hm]
          generalize (oneV (cutN d fr tt)).2.1 = at0 at *
          have hcl2 : (cutN d (fr + at0) tt).length = tt - (fr + at0) := by unfold cutN; rw [List.length_drop, List.length_take]; omega
          obtain ⟨k1, k2⟩ := adL_ok (F := adV d D) (b := fr + at0) (L := (cutN d (fr + at0) tt).length) (n := acc.length) (by omega) (fun x y u nu acc a b c e => adV_ok d hd D x y u nu acc a b c (.inr e)) _ 0 (acc ++ [ptN d fr tt u nu]) (spL_in _ _ _ (by omega)) hs (by simp)
          refine ⟨k1, ?_⟩
          rw [List.length_append, List.length_singleton] at k2
          omega
/-- All parts of a message are so; there is one at least. -/
theorem parts_ok (d : List Nat) (hd : d.length ≤ 400) : OkP d (adV d 2 0 d.length (-1) 0 []) := (adV_ok d (by omega) 2 0 d.length (-1) 0 [] (Nat.zero_le _) (Nat.le_refl _) (OkP.nil d) (.inl ⟨rfl, rfl⟩)).1
theorem parts_le (d : List Nat) : (adV d 2 0 d.length (-1) 0 []).length ≤ 8 := adV_le d 2 0 d.length (-1) 0 [] (by simp)

/-- The path of the part at a place, by so many steps at most. -/
def pthF (l : List PtP) : Nat → Nat → List Int
  | 0, _ => []
  | f + 1, k => if (nthP l k).2.2.1 < 0 then [] else pthF l f (nthP l k).2.2.1.toNat ++ [(nthP l k).2.2.2]
def pthV (l : List PtP) (k : Nat) : List Int := pthF l (k + 1) k
theorem pthF_more {d : List Nat} {l : List PtP} (h : OkP d l) : ∀ (f k : Nat), k < l.length → k < f → pthF l f k = pthV l k
  | f + 1, k, hk, hf => by
    unfold pthV
    simp only [pthF]
    split
    · rfl
    · rename_i hn
      rcases (h k hk).2 with ⟨e, _⟩ | ⟨u, e, hu⟩
      · rw [e] at hn; omega
      · rw [e, Int.toNat_natCast, pthF_more h f u (by omega) (by omega), pthF_more h k u (by omega) hu]
theorem pthV_top {l : List PtP} {k : Nat} (h : (nthP l k).2.2.1 < 0) : pthV l k = [] := by unfold pthV; simp only [pthF]; rw [if_pos h]
theorem pthV_step {d : List Nat} {l : List PtP} (h : OkP d l) {k u : Nat} (hk : k < l.length) (e : (nthP l k).2.2.1 = (u : Int)) (hu : u < k) : pthV l k = pthV l u ++ [(nthP l k).2.2.2] := by
  unfold pthV
  simp only [pthF]
  rw [if_neg (by omega), e, Int.toNat_natCast]
  rw [show (if (nthP l u).2.2.1 < 0 then [] else pthF l u (nthP l u).2.2.1.toNat ++ [(nthP l u).2.2.2]) = pthF l (u + 1) u from rfl, pthF_more h k u (by omega) hu]
  rfl
theorem pthV_le {d : List Nat} {l : List PtP} (h : OkP d l) : ∀ (f k : Nat), k < f → k < l.length → (pthV l k).length ≤ k
  | f + 1, k, hf, hk => by
    rcases (h k hk).2 with ⟨e, _⟩ | ⟨u, e, hu⟩
    · rw [pthV_top (by omega)]; simp
    · rw [pthV_step h hk e hu, List.length_append, List.length_singleton]
      have := pthV_le h f u (by omega) (by omega)
      omega
end Go.Proofs.YtkjnhcnbbojajaaDoor
