/- No two parts of a message have the same number in the same part; the place of a part by a path. -/
import Derived.Test.YtkjnhcnbbojajaaDoorMemPToMrkF
import Derived.Test.YtkjnhcnbbojajaaDoorRdmToRdp0
import Derived.Test.YtkjnhcnbbojajaaDoorMrkPToPwi
import Derived.Test.YtkjnhcnbbojajaaDoorMemToMrk0
namespace Go.Proofs.YtkjnhcnbbojajaaDoor
open Go.RowKit

/-- In which part a part is, and its number there. -/
def upK (p : PtP) : Int := p.2.2.1
def nuK (p : PtP) : Int := p.2.2.2
def Dis (l : List PtP) : Prop := l.Pairwise fun p q => ¬ (upK p = upK q ∧ nuK p = nuK q)
def UqV (u nu : Int) (acc out : List PtP) : Prop := ∃ rs, out = acc ++ rs ∧ Dis rs ∧ (∀ q ∈ rs, upK q < ((acc.length + rs.length : Nat) : Int)) ∧ ∀ q ∈ rs, (upK q = u ∧ nuK q = nu) ∨ (acc.length : Int) ≤ upK q
theorem adL_uq {F : Nat → Nat → Int → Int → List PtP → List PtP} {b : Nat} {here : Int} (hF : ∀ x y u nu acc, u < ((acc.length : Nat) : Int) → UqV u nu acc (F x y u nu acc)) : ∀ (l : List RngP) (i : Nat) (acc : List PtP), here < ((acc.length : Nat) : Int) →
    ∃ rs, adL F b here l i acc = acc ++ rs ∧ Dis rs ∧ (∀ q ∈ rs, upK q < ((acc.length + rs.length : Nat) : Int)) ∧ ∀ q ∈ rs, (upK q = here ∧ ((i + 1 : Nat) : Int) ≤ nuK q) ∨ (acc.length : Int) ≤ upK q
  | [], i, acc, h => ⟨[], by simp [adL], List.Pairwise.nil, fun q hq => (by cases hq), fun q hq => (by cases hq)⟩
  | s :: r, i, acc, h => by
    obtain ⟨r1, e1, d1, u1, k1⟩ := hF (s.1.toNat + b) (s.2.toNat + b) here ((i + 1 : Nat) : Int) acc h
    have h' : here < (((acc ++ r1).length : Nat) : Int) := by rw [List.length_append]; omega
    obtain ⟨r2, e2, d2, u2, k2⟩ := adL_uq hF r (i + 1) (acc ++ r1) h'
    rw [List.length_append] at u2 k2
    refine ⟨r1 ++ r2, ?_, ?_, ?_, ?_⟩
    · rw [adL, e1, e2, List.append_assoc]
    · refine List.pairwise_append.2 ⟨d1, d2, fun p hp q hq hh => ?_⟩
      have a1 := u1 p hp
      rcases k1 p hp with ⟨a2, a3⟩ | a2 <;> rcases k2 q hq with ⟨a4, a5⟩ | a4 <;> omega
    · intro q hq
      rw [List.length_append]
      rcases List.mem_append.1 hq with hq | hq
      · have := u1 q hq; omega
      · have := u2 q hq; omega
    · intro q hq
      rcases List.mem_append.1 hq with hq | hq
      · rcases k1 q hq with ⟨a2, a3⟩ | a2
        · exact .inl ⟨a2, by omega⟩
        · exact .inr a2
      · rcases k2 q hq with ⟨a2, a3⟩ | a2
        · exact .inl ⟨a2, by omega⟩
        · exact .inr (by omega)
theorem uq_one {d : List Nat} {fr tt : Nat} {u nu : Int} {acc : List PtP} (h : u < ((acc.length : Nat) : Int)) : UqV u nu acc (acc ++ [ptN d fr tt u nu]) :=
  ⟨[ptN d fr tt u nu], rfl, List.pairwise_singleton _ _, fun q hq => by rw [List.mem_singleton.1 hq]; show u < _; rw [List.length_singleton]; omega, fun q hq => by rw [List.mem_singleton.1 hq]; exact .inl ⟨rfl, rfl⟩⟩
theorem uq_none {u nu : Int} {acc : List PtP} : UqV u nu acc acc := ⟨[], by simp, List.Pairwise.nil, fun q hq => (by cases hq), fun q hq => (by cases hq)⟩
theorem adV_uq (d : List Nat) : ∀ (D fr tt : Nat) (u nu : Int) (acc : List PtP), u < ((acc.length : Nat) : Int) → UqV u nu acc (adV d D fr tt u nu acc)
  | 0, fr, tt, u, nu, acc, h => by
    rw [adV]
    split
    · exact uq_none
    · exact uq_one h
  | D + 1, fr, tt, u, nu, acc, h => by
    rw [adV]
    split
    · exact uq_none
    · split
      · exact uq_one h
      · obtain ⟨r2, e2, d2, u2, k2⟩ := adL_uq (fun x y u nu acc h => adV_uq d D x y u nu acc h) (here := (acc.length : Int)) (b := fr + (oneV (cutN d fr tt)).2.1) (spL (bgM (oneV (cutN d fr tt)).2.2) (enM (oneV (cutN d fr tt)).2.2) ((cutN d (fr + (oneV (cutN d fr tt)).2.1) tt).length : Int) (lns (cutN d (fr + (oneV (cutN d fr tt)).2.1) tt))) 0 (acc ++ [ptN d fr tt u nu]) (by rw [List.length_append, List.length_singleton]; omega)
        rw [e2]
        rw [List.length_append, List.length_singleton] at u2 k2
        refine ⟨ptN d fr tt u nu :: r2, by simp, ?_, ?_, ?_⟩
        · refine List.pairwise_cons.2 ⟨fun q hq hh => ?_, d2⟩
          have e : upK (ptN d fr tt u nu) = u := rfl
          rw [e] at hh
          rcases k2 q hq with ⟨a2, -⟩ | a2 <;> omega
        · intro q hq
          rw [List.length_cons]
          rcases List.mem_cons.1 hq with rfl | hq
          · show u < _; omega
          · have := u2 q hq; omega
        · intro q hq
          rcases List.mem_cons.1 hq with rfl | hq
          · exact .inl ⟨rfl, rfl⟩
          · rcases k2 q hq with ⟨a2, -⟩ | a2
            · exact .inr (by omega)
            · exact .inr (by omega)
theorem parts_dis (d : List Nat) : Dis (adV d 2 0 d.length (-1) 0 []) := by
  obtain ⟨rs, e, h, -⟩ := adV_uq d 2 0 d.length (-1) 0 [] (by decide)
  rw [e]; exact h

/-- Is it the part of a number in a part? -/
def mtB (up nu : Int) (p : PtP) : Bool := upK p == up && nuK p == nu
/-- The place of the part of a number in a part; below 0 where there is none. -/
def ixV (l : List PtP) (up nu : Int) : Int := if l.findIdx (mtB up nu) < l.length then (l.findIdx (mtB up nu) : Int) else -1
theorem ixV_at {l : List PtP} {up nu : Int} {k : Nat} (h : k < l.length) (hm : mtB up nu (nthP l k) = true) (hb : ∀ i, i < k → mtB up nu (nthP l i) = false) : ixV l up nu = (k : Int) := by
  have e : l.findIdx (mtB up nu) = k := (List.findIdx_eq h).2 ⟨by rw [← nthP_get h]; exact hm, fun j hj => by rw [← nthP_get (by omega)]; exact hb j hj⟩
  unfold ixV
  rw [e, if_pos h]
theorem ixV_no {l : List PtP} {up nu : Int} (hb : ∀ i, i < l.length → mtB up nu (nthP l i) = false) : ixV l up nu = -1 := by
  have e : l.findIdx (mtB up nu) = l.length := List.findIdx_eq_length_of_false fun x hx => by
    obtain ⟨i, hi, rfl⟩ := List.getElem_of_mem hx
    rw [← nthP_get hi]; exact hb i hi
  unfold ixV
  rw [e, if_neg (Nat.lt_irrefl _)]
theorem dis_one {l : List PtP} {up nu : Int} (hd : Dis l) {i k : Nat} (hi : i < l.length) (hk : k < l.length) (h1 : mtB up nu (nthP l i) = true) (h2 : mtB up nu (nthP l k) = true) : i = k := by
  unfold mtB at h1 h2
  rw [Bool.and_eq_true, beq_iff_eq, beq_iff_eq] at h1 h2
  have hp := List.pairwise_iff_getElem.1 hd
  rw [nthP_get hi] at h1
  rw [nthP_get hk] at h2
  rcases Nat.lt_trichotomy i k with h | h | h
  · exact absurd ⟨h1.1.trans h2.1.symm, h1.2.trans h2.2.symm⟩ (hp i k hi hk h)
  · exact h
  · exact absurd ⟨h2.1.trans h1.1.symm, h2.2.trans h1.2.symm⟩ (hp k i hk hi h)
theorem ixV_lt (l : List PtP) (up nu : Int) : ixV l up nu < (l.length : Int) ∧ -1 ≤ ixV l up nu := by
  unfold ixV
  split
  · omega
  · omega
/-- The place that a path leads to. -/
def paV (l : List PtP) : List Int → Int → Int
  | [], at_ => at_
  | n :: r, at_ => if ixV l at_ n < 0 then -1 else paV l r (ixV l at_ n)
def paR (d : List Nat) (x : List Int) : Int × Int := if (psV d).1 = 0 then (if paV (psV d).2 x 0 < 0 then (4, 0) else (0, paV (psV d).2 x 0)) else ((psV d).1, 0)
theorem paV_step {l : List PtP} {x : List Int} {k : Nat} {a : Int} (h : k < x.length) : paV l (x.drop k) a = if ixV l a (nthI x k) < 0 then -1 else paV l (x.drop (k + 1)) (ixV l a (nthI x k)) := by
  rw [drop_consI x k h]; rfl
theorem paV_end {l : List PtP} {x : List Int} {k : Nat} {a : Int} (h : x.length ≤ k) : paV l (x.drop k) a = a := by
  rw [List.drop_of_length_le h]; rfl
end Go.Proofs.YtkjnhcnbbojajaaDoor
