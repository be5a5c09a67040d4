/- No two parts of a message have the same number in the same part; the place of a part by a path · Each part lies in the part that it is in, and that one is of several; a part's path leads to it. -/
import Derived.Test.YtaefomiofoakhaaGreatDoorPspToDig
import Derived.Test.YtaefomiofoakhaaGreatDoorRdmToBytI
import Derived.Test.YtaefomiofoakhaaGreatDoorAppIToMemQ
import Derived.Test.YtaefomiofoakhaaGreatDoorDecQ3ToPtf
namespace Go.Proofs.YtaefomiofoakhaaGreatDoor
open Go.RowKit

/-- In which part a part is, and its number there. -/
def upK (p : PtP) : Int := p.2.2.1
def nuK (p : PtP) : Int := p.2.2.2
def Dis (l : List PtP) : Prop := l.Pairwise fun p q => ¬ (upK p = upK q ∧ nuK p = nuK q)
def UqV (u nu : Int) (acc out : List PtP) : Prop := ∃ rs, out = acc ++ rs ∧ Dis rs ∧ (∀ q ∈ rs, upK q < ((acc.length + rs.length : Nat) : Int)) ∧ ∀ q ∈ rs, (upK q = u ∧ nuK q = nu) ∨ (acc.length : Int) ≤ upK q
theorem adL_uq {F : Nat → Nat → Int → Int → List PtP → List PtP} {b : Nat} {here : Int} (hF : ∀ x y u nu acc, u < ((acc.length : Nat) : Int) → UqV u nu acc (F x y u nu acc)) : ∀ (l : List RngP) (i : Nat) (acc : List PtP), here < ((acc.length : Nat) : Int) →
    ∃ rs, adL F b here l i acc = acc ++ rs ∧ Dis rs ∧ (∀ q ∈ rs, upK q < ((acc.length + rs.length : Nat) : Int)) ∧ ∀ q ∈ rs, (upK q = here ∧ ((i + 1 : Nat) : Int) ≤ nuK q) ∨ (acc.length : Int) ≤ upK q
  | [], i, acc, h => ⟨[], by simp [adL], List.Pairwise.nil, fun q hq => (by cases hq), fun q hq => (by cases hq)⟩
  | s :: r, i, acc, h => by
    obtain ⟨r1, e1, d1, u1, k1⟩ := hF (s.1.toNat + b) (s.2.toNat + b) here ((i + 1 : Nat) : Int) acc h
    have h' : here < (((acc ++ r1).length : Nat) : Int) := by rw [List.length_append]; omega
    obtain ⟨r2, e2, d2, u2, k2⟩ := adL_uq hF r (i + 1) (acc ++ r1) h'
    rw [List.length_append] at u2 k2
    refine ⟨r1 ++ r2, ?_, ?_, ?_, ?_⟩
    · rw [adL, e1, e2, List.append_assoc]
    · refine List.pairwise_append.2 ⟨d1, d2, fun p hp q hq hh => ?_⟩
      have a1 := u1 p hp
      rcases k1 p hp with ⟨a2, a3⟩ | a2 <;> rcases k2 q hq with ⟨a4, a5⟩ | a4 <;> omega
    · intro q hq
      rw [List.length_append]
      rcases List.mem_append.1 hq with hq | hq
      · have := u1 q hq; omega
      · have := u2 q hq; omega
    · intro q hq
      rcases List.mem_append.1 hq with hq | hq
      · rcases k1 q hq with ⟨a2, a3⟩ | a2
        · exact .inl ⟨a2, by omega⟩
        · exact .inr a2
      · rcases k2 q hq with ⟨a2, a3⟩ | a2
        · exact .inl ⟨a2, by omega⟩
        · exact .inr (by omega)
theorem uq_one {d : List Nat} {fr tt : Nat} {u nu : Int} {acc : List PtP} (h : u < ((acc.length : Nat) : Int)) : UqV u nu acc (acc ++ [ptN d fr tt u nu]) :=
  ⟨[ptN d fr tt u nu], rfl, List.pairwise_singleton _ _, fun q hq => by rw [List.mem_singleton.1 hq]; show u < _; rw [List.length_singleton]; omega, fun q hq => by rw [List.mem_singleton.1 hq]; exact .inl ⟨rfl, rfl⟩⟩
theorem uq_none {u nu : Int} {acc : List PtP} : UqV u nu acc acc := ⟨[], by simp, List.Pairwise.nil, fun q hq => (by cases hq), fun q hq => (by cases hq)⟩
theorem adV_uq (d : List Nat) : ∀ (D fr tt : Nat) (u nu : Int) (acc : List PtP), u < ((acc.length : Nat) : Int) → UqV u nu acc (adV d D fr tt u nu acc)
  | 0, fr, tt, u, nu, acc, h => by
    rw [adV]
    split
    · exact uq_none
    · exact uq_one h
  | D + 1, fr, tt, u, nu, acc, h => by
    rw [adV]
    split
    · exact uq_none
    · split
      · exact uq_one h
      · obtain ⟨r2, e2, d2, u2, k2⟩ := adL_uq (fun x y u nu acc h => adV_uq d D x y u nu acc h) (here := (acc.length : Int)) (b := fr + (oneV (cutN d fr tt)).2.1) (spL (bgM (oneV (cutN d fr tt)).2.2) (enM (oneV (cutN d fr tt)).2.2) ((cutN d (fr + (oneV (cutN d fr tt)).2.1) tt).length : Int) (lns (cutN d (fr + (oneV (cutN d fr tt)).2.1) tt))) 0 (acc ++ [ptN d fr tt u nu]) (by rw [List.length_append, List.length_singleton]; omega)
        rw [e2]
        rw [List.length_append, List.length_singleton] at u2 k2
        refine ⟨ptN d fr tt u nu :: r2, by simp, ?_, ?_, ?_⟩
        · refine List.pairwise_cons.2 ⟨fun q hq hh => ?_, d2⟩
          have e : upK (ptN d fr tt u nu) = u := rfl
          rw [e] at hh
          rcases k2 q hq with ⟨a2, -⟩ | a2 <;> omega
        · intro q hq
          rw [List.length_cons]
          rcases List.mem_cons.1 hq with rfl | hq
          · show u < _; omega
          · have := u2 q hq; omega
        · intro q hq
          rcases List.mem_cons.1 hq with rfl | hq
          · exact .inl ⟨rfl, rfl⟩
          · rcases k2 q hq with ⟨a2, -⟩ | a2
            · exact .inr (by omega)
            · exact .inr (by omega)
theorem parts_dis (d : List Nat) : Dis (adV d 2 0 d.length (-1) 0 []) := by
  obtain ⟨rs, e, h, -⟩ := adV_uq d 2 0 d.length (-1) 0 [] (by decide)
  rw [e]; exact h

/-- Is it the part of a number in a part? -/
def mtB (up nu : Int) (p : PtP) : Bool := upK p == up && nuK p == nu
/-- The place of the part of a number in a part; below 0 where there is none. -/
def ixV (l : List PtP) (up nu : Int) : Int := if l.findIdx (mtB up nu) < l.length then (l.findIdx (mtB up nu) : Int) else -1
theorem ixV_at {l : List PtP} {up nu : Int} {k : Nat} (h : k < l.length) (hm : mtB up nu (nthP l k) = true) (hb : ∀ i, i < k → mtB up nu (nthP l i) = false) : ixV l up nu = (k : Int) := by
  have e : l.findIdx (mtB up nu) = k := (List.findIdx_eq h).2 ⟨by rw [← nthP_get h]; exact hm, fun j hj => by rw [← nthP_get (by omega)]; exact hb j hj⟩
  unfold ixV
  rw [e, if_pos h]
theorem ixV_no {l : List PtP} {up nu : Int} (hb : ∀ i, i < l.length → mtB up nu (nthP l i) = false) : ixV l up nu = -1 := by
  have e : l.findIdx (mtB up nu) = l.length := List.findIdx_eq_length_of_false fun x hx => by
    obtain ⟨i, hi, rfl⟩ := List.getElem_of_mem hx
    rw [← nthP_get hi]; exact hb i hi
  unfold ixV
  rw [e, if_neg (Nat.lt_irrefl _)]
theorem dis_one {l : List PtP} {up nu : Int} (hd : Dis l) {i k : Nat} (hi : i < l.length) (hk : k < l.length) (h1 : mtB up nu (nthP l i) = true) (h2 : mtB up nu (nthP l k) = true) : i = k := by
  unfold mtB at h1 h2
  rw [Bool.and_eq_true, beq_iff_eq, beq_iff_eq] at h1 h2
  have hp := List.pairwise_iff_getElem.1 hd
  rw [nthP_get hi] at h1
  rw [nthP_get hk] at h2
  rcases Nat.lt_trichotomy i k with h | h | h
  · exact absurd ⟨h1.1.trans h2.1.symm, h1.2.trans h2.2.symm⟩ (hp i k hi hk h)
  · exact h
  · exact absurd ⟨h2.1.trans h1.1.symm, h2.2.trans h1.2.symm⟩ (hp k i hk hi h)
theorem ixV_lt (l : List PtP) (up nu : Int) : ixV l up nu < (l.length : Int) ∧ -1 ≤ ixV l up nu := by
  unfold ixV
  split
  · omega
  · omega
/-- The place that a path leads to. -/
def paV (l : List PtP) : List Int → Int → Int
  | [], at_ => at_
  | n :: r, at_ => if ixV l at_ n < 0 then -1 else paV l r (ixV l at_ n)
def paR (d : List Nat) (x : List Int) : Int × Int := if (psV d).1 = 0 then (if paV (psV d).2 x 0 < 0 then (4, 0) else (0, paV (psV d).2 x 0)) else ((psV d).1, 0)
theorem paV_step {l : List PtP} {x : List Int} {k : Nat} {a : Int} (h : k < x.length) : paV l (x.drop k) a = if ixV l a (nthI x k) < 0 then -1 else paV l (x.drop (k + 1)) (ixV l a (nthI x k)) := by
  rw [drop_consI x k h]; rfl
theorem paV_end {l : List PtP} {x : List Int} {k : Nat} {a : Int} (h : x.length ≤ k) : paV l (x.drop k) a = a := by
  rw [List.drop_of_length_le h]; rfl
end Go.Proofs.YtaefomiofoakhaaGreatDoor

namespace Go.Proofs.YtaefomiofoakhaaGreatDoor
open Go.RowKit

/-- The part p lies within the part q, and q is of several. -/
def InP (q p : PtP) : Prop := q.2.1.1 ≤ p.2.1.1 ∧ p.2.1.2 ≤ q.2.1.2 ∧ q.1.1 = 2
def NestP (l : List PtP) : Prop := ∀ i, i < l.length → (nthP l i).2.2.1 = -1 ∨ ∃ u : Nat, (nthP l i).2.2.1 = (u : Int) ∧ u < i ∧ InP (nthP l u) (nthP l i)
theorem NestP.nil : NestP [] := fun i hi => by simp at hi
theorem NestP.snoc {l : List PtP} {p : PtP} (h : NestP l) (h2 : p.2.2.1 = -1 ∨ ∃ u : Nat, p.2.2.1 = (u : Int) ∧ u < l.length ∧ InP (nthP l u) p) : NestP (l ++ [p]) := by
  intro i hi
  rw [List.length_append, List.length_singleton] at hi
  rcases Nat.lt_or_ge i l.length with hlt | hge
  · rw [nthP_left hlt]
    rcases h i hlt with a | ⟨u, a, b, c⟩
    · exact .inl a
    · exact .inr ⟨u, a, b, by rw [nthP_left (by omega)]; exact c⟩
  · have e : i = l.length := by omega
    subst e
    rw [nthP_last]
    rcases h2 with a | ⟨u, a, b, c⟩
    · exact .inl a
    · exact .inr ⟨u, a, b, by rw [nthP_left b]; exact c⟩
theorem oneV_multi {x : List Nat} (h : (oneV x).2.2 ≠ []) : (oneV x).1.1 = 2 := by
  unfold oneV at h ⊢
  split at h
  · rename_i h1
    rw [if_pos h1]
    split at h
    · exact absurd rfl h
    · dsimp only at h ⊢
      split at h
      · assumption
      · exact absurd rfl h
  · exact absurd rfl h
/-- The place u of a list holds a part of several that spans a range. -/
def Spans (l : List PtP) (u : Int) (x y : Nat) : Prop := ∃ q : Nat, u = (q : Int) ∧ q < l.length ∧ (nthP l q).1.1 = 2 ∧ (nthP l q).2.1.1 ≤ (x : Int) ∧ (y : Int) ≤ (nthP l q).2.1.2
theorem Spans.more {a b : List PtP} {u : Int} {x y : Nat} (h : Spans a u x y) : Spans (a ++ b) u x y := by
  obtain ⟨q, h1, h2, h3, h4, h5⟩ := h
  exact ⟨q, h1, by rw [List.length_append]; omega, by rw [nthP_left h2]; exact h3, by rw [nthP_left h2]; exact h4, by rw [nthP_left h2]; exact h5⟩
theorem Spans.sub {a : List PtP} {u : Int} {x y x' y' : Nat} (h : Spans a u x y) (hx : x ≤ x') (hy : y' ≤ y) : Spans a u x' y' := by
  obtain ⟨q, h1, h2, h3, h4, h5⟩ := h
  exact ⟨q, h1, h2, h3, by omega, by omega⟩
theorem adL_nest {d : List Nat} {F : Nat → Nat → Int → Int → List PtP → List PtP} {b L : Nat} {n : Int}
    (hF : ∀ (x y : Nat) (u nu : Int) (acc : List PtP), x ≤ y → y ≤ L + b → NestP acc → Spans acc u x y → NestP (F x y u nu acc) ∧ ∃ rs, F x y u nu acc = acc ++ rs) :
    ∀ (l : List RngP) (i : Nat) (acc : List PtP), (∀ s ∈ l, InL L s) → NestP acc → Spans acc n b (L + b) → NestP (adL F b n l i acc) ∧ ∃ rs, adL F b n l i acc = acc ++ rs
  | [], _, acc, _, h, _ => ⟨h, [], by simp [adL]⟩
  | s :: r, i, acc, hs, h, hn => by
    obtain ⟨x, y, e, h1, h2⟩ := hs s List.mem_cons_self
    subst e
    obtain ⟨k1, rs, k2⟩ := hF (((x : Int)).toNat + b) (((y : Int)).toNat + b) n ((i + 1 : Nat) : Int) acc (by omega) (by omega) h (hn.sub (by omega) (by omega))
    obtain ⟨k3, r2, k4⟩ := adL_nest (d := d) hF r (i + 1) _ (fun s h => hs s (List.mem_cons_of_mem _ h)) k1 (by rw [k2]; exact hn.more)
    refine ⟨k3, rs ++ r2, ?_⟩
    rw [adL, k4, k2, List.append_assoc]
theorem adV_nest (d : List Nat) (hd : d.length ≤ 1048576) : ∀ (D fr tt : Nat) (u nu : Int) (acc : List PtP), fr ≤ tt → tt ≤ d.length → NestP acc → (u = -1 ∨ Spans acc u fr tt) → NestP (adV d D fr tt u nu acc) ∧ ∃ rs, adV d D fr tt u nu acc = acc ++ rs ∧ (acc.length ≠ 8 → rs ≠ [])
  | D, fr, tt, u, nu, acc, h1, h2, h3, h4 => by
    by_cases h8 : acc.length = 8
    · rw [adV_full h8]; exact ⟨h3, [], by simp, fun h => absurd h8 h⟩
    · have hcl : (cutN d fr tt).length = tt - fr := by unfold cutN; rw [List.length_drop, List.length_take]; omega
      have hat : (oneV (cutN d fr tt)).2.1 ≤ tt - fr := hcl ▸ oneV_at (cutN d fr tt)
      have hs : NestP (acc ++ [ptN d fr tt u nu]) := h3.snoc (by
        rcases h4 with a | ⟨q, a, b, c, f, g⟩
        · exact .inl a
        · refine .inr ⟨q, a, b, ?_, ?_, c⟩
          · show _ ≤ ((fr + (oneV (cutN d fr tt)).2.1 : Nat) : Int)
            omega
          · show (tt : Int) ≤ _
            omega)
      by_cases hm : (oneV (cutN d fr tt)).2.2 = []
      · rw [adV_leaf h8 hm]
        exact ⟨hs, _, rfl, fun _ => by simp⟩
      · cases D with
        | zero => rw [adV_zero h8]; exact ⟨hs, _, rfl, fun _ => by simp⟩
        | succ D =>
          rw [adV_in h8 hm]
          have hk : Spans (acc ++ [ptN d fr tt u nu]) (acc.length : Int) (fr + (oneV (cutN d fr tt)).2.1) tt := by
            refine ⟨acc.length, rfl, by simp, ?_, ?_, ?_⟩
            · rw [nthP_last]; exact oneV_multi hm
            · rw [nthP_last]; exact Int.le_refl _
            · rw [nthP_last]; exact Int.le_refl _
          generalize (oneV (cutN d fr tt)).2.1 = at0 at *
          have hcl2 : (cutN d (fr + at0) tt).length = tt - (fr + at0) := by unfold cutN; rw [List.length_drop, List.length_take]; omega
          obtain ⟨k1, rs, k2⟩ := adL_nest (d := d) (F := adV d D) (b := fr + at0) (L := (cutN d (fr + at0) tt).length) (n := (acc.length : Int)) (fun x y u nu acc a b c e => by
            obtain ⟨g1, rs, g2, -⟩ := adV_nest d hd D x y u nu acc a (by omega) c (.inr e)
            exact ⟨g1, rs, g2⟩) _ 0 (acc ++ [ptN d fr tt u nu]) (spL_in _ _ _ (by omega)) hs (hk.sub (Nat.le_refl _) (by omega))
          refine ⟨k1, ptN d fr tt u nu :: rs, ?_, fun _ => by simp⟩
          rw [k2, List.append_assoc]; rfl
theorem parts_nest {d : List Nat} (hd : d.length ≤ 400) : NestP (adV d 2 0 d.length (-1) 0 []) ∧ 0 < (adV d 2 0 d.length (-1) 0 []).length := by
  obtain ⟨h1, rs, h2, h3⟩ := adV_nest d (by omega) 2 0 d.length (-1) 0 [] (Nat.zero_le _) (Nat.le_refl _) NestP.nil (.inl rfl)
  refine ⟨h1, ?_⟩
  rw [h2, List.nil_append]
  exact List.length_pos_iff.2 (h3 (by simp))

theorem paV_app (l : List PtP) (n : Int) : ∀ (p : List Int) (a b : Int), 0 ≤ a → paV l p a = b → 0 ≤ b → paV l (p ++ [n]) a = if ixV l b n < 0 then -1 else ixV l b n
  | [], a, b, _, h, _ => by
    have e : a = b := h
    subst e
    rfl
  | m :: r, a, b, ha, h, hb => by
    rw [List.cons_append]
    unfold paV at h ⊢
    by_cases hm : ixV l a m < 0
    · rw [if_pos hm] at h; omega
    · rw [if_neg hm] at h ⊢
      exact paV_app l n r _ b (by omega) h hb
/-- A part's path leads to it. -/
theorem paV_back {d : List Nat} {l : List PtP} (h : OkP d l) (hd : Dis l) : ∀ (f i : Nat), i < f → i < l.length → paV l (pthV l i) 0 = (i : Int)
  | f + 1, i, hf, hi => by
    rcases (h i hi).2 with ⟨a, rfl⟩ | ⟨u, a, hu⟩
    · rw [pthV_top (by omega)]; rfl
    · have hb := paV_back h hd f u (by omega) (by omega)
      have hm : mtB (u : Int) (nthP l i).2.2.2 (nthP l i) = true := by
        unfold mtB upK nuK
        rw [a]; simp
      have e : ixV l (u : Int) (nthP l i).2.2.2 = (i : Int) := ixV_at hi hm fun j hj => by
        cases hq : mtB (u : Int) (nthP l i).2.2.2 (nthP l j) with
        | false => rfl
        | true => have := dis_one hd (by omega) hi hq hm; omega
      rw [pthV_step h hi a hu, paV_app l _ _ 0 _ (Int.le_refl _) hb (by omega), e, if_neg (by omega)]
/-- What the law asks of each part. -/
theorem nest_all {d : List Nat} (h : (psV d).1 = 0) : d.length ≤ 400 ∧ 0 < (psV d).2.length ∧ (psV d).2.length ≤ 8 ∧ ∀ i, i < (psV d).2.length → (∃ f t : Nat, (nthP (psV d).2 i).2.1 = ((f : Int), (t : Int)) ∧ f ≤ t ∧ t ≤ d.length) ∧
    pahV d (i : Int) = (0, pthV (psV d).2 i) ∧ (pthV (psV d).2 i).length ≤ 2 ∧ paR d (pthV (psV d).2 i) = (0, (i : Int)) ∧
    (i = 0 ∨ ∃ u : Nat, (nthP (psV d).2 i).2.2.1 = (u : Int) ∧ u < i ∧ InP (nthP (psV d).2 u) (nthP (psV d).2 i)) := by
  obtain ⟨h1, hok⟩ := psV_ok h
  have hps : psV d = (0, adV d 2 0 d.length (-1) 0 []) := if_neg (by omega)
  obtain ⟨hn, h0⟩ := parts_nest h1
  have hdis := parts_dis d
  have hfew := psV_few h
  have h8 := psV_le d
  rw [show (psV d).2 = adV d 2 0 d.length (-1) 0 [] by rw [hps]] at *
  refine ⟨h1, h0, h8, fun i hi => ⟨(hok i hi).1, ?_, hfew i hi, ?_, ?_⟩⟩
  · have e2 : pwV d (i : Int) = psV d := by
      unfold pwV
      rw [if_neg (fun h' => by
        rw [hps] at h'
        obtain ⟨_, h' | h'⟩ := h'
        · omega
        · dsimp only at h'
          omega)]
    unfold pahV
    rw [e2, hps, if_pos rfl, Int.toNat_natCast]
  · have hb := paV_back hok hdis (i + 1) i (by omega) hi
    unfold paR
    rw [hps, if_pos rfl]
    dsimp only
    rw [hb, if_neg (by omega)]
  · rcases hn i hi with a | b
    · rcases (hok i hi).2 with ⟨_, c⟩ | ⟨u, c, _⟩
      · exact .inl c
      · omega
    · exact .inr b
end Go.Proofs.YtaefomiofoakhaaGreatDoor
