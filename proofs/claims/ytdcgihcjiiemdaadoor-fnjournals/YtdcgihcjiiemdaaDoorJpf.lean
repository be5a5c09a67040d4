/- Journals in plain words: what was packed is read back, as far as it is whole; no program in it. -/
import Derived.Test.YtdcgihcjiiemdaaDoorJsmToOfq
import Derived.Test.YtdcgihcjiiemdaaDoorPsq
import Derived.Test.YtdcgihcjiiemdaaDoorOrmToJrq
import Derived.Test.YtdcgihcjiiemdaaDoorSmo
namespace Go.Proofs.YtdcgihcjiiemdaaDoor
open Go.RowKit
set_option linter.unusedVariables false
def flJ (l : List OpR) : List Nat := (l.map pkO).flatten
theorem flJ_cons (o : OpR) (l : List OpR) : flJ (o :: l) = pkO o ++ flJ l := by simp [flJ]
theorem fcL_all : ∀ {l : List OpR}, fcL l = 0 → ∀ o ∈ l, ofV o = 0
 | [], _, o, h => by cases h
 | x :: l, hf, o, h => by
  have e : (if ofV x = 0 then fcL l else ofV x) = 0 := hf
  by_cases h0 : ofV x = 0
  ·rw [if_pos h0] at e
   rcases List.mem_cons.1 h with rfl | h
   ·exact h0
   ·exact fcL_all e o h
  ·rw [if_neg h0] at e; exact absurd e h0
theorem fcL_of : ∀ {l : List OpR}, (∀ o ∈ l, ofV o = 0) → fcL l = 0
 | [], _ => rfl
 | x :: l, h => by
  show (if ofV x = 0 then fcL l else ofV x) = 0
  rw [if_pos (h x (by simp))]
  exact fcL_of (fun o ho => h o (by simp [ho]))
theorem paF_le : ∀ (l : List OpR) (acc : List Nat), acc.length ≤ (l.foldl paS acc).length
 | [], _ => Nat.le_refl _
 | o :: l, acc => by
  refine Nat.le_trans ?_ (paF_le l (paS acc o))
  unfold paS
  split
  ·rw [List.length_append]; omega
  ·exact Nat.le_refl _
theorem paF_fl : ∀ (l : List OpR) (acc : List Nat), (l.foldl paS acc).length ≤ 8000 → l.foldl paS acc = acc ++ flJ l
 | [], acc, _ => by simp [flJ]
 | o :: l, acc, h => by
  have ha : acc.length ≤ 8000 := Nat.le_trans (paF_le (o :: l) acc) h
  have e : paS acc o = acc ++ pkO o := if_pos ha
  have h' : (l.foldl paS (paS acc o)).length ≤ 8000 := h
  show l.foldl paS (paS acc o) = _
  rw [paF_fl l _ h', e, flJ_cons, List.append_assoc]
theorem paF_of : ∀ (l : List OpR) (acc : List Nat), (acc ++ flJ l).length ≤ 8000 → l.foldl paS acc = acc ++ flJ l
 | [], acc, _ => by simp [flJ]
 | o :: l, acc, h => by
  rw [flJ_cons, ← List.append_assoc] at h
  have ha : acc.length ≤ 8000 := by rw [List.length_append, List.length_append] at h; omega
  have e : paS acc o = acc ++ pkO o := if_pos ha
  show l.foldl paS (paS acc o) = _
  rw [e, paF_of l _ h, flJ_cons, List.append_assoc]
theorem poV_all {l : List OpR} (h : (poV l).1 = 0) : (∀ o ∈ l, ofV o = 0) ∧ (poV l).2 = flJ l ∧ (flJ l).length ≤ 8000 := by
 unfold poV at *
 by_cases hf : fcL l = 0
 ·rw [if_pos hf] at h ⊢
  by_cases h8 : 8000 < (paL l).length
  ·rw [if_pos h8] at h; simp at h
  ·rw [if_neg h8]
   have e : paL l = flJ l := by
    have := paF_fl l [] (by unfold paL at h8; omega)
    rwa [List.nil_append] at this
   refine ⟨fcL_all hf, e, ?_⟩
   rw [← e]; omega
 ·rw [if_neg hf] at h; exact absurd h hf
theorem poV_of {l : List OpR} (h : ∀ o ∈ l, ofV o = 0) (h8 : (flJ l).length ≤ 8000) : poV l = (0, flJ l) := by
 have e : paL l = flJ l := by
  have := paF_of l [] (by rwa [List.nil_append])
  rwa [List.nil_append] at this
 unfold poV
 rw [if_pos (fcL_of h), e, if_neg (by omega)]
theorem jG_any : ∀ (k : Nat) (d : List Nat), (∀ o ∈ (jG k d).2, ofV o = 0) ∧ (jG k d).1 = (flJ (jG k d).2).length ∧ flJ (jG k d).2 <+: d
 | 0, d => ⟨fun o h => (by cases h), rfl, List.nil_prefix⟩
 | k + 1, d => by
  unfold jG
  rcases rpV_or d with h | ⟨h, h1, h2⟩
  ·rw [if_neg (by rw [h]; decide)]
   exact ⟨fun o h => (by cases h), rfl, List.nil_prefix⟩
  ·rw [if_pos (by rw [h])]
   rw [h]
   obtain ⟨a1, a2, a3⟩ := jG_any k (d.drop (pkO (rdP d)).length)
   dsimp only
   generalize jG k (d.drop (pkO (rdP d)).length) = r at *
   obtain ⟨u, os⟩ := r
   dsimp only at *
   obtain ⟨t, ht⟩ := h2
   refine ⟨fun o ho => ?_, ?_, ?_⟩
   ·rcases List.mem_cons.1 ho with rfl | ho
    ·exact h1
    ·exact a1 o ho
   ·rw [flJ_cons, List.length_append, a2]
   ·rw [flJ_cons]
    have e : d.drop (pkO (rdP d)).length = t := by
     have hh := ht
     generalize pkO (rdP d) = p at hh ⊢
     rw [← hh]
     exact List.drop_left
    rw [e] at a3
    obtain ⟨s, hs⟩ := a3
    exact ⟨s, by rw [List.append_assoc, hs, ht]⟩
theorem jV_any {d : List Nat} (h : d.length ≤ 8000) : (jV d).1 = 0 ∧ (jV d).2.1 ≤ d.length ∧ poV (jV d).2.2 = (0, d.take (jV d).2.1) ∧ (d.take (jV d).2.1).length = (jV d).2.1 ∧ flJ (jV d).2.2 <+: d ∧ (jV d).2.1 = (flJ (jV d).2.2).length := by
 have e : jV d = (0, (jG d.length d).1, (jG d.length d).2) := if_neg (by omega)
 obtain ⟨a1, a2, a3⟩ := jG_any d.length d
 rw [e]
 dsimp only
 generalize jG d.length d = r at *
 obtain ⟨u, os⟩ := r
 dsimp only at *
 subst a2
 have hl := a3.length_le
 have et : d.take (flJ os).length = flJ os := by
  obtain ⟨t, rfl⟩ := a3
  exact List.take_left
 rw [et]
 exact ⟨rfl, hl, poV_of a1 (by omega), rfl, a3, rfl⟩
theorem rpV_nil : (rpV []).1 ≠ 0 := fun h => by have := rpV_ok h; simp at this; omega
theorem jG_fl : ∀ (l : List OpR) (k : Nat), (∀ o ∈ l, ofV o = 0) → (flJ l).length ≤ k → jG k (flJ l) = ((flJ l).length, l)
 | [], 0, _, _ => rfl
 | [], k + 1, _, _ => by
  show jG (k + 1) [] = _
  unfold jG
  rw [if_neg rpV_nil]; rfl
 | o :: l, 0, h, hk => by
  have h1 := (pkO_le (h o (by simp))).1
  rw [flJ_cons, List.length_append] at hk
  omega
 | o :: l, k + 1, h, hk => by
  have h0 := h o (by simp)
  have h1 := (pkO_le h0).1
  rw [flJ_cons] at hk ⊢
  unfold jG
  rw [rpV_app h0, if_pos rfl]
  dsimp only
  rw [List.drop_left, jG_fl l k (fun x hx => h x (by simp [hx])) (by rw [List.length_append] at hk; omega), List.length_append]
theorem jV_fl {l : List OpR} (h : ∀ o ∈ l, ofV o = 0) (h8 : (flJ l).length ≤ 8000) : jV (flJ l) = (0, (flJ l).length, l) := by
 have e : jV (flJ l) = (0, (jG (flJ l).length (flJ l)).1, (jG (flJ l).length (flJ l)).2) := if_neg (by omega)
 rw [e, jG_fl l _ h (Nat.le_refl _)]
theorem jG_cut : ∀ (l : List OpR) (c k : Nat), (∀ o ∈ l, ofV o = 0) → ∃ n u, n ≤ l.length ∧ u ≤ c ∧ jG k ((flJ l).take c) = (u, l.take n)
 | l, c, 0, _ => ⟨0, 0, Nat.zero_le _, Nat.zero_le _, by simp [jG]⟩
 | [], c, k + 1, _ => ⟨0, 0, Nat.zero_le _, Nat.zero_le _, by
  have e : (flJ []).take c = [] := by simp [flJ]
  rw [e]
  unfold jG
  rw [if_neg rpV_nil]; rfl⟩
 | o :: l, c, k + 1, h => by
  have h0 := h o (by simp)
  rw [flJ_cons]
  rcases Nat.lt_or_ge c (pkO o).length with hc | hc
  ·refine ⟨0, 0, Nat.zero_le _, Nat.zero_le _, ?_⟩
   rw [List.take_append_of_le_length (by omega)]
   unfold jG
   rw [rpV_cut h0 hc, if_neg (by decide)]
   simp
  ·obtain ⟨n, u, hn, hu, e⟩ := jG_cut l (c - (pkO o).length) k (fun x hx => h x (by simp [hx]))
   refine ⟨n + 1, (pkO o).length + u, by simpa using hn, by omega, ?_⟩
   rw [List.take_append, List.take_of_length_le (by omega)]
   unfold jG
   rw [rpV_app h0, if_pos rfl]
   dsimp only
   rw [List.drop_left, e]
   rfl
theorem jV_cut {l : List OpR} (h : ∀ o ∈ l, ofV o = 0) (h8 : (flJ l).length ≤ 8000) (c : Nat) : ∃ n u, n ≤ l.length ∧ u ≤ c ∧ jV ((flJ l).take c) = (0, u, l.take n) := by
 have hl : ((flJ l).take c).length ≤ 8000 := by rw [List.length_take]; omega
 have e : jV ((flJ l).take c) = (0, (jG ((flJ l).take c).length ((flJ l).take c)).1, (jG ((flJ l).take c).length ((flJ l).take c)).2) := if_neg (by omega)
 obtain ⟨n, u, hn, hu, e'⟩ := jG_cut l c ((flJ l).take c).length h
 rw [e, e']
 exact ⟨n, u, hn, hu, rfl⟩
theorem flJ_isB {l : List OpR} (h : ∀ o ∈ l, IsB (pkO o)) : IsB (flJ l) := fun z hz => by
 unfold flJ at hz
 obtain ⟨x, hx, hz⟩ := List.mem_flatten.1 hz
 obtain ⟨o, ho, rfl⟩ := List.mem_map.1 hx
 exact h o ho z hz
theorem isOs_isB {lo : Nat} {w : World} {s : SlQ} {l : List OpR} (h : IsOs lo w s l) : ∀ o ∈ l, IsB o.b := fun o ho => by
 obtain ⟨i, hi, rfl⟩ := List.mem_iff_getElem.1 ho
 obtain ⟨b, off, -, -, -, hc⟩ := h.2.2.2.at_ (by omega)
 obtain ⟨p, -, hp⟩ := hc i hi
 rw [← nthO_get hi]
 exact hp.2.2.2.2.1
theorem isOs_take {lo : Nat} {w : World} {a : Option Addr} {n cap k : Nat} {l : List OpR} (h : IsOs lo w (a, n, cap) l) (hk : k ≤ n) : IsOs lo w (a, k, cap) (l.take k) := by
 obtain ⟨h1, h2, h3, h4⟩ := h
 dsimp only at *
 refine ⟨by dsimp only; rw [List.length_take]; omega, Nat.le_trans hk h2, h3, ?_⟩
 rcases h4 with h4 | ⟨b, off, e, hb, hlt, hc⟩
 ·left; rw [h4]; simp
 ·refine .inr ⟨b, off, e, hb, hlt, fun i hi => ?_⟩
  rw [List.length_take] at hi
  have e' : nthO (l.take k) i = nthO l i := by
   unfold nthO
   rw [List.getD_eq_getElem?_getD, List.getD_eq_getElem?_getD, List.getElem?_take_of_lt (by omega)]
  rw [e']
  exact hc i (by omega)
theorem smO_refl (o : OpR) : smO o o = true := by
 have : smU o.u o.u = true := by simp [smU, eqH]
 simp [smO, this]
theorem smL_refl (l : List OpR) : smL l l = true := by simp [smL, eqH, smO_refl]
end Go.Proofs.YtdcgihcjiiemdaaDoor
