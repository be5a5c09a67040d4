/- The model's EncodeText, and both at once · The text of terms in plain words, and what the tree of terms holds; no program in it. -/
import Derived.Test.YtjogclofjollnaaGreatDoorEncT
import Derived.Test.YtjogclofjollnaaGreatDoorTpgToTbs
import Derived.Test.YtjogclofjollnaaGreatDoorMemSToFlh
import Derived.Test.YtjogclofjollnaaGreatDoorMemZToYtx
namespace Go.Proofs.YtjogclofjollnaaGreatDoor
open Go.RowKit
theorem encV_few (cs : Int) (l : List Int) : (encV cs l).2.length ≤ 400 := by
 unfold encV
 split
 ·split
  ·simp
  ·simp only; omega
 ·simp
theorem encT_few (cs : Int) (l : List Int) : (encT cs l).2.length ≤ 400 := by
 unfold encT
 split
 ·split
  ·exact encV_few cs l
  ·simp
 ·simp
end Go.Proofs.YtjogclofjollnaaGreatDoor
namespace Go.Proofs.YtjogclofjollnaaGreatDoor
open Go.RowKit
set_option linter.unusedVariables false
theorem len2 {α : Type} {l : List α} (h : l.length = 2) : ∃ a b, l = [a, b] := by
 match l, h with
 | [a, b], _ => exact ⟨a, b, rfl⟩
def twZ : List (List Nat) := [[], [97, 108, 108], [102, 108, 97, 103], [115, 105, 110, 99, 101], [98, 101, 102, 111, 114, 101], [108, 97, 114, 103, 101, 114], [115, 117, 98, 106, 101, 99, 116], [98, 111, 100, 121], [117, 105, 100], [110, 111, 116], [97, 110, 100], [111, 114]]
def twN (k : Nat) : List Nat := twZ.getD k []
def leT (o : TmR) : List Nat := if o.k = 2 then fxL o.n.toNat else if o.k = 6 ∨ o.k = 7 then (encT 4 o.c).2 else if o.k = 8 then txY o.y else dgF 3 o.n.toNat
def txT (l : List TmR) : Nat → Nat → List Nat
 | 0, _ => []
 | f + 1, i => twN (nthTm l i).k.toNat ++ (if (nthTm l i).k = 1 then [] else if (nthTm l i).k = 9 then [32] ++ txT l f (nthTm l i).l.toNat
  else if twK (nthTm l i).k then [32] ++ txT l f (nthTm l i).l.toNat ++ [32] ++ txT l f (nthTm l i).r.toNat else [32] ++ leT (nthTm l i))
def TrT (l : List TmR) (ps : Nat → SlT) : Nat → Nat → Value → Prop
 | 0, _, _ => False
 | f + 1, i, v => i < l.length ∧ ∃ cs : List Value, v = growV (nthTm l i) (ps i) cs ∧ ((nthTm l i).k = 9 → ∃ c, cs = [c] ∧ TrT l ps f (nthTm l i).l.toNat c)
  ∧ (twK (nthTm l i).k = true → ∃ c d, cs = [c, d] ∧ TrT l ps f (nthTm l i).l.toNat c ∧ TrT l ps f (nthTm l i).r.toNat d)
def GoodT (l : List TmR) (i : Nat) : Prop := owF (nthTm l i) = 0 ∧ ((nthTm l i).k = 9 → ∃ j : Nat, j < i ∧ (nthTm l i).l = (j : Int)) ∧ (twK (nthTm l i).k = true → ∃ j j' : Nat, j < i ∧ j' < i ∧ (nthTm l i).l = (j : Int) ∧ (nthTm l i).r = (j' : Int))
def InvT (l : List TmR) (ps : Nat → SlT) (i : Nat) (st : List SdP) : Prop := (∀ p ∈ st, ∃ j : Nat, p.1 = (j : Int) ∧ j < i ∧ ∀ f, j < f → TrT l ps f j p.2) ∧ (0 < i → ∃ rest v, st = rest ++ [((i : Int) - 1, v)])
theorem stG_tr {l : List TmR} {ps : Nat → SlT} : ∀ f i st, InvT l ps i st → i + f = l.length → 0 < l.length → (stG l ps f i st).2 = 0 → (∀ j, i ≤ j → j < l.length → GoodT l j) ∧ ∀ g, l.length - 1 < g → TrT l ps g (l.length - 1) (stG l ps f i st).1 := by
 intro f
 induction f with
 | zero =>
  intro i st hI hi hL h
  unfold stG at h ⊢
  by_cases h1 : st.length = 1
  ·rw [if_pos h1]
   refine ⟨fun j h2 h3 => by omega, fun g hg => ?_⟩
   obtain ⟨rest, v, hv⟩ := hI.2 (by omega)
   have hr : rest = [] := List.length_eq_zero_iff.1 (by have := congrArg List.length hv; rw [List.length_append, List.length_singleton] at this; omega)
   subst hr
   subst hv
   obtain ⟨j, hj, -, hT⟩ := hI.1 ((i : Int) - 1, v) (by simp)
   have hj' : j = l.length - 1 := by have : (i : Int) - 1 = (j : Int) := hj; omega
   subst hj'
   exact hT g hg
  ·rw [if_neg h1] at h; cases h
 | succ f ih =>
  intro i st hI hi hL h
  unfold stG at h ⊢
  by_cases ho : owF (nthTm l i) = 0
  ·rw [if_pos ho] at h ⊢
   cases hk : okN st (nthTm l i) with
   | false => rw [hk] at h; cases h
   | true =>
    rw [hk, if_pos rfl] at h
    rw [if_pos rfl]
    have hk2 : (st.drop (ctN st (nthTm l i))).map Prod.fst = plT (nthTm l i) := by
     unfold okN at hk
     simp only [Bool.and_eq_true] at hk
     exact of_decide_eq_true hk.2
    have hmem : ∀ p ∈ st.drop (ctN st (nthTm l i)), ∃ j : Nat, p.1 = (j : Int) ∧ j < i ∧ ∀ f, j < f → TrT l ps f j p.2 := fun p hp => hI.1 p (List.mem_of_mem_drop hp)
    generalize hD : st.drop (ctN st (nthTm l i)) = D at *
    have h9 : (nthTm l i).k = 9 → ∃ p, D = [p] ∧ p.1 = (nthTm l i).l := fun h9 => by
     unfold plT at hk2
     rw [if_pos h9] at hk2
     obtain ⟨p, hp⟩ := List.length_eq_one_iff.1 (show D.length = 1 by have := congrArg List.length hk2; rwa [List.length_map] at this)
     rw [hp] at hk2
     exact ⟨p, hp, by simpa using hk2⟩
    have h2 : twK (nthTm l i).k = true → ∃ p q, D = [p, q] ∧ p.1 = (nthTm l i).l ∧ q.1 = (nthTm l i).r := fun h2 => by
     unfold plT at hk2
     have hn9 : ¬ (nthTm l i).k = 9 := fun e => by rw [e] at h2; revert h2; decide
     rw [if_neg hn9, if_pos h2] at hk2
     obtain ⟨p, q, hp⟩ := len2 (show D.length = 2 by have := congrArg List.length hk2; rwa [List.length_map] at this)
     rw [hp] at hk2
     simp only [List.map_cons, List.map_nil, List.cons.injEq, and_true] at hk2
     exact ⟨p, q, hp, hk2.1, hk2.2⟩
    have hTr : ∀ g, i < g → TrT l ps g i (growV (nthTm l i) (ps i) (D.map Prod.snd)) := by
     intro g hg
     obtain ⟨g', rfl⟩ : ∃ g', g = g' + 1 := ⟨g - 1, by omega⟩
     refine ⟨by omega, _, rfl, fun e => ?_, fun e => ?_⟩
     ·obtain ⟨p, hp, hpl⟩ := h9 e
      obtain ⟨j, hj, hji, hT⟩ := hmem p (by rw [hp]; simp)
      refine ⟨p.2, by rw [hp]; rfl, ?_⟩
      rw [← hpl, hj, Int.toNat_natCast]
      exact hT g' (by omega)
     ·obtain ⟨p, q, hp, hpl, hql⟩ := h2 e
      obtain ⟨j, hj, hji, hT⟩ := hmem p (by rw [hp]; simp)
      obtain ⟨j', hj', hji', hT'⟩ := hmem q (by rw [hp]; simp)
      refine ⟨p.2, q.2, by rw [hp]; rfl, ?_, ?_⟩
      ·rw [← hpl, hj, Int.toNat_natCast]
       exact hT g' (by omega)
      ·rw [← hql, hj', Int.toNat_natCast]
       exact hT' g' (by omega)
    have hG : GoodT l i := by
     refine ⟨ho, fun e => ?_, fun e => ?_⟩
     ·obtain ⟨p, hp, hpl⟩ := h9 e
      obtain ⟨j, hj, hji, -⟩ := hmem p (by rw [hp]; simp)
      exact ⟨j, hji, by rw [← hpl, hj]⟩
     ·obtain ⟨p, q, hp, hpl, hql⟩ := h2 e
      obtain ⟨j, hj, hji, -⟩ := hmem p (by rw [hp]; simp)
      obtain ⟨j', hj', hji', -⟩ := hmem q (by rw [hp]; simp)
      exact ⟨j, j', hji, hji', by rw [← hpl, hj], by rw [← hql, hj']⟩
    have hI' : InvT l ps (i + 1) (st.take (ctN st (nthTm l i)) ++ [((i : Int), growV (nthTm l i) (ps i) (D.map Prod.snd))]) := by
     refine ⟨fun p hp => ?_, fun _ => ⟨_, _, by rw [show ((i + 1 : Nat) : Int) - 1 = (i : Int) by omega]⟩⟩
     rcases List.mem_append.1 hp with hp | hp
     ·obtain ⟨j, hj, hji, hT⟩ := hI.1 p (List.mem_of_mem_take hp)
      exact ⟨j, hj, by omega, hT⟩
     ·rw [List.mem_singleton] at hp
      subst hp
      exact ⟨i, rfl, by omega, hTr⟩
    obtain ⟨r1, r2⟩ := ih (i + 1) _ hI' (by omega) hL h
    refine ⟨fun j h1 h2 => ?_, r2⟩
    by_cases e : j = i
    ·subst e; exact hG
    ·exact r1 j (by omega) h2
  ·rw [if_neg ho] at h
   exact absurd h ho
theorem trV_tr {l : List TmR} {ps : Nat → SlT} (h : (trV l ps).2 = 0) : (1 ≤ l.length ∧ l.length ≤ 12) ∧ (∀ j, j < l.length → GoodT l j) ∧ TrT l ps l.length (l.length - 1) (trV l ps).1 := by
 unfold trV at h ⊢
 by_cases hn : 1 ≤ l.length ∧ l.length ≤ 12
 ·rw [if_pos hn] at h ⊢
  obtain ⟨r1, r2⟩ := stG_tr (l := l) (ps := ps) l.length 0 [] ⟨fun p hp => (by cases hp), fun h => absurd h (by omega)⟩ (by omega) (by omega) h
  exact ⟨hn, fun j hj => r1 j (by omega) hj, r2 _ (by omega)⟩
 ·rw [if_neg hn] at h; cases h
theorem jn1 (x : List Nat) : Lib.join [(str x).data.toList] [32] = x.map UInt8.ofNat := by
 rw [str_list]
 show [(32 : UInt8)].intercalate [_] = _
 simp [List.intercalate, List.intersperse]
theorem jn2 (x y : List Nat) : Lib.join [(str x).data.toList, (str y).data.toList] [32] = (x ++ [32] ++ y).map UInt8.ofNat := by
 rw [str_list, str_list]
 show [(32 : UInt8)].intercalate [_, _] = _
 simp [List.intercalate, List.intersperse]
theorem jn3 (x y z : List Nat) : Lib.join [(str x).data.toList, (str y).data.toList, (str z).data.toList] [32] = (x ++ [32] ++ y ++ [32] ++ z).map UInt8.ofNat := by
 rw [str_list, str_list, str_list]
 show [(32 : UInt8)].intercalate [_, _, _] = _
 simp [List.intercalate, List.intersperse]
theorem twN_len : ∀ k : Nat, (twN k).length ≤ 7
 | k => by
  unfold twN
  rw [List.getD_eq_getElem?_getD]
  by_cases h : k < 12
  ·have : ∀ k : Nat, k < 12 → ((twZ[k]?).getD []).length ≤ 7 := by decide
   exact this k h
  ·rw [List.getElem?_eq_none (by show 12 ≤ k; omega)]; simp
theorem fxL_len {k : Nat} (hk : k < 16) : (fxL k).length ≤ 40 := by
 by_cases h0 : k = 0
 ·subst h0; decide
 ·exact (flJoin k hk h0).2.2
theorem bdT_2 {o : TmR} (h : owF o = 0) (hk : o.k = 2) : ∃ j : Nat, j < 16 ∧ o.n = (j : Int) := by
 have hb : bdT o = true := by
  unfold owF vlT at h
  by_cases hf : fmT o = true
  ·rw [if_pos hf, if_neg (by omega)] at h
   by_cases hb : bdT o = true
   ·exact hb
   ·rw [if_neg hb] at h; cases h
  ·rw [if_neg hf] at h; cases h
 unfold bdT at hb
 rw [if_pos hk] at hb
 unfold ofB at hb
 simp only [Bool.or_eq_true, decide_eq_true_eq] at hb
 exact ⟨o.n.toNat, by omega, by omega⟩
theorem ow_bd {o : TmR} (h : owF o = 0) : (1 ≤ o.k ∧ o.k ≤ 11) ∧ (o.k = 8 → rfV o.y = 0) ∧ (o.k ≠ 8 → bdT o = true) := by
 unfold owF vlT at h
 by_cases hf : fmT o = true
 ·rw [if_pos hf] at h
  refine ⟨fmT_k hf, fun e => by rwa [if_pos e] at h, fun e => ?_⟩
  rw [if_neg e] at h
  by_cases hb : bdT o = true
  ·exact hb
  ·rw [if_neg hb] at h; cases h
 ·rw [if_neg hf] at h; cases h
theorem bdT_345 {o : TmR} (h : owF o = 0) (hk : o.k = 3 ∨ o.k = 4 ∨ o.k = 5) : ∃ j : Nat, j ≤ 9999 ∧ o.n = (j : Int) := by
 have hb := (ow_bd h).2.2 (by omega)
 unfold bdT at hb
 rw [if_neg (by omega)] at hb
 by_cases h5 : o.k = 5
 ·rw [if_neg (by omega), if_pos h5] at hb
  have := of_decide_eq_true hb
  exact ⟨o.n.toNat, by omega, by omega⟩
 ·rw [if_pos (by omega)] at hb
  have := of_decide_eq_true hb
  exact ⟨o.n.toNat, by omega, by omega⟩
theorem bdT_67 {o : TmR} (h : owF o = 0) (hk : o.k = 6 ∨ o.k = 7) : o.c.length ≤ 20 ∧ ∀ x ∈ o.c, chr x = true := by
 have hb := (ow_bd h).2.2 (by omega)
 unfold bdT at hb
 rw [if_neg (by omega), if_neg (by omega), if_neg (by omega), if_pos hk] at hb
 unfold cdB at hb
 simp only [Bool.and_eq_true] at hb
 have := of_decide_eq_true hb.1
 refine ⟨by omega, fun x hx => ?_⟩
 have := List.all_eq_true.1 hb.2 x hx
 unfold lkC at this
 simp only [Bool.and_eq_true] at this
 exact this.1
theorem leT_len {o : TmR} (h : owF o = 0) : (leT o).length ≤ 400 := by
 unfold leT
 by_cases h2 : o.k = 2
 ·rw [if_pos h2]
  obtain ⟨j, hj, e⟩ := bdT_2 h h2
  rw [e, Int.toNat_natCast]
  exact Nat.le_trans (fxL_len hj) (by omega)
 rw [if_neg h2]
 by_cases h6 : o.k = 6 ∨ o.k = 7
 ·rw [if_pos h6]; exact encT_few 4 _
 rw [if_neg h6]
 by_cases h8 : o.k = 8
 ·rw [if_pos h8]
  have := (rfV_A ((ow_bd h).2.1 h8)).2.2
  have := txY_len o.y
  omega
 rw [if_neg h8]
 exact Nat.le_trans (dgF_len 3 _) (by omega)
theorem txT_len {l : List TmR} (hG : ∀ j, j < l.length → GoodT l j) : ∀ f i, i < l.length → (txT l f i).length ≤ 500 * 2 ^ f - 500
 | 0, _, _ => by unfold txT; simp
 | f + 1, i, hi => by
  have hp : 1 ≤ 2 ^ f := Nat.one_le_two_pow
  have hw := twN_len (nthTm l i).k.toNat
  obtain ⟨g1, g2, g3⟩ := hG i hi
  have hle := leT_len g1
  rw [Nat.pow_succ]
  unfold txT
  split
  ·simp; omega
  ·split
   ·rename_i h9
    obtain ⟨j, hj, e⟩ := g2 h9
    have := txT_len hG f (nthTm l i).l.toNat (by omega)
    simp; omega
   ·split
    ·rename_i h2
     obtain ⟨j, j', hj, hj', e, e'⟩ := g3 h2
     have a1 := txT_len hG f (nthTm l i).l.toNat (by omega)
     have a2 := txT_len hG f (nthTm l i).r.toNat (by omega)
     simp; omega
    ·simp; omega
theorem txT_lt {l : List TmR} (hG : ∀ j, j < l.length → GoodT l j) {f i : Nat} (hf : f ≤ 12) (hi : i < l.length) : (txT l f i).length ≤ 9999000 := by
 have h1 := txT_len hG f i hi
 have h2 : 2 ^ f ≤ 2 ^ 12 := Nat.pow_le_pow_right (by omega) hf
 omega
end Go.Proofs.YtjogclofjollnaaGreatDoor
