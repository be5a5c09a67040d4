/- Which trees wait, and the tree of all terms in plain words; the last trees told apart from the rest, whatever waits; no conditions beyond those that each fact names. -/
import Derived.Test.YthmimalplpjghaaGreatDoorTpf
namespace Go.Proofs.YthmimalplpjghaaGreatDoor
open Go.RowKit
set_option linter.unusedVariables false

/-- How many wait that it is not of. -/
def ctN (st : List SdP) (o : TmR) : Nat := st.length - (plT o).length
/-- What it is of waits at the end. -/
def okN (st : List SdP) (o : TmR) : Bool := decide ((plT o).length ≤ st.length) && decide ((st.drop (ctN st o)).map Prod.fst = plT o)
def stG (l : List TmR) (ps : Nat → SlT) : Nat → Nat → List SdP → Value × Int
  | 0, _, st => if st.length = 1 then ((nthSd st 0).2, 0) else (.nilIface, 1)
  | f + 1, i, st => if owF (nthTm l i) = 0 then (if okN st (nthTm l i) then stG l ps f (i + 1) (st.take (ctN st (nthTm l i)) ++ [((i : Int), growV (nthTm l i) (ps i) ((st.drop (ctN st (nthTm l i))).map Prod.snd))]) else (.nilIface, 1)) else (.nilIface, owF (nthTm l i))
/-- THE TREE OF ALL TERMS, and their fault. -/
def trV (l : List TmR) (ps : Nat → SlT) : Value × Int := if 1 ≤ l.length ∧ l.length ≤ 12 then stG l ps l.length 0 [] else (.nilIface, 2)

theorem okN_rev (st : List SdP) (o : TmR) : okN st o = decide (((st.map Prod.fst).reverse).take (prT o).length = prT o) := by
  have hpl : (prT o).length = (plT o).length := by rw [← prT_rev, List.length_reverse]
  unfold okN ctN
  by_cases h : (plT o).length ≤ st.length
  · rw [decide_eq_true h, Bool.true_and]
    refine decide_eq_decide.2 ?_
    rw [hpl, ← prT_rev, List.take_reverse, List.length_map, ← List.map_drop]
    exact ⟨fun h' => by rw [h'], fun h' => List.reverse_inj.1 h'⟩
  · rw [decide_eq_false h, Bool.false_and]
    refine (decide_eq_false (fun h' => h ?_)).symm
    have := congrArg List.length h'
    rw [List.length_take, List.length_reverse, List.length_map, hpl] at this
    omega
theorem stG_tf {l : List TmR} {ps : Nat → SlT} : ∀ f i st, (stG l ps f i st).2 = tfG l f i (st.map Prod.fst).reverse := by
  intro f
  induction f with
  | zero =>
    intro i st
    unfold stG tfG
    rw [List.length_reverse, List.length_map]
    by_cases h : st.length = 1
    · rw [if_pos h, if_pos h]
    · rw [if_neg h, if_neg h]
  | succ f ih =>
    intro i st
    unfold stG tfG
    by_cases ho : owF (nthTm l i) = 0
    · rw [if_pos ho, if_pos ho]
      cases hk : okN st (nthTm l i) with
      | true =>
        have hk' := hk
        rw [okN_rev] at hk'
        rw [if_pos rfl, if_pos (of_decide_eq_true hk'), ih]
        have hle : (plT (nthTm l i)).length ≤ st.length := by
          unfold okN at hk
          simp only [Bool.and_eq_true] at hk
          exact of_decide_eq_true hk.1
        have hpl : (prT (nthTm l i)).length = (plT (nthTm l i)).length := by rw [← prT_rev, List.length_reverse]
        rw [List.map_append, List.reverse_append, List.map_take]
        have : ((st.map Prod.fst).take (ctN st (nthTm l i))).reverse = ((st.map Prod.fst).reverse).drop (prT (nthTm l i)).length := by
          rw [List.drop_reverse, hpl, List.length_map]; rfl
        rw [this]
        rfl
      | false =>
        have hk' := hk
        rw [okN_rev] at hk'
        rw [if_neg (by simp), if_neg (of_decide_eq_false hk')]
    · rw [if_neg ho, if_neg ho]
theorem trV_tm (l : List TmR) (ps : Nat → SlT) : (trV l ps).2 = tmV l := by
  rw [← tf_mf]
  unfold trV tfV
  by_cases h : 1 ≤ l.length ∧ l.length ≤ 12
  · rw [if_pos h, if_pos h, stG_tf]; rfl
  · rw [if_neg h, if_neg h]

theorem IfS.next {st : List SdP} (h : IfS st) (k : Nat) (i : Int) (v : Value) (hv : ∃ t u, v = .iface t u) : IfS (st.take k ++ [(i, v)]) := by
  intro j hj
  unfold nthSd
  rw [List.getD_eq_getElem?_getD]
  rw [List.length_append, List.length_singleton] at hj
  by_cases hjk : j < (st.take k).length
  · rw [List.getElem?_append_left hjk]
    have hj2 : j < st.length := by rw [List.length_take] at hjk; omega
    obtain ⟨t, u, e⟩ := h j hj2
    unfold nthSd at e
    rw [List.getD_eq_getElem?_getD] at e
    rw [List.getElem?_take, if_pos (by rw [List.length_take] at hjk; omega)]
    exact ⟨t, u, e⟩
  · rw [List.getElem?_append_right (by omega), show j - (st.take k).length = 0 by omega]
    exact hv

/-- How the telling apart ends. -/
def CutEnd (B : Nat) (st : List SdP) (o : TmR) (e : Ending) (w' : World) : Prop :=
  if okN st o then ∃ v1 a2 c2, e = .returned (.tuple #[v1, .slice a2 (plT o).length c2, .bool true]) ∧ OwnSd w' B v1 (st.take (ctN st o)) ∧ (plT o).length ≤ c2 ∧ c2 ≤ maxLen ∧ RdSd w' a2 (st.drop (ctN st o))
  else e = .returned (.tuple #[.slice none 0 0, .slice none 0 0, .bool false])
theorem cutLast_any (v : Value) (st : List SdP) (o : TmR) (s : SlQ) {lo B : Nat} (w : World) (hO : OwnSd w B v st) (hi : IfS st) (hs : IsIl lo w s (plT o)) :
    Calls Tryz.prog 105 #[v, slW s] w fun e w' => CutEnd B st o e w' ∧ Below w.heap.size w w' := by
  have hO' := hO
  have hsl := hs.1
  by_cases hle : (plT o).length ≤ st.length
  · rcases hO.2 with ⟨rfl, h0⟩ | ⟨g, cap, cur, rfl, h2, h3, h4, h5, h6, h7⟩
    · have hst : st = [] := List.length_eq_zero_iff.1 h0
      subst hst
      have hpl : plT o = [] := List.length_eq_zero_iff.1 (by simpa using hle)
      rw [hpl] at hs
      refine (cutLast_nil s w hs).mono fun e w' ⟨he, hb⟩ => ⟨?_, hb⟩
      unfold CutEnd okN ctN
      rw [hpl]
      simp only [List.length_nil, Nat.le_refl, decide_true, List.drop_nil, List.map_nil, Bool.and_self, if_true, List.take_nil]
      exact ⟨_, _, _, he, OwnSd.nil _ _, Nat.zero_le _, by decide, .inl rfl⟩
    · have hrd := hO.rd.2
      have hct : st.length = ctN st o + (plT o).length := by unfold ctN; omega
      by_cases hcc : ctN st o = cap
      · have hm0 : (plT o).length = 0 := by omega
        have hpl : plT o = [] := List.length_eq_zero_iff.1 hm0
        have hctl : ctN st o = st.length := by omega
        have hs0 := hs
        rw [hpl] at hs0
        have := cutLast_full g cap s w h5 hs0
        rw [show st.length = cap by omega]
        refine this.mono fun e w' ⟨he, hb⟩ => ⟨?_, hb⟩
        have hok : okN st o = true := by
          unfold okN
          rw [hctl, List.drop_length, hpl]
          simp
        unfold CutEnd
        rw [hok, if_pos rfl]
        refine ⟨_, _, _, by rw [hm0]; exact he, ?_, by omega, by decide, ?_⟩
        · rw [hctl, List.take_length]
          have h8 := hO'.below hb (Nat.le_refl _)
          rw [show st.length = cap by omega] at h8
          exact h8
        · rw [hctl, List.drop_length]; exact .inl rfl
      · have := cutLast_some g (ctN st o) (plT o).length cap s st (plT o) w hct (by omega) hcc h5 hrd hi hs rfl _ rfl
        rw [hct]
        refine this.mono fun e w' ⟨he, hb⟩ => ⟨?_, hb⟩
        have hok : okN st o = decide ((st.drop (ctN st o)).map Prod.fst = plT o) := by
          unfold okN
          rw [decide_eq_true hle, Bool.true_and]
        unfold CutEnd
        rw [hok]
        cases hd : decide ((st.drop (ctN st o)).map Prod.fst = plT o) with
        | true =>
          rw [hd] at he
          rw [if_pos rfl]
          refine ⟨_, _, _, he, ?_, by omega, by omega, ?_⟩
          · exact (hO'.take (ctN st o) (by omega)).below hb (Nat.le_refl _)
          · have := hrd.drop (ctN st o) (by omega)
            rw [Nat.zero_add] at this
            exact this.below hb
        | false =>
          rw [hd] at he
          rw [if_neg (by simp)]
          exact he
  · obtain ⟨a, cap, rfl, h4, h5⟩ := hO.form
    have := cutLast_few a st.length cap s w h4 h5 (Nat.le_trans hs.2.1 hs.2.2.1) (by omega)
    refine this.mono fun e w' ⟨he, hb⟩ => ⟨?_, hb⟩
    have hok : okN st o = false := by
      unfold okN
      rw [decide_eq_false hle, Bool.false_and]
    unfold CutEnd
    rw [hok, if_neg (by simp)]
    exact he
end Go.Proofs.YthmimalplpjghaaGreatDoor
