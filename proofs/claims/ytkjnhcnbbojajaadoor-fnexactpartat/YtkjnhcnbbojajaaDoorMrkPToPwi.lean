/- The laws' helpers over slices of parts: two that are alike are held to be the same; what is marked is found again; at most 1048576 parts · Parts by plain functions: where each lies, in which it is; its path · The parts of a message of which one is asked: partsWith, partIn. -/
import Derived.Test.YtkjnhcnbbojajaaDoorMemPToMrkF
import Derived.Test.YtkjnhcnbbojajaaDoorTyp5ToCod
import Derived.Test.YtkjnhcnbbojajaaDoorFdoToFar
import Derived.Test.YtkjnhcnbbojajaaDoorRdmToRdp0
import Derived.Test.YtkjnhcnbbojajaaDoorMemFToOpnF
namespace Go.Proofs.YtkjnhcnbbojajaaDoor
open Go.RowKit

def nthP (l : List PtP) (i : Nat) : PtP := l.getD i ((0, 0, 0), (0, 0), (0, 0))
theorem nthP_get {l : List PtP} {i : Nat} (h : i < l.length) : nthP l i = l[i] := by
  simp [nthP, List.getD_eq_getElem?_getD, List.getElem?_eq_getElem h]
theorem pc_get : ∀ (l : List PtP) (i : Nat), i < l.length → (pc l)[i * 7]? = some (.int .i64 (nthP l i).1.1) ∧ (pc l)[i * 7 + 1]? = some (.int .i64 (nthP l i).1.2.1) ∧ (pc l)[i * 7 + 2]? = some (.int .i64 (nthP l i).1.2.2) ∧ (pc l)[i * 7 + 3]? = some (.int .i64 (nthP l i).2.1.1) ∧ (pc l)[i * 7 + 4]? = some (.int .i64 (nthP l i).2.1.2) ∧ (pc l)[i * 7 + 5]? = some (.int .i64 (nthP l i).2.2.1) ∧ (pc l)[i * 7 + 6]? = some (.int .i64 (nthP l i).2.2.2)
  | x :: l, 0, _ => ⟨rfl, rfl, rfl, rfl, rfl, rfl, rfl⟩
  | x :: l, i + 1, h => by
    have hi := pc_get l i (by simpa using h)
    have e : ∀ k, (pc (x :: l))[(i + 1) * 7 + k]? = (pc l)[i * 7 + k]? := fun k => by
      rw [pc_cons, List.getElem?_append_right (by simp [pcl]; omega)]
      have hp : (pcl x).length = 7 := rfl
      rw [hp]; congr 1; omega
    have e0 : nthP (x :: l) (i + 1) = nthP l i := by simp [nthP]
    rw [e0]
    exact ⟨(e 0).trans hi.1, (e 1).trans hi.2.1, (e 2).trans hi.2.2.1, (e 3).trans hi.2.2.2.1, (e 4).trans hi.2.2.2.2.1, (e 5).trans hi.2.2.2.2.2.1, (e 6).trans hi.2.2.2.2.2.2⟩
/-- THE PARTS l STAND AT a. -/
def RdP (w : World) (a : Option Addr) (l : List PtP) : Prop := l = [] ∨ ∃ b, a = some ⟨b, 0, none⟩ ∧ b < w.heap.size ∧ ∀ i, i < l.length * 7 → w.cell? ⟨b, i, none⟩ = (pc l)[i]?
theorem RdP.below {w w' : World} {a : Option Addr} {l : List PtP} (h : RdP w a l) (hb : Below w.heap.size w w') : RdP w' a l := by
  rcases h with h | ⟨b, h1, h2, h3⟩
  · exact .inl h
  · exact .inr ⟨b, h1, Nat.lt_of_lt_of_le h2 hb.size, fun i hi => (hb.cell (p := ⟨b, i, none⟩) h2).trans (h3 i hi)⟩
theorem RdP.at_ {w : World} {a : Option Addr} {l : List PtP} (h : RdP w a l) (hp : 0 < l.length) : ∃ b, a = some ⟨b, 0, none⟩ ∧ b < w.heap.size ∧ ∀ k, k < l.length → w.cell? ⟨b, k * 7, none⟩ = some (.int .i64 (nthP l k).1.1) ∧ w.cell? ⟨b, k * 7 + 1, none⟩ = some (.int .i64 (nthP l k).1.2.1) ∧ w.cell? ⟨b, k * 7 + 2, none⟩ = some (.int .i64 (nthP l k).1.2.2) ∧ w.cell? ⟨b, k * 7 + 3, none⟩ = some (.int .i64 (nthP l k).2.1.1) ∧ w.cell? ⟨b, k * 7 + 4, none⟩ = some (.int .i64 (nthP l k).2.1.2) ∧ w.cell? ⟨b, k * 7 + 5, none⟩ = some (.int .i64 (nthP l k).2.2.1) ∧ w.cell? ⟨b, k * 7 + 6, none⟩ = some (.int .i64 (nthP l k).2.2.2) := by
  rcases h with h | ⟨b, h1, h2, h3⟩
  · subst h; simp at hp
  · refine ⟨b, h1, h2, fun k hk => ?_⟩
    obtain ⟨g0, g1, g2, g3, g4, g5, g6⟩ := pc_get l k hk
    exact ⟨(h3 _ (by omega)).trans g0, (h3 _ (by omega)).trans g1, (h3 _ (by omega)).trans g2, (h3 _ (by omega)).trans g3, (h3 _ (by omega)).trans g4, (h3 _ (by omega)).trans g5, (h3 _ (by omega)).trans g6⟩
theorem OwnP.rd {w : World} {B n cap : Nat} {a : Option Addr} {l : List PtP} (h : OwnP w B (.slice a n cap) l) : l.length = n ∧ RdP w a l := by
  have hf : l.length = n := by
    obtain ⟨a', c', e, _⟩ := h.form
    simp at e; omega
  refine ⟨hf, ?_⟩
  rcases l with _ | ⟨x, l⟩
  · exact .inl rfl
  · have h0 := h
    rcases h.2 with ⟨_, h1⟩ | ⟨g, cap', cur, h1, h2, h3, h4⟩
    · simp at h1
    · obtain ⟨rfl⟩ : a = some ⟨g, 0, none⟩ := by simp at h1; exact h1.1
      refine .inr ⟨g, rfl, (Array.getElem?_eq_some_iff.1 h3).1, fun i hi => ?_⟩
      unfold OwnP at h0
      rw [hf] at h0
      exact h0.cellAt i (by omega)
theorem OwnP.lt {w : World} {B : Nat} {v : Value} {l : List PtP} (h : OwnP w B v l) (g : Nat) (hg : v.ownBlock = some g) : B ≤ g ∧ g < w.heap.size := World.ownsRow.lt h g hg
theorem OwnP.far {w w' : World} {B : Nat} {v : Value} {l : List PtP} {row : Option Nat} (h : OwnP w B v l) (hg : w.grownBy w' row) (hne : ∀ b, v.ownBlock = some b → some b ≠ row) : OwnP w' B v l := by
  refine ⟨h.1, ?_⟩
  rcases h.2 with h' | ⟨g, cap, cur, h1, h2, h3, h4⟩
  · exact .inl h'
  · refine .inr ⟨g, cap, cur, h1, h2, ?_, h4⟩
    have hlt : g < w.heap.size := (Array.getElem?_eq_some_iff.1 h3).1
    rw [hg.block g hlt (hne g (by rw [h1]; rfl))]; exact h3

/-- The marks of n parts from k on. -/
def marksP (n k : Nat) : List PtP := (List.range n).map fun i => ((((k + i * 7 : Nat) : Int), ((k + i * 7 + 1 : Nat) : Int), ((k + i * 7 + 2 : Nat) : Int)), ((((k + i * 7 + 3 : Nat) : Int)), ((k + i * 7 + 4 : Nat) : Int)), ((((k + i * 7 + 5 : Nat) : Int)), ((k + i * 7 + 6 : Nat) : Int)))
theorem marksP_len (n k : Nat) : (marksP n k).length = n := by simp [marksP]
theorem marksP_nth {n k i : Nat} (h : i < n) : nthP (marksP n k) i = ((((k + i * 7 : Nat) : Int), ((k + i * 7 + 1 : Nat) : Int), ((k + i * 7 + 2 : Nat) : Int)), ((((k + i * 7 + 3 : Nat) : Int)), ((k + i * 7 + 4 : Nat) : Int)), ((((k + i * 7 + 5 : Nat) : Int)), ((k + i * 7 + 6 : Nat) : Int))) := by
  rw [nthP_get (by rw [marksP_len]; exact h)]; simp [marksP]
theorem marksI_snoc (n k : Nat) : marksI (n + 1) k = marksI n k ++ [((k + n : Nat) : Int)] := by simp [marksI, List.range_succ]
theorem pc_marks (k : Nat) : ∀ n, pc (marksP n k) = ic (marksI (n * 7) k)
  | 0 => rfl
  | n + 1 => by
    have e : marksP (n + 1) k = marksP n k ++ [((((k + n * 7 : Nat) : Int), ((k + n * 7 + 1 : Nat) : Int), ((k + n * 7 + 2 : Nat) : Int)), ((((k + n * 7 + 3 : Nat) : Int)), ((k + n * 7 + 4 : Nat) : Int)), ((((k + n * 7 + 5 : Nat) : Int)), ((k + n * 7 + 6 : Nat) : Int)))] := by simp [marksP, List.range_succ]
    rw [e, pc_app, pc_marks k n, show (n + 1) * 7 = n * 7 + 1 + 1 + 1 + 1 + 1 + 1 + 1 by omega]
    simp only [marksI_snoc, ic_app, List.append_assoc]
    rfl
/-- The first c cells marked. -/
def mhP (l : List PtP) (k c : Nat) : List Value := ic (marksI c k) ++ (pc l).drop c
theorem mhP_zero (l : List PtP) (k : Nat) : mhP l k 0 = pc l := by simp [mhP, marksI, ic]
theorem mhP_all (l : List PtP) (k : Nat) : mhP l k (l.length * 7) = pc (marksP l.length k) := by rw [mhP, pc_marks, List.drop_of_length_le (by rw [pc_len]; omega), List.append_nil]
theorem mhP_len (l : List PtP) (k c : Nat) (h : c ≤ l.length * 7) : (mhP l k c).length = l.length * 7 := by simp [mhP, ic_len, marksI_len, pc_len]; omega
theorem mhP_set (l : List PtP) (k c : Nat) (h : c < l.length * 7) : (mhP l k c).set c (.int .i64 ((k + c : Nat) : Int)) = mhP l k (c + 1) := by
  have hm : (ic (marksI c k)).length = c := by rw [ic_len, marksI_len]
  have hd : (pc l).drop c = (pc l)[c]'(by rw [pc_len]; omega) :: (pc l).drop (c + 1) := (List.drop_eq_getElem_cons (by rw [pc_len]; omega))
  unfold mhP
  rw [marksI_snoc, ic_app, List.set_append, hm, if_neg (Nat.lt_irrefl c), Nat.sub_self, hd, List.set_cons_zero, List.append_assoc]
  rfl
theorem mhP_get (l : List PtP) (k c i : Nat) (hi : i < l.length) (hc : c ≤ i * 7) : (mhP l k c)[i * 7]? = some (.int .i64 (nthP l i).1.1) ∧ (mhP l k c)[i * 7 + 1]? = some (.int .i64 (nthP l i).1.2.1) ∧ (mhP l k c)[i * 7 + 2]? = some (.int .i64 (nthP l i).1.2.2) ∧ (mhP l k c)[i * 7 + 3]? = some (.int .i64 (nthP l i).2.1.1) ∧ (mhP l k c)[i * 7 + 4]? = some (.int .i64 (nthP l i).2.1.2) ∧ (mhP l k c)[i * 7 + 5]? = some (.int .i64 (nthP l i).2.2.1) ∧ (mhP l k c)[i * 7 + 6]? = some (.int .i64 (nthP l i).2.2.2) := by
  have hm : (ic (marksI c k)).length = c := by rw [ic_len, marksI_len]
  have e : ∀ q, c ≤ q → (mhP l k c)[q]? = (pc l)[q]? := fun q hq => by
    unfold mhP
    rw [List.getElem?_append_right (by rw [hm]; exact hq), hm, List.getElem?_drop]; congr 1; omega
  obtain ⟨g0, g1, g2, g3, g4, g5, g6⟩ := pc_get l i hi
  exact ⟨(e _ hc).trans g0, (e _ (by omega)).trans g1, (e _ (by omega)).trans g2, (e _ (by omega)).trans g3, (e _ (by omega)).trans g4, (e _ (by omega)).trans g5, (e _ (by omega)).trans g6⟩

set_option maxHeartbeats 3200000 in
set_option maxRecDepth 100000 in
theorem markPartS_any (a : Option Addr) (n cap k B : Nat) (l : List PtP) (w : World) (hown : OwnP w B (.slice a n cap) l) (hn : n ≤ 1048576) (hk : k ≤ 1048576) :
    Calls Tryd.prog 42 #[.slice a n cap, .int .i64 (k : Int)] w fun e w' =>
      e = .returned (.int .i64 ((k + n * 7 : Nat) : Int)) ∧ OwnP w' B (.slice a n cap) (marksP n k) ∧ w.grownBy w' (Value.slice a n cap).ownBlock := by
  obtain ⟨hl, -⟩ := hown.rd
  have hown0 : w.ownsRow B 35 7 (.slice a n cap) n (mhP l k (0 * 7)) := by have h := hown; unfold OwnP at h; rw [hl] at h; rw [Nat.zero_mul, mhP_zero]; exact h
  have hfin : ∀ w', w'.ownsRow B 35 7 (.slice a n cap) n (mhP l k (n * 7)) → OwnP w' B (.slice a n cap) (marksP n k) := fun w' h => by
    unfold OwnP; rw [marksP_len]; rw [← hl, mhP_all, hl] at h; exact h
  have HF : Hid (_) := hfin
  clear hown hfin
  go_enter Tryd.func42, Tryd.ntmps42
  go_wp2
  go_loopw [1, 5] (fun q i wr => ∃ j : Nat, j ≤ n ∧ i = .int .i64 j ∧ q = .int .i64 ((k + j * 7 : Nat) : Int) ∧ wr.ownsRow B 35 7 (.slice a n cap) n (mhP l k (j * 7)) ∧ w.grownBy wr (Value.slice a n cap).ownBlock)
    (fun _ i _ => n - (intOf i).toNat)
  case atStart => exact ⟨0, Nat.zero_le _, rfl, rfl, hown0, World.grownBy.refl _ _⟩
  case round =>
    obtain ⟨j, hj, rfl, rfl, o0, hgr⟩ := hrel
    clear hown0
    by_cases hjn : j < n
    · obtain ⟨g, hg⟩ : ∃ g, a = some ⟨g, 0, none⟩ := by
        rcases o0.2 with ⟨h0, h1⟩ | ⟨g', cap', cur, h', _⟩
        · omega
        · simp at h'; exact ⟨g', h'.1⟩
      subst hg
      have hji : (j : Int) < (n : Int) := by omega
      obtain ⟨f0, f1, f2, f3, f4, f5, f6⟩ := mhP_get l k (j * 7) j (by omega) (Nat.le_refl _)
      have hgr' : w.grownBy wr (some g) := hgr
      have hb0 : ((k + j * 7 : Nat) : Int) ≤ 8388616 := by omega
      have hb1 : 0 ≤ ((k + j * 7 : Nat) : Int) := by omega

      have c0 : wr.cell? ⟨g, j * 7, none⟩ = some (.int .i64 (nthP l j).1.1) := (o0.cellAt (j * 7) (by omega)).trans f0
      have z0 := o0.frozenAt (j * 7)
      have c1 : wr.cell? ⟨g, j * 7 + 1, none⟩ = some (.int .i64 (nthP l j).1.2.1) := (o0.cellAt (j * 7 + 1) (by omega)).trans f1
      have z1 := o0.frozenAt (j * 7 + 1)
      have c2 : wr.cell? ⟨g, j * 7 + 2, none⟩ = some (.int .i64 (nthP l j).1.2.2) := (o0.cellAt (j * 7 + 2) (by omega)).trans f2
      have z2 := o0.frozenAt (j * 7 + 2)
      have c3 : wr.cell? ⟨g, j * 7 + 3, none⟩ = some (.int .i64 (nthP l j).2.1.1) := (o0.cellAt (j * 7 + 3) (by omega)).trans f3
      have z3 := o0.frozenAt (j * 7 + 3)
      have c4 : wr.cell? ⟨g, j * 7 + 4, none⟩ = some (.int .i64 (nthP l j).2.1.2) := (o0.cellAt (j * 7 + 4) (by omega)).trans f4
      have z4 := o0.frozenAt (j * 7 + 4)
      have c5 : wr.cell? ⟨g, j * 7 + 5, none⟩ = some (.int .i64 (nthP l j).2.2.1) := (o0.cellAt (j * 7 + 5) (by omega)).trans f5
      have z5 := o0.frozenAt (j * 7 + 5)
      have c6 : wr.cell? ⟨g, j * 7 + 6, none⟩ = some (.int .i64 (nthP l j).2.2.2) := (o0.cellAt (j * 7 + 6) (by omega)).trans f6
      have z6 := o0.frozenAt (j * 7 + 6)
      obtain ⟨o1, g1⟩ := o0.stored (j * 7) (.int .i64 ((k + (j * 7) : Nat) : Int))
      rw [mhP_set l k (j * 7) (by omega)] at o1
      obtain ⟨o2, g2⟩ := o1.stored (j * 7 + 1) (.int .i64 ((k + (j * 7 + 1) : Nat) : Int))
      rw [mhP_set l k (j * 7 + 1) (by omega)] at o2
      obtain ⟨o3, g3⟩ := o2.stored (j * 7 + 2) (.int .i64 ((k + (j * 7 + 2) : Nat) : Int))
      rw [mhP_set l k (j * 7 + 2) (by omega)] at o3
      obtain ⟨o4, g4⟩ := o3.stored (j * 7 + 3) (.int .i64 ((k + (j * 7 + 3) : Nat) : Int))
      rw [mhP_set l k (j * 7 + 3) (by omega)] at o4
      obtain ⟨o5, g5⟩ := o4.stored (j * 7 + 4) (.int .i64 ((k + (j * 7 + 4) : Nat) : Int))
      rw [mhP_set l k (j * 7 + 4) (by omega)] at o5
      obtain ⟨o6, g6⟩ := o5.stored (j * 7 + 5) (.int .i64 ((k + (j * 7 + 5) : Nat) : Int))
      rw [mhP_set l k (j * 7 + 5) (by omega)] at o6
      obtain ⟨o7, g7⟩ := o6.stored (j * 7 + 6) (.int .i64 ((k + (j * 7 + 6) : Nat) : Int))
      rw [mhP_set l k (j * 7 + 6) (by omega)] at o7
      have G : Hid (w.grownBy _ (some g)) := grow_then (grow_then (grow_then (grow_then (grow_then (grow_then (grow_then hgr' g1) g2) g3) g4) g5) g6) g7
      have O : Hid (_) := o7
      have e1 : ((k + (j * 7 + 1) : Nat) : Int) = ((k + j * 7 : Nat) : Int) + 1 := by omega
      have e2 : ((k + (j * 7 + 2) : Nat) : Int) = ((k + j * 7 : Nat) : Int) + 1 + 1 := by omega
      have e3 : ((k + (j * 7 + 3) : Nat) : Int) = ((k + j * 7 : Nat) : Int) + 1 + 1 + 1 := by omega
      have e4 : ((k + (j * 7 + 4) : Nat) : Int) = ((k + j * 7 : Nat) : Int) + 1 + 1 + 1 + 1 := by omega
      have e5 : ((k + (j * 7 + 5) : Nat) : Int) = ((k + j * 7 : Nat) : Int) + 1 + 1 + 1 + 1 + 1 := by omega
      have e6 : ((k + (j * 7 + 6) : Nat) : Int) = ((k + j * 7 : Nat) : Int) + 1 + 1 + 1 + 1 + 1 + 1 := by omega
      have e7 : (((k + j * 7 : Nat) : Int) + 1 + 1 + 1 + 1 + 1 + 1 + 1) = ((k + (j + 1) * 7 : Nat) : Int) := by omega
      have E7 : Hid (_) := e7
      rw [show j * 7 + 6 + 1 = (j + 1) * 7 by omega] at O
      rw [e1, e2, e3, e4, e5, e6] at O G
      clear o0 o1 o2 o3 o4 o5 o6 o7 g1 g2 g3 g4 g5 g6 g7 hgr hgr' f0 f1 f2 f3 f4 f5 f6 e1 e2 e3 e4 e5 e6 e7
      generalize nthP l j = pt at *
      obtain ⟨⟨x0, x1, x2⟩, ⟨x3, x4⟩, x5, x6⟩ := pt
      dsimp only at c0 c1 c2 c3 c4 c5 c6
      generalize hK0 : ((k + j * 7 : Nat) : Int) = kk at *
      clear hK0
      go_wp2
      go_roundw
      case rel => exact ⟨j + 1, by omega, by go_num, by rw [E7.out], O.out, G.out⟩
      case measure => simp [intOf]; omega
    · have hjj : j = n := by omega
      subst hjj
      have hji : ¬ (j : Int) < (j : Int) := by omega
      have HO := HF.out _ o0
      clear o0
      go_wp2
      go_ret
      exact ⟨rfl, HO, hgr⟩

set_option maxHeartbeats 1600000 in
set_option maxRecDepth 100000 in
theorem heldPartS_any (a : Option Addr) (n cap k : Nat) (w : World) (hr : RdP w a (marksP n k)) (hn : n ≤ 1048576) (hk : k ≤ 1048576) :
    Calls Tryd.prog 43 #[.slice a n cap, .int .i64 (k : Int)] w fun e w' => e = .returned (.int .i64 ((k + n * 7 : Nat) : Int)) ∧ Below w.heap.size w w' := by
  go_enter Tryd.func43, Tryd.ntmps43
  go_wp2
  go_loop [1, 5] (fun q i => ∃ j : Nat, j ≤ n ∧ i = .int .i64 j ∧ q = .int .i64 ((k + j * 7 : Nat) : Int)) (fun _ i => n - (intOf i).toNat)
  case atStart => exact ⟨0, Nat.zero_le _, rfl, rfl⟩
  case round =>
    obtain ⟨j, hj, rfl, rfl⟩ := hrel
    by_cases hjn : j < n
    · obtain ⟨b, rfl, hblt, hcell⟩ := hr.at_ (by rw [marksP_len]; omega)
      obtain ⟨c0, c1, c2, c3, c4, c5, c6⟩ := hcell j (by rw [marksP_len]; exact hjn)
      rw [marksP_nth hjn] at c0 c1 c2 c3 c4 c5 c6
      dsimp only at c0 c1 c2 c3 c4 c5 c6
      have hji : (j : Int) < (n : Int) := by omega
      have hb0 : ((k + j * 7 : Nat) : Int) ≤ 8388616 := by omega
      have hb1 : 0 ≤ ((k + j * 7 : Nat) : Int) := by omega
      rw [show ((k + j * 7 + 1 : Nat) : Int) = ((k + j * 7 : Nat) : Int) + 1 by omega] at c1
      rw [show ((k + j * 7 + 2 : Nat) : Int) = ((k + j * 7 : Nat) : Int) + 1 + 1 by omega] at c2
      rw [show ((k + j * 7 + 3 : Nat) : Int) = ((k + j * 7 : Nat) : Int) + 1 + 1 + 1 by omega] at c3
      rw [show ((k + j * 7 + 4 : Nat) : Int) = ((k + j * 7 : Nat) : Int) + 1 + 1 + 1 + 1 by omega] at c4
      rw [show ((k + j * 7 + 5 : Nat) : Int) = ((k + j * 7 : Nat) : Int) + 1 + 1 + 1 + 1 + 1 by omega] at c5
      rw [show ((k + j * 7 + 6 : Nat) : Int) = ((k + j * 7 : Nat) : Int) + 1 + 1 + 1 + 1 + 1 + 1 by omega] at c6
      have E7 : Hid (((k + j * 7 : Nat) : Int) + 1 + 1 + 1 + 1 + 1 + 1 + 1 = ((k + (j + 1) * 7 : Nat) : Int)) := by show _ = _; omega
      clear hcell hr
      generalize hK0 : ((k + j * 7 : Nat) : Int) = kk at *
      clear hK0
      go_wp2
      go_round
      case rel => exact ⟨j + 1, by omega, by go_num, by rw [E7.out]⟩
      case measure => simp [intOf]; omega
    · have hjj : j = n := by omega
      subst hjj
      have hji : ¬ (j : Int) < (j : Int) := by omega
      go_wp2
      go_ret
      exact ⟨rfl, Below.refl _ _⟩

set_option maxHeartbeats 3200000 in
set_option maxRecDepth 100000 in
theorem eqPartS_same (a c : Option Addr) (n cap cap' : Nat) (l : List PtP) (w : World) (hl : l.length = n) (hr : RdP w a l) (hs : RdP w c l) (hn : n ≤ 1048576) :
    Calls Tryd.prog 41 #[.slice a n cap, .slice c n cap'] w fun e w' => e = .returned (.bool true) ∧ Below w.heap.size w w' := by
  go_enter Tryd.func41, Tryd.ntmps41
  go_wp2
  go_loopw [5] (fun i wr => ∃ k : Nat, k ≤ n ∧ i = .int .i64 k ∧ Below w.heap.size w wr) (fun i _ => n - (intOf i).toNat)
  case atStart => exact ⟨0, Nat.zero_le _, rfl, Below.refl _ _⟩
  case round =>
    obtain ⟨k, hk, rfl, hbel⟩ := hrel
    by_cases hkn : k < n
    · obtain ⟨b, rfl, hblt, hcell⟩ := (hr.below hbel).at_ (by omega)
      obtain ⟨d, rfl, hdlt, hdell⟩ := (hs.below hbel).at_ (by omega)
      obtain ⟨c0, c1, c2, c3, c4, c5, c6⟩ := hcell k (by omega)
      obtain ⟨d0, d1, d2, d3, d4, d5, d6⟩ := hdell k (by omega)
      have hki : (k : Int) < (n : Int) := by omega
      clear hcell hdell hr hs
      generalize nthP l k = p at *
      obtain ⟨⟨x0, x1, x2⟩, ⟨x3, x4⟩, x5, x6⟩ := p
      dsimp only at c0 c1 c2 c3 c4 c5 c6 d0 d1 d2 d3 d4 d5 d6
      go_wp2_with fail
      refine wp_region_held_drew (S := fun w' => (w'.cell? ⟨b, k * 7, none⟩ = some (.int .i64 x0) ∧ w'.cell? ⟨b, k * 7 + 1, none⟩ = some (.int .i64 x1) ∧ w'.cell? ⟨b, k * 7 + 2, none⟩ = some (.int .i64 x2) ∧ w'.cell? ⟨b, k * 7 + 3, none⟩ = some (.int .i64 x3) ∧ w'.cell? ⟨b, k * 7 + 4, none⟩ = some (.int .i64 x4) ∧ w'.cell? ⟨b, k * 7 + 5, none⟩ = some (.int .i64 x5) ∧ w'.cell? ⟨b, k * 7 + 6, none⟩ = some (.int .i64 x6)) ∧ (w'.cell? ⟨d, k * 7, none⟩ = some (.int .i64 x0) ∧ w'.cell? ⟨d, k * 7 + 1, none⟩ = some (.int .i64 x1) ∧ w'.cell? ⟨d, k * 7 + 2, none⟩ = some (.int .i64 x2) ∧ w'.cell? ⟨d, k * 7 + 3, none⟩ = some (.int .i64 x3) ∧ w'.cell? ⟨d, k * 7 + 4, none⟩ = some (.int .i64 x4) ∧ w'.cell? ⟨d, k * 7 + 5, none⟩ = some (.int .i64 x5) ∧ w'.cell? ⟨d, k * 7 + 6, none⟩ = some (.int .i64 x6))) (by kernel_rfl) ?hS1 (fun hHeld => ?_)
      case hS1 => exact ⟨⟨c0, c1, c2, c3, c4, c5, c6⟩, ⟨d0, d1, d2, d3, d4, d5, d6⟩⟩
      refine wpAnyH_take (i := 0) (v := ?_) rfl (by kernel_rfl) (by kernel_rfl) (by kernel_rfl) (fun _ _ _ h => h) (Or.inl ⟨by rfl, ?hy2⟩) (by assumption) ?ty2
      case hy2 => (intro w hSw; (try dsimp only at hSw); go_simp; all_goals with_reducible rfl)
      simp only [Act.put, List.getElem_toArray, List.getElem_cons_zero, List.setIfInBounds_toArray, List.set_cons_zero, List.set_cons_succ]
      refine wpAnyH_take (i := 1) (v := ?_) rfl (by kernel_rfl) (by kernel_rfl) (by kernel_rfl) (fun _ _ _ h => h) (Or.inl ⟨by rfl, ?hy3⟩) (by assumption) ?ty3
      case hy3 => (intro w hSw; (try dsimp only at hSw); go_simp; all_goals with_reducible rfl)
      simp only [Act.put, List.getElem_toArray, List.getElem_cons_zero, List.getElem_cons_succ, List.setIfInBounds_toArray, List.set_cons_zero, List.set_cons_succ]
      refine wpAnyH_take (i := 2) (v := ?_) rfl (by kernel_rfl) (by kernel_rfl) (by kernel_rfl) (fun _ _ _ h => h) (Or.inl ⟨by rfl, ?hy4⟩) (by assumption) ?ty4
      case hy4 => (intro w hSw; (try dsimp only at hSw); go_simp; all_goals with_reducible rfl)
      simp only [Act.put, List.getElem_toArray, List.getElem_cons_zero, List.getElem_cons_succ, List.setIfInBounds_toArray, List.set_cons_zero, List.set_cons_succ]
      refine wpAnyH_take (i := 3) (v := ?_) rfl (by kernel_rfl) (by kernel_rfl) (by kernel_rfl) (fun _ _ _ h => h) (Or.inl ⟨by rfl, ?hy5⟩) (by assumption) ?ty5
      case hy5 => (intro w hSw; (try dsimp only at hSw); go_simp; all_goals with_reducible rfl)
      simp only [Act.put, List.getElem_toArray, List.getElem_cons_zero, List.getElem_cons_succ, List.setIfInBounds_toArray, List.set_cons_zero, List.set_cons_succ]
      refine wpAnyH_take (i := 4) (v := ?_) rfl (by kernel_rfl) (by kernel_rfl) (by kernel_rfl) (fun _ _ _ h => h) (Or.inl ⟨by rfl, ?hy6⟩) (by assumption) ?ty6
      case hy6 => (intro w hSw; (try dsimp only at hSw); go_simp; all_goals with_reducible rfl)
      simp only [Act.put, List.getElem_toArray, List.getElem_cons_zero, List.getElem_cons_succ, List.setIfInBounds_toArray, List.set_cons_zero, List.set_cons_succ]
      refine wpAnyH_take (i := 5) (v := ?_) rfl (by kernel_rfl) (by kernel_rfl) (by kernel_rfl) (fun _ _ _ h => h) (Or.inl ⟨by rfl, ?hy7⟩) (by assumption) ?ty7
      case hy7 => (intro w hSw; (try dsimp only at hSw); go_simp; all_goals with_reducible rfl)
      simp only [Act.put, List.getElem_toArray, List.getElem_cons_zero, List.getElem_cons_succ, List.setIfInBounds_toArray, List.set_cons_zero, List.set_cons_succ]
      refine wpAnyH_take (i := 6) (v := ?_) rfl (by kernel_rfl) (by kernel_rfl) (by kernel_rfl) (fun _ _ _ h => h) (Or.inl ⟨by rfl, ?hy8⟩) (by assumption) ?ty8
      case hy8 => (intro w hSw; (try dsimp only at hSw); go_simp; all_goals with_reducible rfl)
      simp only [Act.put, List.getElem_toArray, List.getElem_cons_zero, List.getElem_cons_succ, List.setIfInBounds_toArray, List.set_cons_zero, List.set_cons_succ]
      refine wpAnyH_take (i := 7) (v := ?_) rfl (by kernel_rfl) (by kernel_rfl) (by kernel_rfl) (fun _ _ _ h => h) (Or.inl ⟨by rfl, ?hy9⟩) (by assumption) ?ty9
      case hy9 => (intro w hSw; (try dsimp only at hSw); go_simp; all_goals with_reducible rfl)
      simp only [Act.put, List.getElem_toArray, List.getElem_cons_zero, List.getElem_cons_succ, List.setIfInBounds_toArray, List.set_cons_zero, List.set_cons_succ]
      refine wpAnyH_ready (rs := [8]) (by kernel_rfl) (by simp) ?_
      refine AllReadyH.cons rfl (fun K hK => ?_) AllReadyH.nil
      go_simp
      refine (eqPart_same x0 x1 x2 x3 x4 x5 x6 _).mono ?_
      rintro e w1 ⟨rfl, hbx⟩
      have HW : Hid (Below wr.heap.size wr w1) := (Below.refl _ _).drew.trans hbx
      have hsS : (w1.cell? ⟨b, k * 7, none⟩ = some (.int .i64 x0) ∧ w1.cell? ⟨b, k * 7 + 1, none⟩ = some (.int .i64 x1) ∧ w1.cell? ⟨b, k * 7 + 2, none⟩ = some (.int .i64 x2) ∧ w1.cell? ⟨b, k * 7 + 3, none⟩ = some (.int .i64 x3) ∧ w1.cell? ⟨b, k * 7 + 4, none⟩ = some (.int .i64 x4) ∧ w1.cell? ⟨b, k * 7 + 5, none⟩ = some (.int .i64 x5) ∧ w1.cell? ⟨b, k * 7 + 6, none⟩ = some (.int .i64 x6)) ∧ (w1.cell? ⟨d, k * 7, none⟩ = some (.int .i64 x0) ∧ w1.cell? ⟨d, k * 7 + 1, none⟩ = some (.int .i64 x1) ∧ w1.cell? ⟨d, k * 7 + 2, none⟩ = some (.int .i64 x2) ∧ w1.cell? ⟨d, k * 7 + 3, none⟩ = some (.int .i64 x3) ∧ w1.cell? ⟨d, k * 7 + 4, none⟩ = some (.int .i64 x4) ∧ w1.cell? ⟨d, k * 7 + 5, none⟩ = some (.int .i64 x5) ∧ w1.cell? ⟨d, k * 7 + 6, none⟩ = some (.int .i64 x6)) := ⟨⟨(HW.out.cell (p := ⟨b, k * 7, none⟩) hblt).trans c0, (HW.out.cell (p := ⟨b, k * 7 + 1, none⟩) hblt).trans c1, (HW.out.cell (p := ⟨b, k * 7 + 2, none⟩) hblt).trans c2, (HW.out.cell (p := ⟨b, k * 7 + 3, none⟩) hblt).trans c3, (HW.out.cell (p := ⟨b, k * 7 + 4, none⟩) hblt).trans c4, (HW.out.cell (p := ⟨b, k * 7 + 5, none⟩) hblt).trans c5, (HW.out.cell (p := ⟨b, k * 7 + 6, none⟩) hblt).trans c6⟩, ⟨(HW.out.cell (p := ⟨d, k * 7, none⟩) hdlt).trans d0, (HW.out.cell (p := ⟨d, k * 7 + 1, none⟩) hdlt).trans d1, (HW.out.cell (p := ⟨d, k * 7 + 2, none⟩) hdlt).trans d2, (HW.out.cell (p := ⟨d, k * 7 + 3, none⟩) hdlt).trans d3, (HW.out.cell (p := ⟨d, k * 7 + 4, none⟩) hdlt).trans d4, (HW.out.cell (p := ⟨d, k * 7 + 5, none⟩) hdlt).trans d5, (HW.out.cell (p := ⟨d, k * 7 + 6, none⟩) hdlt).trans d6⟩⟩
      refine hK.out _ _ hsS (fun hHeld => ?_)
      clear hK K
      refine wpAnyH_take (i := 9) (v := ?_) rfl (by kernel_rfl) (by kernel_rfl) (by kernel_rfl) (fun _ _ _ h => h) (Or.inl ⟨by rfl, ?hy10⟩) (by assumption) ?ty10
      case hy10 => (intro w hSw; (try dsimp only at hSw); go_simp; all_goals with_reducible rfl)
      simp only [Act.put, List.getElem_toArray, List.getElem_cons_zero, List.getElem_cons_succ, List.setIfInBounds_toArray, List.set_cons_zero, List.set_cons_succ]
      refine wpAnyH_done (by kernel_rfl) ?_ _
      have hbel2 := hbel.trans (HW.out.mono hbel.size)
      clear hHeld hsS hbx HW
      go_wp2
      go_roundw
      case rel => exact ⟨k + 1, by omega, by go_num, hbel2⟩
      case measure => simp [intOf]; omega
    · have hki : ¬ (k : Int) < (n : Int) := by omega
      go_wp2
      go_ret
      exact ⟨rfl, hbel⟩

set_option maxHeartbeats 800000 in
set_option maxRecDepth 100000 in
theorem markPartsResult_any (c : Int) (a : Option Addr) (n cap B : Nat) (l : List PtP) (w : World) (hown : OwnP w B (.slice a n cap) l) (hn : n ≤ 1048576) :
    Calls Tryd.prog 19 #[.agg #[.int .i64 c, .slice a n cap], .int .i64 1] w fun e w' =>
      e = .returned (.int .i64 ((1 + n * 7 : Nat) : Int)) ∧ OwnP w' B (.slice a n cap) (marksP n 1) ∧ w.grownBy w' (Value.slice a n cap).ownBlock := by
  go_enter Tryd.func19, Tryd.ntmps19
  go_wp2_with fail
  refine (markPartS_any a n cap 1 B l _ (by exact hown.alloc _) hn (by omega)).mono ?_
  rintro e w1 ⟨rfl, h1, h2⟩
  have h3 := grown_alloc h2
  clear h2
  go_wp2
  go_ret
  exact ⟨rfl, h1, h3⟩

set_option maxHeartbeats 800000 in
set_option maxRecDepth 100000 in
theorem heldPartsResult_any (c : Int) (a : Option Addr) (n cap : Nat) (w : World) (hr : RdP w a (marksP n 1)) (hn : n ≤ 1048576) :
    Calls Tryd.prog 20 #[.agg #[.int .i64 c, .slice a n cap], .int .i64 1] w fun e w' =>
      e = .returned (.int .i64 ((1 + n * 7 : Nat) : Int)) ∧ Below w.heap.size w w' := by
  have hpos : ¬ (((1 + n * 7 : Nat) : Int)) < 0 := by omega
  go_enter Tryd.func20, Tryd.ntmps20
  go_wp2_with fail
  refine (heldPartS_any a n cap 1 _ (hr.below ((Below.refl _ _).alloc (Nat.le_refl _) _)) hn (by omega)).mono ?_
  rintro e w1 ⟨rfl, h1⟩
  have h3 : Below w.heap.size w w1 := ((Below.refl _ _).alloc (Nat.le_refl _) _).trans (h1.mono (by simp))
  clear h1
  go_wp2
  go_ret
  exact ⟨rfl, h3⟩

set_option maxHeartbeats 800000 in
set_option maxRecDepth 100000 in
theorem eqPartsResult_same (c : Int) (a b : Option Addr) (n cap cap' : Nat) (l : List PtP) (w : World) (hl : l.length = n) (hr : RdP w a l) (hs : RdP w b l) (hn : n ≤ 1048576) :
    Calls Tryd.prog 16 #[.agg #[.int .i64 c, .slice a n cap], .agg #[.int .i64 c, .slice b n cap']] w fun e w' => e = .returned (.bool true) ∧ Below w.heap.size w w' := by
  go_enter Tryd.func16, Tryd.ntmps16
  go_wp2_with fail
  have hb : Below w.heap.size w ((w.alloc (.cells #[.int .i64 c, .slice a n cap] 32)).alloc (.cells #[.int .i64 c, .slice b n cap'] 32)) := ((Below.refl _ _).alloc (Nat.le_refl _) _).alloc (by simp) _
  refine (eqPartS_same a b n cap cap' l _ hl (by exact hr.below hb) (by exact hs.below hb) hn).mono ?_
  rintro e w1 ⟨rfl, hb1⟩
  go_wp2
  go_ret
  exact ⟨rfl, hb.trans (hb1.mono (by simp; omega))⟩

end Go.Proofs.YtkjnhcnbbojajaaDoor

namespace Go.Proofs.YtkjnhcnbbojajaaDoor
open Go.RowKit

/-- Each part lies within the bytes, and in one ahead of it (the first in none). -/
def OkP (d : List Nat) (l : List PtP) : Prop := ∀ i, i < l.length → (∃ f t : Nat, (nthP l i).2.1 = ((f : Int), (t : Int)) ∧ f ≤ t ∧ t ≤ d.length) ∧ ((nthP l i).2.2.1 = -1 ∧ i = 0 ∨ ∃ u : Nat, (nthP l i).2.2.1 = (u : Int) ∧ u < i)
theorem nthP_left {a b : List PtP} {i : Nat} (h : i < a.length) : nthP (a ++ b) i = nthP a i := by
  unfold nthP
  rw [List.getD_eq_getElem?_getD, List.getD_eq_getElem?_getD, List.getElem?_append_left h]
theorem nthP_last (a : List PtP) (x : PtP) : nthP (a ++ [x]) a.length = x := by
  unfold nthP
  rw [List.getD_eq_getElem?_getD, List.getElem?_append_right (Nat.le_refl _), Nat.sub_self]; rfl
theorem OkP.snoc {d : List Nat} {l : List PtP} {p : PtP} (h : OkP d l) (h1 : ∃ f t : Nat, p.2.1 = ((f : Int), (t : Int)) ∧ f ≤ t ∧ t ≤ d.length) (h2 : p.2.2.1 = -1 ∧ l = [] ∨ ∃ u : Nat, p.2.2.1 = (u : Int) ∧ u < l.length) : OkP d (l ++ [p]) := by
  intro i hi
  rw [List.length_append, List.length_singleton] at hi
  rcases Nat.lt_or_ge i l.length with hlt | hge
  · rw [nthP_left hlt]; exact h i hlt
  · have e : i = l.length := by omega
    subst e
    rw [nthP_last]
    refine ⟨h1, ?_⟩
    rcases h2 with ⟨a, b⟩ | ⟨u, a, b⟩
    · exact .inl ⟨a, by rw [b]; rfl⟩
    · exact .inr ⟨u, a, b⟩
theorem OkP.nil (d : List Nat) : OkP d [] := fun i hi => by simp at hi
theorem ptN_in {d : List Nat} {fr tt : Nat} {u nu : Int} (h1 : fr ≤ tt) (h2 : tt ≤ d.length) : ∃ f t : Nat, (ptN d fr tt u nu).2.1 = ((f : Int), (t : Int)) ∧ f ≤ t ∧ t ≤ d.length := by
  have hcl : (cutN d fr tt).length = tt - fr := by unfold cutN; rw [List.length_drop, List.length_take]; omega
  have hat : (oneV (cutN d fr tt)).2.1 ≤ tt - fr := hcl ▸ oneV_at (cutN d fr tt)
  exact ⟨_, tt, rfl, by omega, h2⟩
theorem adL_ok {d : List Nat} {F : Nat → Nat → Int → Int → List PtP → List PtP} {b L n : Nat} (hL : L + b ≤ d.length)
    (hF : ∀ (x y : Nat) (u nu : Int) (acc : List PtP), x ≤ y → y ≤ d.length → OkP d acc → (∃ q : Nat, u = (q : Int) ∧ q < acc.length) → OkP d (F x y u nu acc) ∧ acc.length ≤ (F x y u nu acc).length) :
    ∀ (l : List RngP) (i : Nat) (acc : List PtP), (∀ s ∈ l, InL L s) → OkP d acc → n < acc.length → OkP d (adL F b (n : Int) l i acc) ∧ acc.length ≤ (adL F b (n : Int) l i acc).length
  | [], _, acc, _, h, _ => ⟨h, Nat.le_refl _⟩
  | s :: r, i, acc, hs, h, hn => by
    obtain ⟨x, y, e, h1, h2⟩ := hs s List.mem_cons_self
    subst e
    obtain ⟨k1, k2⟩ := hF (((x : Int)).toNat + b) (((y : Int)).toNat + b) (n : Int) ((i + 1 : Nat) : Int) acc (by omega) (by omega) h ⟨n, rfl, hn⟩
    obtain ⟨k3, k4⟩ := adL_ok hL hF r (i + 1) _ (fun s h => hs s (List.mem_cons_of_mem _ h)) k1 (Nat.lt_of_lt_of_le hn k2)
    exact ⟨k3, Nat.le_trans k2 k4⟩
theorem adV_ok (d : List Nat) (hd : d.length ≤ 1048576) : ∀ (D fr tt : Nat) (u nu : Int) (acc : List PtP), fr ≤ tt → tt ≤ d.length → OkP d acc → (u = -1 ∧ acc = [] ∨ ∃ q : Nat, u = (q : Int) ∧ q < acc.length) → OkP d (adV d D fr tt u nu acc) ∧ acc.length ≤ (adV d D fr tt u nu acc).length
  | D, fr, tt, u, nu, acc, h1, h2, h3, h4 => by
    by_cases h8 : acc.length = 8
    · rw [adV_full h8]; exact ⟨h3, Nat.le_refl _⟩
    · have hs : OkP d (acc ++ [ptN d fr tt u nu]) := h3.snoc (ptN_in h1 h2) h4
      by_cases hm : (oneV (cutN d fr tt)).2.2 = []
      · rw [adV_leaf h8 hm]
        exact ⟨hs, by simp⟩
      · cases D with
        | zero => rw [adV_zero h8]; exact ⟨hs, by simp⟩
        | succ D =>
          have hcl : (cutN d fr tt).length = tt - fr := by unfold cutN; rw [List.length_drop, List.length_take]; omega
          have hat : (oneV (cutN d fr tt)).2.1 ≤ tt - fr := hcl ▸ oneV_at (cutN d fr tt)
          rw [adV_in h8 hm]
          generalize (oneV (cutN d fr tt)).2.1 = at0 at *
          have hcl2 : (cutN d (fr + at0) tt).length = tt - (fr + at0) := by unfold cutN; rw [List.length_drop, List.length_take]; omega
          obtain ⟨k1, k2⟩ := adL_ok (F := adV d D) (b := fr + at0) (L := (cutN d (fr + at0) tt).length) (n := acc.length) (by omega) (fun x y u nu acc a b c e => adV_ok d hd D x y u nu acc a b c (.inr e)) _ 0 (acc ++ [ptN d fr tt u nu]) (spL_in _ _ _ (by omega)) hs (by simp)
          refine ⟨k1, ?_⟩
          rw [List.length_append, List.length_singleton] at k2
          omega
/-- All parts of a message are so; there is one at least. -/
theorem parts_ok (d : List Nat) (hd : d.length ≤ 400) : OkP d (adV d 2 0 d.length (-1) 0 []) := (adV_ok d (by omega) 2 0 d.length (-1) 0 [] (Nat.zero_le _) (Nat.le_refl _) (OkP.nil d) (.inl ⟨rfl, rfl⟩)).1
theorem parts_le (d : List Nat) : (adV d 2 0 d.length (-1) 0 []).length ≤ 8 := adV_le d 2 0 d.length (-1) 0 [] (by simp)

/-- The path of the part at a place, by so many steps at most. -/
def pthF (l : List PtP) : Nat → Nat → List Int
  | 0, _ => []
  | f + 1, k => if (nthP l k).2.2.1 < 0 then [] else pthF l f (nthP l k).2.2.1.toNat ++ [(nthP l k).2.2.2]
def pthV (l : List PtP) (k : Nat) : List Int := pthF l (k + 1) k
theorem pthF_more {d : List Nat} {l : List PtP} (h : OkP d l) : ∀ (f k : Nat), k < l.length → k < f → pthF l f k = pthV l k
  | f + 1, k, hk, hf => by
    unfold pthV
    simp only [pthF]
    split
    · rfl
    · rename_i hn
      rcases (h k hk).2 with ⟨e, _⟩ | ⟨u, e, hu⟩
      · rw [e] at hn; omega
      · rw [e, Int.toNat_natCast, pthF_more h f u (by omega) (by omega), pthF_more h k u (by omega) hu]
theorem pthV_top {l : List PtP} {k : Nat} (h : (nthP l k).2.2.1 < 0) : pthV l k = [] := by unfold pthV; simp only [pthF]; rw [if_pos h]
theorem pthV_step {d : List Nat} {l : List PtP} (h : OkP d l) {k u : Nat} (hk : k < l.length) (e : (nthP l k).2.2.1 = (u : Int)) (hu : u < k) : pthV l k = pthV l u ++ [(nthP l k).2.2.2] := by
  unfold pthV
  simp only [pthF]
  rw [if_neg (by omega), e, Int.toNat_natCast]
  rw [show (if (nthP l u).2.2.1 < 0 then [] else pthF l u (nthP l u).2.2.1.toNat ++ [(nthP l u).2.2.2]) = pthF l (u + 1) u from rfl, pthF_more h k u (by omega) hu]
  rfl
theorem pthV_le {d : List Nat} {l : List PtP} (h : OkP d l) : ∀ (f k : Nat), k < f → k < l.length → (pthV l k).length ≤ k
  | f + 1, k, hf, hk => by
    rcases (h k hk).2 with ⟨e, _⟩ | ⟨u, e, hu⟩
    · rw [pthV_top (by omega)]; simp
    · rw [pthV_step h hk e hu, List.length_append, List.length_singleton]
      have := pthV_le h f u (by omega) (by omega)
      omega
end Go.Proofs.YtkjnhcnbbojajaaDoor

namespace Go.Proofs.YtkjnhcnbbojajaaDoor
open Go.RowKit

theorem res_both {wr : World} {sz : Nat} {x0 x1 : Value} (h0 : wr.cell? ⟨sz, 0, none⟩ = some x0) (h1 : wr.cell? ⟨sz, 1, none⟩ = some x1) (c t : Value) :
    ((wr.setCell ⟨sz, 0, none⟩ c).setCell ⟨sz, 1, none⟩ t).cell? ⟨sz, 0, none⟩ = some c ∧ ((wr.setCell ⟨sz, 0, none⟩ c).setCell ⟨sz, 1, none⟩ t).cell? ⟨sz, 1, none⟩ = some t := by
  obtain ⟨q0, q1⟩ := res_cells h0 h1 c t
  exact ⟨by simp [go_sem, q0], q1⟩
/-- The parts, where the place asked is one of theirs. -/
def pwV (d : List Nat) (k : Int) : Int × List PtP := if (psV d).1 = 0 ∧ (k < 0 ∨ ((psV d).2.length : Int) ≤ k) then (3, []) else psV d
theorem PsEnd.some {c : Int} {w w1 : World} {v : Value} {l : List PtP} (hbel : Below w.heap.size w w1) (hown : OwnP w1 (w.heap.size + 1) v l) (x y : Value) : PsEnd (c, l) w (.returned (.agg #[.int .i64 c, v])) ((w1.setCell ⟨w.heap.size, 0, none⟩ x).setCell ⟨w.heap.size, 1, none⟩ y) :=
  ⟨v, rfl, ((hown.kept _ (by simp) _).kept _ (by simp) _).low (by omega), (hbel.setCell (p := ⟨w.heap.size, 0, none⟩) (Nat.le_refl _) _).setCell (p := ⟨w.heap.size, 1, none⟩) (Nat.le_refl _) _⟩
theorem psV_le (d : List Nat) : (psV d).2.length ≤ 8 := by
  unfold psV
  split
  · simp
  · exact parts_le d

set_option maxHeartbeats 1600000 in
set_option maxRecDepth 100000 in
theorem partsWith_any (b m : Nat) (d : List Nat) (k : Int) (w : World) (hr : Rd w (some ⟨b, 0, none⟩) d) (hT : TabC w) (hB : IsB d) (hl : d.length = m) :
    Calls Tryd.prog 38 #[.slice (some ⟨b, 0, none⟩) m m, .int .i64 k] w (PsEnd (pwV d k) w) := by
  have hb0 : Below w.heap.size w (w.alloc (.cells #[.int .i64 0, .slice none 0 0] 32)) := (Below.refl _ _).alloc (Nat.le_refl _) _
  have HP := parseParts_any b m d _ (hr.below hb0) (hT.below hb0) hB hl
  have HV : Hid (pwV d k = if (psV d).1 = 0 ∧ (k < 0 ∨ ((psV d).2.length : Int) ≤ k) then (3, []) else psV d) := rfl
  have hlen := psV_le d
  generalize pwV d k = rr at *
  generalize psV d = r at *
  obtain ⟨c, l⟩ := r
  obtain ⟨N, hN⟩ : ∃ N, l.length = N := ⟨_, rfl⟩
  dsimp only at HV hlen
  go_enter Tryd.func38, Tryd.ntmps38
  go_wp2_with fail
  refine HP.mono ?_
  rintro e w1 ⟨v, rfl, ho, hb1⟩
  dsimp only at ho
  obtain ⟨a, cp, hv, -, -⟩ := ho.form
  rw [hN] at hv
  subst hv
  have hbl : Below (w.heap.size + 1) (w.alloc (.cells #[.int .i64 0, .slice none 0 0] 32)) w1 := hb1.mono (by simp)
  have hbw := hb0.trans (hbl.mono (by omega))
  have ho1 : OwnP w1 (w.heap.size + 1) (.slice a N cp) l := ho.low (by simp)
  obtain ⟨a0, a1, z0, z1⟩ := res_block rfl hbl
  have hlt : w.heap.size < w1.heap.size := by have hz := hbl.size; rw [World.size_alloc] at hz; omega
  clear HP hb1 ho
  have HR : Hid (∀ (ob : Obj) (x y : Value), (((w1.setCell ⟨w.heap.size, 0, none⟩ x).setCell ⟨w.heap.size, 1, none⟩ y).alloc ob).cell? ⟨w.heap.size, 0, none⟩ = some x ∧ (((w1.setCell ⟨w.heap.size, 0, none⟩ x).setCell ⟨w.heap.size, 1, none⟩ y).alloc ob).cell? ⟨w.heap.size, 1, none⟩ = some y) := fun ob x y => by
    obtain ⟨q0, q1⟩ := res_both a0 a1 x y
    exact ⟨cellA q0, cellA q1⟩
  have HE : Hid (∀ (c : Int) (v : Value) (l : List PtP) (ob : Obj) (x y : Value), OwnP w1 (w.heap.size + 1) v l → PsEnd (c, l) w (.returned (.agg #[.int .i64 c, v])) (((w1.setCell ⟨w.heap.size, 0, none⟩ x).setCell ⟨w.heap.size, 1, none⟩ y).alloc ob)) := fun c v l ob x y hown =>
    ⟨v, rfl, (((hown.kept _ (by simp) _).kept _ (by simp) _).low (by omega)).alloc _, ((hbw.setCell (p := ⟨w.heap.size, 0, none⟩) (Nat.le_refl _) _).setCell (p := ⟨w.heap.size, 1, none⟩) (Nat.le_refl _) _).alloc (by simp; omega) _⟩
  by_cases hc : c = 0
  · subst hc
    by_cases hk : k < 0 ∨ (N : Int) ≤ k
    · have HM : Hid (rr = (3, [])) := by show _ = _; rw [HV.out, if_pos ⟨rfl, by rw [hN]; exact hk⟩]
      clear HV
      obtain ⟨q0, q1⟩ := HR.out (.cells #[.int .i64 0, .slice a N cp] 32) (.int .i64 3) (.slice none 0 0)
      by_cases hk0 : k < 0
      · go_wp2
        refine bodyPost_ret (v := .agg #[.int .i64 3, .slice none 0 0]) (by simp [results, Tryd.results38, go_sem, q0, q1]) rfl ?_
        rw [HM.out]
        exact HE.out 3 _ [] _ _ _ (OwnP.nil _ _)
      · have hk1 : (N : Int) ≤ k := by omega
        have hk2 : 0 ≤ k := by omega
        clear hk
        go_wp2
        refine bodyPost_ret (v := .agg #[.int .i64 3, .slice none 0 0]) (by simp [results, Tryd.results38, go_sem, q0, q1]) rfl ?_
        rw [HM.out]
        exact HE.out 3 _ [] _ _ _ (OwnP.nil _ _)
    · have HM : Hid (rr = (0, l)) := by show _ = _; rw [HV.out, if_neg (fun h => hk (by rw [hN] at h; exact h.2))]
      have hk0 : ¬ k < 0 := by omega
      have hk1 : ¬ (N : Int) ≤ k := by omega
      clear hk HV
      obtain ⟨q0, q1⟩ := HR.out (.cells #[.int .i64 0, .slice a N cp] 32) (.int .i64 0) (.slice a N cp)
      go_wp2
      refine bodyPost_ret (v := .agg #[.int .i64 0, .slice a N cp]) (by simp [results, Tryd.results38, go_sem, q0, q1]) rfl ?_
      rw [HM.out]
      exact HE.out 0 _ l _ _ _ ho1
  · have HM : Hid (rr = (c, l)) := by show _ = _; rw [HV.out, if_neg (fun h => hc h.1)]
    have hc' : (c == 0) = false := by simpa using hc
    clear HV
    obtain ⟨q0, q1⟩ := HR.out (.cells #[.int .i64 c, .slice a N cp] 32) (.int .i64 c) (.slice a N cp)
    go_wp2
    refine bodyPost_ret (v := .agg #[.int .i64 c, .slice a N cp]) (by simp [results, Tryd.results38, go_sem, q0, q1]) rfl ?_
    rw [HM.out]
    exact HE.out c _ l _ _ _ ho1
end Go.Proofs.YtkjnhcnbbojajaaDoor
