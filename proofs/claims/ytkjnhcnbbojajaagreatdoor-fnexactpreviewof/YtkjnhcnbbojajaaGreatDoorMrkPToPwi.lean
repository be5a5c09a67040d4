/- The laws' helpers over slices of parts: two that are alike are held to be the same; what is marked is found again; at most 1048576 parts · Parts by plain functions: where each lies, in which it is; its path · The parts of a message of which one is asked: partsWith, partIn. -/
import Derived.Test.YtkjnhcnbbojajaaGreatDoorMemPToMrkF
import Derived.Test.YtkjnhcnbbojajaaGreatDoorTyp5ToCod
import Derived.Test.YtkjnhcnbbojajaaGreatDoorFdoToFar
import Derived.Test.YtkjnhcnbbojajaaGreatDoorRdmToRdp0
import Derived.Test.YtkjnhcnbbojajaaGreatDoorMemFToOpnF
namespace Go.Proofs.YtkjnhcnbbojajaaGreatDoor
open Go.RowKit

def nthP (l : List PtP) (i : Nat) : PtP := l.getD i ((0, 0, 0), (0, 0), (0, 0))
theorem nthP_get {l : List PtP} {i : Nat} (h : i < l.length) : nthP l i = l[i] := by
  simp [nthP, List.getD_eq_getElem?_getD, List.getElem?_eq_getElem h]
theorem pc_get : ∀ (l : List PtP) (i : Nat), i < l.length → (pc l)[i * 7]? = some (.int .i64 (nthP l i).1.1) ∧ (pc l)[i * 7 + 1]? = some (.int .i64 (nthP l i).1.2.1) ∧ (pc l)[i * 7 + 2]? = some (.int .i64 (nthP l i).1.2.2) ∧ (pc l)[i * 7 + 3]? = some (.int .i64 (nthP l i).2.1.1) ∧ (pc l)[i * 7 + 4]? = some (.int .i64 (nthP l i).2.1.2) ∧ (pc l)[i * 7 + 5]? = some (.int .i64 (nthP l i).2.2.1) ∧ (pc l)[i * 7 + 6]? = some (.int .i64 (nthP l i).2.2.2)
  | x :: l, 0, _ => ⟨rfl, rfl, rfl, rfl, rfl, rfl, rfl⟩
  | x :: l, i + 1, h => by
    have hi := pc_get l i (by simpa using h)
    have e : ∀ k, (pc (x :: l))[(i + 1) * 7 + k]? = (pc l)[i * 7 + k]? := fun k => by
      rw [pc_cons, List.getElem?_append_right (by simp [pcl]; omega)]
      have hp : (pcl x).length = 7 := rfl
      rw [hp]; congr 1; omega
    have e0 : nthP (x :: l) (i + 1) = nthP l i := by simp [nthP]
    rw [e0]
    exact ⟨(e 0).trans hi.1, (e 1).trans hi.2.1, (e 2).trans hi.2.2.1, (e 3).trans hi.2.2.2.1, (e 4).trans hi.2.2.2.2.1, (e 5).trans hi.2.2.2.2.2.1, (e 6).trans hi.2.2.2.2.2.2⟩
/-- THE PARTS l STAND AT a. -/
def RdP (w : World) (a : Option Addr) (l : List PtP) : Prop := l = [] ∨ ∃ b, a = some ⟨b, 0, none⟩ ∧ b < w.heap.size ∧ ∀ i, i < l.length * 7 → w.cell? ⟨b, i, none⟩ = (pc l)[i]?
theorem RdP.below {w w' : World} {a : Option Addr} {l : List PtP} (h : RdP w a l) (hb : Below w.heap.size w w') : RdP w' a l := by
  rcases h with h | ⟨b, h1, h2, h3⟩
  · exact .inl h
  · exact .inr ⟨b, h1, Nat.lt_of_lt_of_le h2 hb.size, fun i hi => (hb.cell (p := ⟨b, i, none⟩) h2).trans (h3 i hi)⟩
theorem RdP.at_ {w : World} {a : Option Addr} {l : List PtP} (h : RdP w a l) (hp : 0 < l.length) : ∃ b, a = some ⟨b, 0, none⟩ ∧ b < w.heap.size ∧ ∀ k, k < l.length → w.cell? ⟨b, k * 7, none⟩ = some (.int .i64 (nthP l k).1.1) ∧ w.cell? ⟨b, k * 7 + 1, none⟩ = some (.int .i64 (nthP l k).1.2.1) ∧ w.cell? ⟨b, k * 7 + 2, none⟩ = some (.int .i64 (nthP l k).1.2.2) ∧ w.cell? ⟨b, k * 7 + 3, none⟩ = some (.int .i64 (nthP l k).2.1.1) ∧ w.cell? ⟨b, k * 7 + 4, none⟩ = some (.int .i64 (nthP l k).2.1.2) ∧ w.cell? ⟨b, k * 7 + 5, none⟩ = some (.int .i64 (nthP l k).2.2.1) ∧ w.cell? ⟨b, k * 7 + 6, none⟩ = some (.int .i64 (nthP l k).2.2.2) := by
  rcases h with h | ⟨b, h1, h2, h3⟩
  · subst h; simp at hp
  · refine ⟨b, h1, h2, fun k hk => ?_⟩
    obtain ⟨g0, g1, g2, g3, g4, g5, g6⟩ := pc_get l k hk
    exact ⟨(h3 _ (by omega)).trans g0, (h3 _ (by omega)).trans g1, (h3 _ (by omega)).trans g2, (h3 _ (by omega)).trans g3, (h3 _ (by omega)).trans g4, (h3 _ (by omega)).trans g5, (h3 _ (by omega)).trans g6⟩
theorem OwnP.rd {w : World} {B n cap : Nat} {a : Option Addr} {l : List PtP} (h : OwnP w B (.slice a n cap) l) : l.length = n ∧ RdP w a l := by
  have hf : l.length = n := by
    obtain ⟨a', c', e, _⟩ := h.form
    simp at e; omega
  refine ⟨hf, ?_⟩
  rcases l with _ | ⟨x, l⟩
  · exact .inl rfl
  · have h0 := h
    rcases h.2 with ⟨_, h1⟩ | ⟨g, cap', cur, h1, h2, h3, h4⟩
    · simp at h1
    · obtain ⟨rfl⟩ : a = some ⟨g, 0, none⟩ := by simp at h1; exact h1.1
      refine .inr ⟨g, rfl, (Array.getElem?_eq_some_iff.1 h3).1, fun i hi => ?_⟩
      unfold OwnP at h0
      rw [hf] at h0
      exact h0.cellAt i (by omega)
theorem OwnP.lt {w : World} {B : Nat} {v : Value} {l : List PtP} (h : OwnP w B v l) (g : Nat) (hg : v.ownBlock = some g) : B ≤ g ∧ g < w.heap.size := World.ownsRow.lt h g hg
theorem OwnP.far {w w' : World} {B : Nat} {v : Value} {l : List PtP} {row : Option Nat} (h : OwnP w B v l) (hg : w.grownBy w' row) (hne : ∀ b, v.ownBlock = some b → some b ≠ row) : OwnP w' B v l := by
  refine ⟨h.1, ?_⟩
  rcases h.2 with h' | ⟨g, cap, cur, h1, h2, h3, h4⟩
  · exact .inl h'
  · refine .inr ⟨g, cap, cur, h1, h2, ?_, h4⟩
    have hlt : g < w.heap.size := (Array.getElem?_eq_some_iff.1 h3).1
    rw [hg.block g hlt (hne g (by rw [h1]; rfl))]; exact h3

/-- The marks of n parts from k on. -/
def marksP (n k : Nat) : List PtP := (List.range n).map fun i => ((((k + i * 7 : Nat) : Int), ((k + i * 7 + 1 : Nat) : Int), ((k + i * 7 + 2 : Nat) : Int)), ((((k + i * 7 + 3 : Nat) : Int)), ((k + i * 7 + 4 : Nat) : Int)), ((((k + i * 7 + 5 : Nat) : Int)), ((k + i * 7 + 6 : Nat) : Int)))
theorem marksP_len (n k : Nat) : (marksP n k).length = n := by simp [marksP]
theorem marksP_nth {n k i : Nat} (h : i < n) : nthP (marksP n k) i = ((((k + i * 7 : Nat) : Int), ((k + i * 7 + 1 : Nat) : Int), ((k + i * 7 + 2 : Nat) : Int)), ((((k + i * 7 + 3 : Nat) : Int)), ((k + i * 7 + 4 : Nat) : Int)), ((((k + i * 7 + 5 : Nat) : Int)), ((k + i * 7 + 6 : Nat) : Int))) := by
  rw [nthP_get (by rw [marksP_len]; exact h)]; simp [marksP]
theorem marksI_snoc (n k : Nat) : marksI (n + 1) k = marksI n k ++ [((k + n : Nat) : Int)] := by simp [marksI, List.range_succ]
theorem pc_marks (k : Nat) : ∀ n, pc (marksP n k) = ic (marksI (n * 7) k)
  | 0 => rfl
  | n + 1 => by
    have e : marksP (n + 1) k = marksP n k ++ [((((k + n * 7 : Nat) : Int), ((k + n * 7 + 1 : Nat) : Int), ((k + n * 7 + 2 : Nat) : Int)), ((((k + n * 7 + 3 : Nat) : Int)), ((k + n * 7 + 4 : Nat) : Int)), ((((k + n * 7 + 5 : Nat) : Int)), ((k + n * 7 + 6 : Nat) : Int)))] := by simp [marksP, List.range_succ]
    rw [e, pc_app, pc_marks k n, show (n + 1) * 7 = n * 7 + 1 + 1 + 1 + 1 + 1 + 1 + 1 by omega]
    simp only [marksI_snoc, ic_app, List.append_assoc]
    rfl
/-- The first c cells marked. -/
def mhP (l : List PtP) (k c : Nat) : List Value := ic (marksI c k) ++ (pc l).drop c
theorem mhP_zero (l : List PtP) (k : Nat) : mhP l k 0 = pc l := by simp [mhP, marksI, ic]
theorem mhP_all (l : List PtP) (k : Nat) : mhP l k (l.length * 7) = pc (marksP l.length k) := by rw [mhP, pc_marks, List.drop_of_length_le (by rw [pc_len]; omega), List.append_nil]
theorem mhP_len (l : List PtP) (k c : Nat) (h : c ≤ l.length * 7) : (mhP l k c).length = l.length * 7 := by simp [mhP, ic_len, marksI_len, pc_len]; omega
theorem mhP_set (l : List PtP) (k c : Nat) (h : c < l.length * 7) : (mhP l k c).set c (.int .i64 ((k + c : Nat) : Int)) = mhP l k (c + 1) := by
  have hm : (ic (marksI c k)).length = c := by rw [ic_len, marksI_len]
  have hd : (pc l).drop c = (pc l)[c]'(by rw [pc_len]; omega) :: (pc l).drop (c + 1) := (List.drop_eq_getElem_cons (by rw [pc_len]; omega))
  unfold mhP
  rw [marksI_snoc, ic_app, List.set_append, hm, if_neg (Nat.lt_irrefl c), Nat.sub_self, hd, List.set_cons_zero, List.append_assoc]
  rfl
theorem mhP_get (l : List PtP) (k c i : Nat) (hi : i < l.length) (hc : c ≤ i * 7) : (mhP l k c)[i * 7]? = some (.int .i64 (nthP l i).1.1) ∧ (mhP l k c)[i * 7 + 1]? = some (.int .i64 (nthP l i).1.2.1) ∧ (mhP l k c)[i * 7 + 2]? = some (.int .i64 (nthP l i).1.2.2) ∧ (mhP l k c)[i * 7 + 3]? = some (.int .i64 (nthP l i).2.1.1) ∧ (mhP l k c)[i * 7 + 4]? = some (.int .i64 (nthP l i).2.1.2) ∧ (mhP l k c)[i * 7 + 5]? = some (.int .i64 (nthP l i).2.2.1) ∧ (mhP l k c)[i * 7 + 6]? = some (.int .i64 (nthP l i).2.2.2) := by
  have hm : (ic (marksI c k)).length = c := by rw [ic_len, marksI_len]
  have e : ∀ q, c ≤ q → (mhP l k c)[q]? = (pc l)[q]? := fun q hq => by
    unfold mhP
    rw [List.getElem?_append_right (by rw [hm]; exact hq), hm, List.getElem?_drop]; congr 1; omega
  obtain ⟨g0, g1, g2, g3, g4, g5, g6⟩ := pc_get l i hi
  exact ⟨(e _ hc).trans g0, (e _ (by omega)).trans g1, (e _ (by omega)).trans g2, (e _ (by omega)).trans g3, (e _ (by omega)).trans g4, (e _ (by omega)).trans g5, (e _ (by omega)).trans g6⟩

end Go.Proofs.YtkjnhcnbbojajaaGreatDoor

namespace Go.Proofs.YtkjnhcnbbojajaaGreatDoor
open Go.RowKit

/-- Each part lies within the bytes, and in one ahead of it (the first in none). -/
def OkP (d : List Nat) (l : List PtP) : Prop := ∀ i, i < l.length → (∃ f t : Nat, (nthP l i).2.1 = ((f : Int), (t : Int)) ∧ f ≤ t ∧ t ≤ d.length) ∧ ((nthP l i).2.2.1 = -1 ∧ i = 0 ∨ ∃ u : Nat, (nthP l i).2.2.1 = (u : Int) ∧ u < i)
theorem nthP_left {a b : List PtP} {i : Nat} (h : i < a.length) : nthP (a ++ b) i = nthP a i := by
  unfold nthP
  rw [List.getD_eq_getElem?_getD, List.getD_eq_getElem?_getD, List.getElem?_append_left h]
theorem nthP_last (a : List PtP) (x : PtP) : nthP (a ++ [x]) a.length = x := by
  unfold nthP
  rw [List.getD_eq_getElem?_getD, List.getElem?_append_right (Nat.le_refl _), Nat.sub_self]; rfl
theorem OkP.snoc {d : List Nat} {l : List PtP} {p : PtP} (h : OkP d l) (h1 : ∃ f t : Nat, p.2.1 = ((f : Int), (t : Int)) ∧ f ≤ t ∧ t ≤ d.length) (h2 : p.2.2.1 = -1 ∧ l = [] ∨ ∃ u : Nat, p.2.2.1 = (u : Int) ∧ u < l.length) : OkP d (l ++ [p]) := by
  intro i hi
  rw [List.length_append, List.length_singleton] at hi
  rcases Nat.lt_or_ge i l.length with hlt | hge
  · rw [nthP_left hlt]; exact h i hlt
  · have e : i = l.length := by omega
    subst e
    rw [nthP_last]
    refine ⟨h1, ?_⟩
    rcases h2 with ⟨a, b⟩ | ⟨u, a, b⟩
    · exact .inl ⟨a, by rw [b]; rfl⟩
    · exact .inr ⟨u, a, b⟩
theorem OkP.nil (d : List Nat) : OkP d [] := fun i hi => by simp at hi
theorem ptN_in {d : List Nat} {fr tt : Nat} {u nu : Int} (h1 : fr ≤ tt) (h2 : tt ≤ d.length) : ∃ f t : Nat, (ptN d fr tt u nu).2.1 = ((f : Int), (t : Int)) ∧ f ≤ t ∧ t ≤ d.length := by
  have hcl : (cutN d fr tt).length = tt - fr := by unfold cutN; rw [List.length_drop, List.length_take]; omega
  have hat : (oneV (cutN d fr tt)).2.1 ≤ tt - fr := hcl ▸ oneV_at (cutN d fr tt)
  exact ⟨_, tt, rfl, by omega, h2⟩
theorem adL_ok {d : List Nat} {F : Nat → Nat → Int → Int → List PtP → List PtP} {b L n : Nat} (hL : L + b ≤ d.length)
    (hF : ∀ (x y : Nat) (u nu : Int) (acc : List PtP), x ≤ y → y ≤ d.length → OkP d acc → (∃ q : Nat, u = (q : Int) ∧ q < acc.length) → OkP d (F x y u nu acc) ∧ acc.length ≤ (F x y u nu acc).length) :
    ∀ (l : List RngP) (i : Nat) (acc : List PtP), (∀ s ∈ l, InL L s) → OkP d acc → n < acc.length → OkP d (adL F b (n : Int) l i acc) ∧ acc.length ≤ (adL F b (n : Int) l i acc).length
  | [], _, acc, _, h, _ => ⟨h, Nat.le_refl _⟩
  | s :: r, i, acc, hs, h, hn => by
    obtain ⟨x, y, e, h1, h2⟩ := hs s List.mem_cons_self
    subst e
    obtain ⟨k1, k2⟩ := hF (((x : Int)).toNat + b) (((y : Int)).toNat + b) (n : Int) ((i + 1 : Nat) : Int) acc (by omega) (by omega) h ⟨n, rfl, hn⟩
    obtain ⟨k3, k4⟩ := adL_ok hL hF r (i + 1) _ (fun s h => hs s (List.mem_cons_of_mem _ h)) k1 (Nat.lt_of_lt_of_le hn k2)
    exact ⟨k3, Nat.le_trans k2 k4⟩
theorem adV_ok (d : List Nat) (hd : d.length ≤ 1048576) : ∀ (D fr tt : Nat) (u nu : Int) (acc : List PtP), fr ≤ tt → tt ≤ d.length → OkP d acc → (u = -1 ∧ acc = [] ∨ ∃ q : Nat, u = (q : Int) ∧ q < acc.length) → OkP d (adV d D fr tt u nu acc) ∧ acc.length ≤ (adV d D fr tt u nu acc).length
  | D, fr, tt, u, nu, acc, h1, h2, h3, h4 => by
    by_cases h8 : acc.length = 8
    · rw [adV_full h8]; exact ⟨h3, Nat.le_refl _⟩
    · have hs : OkP d (acc ++ [ptN d fr tt u nu]) := h3.snoc (ptN_in h1 h2) h4
      by_cases hm : (oneV (cutN d fr tt)).2.2 = []
      · rw [adV_leaf h8 hm]
        exact ⟨hs, by simp⟩
      · cases D with
        | zero => rw [adV_zero h8]; exact ⟨hs, by simp⟩
        | succ D =>
          have hcl : (cutN d fr tt).length = tt - fr := by unfold cutN; rw [List.length_drop, List.length_take]; omega
          have hat : (oneV (cutN d fr tt)).2.1 ≤ tt - fr := hcl ▸ oneV_at (cutN d fr tt)
          rw [adV_in h8 hm]
          generalize (oneV (cutN d fr tt)).2.1 = at0 at *
          have hcl2 : (cutN d (fr + at0) tt).length = tt - (fr + at0) := by unfold cutN; rw [List.length_drop, List.length_take]; omega
          obtain ⟨k1, k2⟩ := adL_ok (F := adV d D) (b := fr + at0) (L := (cutN d (fr + at0) tt).length) (n := acc.length) (by omega) (fun x y u nu acc a b c e => adV_ok d hd D x y u nu acc a b c (.inr e)) _ 0 (acc ++ [ptN d fr tt u nu]) (spL_in _ _ _ (by omega)) hs (by simp)
          refine ⟨k1, ?_⟩
          rw [List.length_append, List.length_singleton] at k2
          omega
/-- All parts of a message are so; there is one at least. -/
theorem parts_ok (d : List Nat) (hd : d.length ≤ 400) : OkP d (adV d 2 0 d.length (-1) 0 []) := (adV_ok d (by omega) 2 0 d.length (-1) 0 [] (Nat.zero_le _) (Nat.le_refl _) (OkP.nil d) (.inl ⟨rfl, rfl⟩)).1
theorem parts_le (d : List Nat) : (adV d 2 0 d.length (-1) 0 []).length ≤ 8 := adV_le d 2 0 d.length (-1) 0 [] (by simp)

/-- The path of the part at a place, by so many steps at most. -/
def pthF (l : List PtP) : Nat → Nat → List Int
  | 0, _ => []
  | f + 1, k => if (nthP l k).2.2.1 < 0 then [] else pthF l f (nthP l k).2.2.1.toNat ++ [(nthP l k).2.2.2]
def pthV (l : List PtP) (k : Nat) : List Int := pthF l (k + 1) k
theorem pthF_more {d : List Nat} {l : List PtP} (h : OkP d l) : ∀ (f k : Nat), k < l.length → k < f → pthF l f k = pthV l k
  | f + 1, k, hk, hf => by
    unfold pthV
    simp only [pthF]
    split
    · rfl
    · rename_i hn
      rcases (h k hk).2 with ⟨e, _⟩ | ⟨u, e, hu⟩
      · rw [e] at hn; omega
      · rw [e, Int.toNat_natCast, pthF_more h f u (by omega) (by omega), pthF_more h k u (by omega) hu]
theorem pthV_top {l : List PtP} {k : Nat} (h : (nthP l k).2.2.1 < 0) : pthV l k = [] := by unfold pthV; simp only [pthF]; rw [if_pos h]
theorem pthV_step {d : List Nat} {l : List PtP} (h : OkP d l) {k u : Nat} (hk : k < l.length) (e : (nthP l k).2.2.1 = (u : Int)) (hu : u < k) : pthV l k = pthV l u ++ [(nthP l k).2.2.2] := by
  unfold pthV
  simp only [pthF]
  rw [if_neg (by omega), e, Int.toNat_natCast]
  rw [show (if (nthP l u).2.2.1 < 0 then [] else pthF l u (nthP l u).2.2.1.toNat ++ [(nthP l u).2.2.2]) = pthF l (u + 1) u from rfl, pthF_more h k u (by omega) hu]
  rfl
theorem pthV_le {d : List Nat} {l : List PtP} (h : OkP d l) : ∀ (f k : Nat), k < f → k < l.length → (pthV l k).length ≤ k
  | f + 1, k, hf, hk => by
    rcases (h k hk).2 with ⟨e, _⟩ | ⟨u, e, hu⟩
    · rw [pthV_top (by omega)]; simp
    · rw [pthV_step h hk e hu, List.length_append, List.length_singleton]
      have := pthV_le h f u (by omega) (by omega)
      omega
end Go.Proofs.YtkjnhcnbbojajaaGreatDoor

namespace Go.Proofs.YtkjnhcnbbojajaaGreatDoor
open Go.RowKit

theorem res_both {wr : World} {sz : Nat} {x0 x1 : Value} (h0 : wr.cell? ⟨sz, 0, none⟩ = some x0) (h1 : wr.cell? ⟨sz, 1, none⟩ = some x1) (c t : Value) :
    ((wr.setCell ⟨sz, 0, none⟩ c).setCell ⟨sz, 1, none⟩ t).cell? ⟨sz, 0, none⟩ = some c ∧ ((wr.setCell ⟨sz, 0, none⟩ c).setCell ⟨sz, 1, none⟩ t).cell? ⟨sz, 1, none⟩ = some t := by
  obtain ⟨q0, q1⟩ := res_cells h0 h1 c t
  exact ⟨by simp [go_sem, q0], q1⟩
/-- The parts, where the place asked is one of theirs. -/
def pwV (d : List Nat) (k : Int) : Int × List PtP := if (psV d).1 = 0 ∧ (k < 0 ∨ ((psV d).2.length : Int) ≤ k) then (3, []) else psV d
theorem PsEnd.some {c : Int} {w w1 : World} {v : Value} {l : List PtP} (hbel : Below w.heap.size w w1) (hown : OwnP w1 (w.heap.size + 1) v l) (x y : Value) : PsEnd (c, l) w (.returned (.agg #[.int .i64 c, v])) ((w1.setCell ⟨w.heap.size, 0, none⟩ x).setCell ⟨w.heap.size, 1, none⟩ y) :=
  ⟨v, rfl, ((hown.kept _ (by simp) _).kept _ (by simp) _).low (by omega), (hbel.setCell (p := ⟨w.heap.size, 0, none⟩) (Nat.le_refl _) _).setCell (p := ⟨w.heap.size, 1, none⟩) (Nat.le_refl _) _⟩
theorem psV_le (d : List Nat) : (psV d).2.length ≤ 8 := by
  unfold psV
  split
  · simp
  · exact parts_le d

set_option maxHeartbeats 1600000 in
set_option maxRecDepth 100000 in
theorem partsWith_any (b m : Nat) (d : List Nat) (k : Int) (w : World) (hr : Rd w (some ⟨b, 0, none⟩) d) (hT : TabC w) (hB : IsB d) (hl : d.length = m) :
    Calls Tryz.prog 73 #[.slice (some ⟨b, 0, none⟩) m m, .int .i64 k] w (PsEnd (pwV d k) w) := by
  have hb0 : Below w.heap.size w (w.alloc (.cells #[.int .i64 0, .slice none 0 0] 27)) := (Below.refl _ _).alloc (Nat.le_refl _) _
  have HP := parseParts_any b m d _ (hr.below hb0) (hT.below hb0) hB hl
  have HV : Hid (pwV d k = if (psV d).1 = 0 ∧ (k < 0 ∨ ((psV d).2.length : Int) ≤ k) then (3, []) else psV d) := rfl
  have hlen := psV_le d
  generalize pwV d k = rr at *
  generalize psV d = r at *
  obtain ⟨c, l⟩ := r
  obtain ⟨N, hN⟩ : ∃ N, l.length = N := ⟨_, rfl⟩
  dsimp only at HV hlen
  go_enter Tryz.func73, Tryz.ntmps73
  go_wp2_with fail
  refine HP.mono ?_
  rintro e w1 ⟨v, rfl, ho, hb1⟩
  dsimp only at ho
  obtain ⟨a, cp, hv, -, -⟩ := ho.form
  rw [hN] at hv
  subst hv
  have hbl : Below (w.heap.size + 1) (w.alloc (.cells #[.int .i64 0, .slice none 0 0] 27)) w1 := hb1.mono (by simp)
  have hbw := hb0.trans (hbl.mono (by omega))
  have ho1 : OwnP w1 (w.heap.size + 1) (.slice a N cp) l := ho.low (by simp)
  obtain ⟨a0, a1, z0, z1⟩ := res_block rfl hbl
  have hlt : w.heap.size < w1.heap.size := by have hz := hbl.size; rw [World.size_alloc] at hz; omega
  clear HP hb1 ho
  have HR : Hid (∀ (ob : Obj) (x y : Value), (((w1.setCell ⟨w.heap.size, 0, none⟩ x).setCell ⟨w.heap.size, 1, none⟩ y).alloc ob).cell? ⟨w.heap.size, 0, none⟩ = some x ∧ (((w1.setCell ⟨w.heap.size, 0, none⟩ x).setCell ⟨w.heap.size, 1, none⟩ y).alloc ob).cell? ⟨w.heap.size, 1, none⟩ = some y) := fun ob x y => by
    obtain ⟨q0, q1⟩ := res_both a0 a1 x y
    exact ⟨cellA q0, cellA q1⟩
  have HE : Hid (∀ (c : Int) (v : Value) (l : List PtP) (ob : Obj) (x y : Value), OwnP w1 (w.heap.size + 1) v l → PsEnd (c, l) w (.returned (.agg #[.int .i64 c, v])) (((w1.setCell ⟨w.heap.size, 0, none⟩ x).setCell ⟨w.heap.size, 1, none⟩ y).alloc ob)) := fun c v l ob x y hown =>
    ⟨v, rfl, (((hown.kept _ (by simp) _).kept _ (by simp) _).low (by omega)).alloc _, ((hbw.setCell (p := ⟨w.heap.size, 0, none⟩) (Nat.le_refl _) _).setCell (p := ⟨w.heap.size, 1, none⟩) (Nat.le_refl _) _).alloc (by simp; omega) _⟩
  by_cases hc : c = 0
  · subst hc
    by_cases hk : k < 0 ∨ (N : Int) ≤ k
    · have HM : Hid (rr = (3, [])) := by show _ = _; rw [HV.out, if_pos ⟨rfl, by rw [hN]; exact hk⟩]
      clear HV
      obtain ⟨q0, q1⟩ := HR.out (.cells #[.int .i64 0, .slice a N cp] 27) (.int .i64 3) (.slice none 0 0)
      by_cases hk0 : k < 0
      · go_wp2
        refine bodyPost_ret (v := .agg #[.int .i64 3, .slice none 0 0]) (by simp [results, Tryz.results73, go_sem, q0, q1]) rfl ?_
        rw [HM.out]
        exact HE.out 3 _ [] _ _ _ (OwnP.nil _ _)
      · have hk1 : (N : Int) ≤ k := by omega
        have hk2 : 0 ≤ k := by omega
        clear hk
        go_wp2
        refine bodyPost_ret (v := .agg #[.int .i64 3, .slice none 0 0]) (by simp [results, Tryz.results73, go_sem, q0, q1]) rfl ?_
        rw [HM.out]
        exact HE.out 3 _ [] _ _ _ (OwnP.nil _ _)
    · have HM : Hid (rr = (0, l)) := by show _ = _; rw [HV.out, if_neg (fun h => hk (by rw [hN] at h; exact h.2))]
      have hk0 : ¬ k < 0 := by omega
      have hk1 : ¬ (N : Int) ≤ k := by omega
      clear hk HV
      obtain ⟨q0, q1⟩ := HR.out (.cells #[.int .i64 0, .slice a N cp] 27) (.int .i64 0) (.slice a N cp)
      go_wp2
      refine bodyPost_ret (v := .agg #[.int .i64 0, .slice a N cp]) (by simp [results, Tryz.results73, go_sem, q0, q1]) rfl ?_
      rw [HM.out]
      exact HE.out 0 _ l _ _ _ ho1
  · have HM : Hid (rr = (c, l)) := by show _ = _; rw [HV.out, if_neg (fun h => hc h.1)]
    have hc' : (c == 0) = false := by simpa using hc
    clear HV
    obtain ⟨q0, q1⟩ := HR.out (.cells #[.int .i64 c, .slice a N cp] 27) (.int .i64 c) (.slice a N cp)
    go_wp2
    refine bodyPost_ret (v := .agg #[.int .i64 c, .slice a N cp]) (by simp [results, Tryz.results73, go_sem, q0, q1]) rfl ?_
    rw [HM.out]
    exact HE.out c _ l _ _ _ ho1
end Go.Proofs.YtkjnhcnbbojajaaGreatDoor
