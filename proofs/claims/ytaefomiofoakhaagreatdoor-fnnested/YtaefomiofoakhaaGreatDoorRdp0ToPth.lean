/- The state of a reading of parts: the reader, the row of its pointers, each part in its block; what else stays · Parts by plain functions: where each lies, in which it is; its path. -/
import Derived.Test.YtaefomiofoakhaaGreatDoorRdmToBytI
import Derived.Test.YtaefomiofoakhaaGreatDoorAppIToMemQ
namespace Go.Proofs.YtaefomiofoakhaaGreatDoor
open Go.RowKit

/-- A part in its block, by its values. -/
def PtV (W : World) (P : Nat) (x : PtP) : Prop := PtAt W P x.1.1 x.1.2.1 x.1.2.2 x.2.1.1 x.2.1.2 x.2.2.1 x.2.2.2
/-- A reader in its block. -/
def RdrAt (W : World) (R b m cp : Nat) (v : Value) : Prop := W.heap[R]? = some (.cells #[.slice (some ⟨b, 0, none⟩) m cp, v] 45 (0, 0))
theorem RdrAt.lt {W : World} {R b m cp : Nat} {v : Value} (h : RdrAt W R b m cp v) : R < W.heap.size := (Array.getElem?_eq_some_iff.1 h).1
theorem RdrAt.cells {W : World} {R b m cp : Nat} {v : Value} (h : RdrAt W R b m cp v) : W.cell? ⟨R, 0, none⟩ = some (.slice (some ⟨b, 0, none⟩) m cp) ∧ W.cell? ⟨R, 1, none⟩ = some v := by
  unfold RdrAt at h
  simp [World.cell?, h]
theorem RdrAt.frozen {W : World} {R b m cp : Nat} {v : Value} (h : RdrAt W R b m cp v) (i : Nat) : W.frozen? ⟨R, i, none⟩ = false := by
  unfold RdrAt at h
  simp [World.frozen?, h]
theorem RdrAt.set {W : World} {R b m cp : Nat} {v : Value} (h : RdrAt W R b m cp v) (v' : Value) : RdrAt (W.setCell ⟨R, 1, none⟩ v') R b m cp v' := setCell_block h _
/-- A block that is no row of pointers. -/
def NoQ (W : World) (k : Nat) : Prop := ∀ c fz, W.heap[k]? ≠ some (.cells c 49 fz)
theorem NoQ.part {W : World} {P : Nat} {k c g f t u n : Int} (h : PtAt W P k c g f t u n) : NoQ W P := fun c fz e => by unfold PtAt at h; rw [h] at e; simp at e
theorem NoQ.rdr {W : World} {R b m cp : Nat} {v : Value} (h : RdrAt W R b m cp v) : NoQ W R := fun c fz e => by unfold RdrAt at h; rw [h] at e; simp at e
theorem NoQ.row {W : World} {k C : Nat} {v : Value} {l : List Nat} (h : NoQ W k) (ho : OwnQ W C v l) : some k ≠ v.ownBlock := by
  intro e
  rcases ho.2 with ⟨h', _⟩ | ⟨g, cap, cur, h', _, h3, _⟩
  · rw [h'] at e; cases e
  · rw [h'] at e
    cases e
    exact h _ _ h3
/-- What stays: all blocks but the reader, one part, and rows of pointers. -/
def Fr (W W' : World) (R P : Nat) : Prop := W.heap.size ≤ W'.heap.size ∧ ∀ k, k < W.heap.size → k ≠ R → k ≠ P → NoQ W k → W'.heap[k]? = W.heap[k]?
theorem Fr.refl (W : World) (R P : Nat) : Fr W W R P := ⟨Nat.le_refl _, fun _ _ _ _ _ => rfl⟩
theorem Fr.trans {W W1 W2 : World} {R P : Nat} (h : Fr W W1 R P) (k : Fr W1 W2 R P) : Fr W W2 R P := ⟨Nat.le_trans h.1 k.1, fun q hq h1 h2 h3 => by
  have e := h.2 q hq h1 h2 h3
  exact (k.2 q (Nat.lt_of_lt_of_le hq h.1) h1 h2 (fun c fz => by rw [e]; exact h3 c fz)).trans e⟩
theorem Fr.inner {W W1 W2 : World} {R P P' : Nat} (h : Fr W W1 R P) (k : Fr W1 W2 R P') (hP : W.heap.size ≤ P') : Fr W W2 R P := ⟨Nat.le_trans h.1 k.1, fun q hq h1 h2 h3 => by
  have e := h.2 q hq h1 h2 h3
  exact (k.2 q (Nat.lt_of_lt_of_le hq h.1) h1 (by omega) (fun c fz => by rw [e]; exact h3 c fz)).trans e⟩
theorem Fr.below {W W1 W2 : World} {R P : Nat} (h : Fr W W1 R P) (k : Below W1.heap.size W1 W2) : Fr W W2 R P := h.trans ⟨k.size, fun q hq _ _ _ => k.block q hq⟩
theorem Fr.grown {W W1 W2 : World} {R P : Nat} {row : Option Nat} (h : Fr W W1 R P) (k : W1.grownBy W2 row) (hr : ∀ q, row = some q → q = R ∨ q = P ∨ ¬ NoQ W1 q) : Fr W W2 R P := h.trans ⟨k.size, fun q hq h1 h2 h3 => k.block q hq (fun e => by
  rcases hr q e.symm with h4 | h4 | h4
  · exact h1 h4
  · exact h2 h4
  · exact h4 h3)⟩
theorem row_isQ {W : World} {C : Nat} {v : Value} {l : List Nat} (ho : OwnQ W C v l) {q : Nat} (h : v.ownBlock = some q) : ¬ NoQ W q := fun hn => hn.row ho h.symm
/-- The state of a reading. -/
def RSt (w0 W : World) (R b m cp : Nat) (v : Value) (l : List (Nat × PtP)) : Prop := Below w0.heap.size w0 W ∧ w0.heap.size ≤ R ∧ RdrAt W R b m cp v ∧ OwnQ W w0.heap.size v (l.map (·.1)) ∧ ∀ p ∈ l, w0.heap.size ≤ p.1 ∧ PtV W p.1 p.2
theorem RSt.below {w0 W W' : World} {R b m cp : Nat} {v : Value} {l : List (Nat × PtP)} (h : RSt w0 W R b m cp v l) (hb : Below W.heap.size W W') : RSt w0 W' R b m cp v l :=
  ⟨h.1.trans (hb.mono h.1.size), h.2.1, (hb.block R h.2.2.1.lt).trans h.2.2.1, h.2.2.2.1.below hb (Nat.le_refl _), fun p hp => ⟨(h.2.2.2.2 p hp).1, (h.2.2.2.2 p hp).2.kept (hb.block p.1 (h.2.2.2.2 p hp).2.lt)⟩⟩
theorem RSt.alloc {w0 W : World} {R b m cp : Nat} {v : Value} {l : List (Nat × PtP)} (h : RSt w0 W R b m cp v l) (o : Obj) : RSt w0 (W.alloc o) R b m cp v l := h.below ((Below.refl _ _).alloc (Nat.le_refl _) _)
theorem RSt.drew {w0 W : World} {R b m cp : Nat} {v : Value} {l : List (Nat × PtP)} (h : RSt w0 W R b m cp v l) : RSt w0 W.drew R b m cp v l := ⟨h.1.drew, h.2⟩
/-- Behind an append of a part that is in none of them. -/
theorem RSt.appended {w0 W W1 : World} {R b m cp P : Nat} {v v' : Value} {l : List (Nat × PtP)} {x : PtP} (h : RSt w0 W R b m cp v l) (hp : PtV W P x) (hP : w0.heap.size ≤ P) (hg : W.grownBy W1 v.ownBlock) (ho : OwnQ W1 w0.heap.size v' (l.map (·.1) ++ [P])) : RSt w0 (W1.setCell ⟨R, 1, none⟩ v') R b m cp v' (l ++ [(P, x)]) := by
  have hb1 : Below w0.heap.size w0 W1 := h.1.grown hg h.1.size (fun k hk => (World.ownsRow.lt h.2.2.2.1 k hk).1)
  have hR1 : RdrAt W1 R b m cp v := (hg.block R h.2.2.1.lt ((NoQ.rdr h.2.2.1).row h.2.2.2.1)).trans h.2.2.1
  have hkeep : ∀ q y, PtV W q y → PtV (W1.setCell ⟨R, 1, none⟩ v') q y := fun q y hq => by
    have e1 := hg.block q hq.lt ((NoQ.part hq).row h.2.2.2.1)
    have hne : q ≠ R := fun e => by
      have h1 := h.2.2.1
      unfold RdrAt at h1
      unfold PtV PtAt at hq
      rw [e, h1] at hq; simp at hq
    exact hq.kept ((Below.heap_setCell W1 ⟨R, 1, none⟩ v' q hne).trans e1)
  refine ⟨hb1.setCell (p := ⟨R, 1, none⟩) h.2.1 _, h.2.1, hR1.set v', ?_, ?_⟩
  · have hgs : W1.grownBy (W1.setCell ⟨R, 1, none⟩ v') (some R) := gset (World.grownBy.refl _ _)
    have hne : ∀ q, v'.ownBlock = some q → some q ≠ some R := fun q hq e => by
      cases e
      exact (NoQ.rdr hR1).row ho hq.symm
    have := ho
    unfold OwnQ at this ⊢
    rw [List.map_append]
    refine ⟨this.1, ?_⟩
    rcases this.2 with h' | ⟨g, cap, cur, h1, h2, h3, h4⟩
    · exact .inl h'
    · refine .inr ⟨g, cap, cur, h1, h2, ?_, h4⟩
      rw [Below.heap_setCell W1 ⟨R, 1, none⟩ v' g (fun e => hne g (by rw [h1]; rfl) (by rw [e]))]; exact h3
  · intro p hp2
    rcases List.mem_append.1 hp2 with hp2 | hp2
    · exact ⟨(h.2.2.2.2 p hp2).1, hkeep _ _ (h.2.2.2.2 p hp2).2⟩
    · rw [List.mem_singleton] at hp2
      subst hp2
      exact ⟨hP, hkeep _ _ hp⟩
/-- Behind the filling of the last part. -/
theorem RSt.filled {w0 W W1 : World} {R b m cp P : Nat} {v : Value} {l : List (Nat × PtP)} {x y : PtP} (h : RSt w0 W R b m cp v (l ++ [(P, x)])) (hl : ∀ p ∈ l, p.1 ≠ P) (hb : Below w0.heap.size w0 W1) (hg : W.grownBy W1 (some P)) (hp : PtV W1 P y) : RSt w0 W1 R b m cp v (l ++ [(P, y)]) := by
  have hx := h.2.2.2.2 (P, x) (by simp)
  have hRP : R ≠ P := fun e => by
    have h1 := h.2.2.1
    have h2 := hx.2
    unfold RdrAt at h1
    unfold PtV PtAt at h2
    rw [e] at h1
    rw [h1] at h2; simp at h2
  refine ⟨hb, h.2.1, (hg.block R h.2.2.1.lt (fun e => hRP (by cases e; rfl))).trans h.2.2.1, ?_, ?_⟩
  · have ho := h.2.2.2.1
    have hn : some P ≠ v.ownBlock := (NoQ.part hx.2).row ho
    have e : (l ++ [(P, y)]).map (·.1) = (l ++ [(P, x)]).map (·.1) := by simp
    unfold OwnQ at ho ⊢
    rw [e]
    refine ⟨ho.1, ?_⟩
    rcases ho.2 with h' | ⟨g, cap, cur, h1, h2, h3, h4⟩
    · exact .inl h'
    · have hgl : g < W.heap.size := (Array.getElem?_eq_some_iff.1 h3).1
      refine .inr ⟨g, cap, cur, h1, h2, ?_, h4⟩
      rw [hg.block g hgl (fun e => hn (by rw [← e, h1]; rfl))]; exact h3
  · intro p hp2
    rcases List.mem_append.1 hp2 with hp2 | hp2
    · have h1 := h.2.2.2.2 p (by simp [hp2])
      exact ⟨h1.1, h1.2.kept (hg.block p.1 h1.2.lt (fun e => hl p hp2 (by cases e; rfl)))⟩
    · rw [List.mem_singleton] at hp2
      subst hp2
      exact ⟨hx.1, hp⟩
theorem upE_len (en : ByteArray) : ∀ xs : List Line, (upE en xs).length ≤ xs.length
  | [] => Nat.le_refl _
  | x :: r => by
    rw [upE]
    split
    · simp
    · simp only [List.length_cons]; have := upE_len en r; omega
theorem spL_len (bg en : ByteArray) (L : Int) (xs : List Line) : (spL bg en L xs).length ≤ xs.length := by
  have h1 := fold_len bg en L (upE en xs) []
  have h2 := upE_len en xs
  unfold spL
  simp only [List.length_nil] at h1; omega
theorem OwnR.blk {w w' : World} {B : Nat} {v : Value} {l : List RngP} (h : OwnR w B v l) (he : ∀ g, v.ownBlock = some g → w'.heap[g]? = w.heap[g]?) : OwnR w' B v l := by
  unfold OwnR at h ⊢
  refine ⟨h.1, ?_⟩
  rcases h.2 with h' | ⟨g, cap, cur, h1, h2, h3, h4⟩
  · exact .inl h'
  · exact .inr ⟨g, cap, cur, h1, h2, (he g (by rw [h1]; rfl)).trans h3, h4⟩
theorem OwnR.apart {w : World} {B R b m cp : Nat} {v u : Value} {l : List RngP} (h : OwnR w B v l) (hR : RdrAt w R b m cp u) {g : Nat} (hg : v.ownBlock = some g) : g < w.heap.size ∧ g ≠ R ∧ NoQ w g := by
  unfold OwnR at h
  rcases h.2 with ⟨h', _⟩ | ⟨g', cap, cur, h1, h2, h3, h4⟩
  · rw [h'] at hg; cases hg
  · rw [h1] at hg
    cases hg
    refine ⟨(Array.getElem?_eq_some_iff.1 h3).1, fun e => ?_, fun c fz e => ?_⟩
    · subst e
      unfold RdrAt at hR
      rw [hR] at h3; simp at h3
    · rw [h3] at e; simp at e
theorem part_apart {w : World} {R b m cp P : Nat} {v : Value} {k c g f t u n : Int} (hp : PtAt w P k c g f t u n) (hR : RdrAt w R b m cp v) : P ≠ R := fun e => by
  subst e
  unfold RdrAt at hR
  unfold PtAt at hp
  rw [hR] at hp; simp at hp
theorem adL_le {F : Nat → Nat → Int → Int → List PtP → List PtP} {b : Nat} {here : Int} (hF : ∀ x y h n acc, acc.length ≤ 8 → (F x y h n acc).length ≤ 8) : ∀ (l : List RngP) (i : Nat) (acc : List PtP), acc.length ≤ 8 → (adL F b here l i acc).length ≤ 8
  | [], _, _, h => h
  | _ :: r, i, _, h => adL_le hF r (i + 1) _ (hF _ _ _ _ _ h)
theorem adV_le (d : List Nat) : ∀ (D fr tt : Nat) (u nu : Int) (acc : List PtP), acc.length ≤ 8 → (adV d D fr tt u nu acc).length ≤ 8
  | 0, fr, tt, u, nu, acc, h => by
    by_cases h8 : acc.length = 8
    · rw [adV_full h8]; exact h
    · rw [adV_zero h8, List.length_append]; simp; omega
  | D + 1, fr, tt, u, nu, acc, h => by
    by_cases h8 : acc.length = 8
    · rw [adV_full h8]; exact h
    · by_cases hm : (oneV (cutN d fr tt)).2.2 = []
      · rw [adV_leaf h8 hm, List.length_append]; simp; omega
      · rw [adV_in h8 hm]
        exact adL_le (fun x y hh n acc h => adV_le d D x y hh n acc h) _ _ _ (by rw [List.length_append]; simp; omega)
/-- How a reading ends. -/
def RdEnd (w0 : World) (R b m cp P : Nat) (r : List PtP) (W : World) (e : Ending) (W' : World) : Prop := ∃ v' l', e = .returned (.tuple #[]) ∧ RSt w0 W' R b m cp v' l' ∧ l'.map (·.2) = r ∧ Fr W W' R P
end Go.Proofs.YtaefomiofoakhaaGreatDoor

namespace Go.Proofs.YtaefomiofoakhaaGreatDoor
open Go.RowKit

/-- Each part lies within the bytes, and in one ahead of it (the first in none). -/
def OkP (d : List Nat) (l : List PtP) : Prop := ∀ i, i < l.length → (∃ f t : Nat, (nthP l i).2.1 = ((f : Int), (t : Int)) ∧ f ≤ t ∧ t ≤ d.length) ∧ ((nthP l i).2.2.1 = -1 ∧ i = 0 ∨ ∃ u : Nat, (nthP l i).2.2.1 = (u : Int) ∧ u < i)
theorem nthP_left {a b : List PtP} {i : Nat} (h : i < a.length) : nthP (a ++ b) i = nthP a i := by
  unfold nthP
  rw [List.getD_eq_getElem?_getD, List.getD_eq_getElem?_getD, List.getElem?_append_left h]
theorem nthP_last (a : List PtP) (x : PtP) : nthP (a ++ [x]) a.length = x := by
  unfold nthP
  rw [List.getD_eq_getElem?_getD, List.getElem?_append_right (Nat.le_refl _), Nat.sub_self]; rfl
theorem OkP.snoc {d : List Nat} {l : List PtP} {p : PtP} (h : OkP d l) (h1 : ∃ f t : Nat, p.2.1 = ((f : Int), (t : Int)) ∧ f ≤ t ∧ t ≤ d.length) (h2 : p.2.2.1 = -1 ∧ l = [] ∨ ∃ u : Nat, p.2.2.1 = (u : Int) ∧ u < l.length) : OkP d (l ++ [p]) := by
  intro i hi
  rw [List.length_append, List.length_singleton] at hi
  rcases Nat.lt_or_ge i l.length with hlt | hge
  · rw [nthP_left hlt]; exact h i hlt
  · have e : i = l.length := by omega
    subst e
    rw [nthP_last]
    refine ⟨h1, ?_⟩
    rcases h2 with ⟨a, b⟩ | ⟨u, a, b⟩
    · exact .inl ⟨a, by rw [b]; rfl⟩
    · exact .inr ⟨u, a, b⟩
theorem OkP.nil (d : List Nat) : OkP d [] := fun i hi => by simp at hi
theorem ptN_in {d : List Nat} {fr tt : Nat} {u nu : Int} (h1 : fr ≤ tt) (h2 : tt ≤ d.length) : ∃ f t : Nat, (ptN d fr tt u nu).2.1 = ((f : Int), (t : Int)) ∧ f ≤ t ∧ t ≤ d.length := by
  have hcl : (cutN d fr tt).length = tt - fr := by unfold cutN; rw [List.length_drop, List.length_take]; omega
  have hat : (oneV (cutN d fr tt)).2.1 ≤ tt - fr := hcl ▸ oneV_at (cutN d fr tt)
  exact ⟨_, tt, rfl, by omega, h2⟩
theorem adL_ok {d : List Nat} {F : Nat → Nat → Int → Int → List PtP → List PtP} {b L n : Nat} (hL : L + b ≤ d.length)
    (hF : ∀ (x y : Nat) (u nu : Int) (acc : List PtP), x ≤ y → y ≤ d.length → OkP d acc → (∃ q : Nat, u = (q : Int) ∧ q < acc.length) → OkP d (F x y u nu acc) ∧ acc.length ≤ (F x y u nu acc).length) :
    ∀ (l : List RngP) (i : Nat) (acc : List PtP), (∀ s ∈ l, InL L s) → OkP d acc → n < acc.length → OkP d (adL F b (n : Int) l i acc) ∧ acc.length ≤ (adL F b (n : Int) l i acc).length
  | [], _, acc, _, h, _ => ⟨h, Nat.le_refl _⟩
  | s :: r, i, acc, hs, h, hn => by
    obtain ⟨x, y, e, h1, h2⟩ := hs s List.mem_cons_self
    subst e
    obtain ⟨k1, k2⟩ := hF (((x : Int)).toNat + b) (((y : Int)).toNat + b) (n : Int) ((i + 1 : Nat) : Int) acc (by omega) (by omega) h ⟨n, rfl, hn⟩
    obtain ⟨k3, k4⟩ := adL_ok hL hF r (i + 1) _ (fun s h => hs s (List.mem_cons_of_mem _ h)) k1 (Nat.lt_of_lt_of_le hn k2)
    exact ⟨k3, Nat.le_trans k2 k4⟩
theorem adV_ok (d : List Nat) (hd : d.length ≤ 1048576) : ∀ (D fr tt : Nat) (u nu : Int) (acc : List PtP), fr ≤ tt → tt ≤ d.length → OkP d acc → (u = -1 ∧ acc = [] ∨ ∃ q : Nat, u = (q : Int) ∧ q < acc.length) → OkP d (adV d D fr tt u nu acc) ∧ acc.length ≤ (adV d D fr tt u nu acc).length
  | D, fr, tt, u, nu, acc, h1, h2, h3, h4 => by
    by_cases h8 : acc.length = 8
    · rw [adV_full h8]; exact ⟨h3, Nat.le_refl _⟩
    · have hs : OkP d (acc ++ [ptN d fr tt u nu]) := h3.snoc (ptN_in h1 h2) h4
      by_cases hm : (oneV (cutN d fr tt)).2.2 = []
      · rw [adV_leaf h8 hm]
        exact ⟨hs, by simp⟩
      · cases D with
        | zero => rw [adV_zero h8]; exact ⟨hs, by simp⟩
        | succ D =>
          have hcl : (cutN d fr tt).length = tt - fr := by unfold cutN; rw [List.length_drop, List.length_take]; omega
          have hat : (oneV (cutN d fr tt)).2.1 ≤ tt - fr := hcl ▸ oneV_at (cutN d fr tt)
          rw [adV_in h8 hm]
          generalize (oneV (cutN d fr tt)).2.1 = at0 at *
          have hcl2 : (cutN d (fr + at0) tt).length = tt - (fr + at0) := by unfold cutN; rw [List.length_drop, List.length_take]; omega
          obtain ⟨k1, k2⟩ := adL_ok (F := adV d D) (b := fr + at0) (L := (cutN d (fr + at0) tt).length) (n := acc.length) (by omega) (fun x y u nu acc a b c e => adV_ok d hd D x y u nu acc a b c (.inr e)) _ 0 (acc ++ [ptN d fr tt u nu]) (spL_in _ _ _ (by omega)) hs (by simp)
          refine ⟨k1, ?_⟩
          rw [List.length_append, List.length_singleton] at k2
          omega
/-- All parts of a message are so; there is one at least. -/
theorem parts_ok (d : List Nat) (hd : d.length ≤ 400) : OkP d (adV d 2 0 d.length (-1) 0 []) := (adV_ok d (by omega) 2 0 d.length (-1) 0 [] (Nat.zero_le _) (Nat.le_refl _) (OkP.nil d) (.inl ⟨rfl, rfl⟩)).1
theorem parts_le (d : List Nat) : (adV d 2 0 d.length (-1) 0 []).length ≤ 8 := adV_le d 2 0 d.length (-1) 0 [] (by simp)

/-- The path of the part at a place, by so many steps at most. -/
def pthF (l : List PtP) : Nat → Nat → List Int
  | 0, _ => []
  | f + 1, k => if (nthP l k).2.2.1 < 0 then [] else pthF l f (nthP l k).2.2.1.toNat ++ [(nthP l k).2.2.2]
def pthV (l : List PtP) (k : Nat) : List Int := pthF l (k + 1) k
theorem pthF_more {d : List Nat} {l : List PtP} (h : OkP d l) : ∀ (f k : Nat), k < l.length → k < f → pthF l f k = pthV l k
  | f + 1, k, hk, hf => by
    unfold pthV
    simp only [pthF]
    split
    · rfl
    · rename_i hn
      rcases (h k hk).2 with ⟨e, _⟩ | ⟨u, e, hu⟩
      · rw [e] at hn; omega
      · rw [e, Int.toNat_natCast, pthF_more h f u (by omega) (by omega), pthF_more h k u (by omega) hu]
theorem pthV_top {l : List PtP} {k : Nat} (h : (nthP l k).2.2.1 < 0) : pthV l k = [] := by unfold pthV; simp only [pthF]; rw [if_pos h]
theorem pthV_step {d : List Nat} {l : List PtP} (h : OkP d l) {k u : Nat} (hk : k < l.length) (e : (nthP l k).2.2.1 = (u : Int)) (hu : u < k) : pthV l k = pthV l u ++ [(nthP l k).2.2.2] := by
  unfold pthV
  simp only [pthF]
  rw [if_neg (by omega), e, Int.toNat_natCast]
  rw [show (if (nthP l u).2.2.1 < 0 then [] else pthF l u (nthP l u).2.2.1.toNat ++ [(nthP l u).2.2.2]) = pthF l (u + 1) u from rfl, pthF_more h k u (by omega) hu]
  rfl
end Go.Proofs.YtaefomiofoakhaaGreatDoor
