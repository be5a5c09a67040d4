/- The state of a reading of parts: the reader, the row of its pointers, each part in its block; what else stays. -/
import Derived.Test.YtkjnhcnbbojajaaDoorRdm
import Derived.Test.YtkjnhcnbbojajaaDoorMemQ
namespace Go.Proofs.YtkjnhcnbbojajaaDoor
open Go.RowKit

/-- A part in its block, by its values. -/
def PtV (W : World) (P : Nat) (x : PtP) : Prop := PtAt W P x.1.1 x.1.2.1 x.1.2.2 x.2.1.1 x.2.1.2 x.2.2.1 x.2.2.2
/-- A reader in its block. -/
def RdrAt (W : World) (R b m : Nat) (v : Value) : Prop := W.heap[R]? = some (.cells #[.slice (some ⟨b, 0, none⟩) m m, v] 63 (0, 0))
theorem RdrAt.lt {W : World} {R b m : Nat} {v : Value} (h : RdrAt W R b m v) : R < W.heap.size := (Array.getElem?_eq_some_iff.1 h).1
theorem RdrAt.cells {W : World} {R b m : Nat} {v : Value} (h : RdrAt W R b m v) : W.cell? ⟨R, 0, none⟩ = some (.slice (some ⟨b, 0, none⟩) m m) ∧ W.cell? ⟨R, 1, none⟩ = some v := by
  unfold RdrAt at h
  simp [World.cell?, h]
theorem RdrAt.frozen {W : World} {R b m : Nat} {v : Value} (h : RdrAt W R b m v) (i : Nat) : W.frozen? ⟨R, i, none⟩ = false := by
  unfold RdrAt at h
  simp [World.frozen?, h]
theorem RdrAt.set {W : World} {R b m : Nat} {v : Value} (h : RdrAt W R b m v) (v' : Value) : RdrAt (W.setCell ⟨R, 1, none⟩ v') R b m v' := setCell_block h _
/-- A block that is no row of pointers. -/
def NoQ (W : World) (k : Nat) : Prop := ∀ c fz, W.heap[k]? ≠ some (.cells c 67 fz)
theorem NoQ.part {W : World} {P : Nat} {k c g f t u n : Int} (h : PtAt W P k c g f t u n) : NoQ W P := fun c fz e => by unfold PtAt at h; rw [h] at e; simp at e
theorem NoQ.rdr {W : World} {R b m : Nat} {v : Value} (h : RdrAt W R b m v) : NoQ W R := fun c fz e => by unfold RdrAt at h; rw [h] at e; simp at e
theorem NoQ.row {W : World} {k C : Nat} {v : Value} {l : List Nat} (h : NoQ W k) (ho : OwnQ W C v l) : some k ≠ v.ownBlock := by
  intro e
  rcases ho.2 with ⟨h', _⟩ | ⟨g, cap, cur, h', _, h3, _⟩
  · rw [h'] at e; cases e
  · rw [h'] at e
    cases e
    exact h _ _ h3
/-- What stays: all blocks but the reader, one part, and rows of pointers. -/
def Fr (W W' : World) (R P : Nat) : Prop := W.heap.size ≤ W'.heap.size ∧ ∀ k, k < W.heap.size → k ≠ R → k ≠ P → NoQ W k → W'.heap[k]? = W.heap[k]?
theorem Fr.refl (W : World) (R P : Nat) : Fr W W R P := ⟨Nat.le_refl _, fun _ _ _ _ _ => rfl⟩
theorem Fr.trans {W W1 W2 : World} {R P : Nat} (h : Fr W W1 R P) (k : Fr W1 W2 R P) : Fr W W2 R P := ⟨Nat.le_trans h.1 k.1, fun q hq h1 h2 h3 => by
  have e := h.2 q hq h1 h2 h3
  exact (k.2 q (Nat.lt_of_lt_of_le hq h.1) h1 h2 (fun c fz => by rw [e]; exact h3 c fz)).trans e⟩
theorem Fr.inner {W W1 W2 : World} {R P P' : Nat} (h : Fr W W1 R P) (k : Fr W1 W2 R P') (hP : W.heap.size ≤ P') : Fr W W2 R P := ⟨Nat.le_trans h.1 k.1, fun q hq h1 h2 h3 => by
  have e := h.2 q hq h1 h2 h3
  exact (k.2 q (Nat.lt_of_lt_of_le hq h.1) h1 (by omega) (fun c fz => by rw [e]; exact h3 c fz)).trans e⟩
theorem Fr.below {W W1 W2 : World} {R P : Nat} (h : Fr W W1 R P) (k : Below W1.heap.size W1 W2) : Fr W W2 R P := h.trans ⟨k.size, fun q hq _ _ _ => k.block q hq⟩
theorem Fr.grown {W W1 W2 : World} {R P : Nat} {row : Option Nat} (h : Fr W W1 R P) (k : W1.grownBy W2 row) (hr : ∀ q, row = some q → q = R ∨ q = P ∨ ¬ NoQ W1 q) : Fr W W2 R P := h.trans ⟨k.size, fun q hq h1 h2 h3 => k.block q hq (fun e => by
  rcases hr q e.symm with h4 | h4 | h4
  · exact h1 h4
  · exact h2 h4
  · exact h4 h3)⟩
theorem row_isQ {W : World} {C : Nat} {v : Value} {l : List Nat} (ho : OwnQ W C v l) {q : Nat} (h : v.ownBlock = some q) : ¬ NoQ W q := fun hn => hn.row ho h.symm
/-- The state of a reading. -/
def RSt (w0 W : World) (R b m : Nat) (v : Value) (l : List (Nat × PtP)) : Prop := Below w0.heap.size w0 W ∧ w0.heap.size ≤ R ∧ RdrAt W R b m v ∧ OwnQ W w0.heap.size v (l.map (·.1)) ∧ ∀ p ∈ l, w0.heap.size ≤ p.1 ∧ PtV W p.1 p.2
theorem RSt.below {w0 W W' : World} {R b m : Nat} {v : Value} {l : List (Nat × PtP)} (h : RSt w0 W R b m v l) (hb : Below W.heap.size W W') : RSt w0 W' R b m v l :=
  ⟨h.1.trans (hb.mono h.1.size), h.2.1, (hb.block R h.2.2.1.lt).trans h.2.2.1, h.2.2.2.1.below hb (Nat.le_refl _), fun p hp => ⟨(h.2.2.2.2 p hp).1, (h.2.2.2.2 p hp).2.kept (hb.block p.1 (h.2.2.2.2 p hp).2.lt)⟩⟩
theorem RSt.alloc {w0 W : World} {R b m : Nat} {v : Value} {l : List (Nat × PtP)} (h : RSt w0 W R b m v l) (o : Obj) : RSt w0 (W.alloc o) R b m v l := h.below ((Below.refl _ _).alloc (Nat.le_refl _) _)
theorem RSt.drew {w0 W : World} {R b m : Nat} {v : Value} {l : List (Nat × PtP)} (h : RSt w0 W R b m v l) : RSt w0 W.drew R b m v l := ⟨h.1.drew, h.2⟩
/-- Behind an append of a part that is in none of them. -/
theorem RSt.appended {w0 W W1 : World} {R b m P : Nat} {v v' : Value} {l : List (Nat × PtP)} {x : PtP} (h : RSt w0 W R b m v l) (hp : PtV W P x) (hP : w0.heap.size ≤ P) (hg : W.grownBy W1 v.ownBlock) (ho : OwnQ W1 w0.heap.size v' (l.map (·.1) ++ [P])) : RSt w0 (W1.setCell ⟨R, 1, none⟩ v') R b m v' (l ++ [(P, x)]) := by
  have hb1 : Below w0.heap.size w0 W1 := h.1.grown hg h.1.size (fun k hk => (World.ownsRow.lt h.2.2.2.1 k hk).1)
  have hR1 : RdrAt W1 R b m v := (hg.block R h.2.2.1.lt ((NoQ.rdr h.2.2.1).row h.2.2.2.1)).trans h.2.2.1
  have hkeep : ∀ q y, PtV W q y → PtV (W1.setCell ⟨R, 1, none⟩ v') q y := fun q y hq => by
    have e1 := hg.block q hq.lt ((NoQ.part hq).row h.2.2.2.1)
    have hne : q ≠ R := fun e => by
      have h1 := h.2.2.1
      unfold RdrAt at h1
      unfold PtV PtAt at hq
      rw [e, h1] at hq; simp at hq
    exact hq.kept ((Below.heap_setCell W1 ⟨R, 1, none⟩ v' q hne).trans e1)
  refine ⟨hb1.setCell (p := ⟨R, 1, none⟩) h.2.1 _, h.2.1, hR1.set v', ?_, ?_⟩
  · have hgs : W1.grownBy (W1.setCell ⟨R, 1, none⟩ v') (some R) := gset (World.grownBy.refl _ _)
    have hne : ∀ q, v'.ownBlock = some q → some q ≠ some R := fun q hq e => by
      cases e
      exact (NoQ.rdr hR1).row ho hq.symm
    have := ho
    unfold OwnQ at this ⊢
    rw [List.map_append]
    refine ⟨this.1, ?_⟩
    rcases this.2 with h' | ⟨g, cap, cur, h1, h2, h3, h4⟩
    · exact .inl h'
    · refine .inr ⟨g, cap, cur, h1, h2, ?_, h4⟩
      rw [Below.heap_setCell W1 ⟨R, 1, none⟩ v' g (fun e => hne g (by rw [h1]; rfl) (by rw [e]))]; exact h3
  · intro p hp2
    rcases List.mem_append.1 hp2 with hp2 | hp2
    · exact ⟨(h.2.2.2.2 p hp2).1, hkeep _ _ (h.2.2.2.2 p hp2).2⟩
    · rw [List.mem_singleton] at hp2
      subst hp2
      exact ⟨hP, hkeep _ _ hp⟩
/-- Behind the filling of the last part. -/
theorem RSt.filled {w0 W W1 : World} {R b m P : Nat} {v : Value} {l : List (Nat × PtP)} {x y : PtP} (h : RSt w0 W R b m v (l ++ [(P, x)])) (hl : ∀ p ∈ l, p.1 ≠ P) (hb : Below w0.heap.size w0 W1) (hg : W.grownBy W1 (some P)) (hp : PtV W1 P y) : RSt w0 W1 R b m v (l ++ [(P, y)]) := by
  have hx := h.2.2.2.2 (P, x) (by simp)
  have hRP : R ≠ P := fun e => by
    have h1 := h.2.2.1
    have h2 := hx.2
    unfold RdrAt at h1
    unfold PtV PtAt at h2
    rw [e] at h1
    rw [h1] at h2; simp at h2
  refine ⟨hb, h.2.1, (hg.block R h.2.2.1.lt (fun e => hRP (by cases e; rfl))).trans h.2.2.1, ?_, ?_⟩
  · have ho := h.2.2.2.1
    have hn : some P ≠ v.ownBlock := (NoQ.part hx.2).row ho
    have e : (l ++ [(P, y)]).map (·.1) = (l ++ [(P, x)]).map (·.1) := by simp
    unfold OwnQ at ho ⊢
    rw [e]
    refine ⟨ho.1, ?_⟩
    rcases ho.2 with h' | ⟨g, cap, cur, h1, h2, h3, h4⟩
    · exact .inl h'
    · have hgl : g < W.heap.size := (Array.getElem?_eq_some_iff.1 h3).1
      refine .inr ⟨g, cap, cur, h1, h2, ?_, h4⟩
      rw [hg.block g hgl (fun e => hn (by rw [← e, h1]; rfl))]; exact h3
  · intro p hp2
    rcases List.mem_append.1 hp2 with hp2 | hp2
    · have h1 := h.2.2.2.2 p (by simp [hp2])
      exact ⟨h1.1, h1.2.kept (hg.block p.1 h1.2.lt (fun e => hl p hp2 (by cases e; rfl)))⟩
    · rw [List.mem_singleton] at hp2
      subst hp2
      exact ⟨hx.1, hp⟩
theorem upE_len (en : ByteArray) : ∀ xs : List Line, (upE en xs).length ≤ xs.length
  | [] => Nat.le_refl _
  | x :: r => by
    rw [upE]
    split
    · simp
    · simp only [List.length_cons]; have := upE_len en r; omega
theorem spL_len (bg en : ByteArray) (L : Int) (xs : List Line) : (spL bg en L xs).length ≤ xs.length := by
  have h1 := fold_len bg en L (upE en xs) []
  have h2 := upE_len en xs
  unfold spL
  simp only [List.length_nil] at h1; omega
theorem OwnR.blk {w w' : World} {B : Nat} {v : Value} {l : List RngP} (h : OwnR w B v l) (he : ∀ g, v.ownBlock = some g → w'.heap[g]? = w.heap[g]?) : OwnR w' B v l := by
  unfold OwnR at h ⊢
  refine ⟨h.1, ?_⟩
  rcases h.2 with h' | ⟨g, cap, cur, h1, h2, h3, h4⟩
  · exact .inl h'
  · exact .inr ⟨g, cap, cur, h1, h2, (he g (by rw [h1]; rfl)).trans h3, h4⟩
theorem OwnR.apart {w : World} {B R b m : Nat} {v u : Value} {l : List RngP} (h : OwnR w B v l) (hR : RdrAt w R b m u) {g : Nat} (hg : v.ownBlock = some g) : g < w.heap.size ∧ g ≠ R ∧ NoQ w g := by
  unfold OwnR at h
  rcases h.2 with ⟨h', _⟩ | ⟨g', cap, cur, h1, h2, h3, h4⟩
  · rw [h'] at hg; cases hg
  · rw [h1] at hg
    cases hg
    refine ⟨(Array.getElem?_eq_some_iff.1 h3).1, fun e => ?_, fun c fz e => ?_⟩
    · subst e
      unfold RdrAt at hR
      rw [hR] at h3; simp at h3
    · rw [h3] at e; simp at e
theorem part_apart {w : World} {R b m P : Nat} {v : Value} {k c g f t u n : Int} (hp : PtAt w P k c g f t u n) (hR : RdrAt w R b m v) : P ≠ R := fun e => by
  subst e
  unfold RdrAt at hR
  unfold PtAt at hp
  rw [hR] at hp; simp at hp
theorem adL_le {F : Nat → Nat → Int → Int → List PtP → List PtP} {b : Nat} {here : Int} (hF : ∀ x y h n acc, acc.length ≤ 8 → (F x y h n acc).length ≤ 8) : ∀ (l : List RngP) (i : Nat) (acc : List PtP), acc.length ≤ 8 → (adL F b here l i acc).length ≤ 8
  | [], _, _, h => h
  | _ :: r, i, _, h => adL_le hF r (i + 1) _ (hF _ _ _ _ _ h)
theorem adV_le (d : List Nat) : ∀ (D fr tt : Nat) (u nu : Int) (acc : List PtP), acc.length ≤ 8 → (adV d D fr tt u nu acc).length ≤ 8
  | 0, fr, tt, u, nu, acc, h => by
    by_cases h8 : acc.length = 8
    · rw [adV_full h8]; exact h
    · rw [adV_zero h8, List.length_append]; simp; omega
  | D + 1, fr, tt, u, nu, acc, h => by
    by_cases h8 : acc.length = 8
    · rw [adV_full h8]; exact h
    · by_cases hm : (oneV (cutN d fr tt)).2.2 = []
      · rw [adV_leaf h8 hm, List.length_append]; simp; omega
      · rw [adV_in h8 hm]
        exact adL_le (fun x y hh n acc h => adV_le d D x y hh n acc h) _ _ _ (by rw [List.length_append]; simp; omega)
/-- How a reading ends. -/
def RdEnd (w0 : World) (R b m P : Nat) (r : List PtP) (W : World) (e : Ending) (W' : World) : Prop := ∃ v' l', e = .returned (.tuple #[]) ∧ RSt w0 W' R b m v' l' ∧ l'.map (·.2) = r ∧ Fr W W' R P
end Go.Proofs.YtkjnhcnbbojajaaDoor
