/- The parts of a message, by plain functions: which ranges a body has, which parts. -/
import Derived.Test.YtkjnhcnbbojajaaDoorIns
import Derived.Test.YtkjnhcnbbojajaaDoorFil
namespace Go.Proofs.YtkjnhcnbbojajaaDoor
open Go.RowKit

theorem lnsF_in {d : List Nat} : ∀ (f k : Nat) (x : Line), x ∈ lnsF d f k → ∃ i q : Nat, x.2.1 = (i : Int) ∧ x.2.2 = (q : Int) ∧ i ≤ q ∧ q ≤ d.length
  | 0, k, x, h => by simp [lnsF] at h
  | f + 1, k, x, h => by
    by_cases hk : k < d.length
    · rw [lnsF_yes hk] at h
      rcases List.mem_cons.1 h with rfl | h
      · obtain ⟨h1, h2⟩ := nxL_gt hk
        exact ⟨k, nxL d k, rfl, rfl, by omega, h2⟩
      · exact lnsF_in f _ x h
    · rw [lnsF_no hk] at h; simp at h
theorem upE_mem {en : ByteArray} {x : Line} : ∀ {xs : List Line}, x ∈ upE en xs → x ∈ xs
  | [], h => by simp [upE] at h
  | y :: r, h => by
    rw [upE] at h
    split at h
    · rw [List.mem_singleton] at h; rw [h]; simp
    · rcases List.mem_cons.1 h with rfl | h
      · simp
      · exact List.mem_cons_of_mem _ (upE_mem h)
/-- A range within some bytes. -/
def InL (L : Nat) (s : RngP) : Prop := ∃ i q : Nat, s = ((i : Int), (q : Int)) ∧ i ≤ q ∧ q ≤ L
theorem clsL_in {L : Nat} {acc : List RngP} {x : Line} (hL : L ≤ 1048576) (ha : ∀ s ∈ acc, InL L s) (hx : ∃ i q : Nat, x.2.1 = (i : Int) ∧ x.2.2 = (q : Int) ∧ i ≤ q ∧ q ≤ L) : ∀ s ∈ clsL acc x, InL L s := by
  intro s hs
  unfold clsL at hs
  rcases List.mem_or_eq_of_mem_set hs with h | rfl
  · exact ha s h
  · obtain ⟨i, q, h1, h2, h3, h4⟩ := hx
    rcases Nat.lt_or_ge 0 acc.length with hp | hp
    · have hm : nthR acc (acc.length - 1) ∈ acc := by
        unfold nthR
        rw [List.getD_eq_getElem?_getD, List.getElem?_eq_getElem (by omega)]
        exact List.getElem_mem _
      obtain ⟨a, b, e, h5, h6⟩ := ha _ hm
      rw [e, h1, Go.IntWalk.wrap64_in _ (by omega)]
      refine ⟨a, if a ≤ i - 1 then i - 1 else a, ?_, by split <;> omega, by split <;> omega⟩
      simp only [Prod.mk.injEq, true_and]
      rw [Int.max_def]
      split <;> split <;> omega
    · have h0 : acc = [] := List.length_eq_zero_iff.1 (by omega)
      rw [h0] at hs
      simp at hs
theorem fold_in {bg en : ByteArray} {L : Nat} (hL : L ≤ 1048576) : ∀ (xs : List Line) (acc : List RngP), (∀ x ∈ xs, ∃ i q : Nat, x.2.1 = (i : Int) ∧ x.2.2 = (q : Int) ∧ i ≤ q ∧ q ≤ L) → (∀ s ∈ acc, InL L s) → ∀ s ∈ xs.foldl (stpL bg en (L : Int)) acc, InL L s
  | [], _, _, ha => ha
  | x :: r, acc, hx, ha => by
    rw [List.foldl_cons]
    refine fold_in hL r _ (fun y hy => hx y (List.mem_cons_of_mem _ hy)) ?_
    have h0 := hx x (by simp)
    unfold stpL
    split
    · exact clsL_in hL ha h0
    · split
      · intro s hs
        rcases List.mem_append.1 hs with h | h
        · exact clsL_in hL ha h0 s h
        · rw [List.mem_singleton] at h
          obtain ⟨i, q, h1, h2, h3, h4⟩ := h0
          exact ⟨q, L, by rw [h, h2], h4, Nat.le_refl _⟩
      · exact ha
/-- Each range lies within the body. -/
theorem spL_in (bg en : ByteArray) (d : List Nat) (hL : d.length ≤ 1048576) : ∀ s ∈ spL bg en (d.length : Int) (lns d), InL d.length s :=
  fold_in hL _ _ (fun x hx => lnsF_in _ _ x (upE_mem hx)) (fun s hs => by simp at hs)

/-- A part: kind, charset, coding; from, to; up, number. -/
abbrev PtP := (Int × Int × Int) × (Int × Int) × (Int × Int)
/-- '--' ahead of a mark. -/
def bgM (mk : List Nat) : ByteArray := ⟨#[45, 45]⟩ ++ str mk
/-- The same, and '--' behind it. -/
def enM (mk : List Nat) : ByteArray := bgM mk ++ ⟨#[45, 45]⟩
/-- The parts of ranges, one behind the other. -/
def adL (F : Nat → Nat → Int → Int → List PtP → List PtP) (b : Nat) (here : Int) : List RngP → Nat → List PtP → List PtP
  | [], _, acc => acc
  | s :: r, i, acc => adL F b here r (i + 1) (F (s.1.toNat + b) (s.2.toNat + b) here ((i + 1 : Nat) : Int) acc)
/-- The bytes of a part. -/
def cutN (d : List Nat) (fr tt : Nat) : List Nat := (d.take tt).drop fr
/-- A part by its bytes. -/
def ptN (d : List Nat) (fr tt : Nat) (u nu : Int) : PtP := ((oneV (cutN d fr tt)).1, (((fr + (oneV (cutN d fr tt)).2.1 : Nat) : Int), (tt : Int)), (u, nu))
/-- A part and all that is in it, behind others; at most eight. -/
def adV (d : List Nat) : Nat → Nat → Nat → Int → Int → List PtP → List PtP
  | 0, fr, tt, u, nu, acc => if acc.length = 8 then acc else acc ++ [ptN d fr tt u nu]
  | D + 1, fr, tt, u, nu, acc => if acc.length = 8 then acc else if (oneV (cutN d fr tt)).2.2 = [] then acc ++ [ptN d fr tt u nu] else
      adL (adV d D) (fr + (oneV (cutN d fr tt)).2.1) (acc.length : Int) (spL (bgM (oneV (cutN d fr tt)).2.2) (enM (oneV (cutN d fr tt)).2.2) ((cutN d (fr + (oneV (cutN d fr tt)).2.1) tt).length : Int) (lns (cutN d (fr + (oneV (cutN d fr tt)).2.1) tt))) 0 (acc ++ [ptN d fr tt u nu])
theorem adV_full {d : List Nat} {D fr tt : Nat} {u nu : Int} {acc : List PtP} (h : acc.length = 8) : adV d D fr tt u nu acc = acc := by
  cases D with
  | zero => exact if_pos h
  | succ D => exact if_pos h
theorem adV_zero {d : List Nat} {fr tt : Nat} {u nu : Int} {acc : List PtP} (h : acc.length ≠ 8) : adV d 0 fr tt u nu acc = acc ++ [ptN d fr tt u nu] := if_neg h
theorem adV_leaf {d : List Nat} {D fr tt : Nat} {u nu : Int} {acc : List PtP} (h : acc.length ≠ 8) (h1 : (oneV (cutN d fr tt)).2.2 = []) : adV d D fr tt u nu acc = acc ++ [ptN d fr tt u nu] := by
  cases D with
  | zero => exact if_neg h
  | succ D => exact (if_neg h).trans (if_pos h1)
theorem adV_in {d : List Nat} {D fr tt : Nat} {u nu : Int} {acc : List PtP} (h : acc.length ≠ 8) (h1 : (oneV (cutN d fr tt)).2.2 ≠ []) : adV d (D + 1) fr tt u nu acc = adL (adV d D) (fr + (oneV (cutN d fr tt)).2.1) (acc.length : Int) (spL (bgM (oneV (cutN d fr tt)).2.2) (enM (oneV (cutN d fr tt)).2.2) ((cutN d (fr + (oneV (cutN d fr tt)).2.1) tt).length : Int) (lns (cutN d (fr + (oneV (cutN d fr tt)).2.1) tt))) 0 (acc ++ [ptN d fr tt u nu]) := (if_neg h).trans (if_neg h1)
theorem adL_step {F : Nat → Nat → Int → Int → List PtP → List PtP} {b : Nat} {here : Int} {l : List RngP} {k : Nat} {acc : List PtP} (h : k < l.length) : adL F b here (l.drop k) k acc = adL F b here (l.drop (k + 1)) (k + 1) (F ((nthR l k).1.toNat + b) ((nthR l k).2.toNat + b) here ((k + 1 : Nat) : Int) acc) := by
  have e : l.drop k = nthR l k :: l.drop (k + 1) := by
    rw [List.drop_eq_getElem_cons h]
    unfold nthR
    rw [List.getD_eq_getElem?_getD, List.getElem?_eq_getElem h]; rfl
  rw [e]; rfl
theorem adL_end {F : Nat → Nat → Int → Int → List PtP → List PtP} {b : Nat} {here : Int} {l : List RngP} {k : Nat} {acc : List PtP} (h : l.length ≤ k) : adL F b here (l.drop k) k acc = acc := by
  rw [List.drop_eq_nil_of_le h]; rfl
theorem oneV_at (x : List Nat) : (oneV x).2.1 ≤ x.length := by
  unfold oneV
  split
  · rename_i h
    have := (phF_all x h).2.1
    split <;> exact this
  · exact Nat.zero_le _
theorem mkC_len (t : List Nat) : (mkC t).length ≤ 20 := by
  unfold mkC
  split
  · simp
  · split
    · assumption
    · simp
theorem oneV_mark (x : List Nat) : (oneV x).2.2.length ≤ 20 := by
  unfold oneV
  split
  · split
    · simp
    · dsimp only; split
      · exact mkC_len _
      · simp
  · simp
end Go.Proofs.YtkjnhcnbbojajaaDoor
