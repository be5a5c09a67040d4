/- Some numbers are read back from their set: plain facts. -/
import Derived.Test.YtlkfmgfblfkgbaaGreatDoorYsq
import Derived.Test.YtlkfmgfblfkgbaaGreatDoorYfx
namespace Go.Proofs.YtlkfmgfblfkgbaaGreatDoor
open Go.RowKit

theorem same_up : ∀ {a b : List Int}, a.Pairwise (· < ·) → b.Pairwise (· < ·) → (∀ x, x ∈ a ↔ x ∈ b) → a = b
  | [], [], _, _, _ => rfl
  | [], y :: b, _, _, h => absurd ((h y).2 (List.mem_cons_self ..)) (by simp)
  | x :: a, [], _, _, h => absurd ((h x).1 (List.mem_cons_self ..)) (by simp)
  | x :: a, y :: b, ha, hb, h => by
    rw [List.pairwise_cons] at ha hb
    have hxy : x = y := by
      rcases List.mem_cons.1 ((h x).1 (List.mem_cons_self ..)) with e | e
      · exact e
      · rcases List.mem_cons.1 ((h y).2 (List.mem_cons_self ..)) with e' | e'
        · exact e'.symm
        · have h1 := hb.1 x e
          have h2 := ha.1 y e'
          omega
    subst hxy
    have : a = b := same_up ha.2 hb.2 fun z => by
      constructor
      · intro hz
        have hlt := ha.1 z hz
        rcases List.mem_cons.1 ((h z).1 (List.mem_cons_of_mem _ hz)) with e | e
        · omega
        · exact e
      · intro hz
        have hlt := hb.1 z hz
        rcases List.mem_cons.1 ((h z).2 (List.mem_cons_of_mem _ hz)) with e | e
        · omega
        · exact e
    rw [this]
/-- A range of a row has the number. -/
def cvY (r : List YgP) (n : Int) : Prop := ∃ p ∈ r, p.1 ≤ n ∧ n ≤ p.2
def okR (r : List YgP) : Prop := ∀ p ∈ r, 1 ≤ p.1 ∧ p.1 ≤ p.2
theorem mem_set_last {r : List YgP} (h : 0 < r.length) (q : YgP) : ∀ p, p ∈ r.set (r.length - 1) q ↔ p ∈ r.take (r.length - 1) ∨ p = q := by
  intro p
  have e : r.set (r.length - 1) q = r.take (r.length - 1) ++ [q] := by
    apply List.ext_getElem
    · simp; omega
    · intro i h1 h2
      rw [List.getElem_set]
      split
      · rename_i he
        rw [List.getElem_append_right (by simp; omega)]
        simp
      · rename_i he
        rw [List.length_set] at h1
        rw [List.getElem_append_left (by simp; omega)]
        simp
  rw [e]; simp
theorem mem_last {r : List YgP} (h : 0 < r.length) : ∀ p, p ∈ r ↔ p ∈ r.take (r.length - 1) ∨ p = nthY r (r.length - 1) := by
  intro p
  have e : r = r.take (r.length - 1) ++ [nthY r (r.length - 1)] := by
    have := take_snocY r (r.length - 1) (by omega)
    rw [← this, show r.length - 1 + 1 = r.length by omega, List.take_length]
  constructor
  · intro hp
    rw [e] at hp
    simpa using hp
  · intro hp
    rw [e]
    simpa using hp
theorem stY_cv {r : List YgP} {x : Int} (ho : okR r) (hx : 1 ≤ x) : okR (stY r x) ∧ ∀ n, cvY (stY r x) n ↔ cvY r n ∨ n = x := by
  unfold stY
  split
  · rename_i hc
    obtain ⟨h0, hl⟩ := hc
    have hmem := mem_last h0
    have hset := mem_set_last h0 ((nthY r (r.length - 1)).1, x)
    have hlast := ho (nthY r (r.length - 1)) ((hmem _).2 (.inr rfl))
    generalize nthY r (r.length - 1) = q at *
    refine ⟨fun p hp => ?_, fun n => ?_⟩
    · rcases (hset p).1 hp with h | rfl
      · exact ho p ((hmem p).2 (.inl h))
      · exact ⟨hlast.1, by show q.1 ≤ x; omega⟩
    · constructor
      · rintro ⟨p, hp, h1, h2⟩
        rcases (hset p).1 hp with h | rfl
        · exact .inl ⟨p, (hmem p).2 (.inl h), h1, h2⟩
        · simp only at h1 h2
          by_cases hn : n = x
          · exact .inr hn
          · exact .inl ⟨q, (hmem q).2 (.inr rfl), h1, by omega⟩
      · rintro (⟨p, hp, h1, h2⟩ | rfl)
        · rcases (hmem p).1 hp with h | rfl
          · exact ⟨p, (hset p).2 (.inl h), h1, h2⟩
          · exact ⟨(p.1, x), (hset _).2 (.inr rfl), h1, by show n ≤ x; omega⟩
        · exact ⟨(q.1, n), (hset _).2 (.inr rfl), by show q.1 ≤ n; omega, Int.le_refl _⟩
  · refine ⟨fun p hp => ?_, fun n => ?_⟩
    · rcases List.mem_append.1 hp with h | h
      · exact ho p h
      · rw [List.mem_singleton] at h; subst h; exact ⟨hx, Int.le_refl _⟩
    · constructor
      · rintro ⟨p, hp, h1, h2⟩
        rcases List.mem_append.1 hp with h | h
        · exact .inl ⟨p, h, h1, h2⟩
        · rw [List.mem_singleton] at h; subst h
          simp only at h1 h2
          exact .inr (by omega)
      · rintro (⟨p, hp, h1, h2⟩ | rfl)
        · exact ⟨p, List.mem_append_left _ hp, h1, h2⟩
        · exact ⟨(n, n), List.mem_append_right _ (List.mem_singleton.2 rfl), Int.le_refl _, Int.le_refl _⟩
theorem rwY_cv {l : List Int} : ∀ {k : Nat}, k ≤ l.length → (∀ i, i < k → upY l i = true) → okR (rwY l k) ∧ ∀ n, cvY (rwY l k) n ↔ n ∈ l.take k
  | 0, _, _ => ⟨fun p hp => (by cases hp), fun n => ⟨fun ⟨p, hp, _⟩ => (by cases hp), fun h => by simp at h⟩⟩
  | k + 1, hk, h => by
    obtain ⟨h1, h2⟩ := rwY_cv (k := k) (by omega) fun i hi => h i (by omega)
    have hb := upY_b (h k (by omega))
    obtain ⟨h3, h4⟩ := stY_cv (x := nthI l k) h1 hb.1
    refine ⟨h3, fun n => ?_⟩
    rw [show rwY l (k + 1) = stY (rwY l k) (nthI l k) from rfl, h4 n, h2 n, take_snocI l k (by omega), List.mem_append, List.mem_singleton]
theorem in_cv {r : List YgP} (ho : okR r) {n most : Int} : inY r n most = true ↔ cvY r n := by
  unfold inY
  rw [List.any_eq_true]
  constructor
  · rintro ⟨p, hp, h⟩
    have hb := ho p hp
    have := of_decide_eq_true h
    rw [show edY p.1 most = p.1 from if_neg (by omega), show edY p.2 most = p.2 from if_neg (by omega), show mnY p.1 p.2 = p.1 from if_neg (by omega)] at this
    refine ⟨p, hp, this.1, ?_⟩
    have h2 := this.2
    unfold mxY at h2
    split at h2 <;> omega
  · rintro ⟨p, hp, h1, h2⟩
    have hb := ho p hp
    refine ⟨p, hp, decide_eq_true ?_⟩
    rw [show edY p.1 most = p.1 from if_neg (by omega), show edY p.2 most = p.2 from if_neg (by omega), show mnY p.1 p.2 = p.1 from if_neg (by omega)]
    refine ⟨h1, ?_⟩
    unfold mxY
    split <;> omega
theorem ri_up {l : List Int} (h : riY l = true) : l.Pairwise (· < ·) := by
  rw [List.pairwise_iff_getElem]
  have step : ∀ i, i + 1 < l.length → nthI l i < nthI l (i + 1) := fun i hi => by
    have := riY_up h (i := i + 1) hi
    unfold upY at this
    have h2 := (Bool.and_eq_true_iff.1 this).2
    simpa using h2
  have all : ∀ d i, i + d + 1 < l.length → nthI l i < nthI l (i + d + 1) := by
    intro d
    induction d with
    | zero => exact fun i hi => step i hi
    | succ d ih => exact fun i hi => Int.lt_trans (ih i (by omega)) (step (i + d + 1) hi)
  intro i j hi hj hij
  have := all (j - i - 1) i (by omega)
  rw [show i + (j - i - 1) + 1 = j by omega, nthI_get hi, nthI_get hj] at this
  exact this
/-- SOME NUMBERS ARE READ BACK FROM THEIR SET. -/
theorem so_back {l : List Int} (h : (soV l).1 = 0) : exV (soV l).2 999 = (0, l) := by
  have hs : 1 ≤ l.length ∧ l.length ≤ 60 ∧ riY l = true ∧ (rwY l l.length).length ≤ 8 ∧ soV l = (0, rwY l l.length) := by
    unfold soV at h ⊢
    by_cases h1 : 1 ≤ l.length ∧ l.length ≤ 60
    · rw [if_pos h1] at h ⊢
      by_cases h2 : riY l = true
      · rw [if_pos h2] at h ⊢
        by_cases h3 : (rwY l l.length).length ≤ 8
        · rw [if_pos h3]; exact ⟨h1.1, h1.2, h2, h3, rfl⟩
        · rw [if_neg h3] at h; cases h
      · rw [if_neg h2] at h; cases h
    · rw [if_neg h1] at h; cases h
  obtain ⟨h1, h60, hri, h8, he⟩ := hs
  rw [he]
  have hup : ∀ i, i < l.length → upY l i = true := fun i hi => riY_up hri hi
  obtain ⟨hok, hcv⟩ := rwY_cv (Nat.le_refl l.length) hup
  rw [List.take_length] at hcv
  have hA := rwY_ok hup
  have hpos := (rwY_last l l.length (by omega)).1
  have hf : rfV (rwY l l.length) = 0 := rfV_ok ⟨hpos, h8⟩ hA
  unfold exV
  rw [if_pos hf, if_pos (by rfl)]
  congr 1
  refine same_up (xsY_rise _ _ _) (ri_up hri) fun x => ?_
  rw [mem_xsY, in_cv hok, hcv]
  constructor
  · exact fun h => h.2
  · intro hx
    obtain ⟨i, hi, rfl⟩ := List.getElem_of_mem hx
    have := upY_b (hup i hi)
    rw [nthI_get hi] at this
    refine ⟨?_, hx⟩
    have e : ((999 : Int).toNat : Int) = 999 := rfl
    omega
end Go.Proofs.YtlkfmgfblfkgbaaGreatDoor
