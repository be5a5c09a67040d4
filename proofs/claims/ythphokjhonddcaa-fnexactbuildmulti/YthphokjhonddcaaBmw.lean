/- A slice of slices of bytes that came in: what the row tells of it gives its cells; no program in it. -/
import Derived.Test.YthphokjhonddcaaBmv
import Derived.ChangeArms
import Derived.DataReads
namespace Go.Proofs.Ythphokjhonddcaa
open Go.RowKit Go.ChangeShapes

theorem choose_bs {α : Type} (d : α) (R : Nat → α → Prop) : ∀ n : Nat, (∀ i, i < n → ∃ m, R i m) → ∃ l : List α, l.length = n ∧ ∀ i, i < n → R i (l.getD i d)
  | 0, _ => ⟨[], rfl, fun i hi => absurd hi (Nat.not_lt_zero _)⟩
  | n + 1, h => by
    obtain ⟨l, hl, hr⟩ := choose_bs d R n (fun i hi => h i (by omega))
    obtain ⟨m, hm⟩ := h n (by omega)
    refine ⟨l ++ [m], by simp [hl], fun i hi => ?_⟩
    by_cases hin : i < n
    · rw [List.getD_eq_getElem?_getD, List.getElem?_append_left (by omega), ← List.getD_eq_getElem?_getD]; exact hr i hin
    · obtain rfl : i = n := by omega
      rw [List.getD_eq_getElem?_getD, List.getElem?_append_right (by omega), hl]; simpa using hm
theorem bmV_le (mk : List Nat) (ls : List (List Nat)) : (bmV mk ls).2.length ≤ 1048576 := by
  unfold bmV
  split
  · simp
  · split
    · simp
    · split
      · simp
      · split
        · simp
        · show (bmA mk ls).length ≤ _
          omega
theorem GrN.form2 {w : World} {B : Nat} {v : Value} {l : List Nat} (h : GrN w B v l) : ∃ a cap, v = .slice a l.length cap ∧ Rd w a l ∧ l.length ≤ cap := by
  rcases h with ⟨rfl, rfl⟩ | h
  · exact ⟨none, 0, rfl, .inl rfl, Nat.le_refl _⟩
  · obtain ⟨g, cap, e, hr, hc⟩ := h.rd
    exact ⟨_, cap, e, hr, hc⟩
theorem RdLs.sum {w : World} {l : List SlP} {ls : List (List Nat)} (h : RdLs w l ls) (k : Nat) : ((l.take k).map fun s => s.2.1).sum = sumB ls k := by
  have e : (l.map fun s => s.2.1) = ls.map List.length := by
    refine List.ext_getElem (by simp [h.1]) (fun i h1 h2 => ?_)
    have hi : i < l.length := by simpa using h1
    have := (h.2 i hi).1
    rw [nthL_get hi, List.getD_eq_getElem?_getD, List.getElem?_eq_getElem (by rw [← h.1]; exact hi)] at this
    simpa using this
  unfold sumB
  rw [List.map_take, List.map_take, e]
theorem addB_zero (a : Addr) : a.add 0 = a := by cases a; simp [Addr.add]

theorem open_bss {H : Type} {enc : TypeId × Value → H} {P : Program} {w : World} {base : Nat} {held : Bool} {fuel : Nat} {t e u : TypeId} {a0 : Option Addr} {len0 cap0 : Nat} {x : DataW H × List MemPlace}
    (ht : P.underlying t = some (.slice e)) (he : P.underlying e = some (.slice u)) (hu : P.underlying u = some (.int .u8)) (ce : P.cellsOf e = 1) (cu : P.cellsOf u = 1)
    (h : DataW.trod enc P w base (fun _ => true) held fuel t [.slice a0 len0 cap0] = some x) : ∃ (l : List SlP) (ls : List (List Nat)), IsBs w a0 len0 cap0 l ls := by
  rcases DataW.trod_slice ht h with ⟨hcs, _⟩ | ⟨a, len, cap, elems, rest, n, _, hcs, _, _, hl, hm, hlen, hel, _, _⟩
  · simp at hcs
    obtain ⟨rfl, rfl, rfl⟩ := hcs
    exact ⟨[], [], rfl, by omega, by decide, .inl rfl, RdLs.nil _, fun k hk => absurd hk (Nat.not_lt_zero _)⟩
  · simp at hcs
    obtain ⟨rfl, rfl, rfl⟩ := hcs
    have hx : ∀ i, i < len0 → ∃ m : SlP × List Nat, w.cell? (a.add i) = some (slV m.1) ∧ m.1.2.1 = m.2.length ∧ m.1.2.1 ≤ m.1.2.2 ∧ Rd w m.1.1 m.2 ∧ IsB m.2 ∧ m.2.length ≤ maxLen := by
      intro i hi
      have hb := hel i hi
      rw [List.getElem?_eq_getElem (by omega), Option.bind_eq_some_iff] at hb
      obtain ⟨cs', hc, hy⟩ := hb
      rw [ce, Nat.mul_one] at hc
      obtain ⟨-, hcl2, hcell⟩ := World.cells?_some hc
      have k0 := hcell 0 (by omega)
      rw [addB_zero] at k0
      rcases open_ints he hu cu hy with ⟨hcs, _⟩ | ⟨a', len', cap', zs, hcs, _, hl', hm', hz, _, hcell', hwz⟩
      · subst hcs
        exact ⟨((none, 0, 0), []), k0, rfl, Nat.le_refl _, .inl rfl, fun b hb => by simp at hb, by simp⟩
      · subst hcs
        have hrow : IsRow .u8 w (some a') len' cap' zs := .inr ⟨_, rfl, hl', hm', by simpa using hz, hcell', hwz⟩
        obtain ⟨d, d1, d2, d3, d4⟩ := hrow.rd
        exact ⟨((some a', len', cap'), d), k0, d1.symm, hl', d3, d2, by rw [d1]; exact d4⟩
    obtain ⟨ps, hps, hR⟩ := choose_bs (((none, 0, 0), []) : SlP × List Nat) _ len0 hx
    have hn1 : ∀ i, i < len0 → nthL (ps.map (·.1)) i = (ps.getD i ((none, 0, 0), [])).1 := fun i hi => by
      unfold nthL
      rw [List.getD_eq_getElem?_getD, List.getD_eq_getElem?_getD, List.getElem?_map, List.getElem?_eq_getElem (by omega)]; rfl
    have hn2 : ∀ i, i < len0 → (ps.map (·.2)).getD i [] = (ps.getD i ((none, 0, 0), [])).2 := fun i hi => by
      rw [List.getD_eq_getElem?_getD, List.getD_eq_getElem?_getD, List.getElem?_map, List.getElem?_eq_getElem (by omega)]; rfl
    refine ⟨ps.map (·.1), ps.map (·.2), by simp [hps], hl, hm, ?_, ⟨by simp, fun i hi => ?_⟩, fun k hk => ?_⟩
    · by_cases hz : len0 = 0
      · left; subst hz; rw [List.length_eq_zero_iff.1 hps]; rfl
      · right
        obtain ⟨b, off, spot⟩ := a
        have hspot : spot = none := by
          have := World.cell?_spot (hR 0 (by omega)).1
          simpa [Addr.add] using this
        subst hspot
        refine ⟨b, off, rfl, World.block_lt_of_cell? w _ (hR 0 (by omega)).1, fun i hi => ?_⟩
        have hi' : i < len0 := by simpa [hps] using hi
        rw [hn1 i hi']
        have := (hR i hi').1
        rw [Go.WideShapes.add_plain] at this
        exact this
    · have hi' : i < len0 := by simpa [hps] using hi
      rw [hn1 i hi', hn2 i hi']
      exact ⟨(hR i hi').2.1, (hR i hi').2.2.1, (hR i hi').2.2.2.1⟩
    · rw [hn2 k hk]
      exact (hR k hk).2.2.2.2
end Go.Proofs.Ythphokjhonddcaa
