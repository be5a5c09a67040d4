/- SliceList, the program's and the model's: by one plain function · The laws' look at two slices of numbers: whether they are the same; at most 1048576 numbers · The draw of a text and a piece of it, once more, with a word on texts of nothing; and a choice that the laws make. -/
import Derived.Test.YtfbjodbihenmjaaGreatDoorLowToChs2
import Derived.Test.YtfbjodbihenmjaaGreatDoorJfqToInf
import Derived.Test.YtfbjodbihenmjaaGreatDoorAppToChs0
import Derived.Test.YtfbjodbihenmjaaGreatDoorDrw3aToChn
import Derived.Laws.AppendOwnNone
namespace Go.Proofs.YtfbjodbihenmjaaGreatDoor
open Go.RowKit

/-- What SliceList answers. -/
def lsV (d : List Int) (f n : Int) : Int × List Int := if 60 < d.length then (2, []) else if (1 ≤ f ∧ f ≤ 999) ∧ (1 ≤ n ∧ n ≤ 999) then (0, (d.take (max f n).toNat).drop ((min f n).toNat - 1)) else (3, [])
theorem lsV_le (d : List Int) (f n : Int) : (lsV d f n).2.length ≤ 60 := by
  unfold lsV
  split
  · simp
  · split
    · rw [List.length_drop, List.length_take]; omega
    · simp
theorem isBetween_s (c a b : Int) (w : World) : Calls Tryz.prog 31 #[.int .i64 c, .int .i64 a, .int .i64 b] w fun e w' => e = .returned (.bool (decide (a ≤ c ∧ c ≤ b))) ∧ w = w' := by
  by_cases h1 : a ≤ c
  · by_cases h2 : c ≤ b
    · rw [decide_eq_true (⟨h1, h2⟩ : a ≤ c ∧ c ≤ b)]
      go_enter Tryz.func31, Tryz.ntmps31
      go_wp2
      go_ret
      exact ⟨rfl, rfl⟩
    · rw [decide_eq_false (fun h : a ≤ c ∧ c ≤ b => h2 h.2)]
      go_enter Tryz.func31, Tryz.ntmps31
      go_wp2
      go_ret
      exact ⟨rfl, rfl⟩
  · rw [decide_eq_false (fun h : a ≤ c ∧ c ≤ b => h1 h.1)]
    go_enter Tryz.func31, Tryz.ntmps31
    go_wp2
    go_ret
    exact ⟨rfl, rfl⟩
theorem l1Min_s (x y : Int) (w : World) : Calls Tryz.prog 44 #[.int .i64 x, .int .i64 y] w fun e w' => e = .returned (.int .i64 (min x y)) ∧ w = w' := by
  by_cases h : x < y
  · rw [show min x y = x by omega]
    go_enter Tryz.func44, Tryz.ntmps44
    go_wp2
    go_ret
    exact ⟨rfl, rfl⟩
  · rw [show min x y = y by omega]
    go_enter Tryz.func44, Tryz.ntmps44
    go_wp2
    go_ret
    exact ⟨rfl, rfl⟩
theorem l1Max_s (x y : Int) (w : World) : Calls Tryz.prog 45 #[.int .i64 x, .int .i64 y] w fun e w' => e = .returned (.int .i64 (max x y)) ∧ w = w' := by
  by_cases h : y < x
  · rw [show max x y = x by omega]
    go_enter Tryz.func45, Tryz.ntmps45
    go_wp2
    go_ret
    exact ⟨rfl, rfl⟩
  · rw [show max x y = y by omega]
    go_enter Tryz.func45, Tryz.ntmps45
    go_wp2
    go_ret
    exact ⟨rfl, rfl⟩

theorem OwnI.lowerL {w : World} {B C : Nat} {v : Value} {l : List Int} (h : OwnI w B v l) (hC : C ≤ B) : OwnI w C v l := by
  refine ⟨h.1, ?_⟩
  rcases h.2 with ⟨h1, h2⟩ | ⟨g, cap, cur, h3, h4, h5, h6⟩
  · exact .inl ⟨h1, h2⟩
  · exact .inr ⟨g, cap, cur, h3, Nat.le_trans hC h4, h5, h6⟩
theorem OwnI.keptL {w : World} {B : Nat} {v : Value} {l : List Int} (h : OwnI w B v l) (p : Addr) (hp : p.block < B) (u : Value) : OwnI (w.setCell p u) B v l := ownsRow_setCell_below h hp u
/-- An answer with numbers. -/
def NumEndL (r : Int × List Int) (w : World) (e : Ending) (w' : World) : Prop := ∃ v, e = .returned (.agg #[.int .i64 r.1, v]) ∧ OwnI w' w.heap.size v r.2 ∧ Below w.heap.size w w'
theorem NumEndL.code {c : Int} {w w1 : World} (hbel : Below w.heap.size w w1) (x y : Value) : NumEndL (c, []) w (.returned (.agg #[.int .i64 c, .slice none 0 0])) ((w1.setCell ⟨w.heap.size, 0, none⟩ x).setCell ⟨w.heap.size, 1, none⟩ y) :=
  ⟨_, rfl, OwnI.nil _ _, (hbel.setCell (by simp) _).setCell (by simp) _⟩
theorem NumEndL.some {c : Int} {w w1 : World} {v : Value} {l : List Int} (hbel : Below w.heap.size w w1) (hown : OwnI w1 (w.heap.size + 1) v l) (x y : Value) : NumEndL (c, l) w (.returned (.agg #[.int .i64 c, v])) ((w1.setCell ⟨w.heap.size, 0, none⟩ x).setCell ⟨w.heap.size, 1, none⟩ y) :=
  ⟨_, rfl, ((hown.keptL _ (by simp) _).keptL _ (by simp) _).lowerL (by omega), (hbel.setCell (by simp) _).setCell (by simp) _⟩
theorem rdI_take {w : World} {a : Option Addr} {l : List Int} (h : RdI w a l) (k : Nat) : RdI w a (l.take k) := by
  rcases h with h | ⟨b, off, h1, h2, h3⟩
  · subst h; exact .inl (by simp)
  · refine .inr ⟨b, off, h1, h2, fun i hi => ?_⟩
    rw [List.length_take] at hi
    have e : nthI (l.take k) i = nthI l i := by
      unfold nthI
      rw [List.getD_eq_getElem?_getD, List.getD_eq_getElem?_getD, List.getElem?_take, if_pos (by omega)]
    rw [e]
    exact h3 i (by omega)
/-- The cells of a slice of what is read. -/
theorem rdI_cells {w : World} {ad : Addr} {l : List Int} {m : Nat} (h : RdI w (Option.some ad) l) (hm : l.length = m) : ∀ j, j < m → w.cell? (ad.add j) = Option.some (.int .i64 (nthI l j)) := by
  intro j hj
  obtain ⟨b, off, e, _, hc⟩ := h.at_ (by omega)
  cases e
  rw [Go.WideShapes.add_plain]
  exact hc j (by omega)
theorem rdI_part {w : World} {b m : Nat} {d : List Int} (hr : RdI w (Option.some ⟨b, 0, none⟩) d) (hl : d.length = m) (A E : Nat) (hA : A ≤ E) (hE : E ≤ m) :
    ((d.take E).drop A).length = E - A ∧ RdI w (Option.some ⟨b, A, none⟩) ((d.take E).drop A) := by
  refine ⟨by rw [List.length_drop, List.length_take]; omega, ?_⟩
  have h := (rdI_take hr E).drop A
  rw [Nat.zero_add] at h; exact h

set_option maxHeartbeats 1600000 in
set_option maxRecDepth 100000 in
theorem sliceList_in (b m : Nat) (d : List Int) (f n : Int) (w : World) (hr : RdI w (Option.some ⟨b, 0, none⟩) d) (hl : d.length = m) {cp : Nat} (hcp : m ≤ cp) (hm : m ≤ 60) (hf : 1 ≤ f ∧ f ≤ 999) (hn : 1 ≤ n ∧ n ≤ 999) :
    Calls Tryz.prog 10 #[.slice (Option.some ⟨b, 0, none⟩) m cp, .int .i64 f, .int .i64 n] w fun e w' => NumEndL (lsV d f n) w e w' := by
  have HV : Hid (lsV d f n = (0, (d.take (min (max f n).toNat m)).drop (min ((min f n).toNat - 1) m))) := by
    show lsV d f n = _
    unfold lsV
    rw [if_neg (by omega), if_pos ⟨hf, hn⟩]
    congr 1
    by_cases hx : (max f n).toNat ≤ m
    · rw [show min (max f n).toNat m = (max f n).toNat by omega, show min ((min f n).toNat - 1) m = (min f n).toNat - 1 by omega]
    · rw [show min (max f n).toNat m = m by omega, List.take_of_length_le (by omega : d.length ≤ (max f n).toNat), List.take_of_length_le (by omega : d.length ≤ m)]
      by_cases hy : (min f n).toNat - 1 ≤ m
      · rw [show min ((min f n).toNat - 1) m = (min f n).toNat - 1 by omega]
      · rw [show min ((min f n).toNat - 1) m = m by omega, List.drop_of_length_le (by omega), List.drop_of_length_le (by omega)]
  obtain ⟨F, rfl⟩ : ∃ F : Nat, f = (F : Int) + 1 := ⟨(f - 1).toNat, by omega⟩
  obtain ⟨N, rfl⟩ : ∃ N : Nat, n = (N : Int) + 1 := ⟨(n - 1).toNat, by omega⟩
  obtain ⟨A, hA⟩ : ∃ A : Nat, A = min ((min ((F : Int) + 1) ((N : Int) + 1)).toNat - 1) m := ⟨_, rfl⟩
  obtain ⟨E, hE⟩ : ∃ E : Nat, E = min (max ((F : Int) + 1) ((N : Int) + 1)).toNat m := ⟨_, rfl⟩
  rw [← hA, ← hE] at HV
  have hAE : A ≤ E := by omega
  have hEm : E ≤ m := by omega
  have hAi : (A : Int) ≤ (E : Int) := by omega
  have hEi : (E : Int) ≤ (m : Int) := by omega
  have h6 : ¬ (60 : Int) < (m : Int) := by omega
  have hF9 : (F : Int) ≤ 998 := by omega
  have hN9 : (N : Int) ≤ 998 := by omega
  have hF0 : (0 : Int) ≤ (F : Int) := by omega
  have hN0 : (0 : Int) ≤ (N : Int) := by omega
  have hmn : ∀ (ts : Array TypeId) (t : TypeId) (W : World), (Builtin.min_ ts t #[.int .i64 (F : Int), .int .i64 (N : Int), .int .i64 (m : Int)]).run Tryz.prog W = .ok (.int .i64 (A : Int)) W := fun ts t W => by
    rw [show (A : Int) = if (m : Int) < (if (N : Int) < (F : Int) then (N : Int) else (F : Int)) then (m : Int) else (if (N : Int) < (F : Int) then (N : Int) else (F : Int)) by split <;> split at * <;> omega]
    simp [Builtin.min_, Builtin.min2]
  have hmx : ∀ (ts : Array TypeId) (t : TypeId) (W : World), (Builtin.max_ ts t #[.int .i64 ((F : Int) + 1), .int .i64 ((N : Int) + 1)]).run Tryz.prog W = .ok (.int .i64 (max ((F : Int) + 1) ((N : Int) + 1))) W := fun ts t W => by
    rw [show max ((F : Int) + 1) ((N : Int) + 1) = if (F : Int) + 1 < (N : Int) + 1 then (N : Int) + 1 else (F : Int) + 1 by split <;> omega]
    simp [Builtin.max_, Builtin.max2]
  have hme : ∀ (ts : Array TypeId) (t : TypeId) (W : World), (Builtin.min_ ts t #[.int .i64 (max ((F : Int) + 1) ((N : Int) + 1)), .int .i64 (m : Int)]).run Tryz.prog W = .ok (.int .i64 (E : Int)) W := fun ts t W => by
    rw [show (E : Int) = if (m : Int) < max ((F : Int) + 1) ((N : Int) + 1) then (m : Int) else max ((F : Int) + 1) ((N : Int) + 1) by split <;> omega]
    simp [Builtin.min_, Builtin.min2]
  have hb0 : Below w.heap.size w (w.alloc (.cells #[.int .i64 0, .slice none 0 0] 33)) := (Below.refl _ _).alloc (Nat.le_refl _) _
  have hr0 := hr.below hb0
  have hWs : (w.alloc (.cells #[.int .i64 0, .slice none 0 0] 33)).heap.size = w.heap.size + 1 := by simp
  obtain ⟨hpl, hpr⟩ := rdI_part hr0 hl A E hAE hEm
  clear hA hE
  go_enter Tryz.func10, Tryz.ntmps10
  go_wp2_with fail
  refine (isBetween_s ((F : Int) + 1) 1 999 _).mono ?_
  rintro e w1 ⟨rfl, rfl⟩
  rw [decide_eq_true hf]
  go_wp2_with fail
  refine (isBetween_s ((N : Int) + 1) 1 999 _).mono ?_
  rintro e w1 ⟨rfl, rfl⟩
  rw [decide_eq_true hn]
  generalize hW : w.alloc (.cells #[.int .i64 0, .slice none 0 0] 33) = W at *
  clear hr hr0 hl hf hn
  generalize hMX : max ((F : Int) + 1) ((N : Int) + 1) = X at *
  have hown0 : OwnI W (w.heap.size + 1) (.slice none 0 0) [] := OwnI.nil _ _
  have hEc : (E : Int) ≤ (cp : Int) := by omega
  by_cases hAm : cp = A
  · have hEA : E = cp := by omega
    have hmE : m = cp := by omega
    subst hmE
    subst hAm
    subst hEA
    have hnil : (d.take E).drop E = [] := List.length_eq_zero_iff.1 (by omega)
    rw [hnil] at HV
    clear hpr hpl hnil
    go_wp2_with (at_builtin; refine wpList_appI rfl _ _ rfl (w.heap.size + 1) _ [] rfl hown0 ⟨b, 0, none⟩ 0 0 [] rfl rfl (fun j hj => by omega) (by simp) (by omega) ?_; intro v' w1 hown1 hb1; simp only [List.nil_append] at hown1; obtain ⟨av, cv, ev, _, _⟩ := hown1.form; simp only [List.length_nil] at ev; subst ev; obtain ⟨hcw, hcw1, hfw, hfw1⟩ := res_block hW hb1; have HB : Below w.heap.size w w1 := hb0.trans (hb1.mono (by omega)); obtain ⟨hk0, hk1⟩ := res_cells hcw hcw1 (.int .i64 0) (.slice av 0 cv))
    refine bodyPost_ret (v := .agg #[.int .i64 0, .slice av 0 cv]) (by simp [results, Tryz.results10, go_sem, hk0, hk1]) rfl ?_
    rw [HV.out]
    exact NumEndL.some HB hown1 _ _
  · go_wp2_with (at_builtin; refine wpList_appI rfl _ _ rfl (w.heap.size + 1) _ [] rfl hown0 ⟨b, A, none⟩ (E - A) (cp - A) ((d.take E).drop A) rfl hpl (rdI_cells hpr hpl) (by simp only [List.length_nil]; omega) (by omega) ?_; intro v' w1 hown1 hb1; simp only [List.nil_append] at hown1; obtain ⟨av, cv, ev, _, _⟩ := hown1.form; rw [hpl] at ev; subst ev; obtain ⟨hcw, hcw1, hfw, hfw1⟩ := res_block hW hb1; have HB : Below w.heap.size w w1 := hb0.trans (hb1.mono (by omega)); obtain ⟨hk0, hk1⟩ := res_cells hcw hcw1 (.int .i64 0) (.slice av (E - A) cv))
    refine bodyPost_ret (v := .agg #[.int .i64 0, .slice av (E - A) cv]) (by simp [results, Tryz.results10, go_sem, hk0, hk1]) rfl ?_
    rw [HV.out]
    exact NumEndL.some HB hown1 _ _

set_option maxHeartbeats 1600000 in
set_option maxRecDepth 100000 in
theorem sliceList_any (b m : Nat) (d : List Int) (f n : Int) (w : World) (hr : RdI w (Option.some ⟨b, 0, none⟩) d) (hl : d.length = m) {cp : Nat} (hcp : m ≤ cp) :
    Calls Tryz.prog 10 #[.slice (Option.some ⟨b, 0, none⟩) m cp, .int .i64 f, .int .i64 n] w fun e w' => NumEndL (lsV d f n) w e w' := by
  by_cases h6 : 60 < m
  · have h6' : (60 : Int) < (m : Int) := by omega
    have HV : Hid (lsV d f n = (2, [])) := by show lsV d f n = _; unfold lsV; rw [if_pos (by omega)]
    go_enter Tryz.func10, Tryz.ntmps10
    go_wp2
    refine bodyPost_ret (v := .agg #[.int .i64 2, .slice none 0 0]) (by simp [results, Tryz.results10, go_sem]) rfl ?_
    rw [HV.out]
    exact ⟨_, rfl, OwnI.nil _ _, (Below.refl _ _).alloc (Nat.le_refl _) _⟩
  · by_cases hf : 1 ≤ f ∧ f ≤ 999
    · by_cases hn : 1 ≤ n ∧ n ≤ 999
      · exact sliceList_in b m d f n w hr hl hcp (by omega) hf hn
      · have h6' : ¬ (60 : Int) < (m : Int) := by omega
        have HV : Hid (lsV d f n = (3, [])) := by show lsV d f n = _; unfold lsV; rw [if_neg (by omega), if_neg (fun h => hn h.2)]
        go_enter Tryz.func10, Tryz.ntmps10
        go_wp2_with fail
        refine (isBetween_s f 1 999 _).mono ?_
        rintro e w1 ⟨rfl, rfl⟩
        rw [decide_eq_true hf]
        go_wp2_with fail
        refine (isBetween_s n 1 999 _).mono ?_
        rintro e w1 ⟨rfl, rfl⟩
        rw [decide_eq_false hn]
        clear hf hn
        go_wp2
        refine bodyPost_ret (v := .agg #[.int .i64 3, .slice none 0 0]) (by simp [results, Tryz.results10, go_sem]) rfl ?_
        rw [HV.out]
        exact ⟨_, rfl, OwnI.nil _ _, (Below.refl _ _).alloc (Nat.le_refl _) _⟩
    · have h6' : ¬ (60 : Int) < (m : Int) := by omega
      have HV : Hid (lsV d f n = (3, [])) := by show lsV d f n = _; unfold lsV; rw [if_neg (by omega), if_neg (fun h => hf h.1)]
      go_enter Tryz.func10, Tryz.ntmps10
      go_wp2_with fail
      refine (isBetween_s f 1 999 _).mono ?_
      rintro e w1 ⟨rfl, rfl⟩
      rw [decide_eq_false hf]
      clear hf
      go_wp2
      refine bodyPost_ret (v := .agg #[.int .i64 3, .slice none 0 0]) (by simp [results, Tryz.results10, go_sem]) rfl ?_
      rw [HV.out]
      exact ⟨_, rfl, OwnI.nil _ _, (Below.refl _ _).alloc (Nat.le_refl _) _⟩

theorem l1In_l (v a b : Int) (w : World) : Calls Tryz.prog 32 #[.int .i64 v, .int .i64 a, .int .i64 b] w fun e w' => e = .returned (.bool (decide (a ≤ v ∧ v ≤ b))) ∧ w = w' := by
  by_cases h1 : a ≤ v
  · by_cases h2 : v ≤ b
    · rw [decide_eq_true (⟨h1, h2⟩ : a ≤ v ∧ v ≤ b)]
      go_enter Tryz.func32, Tryz.ntmps32
      go_wp2
      go_ret
      exact ⟨rfl, rfl⟩
    · rw [decide_eq_false (fun h : a ≤ v ∧ v ≤ b => h2 h.2)]
      go_enter Tryz.func32, Tryz.ntmps32
      go_wp2
      go_ret
      exact ⟨rfl, rfl⟩
  · rw [decide_eq_false (fun h : a ≤ v ∧ v ≤ b => h1 h.1)]
    go_enter Tryz.func32, Tryz.ntmps32
    go_wp2
    go_ret
    exact ⟨rfl, rfl⟩

/-- What the model slices. -/
def slI (d : List Int) (f n : Int) : List Int := (d.take (max f n).toNat).drop ((min f n).toNat - 1)
set_option maxHeartbeats 1600000 in
set_option maxRecDepth 100000 in
theorem l13Slice_any (b m : Nat) (d : List Int) (f n : Int) (w : World) (hr : RdI w (Option.some ⟨b, 0, none⟩) d) (hl : d.length = m) {cp : Nat} (hcp : m ≤ cp) (hm : m ≤ 60) (hf : 1 ≤ f ∧ f ≤ 999) (hn : 1 ≤ n ∧ n ≤ 999) :
    Calls Tryz.prog 33 #[.slice (Option.some ⟨b, 0, none⟩) m cp, .int .i64 f, .int .i64 n] w fun e w' => ∃ v, e = .returned v ∧ OwnI w' w.heap.size v (slI d f n) ∧ Below w.heap.size w w' := by
  obtain ⟨L, hL⟩ : ∃ L : Nat, min f n = (L : Int) + 1 := ⟨(min f n - 1).toNat, by omega⟩
  obtain ⟨X, hX⟩ : ∃ X : Nat, max f n = (X : Int) + 1 := ⟨(max f n - 1).toNat, by omega⟩
  obtain ⟨E, hE⟩ : ∃ E : Nat, min ((X : Int) + 1) (m : Int) = (E : Int) := ⟨(min ((X : Int) + 1) (m : Int)).toNat, by omega⟩
  have hL9 : (L : Int) ≤ 998 := by omega
  have hEm : E ≤ m := by omega
  have HV : Hid (slI d f n = (d.take E).drop L) := by
    show slI d f n = _
    unfold slI
    rw [hL, hX, show ((L : Int) + 1).toNat - 1 = L by omega]
    by_cases hx : X + 1 ≤ m
    · rw [show ((X : Int) + 1).toNat = E by omega]
    · rw [show E = m by omega, List.take_of_length_le (by omega : d.length ≤ ((X : Int) + 1).toNat), List.take_of_length_le (by omega : d.length ≤ m)]
  have HM := l1Min_s f n
  have HX := l1Max_s f n
  rw [hL] at HM
  rw [hX] at HX
  clear hf hn
  go_enter Tryz.func33, Tryz.ntmps33
  go_wp2_with fail
  refine (HM _).mono ?_
  rintro e w1 ⟨rfl, rfl⟩
  go_wp2_with fail
  refine (HX _).mono ?_
  rintro e w1 ⟨rfl, rfl⟩
  go_wp2_with fail
  refine (l1Min_s _ _ _).mono ?_
  rintro e w1 ⟨rfl, rfl⟩
  rw [hE]
  clear HM HX hL hX hE
  by_cases hLE : E ≤ L
  · have hLE' : (E : Int) ≤ (L : Int) := by omega
    have hnil : (d.take E).drop L = [] := List.drop_of_length_le (by rw [List.length_take]; omega)
    rw [hnil] at HV
    go_wp2
    go_ret
    rw [HV.out]
    exact ⟨_, rfl, OwnI.lit w _ (Nat.le_refl _) #[] [] rfl (by simp), (Below.refl _ _).alloc (Nat.le_refl _) _⟩
  · have hLE' : ¬ (E : Int) ≤ (L : Int) := by omega
    have hLi : (L : Int) ≤ (E : Int) := by omega
    have hEi : (E : Int) ≤ (m : Int) := by omega
    have hmL : ¬ cp = L := by omega
    have hEc : (E : Int) ≤ (cp : Int) := by omega
    have hr0 := hr.below ((Below.refl w.heap.size w).alloc (Nat.le_refl _) (.cells #[] 2))
    obtain ⟨hpl, hpr⟩ := rdI_part hr0 hl L E (by omega) hEm
    have hown0 : OwnI (w.alloc (.cells #[] 2)) w.heap.size (.slice (Option.some ⟨w.heap.size, 0, none⟩) 0 0) [] := OwnI.lit w _ (Nat.le_refl _) #[] [] rfl (by simp)
    have hb0 : Below w.heap.size w (w.alloc (.cells #[] 2)) := (Below.refl _ _).alloc (Nat.le_refl _) _
    go_wp2_with (at_builtin; refine wpList_appI rfl _ _ rfl w.heap.size _ [] rfl hown0 ⟨b, L, none⟩ (E - L) (cp - L) ((d.take E).drop L) rfl hpl (rdI_cells hpr hpl) (by simp only [List.length_nil]; omega) (by simp) ?_; intro v' w1 hown1 hb1; simp only [List.nil_append] at hown1)
    go_ret
    rw [HV.out]
    exact ⟨_, rfl, hown1, hb0.trans hb1⟩
set_option maxHeartbeats 1600000 in
set_option maxRecDepth 100000 in
theorem specSliceList_any (b m : Nat) (d : List Int) (f n : Int) (w : World) (hr : RdI w (Option.some ⟨b, 0, none⟩) d) (hl : d.length = m) {cp : Nat} (hcp : m ≤ cp) :
    Calls Tryz.prog 11 #[.slice (Option.some ⟨b, 0, none⟩) m cp, .int .i64 f, .int .i64 n] w fun e w' => NumEndL (lsV d f n) w e w' := by
  by_cases h6 : 60 < m
  · have h6' : (60 : Int) < (m : Int) := by omega
    have HV : Hid (lsV d f n = (2, [])) := by show lsV d f n = _; unfold lsV; rw [if_pos (by omega)]
    go_enter Tryz.func11, Tryz.ntmps11
    go_wp2
    refine bodyPost_ret (v := .agg #[.int .i64 2, .slice none 0 0]) (by simp [results, Tryz.results11, go_sem]) rfl ?_
    rw [HV.out]
    exact ⟨_, rfl, OwnI.nil _ _, (Below.refl _ _).alloc (Nat.le_refl _) _⟩
  · by_cases hf : 1 ≤ f ∧ f ≤ 999
    · by_cases hn : 1 ≤ n ∧ n ≤ 999
      · have h6' : ¬ (60 : Int) < (m : Int) := by omega
        have HV : Hid (lsV d f n = (0, slI d f n)) := by show lsV d f n = _; unfold lsV slI; rw [if_neg (by omega), if_pos ⟨hf, hn⟩]
        have HS : Hid (∀ w, RdI w (Option.some ⟨b, 0, none⟩) d → _) := fun w hr => l13Slice_any b m d f n w hr hl hcp (by omega) hf hn
        have hb0 : Below w.heap.size w (w.alloc (.cells #[.int .i64 0, .slice none 0 0] 33)) := (Below.refl _ _).alloc (Nat.le_refl _) _
        have hr0 := hr.below hb0
        have hWs : (w.alloc (.cells #[.int .i64 0, .slice none 0 0] 33)).heap.size = w.heap.size + 1 := by simp
        go_enter Tryz.func11, Tryz.ntmps11
        go_wp2_with fail
        refine (l1In_l f 1 999 _).mono ?_
        rintro e w1 ⟨rfl, rfl⟩
        rw [decide_eq_true hf]
        go_wp2_with fail
        refine (l1In_l n 1 999 _).mono ?_
        rintro e w1 ⟨rfl, rfl⟩
        rw [decide_eq_true hn]
        generalize hW : w.alloc (.cells #[.int .i64 0, .slice none 0 0] 33) = W at *
        clear hf hn
        go_wp2_with fail
        refine (HS.out _ hr0).mono ?_
        rintro e w1 ⟨v, rfl, hown1, hb1⟩
        rw [hWs] at hown1 hb1
        obtain ⟨K, hK⟩ : ∃ K, (slI d f n).length = K := ⟨_, rfl⟩
        obtain ⟨av, cv, ev, _, _⟩ := hown1.form
        rw [hK] at ev
        subst ev
        obtain ⟨hcw, hcw1, hfw, hfw1⟩ := res_block hW hb1
        have HB : Below w.heap.size w w1 := hb0.trans (hb1.mono (by omega))
        obtain ⟨hk0, hk1⟩ := res_cells hcw hcw1 (.int .i64 0) (.slice av K cv)
        go_wp2
        refine bodyPost_ret (v := .agg #[.int .i64 0, .slice av K cv]) (by simp [results, Tryz.results11, go_sem, hk0, hk1]) rfl ?_
        rw [HV.out]
        exact NumEndL.some HB hown1 _ _
      · have h6' : ¬ (60 : Int) < (m : Int) := by omega
        have HV : Hid (lsV d f n = (3, [])) := by show lsV d f n = _; unfold lsV; rw [if_neg (by omega), if_neg (fun h => hn h.2)]
        go_enter Tryz.func11, Tryz.ntmps11
        go_wp2_with fail
        refine (l1In_l f 1 999 _).mono ?_
        rintro e w1 ⟨rfl, rfl⟩
        rw [decide_eq_true hf]
        go_wp2_with fail
        refine (l1In_l n 1 999 _).mono ?_
        rintro e w1 ⟨rfl, rfl⟩
        rw [decide_eq_false hn]
        clear hf hn
        go_wp2
        refine bodyPost_ret (v := .agg #[.int .i64 3, .slice none 0 0]) (by simp [results, Tryz.results11, go_sem]) rfl ?_
        rw [HV.out]
        exact ⟨_, rfl, OwnI.nil _ _, (Below.refl _ _).alloc (Nat.le_refl _) _⟩
    · have h6' : ¬ (60 : Int) < (m : Int) := by omega
      have HV : Hid (lsV d f n = (3, [])) := by show lsV d f n = _; unfold lsV; rw [if_neg (by omega), if_neg (fun h => hf h.1)]
      go_enter Tryz.func11, Tryz.ntmps11
      go_wp2_with fail
      refine (l1In_l f 1 999 _).mono ?_
      rintro e w1 ⟨rfl, rfl⟩
      rw [decide_eq_false hf]
      clear hf
      go_wp2
      refine bodyPost_ret (v := .agg #[.int .i64 3, .slice none 0 0]) (by simp [results, Tryz.results11, go_sem]) rfl ?_
      rw [HV.out]
      exact ⟨_, rfl, OwnI.nil _ _, (Below.refl _ _).alloc (Nat.le_refl _) _⟩


theorem lsV_both (m : Nat) (d : List Int) (f n : Int) (hl : d.length = m) : ∃ (c : Int) (l : List Int), l.length ≤ 1048576 ∧
    (∀ (b : Nat) (w : World), RdI w (Option.some ⟨b, 0, none⟩) d → Calls Tryz.prog 11 #[.slice (Option.some ⟨b, 0, none⟩) m m, .int .i64 f, .int .i64 n] w fun e w' => ∃ v, e = .returned (.agg #[.int .i64 c, v]) ∧ OwnI w' w.heap.size v l ∧ Below w.heap.size w w') ∧
    (∀ (b : Nat) (w : World), RdI w (Option.some ⟨b, 0, none⟩) d → Calls Tryz.prog 10 #[.slice (Option.some ⟨b, 0, none⟩) m m, .int .i64 f, .int .i64 n] w fun e w' => ∃ v, e = .returned (.agg #[.int .i64 c, v]) ∧ OwnI w' w.heap.size v l ∧ Below w.heap.size w w') :=
  ⟨(lsV d f n).1, (lsV d f n).2, by have := lsV_le d f n; omega, fun b w hr => specSliceList_any b m d f n w hr hl (Nat.le_refl _), fun b w hr => sliceList_any b m d f n w hr hl (Nat.le_refl _)⟩
end Go.Proofs.YtfbjodbihenmjaaGreatDoor

namespace Go.Proofs.YtfbjodbihenmjaaGreatDoor
open Go.RowKit

theorem eqL_step {l s : List Int} {j : Nat} (h : ∀ i, i < j → nthI l i = nthI s i) (hx : nthI l j = nthI s j) : ∀ i, i < j + 1 → nthI l i = nthI s i := fun i hi => by
  by_cases hij : i < j
  · exact h i hij
  · have : i = j := by omega
    subst this; exact hx
theorem eqL_end {l s : List Int} {n : Nat} (hl : l.length = n) (hs : s.length = n) (h : ∀ i, i < n → nthI l i = nthI s i) : l = s := by
  apply List.ext_getElem (by omega)
  intro i h1 h2
  have := h i (by omega)
  rwa [nthI_get h1, nthI_get h2] at this

set_option maxHeartbeats 800000 in
set_option maxRecDepth 100000 in
theorem lwNums_any (a c : Option Addr) (n m cap cap' : Nat) (l s : List Int) (w : World) (hl : l.length = n) (hm : s.length = m) (hr : RdI w a l) (hs : RdI w c s) (hn : n ≤ 1048576) (hmm : m ≤ 1048576) :
    Calls Tryz.prog 13 #[.slice a n cap, .slice c m cap'] w fun e w' => e = .returned (.bool (decide (l = s))) ∧ Below w.heap.size w w' := by
  by_cases hnm : n = m
  · subst hnm
    go_enter Tryz.func13, Tryz.ntmps13
    go_wp2
    go_loopw [5] (fun i wr => ∃ k : Nat, k ≤ n ∧ i = .int .i64 k ∧ (∀ i, i < k → nthI l i = nthI s i) ∧ Below w.heap.size w wr) (fun i _ => n - (intOf i).toNat)
    case atStart => exact ⟨0, Nat.zero_le _, rfl, fun i hi => by omega, Below.refl _ _⟩
    case round =>
      obtain ⟨k, hk, rfl, hsame, hbel⟩ := hrel
      by_cases hkn : k < n
      · obtain ⟨b, off, rfl, hblt, hcell⟩ := hr.at_ (by omega)
        obtain ⟨d, off', rfl, hdlt, hdell⟩ := hs.at_ (by omega)
        have hc : wr.cell? ⟨b, off + k, none⟩ = some (.int .i64 (nthI l k)) := (hbel.cell (p := ⟨b, off + k, none⟩) hblt).trans (hcell k (by omega))
        have hd : wr.cell? ⟨d, off' + k, none⟩ = some (.int .i64 (nthI s k)) := (hbel.cell (p := ⟨d, off' + k, none⟩) hdlt).trans (hdell k (by omega))
        have hki : (k : Int) < (n : Int) := by omega
        have HY : Hid (nthI l k = nthI s k → ∀ i, i < k + 1 → nthI l i = nthI s i) := fun h => eqL_step hsame h
        have HN : Hid (nthI l k ≠ nthI s k → decide (l = s) = false) := fun h => decide_eq_false (fun e => h (by rw [e]))
        clear hcell hdell hr hs hsame
        generalize nthI l k = x at *
        generalize nthI s k = y at *
        by_cases hxy : x = y
        · have HM : Hid (_) := HY.out hxy
          subst hxy
          clear HY HN
          go_wp2
          go_quiet (fail)
          go_wp2
          go_roundw
          case rel => exact ⟨k + 1, by omega, by go_num, HM.out, below_drewN hbel _⟩
          case measure => simp [intOf]; omega
        · have HM : Hid (_) := HN.out hxy
          have e0 : (x != y) = true := by simpa using hxy
          clear HY HN
          go_wp2
          go_quiet (fail)
          go_wp2
          go_ret
          exact ⟨by rw [HM.out]; rfl, below_drewN hbel _⟩
      · have HT : Hid (decide (l = s) = true) := decide_eq_true (eqL_end hl hm (fun i hi => hsame i (by omega)))
        have hki : ¬ (k : Int) < (n : Int) := by omega
        clear hsame
        go_wp2
        go_ret
        exact ⟨by rw [HT.out]; rfl, hbel⟩
  · have HF : Hid (decide (l = s) = false) := decide_eq_false (fun h => hnm (by rw [← hl, ← hm, h]))
    have e0 : ((n : Int) != (m : Int)) = true := by simp; omega
    go_enter Tryz.func13, Tryz.ntmps13
    go_wp2
    go_ret
    exact ⟨by rw [HF.out]; rfl, Below.refl _ _⟩
end Go.Proofs.YtfbjodbihenmjaaGreatDoor

namespace Go.Proofs.YtfbjodbihenmjaaGreatDoor
open Go.RowKit

/-- A slice of numbers that can be read; one without an address has no room. -/
def SlN (w : World) (v : Value) (l : List Int) : Prop := ∃ (a : Option Addr) (n cap : Nat), v = .slice a n cap ∧ l.length = n ∧ n ≤ cap ∧ n ≤ 100 ∧ (a = none → cap = 0) ∧ RdI w a l
theorem SlN.below {w w' : World} {v : Value} {l : List Int} (h : SlN w v l) (hb : Below w.heap.size w w') : SlN w' v l := by
  obtain ⟨a, n, cap, e, h1, h2, h3, h5, h4⟩ := h
  exact ⟨a, n, cap, e, h1, h2, h3, h5, h4.below hb⟩
theorem OwnI.slN {w : World} {B : Nat} {v : Value} {l : List Int} (h : OwnI w B v l) (hl : l.length ≤ 100) : SlN w v l := by
  have hc : ∃ a cap, v = .slice a l.length cap ∧ l.length ≤ cap ∧ (a = none → cap = 0) := by
    rcases h.2 with ⟨h', h0⟩ | ⟨g, cap, cur, h', _, _, h4, h5, _⟩
    · exact ⟨none, 0, by rw [h', h0], by omega, fun _ => rfl⟩
    · exact ⟨_, cap, h', h4, fun e => by cases e⟩
  obtain ⟨a, cap, rfl, h2, h3⟩ := hc
  exact ⟨a, _, cap, rfl, rfl, h2, hl, h3, h.rd.2⟩
/-- How a draw of a number and two texts ends. -/
def TwoTxtN (w : World) (e : Ending) (w' : World) : Prop := ∃ (r : Int) (v u : Value) (l s : List Int), e = .returned (.tuple #[.int .i64 r, v, u]) ∧ SlN w' v l ∧ SlN w' u s ∧ Below w.heap.size w w'

set_option maxHeartbeats 1600000 in
set_option maxRecDepth 100000 in
theorem lwAt_any (a : Option Addr) (n cap i : Nat) (k : Int) (l : List Nat) (w : World) (hl : l.length = n) (hr : Rd w a l) (hB : IsB l) (hn : n ≤ 1048576) (hi : i ≤ 10) (h0 : 1 ≤ k) (hk : k ≤ 2000) :
    Calls Tryz.prog 12 #[.slice a n cap, .int .i64 (i : Int), .int .i64 k] w fun e w' => ∃ r : Int, e = .returned (.int .i64 r) ∧ 0 ≤ r ∧ r < k ∧ Below w.heap.size w w' := by
  by_cases hk1 : k ≤ 1
  · go_enter Tryz.func12, Tryz.ntmps12
    go_wp2
    go_ret
    exact ⟨0, rfl, by omega, by omega, Below.refl _ _⟩
  · by_cases hn0 : n = 0
    · subst hn0
      go_enter Tryz.func12, Tryz.ntmps12
      go_wp2
      go_ret
      have r1 := Int.emod_nonneg ((i : Int) * 7) (show k ≠ 0 by omega)
      have r2 := Int.emod_lt_of_pos ((i : Int) * 7) (show 0 < k by omega)
      exact ⟨_, rfl, r1, r2, Below.refl _ _⟩
    · obtain ⟨q1, hq1⟩ : ∃ q, q = i % n := ⟨_, rfl⟩
      obtain ⟨q2, hq2⟩ : ∃ q, q = (i + 1) % n := ⟨_, rfl⟩
      obtain ⟨p, hp⟩ : ∃ p, p = i / n := ⟨_, rfl⟩
      have q1n : q1 < n := by rw [hq1]; exact Nat.mod_lt _ (by omega)
      have q2n : q2 < n := by rw [hq2]; exact Nat.mod_lt _ (by omega)
      have hp' : p ≤ 1000 := by have := Nat.div_le_self i n; omega
      obtain ⟨d, off, rfl, hdlt, hc⟩ := hr.at_ (by omega)
      have x1 := hc q1 (by omega)
      have x2 := hc q2 (by omega)
      have b1 := nth_lt hB q1
      have b2 := nth_lt hB q2
      generalize nth l q1 = y1 at *
      generalize nth l q2 = y2 at *
      have e1 : (i : Int) % (n : Int) = (q1 : Int) := by rw [hq1]; exact (Int.natCast_emod _ _).symm
      have e2 : ((i : Int) + 1) % (n : Int) = (q2 : Int) := by rw [hq2, Int.natCast_emod]; rfl
      have e3 : (i : Int) / (n : Int) = (p : Int) := by rw [hp]; exact (Int.natCast_ediv _ _).symm
      have i1 : (q1 : Int) < (n : Int) := by omega
      have i2 : (q2 : Int) < (n : Int) := by omega
      have n0 : ((n : Int) == 0) = false := beq_eq_false_iff_ne.2 (by omega)
      clear hc hq1 hq2 hp
      by_cases hk2 : 200 < k
      · go_enter Tryz.func12, Tryz.ntmps12
        go_wp2
        go_quiet (fail)
        go_wp2
        go_ret
        have r1 := Int.emod_nonneg (((y1 : Int) + (p : Int) * 3) * 251 + (y2 : Int)) (show k ≠ 0 by omega)
        have r2 := Int.emod_lt_of_pos (((y1 : Int) + (p : Int) * 3) * 251 + (y2 : Int)) (show 0 < k by omega)
        exact ⟨_, rfl, r1, r2, below_drewN (Below.refl _ _) _⟩
      · go_enter Tryz.func12, Tryz.ntmps12
        go_wp2
        go_quiet (fail)
        go_wp2
        go_ret
        have r1 := Int.emod_nonneg ((y1 : Int) + (p : Int) * 3) (show k ≠ 0 by omega)
        have r2 := Int.emod_lt_of_pos ((y1 : Int) + (p : Int) * 3) (show 0 < k by omega)
        exact ⟨_, rfl, r1, r2, below_drewN (Below.refl _ _) _⟩
end Go.Proofs.YtfbjodbihenmjaaGreatDoor
