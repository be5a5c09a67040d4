/- MapCodes, the program's and the model's, at every comparator and slice of at most 1048576 numbers: both by one plain function. -/
import Derived.Test.YtjkhlkmibajhiaaMap
import Derived.Test.YtjkhlkmibajhiaaMrkI
import Derived.Test.YtjkhlkmibajhiaaFar
namespace Go.Proofs.Ytjkhlkmibajhiaa
open Go.RowKit

theorem OwnI.lowerM {w : World} {B C : Nat} {v : Value} {l : List Int} (h : OwnI w B v l) (hC : C ≤ B) : OwnI w C v l := by
  refine ⟨h.1, ?_⟩
  rcases h.2 with h' | ⟨g, cap, cur, h1, h2, h3⟩
  · exact .inl h'
  · exact .inr ⟨g, cap, cur, h1, Nat.le_trans hC h2, h3⟩
theorem OwnI.keptM {w : World} {B : Nat} {v : Value} {l : List Int} (h : OwnI w B v l) (p : Addr) (hp : p.block < B) (u : Value) : OwnI (w.setCell p u) B v l := ownsRow_setCell_below h hp u
theorem fltCases (l : List Int) : flt l = 0 ∨ flt l = 2 ∨ flt l = 3 := by
  unfold flt
  split
  · simp
  · split <;> simp
theorem fltZero {l : List Int} (h : flt l = 0) : l.length ≤ 400 := by
  unfold flt at h
  split at h
  · omega
  · omega

/-- What MapCodes answers. -/
def mapT (k : Int) (l : List Int) : Int × List Int := if 1 ≤ k ∧ k ≤ 3 then (if flt l = 0 then (0, l.map (mapC k)) else (flt l, [])) else (4, [])
theorem mapT_none {k : Int} {l : List Int} (h : ¬ (1 ≤ k ∧ k ≤ 3)) : mapT k l = (4, []) := if_neg h
theorem mapT_fault {k : Int} {l : List Int} (h : 1 ≤ k ∧ k ≤ 3) (hf : flt l ≠ 0) : mapT k l = (flt l, []) := by unfold mapT; rw [if_pos h, if_neg hf]
theorem mapT_ok {k : Int} {l : List Int} (h : 1 ≤ k ∧ k ≤ 3) (hf : flt l = 0) : mapT k l = (0, l.map (mapC k)) := by unfold mapT; rw [if_pos h, if_pos hf]
theorem mapT_few (k : Int) (l : List Int) : (mapT k l).2.length ≤ 400 := by
  unfold mapT
  split
  · split
    · have := fltZero (l := l) (by assumption)
      simpa using this
    · simp
  · simp

/-- An answer with numbers. -/
def NumEnd (r : Int × List Int) (w : World) (e : Ending) (w' : World) : Prop := ∃ v, e = .returned (.agg #[.int .i64 r.1, v]) ∧ OwnI w' w.heap.size v r.2 ∧ Below w.heap.size w w'
theorem NumEnd.code {c : Int} {w w1 : World} (hbel : Below w.heap.size w w1) (x y : Value) : NumEnd (c, []) w (.returned (.agg #[.int .i64 c, .slice none 0 0])) ((w1.setCell ⟨w.heap.size, 0, none⟩ x).setCell ⟨w.heap.size, 1, none⟩ y) :=
  ⟨_, rfl, OwnI.nil _ _, (hbel.setCell (by simp) _).setCell (by simp) _⟩
theorem NumEnd.some {c : Int} {w w1 : World} {v : Value} {l : List Int} (hbel : Below w.heap.size w w1) (hown : OwnI w1 (w.heap.size + 1) v l) (x y : Value) : NumEnd (c, l) w (.returned (.agg #[.int .i64 c, v])) ((w1.setCell ⟨w.heap.size, 0, none⟩ x).setCell ⟨w.heap.size, 1, none⟩ y) :=
  ⟨_, rfl, ((hown.keptM _ (by simp) _).keptM _ (by simp) _).lowerM (by omega), (hbel.setCell (by simp) _).setCell (by simp) _⟩

theorem map_step {f : Int → Int} {l : List Int} {k : Nat} (h : k < l.length) : (l.take (k + 1)).map f = (l.take k).map f ++ [f (nthI l k)] := by
  rw [take_snocI l k h, List.map_append]; rfl
theorem map_end {f : Int → Int} {l : List Int} {n : Nat} (h : l.length = n) : (l.take n).map f = l.map f := by rw [← h, List.take_length]

set_option maxHeartbeats 1600000 in
set_option maxRecDepth 100000 in
theorem mapCodes_ok (k : Int) (a : Option Addr) (n cap : Nat) (l : List Int) (w : World) (hk : 1 ≤ k ∧ k ≤ 3) (hl : l.length = n) (hr : RdI w a l) (hf : flt l = 0) :
    Calls Try.prog 28 #[.int .i64 k, .slice a n cap] w fun e w' => NumEnd (mapT k l) w e w' := by
  have hn4 : n ≤ 400 := by have := fltZero hf; omega
  have H : Hid (mapT k l = (0, l.map (mapC k))) := mapT_ok hk hf
  have hb0 : Below w.heap.size w (w.alloc (.cells #[.int .i64 0, .slice none 0 0] 28)) := (Below.refl _ _).alloc (Nat.le_refl _) _
  have hr0 := hr.below hb0
  have hWs : (w.alloc (.cells #[.int .i64 0, .slice none 0 0] 28)).heap.size = w.heap.size + 1 := by simp
  go_enter Try.func28, Try.ntmps28
  go_wp2_with (first | (go_at_call 63; refine (isComparator_any _ _).mono ?_; rintro e w' ⟨rfl, rfl⟩; rw [decide_eq_true hk]) | (go_at_call 22; refine (codesFault_any a n cap l _ hl hr0 (by omega)).mono ?_; rintro e w1 ⟨rfl, hb1⟩; rw [hf]))
  have hbl1 : Below (w.heap.size + 1) (w.alloc (.cells #[.int .i64 0, .slice none 0 0] 28)) w1 := by rw [← hWs]; exact hb1
  generalize hW : w.alloc (.cells #[.int .i64 0, .slice none 0 0] 28) = W at *
  go_loopw [6, 21] (fun v i wr => ∃ j : Nat, j ≤ n ∧ i = .int .i64 j ∧ OwnI wr (w.heap.size + 1) v ((l.take j).map (mapC k)) ∧ Below (w.heap.size + 1) W wr)
    (fun _ i _ => n - (intOf i).toNat)
  case atStart => exact ⟨0, Nat.zero_le _, rfl, OwnI.nil _ _, hbl1⟩
  case round =>
    obtain ⟨j, hj, rfl, hown, hbel⟩ := hrel
    have hz : w.heap.size + 1 ≤ wr.heap.size := by have := hbel.size; omega
    clear hb1 hbl1
    by_cases hjn : j < n
    · obtain ⟨b, off, rfl, hblt, hcell⟩ := hr0.at_ (by omega)
      have hc : wr.cell? ⟨b, off + j, none⟩ = some (.int .i64 (nthI l j)) := (hbel.cell (p := ⟨b, off + j, none⟩) (by rw [← hWs]; exact hblt)).trans (hcell j (by omega))
      have HQ : Hid ((l.take (j + 1)).map (mapC k) = (l.take j).map (mapC k) ++ [mapC k (nthI l j)]) := map_step (by omega)
      have hjn' : (j : Int) < (n : Int) := by omega
      have hlen : ((l.take j).map (mapC k)).length ≤ 400 := by rw [List.length_map, List.length_take]; omega
      generalize (l.take j).map (mapC k) = out at *
      generalize nthI l j = x at *
      clear hcell hr0 hr
      go_wp2_with (first | (go_at_call 64; refine (countsAs_any _ _ _ hk).mono ?_; rintro e w' ⟨rfl, rfl⟩) | (at_builtin; refine wpList_app_newI rfl _ _ rfl (w.heap.size + 1) _ out rfl hown 1 1 [mapC k x] rfl rfl rfl (by omega) hz ?_; intro v' w2 hown' hb'))
      go_roundw
      case rel => exact ⟨j + 1, by omega, by go_num, by rw [HQ.out]; exact hown', hbel.trans hb'⟩
      case measure => simp [intOf]; omega
    · have hjj : j = n := by omega
      subst hjj
      rw [map_end hl] at hown
      have hjn' : ¬ (j : Int) < (j : Int) := by omega
      obtain ⟨hcw, hcw1, hfw, hfw1⟩ := res_block hW hbel
      have hbE : Below w.heap.size w wr := hb0.trans (hbel.mono (by omega))
      generalize l.map (mapC k) = out at *
      obtain ⟨ao, ocap, hv, -, -⟩ := hown.form
      rw [hv] at hown ⊢
      clear hv
      have HO : Hid (OwnI wr (w.heap.size + 1) (.slice ao out.length ocap) out) := hown
      clear hown
      generalize out.length = N at *
      obtain ⟨hk0, hk1⟩ := res_cells hcw hcw1 (.int .i64 0) (.slice ao N ocap)
      go_wp2
      refine bodyPost_ret (v := .agg #[.int .i64 0, .slice ao N ocap]) (by simp [results, Try.results28, go_sem, hk0, hk1]) rfl ?_
      rw [H.out]
      exact NumEnd.some hbE HO.out _ _

set_option maxHeartbeats 1600000 in
set_option maxRecDepth 100000 in
theorem mapCodes_any (k : Int) (a : Option Addr) (n cap : Nat) (l : List Int) (w : World) (hl : l.length = n) (hr : RdI w a l) (hn : n ≤ 1048576) :
    Calls Try.prog 28 #[.int .i64 k, .slice a n cap] w fun e w' => NumEnd (mapT k l) w e w' := by
  by_cases hk : 1 ≤ k ∧ k ≤ 3
  · by_cases hf : flt l = 0
    · exact mapCodes_ok k a n cap l w hk hl hr hf
    · have H : Hid (mapT k l = (flt l, [])) := mapT_fault hk hf
      have hb0 : Below w.heap.size w (w.alloc (.cells #[.int .i64 0, .slice none 0 0] 28)) := (Below.refl _ _).alloc (Nat.le_refl _) _
      have hr0 := hr.below hb0
      have hc23 : flt l = 2 ∨ flt l = 3 := by rcases fltCases l with h | h | h; exact absurd h hf; exact .inl h; exact .inr h
      have HC : Hid (∀ w, RdI w a l → Calls Try.prog 22 #[.slice a n cap] w fun e w' => e = .returned (.int .i64 (flt l)) ∧ Below w.heap.size w w') := fun w hr => codesFault_any a n cap l w hl hr hn
      clear hf
      generalize flt l = c at *
      rcases hc23 with rfl | rfl
      all_goals
        go_enter Try.func28, Try.ntmps28
        go_wp2_with (first | (go_at_call 63; refine (isComparator_any _ _).mono ?_; rintro e w' ⟨rfl, rfl⟩; rw [decide_eq_true hk]))
        refine (HC.out _ hr0).mono ?_
        rintro e w1 ⟨rfl, hb1⟩
        have hbl : Below (w.heap.size + 1) (w.alloc (.cells #[.int .i64 0, .slice none 0 0] 28)) w1 := hb1.mono (by simp)
        obtain ⟨hcw, hcw1, hfw, hfw1⟩ := res_block rfl hbl
        have hbel : Below w.heap.size w w1 := hb0.trans (hbl.mono (by omega))
        clear hb1 hbl hr hr0 HC
      · obtain ⟨hk0, hk1⟩ := res_cells hcw hcw1 (.int .i64 2) (.slice none 0 0)
        go_wp2
        refine bodyPost_ret (v := .agg #[.int .i64 2, .slice none 0 0]) (by simp [results, Try.results28, go_sem, hk0, hk1]) rfl ?_
        rw [H.out]
        exact NumEnd.code hbel _ _
      · obtain ⟨hk0, hk1⟩ := res_cells hcw hcw1 (.int .i64 3) (.slice none 0 0)
        go_wp2
        refine bodyPost_ret (v := .agg #[.int .i64 3, .slice none 0 0]) (by simp [results, Try.results28, go_sem, hk0, hk1]) rfl ?_
        rw [H.out]
        exact NumEnd.code hbel _ _
  · have H : Hid (mapT k l = (4, [])) := mapT_none hk
    go_enter Try.func28, Try.ntmps28
    go_wp2_with (first | (go_at_call 63; refine (isComparator_any _ _).mono ?_; rintro e w' ⟨rfl, rfl⟩; rw [decide_eq_false hk]))
    go_returns
    exact ⟨.slice none 0 0, by rw [H.out], by rw [H.out]; exact OwnI.nil _ _, by go_grown⟩

set_option maxHeartbeats 1600000 in
set_option maxRecDepth 100000 in
theorem l3Map_any (k : Int) (a : Option Addr) (n cap : Nat) (l : List Int) (w : World) (hk : 1 ≤ k ∧ k ≤ 3) (hl : l.length = n) (hr : RdI w a l) (hn : n ≤ 1048576) :
    Calls Try.prog 67 #[.int .i64 k, .slice a n cap] w fun e w' => ∃ v, e = .returned v ∧ OwnI w' w.heap.size v (l.map (mapC k)) ∧ Below w.heap.size w w' := by
  go_enter Try.func67, Try.ntmps67
  go_wp2
  have hown0 : OwnI (w.alloc (.cells #[] 2)) w.heap.size (.slice (some ⟨w.heap.size, 0, none⟩) 0 0) [] := OwnI.lit w _ (Nat.le_refl _) #[] [] rfl (by decide)
  have hbel0 : Below w.heap.size w (w.alloc (.cells #[] 2)) := (Below.refl _ _).alloc (Nat.le_refl _) _
  go_loopw [5, 6] (fun v i wr => ∃ j : Nat, j ≤ n ∧ i = .int .i64 j ∧ OwnI wr w.heap.size v ((l.take j).map (mapC k)) ∧ Below w.heap.size w wr)
    (fun _ i _ => n - (intOf i).toNat)
  case atStart => exact ⟨0, Nat.zero_le _, rfl, hown0, hbel0⟩
  case round =>
    obtain ⟨j, hj, rfl, hown, hbel⟩ := hrel
    have hz := hbel.size
    clear hown0 hbel0
    by_cases hjn : j < n
    · obtain ⟨b, off, rfl, hblt, hcell⟩ := hr.at_ (by omega)
      have hc : wr.cell? ⟨b, off + j, none⟩ = some (.int .i64 (nthI l j)) := (hbel.cell (p := ⟨b, off + j, none⟩) hblt).trans (hcell j (by omega))
      have HQ : Hid ((l.take (j + 1)).map (mapC k) = (l.take j).map (mapC k) ++ [mapC k (nthI l j)]) := map_step (by omega)
      have hjn' : (j : Int) < (n : Int) := by omega
      have hlen : ((l.take j).map (mapC k)).length ≤ 1048576 := by rw [List.length_map, List.length_take]; omega
      generalize (l.take j).map (mapC k) = out at *
      generalize nthI l j = x at *
      clear hcell hr
      go_wp2_with (first | (go_at_call 66; refine (l3Char_any _ _ _ hk).mono ?_; rintro e w' ⟨rfl, rfl⟩) | (at_builtin; refine wpList_app_newI rfl _ _ rfl w.heap.size _ out rfl hown 1 1 [mapC k x] rfl rfl rfl (by omega) hz ?_; intro v' w2 hown' hb'))
      go_roundw
      case rel => exact ⟨j + 1, by omega, by go_num, by rw [HQ.out]; exact hown', hbel.trans hb'⟩
      case measure => simp [intOf]; omega
    · have hjj : j = n := by omega
      subst hjj
      rw [map_end hl] at hown
      have hjn' : ¬ (j : Int) < (j : Int) := by omega
      go_wp2
      go_ret
      exact ⟨_, rfl, hown, hbel⟩

set_option maxHeartbeats 1600000 in
set_option maxRecDepth 100000 in
theorem specMapCodes_any (k : Int) (a : Option Addr) (n cap : Nat) (l : List Int) (w : World) (hl : l.length = n) (hr : RdI w a l) (hn : n ≤ 1048576) :
    Calls Try.prog 29 #[.int .i64 k, .slice a n cap] w fun e w' => NumEnd (mapT k l) w e w' := by
  by_cases hk : 1 ≤ k ∧ k ≤ 3
  · have hb0 : Below w.heap.size w (w.alloc (.cells #[.int .i64 0, .slice none 0 0] 28)) := (Below.refl _ _).alloc (Nat.le_refl _) _
    have hr0 := hr.below hb0
    by_cases hf : flt l = 0
    · have H : Hid (mapT k l = (0, l.map (mapC k))) := mapT_ok hk hf
      go_enter Try.func29, Try.ntmps29
      go_wp2_with (first | (go_at_call 65; refine (l3Cmp_any _ _).mono ?_; rintro e w' ⟨rfl, rfl⟩; rw [decide_eq_true hk]) | (go_at_call 58; refine (l2Fault_any a n cap l _ hl hr0 hn).mono ?_; rintro e w1 ⟨rfl, hb1⟩; rw [hf]))
      have hr1 := hr0.below hb1
      have hbl : Below (w.heap.size + 1) (w.alloc (.cells #[.int .i64 0, .slice none 0 0] 28)) w1 := hb1.mono (by simp)
      have hz1 : w.heap.size + 1 ≤ w1.heap.size := by have := hbl.size; simp at this; omega
      clear hb1 hr hr0
      refine (l3Map_any k a n cap l _ hk hl hr1 hn).mono ?_
      rintro e w2 ⟨v, rfl, hown, hb2⟩
      have hbl2 : Below (w.heap.size + 1) (w.alloc (.cells #[.int .i64 0, .slice none 0 0] 28)) w2 := hbl.trans (hb2.mono hz1)
      obtain ⟨hcw, hcw1, hfw, hfw1⟩ := res_block rfl hbl2
      have hbel : Below w.heap.size w w2 := hb0.trans (hbl2.mono (by omega))
      have hown' : OwnI w2 (w.heap.size + 1) v (l.map (mapC k)) := hown.lowerM hz1
      clear hown hb2 hbl2 hbl hr1
      generalize l.map (mapC k) = out at *
      obtain ⟨ao, ocap, hv, -, -⟩ := hown'.form
      rw [hv] at hown' ⊢
      clear hv
      have HO : Hid (OwnI w2 (w.heap.size + 1) (.slice ao out.length ocap) out) := hown'
      clear hown'
      generalize out.length = N at *
      obtain ⟨hk0, hk1⟩ := res_cells hcw hcw1 (.int .i64 0) (.slice ao N ocap)
      go_wp2
      refine bodyPost_ret (v := .agg #[.int .i64 0, .slice ao N ocap]) (by simp [results, Try.results29, go_sem, hk0, hk1]) rfl ?_
      rw [H.out]
      exact NumEnd.some hbel HO.out _ _
    · have H : Hid (mapT k l = (flt l, [])) := mapT_fault hk hf
      have hc23 : flt l = 2 ∨ flt l = 3 := by rcases fltCases l with h | h | h; exact absurd h hf; exact .inl h; exact .inr h
      have HC : Hid (∀ w, RdI w a l → Calls Try.prog 58 #[.slice a n cap] w fun e w' => e = .returned (.int .i64 (flt l)) ∧ Below w.heap.size w w') := fun w hr => l2Fault_any a n cap l w hl hr hn
      clear hf
      generalize flt l = c at *
      rcases hc23 with rfl | rfl
      all_goals
        go_enter Try.func29, Try.ntmps29
        go_wp2_with (first | (go_at_call 65; refine (l3Cmp_any _ _).mono ?_; rintro e w' ⟨rfl, rfl⟩; rw [decide_eq_true hk]))
        refine (HC.out _ hr0).mono ?_
        rintro e w1 ⟨rfl, hb1⟩
        have hbl : Below (w.heap.size + 1) (w.alloc (.cells #[.int .i64 0, .slice none 0 0] 28)) w1 := hb1.mono (by simp)
        obtain ⟨hcw, hcw1, hfw, hfw1⟩ := res_block rfl hbl
        have hbel : Below w.heap.size w w1 := hb0.trans (hbl.mono (by omega))
        clear hb1 hbl hr hr0 HC
      · obtain ⟨hk0, hk1⟩ := res_cells hcw hcw1 (.int .i64 2) (.slice none 0 0)
        go_wp2
        refine bodyPost_ret (v := .agg #[.int .i64 2, .slice none 0 0]) (by simp [results, Try.results29, go_sem, hk0, hk1]) rfl ?_
        rw [H.out]
        exact NumEnd.code hbel _ _
      · obtain ⟨hk0, hk1⟩ := res_cells hcw hcw1 (.int .i64 3) (.slice none 0 0)
        go_wp2
        refine bodyPost_ret (v := .agg #[.int .i64 3, .slice none 0 0]) (by simp [results, Try.results29, go_sem, hk0, hk1]) rfl ?_
        rw [H.out]
        exact NumEnd.code hbel _ _
  · have H : Hid (mapT k l = (4, [])) := mapT_none hk
    go_enter Try.func29, Try.ntmps29
    go_wp2_with (first | (go_at_call 65; refine (l3Cmp_any _ _).mono ?_; rintro e w' ⟨rfl, rfl⟩; rw [decide_eq_false hk]))
    go_returns
    exact ⟨.slice none 0 0, by rw [H.out], by rw [H.out]; exact OwnI.nil _ _, by go_grown⟩

theorem mapT_both (k : Int) (n : Nat) (s : List Int) (hl : s.length = n) (hn : n ≤ 1048576) : ∃ (c : Int) (l : List Int), l.length ≤ 1048576 ∧
    (∀ (a : Option Addr) (cap : Nat) (w : World), RdI w a s → Calls Try.prog 29 #[.int .i64 k, .slice a n cap] w fun e w' => ∃ v, e = .returned (.agg #[.int .i64 c, v]) ∧ OwnI w' w.heap.size v l ∧ Below w.heap.size w w') ∧
    (∀ (a : Option Addr) (cap : Nat) (w : World), RdI w a s → Calls Try.prog 28 #[.int .i64 k, .slice a n cap] w fun e w' => ∃ v, e = .returned (.agg #[.int .i64 c, v]) ∧ OwnI w' w.heap.size v l ∧ Below w.heap.size w w') :=
  ⟨(mapT k s).1, (mapT k s).2, by have := mapT_few k s; omega, fun a cap w hr => specMapCodes_any k a n cap s w hl hr hn, fun a cap w hr => mapCodes_any k a n cap s w hl hr hn⟩
end Go.Proofs.Ytjkhlkmibajhiaa
