/- The model's EncodeText, and both at once. -/
import Derived.Test.YtkjnhcnbbojajaaGreatDoorFltToDec2
namespace Go.Proofs.YtkjnhcnbbojajaaGreatDoor
open Go.RowKit

set_option maxHeartbeats 1600000 in
set_option maxRecDepth 100000 in
theorem specEncodeText_any (cs : Int) (a : Option Addr) (n cap : Nat) (l : List Int) (w : World) (hl : l.length = n) (hr : RdI w a l) (hn : n ≤ 1048576) :
    Calls Tryz.prog 111 #[.int .i64 cs, .slice a n cap] w fun e w' => BytEnd (encT cs l) w e w' := by
  by_cases hcs : 1 ≤ cs ∧ cs ≤ 5
  · have hb0 : Below w.heap.size w (w.alloc (.cells #[.int .i64 0, .slice none 0 0] 46)) := (Below.refl _ _).alloc (Nat.le_refl _) _
    have hr0 := hr.below hb0
    by_cases hf : flt l = 0
    · obtain ⟨hn4, hch⟩ := flt_zero hf
      rw [encT_ok hcs hf]
      go_enter Tryz.func111, Tryz.ntmps111
      go_wp2_with (first | (go_at_call 167; refine (l2Set_any _ _).mono ?_; rintro e w' ⟨rfl, rfl⟩; rw [decide_eq_true hcs]) | (go_at_call 168; refine (l2Fault_any a n cap l _ hl hr0 hn).mono ?_; rintro e w1 ⟨rfl, hb1⟩; rw [hf]))
      have hr1 := hr0.below hb1
      have hbl : Below (w.heap.size + 1) (w.alloc (.cells #[.int .i64 0, .slice none 0 0] 46)) w1 := hb1.mono (by simp)
      have hz1 : w.heap.size + 1 ≤ w1.heap.size := by have := hbl.size; simp at this; omega
      clear hb1 hr hr0
      refine (l2Encode_any cs a n cap l _ hcs hl hr1 (by omega) hch).mono ?_
      rintro e w2 ⟨v, rfl, hown, hb2⟩
      have hbl2 : Below (w.heap.size + 1) (w.alloc (.cells #[.int .i64 0, .slice none 0 0] 46)) w2 := hbl.trans (hb2.mono hz1)
      obtain ⟨hcw, hcw1, hfw, hfw1⟩ := res_block rfl hbl2
      have hbel : Below w.heap.size w w2 := hb0.trans (hbl2.mono (by omega))
      have hown' : Own w2 (w.heap.size + 1) v (encV cs l).2 := hown.lower hz1
      clear hown hb2 hbl2 hbl hr1
      generalize hE : encV cs l = r at *
      obtain ⟨c, u⟩ := r
      have HE : Hid (encV cs l = (c, u)) := hE
      clear hE
      obtain ⟨ao, ocap, hv, -, -⟩ := hown'.form
      simp only at hown' hv ⊢
      rw [hv] at hown' ⊢
      clear hv
      have HO : Hid (Own w2 (w.heap.size + 1) (.slice ao u.length ocap) u) := hown'
      clear hown'
      generalize hN : u.length = N at *
      clear hN
      obtain ⟨hk0, hk1⟩ := res_cells hcw hcw1 (.int .i64 c) (.slice ao N ocap)
      go_wp2
      refine bodyPost_ret (v := .agg #[.int .i64 c, .slice ao N ocap]) (by simp [results, Tryz.results111, go_sem, hk0, hk1]) rfl ?_
      rw [HE.out]
      exact BytEnd.some hbel HO.out _ _
    · have H : Hid (encT cs l = (flt l, [])) := encT_fault hcs hf
      have hc23 : flt l = 2 ∨ flt l = 3 := by rcases flt_cases l with h | h | h; exact absurd h hf; exact .inl h; exact .inr h
      have HC : Hid (∀ w, RdI w a l → Calls Tryz.prog 168 #[.slice a n cap] w fun e w' => e = .returned (.int .i64 (flt l)) ∧ Below w.heap.size w w') := fun w hr => l2Fault_any a n cap l w hl hr hn
      clear hf
      generalize flt l = c at *
      rcases hc23 with rfl | rfl
      all_goals
        go_enter Tryz.func111, Tryz.ntmps111
        go_wp2_with (first | (go_at_call 167; refine (l2Set_any _ _).mono ?_; rintro e w' ⟨rfl, rfl⟩; rw [decide_eq_true hcs]))
        refine (HC.out _ hr0).mono ?_
        rintro e w1 ⟨rfl, hb1⟩
        have hbl : Below (w.heap.size + 1) (w.alloc (.cells #[.int .i64 0, .slice none 0 0] 46)) w1 := hb1.mono (by simp)
        obtain ⟨hcw, hcw1, hfw, hfw1⟩ := res_block rfl hbl
        have hbel : Below w.heap.size w w1 := hb0.trans (hbl.mono (by omega))
        clear hb1 hbl hr hr0 HC
      · obtain ⟨hk0, hk1⟩ := res_cells hcw hcw1 (.int .i64 2) (.slice none 0 0)
        go_wp2
        refine bodyPost_ret (v := .agg #[.int .i64 2, .slice none 0 0]) (by simp [results, Tryz.results111, go_sem, hk0, hk1]) rfl ?_
        rw [H.out]
        exact BytEnd.code hbel _ _
      · obtain ⟨hk0, hk1⟩ := res_cells hcw hcw1 (.int .i64 3) (.slice none 0 0)
        go_wp2
        refine bodyPost_ret (v := .agg #[.int .i64 3, .slice none 0 0]) (by simp [results, Tryz.results111, go_sem, hk0, hk1]) rfl ?_
        rw [H.out]
        exact BytEnd.code hbel _ _
  · have H : Hid (encT cs l = (4, [])) := encT_none hcs
    go_enter Tryz.func111, Tryz.ntmps111
    go_wp2_with (first | (go_at_call 167; refine (l2Set_any _ _).mono ?_; rintro e w' ⟨rfl, rfl⟩; rw [decide_eq_false hcs]))
    go_returns
    exact ⟨.slice none 0 0, by rw [H.out], by rw [H.out]; exact Own.nil _ _, by go_grown⟩

theorem encV_few (cs : Int) (l : List Int) : (encV cs l).2.length ≤ 400 := by
  unfold encV
  split
  · split
    · simp
    · simp only; omega
  · simp
theorem encT_few (cs : Int) (l : List Int) : (encT cs l).2.length ≤ 400 := by
  unfold encT
  split
  · split
    · exact encV_few cs l
    · simp
  · simp

theorem encT_both (cs : Int) (n : Nat) (s : List Int) (hl : s.length = n) (hn : n ≤ 1048576) : ∃ (c : Int) (l : List Nat), l.length ≤ 1048576 ∧
    (∀ (a : Option Addr) (cap : Nat) (w : World), RdI w a s → Calls Tryz.prog 111 #[.int .i64 cs, .slice a n cap] w fun e w' => ∃ v, e = .returned (.agg #[.int .i64 c, v]) ∧ Own w' w.heap.size v l ∧ Below w.heap.size w w') ∧
    (∀ (a : Option Addr) (cap : Nat) (w : World), RdI w a s → Calls Tryz.prog 107 #[.int .i64 cs, .slice a n cap] w fun e w' => ∃ v, e = .returned (.agg #[.int .i64 c, v]) ∧ Own w' w.heap.size v l ∧ Below w.heap.size w w') :=
  ⟨(encT cs s).1, (encT cs s).2, by have := encT_few cs s; omega, fun a cap w hr => specEncodeText_any cs a n cap s w hl hr hn, fun a cap w hr => encodeText_any cs a n cap s w hl hr hn⟩
end Go.Proofs.YtkjnhcnbbojajaaGreatDoor
