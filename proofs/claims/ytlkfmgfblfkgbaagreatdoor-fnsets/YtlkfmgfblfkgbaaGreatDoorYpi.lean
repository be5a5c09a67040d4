/- The model's ParseSet, and both at once. -/
import Derived.Test.YtlkfmgfblfkgbaaGreatDoorYpr
import Derived.Test.YtlkfmgfblfkgbaaGreatDoorYph
namespace Go.Proofs.YtlkfmgfblfkgbaaGreatDoor
open Go.RowKit

set_option maxHeartbeats 3200000 in
set_option maxRecDepth 100000 in
theorem specParseSet_any (l : List Nat) (n : Nat) (w : World) (hl : l.length = n) (hB : IsB l) (hn : n ≤ 1048576) : Calls Tryz.prog 7 #[.string (str l)] w fun e w' => RngEndY (pmV l) w e w' := by
  have hb0 : Below w.heap.size w (w.alloc (.cells #[.int .i64 0, .slice none 0 0] 27)) := (Below.refl _ _).alloc (Nat.le_refl _) _
  have hWs : (w.alloc (.cells #[.int .i64 0, .slice none 0 0] 27)).heap.size = w.heap.size + 1 := by simp
  have HPR : Hid (_) := l11Parse_any l n (w.alloc (.cells #[.int .i64 0, .slice none 0 0] 27)) hl hB hn
  unfold PrE at HPR
  have HPM : Hid (pmV l = match psL (cutM 44 l) with
    | none => (5, [])
    | some out => if out.length ≤ 8 then (0, out) else (5, [])) := rfl
  cases hp : psL (cutM 44 l) with
  | none =>
    rw [hp] at HPR HPM
    simp only at HPR HPM
    go_enter Tryz.func7, Tryz.ntmps7
    go_wp2_with fail
    refine Calls.mono HPR.out ?_
    rintro e w1 ⟨rfl, hb1⟩
    have hbl1 : Below (w.heap.size + 1) (w.alloc (.cells #[.int .i64 0, .slice none 0 0] 27)) w1 := by rw [← hWs]; exact hb1
    have hbE : Below w.heap.size w w1 := hb0.trans (hbl1.mono (by omega))
    obtain ⟨hcw, hcw1, hfw, hfw1⟩ := res_block rfl hbl1
    obtain ⟨hk0, hk1⟩ := res_cells hcw hcw1 (.int .i64 5) (.slice none 0 0)
    clear hb1 hbl1 HPR
    go_wp2
    refine bodyPost_ret (v := .agg #[.int .i64 5, .slice none 0 0]) (by simp [results, Tryz.results7, go_sem, hk0, hk1]) rfl ?_
    rw [HPM.out]
    exact RngEndY.code hbE _ _
  | some out =>
    rw [hp] at HPR HPM
    simp only at HPR HPM
    by_cases h8 : out.length ≤ 8
    · rw [decide_eq_true h8] at HPR
      rw [if_pos h8] at HPM
      go_enter Tryz.func7, Tryz.ntmps7
      go_wp2_with fail
      refine Calls.mono HPR.out ?_
      rintro e w1 ⟨v, rfl, ho1, hb1⟩
      have hbl1 : Below (w.heap.size + 1) (w.alloc (.cells #[.int .i64 0, .slice none 0 0] 27)) w1 := by rw [← hWs]; exact hb1
      have hbE : Below w.heap.size w w1 := hb0.trans (hbl1.mono (by omega))
      rw [hWs] at ho1
      obtain ⟨ao, ocap, hv, -, -⟩ := ho1.form
      subst hv
      obtain ⟨hcw, hcw1, hfw, hfw1⟩ := res_block rfl hbl1
      obtain ⟨hk0, hk1⟩ := res_cells hcw hcw1 (.int .i64 0) (.slice ao out.length ocap)
      have HO : Hid (_) := ho1
      clear hb1 hbl1 HPR
      go_wp2
      refine bodyPost_ret (v := .agg #[.int .i64 0, .slice ao out.length ocap]) (by simp [results, Tryz.results7, go_sem, hk0, hk1]) rfl ?_
      rw [HPM.out]
      exact RngEndY.some hbE ho1 _ _
    · rw [decide_eq_false h8] at HPR
      rw [if_neg h8] at HPM
      go_enter Tryz.func7, Tryz.ntmps7
      go_wp2_with fail
      refine Calls.mono HPR.out ?_
      rintro e w1 ⟨v, rfl, ho1, hb1⟩
      have hbl1 : Below (w.heap.size + 1) (w.alloc (.cells #[.int .i64 0, .slice none 0 0] 27)) w1 := by rw [← hWs]; exact hb1
      have hbE : Below w.heap.size w w1 := hb0.trans (hbl1.mono (by omega))
      obtain ⟨ao, ocap, hv, -, -⟩ := ho1.form
      subst hv
      obtain ⟨hcw, hcw1, hfw, hfw1⟩ := res_block rfl hbl1
      obtain ⟨hk0, hk1⟩ := res_cells hcw hcw1 (.int .i64 5) (.slice none 0 0)
      clear hb1 hbl1 HPR ho1
      go_wp2
      refine bodyPost_ret (v := .agg #[.int .i64 5, .slice none 0 0]) (by simp [results, Tryz.results7, go_sem, hk0, hk1]) rfl ?_
      rw [HPM.out]
      exact RngEndY.code hbE _ _
theorem pmV_few (l : List Nat) : (pmV l).2.length ≤ 8 := by
  unfold pmV
  split
  · simp
  · split
    · assumption
    · simp
theorem parseSet_both (s : ByteArray) (hs : s.size ≤ 1048576) : ∃ (c : Int) (l : List YgP), l.length ≤ 1048576 ∧
    (∀ w, Calls Tryz.prog 7 #[.string s] w fun e w' => ∃ v, e = .returned (.agg #[.int .i64 c, v]) ∧ OwnY w' w.heap.size v l ∧ Below w.heap.size w w') ∧
    (∀ w, VarE w → TabW w → Calls Tryz.prog 6 #[.string s] w fun e w' => ∃ v, e = .returned (.agg #[.int .i64 c, v]) ∧ OwnY w' w.heap.size v l ∧ Below w.heap.size w w') :=
  ⟨(pmV (bsN s)).1, (pmV (bsN s)).2, by have := pmV_few (bsN s); omega, fun w => by
    have h := specParseSet_any (bsN s) s.size w (bsN_len s) (bsN_B s) hs
    rw [str_bsN] at h
    exact h, fun w hv ht => by
    have h := parseSet_any s w hs hv ht
    rw [pp_pm] at h
    exact h⟩
end Go.Proofs.YtlkfmgfblfkgbaaGreatDoor
