/- The program's ParseSet: at every text of at most 1048576 bytes; the library's table and errors are there. -/
import Derived.Test.YtlkfmgfblfkgbaaGreatDoorYpg
namespace Go.Proofs.YtlkfmgfblfkgbaaGreatDoor
open Go.RowKit

theorem toList_ne {a b : ByteArray} (h : a ≠ b) : a.toList ≠ b.toList := fun e => h (by
  rw [ByteArray.toList_eq, ByteArray.toList_eq] at e
  exact ByteArray.ext (Array.toList_inj.1 e))
set_option maxHeartbeats 3200000 in
set_option maxRecDepth 100000 in
theorem parseSet_any (s : ByteArray) (w : World) (hs : s.size ≤ 1048576) (hv : VarE w) (ht : TabW w) : Calls Tryz.prog 6 #[.string s] w fun e w' => RngEndY (ppV s) w e w' := by
  have hb0 : Below w.heap.size w (w.alloc (.cells #[.int .i64 0, .slice none 0 0] 27)) := (Below.refl _ _).alloc (Nat.le_refl _) _
  have hv0 := hv.below hb0
  have ht0 := TabW.below ht hb0
  have hWs : (w.alloc (.cells #[.int .i64 0, .slice none 0 0] 27)).heap.size = w.heap.size + 1 := by simp
  obtain ⟨hl1, hl9⟩ := lP_len s
  have HPY : Hid (rfV (lP s) = 0 → str (txY (lP s)) = s → ppV s = (0, lP s)) := fun h1 h2 => if_pos ⟨h1, h2⟩
  have HPN : Hid (¬ (rfV (lP s) = 0 ∧ str (txY (lP s)) = s) → ppV s = (5, [])) := fun h => if_neg h
  have HSS := fun a n cap w hl hr hn ht => setText_any a n cap (lP s) w hl hr hn ht
  have HRI : Hid (_) := rangesIn_any s (w.alloc (.cells #[.int .i64 0, .slice none 0 0] 27)) hs hv0
  generalize lP s = L at *
  go_enter Tryz.func6, Tryz.ntmps6
  go_wp2_with fail
  refine Calls.mono HRI.out ?_
  rintro e w1 ⟨v1, rfl, ho1, hb1⟩
  have hbl1 : Below (w.heap.size + 1) (w.alloc (.cells #[.int .i64 0, .slice none 0 0] 27)) w1 := by rw [← hWs]; exact hb1
  have ht1 := TabW.below ht0 hb1
  rw [hWs] at ho1
  obtain ⟨a1, c1, hv1, -, -⟩ := ho1.form
  obtain ⟨N, hN⟩ : ∃ N, L.length = N := ⟨_, rfl⟩
  rw [hN] at hv1 hl1 hl9
  subst hv1
  generalize hW : w.alloc (.cells #[.int .i64 0, .slice none 0 0] 27) = W at *
  have hz1 : w.heap.size + 1 ≤ w1.heap.size := by have := hbl1.size; omega
  have HST : Hid (_) := HSS a1 N c1 w1 hN ho1.rd.2 (by omega) ht1
  clear HRI HSS hb1 hv0 ht0
  by_cases h0 : rfV L = 0
  · have hst : stT L = (0, txY L) := if_pos h0
    rw [hst] at HST
    simp only at HST
    have htl := txY_len L
    have hsx : (str (txY L)).size ≤ 1000 := by rw [str_size]; omega
    by_cases heq : str (txY L) = s
    · have H : Hid (ppV s = (0, L)) := HPY.out h0 heq
      rw [heq] at HST
      go_wp2_with fail
      refine Calls.mono HST.out ?_
      rintro e w2 ⟨rfl, hb2⟩
      have hbA : Below w2.heap.size w2 (w2.alloc (.cells #[.int .i64 0, .string s] 30)) := (Below.refl _ _).alloc (Nat.le_refl _) _
      have hb2' := hb2.trans (hbA.mono hb2.size)
      have hbl2 := hbl1.trans (hb2'.mono hz1)
      have ho2 := ho1.below hb2' (Nat.le_refl _)
      have hbE : Below w.heap.size w (w2.alloc (.cells #[.int .i64 0, .string s] 30)) := hb0.trans (hbl2.mono (by omega))
      obtain ⟨hcw, hcw1, hfw, hfw1⟩ := res_block hW hbl2
      obtain ⟨hk0, hk1⟩ := res_cells hcw hcw1 (.int .i64 0) (.slice a1 N c1)
      clear hb2 hb2' hbA hbl1 hbl2 ho1 HST HPY HPN
      have HO : Hid (_) := ho2
      go_wp2
      refine bodyPost_ret (v := .agg #[.int .i64 0, .slice a1 N c1]) (by simp [results, Tryz.results6, go_sem, hk0, hk1]) rfl ?_
      rw [H.out]
      exact RngEndY.some hbE ho2 _ _
    · have H : Hid (ppV s = (5, [])) := HPN.out (fun h => heq h.2)
      have hn0 := toList_ne heq
      generalize str (txY L) = sx at *
      have hn1 : (sx.toList == s.toList) = false := beq_eq_false_iff_ne.2 hn0
      have hn2 : (sx.toList != s.toList) = true := by rw [bne, hn1]; rfl
      go_wp2_with fail
      refine Calls.mono HST.out ?_
      rintro e w2 ⟨rfl, hb2⟩
      have hbA : Below w2.heap.size w2 (w2.alloc (.cells #[.int .i64 0, .string sx] 30)) := (Below.refl _ _).alloc (Nat.le_refl _) _
      have hb2' := hb2.trans (hbA.mono hb2.size)
      have hbl2 := hbl1.trans (hb2'.mono hz1)
      have hbE : Below w.heap.size w (w2.alloc (.cells #[.int .i64 0, .string sx] 30)) := hb0.trans (hbl2.mono (by omega))
      obtain ⟨hcw, hcw1, hfw, hfw1⟩ := res_block hW hbl2
      obtain ⟨hk0, hk1⟩ := res_cells hcw hcw1 (.int .i64 5) (.slice none 0 0)
      clear hb2 hb2' hbA hbl1 hbl2 ho1 HST HPY HPN
      go_wp2
      refine bodyPost_ret (v := .agg #[.int .i64 5, .slice none 0 0]) (by simp [results, Tryz.results6, go_sem, hk0, hk1]) rfl ?_
      rw [H.out]
      exact RngEndY.code hbE _ _
  · have hst : stT L = (rfV L, []) := if_neg h0
    have H : Hid (ppV s = (5, [])) := HPN.out (fun h => h0 h.1)
    rw [hst] at HST
    simp only at HST
    have h3 := rfV_three L
    generalize rfV L = c at *
    have hc0 : (c != 0) = true := by simp [h0]
    have hs0 : (str []).size = 0 := rfl
    generalize str [] = sx at *
    go_wp2_with fail
    refine Calls.mono HST.out ?_
    rintro e w2 ⟨rfl, hb2⟩
    have hbA : Below w2.heap.size w2 (w2.alloc (.cells #[.int .i64 c, .string sx] 30)) := (Below.refl _ _).alloc (Nat.le_refl _) _
    have hb2' := hb2.trans (hbA.mono hb2.size)
    have hbl2 := hbl1.trans (hb2'.mono hz1)
    have hbE : Below w.heap.size w (w2.alloc (.cells #[.int .i64 c, .string sx] 30)) := hb0.trans (hbl2.mono (by omega))
    obtain ⟨hcw, hcw1, hfw, hfw1⟩ := res_block hW hbl2
    obtain ⟨hk0, hk1⟩ := res_cells hcw hcw1 (.int .i64 5) (.slice none 0 0)
    clear hb2 hb2' hbA hbl1 hbl2 ho1 HST HPY HPN
    go_wp2
    refine bodyPost_ret (v := .agg #[.int .i64 5, .slice none 0 0]) (by simp [results, Tryz.results6, go_sem, hk0, hk1]) rfl ?_
    rw [H.out]
    exact RngEndY.code hbE _ _
end Go.Proofs.YtlkfmgfblfkgbaaGreatDoor
