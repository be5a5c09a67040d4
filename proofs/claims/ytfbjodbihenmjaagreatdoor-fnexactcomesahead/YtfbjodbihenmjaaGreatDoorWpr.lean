/- The pieces of a value that are no told words, the program's: blanks, and a character. -/
import Derived.Test.YtfbjodbihenmjaaGreatDoorWrd4aToWpq
import Derived.Test.YtfbjodbihenmjaaGreatDoorDec3
namespace Go.Proofs.YtfbjodbihenmjaaGreatDoor
open Go.RowKit

/-- The block of a piece that a function lays first, far on. -/
theorem wblock {w W wr : World} {c0 c1 c2 : Value} {t : TypeId} (hW : w.alloc (.cells #[c0, c1, c2] t) = W) (hb : Below (w.heap.size + 1) W wr) :
    wr.cell? ⟨w.heap.size, 0, none⟩ = some c0 ∧ wr.cell? ⟨w.heap.size, 1, none⟩ = some c1 ∧ wr.cell? ⟨w.heap.size, 2, none⟩ = some c2 ∧ wr.frozen? ⟨w.heap.size, 0, none⟩ = false ∧ wr.frozen? ⟨w.heap.size, 1, none⟩ = false ∧ wr.frozen? ⟨w.heap.size, 2, none⟩ = false := by
  subst hW
  refine ⟨?_, ?_, ?_, ?_, ?_, ?_⟩
  · rw [hb.cell (p := ⟨w.heap.size, 0, none⟩) (by simp)]; simp
  · rw [hb.cell (p := ⟨w.heap.size, 1, none⟩) (by simp)]; simp
  · rw [hb.cell (p := ⟨w.heap.size, 2, none⟩) (by simp)]; simp
  · rw [hb.frozen (p := ⟨w.heap.size, 0, none⟩) (by simp)]; simp
  · rw [hb.frozen (p := ⟨w.heap.size, 1, none⟩) (by simp)]; simp
  · rw [hb.frozen (p := ⟨w.heap.size, 2, none⟩) (by simp)]; simp
theorem wcells {wr : World} {sz : Nat} {x0 x1 x2 : Value} (h0 : wr.cell? ⟨sz, 0, none⟩ = some x0) (h1 : wr.cell? ⟨sz, 1, none⟩ = some x1) (h2 : wr.cell? ⟨sz, 2, none⟩ = some x2) (c t u : Value) :
    (wr.setCell ⟨sz, 0, none⟩ c).cell? ⟨sz, 0, none⟩ = some c ∧ ((wr.setCell ⟨sz, 0, none⟩ c).setCell ⟨sz, 1, none⟩ t).cell? ⟨sz, 1, none⟩ = some t ∧
    (((wr.setCell ⟨sz, 0, none⟩ c).setCell ⟨sz, 1, none⟩ t).setCell ⟨sz, 2, none⟩ u).cell? ⟨sz, 2, none⟩ = some u := by
  have h1' : (wr.setCell ⟨sz, 0, none⟩ c).cell? ⟨sz, 1, none⟩ = some x1 := by simp [go_sem, h1]
  have h2' : ((wr.setCell ⟨sz, 0, none⟩ c).setCell ⟨sz, 1, none⟩ t).cell? ⟨sz, 2, none⟩ = some x2 := by simp [go_sem, h2]
  exact ⟨World.cell?_setCell_same _ _ _ h0, World.cell?_setCell_same _ _ _ h1', World.cell?_setCell_same _ _ _ h2'⟩
/-- A piece of a value. -/
def PcEnd (r : Int × Nat × List Int) (w : World) (e : Ending) (w' : World) : Prop := ∃ v, e = .returned (.agg #[.int .i64 r.1, .int .i64 (r.2.1 : Int), v]) ∧ OwnI w' w.heap.size v r.2.2 ∧ Below w.heap.size w w'
theorem PcEnd.put {c : Int} {k : Nat} {w w1 : World} {v : Value} {l : List Int} (hbel : Below w.heap.size w w1) (hown : OwnI w1 (w.heap.size + 1) v l) (x y z : Value) :
    PcEnd (c, k, l) w (.returned (.agg #[.int .i64 c, .int .i64 (k : Int), v])) (((w1.setCell ⟨w.heap.size, 0, none⟩ x).setCell ⟨w.heap.size, 1, none⟩ y).setCell ⟨w.heap.size, 2, none⟩ z) :=
  ⟨_, rfl, (((hown.kept _ (by simp) _).kept _ (by simp) _).kept _ (by simp) _).lower (by omega), (((hbel.setCell (by simp) _).setCell (by simp) _).setCell (by simp) _)⟩

theorem nth_take {l : List Nat} {k i : Nat} (h : i < k) : nth (l.take k) i = nth l i := by
  unfold nth
  rw [List.getD_eq_getElem?_getD, List.getD_eq_getElem?_getD, List.getElem?_take, if_pos h]
theorem gss_take (v : List Nat) : gss 4 (v.take 3) = gss 4 v := by
  unfold gss
  rw [nth_take (by omega), nth_take (by omega), nth_take (by omega), List.length_take]
  by_cases h2 : 2 ≤ v.length
  · by_cases h3 : 3 ≤ v.length
    · simp only [show 2 ≤ min 3 v.length by omega, show 3 ≤ min 3 v.length by omega, h2, h3]
    · simp only [show 2 ≤ min 3 v.length by omega, show ¬ 3 ≤ min 3 v.length by omega, h2, h3]
  · simp only [show ¬ 2 ≤ min 3 v.length by omega, show ¬ 3 ≤ min 3 v.length by omega, h2, show ¬ 3 ≤ v.length by omega]
theorem gss_three (v : List Nat) : (gss 4 v).2 ≤ 3 := by
  unfold gss
  rw [if_neg (by decide), if_pos rfl]
  split
  · simp
  · split
    · simp
    · split <;> simp
theorem rdC_take (v : List Nat) : rdC 4 (v.take 3) = rdC 4 v := by
  unfold rdC
  rw [gss_take, List.take_take, Nat.min_eq_left (gss_three v)]
theorem take_min (v : List Nat) : v.take (min v.length 3) = v.take 3 := by
  by_cases h : v.length ≤ 3
  · rw [Nat.min_eq_left h, List.take_length, List.take_of_length_le h]
  · rw [Nat.min_eq_right (by omega)]

set_option maxHeartbeats 600000 in
set_option maxRecDepth 100000 in
theorem plainAt_any (t : List Nat) (n : Nat) (w : World) (hl : t.length = n) (hB : IsB t) (hn : n ≤ 1048576) (h0 : 0 < n) :
    Calls Tryz.prog 102 #[.string (str t)] w fun e w' => PcEnd (0, (cuV t).2, [(cuV t).1]) w e w' := by
  have hsz : (str t).size = n := by rw [str_size, hl]
  have hb0 : Below w.heap.size w (w.alloc (.cells #[.int .i64 0, .int .i64 0, .slice none 0 0] 121)) := (Below.refl _ _).alloc (Nat.le_refl _) _
  obtain ⟨k, hk⟩ : ∃ k, min n 3 = k := ⟨_, rfl⟩
  have hmin : min (n : Int) 3 = (k : Int) := by omega
  have hk1 : (0 : Int) ≤ (k : Int) := by omega
  have hk2 : (k : Int) ≤ (n : Int) := by omega
  have he : (str t).extract 0 k = str (t.take 3) := by rw [str_piece, List.drop_zero, ← hk, ← hl, take_min]
  have hl3 : (t.take 3).length = k := by rw [List.length_take, hl]; omega
  have hB3 := isB_take hB 3
  have HR := fun a cp wx (hr : Rd wx a (t.take 3)) (hcp : k ≤ cp) => readChar_4 a k cp (t.take 3) wx hl3 hr hB3 (by omega) hcp
  rw [rdC_take] at HR
  have HC : Hid (cuV t = if (rdC 4 t).2 = 0 then (65533, 1) else (((rdC 4 t).1 : Int), (rdC 4 t).2)) := rfl
  have hs3 : (str (t.take 3)).size = k := by rw [str_size, hl3]
  have hcv := fun wx => run_bytes_of_string (P := Tryz.prog) wx 9 22 5 (str (t.take 3)) Tryz.underlying9 Tryz.underlying22 Tryz.underlying5
  rw [hs3] at hcv
  have hrd := fun wx cp fr => bytesRow_rd wx (t.take 3) hB3 cp fr
  generalize cuV t = cu at *
  generalize rdC 4 t = rc at *
  obtain ⟨c, s⟩ := rc
  simp only at HR HC
  generalize t.take 3 = u at *
  clear hk hl3 hB3
  go_enter Tryz.func102, Tryz.ntmps102
  go_wp2_with fail
  have hcap := grownCap_ge (w.alloc (.cells #[.int .i64 0, .int .i64 0, .slice none 0 0] 121)) k 0 5
  have hsW : (w.alloc (.cells #[.int .i64 0, .int .i64 0, .slice none 0 0] 121)).heap.size = w.heap.size + 1 := by simp
  generalize hW : w.alloc (.cells #[.int .i64 0, .int .i64 0, .slice none 0 0] 121) = W at *
  generalize grownCap W k 0 5 = cp at *
  have hr3 : Rd (W.alloc (.cells (bytesRow (str u) cp) 5 ((bytesRow (str u) cp).size, (bytesRow (str u) cp).size + 1))).drew (some ⟨W.heap.size, 0, none⟩) u := hrd W cp _
  have hb3 : Below W.heap.size W (W.alloc (.cells (bytesRow (str u) cp) 5 ((bytesRow (str u) cp).size, (bytesRow (str u) cp).size + 1))).drew := ((Below.refl _ _).alloc (Nat.le_refl _) _).drew
  generalize (W.alloc (.cells (bytesRow (str u) cp) 5 ((bytesRow (str u) cp).size, (bytesRow (str u) cp).size + 1))).drew = W3 at *
  rw [hsW] at hr3
  refine (HR _ _ _ hr3 hcap).mono ?_
  rintro e w4 ⟨rfl, hb4⟩
  have hbl : Below (w.heap.size + 1) W w4 := (hb3.trans (hb4.mono hb3.size)).mono (by omega)
  have hbw := hb0.trans (hbl.mono (by omega))
  have hz4 := hbl.size
  rw [hsW] at hz4
  clear HR hcv hrd hr3 hb3 hb4
  by_cases hs0 : s = 0
  · have hcu : cu = (65533, 1) := HC.out.trans (if_pos hs0)
    subst hcu hs0
    obtain ⟨hc0, hc1, hc2, hf0, hf1, hf2⟩ := wblock hW hbl
    obtain ⟨hk0, hk1', hk2'⟩ := wcells hc0 hc1 hc2 (.int .i64 0) (.int .i64 1) (.slice (some ⟨w4.heap.size, 0, none⟩) 1 1)
    have hq0 : ∀ ob, ((((w4.setCell ⟨w.heap.size, 0, none⟩ (.int .i64 0)).setCell ⟨w.heap.size, 1, none⟩ (.int .i64 1)).setCell ⟨w.heap.size, 2, none⟩ (.slice (some ⟨w4.heap.size, 0, none⟩) 1 1)).alloc ob).cell? ⟨w.heap.size, 0, none⟩ = some (.int .i64 0) := fun ob => by
      rw [World.cell?_alloc_old _ _ _ (by simp; omega)]
      simp [go_sem, hk0]
    have hq1 : ∀ ob, ((((w4.setCell ⟨w.heap.size, 0, none⟩ (.int .i64 0)).setCell ⟨w.heap.size, 1, none⟩ (.int .i64 1)).setCell ⟨w.heap.size, 2, none⟩ (.slice (some ⟨w4.heap.size, 0, none⟩) 1 1)).alloc ob).cell? ⟨w.heap.size, 1, none⟩ = some (.int .i64 1) := fun ob => by
      rw [World.cell?_alloc_old _ _ _ (by simp; omega)]
      simp [go_sem, hk1']
    have hq2 : ∀ ob, ((((w4.setCell ⟨w.heap.size, 0, none⟩ (.int .i64 0)).setCell ⟨w.heap.size, 1, none⟩ (.int .i64 1)).setCell ⟨w.heap.size, 2, none⟩ (.slice (some ⟨w4.heap.size, 0, none⟩) 1 1)).alloc ob).cell? ⟨w.heap.size, 2, none⟩ = some (.slice (some ⟨w4.heap.size, 0, none⟩) 1 1) := fun ob => by
      rw [World.cell?_alloc_old _ _ _ (by simp; omega)]
      exact hk2'
    have hO := OwnI.lit (((w4.setCell ⟨w.heap.size, 0, none⟩ (.int .i64 0)).setCell ⟨w.heap.size, 1, none⟩ (.int .i64 1)).setCell ⟨w.heap.size, 2, none⟩ (.slice (some ⟨w4.heap.size, 0, none⟩) 1 1)) w.heap.size (by simp; omega) #[.int .i64 65533] [65533] rfl (by simp [maxLen])
    have hS : (((w4.setCell ⟨w.heap.size, 0, none⟩ (.int .i64 0)).setCell ⟨w.heap.size, 1, none⟩ (.int .i64 1)).setCell ⟨w.heap.size, 2, none⟩ (.slice (some ⟨w4.heap.size, 0, none⟩) 1 1)).heap.size = w4.heap.size := by simp
    rw [hS] at hO
    have hbZ := ((((hbw.setCell (p := ⟨w.heap.size, 0, none⟩) (by simp) (.int .i64 0)).setCell (p := ⟨w.heap.size, 1, none⟩) (by simp) (.int .i64 1)).setCell (p := ⟨w.heap.size, 2, none⟩) (by simp) (.slice (some ⟨w4.heap.size, 0, none⟩) 1 1)).alloc (by simp; omega) (.cells #[.int .i64 65533] 2))
    have hlt4 : w.heap.size < w4.heap.size := by omega
    go_wp2
    refine bodyPost_ret (v := .agg #[.int .i64 0, .int .i64 1, .slice (some ⟨w4.heap.size, 0, none⟩) 1 1]) (by simp [results, Tryz.results102, go_sem, hq0, hq1, hq2]) rfl ?_
    exact ⟨_, rfl, hO, hbZ⟩
  · have hcu : cu = ((c : Int), s) := HC.out.trans (if_neg hs0)
    subst hcu
    have hs0' : ((s : Int) == 0) = false := beq_eq_false_iff_ne.2 (by omega)
    obtain ⟨hc0, hc1, hc2, hf0, hf1, hf2⟩ := wblock hW hbl
    obtain ⟨hk0, hk1', hk2'⟩ := wcells hc0 hc1 hc2 (.int .i64 0) (.int .i64 (s : Int)) (.slice (some ⟨w4.heap.size, 0, none⟩) 1 1)
    have hq0 : ∀ ob, ((((w4.setCell ⟨w.heap.size, 0, none⟩ (.int .i64 0)).setCell ⟨w.heap.size, 1, none⟩ (.int .i64 (s : Int))).setCell ⟨w.heap.size, 2, none⟩ (.slice (some ⟨w4.heap.size, 0, none⟩) 1 1)).alloc ob).cell? ⟨w.heap.size, 0, none⟩ = some (.int .i64 0) := fun ob => by
      rw [World.cell?_alloc_old _ _ _ (by simp; omega)]
      simp [go_sem, hk0]
    have hq1 : ∀ ob, ((((w4.setCell ⟨w.heap.size, 0, none⟩ (.int .i64 0)).setCell ⟨w.heap.size, 1, none⟩ (.int .i64 (s : Int))).setCell ⟨w.heap.size, 2, none⟩ (.slice (some ⟨w4.heap.size, 0, none⟩) 1 1)).alloc ob).cell? ⟨w.heap.size, 1, none⟩ = some (.int .i64 (s : Int)) := fun ob => by
      rw [World.cell?_alloc_old _ _ _ (by simp; omega)]
      simp [go_sem, hk1']
    have hq2 : ∀ ob, ((((w4.setCell ⟨w.heap.size, 0, none⟩ (.int .i64 0)).setCell ⟨w.heap.size, 1, none⟩ (.int .i64 (s : Int))).setCell ⟨w.heap.size, 2, none⟩ (.slice (some ⟨w4.heap.size, 0, none⟩) 1 1)).alloc ob).cell? ⟨w.heap.size, 2, none⟩ = some (.slice (some ⟨w4.heap.size, 0, none⟩) 1 1) := fun ob => by
      rw [World.cell?_alloc_old _ _ _ (by simp; omega)]
      exact hk2'
    have hO := OwnI.lit (((w4.setCell ⟨w.heap.size, 0, none⟩ (.int .i64 0)).setCell ⟨w.heap.size, 1, none⟩ (.int .i64 (s : Int))).setCell ⟨w.heap.size, 2, none⟩ (.slice (some ⟨w4.heap.size, 0, none⟩) 1 1)) w.heap.size (by simp; omega) #[.int .i64 (c : Int)] [(c : Int)] rfl (by simp [maxLen])
    have hS : (((w4.setCell ⟨w.heap.size, 0, none⟩ (.int .i64 0)).setCell ⟨w.heap.size, 1, none⟩ (.int .i64 (s : Int))).setCell ⟨w.heap.size, 2, none⟩ (.slice (some ⟨w4.heap.size, 0, none⟩) 1 1)).heap.size = w4.heap.size := by simp
    rw [hS] at hO
    have hbZ := ((((hbw.setCell (p := ⟨w.heap.size, 0, none⟩) (by simp) (.int .i64 0)).setCell (p := ⟨w.heap.size, 1, none⟩) (by simp) (.int .i64 (s : Int))).setCell (p := ⟨w.heap.size, 2, none⟩) (by simp) (.slice (some ⟨w4.heap.size, 0, none⟩) 1 1)).alloc (by simp; omega) (.cells #[.int .i64 (c : Int)] 2))
    have hlt4 : w.heap.size < w4.heap.size := by omega
    go_wp2
    refine bodyPost_ret (v := .agg #[.int .i64 0, .int .i64 (s : Int), .slice (some ⟨w4.heap.size, 0, none⟩) 1 1]) (by simp [results, Tryz.results102, go_sem, hq0, hq1, hq2]) rfl ?_
    exact ⟨_, rfl, hO, hbZ⟩
end Go.Proofs.YtfbjodbihenmjaaGreatDoor
