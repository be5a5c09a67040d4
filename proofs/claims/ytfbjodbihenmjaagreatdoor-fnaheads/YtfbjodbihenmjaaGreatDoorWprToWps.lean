/- The pieces of a value that are no told words, the program's: blanks, and a character · The blanks of a value, the program's. -/
import Derived.Test.YtfbjodbihenmjaaGreatDoorWrd4aToWpq
import Derived.Test.YtfbjodbihenmjaaGreatDoorDec3
namespace Go.Proofs.YtfbjodbihenmjaaGreatDoor
open Go.RowKit

/-- The block of a piece that a function lays first, far on. -/
theorem wblock {w W wr : World} {c0 c1 c2 : Value} {t : TypeId} (hW : w.alloc (.cells #[c0, c1, c2] t) = W) (hb : Below (w.heap.size + 1) W wr) :
    wr.cell? ⟨w.heap.size, 0, none⟩ = some c0 ∧ wr.cell? ⟨w.heap.size, 1, none⟩ = some c1 ∧ wr.cell? ⟨w.heap.size, 2, none⟩ = some c2 ∧ wr.frozen? ⟨w.heap.size, 0, none⟩ = false ∧ wr.frozen? ⟨w.heap.size, 1, none⟩ = false ∧ wr.frozen? ⟨w.heap.size, 2, none⟩ = false := by
  subst hW
  refine ⟨?_, ?_, ?_, ?_, ?_, ?_⟩
  · rw [hb.cell (p := ⟨w.heap.size, 0, none⟩) (by simp)]; simp
  · rw [hb.cell (p := ⟨w.heap.size, 1, none⟩) (by simp)]; simp
  · rw [hb.cell (p := ⟨w.heap.size, 2, none⟩) (by simp)]; simp
  · rw [hb.frozen (p := ⟨w.heap.size, 0, none⟩) (by simp)]; simp
  · rw [hb.frozen (p := ⟨w.heap.size, 1, none⟩) (by simp)]; simp
  · rw [hb.frozen (p := ⟨w.heap.size, 2, none⟩) (by simp)]; simp
theorem wcells {wr : World} {sz : Nat} {x0 x1 x2 : Value} (h0 : wr.cell? ⟨sz, 0, none⟩ = some x0) (h1 : wr.cell? ⟨sz, 1, none⟩ = some x1) (h2 : wr.cell? ⟨sz, 2, none⟩ = some x2) (c t u : Value) :
    (wr.setCell ⟨sz, 0, none⟩ c).cell? ⟨sz, 0, none⟩ = some c ∧ ((wr.setCell ⟨sz, 0, none⟩ c).setCell ⟨sz, 1, none⟩ t).cell? ⟨sz, 1, none⟩ = some t ∧
    (((wr.setCell ⟨sz, 0, none⟩ c).setCell ⟨sz, 1, none⟩ t).setCell ⟨sz, 2, none⟩ u).cell? ⟨sz, 2, none⟩ = some u := by
  have h1' : (wr.setCell ⟨sz, 0, none⟩ c).cell? ⟨sz, 1, none⟩ = some x1 := by simp [go_sem, h1]
  have h2' : ((wr.setCell ⟨sz, 0, none⟩ c).setCell ⟨sz, 1, none⟩ t).cell? ⟨sz, 2, none⟩ = some x2 := by simp [go_sem, h2]
  exact ⟨World.cell?_setCell_same _ _ _ h0, World.cell?_setCell_same _ _ _ h1', World.cell?_setCell_same _ _ _ h2'⟩
/-- A piece of a value. -/
def PcEnd (r : Int × Nat × List Int) (w : World) (e : Ending) (w' : World) : Prop := ∃ v, e = .returned (.agg #[.int .i64 r.1, .int .i64 (r.2.1 : Int), v]) ∧ OwnI w' w.heap.size v r.2.2 ∧ Below w.heap.size w w'
theorem PcEnd.put {c : Int} {k : Nat} {w w1 : World} {v : Value} {l : List Int} (hbel : Below w.heap.size w w1) (hown : OwnI w1 (w.heap.size + 1) v l) (x y z : Value) :
    PcEnd (c, k, l) w (.returned (.agg #[.int .i64 c, .int .i64 (k : Int), v])) (((w1.setCell ⟨w.heap.size, 0, none⟩ x).setCell ⟨w.heap.size, 1, none⟩ y).setCell ⟨w.heap.size, 2, none⟩ z) :=
  ⟨_, rfl, (((hown.kept _ (by simp) _).kept _ (by simp) _).kept _ (by simp) _).lower (by omega), (((hbel.setCell (by simp) _).setCell (by simp) _).setCell (by simp) _)⟩

theorem nth_take {l : List Nat} {k i : Nat} (h : i < k) : nth (l.take k) i = nth l i := by
  unfold nth
  rw [List.getD_eq_getElem?_getD, List.getD_eq_getElem?_getD, List.getElem?_take, if_pos h]
theorem gss_take (v : List Nat) : gss 4 (v.take 3) = gss 4 v := by
  unfold gss
  rw [nth_take (by omega), nth_take (by omega), nth_take (by omega), List.length_take]
  by_cases h2 : 2 ≤ v.length
  · by_cases h3 : 3 ≤ v.length
    · simp only [show 2 ≤ min 3 v.length by omega, show 3 ≤ min 3 v.length by omega, h2, h3]
    · simp only [show 2 ≤ min 3 v.length by omega, show ¬ 3 ≤ min 3 v.length by omega, h2, h3]
  · simp only [show ¬ 2 ≤ min 3 v.length by omega, show ¬ 3 ≤ min 3 v.length by omega, h2, show ¬ 3 ≤ v.length by omega]
theorem gss_three (v : List Nat) : (gss 4 v).2 ≤ 3 := by
  unfold gss
  rw [if_neg (by decide), if_pos rfl]
  split
  · simp
  · split
    · simp
    · split <;> simp
theorem rdC_take (v : List Nat) : rdC 4 (v.take 3) = rdC 4 v := by
  unfold rdC
  rw [gss_take, List.take_take, Nat.min_eq_left (gss_three v)]
theorem take_min (v : List Nat) : v.take (min v.length 3) = v.take 3 := by
  by_cases h : v.length ≤ 3
  · rw [Nat.min_eq_left h, List.take_length, List.take_of_length_le h]
  · rw [Nat.min_eq_right (by omega)]

set_option maxHeartbeats 600000 in
set_option maxRecDepth 100000 in
theorem plainAt_any (t : List Nat) (n : Nat) (w : World) (hl : t.length = n) (hB : IsB t) (hn : n ≤ 1048576) (h0 : 0 < n) :
    Calls Tryz.prog 102 #[.string (str t)] w fun e w' => PcEnd (0, (cuV t).2, [(cuV t).1]) w e w' := by
  have hsz : (str t).size = n := by rw [str_size, hl]
  have hb0 : Below w.heap.size w (w.alloc (.cells #[.int .i64 0, .int .i64 0, .slice none 0 0] 121)) := (Below.refl _ _).alloc (Nat.le_refl _) _
  obtain ⟨k, hk⟩ : ∃ k, min n 3 = k := ⟨_, rfl⟩
  have hmin : min (n : Int) 3 = (k : Int) := by omega
  have hk1 : (0 : Int) ≤ (k : Int) := by omega
  have hk2 : (k : Int) ≤ (n : Int) := by omega
  have he : (str t).extract 0 k = str (t.take 3) := by rw [str_piece, List.drop_zero, ← hk, ← hl, take_min]
  have hl3 : (t.take 3).length = k := by rw [List.length_take, hl]; omega
  have hB3 := isB_take hB 3
  have HR := fun a cp wx (hr : Rd wx a (t.take 3)) (hcp : k ≤ cp) => readChar_4 a k cp (t.take 3) wx hl3 hr hB3 (by omega) hcp
  rw [rdC_take] at HR
  have HC : Hid (cuV t = if (rdC 4 t).2 = 0 then (65533, 1) else (((rdC 4 t).1 : Int), (rdC 4 t).2)) := rfl
  have hs3 : (str (t.take 3)).size = k := by rw [str_size, hl3]
  have hcv := fun wx => run_bytes_of_string (P := Tryz.prog) wx 9 22 5 (str (t.take 3)) Tryz.underlying9 Tryz.underlying22 Tryz.underlying5
  rw [hs3] at hcv
  have hrd := fun wx cp fr => bytesRow_rd wx (t.take 3) hB3 cp fr
  generalize cuV t = cu at *
  generalize rdC 4 t = rc at *
  obtain ⟨c, s⟩ := rc
  simp only at HR HC
  generalize t.take 3 = u at *
  clear hk hl3 hB3
  go_enter Tryz.func102, Tryz.ntmps102
  go_wp2_with fail
  have hcap := grownCap_ge (w.alloc (.cells #[.int .i64 0, .int .i64 0, .slice none 0 0] 121)) k 0 5
  have hsW : (w.alloc (.cells #[.int .i64 0, .int .i64 0, .slice none 0 0] 121)).heap.size = w.heap.size + 1 := by simp
  generalize hW : w.alloc (.cells #[.int .i64 0, .int .i64 0, .slice none 0 0] 121) = W at *
  generalize grownCap W k 0 5 = cp at *
  have hr3 : Rd (W.alloc (.cells (bytesRow (str u) cp) 5 ((bytesRow (str u) cp).size, (bytesRow (str u) cp).size + 1))).drew (some ⟨W.heap.size, 0, none⟩) u := hrd W cp _
  have hb3 : Below W.heap.size W (W.alloc (.cells (bytesRow (str u) cp) 5 ((bytesRow (str u) cp).size, (bytesRow (str u) cp).size + 1))).drew := ((Below.refl _ _).alloc (Nat.le_refl _) _).drew
  generalize (W.alloc (.cells (bytesRow (str u) cp) 5 ((bytesRow (str u) cp).size, (bytesRow (str u) cp).size + 1))).drew = W3 at *
  rw [hsW] at hr3
  refine (HR _ _ _ hr3 hcap).mono ?_
  rintro e w4 ⟨rfl, hb4⟩
  have hbl : Below (w.heap.size + 1) W w4 := (hb3.trans (hb4.mono hb3.size)).mono (by omega)
  have hbw := hb0.trans (hbl.mono (by omega))
  have hz4 := hbl.size
  rw [hsW] at hz4
  clear HR hcv hrd hr3 hb3 hb4
  by_cases hs0 : s = 0
  · have hcu : cu = (65533, 1) := HC.out.trans (if_pos hs0)
    subst hcu hs0
    obtain ⟨hc0, hc1, hc2, hf0, hf1, hf2⟩ := wblock hW hbl
    obtain ⟨hk0, hk1', hk2'⟩ := wcells hc0 hc1 hc2 (.int .i64 0) (.int .i64 1) (.slice (some ⟨w4.heap.size, 0, none⟩) 1 1)
    have hq0 : ∀ ob, ((((w4.setCell ⟨w.heap.size, 0, none⟩ (.int .i64 0)).setCell ⟨w.heap.size, 1, none⟩ (.int .i64 1)).setCell ⟨w.heap.size, 2, none⟩ (.slice (some ⟨w4.heap.size, 0, none⟩) 1 1)).alloc ob).cell? ⟨w.heap.size, 0, none⟩ = some (.int .i64 0) := fun ob => by
      rw [World.cell?_alloc_old _ _ _ (by simp; omega)]
      simp [go_sem, hk0]
    have hq1 : ∀ ob, ((((w4.setCell ⟨w.heap.size, 0, none⟩ (.int .i64 0)).setCell ⟨w.heap.size, 1, none⟩ (.int .i64 1)).setCell ⟨w.heap.size, 2, none⟩ (.slice (some ⟨w4.heap.size, 0, none⟩) 1 1)).alloc ob).cell? ⟨w.heap.size, 1, none⟩ = some (.int .i64 1) := fun ob => by
      rw [World.cell?_alloc_old _ _ _ (by simp; omega)]
      simp [go_sem, hk1']
    have hq2 : ∀ ob, ((((w4.setCell ⟨w.heap.size, 0, none⟩ (.int .i64 0)).setCell ⟨w.heap.size, 1, none⟩ (.int .i64 1)).setCell ⟨w.heap.size, 2, none⟩ (.slice (some ⟨w4.heap.size, 0, none⟩) 1 1)).alloc ob).cell? ⟨w.heap.size, 2, none⟩ = some (.slice (some ⟨w4.heap.size, 0, none⟩) 1 1) := fun ob => by
      rw [World.cell?_alloc_old _ _ _ (by simp; omega)]
      exact hk2'
    have hO := OwnI.lit (((w4.setCell ⟨w.heap.size, 0, none⟩ (.int .i64 0)).setCell ⟨w.heap.size, 1, none⟩ (.int .i64 1)).setCell ⟨w.heap.size, 2, none⟩ (.slice (some ⟨w4.heap.size, 0, none⟩) 1 1)) w.heap.size (by simp; omega) #[.int .i64 65533] [65533] rfl (by simp [maxLen])
    have hS : (((w4.setCell ⟨w.heap.size, 0, none⟩ (.int .i64 0)).setCell ⟨w.heap.size, 1, none⟩ (.int .i64 1)).setCell ⟨w.heap.size, 2, none⟩ (.slice (some ⟨w4.heap.size, 0, none⟩) 1 1)).heap.size = w4.heap.size := by simp
    rw [hS] at hO
    have hbZ := ((((hbw.setCell (p := ⟨w.heap.size, 0, none⟩) (by simp) (.int .i64 0)).setCell (p := ⟨w.heap.size, 1, none⟩) (by simp) (.int .i64 1)).setCell (p := ⟨w.heap.size, 2, none⟩) (by simp) (.slice (some ⟨w4.heap.size, 0, none⟩) 1 1)).alloc (by simp; omega) (.cells #[.int .i64 65533] 2))
    have hlt4 : w.heap.size < w4.heap.size := by omega
    go_wp2
    refine bodyPost_ret (v := .agg #[.int .i64 0, .int .i64 1, .slice (some ⟨w4.heap.size, 0, none⟩) 1 1]) (by simp [results, Tryz.results102, go_sem, hq0, hq1, hq2]) rfl ?_
    exact ⟨_, rfl, hO, hbZ⟩
  · have hcu : cu = ((c : Int), s) := HC.out.trans (if_neg hs0)
    subst hcu
    have hs0' : ((s : Int) == 0) = false := beq_eq_false_iff_ne.2 (by omega)
    obtain ⟨hc0, hc1, hc2, hf0, hf1, hf2⟩ := wblock hW hbl
    obtain ⟨hk0, hk1', hk2'⟩ := wcells hc0 hc1 hc2 (.int .i64 0) (.int .i64 (s : Int)) (.slice (some ⟨w4.heap.size, 0, none⟩) 1 1)
    have hq0 : ∀ ob, ((((w4.setCell ⟨w.heap.size, 0, none⟩ (.int .i64 0)).setCell ⟨w.heap.size, 1, none⟩ (.int .i64 (s : Int))).setCell ⟨w.heap.size, 2, none⟩ (.slice (some ⟨w4.heap.size, 0, none⟩) 1 1)).alloc ob).cell? ⟨w.heap.size, 0, none⟩ = some (.int .i64 0) := fun ob => by
      rw [World.cell?_alloc_old _ _ _ (by simp; omega)]
      simp [go_sem, hk0]
    have hq1 : ∀ ob, ((((w4.setCell ⟨w.heap.size, 0, none⟩ (.int .i64 0)).setCell ⟨w.heap.size, 1, none⟩ (.int .i64 (s : Int))).setCell ⟨w.heap.size, 2, none⟩ (.slice (some ⟨w4.heap.size, 0, none⟩) 1 1)).alloc ob).cell? ⟨w.heap.size, 1, none⟩ = some (.int .i64 (s : Int)) := fun ob => by
      rw [World.cell?_alloc_old _ _ _ (by simp; omega)]
      simp [go_sem, hk1']
    have hq2 : ∀ ob, ((((w4.setCell ⟨w.heap.size, 0, none⟩ (.int .i64 0)).setCell ⟨w.heap.size, 1, none⟩ (.int .i64 (s : Int))).setCell ⟨w.heap.size, 2, none⟩ (.slice (some ⟨w4.heap.size, 0, none⟩) 1 1)).alloc ob).cell? ⟨w.heap.size, 2, none⟩ = some (.slice (some ⟨w4.heap.size, 0, none⟩) 1 1) := fun ob => by
      rw [World.cell?_alloc_old _ _ _ (by simp; omega)]
      exact hk2'
    have hO := OwnI.lit (((w4.setCell ⟨w.heap.size, 0, none⟩ (.int .i64 0)).setCell ⟨w.heap.size, 1, none⟩ (.int .i64 (s : Int))).setCell ⟨w.heap.size, 2, none⟩ (.slice (some ⟨w4.heap.size, 0, none⟩) 1 1)) w.heap.size (by simp; omega) #[.int .i64 (c : Int)] [(c : Int)] rfl (by simp [maxLen])
    have hS : (((w4.setCell ⟨w.heap.size, 0, none⟩ (.int .i64 0)).setCell ⟨w.heap.size, 1, none⟩ (.int .i64 (s : Int))).setCell ⟨w.heap.size, 2, none⟩ (.slice (some ⟨w4.heap.size, 0, none⟩) 1 1)).heap.size = w4.heap.size := by simp
    rw [hS] at hO
    have hbZ := ((((hbw.setCell (p := ⟨w.heap.size, 0, none⟩) (by simp) (.int .i64 0)).setCell (p := ⟨w.heap.size, 1, none⟩) (by simp) (.int .i64 (s : Int))).setCell (p := ⟨w.heap.size, 2, none⟩) (by simp) (.slice (some ⟨w4.heap.size, 0, none⟩) 1 1)).alloc (by simp; omega) (.cells #[.int .i64 (c : Int)] 2))
    have hlt4 : w.heap.size < w4.heap.size := by omega
    go_wp2
    refine bodyPost_ret (v := .agg #[.int .i64 0, .int .i64 (s : Int), .slice (some ⟨w4.heap.size, 0, none⟩) 1 1]) (by simp [results, Tryz.results102, go_sem, hq0, hq1, hq2]) rfl ?_
    exact ⟨_, rfl, hO, hbZ⟩
end Go.Proofs.YtfbjodbihenmjaaGreatDoor

namespace Go.Proofs.YtfbjodbihenmjaaGreatDoor
open Go.RowKit

theorem isBlankOrTab_gap (c : Nat) (w : World) (hc : c < 256) : Calls Tryz.prog 100 #[.int .u8 (c : Int)] w fun e w' => e = .returned (.bool (gapB c)) ∧ w = w' := by
  go_enter Tryz.func100, Tryz.ntmps100
  go_wp2
  all_goals (go_ret; refine ret_bool ?_; rw [Bool.eq_iff_iff]; unfold gapB; simp; try omega)
theorem asI_snoc (l : List Nat) (x : Nat) : asI (l ++ [x]) = asI l ++ [(x : Int)] := by simp [asI]
theorem asI_len (l : List Nat) : (asI l).length = l.length := by simp [asI]
theorem take_snocB {t : List Nat} {j : Nat} (h : j < t.length) : t.take (j + 1) = t.take j ++ [nth t j] := by
  rw [List.take_add_one, List.getElem?_eq_getElem h]
  unfold nth
  rw [List.getD_eq_getElem?_getD, List.getElem?_eq_getElem h]
  rfl
/-- How many are left, by the cell that counts. -/
def leftAt (n G : Nat) (w : World) : Nat := match w.cell? ⟨G, 1, none⟩ with
  | some (.int _ j) => n - j.toNat
  | _ => 0
theorem leftAt_is {n G j : Nat} {w : World} (h : w.cell? ⟨G, 1, none⟩ = some (.int .i64 (j : Int))) : leftAt n G w = n - j := by unfold leftAt; rw [h]; simp

set_option maxHeartbeats 1600000 in
set_option maxRecDepth 100000 in
theorem blanksAt_any (t : List Nat) (n : Nat) (w : World) (hl : t.length = n) (hB : IsB t) (hn : n ≤ 1048576) :
    Calls Tryz.prog 101 #[.string (str t)] w fun e w' => PcEnd (1, runL gapB t 0, asI (t.take (runL gapB t 0))) w e w' := by
  have hsz : (str t).size = n := by rw [str_size, hl]
  have HL : Hid (t.length = n) := hl
  have hb0 : Below w.heap.size w (w.alloc (.cells #[.int .i64 0, .int .i64 0, .slice none 0 0] 121)) := (Below.refl _ _).alloc (Nat.le_refl _) _
  clear hl
  obtain ⟨R, HR⟩ : ∃ R, Hid (runL gapB t 0 = R) := ⟨_, rfl⟩
  rw [HR.out]
  go_enter Tryz.func101, Tryz.ntmps101
  go_wp2
  have hsW : (w.alloc (.cells #[.int .i64 0, .int .i64 0, .slice none 0 0] 121)).heap.size = w.heap.size + 1 := by simp
  generalize hW : w.alloc (.cells #[.int .i64 0, .int .i64 0, .slice none 0 0] 121) = W at *
  generalize hG : w.heap.size + 1 = G at *
  have HG : Hid (w.heap.size + 1 = G) := hG
  clear hG
  go_loopw [] (fun wr => ∃ (j : Nat) (cv : Value), Hid (R = j + runL gapB t j) ∧ j ≤ n ∧ wr.cell? ⟨G, 0, none⟩ = some (.int .i64 1) ∧ wr.cell? ⟨G, 1, none⟩ = some (.int .i64 (j : Int)) ∧ wr.cell? ⟨G, 2, none⟩ = some cv ∧ wr.frozen? ⟨G, 1, none⟩ = false ∧ wr.frozen? ⟨G, 2, none⟩ = false ∧ G < wr.heap.size ∧ OwnI wr (G + 1) cv (asI (t.take j)) ∧ Below G W wr) (fun wr => leftAt n G wr)
  case atStart =>
    refine ⟨0, .slice none 0 0, by rw [Nat.zero_add]; exact HR.out.symm, Nat.zero_le _, ?_, ?_, ?_, ?_, ?_, ?_, OwnI.nil _ _, (Below.refl _ _).alloc (by omega) _⟩
    all_goals (subst hsW; simp)
  case round =>
    obtain ⟨j, cv, HJ, hj, hg0, hg1, hg2, hgf1, hgf2, hGlt, hown, hbel⟩ := hrel
    obtain ⟨mc, ac, cc, rfl⟩ : ∃ mc ac cc, cv = .slice ac mc cc := by
      obtain ⟨a, c, h, _⟩ := hown.form
      exact ⟨_, _, _, h⟩
    by_cases hjn : j < n
    · have hji : (j : Int) < (n : Int) := by omega
      have hx := nth_lt hB j
      have hget := str_get hB (i := j) (by rw [hsz]; exact hjn)
      have HC : Hid (∀ w, Calls Tryz.prog 100 #[.int .u8 (nth t j : Int)] w fun e w' => e = .returned (.bool (gapB (nth t j))) ∧ w = w') := fun w => isBlankOrTab_gap (nth t j) w hx
      have hg1m := hg1
      cases hgap : gapB (nth t j) with
      | true =>
        have HM : Hid (R = (j + 1) + runL gapB t (j + 1)) := by
          show R = _
          rw [HJ.out, runL_step (by have := HL.out; omega) hgap]; omega
        have HT : Hid (asI (t.take (j + 1)) = asI (t.take j) ++ [(nth t j : Int)]) := by
          show _ = _
          rw [take_snocB (by have := HL.out; omega), asI_snoc]
        have hlen : (asI (t.take j)).length ≤ 1048576 := by rw [asI_len, List.length_take]; omega
        rw [hgap] at HC
        clear hgap HJ hB
        generalize asI (t.take j) = out at *
        generalize nth t j = x at *
        have hwr : IntKind.i64.wrap (x : Int) = (x : Int) := IntWalk.i64_in _ (by omega)
        have hA1 : (wr.alloc (.cells #[.int .i64 (x : Int)] 2)).cell? ⟨G, 1, none⟩ = some (.int .i64 (j : Int)) := by rw [World.cell?_alloc_old _ _ _ (show G ≠ _ by omega)]; exact hg1
        have hA2 : (wr.alloc (.cells #[.int .i64 (x : Int)] 2)).cell? ⟨G, 2, none⟩ = some (.slice ac mc cc) := by rw [World.cell?_alloc_old _ _ _ (show G ≠ _ by omega)]; exact hg2
        have hA0 := hA2
        have hbA : Below (G + 1) wr (wr.alloc (.cells #[.int .i64 (x : Int)] 2)) := (Below.refl _ _).alloc hGlt _
        have hnewq : ∀ j', j' < 1 → (wr.alloc (.cells #[.int .i64 (x : Int)] 2)).cell? ((⟨wr.heap.size, 0, none⟩ : Addr).add j') = some (.int .i64 (nthI [(x : Int)] j')) := fun j' hj' => by
          obtain rfl : j' = 0 := by omega
          simp [Addr.add, nthI]
        go_wp2_with fail
        refine (HC.out _).mono ?_
        rintro e w1 ⟨rfl, rfl⟩
        go_wp2_with fail
        refine wp_region_held_drew (S := fun w' => w'.cell? ⟨G, 1, none⟩ = some (.int .i64 (j : Int))) (by kernel_rfl) ?hS1 (fun hHeld => ?_)
        case hS1 => exact hg1
        refine wpAnyH_take (i := 0) (v := ?_) rfl (by kernel_rfl) (by kernel_rfl) (by kernel_rfl) (fun _ _ _ h => h) (Or.inl ⟨by rfl, ?hy2⟩) (by assumption) ?ty2
        case hy2 => (intro w hSw; (try dsimp only at hSw); go_simp; all_goals with_reducible rfl)
        simp only [Act.put, List.getElem_toArray, List.getElem_cons_zero, List.setIfInBounds_toArray, List.set_cons_zero, List.set_cons_succ]
        refine wpAnyH_take (i := 2) (v := ?_) rfl (by kernel_rfl) (by kernel_rfl) (by kernel_rfl) (fun _ _ _ h => h) (Or.inl ⟨by rfl, ?hy3⟩) (by assumption) ?ty3
        case hy3 => (intro w hSw; (try dsimp only at hSw); go_simp; all_goals with_reducible rfl)
        simp only [Act.put, List.getElem_toArray, List.getElem_cons_zero, List.getElem_cons_succ, List.setIfInBounds_toArray, List.set_cons_zero, List.set_cons_succ]
        refine wpAnyH_take (i := 3) (v := ?_) rfl (by kernel_rfl) (by kernel_rfl) (by kernel_rfl) (fun _ _ _ h => h) (Or.inl ⟨by rfl, ?hy4⟩) (by assumption) ?ty4
        case hy4 => (intro w hSw; (try dsimp only at hSw); go_simp; all_goals with_reducible rfl)
        simp only [Act.put, List.getElem_toArray, List.getElem_cons_zero, List.getElem_cons_succ, List.setIfInBounds_toArray, List.set_cons_zero, List.set_cons_succ]
        refine wpAnyH_take (i := 4) (v := .int .i64 (j : Int)) rfl (by kernel_rfl) (by kernel_rfl) (by kernel_rfl) (fun _ _ _ h => h) (Or.inl ⟨by rfl, ?hy5⟩) (by assumption) ?ty5
        case hy5 => (intro w hSw; (try dsimp only at hSw); go_simp; first | (simp [hSw]; done) | (all_goals with_reducible rfl))
        simp only [Act.put, List.getElem_toArray, List.getElem_cons_zero, List.getElem_cons_succ, List.setIfInBounds_toArray, List.set_cons_zero, List.set_cons_succ]
        refine wpAnyH_take (i := 5) (v := .int .u8 (x : Int)) rfl (by kernel_rfl) (by kernel_rfl) (by kernel_rfl) (fun _ _ _ h => h) (Or.inl ⟨by rfl, ?hy6⟩) (by assumption) ?ty6
        case hy6 => (intro w hSw; (try dsimp only at hSw); go_simp; all_goals first | (simp [hget]; done) | (intro hneg; omega) | (with_reducible rfl))
        simp only [Act.put, List.getElem_toArray, List.getElem_cons_zero, List.getElem_cons_succ, List.setIfInBounds_toArray, List.set_cons_zero, List.set_cons_succ]
        refine wpAnyH_take (i := 6) (v := .int .i64 (x : Int)) rfl (by kernel_rfl) (by kernel_rfl) (by kernel_rfl) (fun _ _ _ h => h) (Or.inl ⟨by rfl, ?hy7⟩) (by assumption) ?ty7
        case hy7 => (intro w hSw; (try dsimp only at hSw); go_simp; all_goals first | (simp [hwr]; done) | (with_reducible rfl))
        simp only [Act.put, List.getElem_toArray, List.getElem_cons_zero, List.getElem_cons_succ, List.setIfInBounds_toArray, List.set_cons_zero, List.set_cons_succ]
        refine wpAnyH_ready (rs := [1, 7]) (by kernel_rfl) (by simp) ?_
        refine AllReadyH.cons rfl (fun K hK => ?_) (AllReadyH.cons rfl (fun K hK => ?_) AllReadyH.nil)
        · go_simp
          refine hK.out _ _ hg1 (fun hHeld => ?_)
          clear hK K
          refine wpAnyH_ready (rs := [7]) (by kernel_rfl) (by simp) ?_
          refine AllReadyH.cons rfl (fun K hK => ?_) AllReadyH.nil
          go_simp
          refine hK.out _ _ hA1 (fun hHeld => ?_)
          clear hK K
          refine wpAnyH_ready (rs := [8]) (by kernel_rfl) (by simp) ?_
          refine AllReadyH.cons rfl (fun K hK => ?_) AllReadyH.nil
          refine step_appI (by rfl) _ _ (by rfl) (G + 1) (.slice ac mc cc) out (by rfl) (hown.alloc _) ⟨wr.heap.size, 0, none⟩ 1 _ [(x : Int)] (by rfl) (by rfl) hnewq (by omega) (by simp; omega) ?_
          intro v' w2 hown' hb'
          have hb2 := hbA.drew.trans hb'
          have k0 := (hb2.cell (p := ⟨G, 0, none⟩) (by simp)).trans hg0
          have k1 := (hb2.cell (p := ⟨G, 1, none⟩) (by simp)).trans hg1
          have k2 := (hb2.cell (p := ⟨G, 2, none⟩) (by simp)).trans hg2
          have kf := (hb2.frozen (p := ⟨G, 2, none⟩) (by simp)).trans hgf2
          have kf1 := (hb2.frozen (p := ⟨G, 1, none⟩) (by simp)).trans hgf1
          have klt : G < w2.heap.size := Nat.lt_of_lt_of_le hGlt hb2.size
          obtain ⟨m', a', c', rfl⟩ : ∃ m' a' c', v' = .slice a' m' c' := by
            obtain ⟨a, c, h, _⟩ := hown'.form
            exact ⟨_, _, _, h⟩
          refine hK.out _ _ k1 (fun hHeld => ?_)
          clear hK K hA1 hA2 hA0
          have hbelZ := hbel.trans (hb2.mono (Nat.le_succ _))
          clear hbel hb2 hbA hb' hg0 hg1 hg2 hgf1 hgf2 hGlt hown hnewq
          refine wpAnyH_take (i := 9) (v := ?_) rfl (by kernel_rfl) (by kernel_rfl) (by kernel_rfl) (fun _ _ _ h => h) (Or.inl ⟨by rfl, ?hy8⟩) (by assumption) ?ty8
          case hy8 => (intro w hSw; (try dsimp only at hSw); go_simp; all_goals with_reducible rfl)
          simp only [Act.put, List.getElem_toArray, List.getElem_cons_zero, List.getElem_cons_succ, List.setIfInBounds_toArray, List.set_cons_zero, List.set_cons_succ]
          refine wpAnyH_ready (rs := [10]) (by kernel_rfl) (by simp) ?_
          refine AllReadyH.cons rfl (fun K hK => ?_) AllReadyH.nil
          go_simp
          have kk1 : (w2.setCell ⟨G, 2, none⟩ (.slice a' m' c')).cell? ⟨G, 1, none⟩ = some (.int .i64 (j : Int)) := by simp [go_sem, k1]
          refine hK.out _ _ kk1 (fun hHeld => ?_)
          clear hK K
          refine wpAnyH_done (by kernel_rfl) ?_ _
          have z2 : (w2.setCell ⟨G, 2, none⟩ (.slice a' m' c')).cell? ⟨G, 2, none⟩ = some (.slice a' m' c') := World.cell?_setCell_same _ _ _ k2
          have z1 : ((w2.setCell ⟨G, 2, none⟩ (.slice a' m' c')).setCell ⟨G, 1, none⟩ (.int .i64 ((j : Int) + 1))).cell? ⟨G, 1, none⟩ = some (.int .i64 ((j : Int) + 1)) := World.cell?_setCell_same _ _ _ kk1
          have zf1 : (w2.setCell ⟨G, 2, none⟩ (.slice a' m' c')).frozen? ⟨G, 1, none⟩ = false := by simp [go_sem, kf1]
          go_wp2
          go_roundw
          case rel =>
            refine ⟨j + 1, (.slice a' m' c'), HM, by omega, ?_, ?_, ?_, ?_, ?_, ?_, ?_, ?_⟩
            · simp [go_sem, k0]
            · rw [show ((j + 1 : Nat) : Int) = (j : Int) + 1 by omega]; exact z1
            · simp [go_sem, z2]
            · simp [go_sem, kf1]
            · simp [go_sem, kf]
            · simp; omega
            · have hq := (hown'.kept ⟨G, 2, none⟩ (by simp) (.slice a' m' c')).kept ⟨G, 1, none⟩ (by simp) (.int .i64 ((j : Int) + 1))
              rw [HT.out]; exact hq
            · exact (hbelZ.setCell (by simp) _).setCell (by simp) _
          case measure =>
            rw [leftAt_is hg1m, leftAt_is (j := j + 1) (by rw [show ((j + 1 : Nat) : Int) = (j : Int) + 1 by omega]; exact z1)]; omega
        · go_simp
          refine hK.out _ _ hA1 (fun hHeld => ?_)
          clear hK K
          refine wpAnyH_ready (rs := [1]) (by kernel_rfl) (by simp) ?_
          refine AllReadyH.cons rfl (fun K hK => ?_) AllReadyH.nil
          go_simp
          refine hK.out _ _ hA1 (fun hHeld => ?_)
          clear hK K
          refine wpAnyH_ready (rs := [8]) (by kernel_rfl) (by simp) ?_
          refine AllReadyH.cons rfl (fun K hK => ?_) AllReadyH.nil
          refine step_appI (by rfl) _ _ (by rfl) (G + 1) (.slice ac mc cc) out (by rfl) (hown.alloc _) ⟨wr.heap.size, 0, none⟩ 1 _ [(x : Int)] (by rfl) (by rfl) hnewq (by omega) (by simp; omega) ?_
          intro v' w2 hown' hb'
          have hb2 := hbA.drew.trans hb'
          have k0 := (hb2.cell (p := ⟨G, 0, none⟩) (by simp)).trans hg0
          have k1 := (hb2.cell (p := ⟨G, 1, none⟩) (by simp)).trans hg1
          have k2 := (hb2.cell (p := ⟨G, 2, none⟩) (by simp)).trans hg2
          have kf := (hb2.frozen (p := ⟨G, 2, none⟩) (by simp)).trans hgf2
          have kf1 := (hb2.frozen (p := ⟨G, 1, none⟩) (by simp)).trans hgf1
          have klt : G < w2.heap.size := Nat.lt_of_lt_of_le hGlt hb2.size
          obtain ⟨m', a', c', rfl⟩ : ∃ m' a' c', v' = .slice a' m' c' := by
            obtain ⟨a, c, h, _⟩ := hown'.form
            exact ⟨_, _, _, h⟩
          refine hK.out _ _ k1 (fun hHeld => ?_)
          clear hK K hA1 hA2 hA0
          have hbelZ := hbel.trans (hb2.mono (Nat.le_succ _))
          clear hbel hb2 hbA hb' hg0 hg1 hg2 hgf1 hgf2 hGlt hown hnewq
          refine wpAnyH_take (i := 9) (v := ?_) rfl (by kernel_rfl) (by kernel_rfl) (by kernel_rfl) (fun _ _ _ h => h) (Or.inl ⟨by rfl, ?hy9⟩) (by assumption) ?ty9
          case hy9 => (intro w hSw; (try dsimp only at hSw); go_simp; all_goals with_reducible rfl)
          simp only [Act.put, List.getElem_toArray, List.getElem_cons_zero, List.getElem_cons_succ, List.setIfInBounds_toArray, List.set_cons_zero, List.set_cons_succ]
          refine wpAnyH_ready (rs := [10]) (by kernel_rfl) (by simp) ?_
          refine AllReadyH.cons rfl (fun K hK => ?_) AllReadyH.nil
          go_simp
          have kk1 : (w2.setCell ⟨G, 2, none⟩ (.slice a' m' c')).cell? ⟨G, 1, none⟩ = some (.int .i64 (j : Int)) := by simp [go_sem, k1]
          refine hK.out _ _ kk1 (fun hHeld => ?_)
          clear hK K
          refine wpAnyH_done (by kernel_rfl) ?_ _
          have z2 : (w2.setCell ⟨G, 2, none⟩ (.slice a' m' c')).cell? ⟨G, 2, none⟩ = some (.slice a' m' c') := World.cell?_setCell_same _ _ _ k2
          have z1 : ((w2.setCell ⟨G, 2, none⟩ (.slice a' m' c')).setCell ⟨G, 1, none⟩ (.int .i64 ((j : Int) + 1))).cell? ⟨G, 1, none⟩ = some (.int .i64 ((j : Int) + 1)) := World.cell?_setCell_same _ _ _ kk1
          have zf1 : (w2.setCell ⟨G, 2, none⟩ (.slice a' m' c')).frozen? ⟨G, 1, none⟩ = false := by simp [go_sem, kf1]
          go_wp2
          go_roundw
          case rel =>
            refine ⟨j + 1, (.slice a' m' c'), HM, by omega, ?_, ?_, ?_, ?_, ?_, ?_, ?_, ?_⟩
            · simp [go_sem, k0]
            · rw [show ((j + 1 : Nat) : Int) = (j : Int) + 1 by omega]; exact z1
            · simp [go_sem, z2]
            · simp [go_sem, kf1]
            · simp [go_sem, kf]
            · simp; omega
            · have hq := (hown'.kept ⟨G, 2, none⟩ (by simp) (.slice a' m' c')).kept ⟨G, 1, none⟩ (by simp) (.int .i64 ((j : Int) + 1))
              rw [HT.out]; exact hq
            · exact (hbelZ.setCell (by simp) _).setCell (by simp) _
          case measure =>
            rw [leftAt_is hg1m, leftAt_is (j := j + 1) (by rw [show ((j + 1 : Nat) : Int) = (j : Int) + 1 by omega]; exact z1)]; omega
      | false =>
        have HM : Hid (R = j) := by
          show R = _
          rw [HJ.out, runL_here (by have := HL.out; omega) hgap]; omega
        rw [hgap] at HC
        clear hgap HJ hB
        generalize nth t j = x at *
        obtain ⟨hc0, hc1, hc2, hf0, hf1, hf2⟩ := wblock hW (show Below (w.heap.size + 1) W wr by rw [HG.out]; exact hbel)
        obtain ⟨hk0, hk1', hk2'⟩ := wcells hc0 hc1 hc2 (.int .i64 1) (.int .i64 (j : Int)) (.slice ac mc cc)
        have hq0 : (((wr.setCell ⟨w.heap.size, 0, none⟩ (.int .i64 1)).setCell ⟨w.heap.size, 1, none⟩ (.int .i64 (j : Int))).setCell ⟨w.heap.size, 2, none⟩ (.slice ac mc cc)).cell? ⟨w.heap.size, 0, none⟩ = some (.int .i64 1) := by simp [go_sem, hk0]
        have hq1 : (((wr.setCell ⟨w.heap.size, 0, none⟩ (.int .i64 1)).setCell ⟨w.heap.size, 1, none⟩ (.int .i64 (j : Int))).setCell ⟨w.heap.size, 2, none⟩ (.slice ac mc cc)).cell? ⟨w.heap.size, 1, none⟩ = some (.int .i64 (j : Int)) := by simp [go_sem, hk1']
        have hbw : Below w.heap.size w wr := hb0.trans (hbel.mono (by have := HG.out; omega))
        have hownZ : OwnI wr (w.heap.size + 1) (.slice ac mc cc) (asI (t.take j)) := hown.lower (by have := HG.out; omega)
        go_wp2_with fail
        refine (HC.out _).mono ?_
        rintro e w1 ⟨rfl, rfl⟩
        have hR : j = R := HM.out.symm
        subst hR
        go_wp2
        refine bodyPost_ret (v := .agg #[.int .i64 1, .int .i64 (j : Int), (.slice ac mc cc)]) (by simp [results, Tryz.results101, go_sem, hq0, hq1, hk2']) rfl ?_
        exact PcEnd.put hbw hownZ _ _ _
    · have hji : ¬ (j : Int) < (n : Int) := by omega
      have HM : Hid (R = j) := by
        show R = _
        have h1 := runL_le gapB t j (by have := HL.out; omega)
        have := HL.out
        have := HJ.out
        omega
      clear HJ hB
      obtain ⟨hc0, hc1, hc2, hf0, hf1, hf2⟩ := wblock hW (show Below (w.heap.size + 1) W wr by rw [HG.out]; exact hbel)
      obtain ⟨hk0, hk1', hk2'⟩ := wcells hc0 hc1 hc2 (.int .i64 1) (.int .i64 (j : Int)) (.slice ac mc cc)
      have hq0 : (((wr.setCell ⟨w.heap.size, 0, none⟩ (.int .i64 1)).setCell ⟨w.heap.size, 1, none⟩ (.int .i64 (j : Int))).setCell ⟨w.heap.size, 2, none⟩ (.slice ac mc cc)).cell? ⟨w.heap.size, 0, none⟩ = some (.int .i64 1) := by simp [go_sem, hk0]
      have hq1 : (((wr.setCell ⟨w.heap.size, 0, none⟩ (.int .i64 1)).setCell ⟨w.heap.size, 1, none⟩ (.int .i64 (j : Int))).setCell ⟨w.heap.size, 2, none⟩ (.slice ac mc cc)).cell? ⟨w.heap.size, 1, none⟩ = some (.int .i64 (j : Int)) := by simp [go_sem, hk1']
      have hbw : Below w.heap.size w wr := hb0.trans (hbel.mono (by have := HG.out; omega))
      have hownZ : OwnI wr (w.heap.size + 1) (.slice ac mc cc) (asI (t.take j)) := hown.lower (by have := HG.out; omega)
      have hR : j = R := HM.out.symm
      subst hR
      go_wp2
      refine bodyPost_ret (v := .agg #[.int .i64 1, .int .i64 (j : Int), (.slice ac mc cc)]) (by simp [results, Tryz.results101, go_sem, hq0, hq1, hk2']) rfl ?_
      exact PcEnd.put hbw hownZ _ _ _
end Go.Proofs.YtfbjodbihenmjaaGreatDoor
