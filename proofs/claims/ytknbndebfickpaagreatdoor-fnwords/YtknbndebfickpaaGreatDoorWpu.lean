/- The piece at the start of a text, the program's. -/
import Derived.Test.YtknbndebfickpaaGreatDoorWpt
namespace Go.Proofs.YtknbndebfickpaaGreatDoor
open Go.RowKit

/-- The piece at the start of a text: its kind, its size, its codes. -/
def pcV (t : List Nat) : Int × Nat × List Int := match wdV t with
  | some r => (2, r.2, r.1)
  | none => if gapB (nth t 0) = true then (1, runL gapB t 0, asI (t.take (runL gapB t 0))) else (0, (cuV t).2, [(cuV t).1])
theorem pcV_told {t : List Nat} {r : List Int × Nat} (h : wdV t = some r) : pcV t = (2, r.2, r.1) := by unfold pcV; rw [h]
theorem pcV_gap {t : List Nat} (h : wdV t = none) (hg : gapB (nth t 0) = true) : pcV t = (1, runL gapB t 0, asI (t.take (runL gapB t 0))) := by unfold pcV; rw [h]; exact if_pos hg
theorem pcV_char {t : List Nat} (h : wdV t = none) (hg : gapB (nth t 0) = false) : pcV t = (0, (cuV t).2, [(cuV t).1]) := by unfold pcV; rw [h]; exact if_neg (by rw [hg]; simp)

set_option maxHeartbeats 1600000 in
set_option maxRecDepth 100000 in
theorem beginsTold_any (t : List Nat) (n : Nat) (w : World) (hl : t.length = n) (hB : IsB t) (hn : n ≤ 400) (hc : TabC w) (hb : TabB w) (hh : TabH w) (hm : MaxI w) :
    Calls Tryz.prog 19 #[.string (str t)] w fun e w' => e = .returned (.bool (wdV t).isSome) ∧ Below w.heap.size w w' := by
  have HT := toldAt_any t n w hl hB hn hc hb hh hm
  rw [td_same] at HT
  cases hw : wdV t with
  | none =>
    rw [hw] at HT
    clear hw
    go_enter Tryz.func19, Tryz.ntmps19
    go_wp2_with fail
    refine HT.mono ?_
    rintro e w1 ⟨rfl, hb1⟩
    have hbA := fun ob => hb1.alloc hb1.size ob
    go_wp2
    go_ret
    exact ⟨rfl, hbA _⟩
  | some r =>
    rw [hw] at HT
    clear hw
    go_enter Tryz.func19, Tryz.ntmps19
    go_wp2_with fail
    refine HT.mono ?_
    rintro e w1 ⟨v, rfl, hown, hb1⟩
    obtain ⟨a, c, rfl, -, -⟩ := hown.form
    have hbA := fun ob => hb1.alloc hb1.size ob
    go_wp2
    go_ret
    exact ⟨rfl, hbA _⟩

set_option maxHeartbeats 1600000 in
set_option maxRecDepth 100000 in
theorem wordAt_any (t : List Nat) (n : Nat) (w : World) (hl : t.length = n) (hB : IsB t) (hn : n ≤ 400) (h0 : 0 < n) (hc : TabC w) (hb : TabB w) (hh : TabH w) (hm : MaxI w) :
    Calls Tryz.prog 18 #[.string (str t)] w fun e w' => PcEnd (pcV t) w e w' := by
  have hsz : (str t).size = n := by rw [str_size, hl]
  have hb0 : Below w.heap.size w (w.alloc (.cells #[.int .i64 0, .int .i64 0, .slice none 0 0] 42)) := (Below.refl _ _).alloc (Nat.le_refl _) _
  have HT := toldAt_any t n _ hl hB hn (hc.below hb0) (hb.below hb0) (hh.below hb0) (hm.below hb0)
  rw [td_same] at HT
  have hsW : (w.alloc (.cells #[.int .i64 0, .int .i64 0, .slice none 0 0] 42)).heap.size = w.heap.size + 1 := by simp
  cases hw : wdV t with
  | some r =>
    rw [pcV_told hw]
    rw [hw] at HT
    obtain ⟨u, k⟩ := r
    clear hw
    go_enter Tryz.func18, Tryz.ntmps18
    go_wp2_with fail
    refine HT.mono ?_
    rintro e w6 ⟨v, rfl, hown6, hb6⟩
    obtain ⟨a6, c6, rfl, -, -⟩ := hown6.form
    simp only at hown6 ⊢
    generalize hW : w.alloc (.cells #[.int .i64 0, .int .i64 0, .slice none 0 0] 42) = W at *
    rw [hsW] at hown6 hb6
    have hz6 := hb6.size
    have hbw6 := hb0.trans (hb6.mono (Nat.le_succ _))
    have hlt6 : w.heap.size < w6.heap.size := by omega
    obtain ⟨hc0, hc1, hc2, hf0, hf1, hf2⟩ := wblock hW hb6
    obtain ⟨hk0, hk1', hk2'⟩ := wcells hc0 hc1 hc2 (.int .i64 2) (.int .i64 (k : Int)) (.slice a6 u.length c6)
    have hq0 : ∀ ob, ((((w6.setCell ⟨w.heap.size, 0, none⟩ (.int .i64 2)).setCell ⟨w.heap.size, 1, none⟩ (.int .i64 (k : Int))).setCell ⟨w.heap.size, 2, none⟩ (.slice a6 u.length c6)).alloc ob).cell? ⟨w.heap.size, 0, none⟩ = some (.int .i64 2) := fun ob => by
      rw [World.cell?_alloc_old _ _ _ (by simp; omega)]
      simp [go_sem, hk0]
    have hq1 : ∀ ob, ((((w6.setCell ⟨w.heap.size, 0, none⟩ (.int .i64 2)).setCell ⟨w.heap.size, 1, none⟩ (.int .i64 (k : Int))).setCell ⟨w.heap.size, 2, none⟩ (.slice a6 u.length c6)).alloc ob).cell? ⟨w.heap.size, 1, none⟩ = some (.int .i64 (k : Int)) := fun ob => by
      rw [World.cell?_alloc_old _ _ _ (by simp; omega)]
      simp [go_sem, hk1']
    have hq2 : ∀ ob, ((((w6.setCell ⟨w.heap.size, 0, none⟩ (.int .i64 2)).setCell ⟨w.heap.size, 1, none⟩ (.int .i64 (k : Int))).setCell ⟨w.heap.size, 2, none⟩ (.slice a6 u.length c6)).alloc ob).cell? ⟨w.heap.size, 2, none⟩ = some (.slice a6 u.length c6) := fun ob => by
      rw [World.cell?_alloc_old _ _ _ (by simp; omega)]
      exact hk2'
    have hP := PcEnd.put (c := 2) (k := k) hbw6 hown6 (.int .i64 2) (.int .i64 (k : Int)) (.slice a6 u.length c6)
    have hbZ : ∀ ob, PcEnd (2, k, u) w (.returned (.agg #[.int .i64 2, .int .i64 (k : Int), .slice a6 u.length c6])) ((((w6.setCell ⟨w.heap.size, 0, none⟩ (.int .i64 2)).setCell ⟨w.heap.size, 1, none⟩ (.int .i64 (k : Int))).setCell ⟨w.heap.size, 2, none⟩ (.slice a6 u.length c6)).alloc ob) := fun ob => by
      obtain ⟨v, hv, ho, hbb⟩ := hP
      exact ⟨v, hv, ho.alloc _, hbb.alloc hbb.size _⟩
    clear HT hP
    go_wp2
    refine bodyPost_ret (v := .agg #[.int .i64 2, .int .i64 (k : Int), .slice a6 u.length c6]) (by simp [results, Tryz.results18, go_sem, hq0, hq1, hq2]) rfl ?_
    exact hbZ _
  | none =>
    rw [hw] at HT
    have hx := nth_lt hB 0
    have hget := str_get hB (i := 0) (by rw [hsz]; exact h0)
    have hki : (0 : Int) < (n : Int) := by omega
    have HC : ∀ w, Calls Tryz.prog 33 #[.int .u8 (nth t 0 : Int)] w fun e w' => e = .returned (.bool (gapB (nth t 0))) ∧ w = w' := fun w => isBlankOrTab_any (nth t 0) w hx
    have HP : ∃ f, Hid (∀ w, Calls Tryz.prog f #[.string (str t)] w fun e w' => PcEnd (pcV t) w e w') ∧ (gapB (nth t 0) = true ∧ f = 34 ∨ gapB (nth t 0) = false ∧ f = 35) := by
      cases hg : gapB (nth t 0) with
      | true => exact ⟨_, fun w => by rw [pcV_gap hw hg]; exact blanksAt_any t n w hl hB (by omega), .inl ⟨rfl, rfl⟩⟩
      | false => exact ⟨_, fun w => by rw [pcV_char hw hg]; exact plainAt_any t n w hl hB (by omega) h0, .inr ⟨rfl, rfl⟩⟩
    generalize pcV t = r at *
    generalize gapB (nth t 0) = gp at *
    generalize nth t 0 = x at *
    clear hw
    obtain ⟨f, HP, hf⟩ := HP
    obtain ⟨rc, rk, ru⟩ := r
    rcases hf with ⟨rfl, rfl⟩ | ⟨rfl, rfl⟩
    all_goals
      go_enter Tryz.func18, Tryz.ntmps18
      go_wp2_with fail
      refine HT.mono ?_
      rintro e w1 ⟨rfl, hb1⟩
      generalize hW : w.alloc (.cells #[.int .i64 0, .int .i64 0, .slice none 0 0] 42) = W at *
      rw [hsW] at hb1
      have hz1 := hb1.size
      rw [hsW] at hz1
      go_wp2_with fail
      refine (HC _).mono ?_
      rintro e w2 ⟨rfl, rfl⟩
      have hbA : Below (w.heap.size + 1) W (w1.alloc (.cells #[.int .i64 0, .int .i64 0, .slice none 0 0] 42)) := hb1.alloc (by omega) _
      have hzA : (w1.alloc (.cells #[.int .i64 0, .int .i64 0, .slice none 0 0] 42)).heap.size = w1.heap.size + 1 := by simp
      go_wp2_with fail
      refine (HP.out _).mono ?_
      rintro e w3 ⟨v3, rfl, hown3, hb3⟩
      generalize w1.alloc (.cells #[.int .i64 0, .int .i64 0, .slice none 0 0] 42) = X at *
      have hbl : Below (w.heap.size + 1) W w3 := hbA.trans (hb3.mono (by omega))
      have hown : OwnI w3 (w.heap.size + 1) v3 ru := hown3.lower (by omega)
      have hbw := hb0.trans (hbl.mono (Nat.le_succ _))
      obtain ⟨a3, c3, rfl, -, -⟩ := hown.form
      simp only
      clear HT HP HC hown3 hb3 hbA hb1
      obtain ⟨hc0, hc1, hc2, hf0, hf1, hf2⟩ := wblock hW hbl
      obtain ⟨hk0, hk1', hk2'⟩ := wcells hc0 hc1 hc2 (.int .i64 rc) (.int .i64 (rk : Int)) (.slice a3 ru.length c3)
      have hq0 : (((w3.setCell ⟨w.heap.size, 0, none⟩ (.int .i64 rc)).setCell ⟨w.heap.size, 1, none⟩ (.int .i64 (rk : Int))).setCell ⟨w.heap.size, 2, none⟩ (.slice a3 ru.length c3)).cell? ⟨w.heap.size, 0, none⟩ = some (.int .i64 rc) := by simp [go_sem, hk0]
      have hq1 : (((w3.setCell ⟨w.heap.size, 0, none⟩ (.int .i64 rc)).setCell ⟨w.heap.size, 1, none⟩ (.int .i64 (rk : Int))).setCell ⟨w.heap.size, 2, none⟩ (.slice a3 ru.length c3)).cell? ⟨w.heap.size, 1, none⟩ = some (.int .i64 (rk : Int)) := by simp [go_sem, hk1']
      go_wp2
      refine bodyPost_ret (v := .agg #[.int .i64 rc, .int .i64 (rk : Int), .slice a3 ru.length c3]) (by simp [results, Tryz.results18, go_sem, hq0, hq1, hk2']) rfl ?_
      exact PcEnd.put hbw hown _ _ _
end Go.Proofs.YtknbndebfickpaaGreatDoor
