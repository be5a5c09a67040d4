/- BuildMulti: the model's function; no conditions beyond those that each fact names. -/
import Derived.Test.YthphokjhonddcaaBms
namespace Go.Proofs.Ythphokjhonddcaa
open Go.RowKit

set_option maxHeartbeats 800000 in
set_option maxRecDepth 100000 in
theorem specBuildMulti_any (mk : List Nat) (m : Nat) (a : Option Addr) (n cap : Nat) (l : List SlP) (ls : List (List Nat)) (w : World) (hmk : mk.length = m) (hBm : IsB mk) (hm : m ≤ 1048576) (hl : l.length = n) (hr : RdL w a l) (hrs : RdLs w l ls) (hf : FitB ls) (hn : n ≤ 1048576) :
    Calls Try.prog 5 #[.string (str mk), .slice a n cap] w fun e w' => BmEnd (bmV mk ls) w e w' := by
  have hlen : ls.length = n := by rw [← hrs.1]; exact hl
  have HV : Hid (bmV mk ls = if mkOk mk = false then (5, []) else if 6 < n then (2, []) else if dsA ls = true then (1, []) else if 400 < (bmA mk ls).length then (2, []) else (0, bmA mk ls)) := by show _ = _; unfold bmV; rw [hlen]
  obtain ⟨W, hW⟩ : ∃ W, w.alloc (.cells #[.int .i64 0, .slice none 0 0] 26) = W := ⟨_, rfl⟩
  have hb0 : Below w.heap.size w W := by rw [← hW]; exact (Below.refl _ _).alloc (Nat.le_refl _) _
  have hsW : W.heap.size = w.heap.size + 1 := by rw [← hW]; simp
  have HRB : Hid (∀ wr, Below (w.heap.size + 1) W wr → _) := fun wr hb => res_block hW hb
  have HCM := l5Mark_any mk m W hmk hBm hm
  have HYES : Hid (∀ k, k < n → (lns (ls.getD k [])).any dsL = true → dsA ls = true) := fun k hk h => dsA_yes (by omega) h
  have HNO : Hid ((∀ k, k < n → (lns (ls.getD k [])).any dsL = false) → dsA ls = false) := fun h => by
    unfold dsA
    rw [List.any_eq_false]
    intro d hd
    obtain ⟨i, hi, rfl⟩ := List.getElem_of_mem hd
    have := h i (by omega)
    rw [List.getD_eq_getElem?_getD, List.getElem?_eq_getElem hi] at this
    simpa using this
  generalize bmV mk ls = r at *
  go_enter Try.func5, Try.ntmps5
  have fin5 : Hid (∀ w1 : World, Below (w.heap.size + 1) W w1 → ∀ c : Int, (w1.setCell ⟨w.heap.size, 0, none⟩ (.int .i64 c)).cell? ⟨w.heap.size, 0, none⟩ = some (.int .i64 c) ∧ ((w1.setCell ⟨w.heap.size, 0, none⟩ (.int .i64 c)).setCell ⟨w.heap.size, 1, none⟩ (.slice none 0 0)).cell? ⟨w.heap.size, 1, none⟩ = some (.slice none 0 0)) := fun w1 hb c => res_cells (HRB.out w1 hb).1 (HRB.out w1 hb).2.1 _ _
  have HBW : Hid (∀ w1 : World, Below (w.heap.size + 1) W w1 → Below w.heap.size w w1) := fun w1 hb => hb0.trans (hb.mono (by omega))
  generalize mkOk mk = ok at *
  go_wp2_with fail
  refine HCM.mono ?_
  rintro e w1 ⟨rfl, hb1⟩
  rw [hsW] at hb1
  clear HCM
  cases ok with
  | false =>
    have HM : Hid (r = (5, [])) := HV.out.trans (if_pos rfl)
    clear HV
    obtain ⟨a0, a1, z0, z1⟩ := HRB.out w1 hb1
    obtain ⟨k0, k1⟩ := fin5.out w1 hb1 5
    have HE : Hid (_) := bm_end (c := 5) (HBW.out w1 hb1) (.inl ⟨rfl, rfl⟩)
    go_wp2
    refine bodyPost_ret (v := .agg #[.int .i64 5, .slice none 0 0]) (by simp [results, Try.results5, go_sem, k0, k1]) rfl ?_
    rw [HM.out]
    exact ⟨_, rfl, HE.out⟩
  | true =>
    have HV : Hid (r = if 6 < n then (2, []) else if dsA ls = true then (1, []) else if 400 < (bmA mk ls).length then (2, []) else (0, bmA mk ls)) := HV.out.trans (if_neg (by decide))
    by_cases h6 : 6 < n
    · have h6' : (6 : Int) < (n : Int) := by omega
      have HM : Hid (r = (2, [])) := HV.out.trans (if_pos h6)
      clear HV
      obtain ⟨a0, a1, z0, z1⟩ := HRB.out w1 hb1
      obtain ⟨k0, k1⟩ := fin5.out w1 hb1 2
      have HE : Hid (_) := bm_end (c := 2) (HBW.out w1 hb1) (.inl ⟨rfl, rfl⟩)
      go_wp2
      refine bodyPost_ret (v := .agg #[.int .i64 2, .slice none 0 0]) (by simp [results, Try.results5, go_sem, k0, k1]) rfl ?_
      rw [HM.out]
      exact ⟨_, rfl, HE.out⟩
    · have h6' : ¬ (6 : Int) < (n : Int) := by omega
      have HV : Hid (r = if dsA ls = true then (1, []) else if 400 < (bmA mk ls).length then (2, []) else (0, bmA mk ls)) := HV.out.trans (if_neg h6)
      go_wp2
      go_loopw [5] (fun i wr => ∃ k : Nat, k ≤ n ∧ i = .int .i64 k ∧ (∀ j, j < k → (lns (ls.getD j [])).any dsL = false) ∧ Below (w.heap.size + 1) W wr) (fun i _ => n - (intOf i).toNat)
      case atStart => exact ⟨0, Nat.zero_le _, rfl, fun j hj => absurd hj (Nat.not_lt_zero _), hb1⟩
      case round =>
        obtain ⟨k, hk, rfl, hall, hbel⟩ := hrel
        have hbw := HBW.out wr hbel
        by_cases hkn : k < n
        · have hki : (k : Int) < (n : Int) := by omega
          obtain ⟨g, off, rfl, hglt, hcell⟩ := (hr.below hbw).at_ (by omega)
          have hck := hcell k (by omega)
          obtain ⟨e1, e2, hrd⟩ := (hrs.below hbw).2 k (by omega)
          have hfk := hf k (by omega)
          have HY : Hid ((lns (ls.getD k [])).any dsL = true → r = (1, [])) := fun h => HV.out.trans (if_pos (HYES.out k hkn h))
          have HN : Hid ((lns (ls.getD k [])).any dsL = false → ∀ j, j < k + 1 → (lns (ls.getD j [])).any dsL = false) := fun h j hj => by
            rcases Nat.lt_or_ge j k with h' | h'
            · exact hall j h'
            · obtain rfl : j = k := by omega
              exact h
          clear hall hcell
          unfold slV at hck
          generalize nthL l k = sl at *
          obtain ⟨sa, sn, scp⟩ := sl
          dsimp only at hck e1 e2 hrd
          generalize ls.getD k [] = d at *
          subst e1
          have HC := l5Dashes_any sa d.length scp d wr rfl hrd hfk.1 hfk.2
          clear hrd
          generalize (lns d).any dsL = bb at *
          go_wp2_with fail
          refine HC.mono ?_
          rintro e w2 ⟨rfl, hb2⟩
          have hbel2 : Below (w.heap.size + 1) W w2 := hbel.trans (hb2.mono (by have := hbel.size; omega))
          clear HC
          cases bb with
          | true =>
            have HM : Hid (r = (1, [])) := HY.out rfl
            clear HY HN HV
            obtain ⟨a0, a1, z0, z1⟩ := HRB.out w2 hbel2
            obtain ⟨k0, k1⟩ := fin5.out w2 hbel2 1
            have HE : Hid (_) := bm_end (c := 1) (HBW.out w2 hbel2) (.inl ⟨rfl, rfl⟩)
            go_wp2
            refine bodyPost_ret (v := .agg #[.int .i64 1, .slice none 0 0]) (by simp [results, Try.results5, go_sem, k0, k1]) rfl ?_
            rw [HM.out]
            exact ⟨_, rfl, HE.out⟩
          | false =>
            have HM : Hid (_) := HN.out rfl
            clear HY HN
            go_wp2
            go_roundw
            case rel => exact ⟨k + 1, by omega, by go_num, HM.out, hbel2⟩
            case measure => simp [intOf]; omega
        · have hki : ¬ (k : Int) < (n : Int) := by omega
          have HV : Hid (r = if 400 < (bmA mk ls).length then (2, []) else (0, bmA mk ls)) := HV.out.trans (if_neg (by rw [HNO.out (fun j hj => hall j (by omega))]; decide))
          have HC := l5Build_any mk m a n cap l ls wr hmk hBm hm hl (hr.below hbw) (hrs.below hbw) hf (by omega)
          have hzr : w.heap.size + 1 ≤ wr.heap.size := by have := hbel.size; omega
          clear hall HYES HNO
          generalize bmA mk ls = t at *
          go_wp2_with fail
          refine HC.mono ?_
          rintro e w2 ⟨v, rfl, hg2, hb2⟩
          have hbel2 : Below (w.heap.size + 1) W w2 := hbel.trans (hb2.mono hzr)
          have hg2 := hg2.low hzr
          obtain ⟨g5, cp5, rfl, -⟩ := id hg2
          clear HC
          by_cases h4 : 400 < t.length
          · have h4' : (400 : Int) < (t.length : Int) := by omega
            have HM : Hid (r = (2, [])) := HV.out.trans (if_pos h4)
            clear HV
            obtain ⟨a0, a1, z0, z1⟩ := HRB.out w2 hbel2
            obtain ⟨k0, k1⟩ := fin5.out w2 hbel2 2
            have HE : Hid (_) := bm_end (c := 2) (HBW.out w2 hbel2) (.inl ⟨rfl, rfl⟩)
            go_wp2
            refine bodyPost_ret (v := .agg #[.int .i64 2, .slice none 0 0]) (by simp [results, Try.results5, go_sem, k0, k1]) rfl ?_
            rw [HM.out]
            exact ⟨_, rfl, HE.out⟩
          · have h4' : ¬ (400 : Int) < (t.length : Int) := by omega
            have HM : Hid (r = (0, t)) := HV.out.trans (if_neg h4)
            obtain ⟨a0, a1, z0, z1⟩ := HRB.out w2 hbel2
            obtain ⟨k0, k1⟩ := res_cells a0 a1 (.int .i64 0) (.slice (some ⟨g5, 0, none⟩) t.length cp5)
            have HE : Hid (_) := bm_end (c := 0) (HBW.out w2 hbel2) (.inr hg2)
            clear HV
            go_wp2
            refine bodyPost_ret (v := .agg #[.int .i64 0, .slice (some ⟨g5, 0, none⟩) t.length cp5]) (by simp [results, Try.results5, go_sem, k0, k1]) rfl ?_
            rw [HM.out]
            exact ⟨_, rfl, HE.out⟩
end Go.Proofs.Ythphokjhonddcaa
