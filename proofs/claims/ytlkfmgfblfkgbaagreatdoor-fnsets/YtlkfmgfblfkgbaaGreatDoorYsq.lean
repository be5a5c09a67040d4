/- The set of some numbers, the model's side, and both at once. -/
import Derived.Test.YtlkfmgfblfkgbaaGreatDoorYsp
namespace Go.Proofs.YtlkfmgfblfkgbaaGreatDoor
open Go.RowKit

theorem OwnY.lit0 (w : World) (B : Nat) (hB : B ≤ w.heap.size) : OwnY (w.alloc (.cells #[] 42)) B (.slice (some ⟨w.heap.size, 0, none⟩) 0 0) [] := by
  have := World.ownsRow_lit (base := B) (e := 42) (size := 2) w #[] 0 hB (by decide) rfl
  exact this
theorem upY_no {l : List Int} {k : Nat} (h : bty (nthI l k) 1 999 = false) : upY l k = false := by
  unfold upY; rw [h]; rfl
theorem upY_low {l : List Int} {k : Nat} (h0 : 0 < k) (h : nthI l k ≤ nthI l (k - 1)) : upY l k = false := by
  unfold upY
  rw [decide_eq_false (by omega), decide_eq_false (by omega)]
  exact Bool.and_false _
theorem upY_yes {l : List Int} {k : Nat} (h : bty (nthI l k) 1 999 = true) (h0 : k = 0 ∨ nthI l (k - 1) < nthI l k) : upY l k = true := by
  unfold upY
  rw [h, Bool.true_and]
  rcases h0 with h0 | h0
  · rw [decide_eq_true h0]; rfl
  · rw [decide_eq_true h0]; exact Bool.or_true _
theorem stY_one {l : List Int} {k : Nat} (h : k = 0 ∨ nthI l k ≠ nthI l (k - 1) + 1) : stY (rwY l k) (nthI l k) = rwY l k ++ [(nthI l k, nthI l k)] := by
  unfold stY
  rw [if_neg]
  rintro ⟨h1, h2⟩
  rcases h with rfl | h
  · exact absurd h1 (Nat.lt_irrefl 0)
  · by_cases h0 : k = 0
    · subst h0; exact absurd h1 (Nat.lt_irrefl 0)
    · rw [(rwY_last l k (by omega)).2] at h2; exact h h2.symm
theorem stY_two {l : List Int} {k : Nat} (h0 : 0 < k) (h : nthI l k = nthI l (k - 1) + 1) : stY (rwY l k) (nthI l k) = (rwY l k).set ((rwY l k).length - 1) ((nthY (rwY l k) ((rwY l k).length - 1)).1, nthI l k) := by
  unfold stY
  rw [if_pos]
  exact ⟨(rwY_last l k h0).1, by rw [(rwY_last l k h0).2]; exact h.symm⟩

set_option maxHeartbeats 3200000 in
set_option maxRecDepth 100000 in
theorem specSetOf_any (a : Option Addr) (n cap : Nat) (l : List Int) (w : World) (hl : l.length = n) (hr : RdI w a l) (hn : n ≤ 1048576) :
    Calls Tryz.prog 11 #[.slice a n cap] w fun e w' => RngEndY (soV l) w e w' := by
  have HB := fun x => l1In_y x 1 999
  have hb0 : Below w.heap.size w (w.alloc (.cells #[.int .i64 0, .slice none 0 0] 27)) := (Below.refl _ _).alloc (Nat.le_refl _) _
  have hr0 := hr.below hb0
  have hWs : (w.alloc (.cells #[.int .i64 0, .slice none 0 0] 27)).heap.size = w.heap.size + 1 := by simp
  by_cases h1 : 1 ≤ n ∧ n ≤ 60
  · have hn1 : ¬ (n : Int) < 1 := by omega
    have hn6 : ¬ (n : Int) > 60 := by omega
    go_enter Tryz.func11, Tryz.ntmps11
    generalize hW : w.alloc (.cells #[.int .i64 0, .slice none 0 0] 27) = W at *
    go_wp2
    have hown0 := OwnY.lit0 W (w.heap.size + 1) (by omega)
    have hbl0 : Below (w.heap.size + 1) W (W.alloc (.cells #[] 42)) := (Below.refl _ _).alloc (by omega) _
    rw [hWs] at hown0
    go_loopw [3, 4] (fun v i wr => ∃ k : Nat, k ≤ n ∧ i = .int .i64 k ∧ OwnY wr (w.heap.size + 1) v (rwY l k) ∧ Below (w.heap.size + 1) W wr ∧ ∀ i, i < k → upY l i = true) (fun _ i _ => n - (intOf i).toNat)
    case atStart => exact ⟨0, Nat.zero_le _, rfl, hown0, hbl0, fun i hi => by omega⟩
    case round =>
      obtain ⟨k, hk, rfl, hown, hbel, hall⟩ := hrel
      clear hown0 hbl0
      have hz : w.heap.size + 1 ≤ wr.heap.size := by have := hbel.size; omega
      by_cases hkn : k < n
      · obtain ⟨b, off, rfl, hblt, hcell⟩ := hr0.at_ (by omega)
        have hc : wr.cell? ⟨b, off + k, none⟩ = some (.int .i64 (nthI l k)) := (hbel.cell (p := ⟨b, off + k, none⟩) (by rw [← hWs]; exact hblt)).trans (hcell k (by omega))
        have hki : (k : Int) < (n : Int) := by omega
        have hrl := rwY_len l k
        have HQ : Hid (rwY l (k + 1) = stY (rwY l k) (nthI l k)) := rfl
        have HBAD : Hid (upY l k = false → soV l = (3, [])) := fun h => by
          have h2 := riY_at (l := l) (k := k) (by omega) h
          unfold soV
          rw [if_pos (by omega), h2]; rfl
        have HGO : Hid (upY l k = true → ∀ i, i < k + 1 → upY l i = true) := fun h i hi => by
          rcases Nat.lt_or_ge i k with h' | h'
          · exact hall i h'
          · rw [show i = k by omega]; exact h
        obtain ⟨av, cv, ev, _, _⟩ := hown.form
        subst ev
        by_cases h0 : k = 0
        · subst h0
          have HST : Hid (stY (rwY l 0) (nthI l 0) = rwY l 0 ++ [(nthI l 0, nthI l 0)]) := stY_one (.inl rfl)
          have HU1 : Hid (bty (nthI l 0) 1 999 = false → upY l 0 = false) := fun h => upY_no h
          have HU2 : Hid (bty (nthI l 0) 1 999 = true → upY l 0 = true) := fun h => upY_yes h (.inl rfl)
          clear hcell hall
          rw [Nat.add_zero] at hc
          obtain ⟨x, hx⟩ : ∃ x, x = nthI l 0 := ⟨_, rfl⟩
          rw [← hx] at hc HST HU1 HU2 HQ
          clear hx
          go_wp2_with fail
          refine (HB x _).mono ?_
          rintro e w1 ⟨rfl, rfl⟩
          cases hbx : bty x 1 999 with
          | false =>
            have H : Hid (soV l = (3, [])) := HBAD.out (HU1.out hbx)
            obtain ⟨hcw, hcw1, hfw, hfw1⟩ := res_block hW hbel
            have hbE : Below w.heap.size w wr := hb0.trans (hbel.mono (by omega))
            obtain ⟨hk0, hk1⟩ := res_cells hcw hcw1 (.int .i64 3) (.slice none 0 0)
            clear HBAD HGO hown
            go_wp2
            refine bodyPost_ret (v := .agg #[.int .i64 3, .slice none 0 0]) (by simp [results, Tryz.results11, go_sem, hk0, hk1]) rfl ?_
            rw [H.out]
            exact RngEndY.code hbE _ _
          | true =>
            have HALL : Hid (_) := HGO.out (HU2.out hbx)
            clear HBAD HGO HU1 HU2
            generalize hrr : rwY l 0 = r at *
            clear hrr
            go_wp2_with (at_builtin; refine wpList_app_newY rfl _ _ rfl (w.heap.size + 1) _ r rfl hown x x rfl (by omega) hz ?_; intro v' w3 ho3 hb3)
            have hB3 := hbel.trans hb3
            clear hb3
            go_roundw
            case rel => exact ⟨1, by omega, by go_num, by rw [HQ.out, HST.out]; exact ho3, hB3, HALL.out⟩
            case measure => simp [intOf]; omega
        · have hc2 : wr.cell? ⟨b, off + (k - 1), none⟩ = some (.int .i64 (nthI l (k - 1))) := (hbel.cell (p := ⟨b, off + (k - 1), none⟩) (by rw [← hWs]; exact hblt)).trans (hcell (k - 1) (by omega))
          have hpb := upY_b (hall (k - 1) (by omega))
          have HU1 : Hid (bty (nthI l k) 1 999 = false → upY l k = false) := fun h => upY_no h
          have HU3 : Hid (nthI l k ≤ nthI l (k - 1) → upY l k = false) := fun h => upY_low (by omega) h
          have HU2 : Hid (bty (nthI l k) 1 999 = true → ¬ nthI l k ≤ nthI l (k - 1) → upY l k = true) := fun h h2 => upY_yes h (.inr (by omega))
          have HS1 : Hid (nthI l k ≠ nthI l (k - 1) + 1 → stY (rwY l k) (nthI l k) = rwY l k ++ [(nthI l k, nthI l k)]) := fun h => stY_one (.inr h)
          have HS2 : Hid (nthI l k = nthI l (k - 1) + 1 → stY (rwY l k) (nthI l k) = (rwY l k).set ((rwY l k).length - 1) ((nthY (rwY l k) ((rwY l k).length - 1)).1, nthI l k)) := fun h => stY_two (by omega) h
          obtain ⟨hrp, -⟩ := rwY_last l k (by omega)
          obtain ⟨k', hk'⟩ : ∃ k', k = k' + 1 := ⟨k - 1, by omega⟩
          subst hk'
          rw [Nat.add_sub_cancel] at hc2 hpb HU3 HU2 HS1 HS2
          have hk'n : (k' : Int) < (n : Int) := by omega
          have hki' : (k' : Int) + 1 < (n : Int) := by omega
          clear hcell hall
          generalize hrr : rwY l (k' + 1) = r at *
          clear hrr
          obtain ⟨x, hx⟩ : ∃ x, x = nthI l (k' + 1) := ⟨_, rfl⟩
          obtain ⟨q, hq⟩ : ∃ q, q = nthI l k' := ⟨_, rfl⟩
          rw [← hx] at hc HU1 HU2 HU3 HS1 HS2 HQ
          rw [← hq] at hc2 hpb HU2 HU3 HS1 HS2
          clear hx hq
          go_wp2_with fail
          refine (HB x _).mono ?_
          rintro e w1 ⟨rfl, rfl⟩
          cases hbx : bty x 1 999 with
          | false =>
            have H : Hid (soV l = (3, [])) := HBAD.out (HU1.out hbx)
            obtain ⟨hcw, hcw1, hfw, hfw1⟩ := res_block hW hbel
            have hbE : Below w.heap.size w wr := hb0.trans (hbel.mono (by omega))
            obtain ⟨hk0, hk1⟩ := res_cells hcw hcw1 (.int .i64 3) (.slice none 0 0)
            clear HBAD HGO hown
            go_wp2
            refine bodyPost_ret (v := .agg #[.int .i64 3, .slice none 0 0]) (by simp [results, Tryz.results11, go_sem, hk0, hk1]) rfl ?_
            rw [H.out]
            exact RngEndY.code hbE _ _
          | true =>
            by_cases hle : x ≤ q
            · have H : Hid (soV l = (3, [])) := HBAD.out (HU3.out hle)
              obtain ⟨hcw, hcw1, hfw, hfw1⟩ := res_block hW hbel
              have hbE : Below w.heap.size w wr := hb0.trans (hbel.mono (by omega))
              obtain ⟨hk0, hk1⟩ := res_cells hcw hcw1 (.int .i64 3) (.slice none 0 0)
              clear HBAD HGO hown
              go_wp2
              refine bodyPost_ret (v := .agg #[.int .i64 3, .slice none 0 0]) (by simp [results, Tryz.results11, go_sem, hk0, hk1]) rfl ?_
              rw [H.out]
              exact RngEndY.code hbE _ _
            · have HALL : Hid (_) := HGO.out (HU2.out hbx (by omega))
              by_cases heq : x = q + 1
              · have HST : Hid (_) := HS2.out heq
                obtain ⟨L, hL⟩ : ∃ L, r.length = L + 1 := ⟨r.length - 1, by omega⟩
                have hLi : ((L + 1 : Nat) : Int) - 1 = (L : Int) := by omega
                rw [hL, Nat.add_sub_cancel] at HST
                obtain ⟨g', hform⟩ : ∃ g', av = some ⟨g', 0, none⟩ := by
                  rcases hown.2 with ⟨h0', h1'⟩ | ⟨g', cap', cur, h', _⟩
                  · omega
                  · simp at h'; exact ⟨g', h'.1⟩
                subst hform
                have ho2 : wr.ownsRow (w.heap.size + 1) 42 2 (.slice (some ⟨g', 0, none⟩) (L + 1) cv) (L + 1) (yc r) := by have := hown; unfold OwnY at this; rw [hL] at this; exact this
                have hfz := ho2.frozenAt (L * 2 + 1)
                have hgL : wr.cell? ⟨g', L * 2 + 1, none⟩ = some (.int .i64 (nthY r L).2) := by rw [ho2.cellAt (L * 2 + 1) (by omega)]; exact (yc_get r L (by omega)).2
                obtain ⟨hst, hgr2⟩ := ho2.stored (L * 2 + 1) (.int .i64 x)
                rw [yc_setV r L x (by omega)] at hst
                have HST2 : Hid (_) := hst
                have hBS : Hid (Below (w.heap.size + 1) W (wr.setCell ⟨g', L * 2 + 1, none⟩ (.int .i64 x))) := hbel.setCell (by have := (hown.lt g' rfl).1; omega) _
                have hlen : r.length = L + 1 := hL
                rw [hL] at hown
                rw [hL]
                clear hst hgr2 ho2 HS1 HS2 HBAD HGO HU1 HU2 HU3
                generalize (nthY r L).2 = y at *
                subst heq
                go_wp2
                go_roundw
                case rel =>
                  refine ⟨k' + 1 + 1, by omega, by go_num, ?_, hBS.out, HALL.out⟩
                  rw [HQ.out, HST.out]
                  unfold OwnY
                  rw [List.length_set, hlen]
                  exact HST2.out
                case measure => simp [intOf]; omega
              · have HST : Hid (_) := HS1.out heq
                clear HS1 HS2 HBAD HGO HU1 HU2 HU3
                go_wp2_with (at_builtin; refine wpList_app_newY rfl _ _ rfl (w.heap.size + 1) _ r rfl hown x x rfl (by omega) hz ?_; intro v' w3 ho3 hb3)
                have hB3 := hbel.trans hb3
                clear hb3
                go_roundw
                case rel => exact ⟨k' + 1 + 1, by omega, by go_num, by rw [HQ.out, HST.out]; exact ho3, hB3, HALL.out⟩
                case measure => simp [intOf]; omega
      · have hki : ¬ (k : Int) < (n : Int) := by omega
        obtain rfl : k = n := by omega
        have hri : riY l = true := riY_all (fun i hi => hall i (by omega))
        have HS : Hid (soV l = if (rwY l k).length ≤ 8 then (0, rwY l k) else (2, [])) := by
          show soV l = _
          unfold soV
          rw [hl, if_pos h1, hri]; rfl
        obtain ⟨hcw, hcw1, hfw, hfw1⟩ := res_block hW hbel
        have hbE : Below w.heap.size w wr := hb0.trans (hbel.mono (by omega))
        have hrl := rwY_len l k
        obtain ⟨ao, ocap, hv, -, -⟩ := hown.form
        subst hv
        generalize rwY l k = r at *
        clear hall
        by_cases h8 : r.length ≤ 8
        · rw [if_pos h8] at HS
          have h8' : ¬ (r.length : Int) > 8 := by omega
          have HO : Hid (OwnY wr (w.heap.size + 1) (.slice ao r.length ocap) r) := hown
          clear hown
          obtain ⟨hk0, hk1⟩ := res_cells hcw hcw1 (.int .i64 0) (.slice ao r.length ocap)
          go_wp2
          refine bodyPost_ret (v := .agg #[.int .i64 0, .slice ao r.length ocap]) (by simp [results, Tryz.results11, go_sem, hk0, hk1]) rfl ?_
          rw [HS.out]
          exact RngEndY.some hbE HO.out _ _
        · rw [if_neg h8] at HS
          have h8' : (r.length : Int) > 8 := by omega
          obtain ⟨hk0, hk1⟩ := res_cells hcw hcw1 (.int .i64 2) (.slice none 0 0)
          clear hown
          go_wp2
          refine bodyPost_ret (v := .agg #[.int .i64 2, .slice none 0 0]) (by simp [results, Tryz.results11, go_sem, hk0, hk1]) rfl ?_
          rw [HS.out]
          exact RngEndY.code hbE _ _
  · have H : Hid (soV l = (2, [])) := if_neg (by omega)
    by_cases hn1 : (n : Int) < 1
    · go_enter Tryz.func11, Tryz.ntmps11
      go_wp2
      go_returns
      exact ⟨.slice none 0 0, by rw [H.out], by rw [H.out]; exact OwnY.nil _ _, by go_grown⟩
    · have hn6 : (n : Int) > 60 := by omega
      go_enter Tryz.func11, Tryz.ntmps11
      go_wp2
      go_returns
      exact ⟨.slice none 0 0, by rw [H.out], by rw [H.out]; exact OwnY.nil _ _, by go_grown⟩
theorem soV_few (l : List Int) : (soV l).2.length ≤ 8 := by
  unfold soV
  split
  · split
    · split
      · assumption
      · exact Nat.zero_le _
    · exact Nat.zero_le _
  · exact Nat.zero_le _
theorem soV_both (n : Nat) (s : List Int) (hl : s.length = n) (hn : n ≤ 1048576) : ∃ (c : Int) (l : List YgP), l.length ≤ 1048576 ∧
    (∀ (a : Option Addr) (cap : Nat) (w : World), RdI w a s → Calls Tryz.prog 11 #[.slice a n cap] w fun e w' => ∃ v, e = .returned (.agg #[.int .i64 c, v]) ∧ OwnY w' w.heap.size v l ∧ Below w.heap.size w w') ∧
    (∀ (a : Option Addr) (cap : Nat) (w : World), RdI w a s → Calls Tryz.prog 10 #[.slice a n cap] w fun e w' => ∃ v, e = .returned (.agg #[.int .i64 c, v]) ∧ OwnY w' w.heap.size v l ∧ Below w.heap.size w w') :=
  ⟨(soV s).1, (soV s).2, by have := soV_few s; omega, fun a cap w hr => specSetOf_any a n cap s w hl hr hn, fun a cap w hr => setOf_any a n cap s w hl hr hn⟩
end Go.Proofs.YtlkfmgfblfkgbaaGreatDoor
