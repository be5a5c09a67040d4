/- ParseHeader, the program's, at every slice of bytes: by the same plain function as the model's. -/
import Derived.Test.YtaefomiofoakhaaGreatDoorRdf
namespace Go.Proofs.YtaefomiofoakhaaGreatDoor
open Go.RowKit

theorem prH_fit {d : List Nat} : ∀ (f k : Nat) (fs fs' : List FldP) (q : Nat), k ≤ d.length → FitK k fs → prH d f k fs = some (fs', q) → FitK d.length fs' ∧ q ≤ d.length := by
  intro f
  induction f with
  | zero =>
    intro k fs fs' q hk hf h
    have : some (fs, k) = some (fs', q) := h
    cases this
    exact ⟨hf.mono hk, hk⟩
  | succ f ih =>
    intro k fs fs' q hk hf h
    by_cases hkn : k < d.length
    · have hge := eoL_ge d k
      have hle := eoL_le (l := d) (i := k) (by omega)
      by_cases he : eoL d k = k
      · rw [prH_stop hkn he] at h
        cases h
        exact ⟨hf.mono hk, by omega⟩
      · have htl : ((d.take (eoL d k)).drop k).length = eoL d k - k := by rw [List.length_drop, List.length_take]; omega
        cases hv : lnV fs ((d.take (eoL d k)).drop k) with
        | none => rw [prH_bad hkn he hv] at h; cases h
        | some fs1 =>
          rw [prH_on hkn he hv] at h
          have hf1 := (lnV_fit (by omega) hf hv).1
          rw [htl, show k + (eoL d k - k) = eoL d k by omega] at hf1
          by_cases hq : eoL d k < d.length
          · rw [if_pos hq] at h
            exact ih _ fs1 fs' q (by omega) (hf1.mono (by omega)) h
          · rw [if_neg hq] at h
            exact ih _ fs1 fs' q hle hf1 h
    · rw [prH_end hkn] at h
      cases h
      exact ⟨hf.mono hk, hk⟩

set_option maxHeartbeats 1600000 in
set_option maxRecDepth 100000 in
theorem readFields_nil (w : World) : Calls Tryz.prog 70 #[.slice none 0 0] w fun e w' => RfEnd (some ([], 0)) w e w' := by
  have HK := kindOfLine_any [] 0 w rfl (fun b hb => by cases hb) (by omega)
  rw [kdL_0 rfl] at HK
  go_enter Tryz.func70, Tryz.ntmps70
  go_wp2
  go_step3
  go_wp2
  go_step3
  go_wp2_with fail
  refine (lineAt_nil _).mono ?_
  rintro e w1 ⟨rfl, rfl⟩
  go_wp2_with fail
  refine HK.mono ?_
  rintro e w1 ⟨rfl, rfl⟩
  go_wp2
  refine bodyPost_ret (v := .tuple #[.slice none 0 0, .int .i64 0, .bool true]) (by simp [results, Tryz.results70, go_sem]) rfl ?_
  exact ⟨Below.refl _ _, _, rfl, OwnF.nil _ _⟩

set_option maxHeartbeats 1600000 in
set_option maxRecDepth 100000 in
theorem parseHeader_any (a : Option Addr) (n cap : Nat) (d : List Nat) (w : World) (hl : d.length = n) (hr : Rd w a d) (hB : IsB d) (hcap : n ≤ cap) (ha : a = none ∧ cap = 0 ∨ ∃ b off, a = some ⟨b, off, none⟩) :
    Calls Tryz.prog 46 #[.slice a n cap] w fun e w' => HdrEnd (phV d) w e w' := by
  have hb0 : Below w.heap.size w (w.alloc (.cells #[.int .i64 0, .int .i64 0, .slice none 0 0] 82)) := (Below.refl _ _).alloc (Nat.le_refl _) _
  by_cases h4 : 400 < n
  · have h4' : (400 : Int) < (n : Int) := by omega
    have HM : Hid (phV d = (2, 0, [])) := phV_many (by omega)
    go_enter Tryz.func46, Tryz.ntmps46
    go_wp2
    go_returns
    rw [HM.out]
    exact ⟨_, rfl, OwnF.nil _ _, by go_grown⟩
  · have h4' : ¬ (400 : Int) < (n : Int) := by omega
    have HO : Hid (∀ w', Below w.heap.size w w' → Calls Tryz.prog 70 #[.slice a n cap] w' fun e w'' => RfEnd (prH d (n + 1) 0 []) w' e w'') := fun w' hb => by
      rcases ha with ⟨rfl, rfl⟩ | ⟨b, off, rfl⟩
      · obtain rfl : n = 0 := by omega
        obtain rfl : d = [] := List.length_eq_zero_iff.1 hl
        exact readFields_nil w'
      · exact readFields_some b off n cap d w' hl (hr.below hb) hB (by omega) hcap
    have HT : Hid (∀ fs k, prH d (n + 1) 0 [] = some (fs, k) → FitK n fs) := fun fs k h => by
      have := (prH_fit (n + 1) 0 [] fs k (Nat.zero_le _) ⟨Nat.le_refl _, fun p hp => by cases hp⟩ h).1
      rw [hl] at this; exact this
    have HN : Hid (prH d (n + 1) 0 [] = none → phV d = (1, 0, [])) := fun h => phV_none (by omega) (by rw [hl]; exact h)
    have HB : Hid (∀ fs k, prH d (n + 1) 0 [] = some (fs, k) → fdF fs ≠ 0 → phV d = (1, 0, [])) := fun fs k h h2 => phV_bad (by omega) (by rw [hl]; exact h) h2
    have HS : Hid (∀ fs k, prH d (n + 1) 0 [] = some (fs, k) → fdF fs = 0 → phV d = (0, k, fs)) := fun fs k h h2 => phV_ok (by omega) (by rw [hl]; exact h) h2
    clear hr hl hB ha
    generalize prH d (n + 1) 0 [] = o at *
    generalize phV d = r at *
    go_enter Tryz.func46, Tryz.ntmps46
    go_wp2_with fail
    refine (HO.out _ hb0).mono ?_
    intro e w1 hend
    clear HO
    have hbl : Below (w.heap.size + 1) (w.alloc (.cells #[.int .i64 0, .int .i64 0, .slice none 0 0] 82)) w1 := hend.1.mono (by simp)
    have hsW : (w.alloc (.cells #[.int .i64 0, .int .i64 0, .slice none 0 0] 82)).heap.size = w.heap.size + 1 := by simp
    generalize hW : w.alloc (.cells #[.int .i64 0, .int .i64 0, .slice none 0 0] 82) = W at *
    have hbw := hb0.trans (hbl.mono (by omega))
    have hz1 := hbl.size
    rw [hsW] at hz1
    cases o with
    | none =>
      obtain ⟨hb1, rfl⟩ := hend
      have HM : Hid (_) := HN.out rfl
      obtain ⟨hc, hf0, hf1, hf2⟩ := res_block3 hW hbl
      obtain ⟨hc0, hc1, hc2⟩ := hc
      clear HN HB HS hb1 HT
      obtain ⟨hk0, hk1, hk2⟩ := res_cells3 ⟨hc0, hc1, hc2⟩ (.int .i64 1) (.int .i64 0) (.slice none 0 0)
      go_wp2
      refine bodyPost_ret (v := .agg #[.int .i64 1, .int .i64 0, .slice none 0 0]) (by simp [results, Tryz.results46, go_sem, hk0, hk1, hk2]) rfl ?_
      rw [HM.out]
      exact HdrEnd.put (k := 0) hbw (OwnF.nil _ _) _ _ _
    | some q =>
      obtain ⟨fs, k⟩ := q
      obtain ⟨hb1, v, rfl, hown⟩ := hend
      rw [hsW] at hown
      have hfit := HT.out fs k rfl
      obtain ⟨ao, oc, rfl, -⟩ := hown.form
      have HF := fieldsFault_any ao fs.length oc fs w1 rfl hown.rd.2 (by have := hfit.1; omega) (hfit.fit (by omega))
      by_cases hz : fdF fs = 0
      · have HM : Hid (_) := HS.out fs k rfl hz
        rw [hz] at HF
        clear HN HB HS hb1 HT hz hfit
        go_wp2_with fail
        refine HF.mono ?_
        rintro e w2 ⟨rfl, hb2⟩
        have hbl2 := hbl.trans (hb2.mono hz1)
        have hbw2 := hb0.trans (hbl2.mono (by omega))
        have hown2 := hown.below hb2 (Nat.le_refl _)
        obtain ⟨hc, hf0, hf1, hf2⟩ := res_block3 hW hbl2
        obtain ⟨hc0, hc1, hc2⟩ := hc
        obtain ⟨hk0, hk1, hk2⟩ := res_cells3 ⟨hc0, hc1, hc2⟩ (.int .i64 0) (.int .i64 (k : Int)) (.slice ao fs.length oc)
        clear HF hb2 hown
        go_wp2
        refine bodyPost_ret (v := .agg #[.int .i64 0, .int .i64 (k : Int), .slice ao fs.length oc]) (by simp [results, Tryz.results46, go_sem, hk0, hk1, hk2]) rfl ?_
        rw [HM.out]
        exact HdrEnd.put hbw2 hown2 _ _ _
      · have HM : Hid (_) := HB.out fs k rfl hz
        generalize fdF fs = c at *
        have hc' : (c == 0) = false := by simp [hz]
        clear HN HB HS hb1 HT hfit
        go_wp2_with fail
        refine HF.mono ?_
        rintro e w2 ⟨rfl, hb2⟩
        have hbl2 := hbl.trans (hb2.mono hz1)
        have hbw2 := hb0.trans (hbl2.mono (by omega))
        obtain ⟨hc, hf0, hf1, hf2⟩ := res_block3 hW hbl2
        obtain ⟨hc0, hc1, hc2⟩ := hc
        obtain ⟨hk0, hk1, hk2⟩ := res_cells3 ⟨hc0, hc1, hc2⟩ (.int .i64 1) (.int .i64 0) (.slice none 0 0)
        clear HF hb2 hown
        go_wp2
        refine bodyPost_ret (v := .agg #[.int .i64 1, .int .i64 0, .slice none 0 0]) (by simp [results, Tryz.results46, go_sem, hk0, hk1, hk2]) rfl ?_
        rw [HM.out]
        exact HdrEnd.put (k := 0) hbw2 (OwnF.nil _ _) _ _ _

end Go.Proofs.YtaefomiofoakhaaGreatDoor
