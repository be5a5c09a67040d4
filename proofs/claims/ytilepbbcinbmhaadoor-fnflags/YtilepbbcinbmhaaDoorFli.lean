/- FlagsText and ParseFlags: both sides; no conditions beyond those that each fact names. -/
import Derived.Test.YtilepbbcinbmhaaDoorFlh
import Derived.Test.YtilepbbcinbmhaaDoorMsa
namespace Go.Proofs.YtilepbbcinbmhaaDoor
open Go.RowKit

/-- What FlagsText answers. -/
def ftV (a : Int) : Int × List Nat := if 0 ≤ a ∧ a ≤ 15 then (0, fxL a.toNat) else (3, [])
theorem l1In_fl (c : Int) (w : World) : Calls Tryd.prog 42 #[.int .i64 c, .int .i64 0, .int .i64 15] w fun e w' => e = .returned (.bool (decide (0 ≤ c ∧ c ≤ 15))) ∧ w = w' := l1In_bt c 0 15 w
theorem areFlags_fl (c : Int) (w : World) : Calls Tryd.prog 29 #[.int .i64 c] w fun e w' => e = .returned (.bool (decide (0 ≤ c ∧ c ≤ 15))) ∧ w = w' := areFlags_bt c w

/-- What a result of two cells needs at its end. -/
theorem fl_end {w w1 : World} {R : Nat} (hR : w.heap.size ≤ R) (hb : Below w.heap.size w w1) (c t : Value) : Below w.heap.size w ((w1.setCell ⟨R, 0, none⟩ c).setCell ⟨R, 1, none⟩ t) := (hb.setCell (by simpa using hR) _).setCell (by simpa using hR) _

set_option maxHeartbeats 1600000 in
set_option maxRecDepth 100000 in
theorem flagsTextR_any (a : Int) (w : World) (hT : TabF w) :
    Calls Tryd.prog 9 #[.int .i64 a] w fun e w' => e = .returned (.agg #[.int .i64 (ftV a).1, .string (str (ftV a).2)]) ∧ Below w.heap.size w w' := by
  have hb0 : Below w.heap.size w (w.alloc (.cells #[.int .i64 0, .string ⟨#[]⟩] 29)) := (Below.refl _ _).alloc (Nat.le_refl _) _
  by_cases h : 0 ≤ a ∧ a ≤ 15
  · obtain ⟨k, rfl⟩ : ∃ k : Nat, a = (k : Int) := ⟨a.toNat, by omega⟩
    have HV : Hid (ftV (k : Int) = (0, fxL k)) := if_pos h
    have hd : decide (0 ≤ (k : Int) ∧ (k : Int) ≤ 15) = true := decide_eq_true h
    have HC := flagsText_any k (w.alloc (.cells #[.int .i64 0, .string ⟨#[]⟩] 29)) (by omega) (hT.below hb0)
    have HA := areFlags_fl (k : Int) (w.alloc (.cells #[.int .i64 0, .string ⟨#[]⟩] 29))
    rw [hd] at HA
    rw [HV.out]
    dsimp only
    generalize str (fxL k) = s at *
    go_enter Tryd.func9, Tryd.ntmps9
    go_wp2_with fail
    refine HA.mono ?_
    rintro e w' ⟨rfl, rfl⟩
    go_wp2_with fail
    refine HC.mono ?_
    rintro e w1 ⟨rfl, hb1⟩
    have hbw := hb0.trans (hb1.mono hb0.size)
    obtain ⟨a0, a1, z0, z1⟩ := res_block rfl (hb1.mono (by simp))
    obtain ⟨k0, k1⟩ := res_cells a0 a1 (.int .i64 0) (.string s)
    have HE : Hid (_) := fl_end (R := w.heap.size) (Nat.le_refl _) hbw (.int .i64 0) (.string s)
    clear HC HA hb1 hbw hb0
    go_wp2
    refine bodyPost_ret (v := .agg #[.int .i64 0, .string s]) (by simp [results, Tryd.results9, go_sem, k0, k1]) rfl ?_
    exact ⟨rfl, HE.out⟩
  · have HV : Hid (ftV a = (3, [])) := if_neg h
    have hd : decide (0 ≤ a ∧ a ≤ 15) = false := decide_eq_false h
    have HA := areFlags_fl a (w.alloc (.cells #[.int .i64 0, .string ⟨#[]⟩] 29))
    rw [hd] at HA
    rw [HV.out]
    go_enter Tryd.func9, Tryd.ntmps9
    go_wp2_with fail
    refine HA.mono ?_
    rintro e w' ⟨rfl, rfl⟩
    go_wp2
    go_returns
    exact ⟨rfl, by go_grown⟩

set_option maxHeartbeats 1600000 in
set_option maxRecDepth 100000 in
theorem specFlagsText_any (a : Int) (w : World) :
    Calls Tryd.prog 17 #[.int .i64 a] w fun e w' => e = .returned (.agg #[.int .i64 (ftV a).1, .string (str (ftV a).2)]) ∧ Below w.heap.size w w' := by
  have hb0 : Below w.heap.size w (w.alloc (.cells #[.int .i64 0, .string ⟨#[]⟩] 29)) := (Below.refl _ _).alloc (Nat.le_refl _) _
  by_cases h : 0 ≤ a ∧ a ≤ 15
  · obtain ⟨k, rfl⟩ : ∃ k : Nat, a = (k : Int) := ⟨a.toNat, by omega⟩
    have HV : Hid (ftV (k : Int) = (0, fxL k)) := if_pos h
    have hd : decide (0 ≤ (k : Int) ∧ (k : Int) ≤ 15) = true := decide_eq_true h
    have HC := l7Flags_any k (w.alloc (.cells #[.int .i64 0, .string ⟨#[]⟩] 29)) (by omega)
    have HA := l1In_fl (k : Int) (w.alloc (.cells #[.int .i64 0, .string ⟨#[]⟩] 29))
    rw [hd] at HA
    rw [HV.out]
    dsimp only
    generalize str (fxL k) = s at *
    go_enter Tryd.func17, Tryd.ntmps17
    go_wp2_with fail
    refine HA.mono ?_
    rintro e w' ⟨rfl, rfl⟩
    go_wp2_with fail
    refine HC.mono ?_
    rintro e w1 ⟨rfl, hb1⟩
    have hbw := hb0.trans (hb1.mono hb0.size)
    obtain ⟨a0, a1, z0, z1⟩ := res_block rfl (hb1.mono (by simp))
    obtain ⟨k0, k1⟩ := res_cells a0 a1 (.int .i64 0) (.string s)
    have HE : Hid (_) := fl_end (R := w.heap.size) (Nat.le_refl _) hbw (.int .i64 0) (.string s)
    clear HC HA hb1 hbw hb0
    go_wp2
    refine bodyPost_ret (v := .agg #[.int .i64 0, .string s]) (by simp [results, Tryd.results17, go_sem, k0, k1]) rfl ?_
    exact ⟨rfl, HE.out⟩
  · have HV : Hid (ftV a = (3, [])) := if_neg h
    have hd : decide (0 ≤ a ∧ a ≤ 15) = false := decide_eq_false h
    have HA := l1In_fl a (w.alloc (.cells #[.int .i64 0, .string ⟨#[]⟩] 29))
    rw [hd] at HA
    rw [HV.out]
    go_enter Tryd.func17, Tryd.ntmps17
    go_wp2_with fail
    refine HA.mono ?_
    rintro e w' ⟨rfl, rfl⟩
    go_wp2
    go_returns
    exact ⟨rfl, by go_grown⟩

/-- What ParseFlags answers. -/
def pfB (s : ByteArray) (k : Nat) : Bool := decide (str (fxL k) = s)
def pfV (s : ByteArray) : Int × Int := match (List.range 16).find? (pfB s) with
  | some k => (0, (k : Int))
  | none => (5, 0)
theorem pfV_at {k : Nat} {s : ByteArray} (hk : k < 16) (h : str (fxL k) = s) (hall : ∀ j, j < k → pfB s j = false) : pfV s = (0, (k : Int)) := by
  have : (List.range 16).find? (pfB s) = some k := List.find?_range_eq_some.2 ⟨decide_eq_true h, by simpa using hk, fun j hj => by rw [hall j hj]; rfl⟩
  unfold pfV; rw [this]
theorem pfV_no {s : ByteArray} (h : ∀ i, i < 16 → pfB s i = false) : pfV s = (5, 0) := by
  have : (List.range 16).find? (pfB s) = none := List.find?_range_eq_none.2 (fun i hi => by rw [h i hi]; rfl)
  unfold pfV; rw [this]
theorem toListF_ne {a b : ByteArray} (h : a ≠ b) : ¬ a.toList = b.toList := fun e => h (by
  rw [ByteArray.toList_eq, ByteArray.toList_eq] at e
  cases a; cases b; simp_all)

set_option maxHeartbeats 1600000 in
set_option maxRecDepth 100000 in
theorem parseFlags_any (s : ByteArray) (w : World) (hT : TabF w) :
    Calls Tryd.prog 7 #[.string s] w fun e w' => e = .returned (.agg #[.int .i64 (pfV s).1, .int .i64 (pfV s).2]) ∧ Below w.heap.size w w' := by
  have hb0 : Below w.heap.size w (w.alloc (.cells #[.int .i64 0, .int .i64 0] 26)) := (Below.refl _ _).alloc (Nat.le_refl _) _
  obtain ⟨W, hW⟩ : ∃ W, w.alloc (.cells #[.int .i64 0, .int .i64 0] 26) = W := ⟨_, rfl⟩
  have HRB : Hid (∀ wr, Below W.heap.size W wr → _) := fun wr hb => res_block hW (hb.mono (by rw [← hW]; simp))
  have HY : Hid (∀ k, k < 16 → str (fxL k) = s → (∀ j, j < k → pfB s j = false) → pfV s = (0, (k : Int))) := fun k hk h hall => pfV_at hk h hall
  have HN : Hid ((∀ i, i < 16 → pfB s i = false) → pfV s = (5, 0)) := pfV_no
  rw [hW] at hb0
  have hTW := hT.below hb0
  generalize pfV s = r at *
  go_enter Tryd.func7, Tryd.ntmps7
  go_wp2
  go_loopw [4] (fun i wr => ∃ k : Nat, k ≤ 16 ∧ i = .int .i64 k ∧ (∀ j, j < k → pfB s j = false) ∧ Below W.heap.size W wr) (fun i _ => 16 - (intOf i).toNat)
  case atStart => exact ⟨0, Nat.zero_le _, rfl, fun j hj => absurd hj (Nat.not_lt_zero _), Below.refl _ _⟩
  case round =>
    obtain ⟨k, hk, rfl, hall, hbel⟩ := hrel
    by_cases hkn : k < 16
    · have hki : (k : Int) < 16 := by omega
      have HC := flagsText_any k wr hkn (hTW.below hbel)
      have HY' : Hid (str (fxL k) = s → r = (0, (k : Int))) := fun h => HY.out k hkn h hall
      have HN' : Hid (str (fxL k) ≠ s → ∀ j, j < k + 1 → pfB s j = false) := fun h j hj => by
        rcases Nat.lt_or_ge j k with h' | h'
        · exact hall j h'
        · obtain rfl : j = k := by omega
          exact decide_eq_false h
      clear hall
      generalize str (fxL k) = t at *
      go_wp2_with fail
      refine HC.mono ?_
      rintro e w2 ⟨rfl, hb2⟩
      have hbel2 := hbel.trans (hb2.mono hbel.size)
      have hbw := hb0.trans (hbel2.mono hb0.size)
      clear HC hb2
      by_cases h : t = s
      · have HM : Hid (r = (0, (k : Int))) := HY'.out h
        obtain ⟨a0, a1, z0, z1⟩ := HRB.out w2 hbel2
        obtain ⟨k0, k1⟩ := res_cells a0 a1 (.int .i64 0) (.int .i64 (k : Int))
        have HE : Hid (_) := fl_end (R := w.heap.size) (Nat.le_refl _) hbw (.int .i64 0) (.int .i64 (k : Int))
        subst h
        clear HY' HN' HY HN
        go_wp2
        refine bodyPost_ret (v := .agg #[.int .i64 0, .int .i64 (k : Int)]) (by simp [results, Tryd.results7, go_sem, k0, k1]) rfl ?_
        rw [HM.out]
        exact ⟨rfl, HE.out⟩
      · have HM : Hid (_) := HN'.out h
        have h' : (t.toList == s.toList) = false := by simpa using toListF_ne h
        clear HY' HN'
        go_wp2
        go_roundw
        case rel => exact ⟨k + 1, by omega, by go_num, HM.out, hbel2⟩
        case measure => simp [intOf]; omega
    · have hki : ¬ (k : Int) < 16 := by omega
      have HM : Hid (r = (5, 0)) := HN.out (fun i hi => hall i (by omega))
      have hbw := hb0.trans (hbel.mono hb0.size)
      obtain ⟨a0, a1, z0, z1⟩ := HRB.out wr hbel
      obtain ⟨k0, k1⟩ := res_cells a0 a1 (.int .i64 5) (.int .i64 0)
      have HE : Hid (_) := fl_end (R := w.heap.size) (Nat.le_refl _) hbw (.int .i64 5) (.int .i64 0)
      clear hall HY HN
      go_wp2
      refine bodyPost_ret (v := .agg #[.int .i64 5, .int .i64 0]) (by simp [results, Tryd.results7, go_sem, k0, k1]) rfl ?_
      rw [HM.out]
      exact ⟨rfl, HE.out⟩

set_option maxHeartbeats 1600000 in
set_option maxRecDepth 100000 in
theorem specParseFlags_any (s : ByteArray) (w : World) :
    Calls Tryd.prog 8 #[.string s] w fun e w' => e = .returned (.agg #[.int .i64 (pfV s).1, .int .i64 (pfV s).2]) ∧ Below w.heap.size w w' := by
  have hb0 : Below w.heap.size w (w.alloc (.cells #[.int .i64 0, .int .i64 0] 26)) := (Below.refl _ _).alloc (Nat.le_refl _) _
  obtain ⟨W, hW⟩ : ∃ W, w.alloc (.cells #[.int .i64 0, .int .i64 0] 26) = W := ⟨_, rfl⟩
  have HRB : Hid (∀ wr, Below W.heap.size W wr → _) := fun wr hb => res_block hW (hb.mono (by rw [← hW]; simp))
  have HY : Hid (∀ k, k < 16 → str (fxL k) = s → (∀ j, j < k → pfB s j = false) → pfV s = (0, (k : Int))) := fun k hk h hall => pfV_at hk h hall
  have HN : Hid ((∀ i, i < 16 → pfB s i = false) → pfV s = (5, 0)) := pfV_no
  rw [hW] at hb0
  generalize pfV s = r at *
  go_enter Tryd.func8, Tryd.ntmps8
  go_wp2
  go_loopw [3] (fun i wr => ∃ k : Nat, k ≤ 16 ∧ i = .int .i64 k ∧ (∀ j, j < k → pfB s j = false) ∧ Below W.heap.size W wr) (fun i _ => 16 - (intOf i).toNat)
  case atStart => exact ⟨0, Nat.zero_le _, rfl, fun j hj => absurd hj (Nat.not_lt_zero _), Below.refl _ _⟩
  case round =>
    obtain ⟨k, hk, rfl, hall, hbel⟩ := hrel
    by_cases hkn : k < 16
    · have hki : (k : Int) < 16 := by omega
      have HC := l7Flags_any k wr hkn
      have HY' : Hid (str (fxL k) = s → r = (0, (k : Int))) := fun h => HY.out k hkn h hall
      have HN' : Hid (str (fxL k) ≠ s → ∀ j, j < k + 1 → pfB s j = false) := fun h j hj => by
        rcases Nat.lt_or_ge j k with h' | h'
        · exact hall j h'
        · obtain rfl : j = k := by omega
          exact decide_eq_false h
      clear hall
      generalize str (fxL k) = t at *
      go_wp2_with fail
      refine HC.mono ?_
      rintro e w2 ⟨rfl, hb2⟩
      have hbel2 := hbel.trans (hb2.mono hbel.size)
      have hbw := hb0.trans (hbel2.mono hb0.size)
      clear HC hb2
      by_cases h : t = s
      · have HM : Hid (r = (0, (k : Int))) := HY'.out h
        obtain ⟨a0, a1, z0, z1⟩ := HRB.out w2 hbel2
        obtain ⟨k0, k1⟩ := res_cells a0 a1 (.int .i64 0) (.int .i64 (k : Int))
        have HE : Hid (_) := fl_end (R := w.heap.size) (Nat.le_refl _) hbw (.int .i64 0) (.int .i64 (k : Int))
        subst h
        clear HY' HN' HY HN
        go_wp2
        refine bodyPost_ret (v := .agg #[.int .i64 0, .int .i64 (k : Int)]) (by simp [results, Tryd.results8, go_sem, k0, k1]) rfl ?_
        rw [HM.out]
        exact ⟨rfl, HE.out⟩
      · have HM : Hid (_) := HN'.out h
        have h' : (t.toList == s.toList) = false := by simpa using toListF_ne h
        clear HY' HN'
        go_wp2
        go_roundw
        case rel => exact ⟨k + 1, by omega, by go_num, HM.out, hbel2⟩
        case measure => simp [intOf]; omega
    · have hki : ¬ (k : Int) < 16 := by omega
      have HM : Hid (r = (5, 0)) := HN.out (fun i hi => hall i (by omega))
      have hbw := hb0.trans (hbel.mono hb0.size)
      obtain ⟨a0, a1, z0, z1⟩ := HRB.out wr hbel
      obtain ⟨k0, k1⟩ := res_cells a0 a1 (.int .i64 5) (.int .i64 0)
      have HE : Hid (_) := fl_end (R := w.heap.size) (Nat.le_refl _) hbw (.int .i64 5) (.int .i64 0)
      clear hall HY HN
      go_wp2
      refine bodyPost_ret (v := .agg #[.int .i64 5, .int .i64 0]) (by simp [results, Tryd.results8, go_sem, k0, k1]) rfl ?_
      rw [HM.out]
      exact ⟨rfl, HE.out⟩

end Go.Proofs.YtilepbbcinbmhaaDoor
