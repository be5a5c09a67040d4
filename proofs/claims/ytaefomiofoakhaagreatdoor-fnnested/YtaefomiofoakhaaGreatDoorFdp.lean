/- FieldsFault, the program's, at every slice of fields: by the same plain function as the model's. -/
import Derived.Test.YtaefomiofoakhaaGreatDoorAppFToHdr
import Derived.Handy
namespace Go.Proofs.YtaefomiofoakhaaGreatDoor
open Go.RowKit

theorem isNameByte_any (c : Nat) (w : World) (hc : c < 256) : Calls Tryz.prog 106 #[.int .u8 (c : Int)] w fun e w' => e = .returned (.bool (nmB c)) ∧ w = w' := by
  go_enter Tryz.func106, Tryz.ntmps106
  go_wp2
  all_goals (go_ret; refine ret_bool ?_; rw [Bool.eq_iff_iff]; unfold nmB; simp; try omega)
theorem isValueByte_any (c : Nat) (w : World) (hc : c < 256) : Calls Tryz.prog 107 #[.int .u8 (c : Int)] w fun e w' => e = .returned (.bool (vlB c)) ∧ w = w' := by
  go_enter Tryz.func107, Tryz.ntmps107
  go_wp2
  all_goals (go_ret; refine ret_bool ?_; rw [Bool.eq_iff_iff]; unfold vlB; simp; try omega)

set_option maxHeartbeats 1600000 in
set_option maxRecDepth 100000 in
theorem areBytes_name (t : List Nat) (n : Nat) (w : World) (hl : t.length = n) (hB : IsB t) (hn : n ≤ 1048576) :
    Calls Tryz.prog 105 #[.string (str t), .func (.func 106) #[] #[]] w fun e w' => e = .returned (.bool (t.all nmB)) ∧ w = w' := by
  have hsz : (str t).size = n := by rw [str_size, hl]
  have HL : Hid (t.length = n) := hl
  clear hl
  go_enter Tryz.func105, Tryz.ntmps105
  go_wp2
  go_loop [8] (fun v => ∃ k : Nat, k ≤ n ∧ v = .int .i64 k ∧ (t.take k).all nmB = true) (fun v => n - (intOf v).toNat)
  case atStart => exact ⟨0, Nat.zero_le _, rfl, by simp⟩
  case round =>
    obtain ⟨k, hk, rfl, hall⟩ := hrel
    by_cases hkn : k < n
    · have hki : (k : Int) < (n : Int) := by omega
      have g0 := str_get hB (i := k) (by rw [hsz]; exact hkn)
      have HY : Hid (nmB (nth t k) = true → (t.take (k + 1)).all nmB = true) := fun h => allN_step (by have := HL.out; omega) hall h
      have HN : Hid (nmB (nth t k) = false → t.all nmB = false) := fun h => allN_bad (by have := HL.out; omega) h
      have hx := nth_lt hB k
      have HC : Hid (∀ w, Calls Tryz.prog 106 #[.int .u8 (nth t k : Int)] w fun e w' => e = .returned (.bool (nmB (nth t k))) ∧ w = w') := fun w => isNameByte_any (nth t k) w hx
      generalize hbv : nmB (nth t k) = bv at *
      clear hbv hall
      generalize nth t k = x at *
      cases bv with
      | true =>
        have HM : Hid (_) := HY.out rfl
        clear HY HN
        go_wp2_with fail
        refine (HC.out _).mono ?_
        rintro e w' ⟨rfl, rfl⟩
        go_wp2
        go_round
        case rel => exact ⟨k + 1, by omega, by go_num, HM.out⟩
        case measure => simp [intOf]; omega
      | false =>
        have HM : Hid (_) := HN.out rfl
        clear HY HN
        go_wp2_with fail
        refine (HC.out _).mono ?_
        rintro e w' ⟨rfl, rfl⟩
        go_wp2
        go_ret
        exact ⟨by rw [HM.out]; rfl, rfl⟩
    · have hki : ¬ (k : Int) < (n : Int) := by omega
      have HM : Hid (t.all nmB = true) := by
        show _ = _
        rw [show k = t.length by have := HL.out; omega, List.take_length] at hall
        exact hall
      clear hall
      go_wp2
      go_ret
      exact ⟨by rw [HM.out]; rfl, rfl⟩

set_option maxHeartbeats 1600000 in
set_option maxRecDepth 100000 in
theorem areBytes_value (t : List Nat) (n : Nat) (w : World) (hl : t.length = n) (hB : IsB t) (hn : n ≤ 1048576) :
    Calls Tryz.prog 105 #[.string (str t), .func (.func 107) #[] #[]] w fun e w' => e = .returned (.bool (t.all vlB)) ∧ w = w' := by
  have hsz : (str t).size = n := by rw [str_size, hl]
  have HL : Hid (t.length = n) := hl
  clear hl
  go_enter Tryz.func105, Tryz.ntmps105
  go_wp2
  go_loop [8] (fun v => ∃ k : Nat, k ≤ n ∧ v = .int .i64 k ∧ (t.take k).all vlB = true) (fun v => n - (intOf v).toNat)
  case atStart => exact ⟨0, Nat.zero_le _, rfl, by simp⟩
  case round =>
    obtain ⟨k, hk, rfl, hall⟩ := hrel
    by_cases hkn : k < n
    · have hki : (k : Int) < (n : Int) := by omega
      have g0 := str_get hB (i := k) (by rw [hsz]; exact hkn)
      have HY : Hid (vlB (nth t k) = true → (t.take (k + 1)).all vlB = true) := fun h => allN_step (by have := HL.out; omega) hall h
      have HN : Hid (vlB (nth t k) = false → t.all vlB = false) := fun h => allN_bad (by have := HL.out; omega) h
      have hx := nth_lt hB k
      have HC : Hid (∀ w, Calls Tryz.prog 107 #[.int .u8 (nth t k : Int)] w fun e w' => e = .returned (.bool (vlB (nth t k))) ∧ w = w') := fun w => isValueByte_any (nth t k) w hx
      generalize hbv : vlB (nth t k) = bv at *
      clear hbv hall
      generalize nth t k = x at *
      cases bv with
      | true =>
        have HM : Hid (_) := HY.out rfl
        clear HY HN
        go_wp2_with fail
        refine (HC.out _).mono ?_
        rintro e w' ⟨rfl, rfl⟩
        go_wp2
        go_round
        case rel => exact ⟨k + 1, by omega, by go_num, HM.out⟩
        case measure => simp [intOf]; omega
      | false =>
        have HM : Hid (_) := HN.out rfl
        clear HY HN
        go_wp2_with fail
        refine (HC.out _).mono ?_
        rintro e w' ⟨rfl, rfl⟩
        go_wp2
        go_ret
        exact ⟨by rw [HM.out]; rfl, rfl⟩
    · have hki : ¬ (k : Int) < (n : Int) := by omega
      have HM : Hid (t.all vlB = true) := by
        show _ = _
        rw [show k = t.length by have := HL.out; omega, List.take_length] at hall
        exact hall
      clear hall
      go_wp2
      go_ret
      exact ⟨by rw [HM.out]; rfl, rfl⟩

theorem isFieldName_any (t : List Nat) (n : Nat) (w : World) (hl : t.length = n) (hB : IsB t) (hn : n ≤ 1048576) : Calls Tryz.prog 92 #[.string (str t)] w fun e w' => e = .returned (.bool (nmOk t)) ∧ w = w' := by
  have hsz : (str t).size = n := by rw [str_size, hl]
  have HC : Hid (∀ w, Calls Tryz.prog 105 #[.string (str t), .func (.func 106) #[] #[]] w fun e w' => e = .returned (.bool (t.all nmB)) ∧ w = w') := fun w => areBytes_name t n w hl hB hn
  have HM : Hid (nmOk t = (t.all nmB && decide (1 ≤ n ∧ n ≤ 30))) := by show _ = _; unfold nmOk; rw [hl]
  clear hl hB
  generalize t.all nmB = b at *
  by_cases h1 : 1 ≤ n
  · have h1' : (1 : Int) ≤ (n : Int) := by omega
    by_cases h2 : n ≤ 30
    · have h2' : (n : Int) ≤ 30 := by omega
      go_enter Tryz.func92, Tryz.ntmps92
      go_wp2_with fail
      refine (HC.out _).mono ?_
      rintro e w' ⟨rfl, rfl⟩
      go_wp2
      go_ret
      exact ⟨by rw [HM.out, decide_eq_true ⟨h1, h2⟩]; simp, rfl⟩
    · have h2' : ¬ (n : Int) ≤ 30 := by omega
      go_enter Tryz.func92, Tryz.ntmps92
      go_wp2
      go_ret
      exact ⟨by rw [HM.out, decide_eq_false (by omega)]; simp, rfl⟩
  · have h1' : ¬ (1 : Int) ≤ (n : Int) := by omega
    go_enter Tryz.func92, Tryz.ntmps92
    go_wp2
    go_ret
    exact ⟨by rw [HM.out, decide_eq_false (by omega)]; simp, rfl⟩
theorem isFieldValue_any (t : List Nat) (n : Nat) (w : World) (hl : t.length = n) (hB : IsB t) (hn : n ≤ 1048576) : Calls Tryz.prog 93 #[.string (str t)] w fun e w' => e = .returned (.bool (vlOk t)) ∧ w = w' := by
  have hsz : (str t).size = n := by rw [str_size, hl]
  have HC : Hid (∀ w, Calls Tryz.prog 105 #[.string (str t), .func (.func 107) #[] #[]] w fun e w' => e = .returned (.bool (t.all vlB)) ∧ w = w') := fun w => areBytes_value t n w hl hB hn
  have HM : Hid (vlOk t = (t.all vlB && decide (n ≤ 120))) := by show _ = _; unfold vlOk; rw [hl]
  clear hl hB
  generalize t.all vlB = b at *
  by_cases h2 : n ≤ 120
  · have h2' : (n : Int) ≤ 120 := by omega
    go_enter Tryz.func93, Tryz.ntmps93
    go_wp2_with fail
    refine (HC.out _).mono ?_
    rintro e w' ⟨rfl, rfl⟩
    go_wp2
    go_ret
    exact ⟨by rw [HM.out, decide_eq_true h2]; simp, rfl⟩
  · have h2' : ¬ (n : Int) ≤ 120 := by omega
    go_enter Tryz.func93, Tryz.ntmps93
    go_wp2
    go_ret
    exact ⟨by rw [HM.out, decide_eq_false h2]; simp, rfl⟩

set_option maxHeartbeats 1600000 in
set_option maxRecDepth 100000 in
theorem fieldsFault_any (a : Option Addr) (n cap : Nat) (l : List FldP) (w : World) (hl : l.length = n) (hr : RdF w a l) (hn : n ≤ 1048576) (hfit : Fit l) :
    Calls Tryz.prog 71 #[.slice a n cap] w fun e w' => e = .returned (.int .i64 (fdF l)) ∧ Below w.heap.size w w' := by
  have HL : Hid (l.length = n) := hl
  by_cases h8 : 8 < n
  · have h8' : (8 : Int) < (n : Int) := by omega
    have HM : Hid (fdF l = 2) := fdF_many (by omega)
    go_enter Tryz.func71, Tryz.ntmps71
    go_wp2
    go_ret
    exact ⟨by rw [HM.out]; rfl, Below.refl _ _⟩
  · have h8' : ¬ (8 : Int) < (n : Int) := by omega
    clear hl
    go_enter Tryz.func71, Tryz.ntmps71
    go_wp2
    go_loopw [10] (fun v wr => ∃ k : Nat, k ≤ n ∧ v = .int .i64 k ∧ (l.take k).all fdOk = true ∧ Below w.heap.size w wr) (fun v _ => n - (intOf v).toNat)
    case atStart => exact ⟨0, Nat.zero_le _, rfl, by simp, Below.refl _ _⟩
    case round =>
      obtain ⟨k, hk, rfl, hall, hbel⟩ := hrel
      have hz := hbel.size
      by_cases hkn : k < n
      · obtain ⟨b, off, rfl, hblt, hcell⟩ := hr.at_ (by have := HL.out; omega)
        have hc0 : wr.cell? ⟨b, off + k * 2, none⟩ = some (.string (nthF l k).1) := (hbel.cell (p := ⟨b, off + k * 2, none⟩) hblt).trans (hcell k (by have := HL.out; omega)).1
        have hc1 : wr.cell? ⟨b, off + k * 2 + 1, none⟩ = some (.string (nthF l k).2) := (hbel.cell (p := ⟨b, off + k * 2 + 1, none⟩) hblt).trans (hcell k (by have := HL.out; omega)).2
        have hf := hfit (nthF l k) (by rw [nthF_get (by have := HL.out; omega)]; exact List.getElem_mem _)
        have hki : (k : Int) < (n : Int) := by omega
        have HY : Hid (fdOk (nthF l k) = true → (l.take (k + 1)).all fdOk = true) := fun h => allF_step (by have := HL.out; omega) hall h
        have HN : Hid (fdOk (nthF l k) = false → fdF l = 5) := fun h => fdF_bad (by have := HL.out; omega) (allF_bad (by have := HL.out; omega) h)
        clear hcell hall
        generalize nthF l k = p at *
        obtain ⟨x, y⟩ := p
        simp only at hc0 hc1 hf
        have HX : Hid (∀ w, Calls Tryz.prog 92 #[.string x] w fun e w' => e = .returned (.bool (nmOk (bts x))) ∧ w = w') := fun w => by
          have h := isFieldName_any (bts x) _ w rfl (bts_isB x) (by rw [bts_len]; exact hf.1)
          rw [str_bts] at h; exact h
        have HV : Hid (∀ w, Calls Tryz.prog 93 #[.string y] w fun e w' => e = .returned (.bool (vlOk (bts y))) ∧ w = w') := fun w => by
          have h := isFieldValue_any (bts y) _ w rfl (bts_isB y) (by rw [bts_len]; exact hf.2)
          rw [str_bts] at h; exact h
        have hok : fdOk (x, y) = (nmOk (bts x) && vlOk (bts y)) := rfl
        rw [hok] at HY HN
        have hbA : ∀ cs, Below w.heap.size w (wr.alloc (.cells cs 122)) := fun cs => hbel.alloc hz _
        clear hok hf
        generalize nmOk (bts x) = b1 at *
        generalize vlOk (bts y) = b2 at *
        cases b1 with
        | false =>
          have HM : Hid (_) := HN.out rfl
          clear HY HN
          go_wp2_with fail
          refine (HX.out _).mono ?_
          rintro e w' ⟨rfl, rfl⟩
          go_wp2
          go_ret
          exact ⟨by rw [HM.out]; rfl, hbA _⟩
        | true =>
          go_wp2_with fail
          refine (HX.out _).mono ?_
          rintro e w' ⟨rfl, rfl⟩
          go_wp2_with fail
          refine (HV.out _).mono ?_
          rintro e w1 ⟨rfl, rfl⟩
          cases b2 with
          | false =>
            have HM : Hid (_) := HN.out rfl
            clear HY HN
            go_wp2
            go_ret
            exact ⟨by rw [HM.out]; rfl, hbA _⟩
          | true =>
            have HM : Hid (_) := HY.out rfl
            clear HY HN
            go_wp2
            go_roundw
            case rel => exact ⟨k + 1, by omega, by go_num, HM.out, hbA _⟩
            case measure => simp [intOf]; omega
      · have hki : ¬ (k : Int) < (n : Int) := by omega
        have HM : Hid (fdF l = 0) := fdF_ok (by have := HL.out; omega) (by rw [show k = l.length by have := HL.out; omega, List.take_length] at hall; exact hall)
        clear hall
        go_wp2
        go_ret
        exact ⟨by rw [HM.out]; rfl, hbel⟩
end Go.Proofs.YtaefomiofoakhaaGreatDoor
