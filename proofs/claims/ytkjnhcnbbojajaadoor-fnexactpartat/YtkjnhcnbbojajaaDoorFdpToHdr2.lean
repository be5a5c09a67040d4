/- FieldsFault, the program's, at every slice of fields: by the same plain function as the model's · A slice of bytes that was made of a text: it may be written; no conditions beyond those that each fact names · Small letters, the program's and the model's: both by one plain function; texts of at most 1048576 bytes · FieldOf, the model's, at every slice of fields and every text: by a plain function. -/
import Derived.Test.YtkjnhcnbbojajaaDoorFldSToHdr
import Derived.Handy
import Derived.Test.YtkjnhcnbbojajaaDoorMemToMrk0
namespace Go.Proofs.YtkjnhcnbbojajaaDoor
open Go.RowKit

theorem isNameByte_any (c : Nat) (w : World) (hc : c < 256) : Calls Tryd.prog 113 #[.int .u8 (c : Int)] w fun e w' => e = .returned (.bool (nmB c)) ∧ w = w' := by
  go_enter Tryd.func113, Tryd.ntmps113
  go_wp2
  all_goals (go_ret; refine ret_bool ?_; rw [Bool.eq_iff_iff]; unfold nmB; simp; try omega)
theorem isValueByte_any (c : Nat) (w : World) (hc : c < 256) : Calls Tryd.prog 114 #[.int .u8 (c : Int)] w fun e w' => e = .returned (.bool (vlB c)) ∧ w = w' := by
  go_enter Tryd.func114, Tryd.ntmps114
  go_wp2
  all_goals (go_ret; refine ret_bool ?_; rw [Bool.eq_iff_iff]; unfold vlB; simp; try omega)

set_option maxHeartbeats 1600000 in
set_option maxRecDepth 100000 in
theorem areBytes_name (t : List Nat) (n : Nat) (w : World) (hl : t.length = n) (hB : IsB t) (hn : n ≤ 1048576) :
    Calls Tryd.prog 29 #[.string (str t), .func (.func 113) #[] #[]] w fun e w' => e = .returned (.bool (t.all nmB)) ∧ w = w' := by
  have hsz : (str t).size = n := by rw [str_size, hl]
  have HL : Hid (t.length = n) := hl
  clear hl
  go_enter Tryd.func29, Tryd.ntmps29
  go_wp2
  go_loop [8] (fun v => ∃ k : Nat, k ≤ n ∧ v = .int .i64 k ∧ (t.take k).all nmB = true) (fun v => n - (intOf v).toNat)
  case atStart => exact ⟨0, Nat.zero_le _, rfl, by simp⟩
  case round =>
    obtain ⟨k, hk, rfl, hall⟩ := hrel
    by_cases hkn : k < n
    · have hki : (k : Int) < (n : Int) := by omega
      have g0 := str_get hB (i := k) (by rw [hsz]; exact hkn)
      have HY : Hid (nmB (nth t k) = true → (t.take (k + 1)).all nmB = true) := fun h => allN_step (by have := HL.out; omega) hall h
      have HN : Hid (nmB (nth t k) = false → t.all nmB = false) := fun h => allN_bad (by have := HL.out; omega) h
      have hx := nth_lt hB k
      have HC : Hid (∀ w, Calls Tryd.prog 113 #[.int .u8 (nth t k : Int)] w fun e w' => e = .returned (.bool (nmB (nth t k))) ∧ w = w') := fun w => isNameByte_any (nth t k) w hx
      generalize hbv : nmB (nth t k) = bv at *
      clear hbv hall
      generalize nth t k = x at *
      cases bv with
      | true =>
        have HM : Hid (_) := HY.out rfl
        clear HY HN
        go_wp2_with fail
        refine (HC.out _).mono ?_
        rintro e w' ⟨rfl, rfl⟩
        go_wp2
        go_round
        case rel => exact ⟨k + 1, by omega, by go_num, HM.out⟩
        case measure => simp [intOf]; omega
      | false =>
        have HM : Hid (_) := HN.out rfl
        clear HY HN
        go_wp2_with fail
        refine (HC.out _).mono ?_
        rintro e w' ⟨rfl, rfl⟩
        go_wp2
        go_ret
        exact ⟨by rw [HM.out]; rfl, rfl⟩
    · have hki : ¬ (k : Int) < (n : Int) := by omega
      have HM : Hid (t.all nmB = true) := by
        show _ = _
        rw [show k = t.length by have := HL.out; omega, List.take_length] at hall
        exact hall
      clear hall
      go_wp2
      go_ret
      exact ⟨by rw [HM.out]; rfl, rfl⟩

set_option maxHeartbeats 1600000 in
set_option maxRecDepth 100000 in
theorem areBytes_value (t : List Nat) (n : Nat) (w : World) (hl : t.length = n) (hB : IsB t) (hn : n ≤ 1048576) :
    Calls Tryd.prog 29 #[.string (str t), .func (.func 114) #[] #[]] w fun e w' => e = .returned (.bool (t.all vlB)) ∧ w = w' := by
  have hsz : (str t).size = n := by rw [str_size, hl]
  have HL : Hid (t.length = n) := hl
  clear hl
  go_enter Tryd.func29, Tryd.ntmps29
  go_wp2
  go_loop [8] (fun v => ∃ k : Nat, k ≤ n ∧ v = .int .i64 k ∧ (t.take k).all vlB = true) (fun v => n - (intOf v).toNat)
  case atStart => exact ⟨0, Nat.zero_le _, rfl, by simp⟩
  case round =>
    obtain ⟨k, hk, rfl, hall⟩ := hrel
    by_cases hkn : k < n
    · have hki : (k : Int) < (n : Int) := by omega
      have g0 := str_get hB (i := k) (by rw [hsz]; exact hkn)
      have HY : Hid (vlB (nth t k) = true → (t.take (k + 1)).all vlB = true) := fun h => allN_step (by have := HL.out; omega) hall h
      have HN : Hid (vlB (nth t k) = false → t.all vlB = false) := fun h => allN_bad (by have := HL.out; omega) h
      have hx := nth_lt hB k
      have HC : Hid (∀ w, Calls Tryd.prog 114 #[.int .u8 (nth t k : Int)] w fun e w' => e = .returned (.bool (vlB (nth t k))) ∧ w = w') := fun w => isValueByte_any (nth t k) w hx
      generalize hbv : vlB (nth t k) = bv at *
      clear hbv hall
      generalize nth t k = x at *
      cases bv with
      | true =>
        have HM : Hid (_) := HY.out rfl
        clear HY HN
        go_wp2_with fail
        refine (HC.out _).mono ?_
        rintro e w' ⟨rfl, rfl⟩
        go_wp2
        go_round
        case rel => exact ⟨k + 1, by omega, by go_num, HM.out⟩
        case measure => simp [intOf]; omega
      | false =>
        have HM : Hid (_) := HN.out rfl
        clear HY HN
        go_wp2_with fail
        refine (HC.out _).mono ?_
        rintro e w' ⟨rfl, rfl⟩
        go_wp2
        go_ret
        exact ⟨by rw [HM.out]; rfl, rfl⟩
    · have hki : ¬ (k : Int) < (n : Int) := by omega
      have HM : Hid (t.all vlB = true) := by
        show _ = _
        rw [show k = t.length by have := HL.out; omega, List.take_length] at hall
        exact hall
      clear hall
      go_wp2
      go_ret
      exact ⟨by rw [HM.out]; rfl, rfl⟩

theorem isFieldName_any (t : List Nat) (n : Nat) (w : World) (hl : t.length = n) (hB : IsB t) (hn : n ≤ 1048576) : Calls Tryd.prog 97 #[.string (str t)] w fun e w' => e = .returned (.bool (nmOk t)) ∧ w = w' := by
  have hsz : (str t).size = n := by rw [str_size, hl]
  have HC : Hid (∀ w, Calls Tryd.prog 29 #[.string (str t), .func (.func 113) #[] #[]] w fun e w' => e = .returned (.bool (t.all nmB)) ∧ w = w') := fun w => areBytes_name t n w hl hB hn
  have HM : Hid (nmOk t = (t.all nmB && decide (1 ≤ n ∧ n ≤ 30))) := by show _ = _; unfold nmOk; rw [hl]
  clear hl hB
  generalize t.all nmB = b at *
  by_cases h1 : 1 ≤ n
  · have h1' : (1 : Int) ≤ (n : Int) := by omega
    by_cases h2 : n ≤ 30
    · have h2' : (n : Int) ≤ 30 := by omega
      go_enter Tryd.func97, Tryd.ntmps97
      go_wp2_with fail
      refine (HC.out _).mono ?_
      rintro e w' ⟨rfl, rfl⟩
      go_wp2
      go_ret
      exact ⟨by rw [HM.out, decide_eq_true ⟨h1, h2⟩]; simp, rfl⟩
    · have h2' : ¬ (n : Int) ≤ 30 := by omega
      go_enter Tryd.func97, Tryd.ntmps97
      go_wp2
      go_ret
      exact ⟨by rw [HM.out, decide_eq_false (by omega)]; simp, rfl⟩
  · have h1' : ¬ (1 : Int) ≤ (n : Int) := by omega
    go_enter Tryd.func97, Tryd.ntmps97
    go_wp2
    go_ret
    exact ⟨by rw [HM.out, decide_eq_false (by omega)]; simp, rfl⟩
theorem isFieldValue_any (t : List Nat) (n : Nat) (w : World) (hl : t.length = n) (hB : IsB t) (hn : n ≤ 1048576) : Calls Tryd.prog 98 #[.string (str t)] w fun e w' => e = .returned (.bool (vlOk t)) ∧ w = w' := by
  have hsz : (str t).size = n := by rw [str_size, hl]
  have HC : Hid (∀ w, Calls Tryd.prog 29 #[.string (str t), .func (.func 114) #[] #[]] w fun e w' => e = .returned (.bool (t.all vlB)) ∧ w = w') := fun w => areBytes_value t n w hl hB hn
  have HM : Hid (vlOk t = (t.all vlB && decide (n ≤ 120))) := by show _ = _; unfold vlOk; rw [hl]
  clear hl hB
  generalize t.all vlB = b at *
  by_cases h2 : n ≤ 120
  · have h2' : (n : Int) ≤ 120 := by omega
    go_enter Tryd.func98, Tryd.ntmps98
    go_wp2_with fail
    refine (HC.out _).mono ?_
    rintro e w' ⟨rfl, rfl⟩
    go_wp2
    go_ret
    exact ⟨by rw [HM.out, decide_eq_true h2]; simp, rfl⟩
  · have h2' : ¬ (n : Int) ≤ 120 := by omega
    go_enter Tryd.func98, Tryd.ntmps98
    go_wp2
    go_ret
    exact ⟨by rw [HM.out, decide_eq_false h2]; simp, rfl⟩

set_option maxHeartbeats 1600000 in
set_option maxRecDepth 100000 in
theorem fieldsFault_any (a : Option Addr) (n cap : Nat) (l : List FldP) (w : World) (hl : l.length = n) (hr : RdF w a l) (hn : n ≤ 1048576) (hfit : Fit l) :
    Calls Tryd.prog 79 #[.slice a n cap] w fun e w' => e = .returned (.int .i64 (fdF l)) ∧ Below w.heap.size w w' := by
  have HL : Hid (l.length = n) := hl
  by_cases h8 : 8 < n
  · have h8' : (8 : Int) < (n : Int) := by omega
    have HM : Hid (fdF l = 2) := fdF_many (by omega)
    go_enter Tryd.func79, Tryd.ntmps79
    go_wp2
    go_ret
    exact ⟨by rw [HM.out]; rfl, Below.refl _ _⟩
  · have h8' : ¬ (8 : Int) < (n : Int) := by omega
    clear hl
    go_enter Tryd.func79, Tryd.ntmps79
    go_wp2
    go_loopw [10] (fun v wr => ∃ k : Nat, k ≤ n ∧ v = .int .i64 k ∧ (l.take k).all fdOk = true ∧ Below w.heap.size w wr) (fun v _ => n - (intOf v).toNat)
    case atStart => exact ⟨0, Nat.zero_le _, rfl, by simp, Below.refl _ _⟩
    case round =>
      obtain ⟨k, hk, rfl, hall, hbel⟩ := hrel
      have hz := hbel.size
      by_cases hkn : k < n
      · obtain ⟨b, off, rfl, hblt, hcell⟩ := hr.at_ (by have := HL.out; omega)
        have hc0 : wr.cell? ⟨b, off + k * 2, none⟩ = some (.string (nthF l k).1) := (hbel.cell (p := ⟨b, off + k * 2, none⟩) hblt).trans (hcell k (by have := HL.out; omega)).1
        have hc1 : wr.cell? ⟨b, off + k * 2 + 1, none⟩ = some (.string (nthF l k).2) := (hbel.cell (p := ⟨b, off + k * 2 + 1, none⟩) hblt).trans (hcell k (by have := HL.out; omega)).2
        have hf := hfit (nthF l k) (by rw [nthF_get (by have := HL.out; omega)]; exact List.getElem_mem _)
        have hki : (k : Int) < (n : Int) := by omega
        have HY : Hid (fdOk (nthF l k) = true → (l.take (k + 1)).all fdOk = true) := fun h => allF_step (by have := HL.out; omega) hall h
        have HN : Hid (fdOk (nthF l k) = false → fdF l = 5) := fun h => fdF_bad (by have := HL.out; omega) (allF_bad (by have := HL.out; omega) h)
        clear hcell hall
        generalize nthF l k = p at *
        obtain ⟨x, y⟩ := p
        simp only at hc0 hc1 hf
        have HX : Hid (∀ w, Calls Tryd.prog 97 #[.string x] w fun e w' => e = .returned (.bool (nmOk (bts x))) ∧ w = w') := fun w => by
          have h := isFieldName_any (bts x) _ w rfl (bts_isB x) (by rw [bts_len]; exact hf.1)
          rw [str_bts] at h; exact h
        have HV : Hid (∀ w, Calls Tryd.prog 98 #[.string y] w fun e w' => e = .returned (.bool (vlOk (bts y))) ∧ w = w') := fun w => by
          have h := isFieldValue_any (bts y) _ w rfl (bts_isB y) (by rw [bts_len]; exact hf.2)
          rw [str_bts] at h; exact h
        have hok : fdOk (x, y) = (nmOk (bts x) && vlOk (bts y)) := rfl
        rw [hok] at HY HN
        have hbA : ∀ cs, Below w.heap.size w (wr.alloc (.cells cs 129)) := fun cs => hbel.alloc hz _
        clear hok hf
        generalize nmOk (bts x) = b1 at *
        generalize vlOk (bts y) = b2 at *
        cases b1 with
        | false =>
          have HM : Hid (_) := HN.out rfl
          clear HY HN
          go_wp2_with fail
          refine (HX.out _).mono ?_
          rintro e w' ⟨rfl, rfl⟩
          go_wp2
          go_ret
          exact ⟨by rw [HM.out]; rfl, hbA _⟩
        | true =>
          go_wp2_with fail
          refine (HX.out _).mono ?_
          rintro e w' ⟨rfl, rfl⟩
          go_wp2_with fail
          refine (HV.out _).mono ?_
          rintro e w1 ⟨rfl, rfl⟩
          cases b2 with
          | false =>
            have HM : Hid (_) := HN.out rfl
            clear HY HN
            go_wp2
            go_ret
            exact ⟨by rw [HM.out]; rfl, hbA _⟩
          | true =>
            have HM : Hid (_) := HY.out rfl
            clear HY HN
            go_wp2
            go_roundw
            case rel => exact ⟨k + 1, by omega, by go_num, HM.out, hbA _⟩
            case measure => simp [intOf]; omega
      · have hki : ¬ (k : Int) < (n : Int) := by omega
        have HM : Hid (fdF l = 0) := fdF_ok (by have := HL.out; omega) (by rw [show k = l.length by have := HL.out; omega, List.take_length] at hall; exact hall)
        clear hall
        go_wp2
        go_ret
        exact ⟨by rw [HM.out]; rfl, hbel⟩
end Go.Proofs.YtkjnhcnbbojajaaDoor

namespace Go.Proofs.YtkjnhcnbbojajaaDoor
open Go.RowKit

/-- A slice of bytes out of a text: n bytes l, room up to cap, in block g, which may be written. -/
def Cv (w : World) (g n cap : Nat) (l : List Nat) : Prop := l.length = n ∧ n ≤ cap ∧ g < w.heap.size ∧ (∀ i, i < n → w.cell? ⟨g, i, none⟩ = some (.int .u8 (nth l i : Int))) ∧ ∀ i, i < cap → (w.cell? ⟨g, i, none⟩).isSome = true ∧ w.frozen? ⟨g, i, none⟩ = false
theorem Cv.rd {w : World} {g n cap : Nat} {l : List Nat} (h : Cv w g n cap l) : Rd w (some ⟨g, 0, none⟩) l := by
  obtain ⟨hl, _, hg, hc, _⟩ := h
  exact .inr ⟨g, 0, rfl, hg, fun i hi => by rw [Nat.zero_add]; exact hc i (by omega)⟩
theorem Cv.kept {w w' : World} {g n cap b : Nat} {l : List Nat} (h : Cv w g n cap l) (hg : w.grownBy w' (some b)) (hb : b ≠ g) : Cv w' g n cap l := by
  obtain ⟨hl, hn, hlt, hc, hf⟩ := h
  have e1 : ∀ i, w'.cell? ⟨g, i, none⟩ = w.cell? ⟨g, i, none⟩ := fun i => hg.cell_far ⟨g, i, none⟩ hlt (by simp; omega)
  have e2 : ∀ i, w'.frozen? ⟨g, i, none⟩ = w.frozen? ⟨g, i, none⟩ := fun i => hg.frozen_far ⟨g, i, none⟩ hlt (by simp; omega)
  exact ⟨hl, hn, Nat.lt_of_lt_of_le hlt hg.size, fun i hi => (e1 i).trans (hc i hi), fun i hi => by rw [e1, e2]; exact hf i hi⟩
theorem Cv.below {w w' : World} {g n cap C : Nat} {l : List Nat} (h : Cv w g n cap l) (hb : Below C w w') (hC : g < C) : Cv w' g n cap l := by
  obtain ⟨hl, hn, hlt, hc, hf⟩ := h
  have e1 : ∀ i, w'.cell? ⟨g, i, none⟩ = w.cell? ⟨g, i, none⟩ := fun i => hb.cell (p := ⟨g, i, none⟩) hC
  have e2 : ∀ i, w'.frozen? ⟨g, i, none⟩ = w.frozen? ⟨g, i, none⟩ := fun i => hb.frozen (p := ⟨g, i, none⟩) hC
  exact ⟨hl, hn, Nat.lt_of_lt_of_le hlt hb.size, fun i hi => (e1 i).trans (hc i hi), fun i hi => by rw [e1, e2]; exact hf i hi⟩
theorem bytesRow_size (l : List Nat) (cap : Nat) (h : l.length ≤ cap) : (bytesRow (str l) cap).size = cap := by
  have := str_size l
  have e : (str l).data.size = (str l).size := rfl
  simp [bytesRow, e, this]; omega
theorem Cv.conv (w : World) (l : List Nat) (hB : IsB l) (cap : Nat) (h : l.length ≤ cap) : Cv (w.alloc (.cells (bytesRow (str l) cap) 5 ((bytesRow (str l) cap).size, (bytesRow (str l) cap).size + 1))) w.heap.size l.length cap l := by
  have hs := bytesRow_size l cap h
  refine ⟨rfl, h, by simp, fun i hi => ?_, fun i hi => ⟨?_, ?_⟩⟩
  · rw [World.cell?_alloc_mark, ← Array.getElem?_toList, ← bc_get hi, ← bytesRow_take l hB cap, List.getElem?_take, if_pos hi]
  · rw [World.cell?_alloc_mark, Array.getElem?_eq_getElem (by omega)]; rfl
  · rw [World.frozen?_alloc_mark, hs, decide_eq_false (by omega), Bool.false_and]
theorem below_setCells (g : Nat) : ∀ (vs : List Value) (o : Nat) (w : World), Below g w (w.setCells g o vs)
  | [], _, _ => Below.refl _ _
  | v :: r, o, w => ((Below.refl _ _).setCell (p := ⟨g, o, none⟩) (Nat.le_refl _) v).trans (below_setCells g r (o + 1) (w.setCell ⟨g, o, none⟩ v))

/-- A byte of such a slice, written. -/
theorem Cv.put {w : World} {g n cap j y : Nat} {l : List Nat} (h : Cv w g n cap l) (hj : j < n) : Cv (w.setCell ⟨g, j, none⟩ (.int .u8 (y : Int))) g n cap (l.set j y) := by
  obtain ⟨hl, hn, hg, hc, hf⟩ := h
  have hcell : ∀ i, j ≠ i → (w.setCell ⟨g, j, none⟩ (.int .u8 (y : Int))).cell? ⟨g, i, none⟩ = w.cell? ⟨g, i, none⟩ := fun i e => World.cell?_setCell_other _ _ _ _ (fun h => e (by cases h; rfl))
  refine ⟨by rw [List.length_set]; exact hl, hn, by simpa using hg, fun i hi => ?_, fun i hi => ⟨?_, ?_⟩⟩
  · by_cases e : j = i
    · subst e
      rw [World.cell?_setCell_same _ _ _ (hc j hj), nth_get (by rw [List.length_set]; omega)]
      simp
    · rw [hcell i e, hc i hi, nth_get (by omega), nth_get (by rw [List.length_set]; omega), List.getElem_set, if_neg e]
  · by_cases e : j = i
    · subst e
      rw [World.cell?_setCell_same _ _ _ (hc j hj)]; rfl
    · rw [hcell i e]; exact (hf i hi).1
  · rw [World.frozen?_setCell]; exact (hf i hi).2
end Go.Proofs.YtkjnhcnbbojajaaDoor

namespace Go.Proofs.YtkjnhcnbbojajaaDoor
open Go.RowKit

/-- The small letter of a large one. -/
def low (b : Nat) : Nat := if 65 ≤ b ∧ b ≤ 90 then b + 32 else b
theorem low_yes {b : Nat} (h : 65 ≤ b ∧ b ≤ 90) : low b = b + 32 := if_pos h
theorem low_no {b : Nat} (h : ¬ (65 ≤ b ∧ b ≤ 90)) : low b = b := if_neg h
/-- A text, its first k letters small. -/
def lowK (l : List Nat) (k : Nat) : List Nat := (l.take k).map low ++ l.drop k
theorem lowK_zero (l : List Nat) : lowK l 0 = l := by simp [lowK]
theorem lowK_all (l : List Nat) : lowK l l.length = l.map low := by simp [lowK]
theorem lowK_len (l : List Nat) (k : Nat) (h : k ≤ l.length) : (lowK l k).length = l.length := by simp [lowK]; omega
theorem lowK_nth (l : List Nat) (k : Nat) (h : k < l.length) : nth (lowK l k) k = nth l k := by
  have hl := lowK_len l k (by omega)
  rw [nth_get (by omega), nth_get h]
  unfold lowK
  rw [List.getElem_append_right (by simp; omega)]
  simp [Nat.min_eq_left (Nat.le_of_lt h)]
theorem lowK_set (l : List Nat) (k : Nat) (h : k < l.length) : (lowK l k).set k (low (nth l k)) = lowK l (k + 1) := by
  unfold lowK
  have hm : ((l.take k).map low).length = k := by simp; omega
  rw [take_snoc l k h, List.map_append, List.set_append, hm, if_neg (Nat.lt_irrefl k), Nat.sub_self, drop_cons l k h]
  simp
theorem lowK_same (l : List Nat) (k : Nat) (h : k < l.length) (hx : low (nth l k) = nth l k) : lowK l k = lowK l (k + 1) := by
  rw [← lowK_set l k h, hx]
  apply List.ext_getElem (by simp)
  intro i h1 h2
  rw [List.getElem_set]
  split
  · rename_i e
    subst e
    have := lowK_nth l k h
    rw [nth_get h1] at this
    exact this
  · rfl

set_option maxHeartbeats 1600000 in
set_option maxRecDepth 100000 in
theorem smallLetters_any (t : List Nat) (n : Nat) (w : World) (hl : t.length = n) (hB : IsB t) (hn : n ≤ 1048576) :
    Calls Tryd.prog 80 #[.string (str t)] w fun e w' => e = .returned (.string (str (t.map low))) ∧ Below w.heap.size w w' := by
  have hsz : (str t).size = n := by rw [str_size, hl]
  have hcv := fun wx => run_bytes_of_string (P := Tryd.prog) wx 9 22 5 (str t) Tryd.underlying9 Tryd.underlying22 Tryd.underlying5
  rw [hsz] at hcv
  go_enter Tryd.func80, Tryd.ntmps80
  go_wp2
  have hcap := grownCap_ge w n 0 5
  clear hcv
  generalize grownCap w n 0 5 = cp at *
  have hC : Cv (w.alloc (.cells (bytesRow (str t) cp) 5 ((bytesRow (str t) cp).size, (bytesRow (str t) cp).size + 1))).drew w.heap.size n cp t := by
    have := Cv.conv w t hB cp (by omega)
    rw [hl] at this
    exact this
  have hb0 : Below w.heap.size w (w.alloc (.cells (bytesRow (str t) cp) 5 ((bytesRow (str t) cp).size, (bytesRow (str t) cp).size + 1))).drew := ((Below.refl _ _).alloc (Nat.le_refl _) _).drew
  generalize (w.alloc (.cells (bytesRow (str t) cp) 5 ((bytesRow (str t) cp).size, (bytesRow (str t) cp).size + 1))).drew = W at *
  go_loopw [10] (fun i wr => ∃ k : Nat, k ≤ n ∧ i = .int .i64 k ∧ Cv wr w.heap.size n cp (lowK t k) ∧ Below w.heap.size w wr) (fun i _ => n - (intOf i).toNat)
  case atStart => exact ⟨0, Nat.zero_le _, rfl, by rw [lowK_zero]; exact hC, hb0⟩
  case round =>
    obtain ⟨k, hk, rfl, hcv, hbel⟩ := hrel
    clear hC hb0
    by_cases hkn : k < n
    · have hki : (k : Int) < (n : Int) := by omega
      have hc : wr.cell? ⟨w.heap.size, k, none⟩ = some (.int .u8 (nth t k : Int)) := by
        have := hcv.2.2.2.1 k hkn
        rw [lowK_nth t k (by omega)] at this
        exact this
      have hx := nth_lt hB k
      have HS : Hid ((lowK t k).set k (low (nth t k)) = lowK t (k + 1)) := lowK_set t k (by omega)
      have HE : Hid (low (nth t k) = nth t k → lowK t k = lowK t (k + 1)) := fun h => lowK_same t k (by omega) h
      have hf := (hcv.2.2.2.2 k (by omega)).2
      have hlt := hcv.2.2.1
      generalize nth t k = x at *
      by_cases hL : 65 ≤ x ∧ x ≤ 90
      · have h1 : (65 : Int) ≤ (x : Int) := by omega
        have h2 : (x : Int) ≤ 90 := by omega
        have HP : Hid (Cv (wr.setCell ⟨w.heap.size, k, none⟩ (.int .u8 ((x + 32 : Nat) : Int))) w.heap.size n cp (lowK t (k + 1))) := by
          show Cv _ _ _ _ _
          rw [← HS.out, low_yes hL]
          exact hcv.put hkn
        have hb' : Below w.heap.size w (wr.setCell ⟨w.heap.size, k, none⟩ (.int .u8 ((x + 32 : Nat) : Int))) := hbel.setCell (by simp) _
        have ex : ((x + 32 : Nat) : Int) = (x : Int) + 97 - 65 := by omega
        rw [ex] at HP hb'
        clear HS HE hcv ex
        go_wp2
        go_roundw
        case rel => exact ⟨k + 1, by omega, by go_num, HP.out, hb'⟩
        case measure => simp [intOf]; omega
      · have HQ : Hid (Cv wr w.heap.size n cp (lowK t (k + 1))) := by
          show Cv _ _ _ _ _
          rw [← HE.out (low_no hL)]; exact hcv
        have hL' : decide (65 ≤ (x : Int)) = false ∨ (65 ≤ (x : Int)) ∧ ¬ ((x : Int) ≤ 90) := by
          by_cases h : (65 : Int) ≤ (x : Int)
          · exact .inr ⟨h, by omega⟩
          · exact .inl (decide_eq_false h)
        clear HS HE hcv hL
        rcases hL' with h1 | ⟨h1, h2⟩
        · go_wp2
          go_roundw
          case rel => exact ⟨k + 1, by omega, by go_num, HQ.out, hbel⟩
          case measure => simp [intOf]; omega
        · go_wp2
          go_roundw
          case rel => exact ⟨k + 1, by omega, by go_num, HQ.out, hbel⟩
          case measure => simp [intOf]; omega
    · have hkk : k = n := by omega
      subst hkk
      have hst := fun c' => run_str (cap := c') (n := k) (l := t.map low) (w := wr) (by simp; omega) (by
        have := hcv.rd
        rw [← hl, lowK_all] at this
        exact this)
      have h3 : ¬ (k : Int) < (k : Int) := by omega
      clear hcv
      go_wp2
      go_ret
      exact ⟨rfl, hbel⟩

set_option maxHeartbeats 1600000 in
set_option maxRecDepth 100000 in
theorem l2Lower_any (t : List Nat) (n : Nat) (w : World) (hl : t.length = n) (hB : IsB t) (hn : n ≤ 1048576) :
    Calls Tryd.prog 105 #[.string (str t)] w fun e w' => e = .returned (.string (str (t.map low))) ∧ Below w.heap.size w w' := by
  have hsz : (str t).size = n := by rw [str_size, hl]
  have hcv := fun wx => run_bytes_of_string (P := Tryd.prog) wx 9 22 5 (str t) Tryd.underlying9 Tryd.underlying22 Tryd.underlying5
  rw [hsz] at hcv
  go_enter Tryd.func105, Tryd.ntmps105
  go_wp2
  have hcap := grownCap_ge w n 0 5
  clear hcv
  generalize grownCap w n 0 5 = cp at *
  have hC : Cv (w.alloc (.cells (bytesRow (str t) cp) 5 ((bytesRow (str t) cp).size, (bytesRow (str t) cp).size + 1))).drew w.heap.size n cp t := by
    have := Cv.conv w t hB cp (by omega)
    rw [hl] at this
    exact this
  have hb0 : Below w.heap.size w (w.alloc (.cells (bytesRow (str t) cp) 5 ((bytesRow (str t) cp).size, (bytesRow (str t) cp).size + 1))).drew := ((Below.refl _ _).alloc (Nat.le_refl _) _).drew
  generalize (w.alloc (.cells (bytesRow (str t) cp) 5 ((bytesRow (str t) cp).size, (bytesRow (str t) cp).size + 1))).drew = W at *
  go_loopw [4] (fun i wr => ∃ k : Nat, k ≤ n ∧ i = .int .i64 k ∧ Cv wr w.heap.size n cp (lowK t k) ∧ Below w.heap.size w wr) (fun i _ => n - (intOf i).toNat)
  case atStart => exact ⟨0, Nat.zero_le _, rfl, by rw [lowK_zero]; exact hC, hb0⟩
  case round =>
    obtain ⟨k, hk, rfl, hcv, hbel⟩ := hrel
    clear hC hb0
    by_cases hkn : k < n
    · have hki : (k : Int) < (n : Int) := by omega
      have hc : wr.cell? ⟨w.heap.size, k, none⟩ = some (.int .u8 (nth t k : Int)) := by
        have := hcv.2.2.2.1 k hkn
        rw [lowK_nth t k (by omega)] at this
        exact this
      have hx := nth_lt hB k
      have HS : Hid ((lowK t k).set k (low (nth t k)) = lowK t (k + 1)) := lowK_set t k (by omega)
      have HE : Hid (low (nth t k) = nth t k → lowK t k = lowK t (k + 1)) := fun h => lowK_same t k (by omega) h
      have hf := (hcv.2.2.2.2 k (by omega)).2
      have hlt := hcv.2.2.1
      generalize nth t k = x at *
      by_cases hL : 65 ≤ x ∧ x ≤ 90
      · have h1 : (65 : Int) ≤ (x : Int) := by omega
        have h2 : (x : Int) ≤ 90 := by omega
        have HP : Hid (Cv (wr.setCell ⟨w.heap.size, k, none⟩ (.int .u8 ((x + 32 : Nat) : Int))) w.heap.size n cp (lowK t (k + 1))) := by
          show Cv _ _ _ _ _
          rw [← HS.out, low_yes hL]
          exact hcv.put hkn
        have hb' : Below w.heap.size w (wr.setCell ⟨w.heap.size, k, none⟩ (.int .u8 ((x + 32 : Nat) : Int))) := hbel.setCell (by simp) _
        have ex : ((x + 32 : Nat) : Int) = (x : Int) + 32 := by omega
        rw [ex] at HP hb'
        clear HS HE hcv ex
        go_wp2
        go_roundw
        case rel => exact ⟨k + 1, by omega, by go_num, HP.out, hb'⟩
        case measure => simp [intOf]; omega
      · have HQ : Hid (Cv wr w.heap.size n cp (lowK t (k + 1))) := by
          show Cv _ _ _ _ _
          rw [← HE.out (low_no hL)]; exact hcv
        have hL' : decide (65 ≤ (x : Int)) = false ∨ (65 ≤ (x : Int)) ∧ ¬ ((x : Int) ≤ 90) := by
          by_cases h : (65 : Int) ≤ (x : Int)
          · exact .inr ⟨h, by omega⟩
          · exact .inl (decide_eq_false h)
        clear HS HE hcv hL
        rcases hL' with h1 | ⟨h1, h2⟩
        · go_wp2
          go_roundw
          case rel => exact ⟨k + 1, by omega, by go_num, HQ.out, hbel⟩
          case measure => simp [intOf]; omega
        · go_wp2
          go_roundw
          case rel => exact ⟨k + 1, by omega, by go_num, HQ.out, hbel⟩
          case measure => simp [intOf]; omega
    · have hkk : k = n := by omega
      subst hkk
      have hst := fun c' => run_str (cap := c') (n := k) (l := t.map low) (w := wr) (by simp; omega) (by
        have := hcv.rd
        rw [← hl, lowK_all] at this
        exact this)
      have h3 : ¬ (k : Int) < (k : Int) := by omega
      clear hcv
      go_wp2
      go_ret
      exact ⟨rfl, hbel⟩
end Go.Proofs.YtkjnhcnbbojajaaDoor

namespace Go.Proofs.YtkjnhcnbbojajaaDoor
open Go.RowKit

/-- A text in small letters. -/
def lowT (s : ByteArray) : ByteArray := str ((bts s).map low)
theorem l2Lower_t (s : ByteArray) (w : World) (hs : s.size ≤ 1048576) : Calls Tryd.prog 105 #[.string s] w fun e w' => e = .returned (.string (lowT s)) ∧ Below w.heap.size w w' := by
  have h := l2Lower_any (bts s) _ w rfl (bts_isB s) (by rw [bts_len]; exact hs)
  rw [str_bts] at h; exact h
theorem texts_ne {x s : ByteArray} (h : x ≠ s) : (x.toList == s.toList) = false := by
  rw [beq_eq_false_iff_ne]
  intro he
  apply h
  have e : ∀ z : ByteArray, z.toList = (bts z).map UInt8.ofNat := fun z => by
    conv => lhs; rw [← str_bts z]
    rw [ByteArray.toList_eq]; simp [str]
  rw [e, e] at he
  rw [← str_bts x, ← str_bts s]
  unfold str
  rw [he]

/-- The value of the first field of a name. -/
def fdOf (l : List FldP) (nm : ByteArray) : Option ByteArray := match l with
  | [] => none
  | p :: r => if lowT p.1 = lowT nm then some p.2 else fdOf r nm
theorem fdOf_drop {nm : ByteArray} : ∀ {l : List FldP} {k : Nat}, k ≤ l.length → (∀ i, i < k → lowT (nthF l i).1 ≠ lowT nm) → fdOf l nm = fdOf (l.drop k) nm := by
  intro l k
  induction k generalizing l with
  | zero => intro _ _; simp
  | succ k ih =>
    intro h1 h2
    cases l with
    | nil => simp at h1
    | cons p r =>
      have h0 : lowT p.1 ≠ lowT nm := h2 0 (by omega)
      rw [fdOf, if_neg h0, List.drop_succ_cons]
      exact ih (by simpa using h1) (fun i hi => h2 (i + 1) (by omega))
theorem fdOf_some {l : List FldP} {nm : ByteArray} {k : Nat} (h1 : k < l.length) (h2 : ∀ i, i < k → lowT (nthF l i).1 ≠ lowT nm) (h3 : lowT (nthF l k).1 = lowT nm) : fdOf l nm = some (nthF l k).2 := by
  rw [fdOf_drop (by omega) h2, drop_consF l k h1, fdOf, if_pos h3]
theorem fdOf_none {l : List FldP} {nm : ByteArray} (h2 : ∀ i, i < l.length → lowT (nthF l i).1 ≠ lowT nm) : fdOf l nm = none := by
  rw [fdOf_drop (Nat.le_refl _) h2, List.drop_length]; rfl
/-- What the look for a name ends with. -/
def ofP (o : Option ByteArray) : Value := match o with
  | some v => .tuple #[.string v, .bool true]
  | none => .tuple #[.string ⟨#[]⟩, .bool false]

set_option maxHeartbeats 1600000 in
set_option maxRecDepth 100000 in
theorem l4Of_any (a : Option Addr) (n cap : Nat) (l : List FldP) (nm : ByteArray) (w : World) (hl : l.length = n) (hr : RdF w a l) (hn : n ≤ 1048576) (hfit : Fit l) (hnm : nm.size ≤ 1048576) :
    Calls Tryd.prog 85 #[.slice a n cap, .string nm] w fun e w' => e = .returned (ofP (fdOf l nm)) ∧ Below w.heap.size w w' := by
  have HL : Hid (l.length = n) := hl
  clear hl
  have HN2 : Hid (∀ w, Calls Tryd.prog 105 #[.string nm] w fun e w' => e = .returned (.string (lowT nm)) ∧ Below w.heap.size w w') := fun w => l2Lower_t nm w hnm
  go_enter Tryd.func85, Tryd.ntmps85
  go_wp2
  go_loopw [6] (fun v wr => ∃ k : Nat, k ≤ n ∧ v = .int .i64 k ∧ (∀ i, i < k → lowT (nthF l i).1 ≠ lowT nm) ∧ Below w.heap.size w wr) (fun v _ => n - (intOf v).toNat)
  case atStart => exact ⟨0, Nat.zero_le _, rfl, fun i hi => absurd hi (Nat.not_lt_zero _), Below.refl _ _⟩
  case round =>
    obtain ⟨k, hk, rfl, hall, hbel⟩ := hrel
    by_cases hkn : k < n
    · obtain ⟨b, off, rfl, hblt, hcell⟩ := hr.at_ (by have := HL.out; omega)
      have hc0 : wr.cell? ⟨b, off + k * 2, none⟩ = some (.string (nthF l k).1) := (hbel.cell (p := ⟨b, off + k * 2, none⟩) hblt).trans (hcell k (by have := HL.out; omega)).1
      have hc1 : ∀ wz, Below w.heap.size w wz → wz.cell? ⟨b, off + k * 2 + 1, none⟩ = some (.string (nthF l k).2) := fun wz hz => (hz.cell (p := ⟨b, off + k * 2 + 1, none⟩) hblt).trans (hcell k (by have := HL.out; omega)).2
      have hf := hfit (nthF l k) (by rw [nthF_get (by have := HL.out; omega)]; exact List.getElem_mem _)
      have hki : (k : Int) < (n : Int) := by omega
      have HY : Hid (lowT (nthF l k).1 = lowT nm → fdOf l nm = some (nthF l k).2) := fun h => fdOf_some (by have := HL.out; omega) hall h
      have HN : Hid (lowT (nthF l k).1 ≠ lowT nm → ∀ i, i < k + 1 → lowT (nthF l i).1 ≠ lowT nm) := fun h i hi => by
        by_cases he : i = k
        · rw [he]; exact h
        · exact hall i (by omega)
      clear hcell hall
      generalize nthF l k = p at *
      obtain ⟨x, y⟩ := p
      simp only at hc0 hc1 hf HY HN
      have HX : Hid (∀ w, Calls Tryd.prog 105 #[.string x] w fun e w' => e = .returned (.string (lowT x)) ∧ Below w.heap.size w w') := fun w => l2Lower_t x w hf.1
      clear hf
      generalize lowT x = u at *
      generalize hV : lowT nm = v at *
      go_wp2_with fail
      refine (HX.out _).mono ?_
      rintro e w1 ⟨rfl, hb1⟩
      have hbel1 := hbel.trans (hb1.mono hbel.size)
      clear hb1
      go_wp2_with fail
      refine (HN2.out _).mono ?_
      rintro e w2 ⟨rfl, hb2⟩
      have hbel2 := hbel1.trans (hb2.mono hbel1.size)
      clear hb2
      have hcy := hc1 w2 hbel2
      by_cases huv : u = v
      · subst huv
        have HM : Hid (_) := HY.out rfl
        clear HY HN
        go_wp2
        go_ret2
        exact ⟨by rw [HM.out]; rfl, hbel2⟩
      · have hne := texts_ne huv
        have HM : Hid (_) := HN.out huv
        clear HY HN
        go_wp2
        go_roundw
        case rel => exact ⟨k + 1, by omega, by go_num, HM.out, hbel2⟩
        case measure => simp [intOf]; omega
    · have hki : ¬ (k : Int) < (n : Int) := by omega
      have HM : Hid (fdOf l nm = none) := fdOf_none (fun i hi => hall i (by have := HL.out; omega))
      clear hall
      go_wp2
      go_ret2
      exact ⟨by rw [HM.out]; rfl, hbel⟩

/-- The code that FieldOf answers. -/
def foC (l : List FldP) (nm : ByteArray) : Int := if fdF l = 0 then (if (fdOf l nm).isSome then 0 else 4) else fdF l
/-- The text that FieldOf answers. -/
def foT (l : List FldP) (nm : ByteArray) : ByteArray := if fdF l = 0 then (fdOf l nm).getD ⟨#[]⟩ else ⟨#[]⟩
theorem fo_bad {l : List FldP} (nm : ByteArray) (h : fdF l ≠ 0) : foC l nm = fdF l ∧ foT l nm = ⟨#[]⟩ := ⟨if_neg h, if_neg h⟩
theorem fo_none {l : List FldP} {nm : ByteArray} (h : fdF l = 0) (h1 : fdOf l nm = none) : foC l nm = 4 ∧ foT l nm = ⟨#[]⟩ := by
  unfold foC foT; rw [if_pos h, if_pos h, h1]; exact ⟨rfl, rfl⟩
theorem fo_some {l : List FldP} {nm v : ByteArray} (h : fdF l = 0) (h1 : fdOf l nm = some v) : foC l nm = 0 ∧ foT l nm = v := by
  unfold foC foT; rw [if_pos h, if_pos h, h1]; exact ⟨rfl, rfl⟩

end Go.Proofs.YtkjnhcnbbojajaaDoor
