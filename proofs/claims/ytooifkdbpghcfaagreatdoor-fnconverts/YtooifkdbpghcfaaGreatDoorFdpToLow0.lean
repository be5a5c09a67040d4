/- FieldsFault, the program's, at every slice of fields: by the same plain function as the model's · A slice of bytes that was made of a text: it may be written; no conditions beyond those that each fact names · Small letters, the program's and the model's: both by one plain function; texts of at most 1048576 bytes. -/
import Derived.Test.YtooifkdbpghcfaaGreatDoorByeToHdr
import Derived.Handy
import Derived.Test.YtooifkdbpghcfaaGreatDoorMemIToSee
namespace Go.Proofs.YtooifkdbpghcfaaGreatDoor
open Go.RowKit

theorem isNameByte_any (c : Nat) (w : World) (hc : c < 256) : Calls Tryz.prog 174 #[.int .u8 (c : Int)] w fun e w' => e = .returned (.bool (nmB c)) ∧ w = w' := by
  go_enter Tryz.func174, Tryz.ntmps174
  go_wp2
  all_goals (go_ret; refine ret_bool ?_; rw [Bool.eq_iff_iff]; unfold nmB; simp; try omega)
theorem isValueByte_any (c : Nat) (w : World) (hc : c < 256) : Calls Tryz.prog 175 #[.int .u8 (c : Int)] w fun e w' => e = .returned (.bool (vlB c)) ∧ w = w' := by
  go_enter Tryz.func175, Tryz.ntmps175
  go_wp2
  all_goals (go_ret; refine ret_bool ?_; rw [Bool.eq_iff_iff]; unfold vlB; simp; try omega)

set_option maxHeartbeats 1600000 in
set_option maxRecDepth 100000 in
theorem areBytes_name (t : List Nat) (n : Nat) (w : World) (hl : t.length = n) (hB : IsB t) (hn : n ≤ 1048576) :
    Calls Tryz.prog 173 #[.string (str t), .func (.func 174) #[] #[]] w fun e w' => e = .returned (.bool (t.all nmB)) ∧ w = w' := by
  have hsz : (str t).size = n := by rw [str_size, hl]
  have HL : Hid (t.length = n) := hl
  clear hl
  go_enter Tryz.func173, Tryz.ntmps173
  go_wp2
  go_loop [8] (fun v => ∃ k : Nat, k ≤ n ∧ v = .int .i64 k ∧ (t.take k).all nmB = true) (fun v => n - (intOf v).toNat)
  case atStart => exact ⟨0, Nat.zero_le _, rfl, by simp⟩
  case round =>
    obtain ⟨k, hk, rfl, hall⟩ := hrel
    by_cases hkn : k < n
    · have hki : (k : Int) < (n : Int) := by omega
      have g0 := str_get hB (i := k) (by rw [hsz]; exact hkn)
      have HY : Hid (nmB (nth t k) = true → (t.take (k + 1)).all nmB = true) := fun h => allN_step (by have := HL.out; omega) hall h
      have HN : Hid (nmB (nth t k) = false → t.all nmB = false) := fun h => allN_bad (by have := HL.out; omega) h
      have hx := nth_lt hB k
      have HC : Hid (∀ w, Calls Tryz.prog 174 #[.int .u8 (nth t k : Int)] w fun e w' => e = .returned (.bool (nmB (nth t k))) ∧ w = w') := fun w => isNameByte_any (nth t k) w hx
      generalize hbv : nmB (nth t k) = bv at *
      clear hbv hall
      generalize nth t k = x at *
      cases bv with
      | true =>
        have HM : Hid (_) := HY.out rfl
        clear HY HN
        go_wp2_with fail
        refine (HC.out _).mono ?_
        rintro e w' ⟨rfl, rfl⟩
        go_wp2
        go_round
        case rel => exact ⟨k + 1, by omega, by go_num, HM.out⟩
        case measure => simp [intOf]; omega
      | false =>
        have HM : Hid (_) := HN.out rfl
        clear HY HN
        go_wp2_with fail
        refine (HC.out _).mono ?_
        rintro e w' ⟨rfl, rfl⟩
        go_wp2
        go_ret
        exact ⟨by rw [HM.out]; rfl, rfl⟩
    · have hki : ¬ (k : Int) < (n : Int) := by omega
      have HM : Hid (t.all nmB = true) := by
        show _ = _
        rw [show k = t.length by have := HL.out; omega, List.take_length] at hall
        exact hall
      clear hall
      go_wp2
      go_ret
      exact ⟨by rw [HM.out]; rfl, rfl⟩

set_option maxHeartbeats 1600000 in
set_option maxRecDepth 100000 in
theorem areBytes_value (t : List Nat) (n : Nat) (w : World) (hl : t.length = n) (hB : IsB t) (hn : n ≤ 1048576) :
    Calls Tryz.prog 173 #[.string (str t), .func (.func 175) #[] #[]] w fun e w' => e = .returned (.bool (t.all vlB)) ∧ w = w' := by
  have hsz : (str t).size = n := by rw [str_size, hl]
  have HL : Hid (t.length = n) := hl
  clear hl
  go_enter Tryz.func173, Tryz.ntmps173
  go_wp2
  go_loop [8] (fun v => ∃ k : Nat, k ≤ n ∧ v = .int .i64 k ∧ (t.take k).all vlB = true) (fun v => n - (intOf v).toNat)
  case atStart => exact ⟨0, Nat.zero_le _, rfl, by simp⟩
  case round =>
    obtain ⟨k, hk, rfl, hall⟩ := hrel
    by_cases hkn : k < n
    · have hki : (k : Int) < (n : Int) := by omega
      have g0 := str_get hB (i := k) (by rw [hsz]; exact hkn)
      have HY : Hid (vlB (nth t k) = true → (t.take (k + 1)).all vlB = true) := fun h => allN_step (by have := HL.out; omega) hall h
      have HN : Hid (vlB (nth t k) = false → t.all vlB = false) := fun h => allN_bad (by have := HL.out; omega) h
      have hx := nth_lt hB k
      have HC : Hid (∀ w, Calls Tryz.prog 175 #[.int .u8 (nth t k : Int)] w fun e w' => e = .returned (.bool (vlB (nth t k))) ∧ w = w') := fun w => isValueByte_any (nth t k) w hx
      generalize hbv : vlB (nth t k) = bv at *
      clear hbv hall
      generalize nth t k = x at *
      cases bv with
      | true =>
        have HM : Hid (_) := HY.out rfl
        clear HY HN
        go_wp2_with fail
        refine (HC.out _).mono ?_
        rintro e w' ⟨rfl, rfl⟩
        go_wp2
        go_round
        case rel => exact ⟨k + 1, by omega, by go_num, HM.out⟩
        case measure => simp [intOf]; omega
      | false =>
        have HM : Hid (_) := HN.out rfl
        clear HY HN
        go_wp2_with fail
        refine (HC.out _).mono ?_
        rintro e w' ⟨rfl, rfl⟩
        go_wp2
        go_ret
        exact ⟨by rw [HM.out]; rfl, rfl⟩
    · have hki : ¬ (k : Int) < (n : Int) := by omega
      have HM : Hid (t.all vlB = true) := by
        show _ = _
        rw [show k = t.length by have := HL.out; omega, List.take_length] at hall
        exact hall
      clear hall
      go_wp2
      go_ret
      exact ⟨by rw [HM.out]; rfl, rfl⟩

theorem isFieldName_any (t : List Nat) (n : Nat) (w : World) (hl : t.length = n) (hB : IsB t) (hn : n ≤ 1048576) : Calls Tryz.prog 152 #[.string (str t)] w fun e w' => e = .returned (.bool (nmOk t)) ∧ w = w' := by
  have hsz : (str t).size = n := by rw [str_size, hl]
  have HC : Hid (∀ w, Calls Tryz.prog 173 #[.string (str t), .func (.func 174) #[] #[]] w fun e w' => e = .returned (.bool (t.all nmB)) ∧ w = w') := fun w => areBytes_name t n w hl hB hn
  have HM : Hid (nmOk t = (t.all nmB && decide (1 ≤ n ∧ n ≤ 30))) := by show _ = _; unfold nmOk; rw [hl]
  clear hl hB
  generalize t.all nmB = b at *
  by_cases h1 : 1 ≤ n
  · have h1' : (1 : Int) ≤ (n : Int) := by omega
    by_cases h2 : n ≤ 30
    · have h2' : (n : Int) ≤ 30 := by omega
      go_enter Tryz.func152, Tryz.ntmps152
      go_wp2_with fail
      refine (HC.out _).mono ?_
      rintro e w' ⟨rfl, rfl⟩
      go_wp2
      go_ret
      exact ⟨by rw [HM.out, decide_eq_true ⟨h1, h2⟩]; simp, rfl⟩
    · have h2' : ¬ (n : Int) ≤ 30 := by omega
      go_enter Tryz.func152, Tryz.ntmps152
      go_wp2
      go_ret
      exact ⟨by rw [HM.out, decide_eq_false (by omega)]; simp, rfl⟩
  · have h1' : ¬ (1 : Int) ≤ (n : Int) := by omega
    go_enter Tryz.func152, Tryz.ntmps152
    go_wp2
    go_ret
    exact ⟨by rw [HM.out, decide_eq_false (by omega)]; simp, rfl⟩
theorem isFieldValue_any (t : List Nat) (n : Nat) (w : World) (hl : t.length = n) (hB : IsB t) (hn : n ≤ 1048576) : Calls Tryz.prog 153 #[.string (str t)] w fun e w' => e = .returned (.bool (vlOk t)) ∧ w = w' := by
  have hsz : (str t).size = n := by rw [str_size, hl]
  have HC : Hid (∀ w, Calls Tryz.prog 173 #[.string (str t), .func (.func 175) #[] #[]] w fun e w' => e = .returned (.bool (t.all vlB)) ∧ w = w') := fun w => areBytes_value t n w hl hB hn
  have HM : Hid (vlOk t = (t.all vlB && decide (n ≤ 120))) := by show _ = _; unfold vlOk; rw [hl]
  clear hl hB
  generalize t.all vlB = b at *
  by_cases h2 : n ≤ 120
  · have h2' : (n : Int) ≤ 120 := by omega
    go_enter Tryz.func153, Tryz.ntmps153
    go_wp2_with fail
    refine (HC.out _).mono ?_
    rintro e w' ⟨rfl, rfl⟩
    go_wp2
    go_ret
    exact ⟨by rw [HM.out, decide_eq_true h2]; simp, rfl⟩
  · have h2' : ¬ (n : Int) ≤ 120 := by omega
    go_enter Tryz.func153, Tryz.ntmps153
    go_wp2
    go_ret
    exact ⟨by rw [HM.out, decide_eq_false h2]; simp, rfl⟩

set_option maxHeartbeats 1600000 in
set_option maxRecDepth 100000 in
theorem fieldsFault_any (a : Option Addr) (n cap : Nat) (l : List FldP) (w : World) (hl : l.length = n) (hr : RdF w a l) (hn : n ≤ 1048576) (hfit : Fit l) :
    Calls Tryz.prog 125 #[.slice a n cap] w fun e w' => e = .returned (.int .i64 (fdF l)) ∧ Below w.heap.size w w' := by
  have HL : Hid (l.length = n) := hl
  by_cases h8 : 8 < n
  · have h8' : (8 : Int) < (n : Int) := by omega
    have HM : Hid (fdF l = 2) := fdF_many (by omega)
    go_enter Tryz.func125, Tryz.ntmps125
    go_wp2
    go_ret
    exact ⟨by rw [HM.out]; rfl, Below.refl _ _⟩
  · have h8' : ¬ (8 : Int) < (n : Int) := by omega
    clear hl
    go_enter Tryz.func125, Tryz.ntmps125
    go_wp2
    go_loopw [10] (fun v wr => ∃ k : Nat, k ≤ n ∧ v = .int .i64 k ∧ (l.take k).all fdOk = true ∧ Below w.heap.size w wr) (fun v _ => n - (intOf v).toNat)
    case atStart => exact ⟨0, Nat.zero_le _, rfl, by simp, Below.refl _ _⟩
    case round =>
      obtain ⟨k, hk, rfl, hall, hbel⟩ := hrel
      have hz := hbel.size
      by_cases hkn : k < n
      · obtain ⟨b, off, rfl, hblt, hcell⟩ := hr.at_ (by have := HL.out; omega)
        have hc0 : wr.cell? ⟨b, off + k * 2, none⟩ = some (.string (nthF l k).1) := (hbel.cell (p := ⟨b, off + k * 2, none⟩) hblt).trans (hcell k (by have := HL.out; omega)).1
        have hc1 : wr.cell? ⟨b, off + k * 2 + 1, none⟩ = some (.string (nthF l k).2) := (hbel.cell (p := ⟨b, off + k * 2 + 1, none⟩) hblt).trans (hcell k (by have := HL.out; omega)).2
        have hf := hfit (nthF l k) (by rw [nthF_get (by have := HL.out; omega)]; exact List.getElem_mem _)
        have hki : (k : Int) < (n : Int) := by omega
        have HY : Hid (fdOk (nthF l k) = true → (l.take (k + 1)).all fdOk = true) := fun h => allF_step (by have := HL.out; omega) hall h
        have HN : Hid (fdOk (nthF l k) = false → fdF l = 5) := fun h => fdF_bad (by have := HL.out; omega) (allF_bad (by have := HL.out; omega) h)
        clear hcell hall
        generalize nthF l k = p at *
        obtain ⟨x, y⟩ := p
        simp only at hc0 hc1 hf
        have HX : Hid (∀ w, Calls Tryz.prog 152 #[.string x] w fun e w' => e = .returned (.bool (nmOk (bts x))) ∧ w = w') := fun w => by
          have h := isFieldName_any (bts x) _ w rfl (bts_isB x) (by rw [bts_len]; exact hf.1)
          rw [str_bts] at h; exact h
        have HV : Hid (∀ w, Calls Tryz.prog 153 #[.string y] w fun e w' => e = .returned (.bool (vlOk (bts y))) ∧ w = w') := fun w => by
          have h := isFieldValue_any (bts y) _ w rfl (bts_isB y) (by rw [bts_len]; exact hf.2)
          rw [str_bts] at h; exact h
        have hok : fdOk (x, y) = (nmOk (bts x) && vlOk (bts y)) := rfl
        rw [hok] at HY HN
        have hbA : ∀ cs, Below w.heap.size w (wr.alloc (.cells cs 169)) := fun cs => hbel.alloc hz _
        clear hok hf
        generalize nmOk (bts x) = b1 at *
        generalize vlOk (bts y) = b2 at *
        cases b1 with
        | false =>
          have HM : Hid (_) := HN.out rfl
          clear HY HN
          go_wp2_with fail
          refine (HX.out _).mono ?_
          rintro e w' ⟨rfl, rfl⟩
          go_wp2
          go_ret
          exact ⟨by rw [HM.out]; rfl, hbA _⟩
        | true =>
          go_wp2_with fail
          refine (HX.out _).mono ?_
          rintro e w' ⟨rfl, rfl⟩
          go_wp2_with fail
          refine (HV.out _).mono ?_
          rintro e w1 ⟨rfl, rfl⟩
          cases b2 with
          | false =>
            have HM : Hid (_) := HN.out rfl
            clear HY HN
            go_wp2
            go_ret
            exact ⟨by rw [HM.out]; rfl, hbA _⟩
          | true =>
            have HM : Hid (_) := HY.out rfl
            clear HY HN
            go_wp2
            go_roundw
            case rel => exact ⟨k + 1, by omega, by go_num, HM.out, hbA _⟩
            case measure => simp [intOf]; omega
      · have hki : ¬ (k : Int) < (n : Int) := by omega
        have HM : Hid (fdF l = 0) := fdF_ok (by have := HL.out; omega) (by rw [show k = l.length by have := HL.out; omega, List.take_length] at hall; exact hall)
        clear hall
        go_wp2
        go_ret
        exact ⟨by rw [HM.out]; rfl, hbel⟩
end Go.Proofs.YtooifkdbpghcfaaGreatDoor

namespace Go.Proofs.YtooifkdbpghcfaaGreatDoor
open Go.RowKit

/-- A slice of bytes out of a text: n bytes l, room up to cap, in block g, which may be written. -/
def Cv (w : World) (g n cap : Nat) (l : List Nat) : Prop := l.length = n ∧ n ≤ cap ∧ g < w.heap.size ∧ (∀ i, i < n → w.cell? ⟨g, i, none⟩ = some (.int .u8 (nth l i : Int))) ∧ ∀ i, i < cap → (w.cell? ⟨g, i, none⟩).isSome = true ∧ w.frozen? ⟨g, i, none⟩ = false
theorem Cv.rd {w : World} {g n cap : Nat} {l : List Nat} (h : Cv w g n cap l) : Rd w (some ⟨g, 0, none⟩) l := by
  obtain ⟨hl, _, hg, hc, _⟩ := h
  exact .inr ⟨g, 0, rfl, hg, fun i hi => by rw [Nat.zero_add]; exact hc i (by omega)⟩
theorem Cv.kept {w w' : World} {g n cap b : Nat} {l : List Nat} (h : Cv w g n cap l) (hg : w.grownBy w' (some b)) (hb : b ≠ g) : Cv w' g n cap l := by
  obtain ⟨hl, hn, hlt, hc, hf⟩ := h
  have e1 : ∀ i, w'.cell? ⟨g, i, none⟩ = w.cell? ⟨g, i, none⟩ := fun i => hg.cell_far ⟨g, i, none⟩ hlt (by simp; omega)
  have e2 : ∀ i, w'.frozen? ⟨g, i, none⟩ = w.frozen? ⟨g, i, none⟩ := fun i => hg.frozen_far ⟨g, i, none⟩ hlt (by simp; omega)
  exact ⟨hl, hn, Nat.lt_of_lt_of_le hlt hg.size, fun i hi => (e1 i).trans (hc i hi), fun i hi => by rw [e1, e2]; exact hf i hi⟩
theorem Cv.below {w w' : World} {g n cap C : Nat} {l : List Nat} (h : Cv w g n cap l) (hb : Below C w w') (hC : g < C) : Cv w' g n cap l := by
  obtain ⟨hl, hn, hlt, hc, hf⟩ := h
  have e1 : ∀ i, w'.cell? ⟨g, i, none⟩ = w.cell? ⟨g, i, none⟩ := fun i => hb.cell (p := ⟨g, i, none⟩) hC
  have e2 : ∀ i, w'.frozen? ⟨g, i, none⟩ = w.frozen? ⟨g, i, none⟩ := fun i => hb.frozen (p := ⟨g, i, none⟩) hC
  exact ⟨hl, hn, Nat.lt_of_lt_of_le hlt hb.size, fun i hi => (e1 i).trans (hc i hi), fun i hi => by rw [e1, e2]; exact hf i hi⟩
theorem bytesRow_size (l : List Nat) (cap : Nat) (h : l.length ≤ cap) : (bytesRow (str l) cap).size = cap := by
  have := str_size l
  have e : (str l).data.size = (str l).size := rfl
  simp [bytesRow, e, this]; omega
theorem Cv.conv (w : World) (l : List Nat) (hB : IsB l) (cap : Nat) (h : l.length ≤ cap) : Cv (w.alloc (.cells (bytesRow (str l) cap) 5 ((bytesRow (str l) cap).size, (bytesRow (str l) cap).size + 1))) w.heap.size l.length cap l := by
  have hs := bytesRow_size l cap h
  refine ⟨rfl, h, by simp, fun i hi => ?_, fun i hi => ⟨?_, ?_⟩⟩
  · rw [World.cell?_alloc_mark, ← Array.getElem?_toList, ← bc_get hi, ← bytesRow_take l hB cap, List.getElem?_take, if_pos hi]
  · rw [World.cell?_alloc_mark, Array.getElem?_eq_getElem (by omega)]; rfl
  · rw [World.frozen?_alloc_mark, hs, decide_eq_false (by omega), Bool.false_and]
theorem below_setCells (g : Nat) : ∀ (vs : List Value) (o : Nat) (w : World), Below g w (w.setCells g o vs)
  | [], _, _ => Below.refl _ _
  | v :: r, o, w => ((Below.refl _ _).setCell (p := ⟨g, o, none⟩) (Nat.le_refl _) v).trans (below_setCells g r (o + 1) (w.setCell ⟨g, o, none⟩ v))

/-- A byte of such a slice, written. -/
theorem Cv.put {w : World} {g n cap j y : Nat} {l : List Nat} (h : Cv w g n cap l) (hj : j < n) : Cv (w.setCell ⟨g, j, none⟩ (.int .u8 (y : Int))) g n cap (l.set j y) := by
  obtain ⟨hl, hn, hg, hc, hf⟩ := h
  have hcell : ∀ i, j ≠ i → (w.setCell ⟨g, j, none⟩ (.int .u8 (y : Int))).cell? ⟨g, i, none⟩ = w.cell? ⟨g, i, none⟩ := fun i e => World.cell?_setCell_other _ _ _ _ (fun h => e (by cases h; rfl))
  refine ⟨by rw [List.length_set]; exact hl, hn, by simpa using hg, fun i hi => ?_, fun i hi => ⟨?_, ?_⟩⟩
  · by_cases e : j = i
    · subst e
      rw [World.cell?_setCell_same _ _ _ (hc j hj), nth_get (by rw [List.length_set]; omega)]
      simp
    · rw [hcell i e, hc i hi, nth_get (by omega), nth_get (by rw [List.length_set]; omega), List.getElem_set, if_neg e]
  · by_cases e : j = i
    · subst e
      rw [World.cell?_setCell_same _ _ _ (hc j hj)]; rfl
    · rw [hcell i e]; exact (hf i hi).1
  · rw [World.frozen?_setCell]; exact (hf i hi).2
end Go.Proofs.YtooifkdbpghcfaaGreatDoor

namespace Go.Proofs.YtooifkdbpghcfaaGreatDoor
open Go.RowKit

/-- The small letter of a large one. -/
def low (b : Nat) : Nat := if 65 ≤ b ∧ b ≤ 90 then b + 32 else b
theorem low_yes {b : Nat} (h : 65 ≤ b ∧ b ≤ 90) : low b = b + 32 := if_pos h
theorem low_no {b : Nat} (h : ¬ (65 ≤ b ∧ b ≤ 90)) : low b = b := if_neg h
/-- A text, its first k letters small. -/
def lowK (l : List Nat) (k : Nat) : List Nat := (l.take k).map low ++ l.drop k
theorem lowK_zero (l : List Nat) : lowK l 0 = l := by simp [lowK]
theorem lowK_all (l : List Nat) : lowK l l.length = l.map low := by simp [lowK]
theorem lowK_len (l : List Nat) (k : Nat) (h : k ≤ l.length) : (lowK l k).length = l.length := by simp [lowK]; omega
theorem lowK_nth (l : List Nat) (k : Nat) (h : k < l.length) : nth (lowK l k) k = nth l k := by
  have hl := lowK_len l k (by omega)
  rw [nth_get (by omega), nth_get h]
  unfold lowK
  rw [List.getElem_append_right (by simp; omega)]
  simp [Nat.min_eq_left (Nat.le_of_lt h)]
theorem lowK_set (l : List Nat) (k : Nat) (h : k < l.length) : (lowK l k).set k (low (nth l k)) = lowK l (k + 1) := by
  unfold lowK
  have hm : ((l.take k).map low).length = k := by simp; omega
  rw [take_snoc l k h, List.map_append, List.set_append, hm, if_neg (Nat.lt_irrefl k), Nat.sub_self, drop_cons l k h]
  simp
theorem lowK_same (l : List Nat) (k : Nat) (h : k < l.length) (hx : low (nth l k) = nth l k) : lowK l k = lowK l (k + 1) := by
  rw [← lowK_set l k h, hx]
  apply List.ext_getElem (by simp)
  intro i h1 h2
  rw [List.getElem_set]
  split
  · rename_i e
    subst e
    have := lowK_nth l k h
    rw [nth_get h1] at this
    exact this
  · rfl

set_option maxHeartbeats 1600000 in
set_option maxRecDepth 100000 in
theorem smallLetters_any (t : List Nat) (n : Nat) (w : World) (hl : t.length = n) (hB : IsB t) (hn : n ≤ 1048576) :
    Calls Tryz.prog 126 #[.string (str t)] w fun e w' => e = .returned (.string (str (t.map low))) ∧ Below w.heap.size w w' := by
  have hsz : (str t).size = n := by rw [str_size, hl]
  have hcv := fun wx => run_bytes_of_string (P := Tryz.prog) wx 9 22 5 (str t) Tryz.underlying9 Tryz.underlying22 Tryz.underlying5
  rw [hsz] at hcv
  go_enter Tryz.func126, Tryz.ntmps126
  go_wp2
  have hcap := grownCap_ge w n 0 5
  clear hcv
  generalize grownCap w n 0 5 = cp at *
  have hC : Cv (w.alloc (.cells (bytesRow (str t) cp) 5 ((bytesRow (str t) cp).size, (bytesRow (str t) cp).size + 1))).drew w.heap.size n cp t := by
    have := Cv.conv w t hB cp (by omega)
    rw [hl] at this
    exact this
  have hb0 : Below w.heap.size w (w.alloc (.cells (bytesRow (str t) cp) 5 ((bytesRow (str t) cp).size, (bytesRow (str t) cp).size + 1))).drew := ((Below.refl _ _).alloc (Nat.le_refl _) _).drew
  generalize (w.alloc (.cells (bytesRow (str t) cp) 5 ((bytesRow (str t) cp).size, (bytesRow (str t) cp).size + 1))).drew = W at *
  go_loopw [10] (fun i wr => ∃ k : Nat, k ≤ n ∧ i = .int .i64 k ∧ Cv wr w.heap.size n cp (lowK t k) ∧ Below w.heap.size w wr) (fun i _ => n - (intOf i).toNat)
  case atStart => exact ⟨0, Nat.zero_le _, rfl, by rw [lowK_zero]; exact hC, hb0⟩
  case round =>
    obtain ⟨k, hk, rfl, hcv, hbel⟩ := hrel
    clear hC hb0
    by_cases hkn : k < n
    · have hki : (k : Int) < (n : Int) := by omega
      have hc : wr.cell? ⟨w.heap.size, k, none⟩ = some (.int .u8 (nth t k : Int)) := by
        have := hcv.2.2.2.1 k hkn
        rw [lowK_nth t k (by omega)] at this
        exact this
      have hx := nth_lt hB k
      have HS : Hid ((lowK t k).set k (low (nth t k)) = lowK t (k + 1)) := lowK_set t k (by omega)
      have HE : Hid (low (nth t k) = nth t k → lowK t k = lowK t (k + 1)) := fun h => lowK_same t k (by omega) h
      have hf := (hcv.2.2.2.2 k (by omega)).2
      have hlt := hcv.2.2.1
      generalize nth t k = x at *
      by_cases hL : 65 ≤ x ∧ x ≤ 90
      · have h1 : (65 : Int) ≤ (x : Int) := by omega
        have h2 : (x : Int) ≤ 90 := by omega
        have HP : Hid (Cv (wr.setCell ⟨w.heap.size, k, none⟩ (.int .u8 ((x + 32 : Nat) : Int))) w.heap.size n cp (lowK t (k + 1))) := by
          show Cv _ _ _ _ _
          rw [← HS.out, low_yes hL]
          exact hcv.put hkn
        have hb' : Below w.heap.size w (wr.setCell ⟨w.heap.size, k, none⟩ (.int .u8 ((x + 32 : Nat) : Int))) := hbel.setCell (by simp) _
        have ex : ((x + 32 : Nat) : Int) = (x : Int) + 97 - 65 := by omega
        rw [ex] at HP hb'
        clear HS HE hcv ex
        go_wp2
        go_roundw
        case rel => exact ⟨k + 1, by omega, by go_num, HP.out, hb'⟩
        case measure => simp [intOf]; omega
      · have HQ : Hid (Cv wr w.heap.size n cp (lowK t (k + 1))) := by
          show Cv _ _ _ _ _
          rw [← HE.out (low_no hL)]; exact hcv
        have hL' : decide (65 ≤ (x : Int)) = false ∨ (65 ≤ (x : Int)) ∧ ¬ ((x : Int) ≤ 90) := by
          by_cases h : (65 : Int) ≤ (x : Int)
          · exact .inr ⟨h, by omega⟩
          · exact .inl (decide_eq_false h)
        clear HS HE hcv hL
        rcases hL' with h1 | ⟨h1, h2⟩
        · go_wp2
          go_roundw
          case rel => exact ⟨k + 1, by omega, by go_num, HQ.out, hbel⟩
          case measure => simp [intOf]; omega
        · go_wp2
          go_roundw
          case rel => exact ⟨k + 1, by omega, by go_num, HQ.out, hbel⟩
          case measure => simp [intOf]; omega
    · have hkk : k = n := by omega
      subst hkk
      have hst := fun c' => run_str (cap := c') (n := k) (l := t.map low) (w := wr) (by simp; omega) (by
        have := hcv.rd
        rw [← hl, lowK_all] at this
        exact this)
      have h3 : ¬ (k : Int) < (k : Int) := by omega
      clear hcv
      go_wp2
      go_ret
      exact ⟨rfl, hbel⟩

set_option maxHeartbeats 1600000 in
set_option maxRecDepth 100000 in
theorem l2Lower_any (t : List Nat) (n : Nat) (w : World) (hl : t.length = n) (hB : IsB t) (hn : n ≤ 1048576) :
    Calls Tryz.prog 142 #[.string (str t)] w fun e w' => e = .returned (.string (str (t.map low))) ∧ Below w.heap.size w w' := by
  have hsz : (str t).size = n := by rw [str_size, hl]
  have hcv := fun wx => run_bytes_of_string (P := Tryz.prog) wx 9 22 5 (str t) Tryz.underlying9 Tryz.underlying22 Tryz.underlying5
  rw [hsz] at hcv
  go_enter Tryz.func142, Tryz.ntmps142
  go_wp2
  have hcap := grownCap_ge w n 0 5
  clear hcv
  generalize grownCap w n 0 5 = cp at *
  have hC : Cv (w.alloc (.cells (bytesRow (str t) cp) 5 ((bytesRow (str t) cp).size, (bytesRow (str t) cp).size + 1))).drew w.heap.size n cp t := by
    have := Cv.conv w t hB cp (by omega)
    rw [hl] at this
    exact this
  have hb0 : Below w.heap.size w (w.alloc (.cells (bytesRow (str t) cp) 5 ((bytesRow (str t) cp).size, (bytesRow (str t) cp).size + 1))).drew := ((Below.refl _ _).alloc (Nat.le_refl _) _).drew
  generalize (w.alloc (.cells (bytesRow (str t) cp) 5 ((bytesRow (str t) cp).size, (bytesRow (str t) cp).size + 1))).drew = W at *
  go_loopw [4] (fun i wr => ∃ k : Nat, k ≤ n ∧ i = .int .i64 k ∧ Cv wr w.heap.size n cp (lowK t k) ∧ Below w.heap.size w wr) (fun i _ => n - (intOf i).toNat)
  case atStart => exact ⟨0, Nat.zero_le _, rfl, by rw [lowK_zero]; exact hC, hb0⟩
  case round =>
    obtain ⟨k, hk, rfl, hcv, hbel⟩ := hrel
    clear hC hb0
    by_cases hkn : k < n
    · have hki : (k : Int) < (n : Int) := by omega
      have hc : wr.cell? ⟨w.heap.size, k, none⟩ = some (.int .u8 (nth t k : Int)) := by
        have := hcv.2.2.2.1 k hkn
        rw [lowK_nth t k (by omega)] at this
        exact this
      have hx := nth_lt hB k
      have HS : Hid ((lowK t k).set k (low (nth t k)) = lowK t (k + 1)) := lowK_set t k (by omega)
      have HE : Hid (low (nth t k) = nth t k → lowK t k = lowK t (k + 1)) := fun h => lowK_same t k (by omega) h
      have hf := (hcv.2.2.2.2 k (by omega)).2
      have hlt := hcv.2.2.1
      generalize nth t k = x at *
      by_cases hL : 65 ≤ x ∧ x ≤ 90
      · have h1 : (65 : Int) ≤ (x : Int) := by omega
        have h2 : (x : Int) ≤ 90 := by omega
        have HP : Hid (Cv (wr.setCell ⟨w.heap.size, k, none⟩ (.int .u8 ((x + 32 : Nat) : Int))) w.heap.size n cp (lowK t (k + 1))) := by
          show Cv _ _ _ _ _
          rw [← HS.out, low_yes hL]
          exact hcv.put hkn
        have hb' : Below w.heap.size w (wr.setCell ⟨w.heap.size, k, none⟩ (.int .u8 ((x + 32 : Nat) : Int))) := hbel.setCell (by simp) _
        have ex : ((x + 32 : Nat) : Int) = (x : Int) + 32 := by omega
        rw [ex] at HP hb'
        clear HS HE hcv ex
        go_wp2
        go_roundw
        case rel => exact ⟨k + 1, by omega, by go_num, HP.out, hb'⟩
        case measure => simp [intOf]; omega
      · have HQ : Hid (Cv wr w.heap.size n cp (lowK t (k + 1))) := by
          show Cv _ _ _ _ _
          rw [← HE.out (low_no hL)]; exact hcv
        have hL' : decide (65 ≤ (x : Int)) = false ∨ (65 ≤ (x : Int)) ∧ ¬ ((x : Int) ≤ 90) := by
          by_cases h : (65 : Int) ≤ (x : Int)
          · exact .inr ⟨h, by omega⟩
          · exact .inl (decide_eq_false h)
        clear HS HE hcv hL
        rcases hL' with h1 | ⟨h1, h2⟩
        · go_wp2
          go_roundw
          case rel => exact ⟨k + 1, by omega, by go_num, HQ.out, hbel⟩
          case measure => simp [intOf]; omega
        · go_wp2
          go_roundw
          case rel => exact ⟨k + 1, by omega, by go_num, HQ.out, hbel⟩
          case measure => simp [intOf]; omega
    · have hkk : k = n := by omega
      subst hkk
      have hst := fun c' => run_str (cap := c') (n := k) (l := t.map low) (w := wr) (by simp; omega) (by
        have := hcv.rd
        rw [← hl, lowK_all] at this
        exact this)
      have h3 : ¬ (k : Int) < (k : Int) := by omega
      clear hcv
      go_wp2
      go_ret
      exact ⟨rfl, hbel⟩
end Go.Proofs.YtooifkdbpghcfaaGreatDoor
