/- The name of a mailbox: the program's and the model's · The tag of a command: the program's and the model's. -/
import Derived.Test.YtjogclofjollnaaGreatDoorTmuToRgS
namespace Go.Proofs.YtjogclofjollnaaGreatDoor
open Go.RowKit
def smB (c : Nat) : Bool := decide (97 ≤ c ∧ c ≤ 122)
def bnOk (t : List Nat) : Bool := t.all smB && decide (1 ≤ t.length ∧ t.length ≤ 8)
theorem allS_step {p : Nat → Bool} {t : List Nat} {k : Nat} (h : k < t.length) (h0 : (t.take k).all p = true) (hb : p (nth t k) = true) : (t.take (k + 1)).all p = true := by
 rw [take_snoc t k h, List.all_append, h0]
 simp [hb]
theorem allS_bad {p : Nat → Bool} {t : List Nat} {k : Nat} (h : k < t.length) (hb : p (nth t k) = false) : t.all p = false := by
 rw [List.all_eq_false]
 exact ⟨nth t k, by rw [nth_get h]; exact List.getElem_mem h, by rw [hb]; simp⟩
set_option maxHeartbeats 400000 in
theorem isSmallLetter_any (c : Nat) (w : World) (hc : c < 256) : Calls Tryz.prog 95 #[.int .u8 (c : Int)] w fun e w' => e = .returned (.bool (smB c)) ∧ w = w' := by
 have HM : Hid (smB c = decide (97 ≤ c ∧ c ≤ 122)) := rfl
 generalize smB c = r at *
 by_cases h1 : 97 ≤ c
 ·have h1' : (97 : Int) ≤ (c : Int) := by omega
  by_cases h2 : c ≤ 122
  ·have h2' : (c : Int) ≤ 122 := by omega
   have HR : Hid (r = true) := HM.out.trans (decide_eq_true ⟨h1, h2⟩)
   clear HM
   go_enter Tryz.func95, Tryz.ntmps95
   go_wp2
   go_ret
   exact ⟨by rw [HR.out]; rfl, rfl⟩
  ·have h2' : ¬ (c : Int) ≤ 122 := by omega
   have HR : Hid (r = false) := HM.out.trans (decide_eq_false (by omega))
   clear HM
   go_enter Tryz.func95, Tryz.ntmps95
   go_wp2
   go_ret
   exact ⟨by rw [HR.out]; rfl, rfl⟩
 ·have h1' : ¬ (97 : Int) ≤ (c : Int) := by omega
  have HR : Hid (r = false) := HM.out.trans (decide_eq_false (by omega))
  clear HM
  go_enter Tryz.func95, Tryz.ntmps95
  go_wp2
  go_ret
  exact ⟨by rw [HR.out]; rfl, rfl⟩
set_option maxHeartbeats 1600000 in
set_option maxRecDepth 100000 in
theorem areBytes_small (t : List Nat) (n : Nat) (w : World) (hl : t.length = n) (hB : IsB t) (hn : n ≤ 1048576) :
  Calls Tryz.prog 92 #[.string (str t), .func (.func 95) #[] #[]] w fun e w' => e = .returned (.bool (t.all smB)) ∧ w = w' := by
 have hsz : (str t).size = n := by rw [str_size, hl]
 have HL : Hid (t.length = n) := hl
 clear hl
 go_enter Tryz.func92, Tryz.ntmps92
 go_wp2
 go_loop [8] (fun v => ∃ k : Nat, k ≤ n ∧ v = .int .i64 k ∧ (t.take k).all smB = true) (fun v => n - (intOf v).toNat)
 case atStart => exact ⟨0, Nat.zero_le _, rfl, by simp⟩
 case round =>
  obtain ⟨k, hk, rfl, hall⟩ := hrel
  by_cases hkn : k < n
  ·have hki : (k : Int) < (n : Int) := by omega
   have g0 := str_get hB (i := k) (by rw [hsz]; exact hkn)
   have HY : Hid (smB (nth t k) = true → (t.take (k + 1)).all smB = true) := fun h => allS_step (by have := HL.out; omega) hall h
   have HN : Hid (smB (nth t k) = false → t.all smB = false) := fun h => allS_bad (by have := HL.out; omega) h
   have hx := nth_lt hB k
   have HC : Hid (∀ w, Calls Tryz.prog 95 #[.int .u8 (nth t k : Int)] w fun e w' => e = .returned (.bool (smB (nth t k))) ∧ w = w') := fun w => isSmallLetter_any (nth t k) w hx
   generalize hbv : smB (nth t k) = bv at *
   clear hbv hall
   generalize nth t k = x at *
   cases bv with
   | true =>
    have HM : Hid (_) := HY.out rfl
    clear HY HN
    go_wp2_with fail
    refine (HC.out _).mono ?_
    rintro e w' ⟨rfl, rfl⟩
    go_wp2
    go_round
    case rel => exact ⟨k + 1, by omega, by go_num, HM.out⟩
    case measure => simp [intOf]; omega
   | false =>
    have HM : Hid (_) := HN.out rfl
    clear HY HN
    go_wp2_with fail
    refine (HC.out _).mono ?_
    rintro e w' ⟨rfl, rfl⟩
    go_wp2
    go_ret
    exact ⟨by rw [HM.out]; rfl, rfl⟩
  ·have hki : ¬ (k : Int) < (n : Int) := by omega
   have HM : Hid (t.all smB = true) := by
    show _ = _
    rw [show k = t.length by have := HL.out; omega, List.take_length] at hall
    exact hall
   clear hall
   go_wp2
   go_ret
   exact ⟨by rw [HM.out]; rfl, rfl⟩
set_option maxHeartbeats 1600000 in
set_option maxRecDepth 100000 in
theorem l7Name_any (t : List Nat) (n : Nat) (w : World) (hl : t.length = n) (hB : IsB t) (hn : n ≤ 1048576) :
  Calls Tryz.prog 30 #[.string (str t)] w fun e w' => e = .returned (.bool (bnOk t)) ∧ Below w.heap.size w w' := by
 have hsz : (str t).size = n := by rw [str_size, hl]
 have HL : Hid (t.length = n) := hl
 clear hl
 go_enter Tryz.func30, Tryz.ntmps30
 go_wp2
 go_loopw [3] (fun v wr => ∃ k : Nat, k ≤ n ∧ v = .int .i64 k ∧ (t.take k).all smB = true ∧ Below w.heap.size w wr) (fun v _ => n - (intOf v).toNat)
 case atStart => exact ⟨0, Nat.zero_le _, rfl, by simp, Below.refl _ _⟩
 case round =>
  obtain ⟨k, hk, rfl, hall, hbel⟩ := hrel
  by_cases hkn : k < n
  ·have hki : (k : Int) < (n : Int) := by omega
   have g0 := str_get hB (i := k) (by rw [hsz]; exact hkn)
   have HY : Hid (smB (nth t k) = true → (t.take (k + 1)).all smB = true) := fun h => allS_step (by have := HL.out; omega) hall h
   have HN : Hid (smB (nth t k) = false → bnOk t = false) := fun h => by unfold bnOk; rw [allS_bad (by have := HL.out; omega) h]; rfl
   have hx := nth_lt hB k
   clear hall
   generalize nth t k = x at *
   by_cases c1 : x < 97
   ·have c1' : (x : Int) < 97 := by omega
    have HM : Hid (_) := HN.out (decide_eq_false (by omega))
    clear HY HN
    go_wp2
    go_ret
    exact ⟨by rw [HM.out]; rfl, hbel⟩
   ·have c1' : ¬ (x : Int) < 97 := by omega
    by_cases c2 : 122 < x
    ·have c2' : (122 : Int) < (x : Int) := by omega
     have HM : Hid (_) := HN.out (decide_eq_false (by omega))
     clear HY HN
     go_wp2
     go_ret
     exact ⟨by rw [HM.out]; rfl, hbel⟩
    ·have c2' : ¬ (122 : Int) < (x : Int) := by omega
     have HM : Hid (_) := HY.out (decide_eq_true (by omega))
     clear HY HN
     go_wp2
     go_roundw
     case rel => exact ⟨k + 1, by omega, by go_num, HM.out, hbel⟩
     case measure => simp [intOf]; omega
  ·have hki : ¬ (k : Int) < (n : Int) := by omega
   have HM : Hid (bnOk t = bt (n : Int) 1 8) := by
    show _ = _
    unfold bnOk bt
    rw [show k = t.length by have := HL.out; omega, List.take_length] at hall
    rw [hall, HL.out, Bool.true_and]
    exact decide_eq_decide.2 (by omega)
   clear hall
   go_wp2_with fail
   refine (l1In_bt _ _ _ _).mono ?_
   rintro e w' ⟨rfl, rfl⟩
   generalize bt (n : Int) 1 8 = d at *
   go_wp2
   go_ret
   exact ⟨by rw [HM.out]; rfl, hbel⟩
set_option maxHeartbeats 1600000 in
set_option maxRecDepth 100000 in
theorem isBoxName_any (t : List Nat) (n : Nat) (w : World) (hl : t.length = n) (hB : IsB t) (hn : n ≤ 1048576) :
  Calls Tryz.prog 68 #[.string (str t)] w fun e w' => e = .returned (.bool (bnOk t)) ∧ Below w.heap.size w w' := by
 have hsz : (str t).size = n := by rw [str_size, hl]
 have HV : Hid (bnOk t = (t.all smB && decide (1 ≤ n ∧ n ≤ 8))) := by show _ = _; unfold bnOk; rw [hl]
 have HC : Hid (∀ w, _) := fun w => areBytes_small t n w hl hB hn
 generalize bnOk t = r at *
 by_cases h0 : n = 0
 ·have hs : str t = ⟨#[]⟩ := by
   obtain rfl : t = [] := List.length_eq_zero_iff.1 (by omega)
   rfl
  have HM : Hid (r = false) := HV.out.trans (by simp [h0])
  clear HV HC
  rw [hs]
  go_enter Tryz.func68, Tryz.ntmps68
  go_wp2
  go_ret
  exact ⟨by rw [HM.out]; rfl, Below.refl _ _⟩
 ·have hs : str t ≠ ⟨#[]⟩ := fun h => h0 (by rw [← hsz, h]; rfl)
  have hs' : ¬ (str t).toList = [] := fun h => h0 (by have e := congrArg List.length h; rw [ByteArray.toList_eq] at e; simpa [str, hl] using e)
  have hse : (str t).toList.isEmpty = false := by rw [List.isEmpty_eq_false_iff]; exact hs'
  by_cases h8 : n ≤ 8
  ·have h8' : (n : Int) ≤ 8 := by omega
   have HM : Hid (r = t.all smB) := HV.out.trans (by rw [decide_eq_true (by omega), Bool.and_true])
   clear HV
   generalize t.all smB = b at *
   generalize str t = st at *
   go_enter Tryz.func68, Tryz.ntmps68
   go_wp2_with (first | (go_at_call 92; refine (HC.out _).mono ?_; rintro e w' ⟨rfl, rfl⟩))
   go_ret
   exact ⟨by rw [HM.out]; rfl, Below.refl _ _⟩
  ·have h8' : ¬ (n : Int) ≤ 8 := by omega
   have HM : Hid (r = false) := HV.out.trans (by rw [decide_eq_false (by omega), Bool.and_false])
   clear HV HC
   generalize str t = st at *
   go_enter Tryz.func68, Tryz.ntmps68
   go_wp2
   go_ret
   exact ⟨by rw [HM.out]; rfl, Below.refl _ _⟩
def txB (s : ByteArray) : List Nat := s.data.toList.map UInt8.toNat
theorem txB_str {t : List Nat} (hB : IsB t) : txB (str t) = t := by
 unfold txB str
 simp only [List.map_map]
 refine List.ext_getElem (by simp) (fun i h1 h2 => ?_)
 simp only [List.getElem_map, Function.comp]
 have := hB _ (List.getElem_mem h2)
 simp [Nat.mod_eq_of_lt this]
theorem l7Name_nm (s : ByteArray) (w : World) (hn : s.size ≤ 1048576) :
  Calls Tryz.prog 30 #[.string s] w fun e w' => e = .returned (.bool (bnOk (txB s))) ∧ Below w.heap.size w w' := by
 obtain ⟨t, rfl, hB⟩ := str_surj s
 rw [txB_str hB]
 exact l7Name_any t _ w rfl hB (by rw [← str_size]; exact hn)
theorem isBoxName_nm (s : ByteArray) (w : World) (hn : s.size ≤ 1048576) :
  Calls Tryz.prog 68 #[.string s] w fun e w' => e = .returned (.bool (bnOk (txB s))) ∧ Below w.heap.size w w' := by
 obtain ⟨t, rfl, hB⟩ := str_surj s
 rw [txB_str hB]
 exact isBoxName_any t _ w rfl hB (by rw [← str_size]; exact hn)
end Go.Proofs.YtjogclofjollnaaGreatDoor
namespace Go.Proofs.YtjogclofjollnaaGreatDoor
open Go.RowKit
def tgB (c : Nat) : Bool := smB c || decide (48 ≤ c ∧ c ≤ 57)
def tgOk (t : List Nat) : Bool := t.all tgB && decide (1 ≤ t.length ∧ t.length ≤ 4)
set_option maxHeartbeats 400000 in
theorem isTagByte_any (c : Nat) (w : World) (hc : c < 256) : Calls Tryz.prog 93 #[.int .u8 (c : Int)] w fun e w' => e = .returned (.bool (tgB c)) ∧ w = w' := by
 have HM : Hid (tgB c = (smB c || decide (48 ≤ c ∧ c ≤ 57))) := rfl
 have HC : Hid (∀ w, Calls Tryz.prog 95 #[.int .u8 (c : Int)] w fun e w' => e = .returned (.bool (smB c)) ∧ w = w') := fun w => isSmallLetter_any c w hc
 generalize tgB c = r at *
 cases hb : smB c with
 | true =>
  rw [hb] at HM HC
  have HR : Hid (r = true) := HM.out
  clear HM hb
  go_enter Tryz.func93, Tryz.ntmps93
  go_wp2_with (first | (go_at_call 95; refine (HC.out _).mono ?_; rintro e w' ⟨rfl, rfl⟩))
  go_ret
  exact ⟨by rw [HR.out]; rfl, rfl⟩
 | false =>
  rw [hb] at HM HC
  have HR : Hid (r = decide (48 ≤ c ∧ c ≤ 57)) := HM.out
  clear HM hb
  by_cases h1 : 48 ≤ c
  ·have h1' : (48 : Int) ≤ (c : Int) := by omega
   have h1g : (c : Int) ≥ 48 := by omega
   by_cases h2 : c ≤ 57
   ·have h2' : (c : Int) ≤ 57 := by omega
    have HT : Hid (r = true) := HR.out.trans (decide_eq_true ⟨h1, h2⟩)
    clear HR
    go_enter Tryz.func93, Tryz.ntmps93
    go_wp2_with (first | (go_at_call 95; refine (HC.out _).mono ?_; rintro e w' ⟨rfl, rfl⟩))
    go_ret
    exact ⟨by rw [HT.out]; rfl, rfl⟩
   ·have h2' : ¬ (c : Int) ≤ 57 := by omega
    have HT : Hid (r = false) := HR.out.trans (decide_eq_false (by omega))
    clear HR
    go_enter Tryz.func93, Tryz.ntmps93
    go_wp2_with (first | (go_at_call 95; refine (HC.out _).mono ?_; rintro e w' ⟨rfl, rfl⟩))
    go_ret
    exact ⟨by rw [HT.out]; show Ending.returned (.bool (decide ((c : Int) ≤ 57))) = _; rw [decide_eq_false (show ¬ (c : Int) ≤ 57 by omega)], rfl⟩
  ·have h1' : ¬ (48 : Int) ≤ (c : Int) := by omega
   have HT : Hid (r = false) := HR.out.trans (decide_eq_false (by omega))
   clear HR
   go_enter Tryz.func93, Tryz.ntmps93
   go_wp2_with (first | (go_at_call 95; refine (HC.out _).mono ?_; rintro e w' ⟨rfl, rfl⟩))
   go_ret
   exact ⟨by rw [HT.out]; rfl, rfl⟩
set_option maxHeartbeats 1600000 in
set_option maxRecDepth 100000 in
theorem areBytes_tag (t : List Nat) (n : Nat) (w : World) (hl : t.length = n) (hB : IsB t) (hn : n ≤ 1048576) :
  Calls Tryz.prog 92 #[.string (str t), .func (.func 93) #[] #[]] w fun e w' => e = .returned (.bool (t.all tgB)) ∧ w = w' := by
 have hsz : (str t).size = n := by rw [str_size, hl]
 have HL : Hid (t.length = n) := hl
 clear hl
 go_enter Tryz.func92, Tryz.ntmps92
 go_wp2
 go_loop [8] (fun v => ∃ k : Nat, k ≤ n ∧ v = .int .i64 k ∧ (t.take k).all tgB = true) (fun v => n - (intOf v).toNat)
 case atStart => exact ⟨0, Nat.zero_le _, rfl, by simp⟩
 case round =>
  obtain ⟨k, hk, rfl, hall⟩ := hrel
  by_cases hkn : k < n
  ·have hki : (k : Int) < (n : Int) := by omega
   have g0 := str_get hB (i := k) (by rw [hsz]; exact hkn)
   have HY : Hid (tgB (nth t k) = true → (t.take (k + 1)).all tgB = true) := fun h => allS_step (by have := HL.out; omega) hall h
   have HN : Hid (tgB (nth t k) = false → t.all tgB = false) := fun h => allS_bad (by have := HL.out; omega) h
   have hx := nth_lt hB k
   have HC : Hid (∀ w, Calls Tryz.prog 93 #[.int .u8 (nth t k : Int)] w fun e w' => e = .returned (.bool (tgB (nth t k))) ∧ w = w') := fun w => isTagByte_any (nth t k) w hx
   generalize hbv : tgB (nth t k) = bv at *
   clear hbv hall
   generalize nth t k = x at *
   cases bv with
   | true =>
    have HM : Hid (_) := HY.out rfl
    clear HY HN
    go_wp2_with fail
    refine (HC.out _).mono ?_
    rintro e w' ⟨rfl, rfl⟩
    go_wp2
    go_round
    case rel => exact ⟨k + 1, by omega, by go_num, HM.out⟩
    case measure => simp [intOf]; omega
   | false =>
    have HM : Hid (_) := HN.out rfl
    clear HY HN
    go_wp2_with fail
    refine (HC.out _).mono ?_
    rintro e w' ⟨rfl, rfl⟩
    go_wp2
    go_ret
    exact ⟨by rw [HM.out]; rfl, rfl⟩
  ·have hki : ¬ (k : Int) < (n : Int) := by omega
   have HM : Hid (t.all tgB = true) := by
    show _ = _
    rw [show k = t.length by have := HL.out; omega, List.take_length] at hall
    exact hall
   clear hall
   go_wp2
   go_ret
   exact ⟨by rw [HM.out]; rfl, rfl⟩
set_option maxHeartbeats 1600000 in
set_option maxRecDepth 100000 in
theorem l14Tag_any (t : List Nat) (n : Nat) (w : World) (hl : t.length = n) (hB : IsB t) (hn : n ≤ 1048576) :
  Calls Tryz.prog 27 #[.string (str t)] w fun e w' => e = .returned (.bool (tgOk t)) ∧ Below w.heap.size w w' := by
 have hsz : (str t).size = n := by rw [str_size, hl]
 have HL : Hid (t.length = n) := hl
 clear hl
 go_enter Tryz.func27, Tryz.ntmps27
 go_wp2
 go_loopw [3] (fun v wr => ∃ k : Nat, k ≤ n ∧ v = .int .i64 k ∧ (t.take k).all tgB = true ∧ Below w.heap.size w wr) (fun v _ => n - (intOf v).toNat)
 case atStart => exact ⟨0, Nat.zero_le _, rfl, by simp, Below.refl _ _⟩
 case round =>
  obtain ⟨k, hk, rfl, hall, hbel⟩ := hrel
  by_cases hkn : k < n
  ·have hki : (k : Int) < (n : Int) := by omega
   have g0 := str_get hB (i := k) (by rw [hsz]; exact hkn)
   have HY : Hid (tgB (nth t k) = true → (t.take (k + 1)).all tgB = true) := fun h => allS_step (by have := HL.out; omega) hall h
   have HN : Hid (tgB (nth t k) = false → tgOk t = false) := fun h => by unfold tgOk; rw [allS_bad (by have := HL.out; omega) h]; rfl
   have hx := nth_lt hB k
   clear hall
   generalize nth t k = x at *
   by_cases c1 : x < 97
   ·have c1' : ¬ (x : Int) ≥ 97 := by omega
    have c1'' : ¬ (97 : Int) ≤ (x : Int) := by omega
    by_cases c3 : x < 48
    ·have c3' : ¬ (x : Int) ≥ 48 := by omega
     have c3'' : ¬ (48 : Int) ≤ (x : Int) := by omega
     have HM : Hid (_) := HN.out (by unfold tgB smB; rw [decide_eq_false (by omega), decide_eq_false (by omega)]; rfl)
     clear HY HN
     go_wp2
     go_ret
     exact ⟨by rw [HM.out]; rfl, hbel⟩
    ·have c3' : (x : Int) ≥ 48 := by omega
     have c3'' : (48 : Int) ≤ (x : Int) := by omega
     by_cases c4 : 57 < x
     ·have c4' : ¬ (x : Int) ≤ 57 := by omega
      have HM : Hid (_) := HN.out (by unfold tgB smB; rw [decide_eq_false (by omega), decide_eq_false (by omega)]; rfl)
      clear HY HN
      go_wp2
      go_ret
      exact ⟨by rw [HM.out]; rfl, hbel⟩
     ·have c4' : (x : Int) ≤ 57 := by omega
      have HM : Hid (_) := HY.out (by unfold tgB smB; rw [decide_eq_true (show 48 ≤ x ∧ x ≤ 57 by omega)]; simp)
      clear HY HN
      go_wp2
      go_roundw
      case rel => exact ⟨k + 1, by omega, by go_num, HM.out, hbel⟩
      case measure => simp [intOf]; omega
   ·have c1' : (x : Int) ≥ 97 := by omega
    have c1'' : (97 : Int) ≤ (x : Int) := by omega
    by_cases c2 : 122 < x
    ·have c2' : ¬ (x : Int) ≤ 122 := by omega
     have c3' : (x : Int) ≥ 48 := by omega
     have c3'' : (48 : Int) ≤ (x : Int) := by omega
     have c4' : ¬ (x : Int) ≤ 57 := by omega
     have HM : Hid (_) := HN.out (by unfold tgB smB; rw [decide_eq_false (by omega), decide_eq_false (by omega)]; rfl)
     clear HY HN
     go_wp2
     go_ret
     exact ⟨by rw [HM.out]; rfl, hbel⟩
    ·have c2' : (x : Int) ≤ 122 := by omega
     have HM : Hid (_) := HY.out (by unfold tgB smB; rw [decide_eq_true (show 97 ≤ x ∧ x ≤ 122 by omega)]; rfl)
     clear HY HN
     go_wp2
     go_roundw
     case rel => exact ⟨k + 1, by omega, by go_num, HM.out, hbel⟩
     case measure => simp [intOf]; omega
  ·have hki : ¬ (k : Int) < (n : Int) := by omega
   have HM : Hid (tgOk t = bt (n : Int) 1 4) := by
    show _ = _
    unfold tgOk bt
    rw [show k = t.length by have := HL.out; omega, List.take_length] at hall
    rw [hall, HL.out, Bool.true_and]
    exact decide_eq_decide.2 (by omega)
   clear hall
   go_wp2_with fail
   refine (l1In_bt _ _ _ _).mono ?_
   rintro e w' ⟨rfl, rfl⟩
   generalize bt (n : Int) 1 4 = d at *
   go_wp2
   go_ret
   exact ⟨by rw [HM.out]; rfl, hbel⟩
set_option maxHeartbeats 1600000 in
set_option maxRecDepth 100000 in
theorem isTag_any (t : List Nat) (n : Nat) (w : World) (hl : t.length = n) (hB : IsB t) (hn : n ≤ 1048576) :
  Calls Tryz.prog 64 #[.string (str t)] w fun e w' => e = .returned (.bool (tgOk t)) ∧ Below w.heap.size w w' := by
 have hsz : (str t).size = n := by rw [str_size, hl]
 have HV : Hid (tgOk t = (t.all tgB && decide (1 ≤ n ∧ n ≤ 4))) := by show _ = _; unfold tgOk; rw [hl]
 have HC : Hid (∀ w, _) := fun w => areBytes_tag t n w hl hB hn
 generalize tgOk t = r at *
 by_cases h0 : n = 0
 ·have hs : str t = ⟨#[]⟩ := by
   obtain rfl : t = [] := List.length_eq_zero_iff.1 (by omega)
   rfl
  have HM : Hid (r = false) := HV.out.trans (by simp [h0])
  clear HV HC
  rw [hs]
  go_enter Tryz.func64, Tryz.ntmps64
  go_wp2
  go_ret
  exact ⟨by rw [HM.out]; rfl, Below.refl _ _⟩
 ·have hs : str t ≠ ⟨#[]⟩ := fun h => h0 (by rw [← hsz, h]; rfl)
  have hs' : ¬ (str t).toList = [] := fun h => h0 (by have e := congrArg List.length h; rw [ByteArray.toList_eq] at e; simpa [str, hl] using e)
  have hse : (str t).toList.isEmpty = false := by rw [List.isEmpty_eq_false_iff]; exact hs'
  by_cases h4 : n ≤ 4
  ·have h4' : (n : Int) ≤ 4 := by omega
   have HM : Hid (r = t.all tgB) := HV.out.trans (by rw [decide_eq_true (by omega), Bool.and_true])
   clear HV
   generalize t.all tgB = b at *
   generalize str t = st at *
   go_enter Tryz.func64, Tryz.ntmps64
   go_wp2_with (first | (go_at_call 92; refine (HC.out _).mono ?_; rintro e w' ⟨rfl, rfl⟩))
   go_ret
   exact ⟨by rw [HM.out]; rfl, Below.refl _ _⟩
  ·have h4' : ¬ (n : Int) ≤ 4 := by omega
   have HM : Hid (r = false) := HV.out.trans (by rw [decide_eq_false (by omega), Bool.and_false])
   clear HV HC
   generalize str t = st at *
   go_enter Tryz.func64, Tryz.ntmps64
   go_wp2
   go_ret
   exact ⟨by rw [HM.out]; rfl, Below.refl _ _⟩
theorem l14Tag_nm (s : ByteArray) (w : World) (hn : s.size ≤ 1048576) :
  Calls Tryz.prog 27 #[.string s] w fun e w' => e = .returned (.bool (tgOk (txB s))) ∧ Below w.heap.size w w' := by
 obtain ⟨t, rfl, hB⟩ := str_surj s
 rw [txB_str hB]
 exact l14Tag_any t _ w rfl hB (by rw [← str_size]; exact hn)
theorem isTag_nm (s : ByteArray) (w : World) (hn : s.size ≤ 1048576) :
  Calls Tryz.prog 64 #[.string s] w fun e w' => e = .returned (.bool (tgOk (txB s))) ∧ Below w.heap.size w w' := by
 obtain ⟨t, rfl, hB⟩ := str_surj s
 rw [txB_str hB]
 exact isTag_any t _ w rfl hB (by rw [← str_size]; exact hn)
end Go.Proofs.YtjogclofjollnaaGreatDoor
