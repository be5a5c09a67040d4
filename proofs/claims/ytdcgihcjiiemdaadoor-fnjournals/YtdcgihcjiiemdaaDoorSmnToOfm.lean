/- The name of a mailbox: the program's and the model's · The fault of an op, in plain words: which of its things its kind has, its names, its numbers; with no program in it. -/
import Derived.Test.YtdcgihcjiiemdaaDoorBmbToDr12
import Derived.Test.YtdcgihcjiiemdaaDoorOpo
namespace Go.Proofs.YtdcgihcjiiemdaaDoor
open Go.RowKit
def smB (c : Nat) : Bool := decide (97 ≤ c ∧ c ≤ 122)
def bnOk (t : List Nat) : Bool := t.all smB && decide (1 ≤ t.length ∧ t.length ≤ 8)
theorem allS_step {p : Nat → Bool} {t : List Nat} {k : Nat} (h : k < t.length) (h0 : (t.take k).all p = true) (hb : p (nth t k) = true) : (t.take (k + 1)).all p = true := by
 rw [take_snoc t k h, List.all_append, h0]
 simp [hb]
theorem allS_bad {p : Nat → Bool} {t : List Nat} {k : Nat} (h : k < t.length) (hb : p (nth t k) = false) : t.all p = false := by
 rw [List.all_eq_false]
 exact ⟨nth t k, by rw [nth_get h]; exact List.getElem_mem h, by rw [hb]; simp⟩
set_option maxHeartbeats 400000 in
theorem isSmallLetter_any (c : Nat) (w : World) (hc : c < 256) : Calls Tryd.prog 73 #[.int .u8 (c : Int)] w fun e w' => e = .returned (.bool (smB c)) ∧ w = w' := by
 have HM : Hid (smB c = decide (97 ≤ c ∧ c ≤ 122)) := rfl
 generalize smB c = r at *
 by_cases h1 : 97 ≤ c
 ·have h1' : (97 : Int) ≤ (c : Int) := by omega
  by_cases h2 : c ≤ 122
  ·have h2' : (c : Int) ≤ 122 := by omega
   have HR : Hid (r = true) := HM.out.trans (decide_eq_true ⟨h1, h2⟩)
   clear HM
   go_enter Tryd.func73, Tryd.ntmps73
   go_wp2
   go_ret
   exact ⟨by rw [HR.out]; rfl, rfl⟩
  ·have h2' : ¬ (c : Int) ≤ 122 := by omega
   have HR : Hid (r = false) := HM.out.trans (decide_eq_false (by omega))
   clear HM
   go_enter Tryd.func73, Tryd.ntmps73
   go_wp2
   go_ret
   exact ⟨by rw [HR.out]; rfl, rfl⟩
 ·have h1' : ¬ (97 : Int) ≤ (c : Int) := by omega
  have HR : Hid (r = false) := HM.out.trans (decide_eq_false (by omega))
  clear HM
  go_enter Tryd.func73, Tryd.ntmps73
  go_wp2
  go_ret
  exact ⟨by rw [HR.out]; rfl, rfl⟩
set_option maxHeartbeats 1600000 in
set_option maxRecDepth 100000 in
theorem areBytes_small (t : List Nat) (n : Nat) (w : World) (hl : t.length = n) (hB : IsB t) (hn : n ≤ 1048576) :
  Calls Tryd.prog 72 #[.string (str t), .func (.func 73) #[] #[]] w fun e w' => e = .returned (.bool (t.all smB)) ∧ w = w' := by
 have hsz : (str t).size = n := by rw [str_size, hl]
 have HL : Hid (t.length = n) := hl
 clear hl
 go_enter Tryd.func72, Tryd.ntmps72
 go_wp2
 go_loop [8] (fun v => ∃ k : Nat, k ≤ n ∧ v = .int .i64 k ∧ (t.take k).all smB = true) (fun v => n - (intOf v).toNat)
 case atStart => exact ⟨0, Nat.zero_le _, rfl, by simp⟩
 case round =>
  obtain ⟨k, hk, rfl, hall⟩ := hrel
  by_cases hkn : k < n
  ·have hki : (k : Int) < (n : Int) := by omega
   have g0 := str_get hB (i := k) (by rw [hsz]; exact hkn)
   have HY : Hid (smB (nth t k) = true → (t.take (k + 1)).all smB = true) := fun h => allS_step (by have := HL.out; omega) hall h
   have HN : Hid (smB (nth t k) = false → t.all smB = false) := fun h => allS_bad (by have := HL.out; omega) h
   have hx := nth_lt hB k
   have HC : Hid (∀ w, Calls Tryd.prog 73 #[.int .u8 (nth t k : Int)] w fun e w' => e = .returned (.bool (smB (nth t k))) ∧ w = w') := fun w => isSmallLetter_any (nth t k) w hx
   generalize hbv : smB (nth t k) = bv at *
   clear hbv hall
   generalize nth t k = x at *
   cases bv with
   | true =>
    have HM : Hid (_) := HY.out rfl
    clear HY HN
    go_wp2_with fail
    refine (HC.out _).mono ?_
    rintro e w' ⟨rfl, rfl⟩
    go_wp2
    go_round
    case rel => exact ⟨k + 1, by omega, by go_num, HM.out⟩
    case measure => simp [intOf]; omega
   | false =>
    have HM : Hid (_) := HN.out rfl
    clear HY HN
    go_wp2_with fail
    refine (HC.out _).mono ?_
    rintro e w' ⟨rfl, rfl⟩
    go_wp2
    go_ret
    exact ⟨by rw [HM.out]; rfl, rfl⟩
  ·have hki : ¬ (k : Int) < (n : Int) := by omega
   have HM : Hid (t.all smB = true) := by
    show _ = _
    rw [show k = t.length by have := HL.out; omega, List.take_length] at hall
    exact hall
   clear hall
   go_wp2
   go_ret
   exact ⟨by rw [HM.out]; rfl, rfl⟩
set_option maxHeartbeats 1600000 in
set_option maxRecDepth 100000 in
theorem l7Name_any (t : List Nat) (n : Nat) (w : World) (hl : t.length = n) (hB : IsB t) (hn : n ≤ 1048576) :
  Calls Tryd.prog 55 #[.string (str t)] w fun e w' => e = .returned (.bool (bnOk t)) ∧ Below w.heap.size w w' := by
 have hsz : (str t).size = n := by rw [str_size, hl]
 have HL : Hid (t.length = n) := hl
 clear hl
 go_enter Tryd.func55, Tryd.ntmps55
 go_wp2
 go_loopw [3] (fun v wr => ∃ k : Nat, k ≤ n ∧ v = .int .i64 k ∧ (t.take k).all smB = true ∧ Below w.heap.size w wr) (fun v _ => n - (intOf v).toNat)
 case atStart => exact ⟨0, Nat.zero_le _, rfl, by simp, Below.refl _ _⟩
 case round =>
  obtain ⟨k, hk, rfl, hall, hbel⟩ := hrel
  by_cases hkn : k < n
  ·have hki : (k : Int) < (n : Int) := by omega
   have g0 := str_get hB (i := k) (by rw [hsz]; exact hkn)
   have HY : Hid (smB (nth t k) = true → (t.take (k + 1)).all smB = true) := fun h => allS_step (by have := HL.out; omega) hall h
   have HN : Hid (smB (nth t k) = false → bnOk t = false) := fun h => by unfold bnOk; rw [allS_bad (by have := HL.out; omega) h]; rfl
   have hx := nth_lt hB k
   clear hall
   generalize nth t k = x at *
   by_cases c1 : x < 97
   ·have c1' : (x : Int) < 97 := by omega
    have HM : Hid (_) := HN.out (decide_eq_false (by omega))
    clear HY HN
    go_wp2
    go_ret
    exact ⟨by rw [HM.out]; rfl, hbel⟩
   ·have c1' : ¬ (x : Int) < 97 := by omega
    by_cases c2 : 122 < x
    ·have c2' : (122 : Int) < (x : Int) := by omega
     have HM : Hid (_) := HN.out (decide_eq_false (by omega))
     clear HY HN
     go_wp2
     go_ret
     exact ⟨by rw [HM.out]; rfl, hbel⟩
    ·have c2' : ¬ (122 : Int) < (x : Int) := by omega
     have HM : Hid (_) := HY.out (decide_eq_true (by omega))
     clear HY HN
     go_wp2
     go_roundw
     case rel => exact ⟨k + 1, by omega, by go_num, HM.out, hbel⟩
     case measure => simp [intOf]; omega
  ·have hki : ¬ (k : Int) < (n : Int) := by omega
   have HM : Hid (bnOk t = bt (n : Int) 1 8) := by
    show _ = _
    unfold bnOk bt
    rw [show k = t.length by have := HL.out; omega, List.take_length] at hall
    rw [hall, HL.out, Bool.true_and]
    exact decide_eq_decide.2 (by omega)
   clear hall
   go_wp2_with fail
   refine (l1In_bt _ _ _ _).mono ?_
   rintro e w' ⟨rfl, rfl⟩
   generalize bt (n : Int) 1 8 = d at *
   go_wp2
   go_ret
   exact ⟨by rw [HM.out]; rfl, hbel⟩
set_option maxHeartbeats 1600000 in
set_option maxRecDepth 100000 in
theorem isBoxName_any (t : List Nat) (n : Nat) (w : World) (hl : t.length = n) (hB : IsB t) (hn : n ≤ 1048576) :
  Calls Tryd.prog 60 #[.string (str t)] w fun e w' => e = .returned (.bool (bnOk t)) ∧ Below w.heap.size w w' := by
 have hsz : (str t).size = n := by rw [str_size, hl]
 have HV : Hid (bnOk t = (t.all smB && decide (1 ≤ n ∧ n ≤ 8))) := by show _ = _; unfold bnOk; rw [hl]
 have HC : Hid (∀ w, _) := fun w => areBytes_small t n w hl hB hn
 generalize bnOk t = r at *
 by_cases h0 : n = 0
 ·have hs : str t = ⟨#[]⟩ := by
   obtain rfl : t = [] := List.length_eq_zero_iff.1 (by omega)
   rfl
  have HM : Hid (r = false) := HV.out.trans (by simp [h0])
  clear HV HC
  rw [hs]
  go_enter Tryd.func60, Tryd.ntmps60
  go_wp2
  go_ret
  exact ⟨by rw [HM.out]; rfl, Below.refl _ _⟩
 ·have hs : str t ≠ ⟨#[]⟩ := fun h => h0 (by rw [← hsz, h]; rfl)
  have hs' : ¬ (str t).toList = [] := fun h => h0 (by have e := congrArg List.length h; rw [ByteArray.toList_eq] at e; simpa [str, hl] using e)
  have hse : (str t).toList.isEmpty = false := by rw [List.isEmpty_eq_false_iff]; exact hs'
  by_cases h8 : n ≤ 8
  ·have h8' : (n : Int) ≤ 8 := by omega
   have HM : Hid (r = t.all smB) := HV.out.trans (by rw [decide_eq_true (by omega), Bool.and_true])
   clear HV
   generalize t.all smB = b at *
   generalize str t = st at *
   go_enter Tryd.func60, Tryd.ntmps60
   go_wp2_with (first | (go_at_call 72; refine (HC.out _).mono ?_; rintro e w' ⟨rfl, rfl⟩))
   go_ret
   exact ⟨by rw [HM.out]; rfl, Below.refl _ _⟩
  ·have h8' : ¬ (n : Int) ≤ 8 := by omega
   have HM : Hid (r = false) := HV.out.trans (by rw [decide_eq_false (by omega), Bool.and_false])
   clear HV HC
   generalize str t = st at *
   go_enter Tryd.func60, Tryd.ntmps60
   go_wp2
   go_ret
   exact ⟨by rw [HM.out]; rfl, Below.refl _ _⟩
def txB (s : ByteArray) : List Nat := s.data.toList.map UInt8.toNat
theorem txB_str {t : List Nat} (hB : IsB t) : txB (str t) = t := by
 unfold txB str
 simp only [List.map_map]
 refine List.ext_getElem (by simp) (fun i h1 h2 => ?_)
 simp only [List.getElem_map, Function.comp]
 have := hB _ (List.getElem_mem h2)
 simp [Nat.mod_eq_of_lt this]
theorem l7Name_nm (s : ByteArray) (w : World) (hn : s.size ≤ 1048576) :
  Calls Tryd.prog 55 #[.string s] w fun e w' => e = .returned (.bool (bnOk (txB s))) ∧ Below w.heap.size w w' := by
 obtain ⟨t, rfl, hB⟩ := str_surj s
 rw [txB_str hB]
 exact l7Name_any t _ w rfl hB (by rw [← str_size]; exact hn)
theorem isBoxName_nm (s : ByteArray) (w : World) (hn : s.size ≤ 1048576) :
  Calls Tryd.prog 60 #[.string s] w fun e w' => e = .returned (.bool (bnOk (txB s))) ∧ Below w.heap.size w w' := by
 obtain ⟨t, rfl, hB⟩ := str_surj s
 rw [txB_str hB]
 exact isBoxName_any t _ w rfl hB (by rw [← str_size]; exact hn)
end Go.Proofs.YtdcgihcjiiemdaaDoor
namespace Go.Proofs.YtdcgihcjiiemdaaDoor
open Go.RowKit
def h0B (o : OpR) : Bool := decide (o.t.size ≠ 0)
def h1B (o : OpR) : Bool := decide (o.u.length ≠ 0)
def h2B (o : OpR) : Bool := decide (o.m ≠ 0)
def h3B (o : OpR) : Bool := decide (o.f ≠ 0)
def h4B (o : OpR) : Bool := decide (o.d ≠ 0)
def h5B (o : OpR) : Bool := decide (o.b.length ≠ 0)
def cpK (k : Int) : Bool := decide (k = 5 ∨ k = 6)
def fmK (k : Int) (p0 p1 p2 p3 p4 p5 : Bool) : Bool :=
 (cpK k || !p0) && (cpK k || decide (k = 4) || !p1) && (decide (k = 4) || !p2) && (decide (k = 3) || !p4 && !p5) && (decide (k = 3) || decide (k = 4) || !p3)
def fmV (o : OpR) : Bool := bt o.k 1 7 && fmK o.k (h0B o) (h1B o) (h2B o) (h3B o) (h4B o) (h5B o)
def riU (a : Int) : List Int → Bool
 | [] => true
 | x :: l => bt x (a + 1) 999 && riU x l
def rgV (o : OpR) : Bool := riU 0 o.u && (!decide (o.k = 4) || bt o.m 1 3) && bt o.f 0 15 && bt o.d 0 9999
def ofV (o : OpR) : Int :=
 if fmV o = true then
  if bnOk (txB o.x) = true ∧ (cpK o.k = true → bnOk (txB o.t) = true) then
   if 6 < o.u.length then 2 else if rgV o = true then (if 400 < o.b.length then 2 else 0) else 3
  else 5
 else 1
def khZ : List Int := [0, 0, 0, 56, 14, 3, 3, 0]
def b2i (p : Bool) (n : Int) : Int := if p then n else 0
def bitZ (p0 p1 p2 p3 p4 p5 : Bool) : Int := b2i p0 1 + b2i p1 2 + b2i p2 4 + b2i p3 8 + b2i p4 16 + b2i p5 32
def bitUp (l : List Bool) : Nat → Int
 | 0 => 0
 | k + 1 => bitUp l k + b2i (l.getD k false) (2 ^ k)
theorem bitUp_all (p0 p1 p2 p3 p4 p5 : Bool) : bitUp [p0, p1, p2, p3, p4, p5] 6 = bitZ p0 p1 p2 p3 p4 p5 := by
 revert p0 p1 p2 p3 p4 p5; decide
end Go.Proofs.YtdcgihcjiiemdaaDoor
