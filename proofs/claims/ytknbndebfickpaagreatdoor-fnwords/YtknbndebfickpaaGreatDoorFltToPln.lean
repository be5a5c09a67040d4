/- CodesFault, the program's and the model's, at every slice of at most 1048576 numbers: both by one plain function · The laws' look at two slices of numbers: whether they are the same; at most 1048576 numbers · What the program knows of the type of a byte: a closed fact · Each helper of the laws over slices of bytes does what its text says: it copies one, and holds two against each other; slices of at most 1048576 bytes · The program's IsPlain and the model's answer alike of every slice of at most 1048576 bytes: whether all bytes are 1 to 127. -/
import Derived.Test.YtknbndebfickpaaGreatDoorAll
import Derived.Test.YtknbndebfickpaaGreatDoorMemToAppI
import Derived.Test.YtknbndebfickpaaGreatDoorChs0ToChs2
import Derived.Test.YtknbndebfickpaaGreatDoorChecked
import Derived.BigQuiet
import Derived.Deep.QuietTactic
import Derived.KernelRfl
namespace Go.Proofs.YtknbndebfickpaaGreatDoor
open Go.RowKit

/-- The fault of some characters. -/
def flt (l : List Int) : Int := if 400 < l.length then 2 else if l.all chr then 0 else 3
theorem flt_many {l : List Int} (h : 400 < l.length) : flt l = 2 := if_pos h
theorem flt_ok {l : List Int} (h : ¬ 400 < l.length) (ha : l.all chr = true) : flt l = 0 := by unfold flt; rw [if_neg h, if_pos ha]
theorem flt_bad {l : List Int} (h : ¬ 400 < l.length) (ha : l.all chr = false) : flt l = 3 := by unfold flt; rw [if_neg h, ha]; rfl
theorem ret_intB {b b' : Int} {w w' : World} {n : Nat} (h : b = b') (hb : Below n w w') : Ending.returned (Value.int .i64 b) = .returned (.int .i64 b') ∧ Below n w w' := ⟨by rw [h], hb⟩

set_option maxHeartbeats 1600000 in
set_option maxRecDepth 100000 in
theorem codesFault_any (a : Option Addr) (n cap : Nat) (l : List Int) (w : World) (hl : l.length = n) (hr : RdI w a l) (hn : n ≤ 1048576) :
    Calls Tryz.prog 9 #[.slice a n cap] w fun e w' => e = .returned (.int .i64 (flt l)) ∧ Below w.heap.size w w' := by
  by_cases h4 : 400 < n
  · have h4' : (400 : Int) < (n : Int) := by omega
    rw [flt_many (by omega)]
    go_enter Tryz.func9, Tryz.ntmps9
    go_wp2
    go_ret
    exact ret_intB rfl (Below.refl _ _)
  · have h4' : ¬ (400 : Int) < (n : Int) := by omega
    cases ha : l.all chr with
    | true =>
      rw [flt_ok (by omega) ha]
      go_enter Tryz.func9, Tryz.ntmps9
      go_wp2_with (first | (go_at_call 21; refine (areAll_char a n cap l _ hl hr hn).mono ?_; rintro e w' ⟨rfl, hb⟩; rw [ha]))
      go_ret
      exact ret_intB rfl hb
    | false =>
      rw [flt_bad (by omega) ha]
      go_enter Tryz.func9, Tryz.ntmps9
      go_wp2_with (first | (go_at_call 21; refine (areAll_char a n cap l _ hl hr hn).mono ?_; rintro e w' ⟨rfl, hb⟩; rw [ha]))
      go_ret
      exact ret_intB rfl hb

set_option maxHeartbeats 1600000 in
set_option maxRecDepth 100000 in
theorem l2Fault_any (a : Option Addr) (n cap : Nat) (l : List Int) (w : World) (hl : l.length = n) (hr : RdI w a l) (hn : n ≤ 1048576) :
    Calls Tryz.prog 29 #[.slice a n cap] w fun e w' => e = .returned (.int .i64 (flt l)) ∧ Below w.heap.size w w' := by
  by_cases h4 : 400 < n
  · have h4' : (400 : Int) < (n : Int) := by omega
    rw [flt_many (by omega)]
    go_enter Tryz.func29, Tryz.ntmps29
    go_wp2
    go_ret
    exact ret_intB rfl (Below.refl _ _)
  · have h4' : ¬ (400 : Int) < (n : Int) := by omega
    go_enter Tryz.func29, Tryz.ntmps29
    go_wp2
    go_loop [3] (fun v3 => ∃ k : Nat, k ≤ n ∧ v3 = .int .i64 k ∧ (l.take k).all chr = true) (fun v3 => n - (intOf v3).toNat)
    case atStart => exact ⟨0, Nat.zero_le _, rfl, by simp⟩
    case round =>
      obtain ⟨k, hk, rfl, hall⟩ := hrel
      by_cases hkn : k < n
      · obtain ⟨b, off, rfl, hblt, hcell⟩ := hr.at_ (by omega)
        have hc := hcell k (by omega)
        have HS : Hid (chr (nthI l k) = true → (l.take (k + 1)).all chr = true) := fun hb => all_step (by omega) hall hb
        have HF : Hid (chr (nthI l k) = false → flt l = 3) := fun hb => flt_bad (by omega) (all_bad (by omega) hb)
        clear hcell hr hall
        generalize nthI l k = x at *
        cases hp : chr x with
        | true =>
          have hall' := HS.out hp
          go_wp2_with (first | (go_at_call 45; refine (l2Char_any _ _).mono ?_; rintro e w' ⟨rfl, rfl⟩; rw [hp]))
          go_round
          case rel => exact ⟨k + 1, by omega, by go_num, hall'⟩
          case measure => simp [intOf]; omega
        | false =>
          clear HS
          go_wp2_with (first | (go_at_call 45; refine (l2Char_any _ _).mono ?_; rintro e w' ⟨rfl, rfl⟩; rw [hp]))
          go_ret
          exact ⟨by rw [HF.out hp]; rfl, Below.refl _ _⟩
      · have hkk : k = n := by omega
        subst hkk
        have HA : Hid (flt l = 0) := flt_ok (by omega) (all_end hl hall)
        go_wp2
        go_ret
        exact ⟨by rw [HA.out]; rfl, Below.refl _ _⟩

end Go.Proofs.YtknbndebfickpaaGreatDoor

namespace Go.Proofs.YtknbndebfickpaaGreatDoor
open Go.RowKit

theorem eqL_step {l s : List Int} {j : Nat} (h : ∀ i, i < j → nthI l i = nthI s i) (hx : nthI l j = nthI s j) : ∀ i, i < j + 1 → nthI l i = nthI s i := fun i hi => by
  by_cases hij : i < j
  · exact h i hij
  · have : i = j := by omega
    subst this; exact hx
theorem eqL_end {l s : List Int} {n : Nat} (hl : l.length = n) (hs : s.length = n) (h : ∀ i, i < n → nthI l i = nthI s i) : l = s := by
  apply List.ext_getElem (by omega)
  intro i h1 h2
  have := h i (by omega)
  rwa [nthI_get h1, nthI_get h2] at this

set_option maxHeartbeats 800000 in
set_option maxRecDepth 100000 in
theorem lwNums_any (a c : Option Addr) (n m cap cap' : Nat) (l s : List Int) (w : World) (hl : l.length = n) (hm : s.length = m) (hr : RdI w a l) (hs : RdI w c s) (hn : n ≤ 1048576) (hmm : m ≤ 1048576) :
    Calls Tryz.prog 8 #[.slice a n cap, .slice c m cap'] w fun e w' => e = .returned (.bool (decide (l = s))) ∧ Below w.heap.size w w' := by
  by_cases hnm : n = m
  · subst hnm
    go_enter Tryz.func8, Tryz.ntmps8
    go_wp2
    go_loopw [5] (fun i wr => ∃ k : Nat, k ≤ n ∧ i = .int .i64 k ∧ (∀ i, i < k → nthI l i = nthI s i) ∧ Below w.heap.size w wr) (fun i _ => n - (intOf i).toNat)
    case atStart => exact ⟨0, Nat.zero_le _, rfl, fun i hi => by omega, Below.refl _ _⟩
    case round =>
      obtain ⟨k, hk, rfl, hsame, hbel⟩ := hrel
      by_cases hkn : k < n
      · obtain ⟨b, off, rfl, hblt, hcell⟩ := hr.at_ (by omega)
        obtain ⟨d, off', rfl, hdlt, hdell⟩ := hs.at_ (by omega)
        have hc : wr.cell? ⟨b, off + k, none⟩ = some (.int .i64 (nthI l k)) := (hbel.cell (p := ⟨b, off + k, none⟩) hblt).trans (hcell k (by omega))
        have hd : wr.cell? ⟨d, off' + k, none⟩ = some (.int .i64 (nthI s k)) := (hbel.cell (p := ⟨d, off' + k, none⟩) hdlt).trans (hdell k (by omega))
        have hki : (k : Int) < (n : Int) := by omega
        have HY : Hid (nthI l k = nthI s k → ∀ i, i < k + 1 → nthI l i = nthI s i) := fun h => eqL_step hsame h
        have HN : Hid (nthI l k ≠ nthI s k → decide (l = s) = false) := fun h => decide_eq_false (fun e => h (by rw [e]))
        clear hcell hdell hr hs hsame
        generalize nthI l k = x at *
        generalize nthI s k = y at *
        by_cases hxy : x = y
        · have HM : Hid (_) := HY.out hxy
          subst hxy
          clear HY HN
          go_wp2
          go_quiet (fail)
          go_wp2
          go_roundw
          case rel => exact ⟨k + 1, by omega, by go_num, HM.out, below_drewN hbel _⟩
          case measure => simp [intOf]; omega
        · have HM : Hid (_) := HN.out hxy
          have e0 : (x != y) = true := by simpa using hxy
          clear HY HN
          go_wp2
          go_quiet (fail)
          go_wp2
          go_ret
          exact ⟨by rw [HM.out]; rfl, below_drewN hbel _⟩
      · have HT : Hid (decide (l = s) = true) := decide_eq_true (eqL_end hl hm (fun i hi => hsame i (by omega)))
        have hki : ¬ (k : Int) < (n : Int) := by omega
        clear hsame
        go_wp2
        go_ret
        exact ⟨by rw [HT.out]; rfl, hbel⟩
  · have HF : Hid (decide (l = s) = false) := decide_eq_false (fun h => hnm (by rw [← hl, ← hm, h]))
    have e0 : ((n : Int) != (m : Int)) = true := by simp; omega
    go_enter Tryz.func8, Tryz.ntmps8
    go_wp2
    go_ret
    exact ⟨by rw [HF.out]; rfl, Below.refl _ _⟩
end Go.Proofs.YtknbndebfickpaaGreatDoor

namespace Go.Proofs.YtknbndebfickpaaGreatDoor
open Go.RowKit

theorem infoB : (Tryz.prog.info? 5).map (fun i => (i.zero, i.size, i.bytes)) = some (some (.int .u8 0), 1, 1) := by kernel_rfl
end Go.Proofs.YtknbndebfickpaaGreatDoor

namespace Go.Proofs.YtknbndebfickpaaGreatDoor
open Go.RowKit

end Go.Proofs.YtknbndebfickpaaGreatDoor

namespace Go.Proofs.YtknbndebfickpaaGreatDoor
open Go.RowKit

/-- All bytes are 1 to 127. -/
def plain (l : List Nat) : Bool := l.all fun b => decide (1 ≤ b ∧ b ≤ 127)
theorem plain_bad {l : List Nat} {k : Nat} (h : k < l.length) (hb : ¬ (1 ≤ nth l k ∧ nth l k ≤ 127)) : plain l = false := by
  unfold plain
  rw [List.all_eq_false]
  exact ⟨l[k], List.getElem_mem h, by rw [nth_get h] at hb; simpa using hb⟩
theorem plain_step {l : List Nat} {k : Nat} (h : k < l.length) (h0 : plain (l.take k) = true) (hb : 1 ≤ nth l k ∧ nth l k ≤ 127) : plain (l.take (k + 1)) = true := by
  rw [take_snoc l k h]
  unfold plain at *
  rw [List.all_append, h0]
  simpa using hb

set_option maxHeartbeats 800000 in
set_option maxRecDepth 100000 in
theorem isPlain_any (a : Option Addr) (n cap : Nat) (l : List Nat) (w : World) (hl : l.length = n) (hr : Rd w a l) (hn : n ≤ 1048576) :
    Calls Tryz.prog 13 #[.slice a n cap] w fun e w' => e = .returned (.bool (plain l)) ∧ w' = w := by
  go_enter Tryz.func13, Tryz.ntmps13
  go_wp2
  go_loop [7] (fun i => ∃ k : Nat, k ≤ n ∧ i = .int .i64 k ∧ Hid (plain (l.take k) = true)) (fun i => n - (intOf i).toNat)
  case atStart => exact ⟨0, Nat.zero_le _, rfl, rfl⟩
  case round =>
    obtain ⟨k, hk, rfl, hp⟩ := hrel
    by_cases hkn : k < n
    · obtain ⟨b, off, rfl, hblt, hcell⟩ := hr.at_ (by omega)
      have hc := hcell k (by omega)
      clear hcell
      by_cases h1 : nth l k < 1
      · have hbad : Hid (plain l = false) := plain_bad (l := l) (k := k) (by omega) (by omega)
        have h1' : ((nth l k : Nat) : Int) < 1 := by omega
        go_wp2
        go_ret
        exact ⟨by rw [hbad.out]; rfl, rfl⟩
      · by_cases h2 : 127 < nth l k
        · have hbad : Hid (plain l = false) := plain_bad (l := l) (k := k) (by omega) (by omega)
          have h1' : ¬ ((nth l k : Nat) : Int) < 1 := by omega
          have h2' : (127 : Int) < ((nth l k : Nat) : Int) := by omega
          go_wp2
          go_ret
          exact ⟨by rw [hbad.out]; rfl, rfl⟩
        · have hok : Hid (plain (l.take (k + 1)) = true) := plain_step (by omega) hp.out (by omega)
          have h1' : ¬ ((nth l k : Nat) : Int) < 1 := by omega
          have h2' : ¬ (127 : Int) < ((nth l k : Nat) : Int) := by omega
          go_wp2
          go_round
          case rel => exact ⟨k + 1, by omega, by go_num, hok⟩
          case measure => simp [intOf]; omega
    · have hkk : k = n := by omega
      subst hkk
      have hall : Hid (plain l = true) := by have := hp.out; rw [← hl, List.take_length] at this; exact this
      go_wp2
      go_ret
      exact ⟨by rw [hall.out]; rfl, rfl⟩

end Go.Proofs.YtknbndebfickpaaGreatDoor
