/- The name of a mailbox: the program's and the model's. -/
import Derived.Test.YtaiificlempeaaaMsb
namespace Go.Proofs.Ytaiificlempeaaa
open Go.RowKit

/-- A small letter. -/
def smB (c : Nat) : Bool := decide (97 ≤ c ∧ c ≤ 122)
/-- A name that may be. -/
def bnOk (t : List Nat) : Bool := t.all smB && decide (1 ≤ t.length ∧ t.length ≤ 8)
theorem allS_step {p : Nat → Bool} {t : List Nat} {k : Nat} (h : k < t.length) (h0 : (t.take k).all p = true) (hb : p (nth t k) = true) : (t.take (k + 1)).all p = true := by
  rw [take_snoc t k h, List.all_append, h0]
  simp [hb]

theorem allS_bad {p : Nat → Bool} {t : List Nat} {k : Nat} (h : k < t.length) (hb : p (nth t k) = false) : t.all p = false := by
  rw [List.all_eq_false]
  exact ⟨nth t k, by rw [nth_get h]; exact List.getElem_mem h, by rw [hb]; simp⟩
set_option maxHeartbeats 400000 in
theorem isSmallLetter_any (c : Nat) (w : World) (hc : c < 256) : Calls Try.prog 49 #[.int .u8 (c : Int)] w fun e w' => e = .returned (.bool (smB c)) ∧ w = w' := by
  have HM : Hid (smB c = decide (97 ≤ c ∧ c ≤ 122)) := rfl
  generalize smB c = r at *
  by_cases h1 : 97 ≤ c
  · have h1' : (97 : Int) ≤ (c : Int) := by omega
    by_cases h2 : c ≤ 122
    · have h2' : (c : Int) ≤ 122 := by omega
      have HR : Hid (r = true) := HM.out.trans (decide_eq_true ⟨h1, h2⟩)
      clear HM
      go_enter Try.func49, Try.ntmps49
      go_wp2
      go_ret
      exact ⟨by rw [HR.out]; rfl, rfl⟩
    · have h2' : ¬ (c : Int) ≤ 122 := by omega
      have HR : Hid (r = false) := HM.out.trans (decide_eq_false (by omega))
      clear HM
      go_enter Try.func49, Try.ntmps49
      go_wp2
      go_ret
      exact ⟨by rw [HR.out]; rfl, rfl⟩
  · have h1' : ¬ (97 : Int) ≤ (c : Int) := by omega
    have HR : Hid (r = false) := HM.out.trans (decide_eq_false (by omega))
    clear HM
    go_enter Try.func49, Try.ntmps49
    go_wp2
    go_ret
    exact ⟨by rw [HR.out]; rfl, rfl⟩

set_option maxHeartbeats 1600000 in
set_option maxRecDepth 100000 in
theorem areBytes_small (t : List Nat) (n : Nat) (w : World) (hl : t.length = n) (hB : IsB t) (hn : n ≤ 1048576) :
    Calls Try.prog 46 #[.string (str t), .func (.func 49) #[] #[]] w fun e w' => e = .returned (.bool (t.all smB)) ∧ w = w' := by
  have hsz : (str t).size = n := by rw [str_size, hl]
  have HL : Hid (t.length = n) := hl
  clear hl
  go_enter Try.func46, Try.ntmps46
  go_wp2
  go_loop [8] (fun v => ∃ k : Nat, k ≤ n ∧ v = .int .i64 k ∧ (t.take k).all smB = true) (fun v => n - (intOf v).toNat)
  case atStart => exact ⟨0, Nat.zero_le _, rfl, by simp⟩
  case round =>
    obtain ⟨k, hk, rfl, hall⟩ := hrel
    by_cases hkn : k < n
    · have hki : (k : Int) < (n : Int) := by omega
      have g0 := str_get hB (i := k) (by rw [hsz]; exact hkn)
      have HY : Hid (smB (nth t k) = true → (t.take (k + 1)).all smB = true) := fun h => allS_step (by have := HL.out; omega) hall h
      have HN : Hid (smB (nth t k) = false → t.all smB = false) := fun h => allS_bad (by have := HL.out; omega) h
      have hx := nth_lt hB k
      have HC : Hid (∀ w, Calls Try.prog 49 #[.int .u8 (nth t k : Int)] w fun e w' => e = .returned (.bool (smB (nth t k))) ∧ w = w') := fun w => isSmallLetter_any (nth t k) w hx
      generalize hbv : smB (nth t k) = bv at *
      clear hbv hall
      generalize nth t k = x at *
      cases bv with
      | true =>
        have HM : Hid (_) := HY.out rfl
        clear HY HN
        go_wp2_with fail
        refine (HC.out _).mono ?_
        rintro e w' ⟨rfl, rfl⟩
        go_wp2
        go_round
        case rel => exact ⟨k + 1, by omega, by go_num, HM.out⟩
        case measure => simp [intOf]; omega
      | false =>
        have HM : Hid (_) := HN.out rfl
        clear HY HN
        go_wp2_with fail
        refine (HC.out _).mono ?_
        rintro e w' ⟨rfl, rfl⟩
        go_wp2
        go_ret
        exact ⟨by rw [HM.out]; rfl, rfl⟩
    · have hki : ¬ (k : Int) < (n : Int) := by omega
      have HM : Hid (t.all smB = true) := by
        show _ = _
        rw [show k = t.length by have := HL.out; omega, List.take_length] at hall
        exact hall
      clear hall
      go_wp2
      go_ret
      exact ⟨by rw [HM.out]; rfl, rfl⟩

/-- A text's bytes. -/
def txB (s : ByteArray) : List Nat := s.data.toList.map UInt8.toNat
theorem txB_str {t : List Nat} (hB : IsB t) : txB (str t) = t := by
  unfold txB str
  simp only [List.map_map]
  refine List.ext_getElem (by simp) (fun i h1 h2 => ?_)
  simp only [List.getElem_map, Function.comp]
  have := hB _ (List.getElem_mem h2)
  simp [Nat.mod_eq_of_lt this]
end Go.Proofs.Ytaiificlempeaaa
