/- areAll, at each function that it is handed: whether each number is so; slices of at most 1048576 numbers. -/
import Derived.Test.YthmimalplpjghaaGreatDoorAppIToChs2
namespace Go.Proofs.YthmimalplpjghaaGreatDoor
open Go.RowKit

theorem all_bad {p : Int → Bool} {l : List Int} {k : Nat} (h : k < l.length) (hb : p (nthI l k) = false) : l.all p = false := by
  rw [List.all_eq_false]
  exact ⟨nthI l k, by rw [nthI_get h]; exact List.getElem_mem h, by rw [hb]; simp⟩
theorem all_step {p : Int → Bool} {l : List Int} {k : Nat} (h : k < l.length) (h0 : (l.take k).all p = true) (hb : p (nthI l k) = true) : (l.take (k + 1)).all p = true := by
  rw [take_snocI l k h, List.all_append, h0]
  simp [hb]
theorem all_end {p : Int → Bool} {l : List Int} {n : Nat} (hl : l.length = n) (h0 : (l.take n).all p = true) : l.all p = true := by
  rw [← hl, List.take_length] at h0
  exact h0
theorem nthI_mem {l : List Int} {k : Nat} (h : k < l.length) : nthI l k ∈ l := by rw [nthI_get h]; exact List.getElem_mem h


set_option maxHeartbeats 1600000 in
set_option maxRecDepth 100000 in
theorem areAll_char (a : Option Addr) (n cap : Nat) (l : List Int) (w : World) (hl : l.length = n) (hr : RdI w a l) (hn : n ≤ 1048576) :
    Calls Tryz.prog 186 #[.slice a n cap, .func (.func 187) #[] #[]] w fun e w' => e = .returned (.bool (l.all chr)) ∧ Below w.heap.size w w' := by
  go_enter Tryz.func186, Tryz.ntmps186
  go_wp2
  go_loopw [9] (fun v9 wr => ∃ k : Nat, k ≤ n ∧ v9 = .int .i64 k ∧ (l.take k).all chr = true ∧ Below w.heap.size w wr) (fun v9 _ => n - (intOf v9).toNat)
  case atStart => exact ⟨0, Nat.zero_le _, rfl, by simp, Below.refl _ _⟩
  case round =>
    obtain ⟨k, hk, rfl, hall, hbel⟩ := hrel
    by_cases hkn : k < n
    · obtain ⟨b, off, rfl, hblt, hcell⟩ := hr.at_ (by omega)
      have hc : wr.cell? ⟨b, off + k, none⟩ = some (.int .i64 (nthI l k)) := (hbel.cell (p := ⟨b, off + k, none⟩) hblt).trans (hcell k (by omega))
      have hmem : nthI l k ∈ l := nthI_mem (by omega)
      have HS : Hid (chr (nthI l k) = true → (l.take (k + 1)).all chr = true) := fun hb => all_step (by omega) hall hb
      have HF : Hid (chr (nthI l k) = false → l.all chr = false) := fun hb => all_bad (by omega) hb
      clear hcell hr hall
      generalize nthI l k = x at *
      cases hp : chr x with
      | true =>
        have hall' := HS.out hp
        go_wp2_with (first | (go_at_call 187; refine (isCharacter_any _ _).mono ?_; rintro e w' ⟨rfl, rfl⟩; rw [hp]))
        go_roundw
        case rel => exact ⟨k + 1, by omega, by go_num, hall', hbel⟩
        case measure => simp [intOf]; omega
      | false =>
        clear HS
        go_wp2_with (first | (go_at_call 187; refine (isCharacter_any _ _).mono ?_; rintro e w' ⟨rfl, rfl⟩; rw [hp]))
        go_ret
        exact ⟨by rw [HF.out hp]; rfl, hbel⟩
    · have hkk : k = n := by omega
      subst hkk
      have HA : Hid (l.all chr = true) := all_end hl hall
      go_wp2
      go_ret
      exact ⟨by rw [HA.out]; rfl, hbel⟩

def leB (m c : Int) : Bool := decide (c ≤ m)
theorem singleHas_le (m c : Int) (w : World) : Calls Tryz.prog 416 #[.agg #[.int .i64 m], .int .i64 c] w fun e w' => e = .returned (.bool (leB m c)) ∧ Below w.heap.size w w' := singleHas_any m c w
def cyB (c : Int) : Bool := decide (0 ≤ cyr c)
theorem cyrHas_cy (c : Int) (w : World) (hc : 0 ≤ c) : Calls Tryz.prog 419 #[.agg #[], .int .i64 c] w fun e w' => e = .returned (.bool (cyB c)) ∧ Below w.heap.size w w' := cyrHas_any c w hc
def anyB (_ : Int) : Bool := true
theorem utf8Has_b (c : Int) (w : World) : Calls Tryz.prog 422 #[.agg #[], .int .i64 c] w fun e w' => e = .returned (.bool (anyB c)) ∧ Below w.heap.size w w' := utf8Has_any c w
theorem utf16Has_b (c : Int) (w : World) : Calls Tryz.prog 425 #[.agg #[], .int .i64 c] w fun e w' => e = .returned (.bool (anyB c)) ∧ Below w.heap.size w w' := utf16Has_any c w

set_option maxHeartbeats 1600000 in
set_option maxRecDepth 100000 in
theorem areAll_single (a : Option Addr) (n cap : Nat) (l : List Int) (w : World) (hl : l.length = n) (hr : RdI w a l) (hn : n ≤ 1048576) (m : Int) :
    Calls Tryz.prog 186 #[.slice a n cap, .func (.method "loop.example/g00447/impl.has") #[.iface 276 (.agg #[.int .i64 m])] #[]] w fun e w' => e = .returned (.bool (l.all (leB m))) ∧ Below w.heap.size w w' := by
  go_enter Tryz.func186, Tryz.ntmps186
  go_wp2
  go_loopw [9] (fun v9 wr => ∃ k : Nat, k ≤ n ∧ v9 = .int .i64 k ∧ (l.take k).all (leB m) = true ∧ Below w.heap.size w wr) (fun v9 _ => n - (intOf v9).toNat)
  case atStart => exact ⟨0, Nat.zero_le _, rfl, by simp, Below.refl _ _⟩
  case round =>
    obtain ⟨k, hk, rfl, hall, hbel⟩ := hrel
    by_cases hkn : k < n
    · obtain ⟨b, off, rfl, hblt, hcell⟩ := hr.at_ (by omega)
      have hc : wr.cell? ⟨b, off + k, none⟩ = some (.int .i64 (nthI l k)) := (hbel.cell (p := ⟨b, off + k, none⟩) hblt).trans (hcell k (by omega))
      have hmem : nthI l k ∈ l := nthI_mem (by omega)
      have HS : Hid ((leB m) (nthI l k) = true → (l.take (k + 1)).all (leB m) = true) := fun hb => all_step (by omega) hall hb
      have HF : Hid ((leB m) (nthI l k) = false → l.all (leB m) = false) := fun hb => all_bad (by omega) hb
      clear hcell hr hall
      generalize nthI l k = x at *
      cases hp : (leB m) x with
      | true =>
        have hall' := HS.out hp
        go_wp2_with (first | (go_at_call 416; refine (singleHas_le m x _).mono ?_; rintro e w' ⟨rfl, hb⟩; rw [hp]))
        go_roundw
        case rel => exact ⟨k + 1, by omega, by go_num, hall', hbel.trans (hb.mono hbel.size)⟩
        case measure => simp [intOf]; omega
      | false =>
        clear HS
        go_wp2_with (first | (go_at_call 416; refine (singleHas_le m x _).mono ?_; rintro e w' ⟨rfl, hb⟩; rw [hp]))
        go_ret
        exact ⟨by rw [HF.out hp]; rfl, hbel.trans (hb.mono hbel.size)⟩
    · have hkk : k = n := by omega
      subst hkk
      have HA : Hid (l.all (leB m) = true) := all_end hl hall
      go_wp2
      go_ret
      exact ⟨by rw [HA.out]; rfl, hbel⟩

set_option maxHeartbeats 1600000 in
set_option maxRecDepth 100000 in
theorem areAll_cyr (a : Option Addr) (n cap : Nat) (l : List Int) (w : World) (hl : l.length = n) (hr : RdI w a l) (hn : n ≤ 1048576) (h0 : ∀ x ∈ l, 0 ≤ x) :
    Calls Tryz.prog 186 #[.slice a n cap, .func (.method "loop.example/g00447/impl.has") #[.iface 277 (.agg #[])] #[]] w fun e w' => e = .returned (.bool (l.all cyB)) ∧ Below w.heap.size w w' := by
  go_enter Tryz.func186, Tryz.ntmps186
  go_wp2
  go_loopw [9] (fun v9 wr => ∃ k : Nat, k ≤ n ∧ v9 = .int .i64 k ∧ (l.take k).all cyB = true ∧ Below w.heap.size w wr) (fun v9 _ => n - (intOf v9).toNat)
  case atStart => exact ⟨0, Nat.zero_le _, rfl, by simp, Below.refl _ _⟩
  case round =>
    obtain ⟨k, hk, rfl, hall, hbel⟩ := hrel
    by_cases hkn : k < n
    · obtain ⟨b, off, rfl, hblt, hcell⟩ := hr.at_ (by omega)
      have hc : wr.cell? ⟨b, off + k, none⟩ = some (.int .i64 (nthI l k)) := (hbel.cell (p := ⟨b, off + k, none⟩) hblt).trans (hcell k (by omega))
      have hmem : nthI l k ∈ l := nthI_mem (by omega)
      have HS : Hid (cyB (nthI l k) = true → (l.take (k + 1)).all cyB = true) := fun hb => all_step (by omega) hall hb
      have HF : Hid (cyB (nthI l k) = false → l.all cyB = false) := fun hb => all_bad (by omega) hb
      clear hcell hr hall
      generalize nthI l k = x at *
      cases hp : cyB x with
      | true =>
        have hall' := HS.out hp
        go_wp2_with (first | (go_at_call 419; refine (cyrHas_cy x _ (h0 _ hmem)).mono ?_; rintro e w' ⟨rfl, hb⟩; rw [hp]))
        go_roundw
        case rel => exact ⟨k + 1, by omega, by go_num, hall', hbel.trans (hb.mono hbel.size)⟩
        case measure => simp [intOf]; omega
      | false =>
        clear HS
        go_wp2_with (first | (go_at_call 419; refine (cyrHas_cy x _ (h0 _ hmem)).mono ?_; rintro e w' ⟨rfl, hb⟩; rw [hp]))
        go_ret
        exact ⟨by rw [HF.out hp]; rfl, hbel.trans (hb.mono hbel.size)⟩
    · have hkk : k = n := by omega
      subst hkk
      have HA : Hid (l.all cyB = true) := all_end hl hall
      go_wp2
      go_ret
      exact ⟨by rw [HA.out]; rfl, hbel⟩

set_option maxHeartbeats 1600000 in
set_option maxRecDepth 100000 in
theorem areAll_utf8 (a : Option Addr) (n cap : Nat) (l : List Int) (w : World) (hl : l.length = n) (hr : RdI w a l) (hn : n ≤ 1048576) :
    Calls Tryz.prog 186 #[.slice a n cap, .func (.method "loop.example/g00447/impl.has") #[.iface 278 (.agg #[])] #[]] w fun e w' => e = .returned (.bool (l.all anyB)) ∧ Below w.heap.size w w' := by
  go_enter Tryz.func186, Tryz.ntmps186
  go_wp2
  go_loopw [9] (fun v9 wr => ∃ k : Nat, k ≤ n ∧ v9 = .int .i64 k ∧ (l.take k).all anyB = true ∧ Below w.heap.size w wr) (fun v9 _ => n - (intOf v9).toNat)
  case atStart => exact ⟨0, Nat.zero_le _, rfl, by simp, Below.refl _ _⟩
  case round =>
    obtain ⟨k, hk, rfl, hall, hbel⟩ := hrel
    by_cases hkn : k < n
    · obtain ⟨b, off, rfl, hblt, hcell⟩ := hr.at_ (by omega)
      have hc : wr.cell? ⟨b, off + k, none⟩ = some (.int .i64 (nthI l k)) := (hbel.cell (p := ⟨b, off + k, none⟩) hblt).trans (hcell k (by omega))
      have hmem : nthI l k ∈ l := nthI_mem (by omega)
      have HS : Hid (anyB (nthI l k) = true → (l.take (k + 1)).all anyB = true) := fun hb => all_step (by omega) hall hb
      have HF : Hid (anyB (nthI l k) = false → l.all anyB = false) := fun hb => all_bad (by omega) hb
      clear hcell hr hall
      generalize nthI l k = x at *
      cases hp : anyB x with
      | true =>
        have hall' := HS.out hp
        go_wp2_with (first | (go_at_call 422; refine (utf8Has_b x _).mono ?_; rintro e w' ⟨rfl, hb⟩; rw [hp]))
        go_roundw
        case rel => exact ⟨k + 1, by omega, by go_num, hall', hbel.trans (hb.mono hbel.size)⟩
        case measure => simp [intOf]; omega
      | false =>
        clear HS
        go_wp2_with (first | (go_at_call 422; refine (utf8Has_b x _).mono ?_; rintro e w' ⟨rfl, hb⟩; rw [hp]))
        go_ret
        exact ⟨by rw [HF.out hp]; rfl, hbel.trans (hb.mono hbel.size)⟩
    · have hkk : k = n := by omega
      subst hkk
      have HA : Hid (l.all anyB = true) := all_end hl hall
      go_wp2
      go_ret
      exact ⟨by rw [HA.out]; rfl, hbel⟩

set_option maxHeartbeats 1600000 in
set_option maxRecDepth 100000 in
theorem areAll_utf16 (a : Option Addr) (n cap : Nat) (l : List Int) (w : World) (hl : l.length = n) (hr : RdI w a l) (hn : n ≤ 1048576) :
    Calls Tryz.prog 186 #[.slice a n cap, .func (.method "loop.example/g00447/impl.has") #[.iface 279 (.agg #[])] #[]] w fun e w' => e = .returned (.bool (l.all anyB)) ∧ Below w.heap.size w w' := by
  go_enter Tryz.func186, Tryz.ntmps186
  go_wp2
  go_loopw [9] (fun v9 wr => ∃ k : Nat, k ≤ n ∧ v9 = .int .i64 k ∧ (l.take k).all anyB = true ∧ Below w.heap.size w wr) (fun v9 _ => n - (intOf v9).toNat)
  case atStart => exact ⟨0, Nat.zero_le _, rfl, by simp, Below.refl _ _⟩
  case round =>
    obtain ⟨k, hk, rfl, hall, hbel⟩ := hrel
    by_cases hkn : k < n
    · obtain ⟨b, off, rfl, hblt, hcell⟩ := hr.at_ (by omega)
      have hc : wr.cell? ⟨b, off + k, none⟩ = some (.int .i64 (nthI l k)) := (hbel.cell (p := ⟨b, off + k, none⟩) hblt).trans (hcell k (by omega))
      have hmem : nthI l k ∈ l := nthI_mem (by omega)
      have HS : Hid (anyB (nthI l k) = true → (l.take (k + 1)).all anyB = true) := fun hb => all_step (by omega) hall hb
      have HF : Hid (anyB (nthI l k) = false → l.all anyB = false) := fun hb => all_bad (by omega) hb
      clear hcell hr hall
      generalize nthI l k = x at *
      cases hp : anyB x with
      | true =>
        have hall' := HS.out hp
        go_wp2_with (first | (go_at_call 425; refine (utf16Has_b x _).mono ?_; rintro e w' ⟨rfl, hb⟩; rw [hp]))
        go_roundw
        case rel => exact ⟨k + 1, by omega, by go_num, hall', hbel.trans (hb.mono hbel.size)⟩
        case measure => simp [intOf]; omega
      | false =>
        clear HS
        go_wp2_with (first | (go_at_call 425; refine (utf16Has_b x _).mono ?_; rintro e w' ⟨rfl, hb⟩; rw [hp]))
        go_ret
        exact ⟨by rw [HF.out hp]; rfl, hbel.trans (hb.mono hbel.size)⟩
    · have hkk : k = n := by omega
      subst hkk
      have HA : Hid (l.all anyB = true) := all_end hl hall
      go_wp2
      go_ret
      exact ⟨by rw [HA.out]; rfl, hbel⟩
end Go.Proofs.YthmimalplpjghaaGreatDoor
