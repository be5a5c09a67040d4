/- tellAll, at each charset's function: the bytes of all characters, one behind the other; at most 400 characters that the charset has. -/
import Derived.Test.YthmimalplpjghaaGreatDoorTel
namespace Go.Proofs.YthmimalplpjghaaGreatDoor
open Go.RowKit

theorem flat_step {f : Int → List Nat} {l : List Int} {k : Nat} (h : k < l.length) : (l.take (k + 1)).flatMap f = (l.take k).flatMap f ++ f (nthI l k) := by
  rw [take_snocI l k h, List.flatMap_append]; simp
theorem flat_end {f : Int → List Nat} {l : List Int} {n : Nat} (h : l.length = n) : (l.take n).flatMap f = l.flatMap f := by rw [← h, List.take_length]
theorem u8L_len (k : Nat) : 1 ≤ (u8L k).length ∧ (u8L k).length ≤ 3 := by
  unfold u8L; split
  · simp
  · split <;> simp
theorem tellL_len (cs c : Int) : 1 ≤ (tellL cs c).length ∧ (tellL cs c).length ≤ 3 := by
  unfold tellL; split
  · simp
  · split
    · exact u8L_len _
    · split <;> simp
theorem flat_len (cs : Int) : ∀ l : List Int, l.length ≤ (l.flatMap (tellL cs)).length ∧ (l.flatMap (tellL cs)).length ≤ 3 * l.length
  | [] => by simp
  | c :: l => by
    have h1 := tellL_len cs c
    have h2 := flat_len cs l
    rw [List.flatMap_cons, List.length_append, List.length_cons]
    omega
theorem tellL_1 (c : Int) : tellL 1 c = [c.toNat] := by simp [tellL]
theorem tellL_2 (c : Int) : tellL 2 c = [c.toNat] := by simp [tellL]
theorem tellL_3 (c : Int) : tellL 3 c = [(cyr c).toNat] := by simp [tellL]
theorem tellL_4 (c : Int) : tellL 4 c = u8L c.toNat := by simp [tellL]
theorem tellL_5 (c : Int) : tellL 5 c = [c.toNat / 256, c.toNat % 256] := by simp [tellL]


set_option maxHeartbeats 1600000 in
set_option maxRecDepth 100000 in
theorem tellAll_1 (a : Option Addr) (n cap : Nat) (l : List Int) (w : World) (hl : l.length = n) (hr : RdI w a l) (hn : n ≤ 400) (hg : ∀ x ∈ l, 0 ≤ x ∧ x < 256) :
    Calls Tryz.prog 220 #[.slice a n cap, .func (.method "loop.example/g00447/impl.tell") #[.iface 276 (.agg #[.int .i64 127])] #[]] w fun e w' => Laid w.heap.size (l.flatMap (tellL 1)) w e w' := by
  go_enter Tryz.func220, Tryz.ntmps220
  go_wp2
  go_loopw [5, 10] (fun v i wr => ∃ k : Nat, k ≤ n ∧ i = .int .i64 k ∧ Own wr w.heap.size v ((l.take k).flatMap (tellL 1)) ∧ Below w.heap.size w wr) (fun _ i _ => n - (intOf i).toNat)
  case atStart => exact ⟨0, Nat.zero_le _, rfl, Own.nil _ _, Below.refl _ _⟩
  case round =>
    obtain ⟨k, hk, rfl, hown, hbel⟩ := hrel
    by_cases hkn : k < n
    · obtain ⟨b, off, rfl, hblt, hcell⟩ := hr.at_ (by omega)
      have hc : wr.cell? ⟨b, off + k, none⟩ = some (.int .i64 (nthI l k)) := (hbel.cell (p := ⟨b, off + k, none⟩) hblt).trans (hcell k (by omega))
      have hx := hg _ (nthI_mem (l := l) (k := k) (by omega))
      have HF : Hid ((l.take (k + 1)).flatMap (tellL 1) = (l.take k).flatMap (tellL 1) ++ tellL 1 (nthI l k)) := flat_step (by omega)
      have hlen : ((l.take k).flatMap (tellL 1)).length ≤ 1048576 := by
        have := (flat_len 1 (l.take k)).2
        rw [List.length_take] at this
        omega
      clear hcell hr
      generalize nthI l k = x at *
      obtain ⟨y, rfl⟩ : ∃ y : Nat, x = (y : Int) := Int.eq_ofNat_of_zero_le (by omega)
      rw [tellL_1, Int.toNat_natCast] at HF
      generalize (l.take k).flatMap (tellL 1) = out at *
      have hsz := hbel.size
      go_wp2_with (first | (go_at_call 417; refine (singleTell_any 127 y w.heap.size _ out _ hown hsz hlen (by omega)).mono ?_; rintro e w' ⟨v', rfl, hown', hb'⟩))
      rw [← HF.out] at hown'
      go_roundw
      case rel => exact ⟨k + 1, by omega, by go_num, hown', hbel.trans hb'⟩
      case measure => simp [intOf]; omega
    · have hkk : k = n := by omega
      subst hkk
      rw [flat_end hl] at hown
      go_wp2
      go_ret
      exact ⟨_, rfl, hown, hbel⟩

set_option maxHeartbeats 1600000 in
set_option maxRecDepth 100000 in
theorem tellAll_2 (a : Option Addr) (n cap : Nat) (l : List Int) (w : World) (hl : l.length = n) (hr : RdI w a l) (hn : n ≤ 400) (hg : ∀ x ∈ l, 0 ≤ x ∧ x < 256) :
    Calls Tryz.prog 220 #[.slice a n cap, .func (.method "loop.example/g00447/impl.tell") #[.iface 276 (.agg #[.int .i64 255])] #[]] w fun e w' => Laid w.heap.size (l.flatMap (tellL 2)) w e w' := by
  go_enter Tryz.func220, Tryz.ntmps220
  go_wp2
  go_loopw [5, 10] (fun v i wr => ∃ k : Nat, k ≤ n ∧ i = .int .i64 k ∧ Own wr w.heap.size v ((l.take k).flatMap (tellL 2)) ∧ Below w.heap.size w wr) (fun _ i _ => n - (intOf i).toNat)
  case atStart => exact ⟨0, Nat.zero_le _, rfl, Own.nil _ _, Below.refl _ _⟩
  case round =>
    obtain ⟨k, hk, rfl, hown, hbel⟩ := hrel
    by_cases hkn : k < n
    · obtain ⟨b, off, rfl, hblt, hcell⟩ := hr.at_ (by omega)
      have hc : wr.cell? ⟨b, off + k, none⟩ = some (.int .i64 (nthI l k)) := (hbel.cell (p := ⟨b, off + k, none⟩) hblt).trans (hcell k (by omega))
      have hx := hg _ (nthI_mem (l := l) (k := k) (by omega))
      have HF : Hid ((l.take (k + 1)).flatMap (tellL 2) = (l.take k).flatMap (tellL 2) ++ tellL 2 (nthI l k)) := flat_step (by omega)
      have hlen : ((l.take k).flatMap (tellL 2)).length ≤ 1048576 := by
        have := (flat_len 2 (l.take k)).2
        rw [List.length_take] at this
        omega
      clear hcell hr
      generalize nthI l k = x at *
      obtain ⟨y, rfl⟩ : ∃ y : Nat, x = (y : Int) := Int.eq_ofNat_of_zero_le (by omega)
      rw [tellL_2, Int.toNat_natCast] at HF
      generalize (l.take k).flatMap (tellL 2) = out at *
      have hsz := hbel.size
      go_wp2_with (first | (go_at_call 417; refine (singleTell_any 255 y w.heap.size _ out _ hown hsz hlen (by omega)).mono ?_; rintro e w' ⟨v', rfl, hown', hb'⟩))
      rw [← HF.out] at hown'
      go_roundw
      case rel => exact ⟨k + 1, by omega, by go_num, hown', hbel.trans hb'⟩
      case measure => simp [intOf]; omega
    · have hkk : k = n := by omega
      subst hkk
      rw [flat_end hl] at hown
      go_wp2
      go_ret
      exact ⟨_, rfl, hown, hbel⟩

set_option maxHeartbeats 1600000 in
set_option maxRecDepth 100000 in
theorem tellAll_3 (a : Option Addr) (n cap : Nat) (l : List Int) (w : World) (hl : l.length = n) (hr : RdI w a l) (hn : n ≤ 400) (hg : ∀ x ∈ l, 0 ≤ x ∧ 0 ≤ cyr x) :
    Calls Tryz.prog 220 #[.slice a n cap, .func (.method "loop.example/g00447/impl.tell") #[.iface 277 (.agg #[])] #[]] w fun e w' => Laid w.heap.size (l.flatMap (tellL 3)) w e w' := by
  go_enter Tryz.func220, Tryz.ntmps220
  go_wp2
  go_loopw [5, 10] (fun v i wr => ∃ k : Nat, k ≤ n ∧ i = .int .i64 k ∧ Own wr w.heap.size v ((l.take k).flatMap (tellL 3)) ∧ Below w.heap.size w wr) (fun _ i _ => n - (intOf i).toNat)
  case atStart => exact ⟨0, Nat.zero_le _, rfl, Own.nil _ _, Below.refl _ _⟩
  case round =>
    obtain ⟨k, hk, rfl, hown, hbel⟩ := hrel
    by_cases hkn : k < n
    · obtain ⟨b, off, rfl, hblt, hcell⟩ := hr.at_ (by omega)
      have hc : wr.cell? ⟨b, off + k, none⟩ = some (.int .i64 (nthI l k)) := (hbel.cell (p := ⟨b, off + k, none⟩) hblt).trans (hcell k (by omega))
      have hx := hg _ (nthI_mem (l := l) (k := k) (by omega))
      have HF : Hid ((l.take (k + 1)).flatMap (tellL 3) = (l.take k).flatMap (tellL 3) ++ tellL 3 (nthI l k)) := flat_step (by omega)
      have hlen : ((l.take k).flatMap (tellL 3)).length ≤ 1048576 := by
        have := (flat_len 3 (l.take k)).2
        rw [List.length_take] at this
        omega
      clear hcell hr
      generalize nthI l k = x at *
      obtain ⟨y, rfl⟩ : ∃ y : Nat, x = (y : Int) := Int.eq_ofNat_of_zero_le (by omega)
      rw [tellL_3] at HF
      generalize (l.take k).flatMap (tellL 3) = out at *
      have hsz := hbel.size
      go_wp2_with (first | (go_at_call 420; refine (cyrTell_any y w.heap.size _ out _ hown hsz hlen hx.2).mono ?_; rintro e w' ⟨v', rfl, hown', hb'⟩))
      rw [← HF.out] at hown'
      go_roundw
      case rel => exact ⟨k + 1, by omega, by go_num, hown', hbel.trans hb'⟩
      case measure => simp [intOf]; omega
    · have hkk : k = n := by omega
      subst hkk
      rw [flat_end hl] at hown
      go_wp2
      go_ret
      exact ⟨_, rfl, hown, hbel⟩

set_option maxHeartbeats 1600000 in
set_option maxRecDepth 100000 in
theorem tellAll_4 (a : Option Addr) (n cap : Nat) (l : List Int) (w : World) (hl : l.length = n) (hr : RdI w a l) (hn : n ≤ 400) (hg : ∀ x ∈ l, 0 ≤ x ∧ x < 65536) :
    Calls Tryz.prog 220 #[.slice a n cap, .func (.method "loop.example/g00447/impl.tell") #[.iface 278 (.agg #[])] #[]] w fun e w' => Laid w.heap.size (l.flatMap (tellL 4)) w e w' := by
  go_enter Tryz.func220, Tryz.ntmps220
  go_wp2
  go_loopw [5, 10] (fun v i wr => ∃ k : Nat, k ≤ n ∧ i = .int .i64 k ∧ Own wr w.heap.size v ((l.take k).flatMap (tellL 4)) ∧ Below w.heap.size w wr) (fun _ i _ => n - (intOf i).toNat)
  case atStart => exact ⟨0, Nat.zero_le _, rfl, Own.nil _ _, Below.refl _ _⟩
  case round =>
    obtain ⟨k, hk, rfl, hown, hbel⟩ := hrel
    by_cases hkn : k < n
    · obtain ⟨b, off, rfl, hblt, hcell⟩ := hr.at_ (by omega)
      have hc : wr.cell? ⟨b, off + k, none⟩ = some (.int .i64 (nthI l k)) := (hbel.cell (p := ⟨b, off + k, none⟩) hblt).trans (hcell k (by omega))
      have hx := hg _ (nthI_mem (l := l) (k := k) (by omega))
      have HF : Hid ((l.take (k + 1)).flatMap (tellL 4) = (l.take k).flatMap (tellL 4) ++ tellL 4 (nthI l k)) := flat_step (by omega)
      have hlen : ((l.take k).flatMap (tellL 4)).length ≤ 1048576 := by
        have := (flat_len 4 (l.take k)).2
        rw [List.length_take] at this
        omega
      clear hcell hr
      generalize nthI l k = x at *
      obtain ⟨y, rfl⟩ : ∃ y : Nat, x = (y : Int) := Int.eq_ofNat_of_zero_le (by omega)
      rw [tellL_4, Int.toNat_natCast] at HF
      generalize (l.take k).flatMap (tellL 4) = out at *
      have hsz := hbel.size
      go_wp2_with (first | (go_at_call 423; refine (utf8Tell_any y w.heap.size _ out _ hown hsz hlen (by omega)).mono ?_; rintro e w' ⟨v', rfl, hown', hb'⟩))
      rw [← HF.out] at hown'
      go_roundw
      case rel => exact ⟨k + 1, by omega, by go_num, hown', hbel.trans hb'⟩
      case measure => simp [intOf]; omega
    · have hkk : k = n := by omega
      subst hkk
      rw [flat_end hl] at hown
      go_wp2
      go_ret
      exact ⟨_, rfl, hown, hbel⟩

set_option maxHeartbeats 1600000 in
set_option maxRecDepth 100000 in
theorem tellAll_5 (a : Option Addr) (n cap : Nat) (l : List Int) (w : World) (hl : l.length = n) (hr : RdI w a l) (hn : n ≤ 400) (hg : ∀ x ∈ l, 0 ≤ x ∧ x < 65536) :
    Calls Tryz.prog 220 #[.slice a n cap, .func (.method "loop.example/g00447/impl.tell") #[.iface 279 (.agg #[])] #[]] w fun e w' => Laid w.heap.size (l.flatMap (tellL 5)) w e w' := by
  go_enter Tryz.func220, Tryz.ntmps220
  go_wp2
  go_loopw [5, 10] (fun v i wr => ∃ k : Nat, k ≤ n ∧ i = .int .i64 k ∧ Own wr w.heap.size v ((l.take k).flatMap (tellL 5)) ∧ Below w.heap.size w wr) (fun _ i _ => n - (intOf i).toNat)
  case atStart => exact ⟨0, Nat.zero_le _, rfl, Own.nil _ _, Below.refl _ _⟩
  case round =>
    obtain ⟨k, hk, rfl, hown, hbel⟩ := hrel
    by_cases hkn : k < n
    · obtain ⟨b, off, rfl, hblt, hcell⟩ := hr.at_ (by omega)
      have hc : wr.cell? ⟨b, off + k, none⟩ = some (.int .i64 (nthI l k)) := (hbel.cell (p := ⟨b, off + k, none⟩) hblt).trans (hcell k (by omega))
      have hx := hg _ (nthI_mem (l := l) (k := k) (by omega))
      have HF : Hid ((l.take (k + 1)).flatMap (tellL 5) = (l.take k).flatMap (tellL 5) ++ tellL 5 (nthI l k)) := flat_step (by omega)
      have hlen : ((l.take k).flatMap (tellL 5)).length ≤ 1048576 := by
        have := (flat_len 5 (l.take k)).2
        rw [List.length_take] at this
        omega
      clear hcell hr
      generalize nthI l k = x at *
      obtain ⟨y, rfl⟩ : ∃ y : Nat, x = (y : Int) := Int.eq_ofNat_of_zero_le (by omega)
      rw [tellL_5, Int.toNat_natCast] at HF
      generalize (l.take k).flatMap (tellL 5) = out at *
      have hsz := hbel.size
      go_wp2_with (first | (go_at_call 426; refine (utf16Tell_any y w.heap.size _ out _ hown hsz hlen (by omega)).mono ?_; rintro e w' ⟨v', rfl, hown', hb'⟩))
      rw [← HF.out] at hown'
      go_roundw
      case rel => exact ⟨k + 1, by omega, by go_num, hown', hbel.trans hb'⟩
      case measure => simp [intOf]; omega
    · have hkk : k = n := by omega
      subst hkk
      rw [flat_end hl] at hown
      go_wp2
      go_ret
      exact ⟨_, rfl, hown, hbel⟩
end Go.Proofs.YthmimalplpjghaaGreatDoor
