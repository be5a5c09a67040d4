/- The program's IsPlain and the model's answer alike of every slice of at most 1048576 bytes: whether all bytes are 1 to 127. -/
import Derived.Test.YtkjnhcnbbojajaaGreatDoorMemFToOpnF
namespace Go.Proofs.YtkjnhcnbbojajaaGreatDoor
open Go.RowKit

/-- All bytes are 1 to 127. -/
def plain (l : List Nat) : Bool := l.all fun b => decide (1 ≤ b ∧ b ≤ 127)
theorem plain_bad {l : List Nat} {k : Nat} (h : k < l.length) (hb : ¬ (1 ≤ nth l k ∧ nth l k ≤ 127)) : plain l = false := by
  unfold plain
  rw [List.all_eq_false]
  exact ⟨l[k], List.getElem_mem h, by rw [nth_get h] at hb; simpa using hb⟩
theorem plain_step {l : List Nat} {k : Nat} (h : k < l.length) (h0 : plain (l.take k) = true) (hb : 1 ≤ nth l k ∧ nth l k ≤ 127) : plain (l.take (k + 1)) = true := by
  rw [take_snoc l k h]
  unfold plain at *
  rw [List.all_append, h0]
  simpa using hb

set_option maxHeartbeats 800000 in
set_option maxRecDepth 100000 in
theorem isPlain_any (a : Option Addr) (n cap : Nat) (l : List Nat) (w : World) (hl : l.length = n) (hr : Rd w a l) (hn : n ≤ 1048576) :
    Calls Tryz.prog 64 #[.slice a n cap] w fun e w' => e = .returned (.bool (plain l)) ∧ w' = w := by
  go_enter Tryz.func64, Tryz.ntmps64
  go_wp2
  go_loop [7] (fun i => ∃ k : Nat, k ≤ n ∧ i = .int .i64 k ∧ Hid (plain (l.take k) = true)) (fun i => n - (intOf i).toNat)
  case atStart => exact ⟨0, Nat.zero_le _, rfl, rfl⟩
  case round =>
    obtain ⟨k, hk, rfl, hp⟩ := hrel
    by_cases hkn : k < n
    · obtain ⟨b, off, rfl, hblt, hcell⟩ := hr.at_ (by omega)
      have hc := hcell k (by omega)
      clear hcell
      by_cases h1 : nth l k < 1
      · have hbad : Hid (plain l = false) := plain_bad (l := l) (k := k) (by omega) (by omega)
        have h1' : ((nth l k : Nat) : Int) < 1 := by omega
        go_wp2
        go_ret
        exact ⟨by rw [hbad.out]; rfl, rfl⟩
      · by_cases h2 : 127 < nth l k
        · have hbad : Hid (plain l = false) := plain_bad (l := l) (k := k) (by omega) (by omega)
          have h1' : ¬ ((nth l k : Nat) : Int) < 1 := by omega
          have h2' : (127 : Int) < ((nth l k : Nat) : Int) := by omega
          go_wp2
          go_ret
          exact ⟨by rw [hbad.out]; rfl, rfl⟩
        · have hok : Hid (plain (l.take (k + 1)) = true) := plain_step (by omega) hp.out (by omega)
          have h1' : ¬ ((nth l k : Nat) : Int) < 1 := by omega
          have h2' : ¬ (127 : Int) < ((nth l k : Nat) : Int) := by omega
          go_wp2
          go_round
          case rel => exact ⟨k + 1, by omega, by go_num, hok⟩
          case measure => simp [intOf]; omega
    · have hkk : k = n := by omega
      subst hkk
      have hall : Hid (plain l = true) := by have := hp.out; rw [← hl, List.take_length] at this; exact this
      go_wp2
      go_ret
      exact ⟨by rw [hall.out]; rfl, rfl⟩

end Go.Proofs.YtkjnhcnbbojajaaGreatDoor
