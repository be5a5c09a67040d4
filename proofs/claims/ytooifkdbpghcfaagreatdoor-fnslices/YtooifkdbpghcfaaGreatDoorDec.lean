/- What a charset guesses at the beginning of some bytes, and bytes held against each other: the program's functions by plain functions. -/
import Derived.Test.YtooifkdbpghcfaaGreatDoorChsToTel2
import Derived.BigQuiet
import Derived.Deep.QuietTactic
namespace Go.Proofs.YtooifkdbpghcfaaGreatDoor
open Go.RowKit

theorem str_inj {a b : List Nat} (ha : IsB a) (hb : IsB b) : str a = str b ↔ a = b := by
  constructor
  · intro h
    have h1 : (a.map UInt8.ofNat) = (b.map UInt8.ofNat) := by
      have := congrArg (fun s => s.data.toList) h
      simpa [str] using this
    have h2 : ∀ l : List Nat, IsB l → (l.map UInt8.ofNat).map UInt8.toNat = l := fun l hl => by
      rw [List.map_map]
      conv => rhs; rw [← List.map_id l]
      apply List.map_congr_left
      intro x hx
      have := hl x hx
      simp only [Function.comp, UInt8.toNat_ofNat', id]
      omega
    rw [← h2 a ha, ← h2 b hb, h1]
  · intro h; rw [h]
theorem toList_str (l : List Nat) : (str l).toList = l.map UInt8.ofNat := by
  rw [ByteArray.toList_eq]; simp [str]
theorem bytesEqual_any (a b : Option Addr) (n m cap cap' : Nat) (l k : List Nat) (w : World) (hl : l.length = n) (hk : k.length = m) (hr : Rd w a l) (hs : Rd w b k) (hB : IsB l) (hC : IsB k) :
    Calls Tryz.prog 77 #[.slice a n cap, .slice b m cap'] w fun e w' => e = .returned (.bool (decide (l = k))) ∧ w = w' := by
  have h1 := fun c' => run_str (cap := c') hl hr
  have h2 := fun c' => run_str (cap := c') hk hs
  have h3 : decide (l = k) = ((str l).toList == (str k).toList) := by
    rw [Bool.eq_iff_iff, decide_eq_true_iff, beq_iff_eq, ← str_inj hB hC]
    constructor
    · intro h; rw [h]
    · intro h
      rw [toList_str, toList_str] at h
      unfold str; rw [h]
  rw [h3]
  clear h3
  go_enter Tryz.func77, Tryz.ntmps77
  go_wp2
  go_ret
  exact ⟨rfl, rfl⟩

/-- The character of a cyrillic byte. -/
def cyU (b : Nat) : Nat := if b = 253 then 167 else if b = 240 then 8470 else if b ≤ 160 ∨ b = 173 then b else b + 864


set_option maxHeartbeats 1600000 in
set_option maxRecDepth 100000 in
theorem singleGuess (m : Int) (a : Option Addr) (n cap : Nat) (l : List Nat) (w : World) (hl : l.length = n) (hr : Rd w a l) (hB : IsB l) (hn : 1 ≤ n) :
    Calls Tryz.prog 223 #[.agg #[.int .i64 m], .slice a n cap] w fun e w' => e = .returned (.tuple #[.int .i64 ((nth l 0 : Nat) : Int), .int .i64 1]) ∧ Below w.heap.size w w' := by
  obtain ⟨b, off, rfl, hlt, hc⟩ := hr.at_ (by omega)
  have hb0 : Below w.heap.size w (w.alloc (.cells #[.int .i64 m] 106)) := (Below.refl _ _).alloc (Nat.le_refl _) _
  have h0 : (w.alloc (.cells #[.int .i64 m] 106)).cell? ⟨b, off, none⟩ = some (.int .u8 (nth l 0 : Int)) := (hb0.cell (p := ⟨b, off, none⟩) hlt).trans (hc 0 (by omega))
  have x0 := nth_lt hB 0
  clear hc hr hB
  generalize nth l 0 = x at *
  have hn0 : ((n : Int) == 0) = false := by simp; omega
  go_enter Tryz.func223, Tryz.ntmps223
  go_wp2
  go_ret2
  exact ⟨rfl, hb0⟩

set_option maxHeartbeats 1600000 in
set_option maxRecDepth 100000 in
theorem cyrGuess_253 (a : Option Addr) (n cap : Nat) (l : List Nat) (w : World) (hl : l.length = n) (hr : Rd w a l) (hB : IsB l) (hn : 1 ≤ n) (hx : nth l 0 = 253) :
    Calls Tryz.prog 226 #[.agg #[], .slice a n cap] w fun e w' => e = .returned (.tuple #[.int .i64 (167), .int .i64 1]) ∧ Below w.heap.size w w' := by
  obtain ⟨b, off, rfl, hlt, hc⟩ := hr.at_ (by omega)
  have hb0 : Below w.heap.size w (w.alloc (.cells #[] 108)) := (Below.refl _ _).alloc (Nat.le_refl _) _
  have h0 : (w.alloc (.cells #[] 108)).cell? ⟨b, off, none⟩ = some (.int .u8 (nth l 0 : Int)) := (hb0.cell (p := ⟨b, off, none⟩) hlt).trans (hc 0 (by omega))
  have x0 := nth_lt hB 0
  clear hc hr hB
  generalize nth l 0 = x at *
  have hn0 : ((n : Int) == 0) = false := by simp; omega
  subst hx
  go_enter Tryz.func226, Tryz.ntmps226
  go_wp2
  go_ret2
  exact ⟨rfl, hb0⟩

set_option maxHeartbeats 1600000 in
set_option maxRecDepth 100000 in
theorem cyrGuess_240 (a : Option Addr) (n cap : Nat) (l : List Nat) (w : World) (hl : l.length = n) (hr : Rd w a l) (hB : IsB l) (hn : 1 ≤ n) (hx : nth l 0 = 240) :
    Calls Tryz.prog 226 #[.agg #[], .slice a n cap] w fun e w' => e = .returned (.tuple #[.int .i64 (8470), .int .i64 1]) ∧ Below w.heap.size w w' := by
  obtain ⟨b, off, rfl, hlt, hc⟩ := hr.at_ (by omega)
  have hb0 : Below w.heap.size w (w.alloc (.cells #[] 108)) := (Below.refl _ _).alloc (Nat.le_refl _) _
  have h0 : (w.alloc (.cells #[] 108)).cell? ⟨b, off, none⟩ = some (.int .u8 (nth l 0 : Int)) := (hb0.cell (p := ⟨b, off, none⟩) hlt).trans (hc 0 (by omega))
  have x0 := nth_lt hB 0
  clear hc hr hB
  generalize nth l 0 = x at *
  have hn0 : ((n : Int) == 0) = false := by simp; omega
  subst hx
  go_enter Tryz.func226, Tryz.ntmps226
  go_wp2
  go_ret2
  exact ⟨rfl, hb0⟩

set_option maxHeartbeats 1600000 in
set_option maxRecDepth 100000 in
theorem cyrGuess_173 (a : Option Addr) (n cap : Nat) (l : List Nat) (w : World) (hl : l.length = n) (hr : Rd w a l) (hB : IsB l) (hn : 1 ≤ n) (hx : nth l 0 = 173) :
    Calls Tryz.prog 226 #[.agg #[], .slice a n cap] w fun e w' => e = .returned (.tuple #[.int .i64 (173), .int .i64 1]) ∧ Below w.heap.size w w' := by
  obtain ⟨b, off, rfl, hlt, hc⟩ := hr.at_ (by omega)
  have hb0 : Below w.heap.size w (w.alloc (.cells #[] 108)) := (Below.refl _ _).alloc (Nat.le_refl _) _
  have h0 : (w.alloc (.cells #[] 108)).cell? ⟨b, off, none⟩ = some (.int .u8 (nth l 0 : Int)) := (hb0.cell (p := ⟨b, off, none⟩) hlt).trans (hc 0 (by omega))
  have x0 := nth_lt hB 0
  clear hc hr hB
  generalize nth l 0 = x at *
  have hn0 : ((n : Int) == 0) = false := by simp; omega
  subst hx
  go_enter Tryz.func226, Tryz.ntmps226
  go_wp2
  go_ret2
  exact ⟨rfl, hb0⟩

set_option maxHeartbeats 1600000 in
set_option maxRecDepth 100000 in
theorem cyrGuess_same (a : Option Addr) (n cap : Nat) (l : List Nat) (w : World) (hl : l.length = n) (hr : Rd w a l) (hB : IsB l) (hn : 1 ≤ n) (hx : nth l 0 ≤ 160) :
    Calls Tryz.prog 226 #[.agg #[], .slice a n cap] w fun e w' => e = .returned (.tuple #[.int .i64 ((nth l 0 : Nat) : Int), .int .i64 1]) ∧ Below w.heap.size w w' := by
  obtain ⟨b, off, rfl, hlt, hc⟩ := hr.at_ (by omega)
  have hb0 : Below w.heap.size w (w.alloc (.cells #[] 108)) := (Below.refl _ _).alloc (Nat.le_refl _) _
  have h0 : (w.alloc (.cells #[] 108)).cell? ⟨b, off, none⟩ = some (.int .u8 (nth l 0 : Int)) := (hb0.cell (p := ⟨b, off, none⟩) hlt).trans (hc 0 (by omega))
  have x0 := nth_lt hB 0
  clear hc hr hB
  generalize nth l 0 = x at *
  have hn0 : ((n : Int) == 0) = false := by simp; omega
  have e1 : ((x : Int) == 253) = false := by simp; omega
  have e2 : ((x : Int) == 240) = false := by simp; omega
  have e3 : (x : Int) ≤ 160 := by omega
  go_enter Tryz.func226, Tryz.ntmps226
  go_wp2
  go_ret2
  exact ⟨rfl, hb0⟩

set_option maxHeartbeats 1600000 in
set_option maxRecDepth 100000 in
theorem cyrGuess_far (a : Option Addr) (n cap : Nat) (l : List Nat) (w : World) (hl : l.length = n) (hr : Rd w a l) (hB : IsB l) (hn : 1 ≤ n) (hx : 160 < nth l 0 ∧ nth l 0 ≠ 173 ∧ nth l 0 ≠ 240 ∧ nth l 0 ≠ 253) :
    Calls Tryz.prog 226 #[.agg #[], .slice a n cap] w fun e w' => e = .returned (.tuple #[.int .i64 (((nth l 0 : Nat) : Int) + 864), .int .i64 1]) ∧ Below w.heap.size w w' := by
  obtain ⟨b, off, rfl, hlt, hc⟩ := hr.at_ (by omega)
  have hb0 : Below w.heap.size w (w.alloc (.cells #[] 108)) := (Below.refl _ _).alloc (Nat.le_refl _) _
  have h0 : (w.alloc (.cells #[] 108)).cell? ⟨b, off, none⟩ = some (.int .u8 (nth l 0 : Int)) := (hb0.cell (p := ⟨b, off, none⟩) hlt).trans (hc 0 (by omega))
  have x0 := nth_lt hB 0
  clear hc hr hB
  generalize nth l 0 = x at *
  have hn0 : ((n : Int) == 0) = false := by simp; omega
  have e1 : ((x : Int) == 253) = false := by simp; omega
  have e2 : ((x : Int) == 240) = false := by simp; omega
  have e3 : ¬ (x : Int) ≤ 160 := by omega
  have e4 : ((x : Int) == 173) = false := by simp; omega
  go_enter Tryz.func226, Tryz.ntmps226
  go_wp2
  go_ret2
  exact ⟨rfl, hb0⟩

set_option maxHeartbeats 1600000 in
set_option maxRecDepth 100000 in
theorem utf16Guess (a : Option Addr) (n cap : Nat) (l : List Nat) (w : World) (hl : l.length = n) (hr : Rd w a l) (hB : IsB l) (_hn : 1 ≤ n) (h2 : 2 ≤ n) :
    Calls Tryz.prog 232 #[.agg #[], .slice a n cap] w fun e w' => e = .returned (.tuple #[.int .i64 (((nth l 0 * 256 + nth l 1 : Nat) : Int)), .int .i64 2]) ∧ Below w.heap.size w w' := by
  obtain ⟨b, off, rfl, hlt, hc⟩ := hr.at_ (by omega)
  have hb0 : Below w.heap.size w (w.alloc (.cells #[] 110)) := (Below.refl _ _).alloc (Nat.le_refl _) _
  have h0 : (w.alloc (.cells #[] 110)).cell? ⟨b, off, none⟩ = some (.int .u8 (nth l 0 : Int)) := (hb0.cell (p := ⟨b, off, none⟩) hlt).trans (hc 0 (by omega))
  have x0 := nth_lt hB 0
  have h1 : (w.alloc (.cells #[] 110)).cell? ⟨b, off + 1, none⟩ = some (.int .u8 (nth l 1 : Int)) := (hb0.cell (p := ⟨b, off + 1, none⟩) hlt).trans (hc 1 (by omega))
  have x1 := nth_lt hB 1
  clear hc hr hB
  generalize nth l 0 = x at *
  generalize nth l 1 = y at *
  have hn0 : ¬ (n : Int) < 2 := by omega
  have e1 := i64_or_nat (x * 256) y (by omega) (by omega)
  rw [show x * 256 = x * 2 ^ 8 from rfl, or_add x y 8 (by omega), show x * 2 ^ 8 = x * 256 from rfl] at e1
  rw [show ((x * 256 : Nat) : Int) = (x : Int) * 256 by omega] at e1
  obtain ⟨q, hq⟩ : ∃ q, q = x * 256 + y := ⟨_, rfl⟩
  rw [← hq] at e1 ⊢
  clear hq
  go_enter Tryz.func232, Tryz.ntmps232
  go_wp2
  go_quiet (fail)
  go_wp2
  go_ret2
  exact ⟨rfl, below_drewN hb0 _⟩

set_option maxHeartbeats 1600000 in
set_option maxRecDepth 100000 in
theorem utf8Guess_1 (a : Option Addr) (n cap : Nat) (l : List Nat) (w : World) (hl : l.length = n) (hr : Rd w a l) (hB : IsB l) (hn : 1 ≤ n) (h2 : nth l 0 < 128) :
    Calls Tryz.prog 229 #[.agg #[], .slice a n cap] w fun e w' => e = .returned (.tuple #[.int .i64 ((nth l 0 : Nat) : Int), .int .i64 1]) ∧ Below w.heap.size w w' := by
  obtain ⟨b, off, rfl, hlt, hc⟩ := hr.at_ (by omega)
  have hb0 : Below w.heap.size w (w.alloc (.cells #[] 109)) := (Below.refl _ _).alloc (Nat.le_refl _) _
  have h0 : (w.alloc (.cells #[] 109)).cell? ⟨b, off, none⟩ = some (.int .u8 (nth l 0 : Int)) := (hb0.cell (p := ⟨b, off, none⟩) hlt).trans (hc 0 (by omega))
  have x0 := nth_lt hB 0
  clear hc hr hB
  generalize nth l 0 = x at *
  have hn0 : (1 : Int) ≤ (n : Int) := by omega
  have e1 : (x : Int) < 128 := by omega
  go_enter Tryz.func229, Tryz.ntmps229
  go_wp2
  go_ret2
  exact ⟨rfl, hb0⟩

set_option maxHeartbeats 1600000 in
set_option maxRecDepth 100000 in
theorem utf8Guess_2 (a : Option Addr) (n cap : Nat) (l : List Nat) (w : World) (hl : l.length = n) (hr : Rd w a l) (hB : IsB l) (_hn : 1 ≤ n) (h2 : 2 ≤ n) (h3 : 128 ≤ nth l 0) (h4 : nth l 0 < 224) :
    Calls Tryz.prog 229 #[.agg #[], .slice a n cap] w fun e w' => e = .returned (.tuple #[.int .i64 (((nth l 0 % 32 * 64 + nth l 1 % 64 : Nat) : Int)), .int .i64 2]) ∧ Below w.heap.size w w' := by
  obtain ⟨b, off, rfl, hlt, hc⟩ := hr.at_ (by omega)
  have hb0 : Below w.heap.size w (w.alloc (.cells #[] 109)) := (Below.refl _ _).alloc (Nat.le_refl _) _
  have h0 : (w.alloc (.cells #[] 109)).cell? ⟨b, off, none⟩ = some (.int .u8 (nth l 0 : Int)) := (hb0.cell (p := ⟨b, off, none⟩) hlt).trans (hc 0 (by omega))
  have x0 := nth_lt hB 0
  have h1 : (w.alloc (.cells #[] 109)).cell? ⟨b, off + 1, none⟩ = some (.int .u8 (nth l 1 : Int)) := (hb0.cell (p := ⟨b, off + 1, none⟩) hlt).trans (hc 1 (by omega))
  have x1 := nth_lt hB 1
  clear hc hr hB
  generalize nth l 0 = x at *
  generalize nth l 1 = y at *
  have hn0 : (1 : Int) ≤ (n : Int) := by omega
  have hn2 : (2 : Int) ≤ (n : Int) := by omega
  have g1 : ¬ (x : Int) < 128 := by omega
  have g2 : (x : Int) < 224 := by omega
  obtain ⟨X, hX⟩ : ∃ X, X = x % 32 := ⟨_, rfl⟩
  obtain ⟨Y, hY⟩ : ∃ Y, Y = y % 64 := ⟨_, rfl⟩
  have hX' : X < 32 := by omega
  have hY' : Y < 64 := by omega
  have e0 : (x : Int) % 32 = (X : Int) := by omega
  have e1 : (y : Int) % 64 = (Y : Int) := by omega
  have e2 := i64_or_nat (X * 64) Y (by omega) (by omega)
  rw [show X * 64 = X * 2 ^ 6 from rfl, or_add X Y 6 (by omega), show X * 2 ^ 6 = X * 64 from rfl] at e2
  rw [show ((X * 64 : Nat) : Int) = (X : Int) * 64 by omega] at e2
  obtain ⟨q, hq⟩ : ∃ q, q = X * 64 + Y := ⟨_, rfl⟩
  have hg : x % 32 * 64 + y % 64 = q := by omega
  rw [hg]
  rw [← hq] at e2
  clear hq hg hX hY
  go_enter Tryz.func229, Tryz.ntmps229
  go_wp2
  go_quiet (fail)
  go_wp2
  go_ret2
  exact ⟨rfl, below_drewN hb0 _⟩

set_option maxHeartbeats 1600000 in
set_option maxRecDepth 100000 in
theorem utf8Guess_3 (a : Option Addr) (n cap : Nat) (l : List Nat) (w : World) (hl : l.length = n) (hr : Rd w a l) (hB : IsB l) (_hn : 1 ≤ n) (h2 : 3 ≤ n) (h3 : 224 ≤ nth l 0) :
    Calls Tryz.prog 229 #[.agg #[], .slice a n cap] w fun e w' => e = .returned (.tuple #[.int .i64 (((nth l 0 % 16 * 4096 + nth l 1 % 64 * 64 + nth l 2 % 64 : Nat) : Int)), .int .i64 3]) ∧ Below w.heap.size w w' := by
  obtain ⟨b, off, rfl, hlt, hc⟩ := hr.at_ (by omega)
  have hb0 : Below w.heap.size w (w.alloc (.cells #[] 109)) := (Below.refl _ _).alloc (Nat.le_refl _) _
  have h0 : (w.alloc (.cells #[] 109)).cell? ⟨b, off, none⟩ = some (.int .u8 (nth l 0 : Int)) := (hb0.cell (p := ⟨b, off, none⟩) hlt).trans (hc 0 (by omega))
  have x0 := nth_lt hB 0
  have h1 : (w.alloc (.cells #[] 109)).cell? ⟨b, off + 1, none⟩ = some (.int .u8 (nth l 1 : Int)) := (hb0.cell (p := ⟨b, off + 1, none⟩) hlt).trans (hc 1 (by omega))
  have x1 := nth_lt hB 1
  have h2 : (w.alloc (.cells #[] 109)).cell? ⟨b, off + 2, none⟩ = some (.int .u8 (nth l 2 : Int)) := (hb0.cell (p := ⟨b, off + 2, none⟩) hlt).trans (hc 2 (by omega))
  have x2 := nth_lt hB 2
  clear hc hr hB
  generalize nth l 0 = x at *
  generalize nth l 1 = y at *
  generalize nth l 2 = z at *
  have hn0 : (1 : Int) ≤ (n : Int) := by omega
  have hn2 : (2 : Int) ≤ (n : Int) := by omega
  have hn3 : (3 : Int) ≤ (n : Int) := by omega
  have g1 : ¬ (x : Int) < 128 := by omega
  have g2 : ¬ (x : Int) < 224 := by omega
  obtain ⟨X, hX⟩ : ∃ X, X = x % 16 := ⟨_, rfl⟩
  obtain ⟨Y, hY⟩ : ∃ Y, Y = y % 64 := ⟨_, rfl⟩
  obtain ⟨Z, hZ⟩ : ∃ Z, Z = z % 64 := ⟨_, rfl⟩
  have hX' : X < 16 := by omega
  have hY' : Y < 64 := by omega
  have hZ' : Z < 64 := by omega
  have e0 : (x : Int) % 16 = (X : Int) := by omega
  have e1 : (y : Int) % 64 = (Y : Int) := by omega
  have e3 : (z : Int) % 64 = (Z : Int) := by omega
  have e2 := i64_or_nat (X * 4096) (Y * 64) (by omega) (by omega)
  rw [show X * 4096 = X * 2 ^ 12 from rfl, or_add X (Y * 64) 12 (by omega), show X * 2 ^ 12 = X * 4096 from rfl] at e2
  obtain ⟨p, hp⟩ : ∃ p, p = X * 64 + Y := ⟨_, rfl⟩
  rw [show X * 4096 + Y * 64 = p * 64 by omega, show ((X * 4096 : Nat) : Int) = (X : Int) * 4096 by omega, show ((Y * 64 : Nat) : Int) = (Y : Int) * 64 by omega, show ((p * 64 : Nat) : Int) = (p : Int) * 64 by omega] at e2
  have e4 := i64_or_nat (p * 64) Z (by omega) (by omega)
  rw [show p * 64 = p * 2 ^ 6 from rfl, or_add p Z 6 (by omega), show p * 2 ^ 6 = p * 64 from rfl] at e4
  rw [show ((p * 64 : Nat) : Int) = (p : Int) * 64 by omega] at e4
  obtain ⟨q, hq⟩ : ∃ q, q = p * 64 + Z := ⟨_, rfl⟩
  have hg : x % 16 * 4096 + y % 64 * 64 + z % 64 = q := by omega
  rw [hg]
  rw [← hq] at e4
  clear hq hg hX hY hZ hp
  go_enter Tryz.func229, Tryz.ntmps229
  go_wp2
  go_quiet (fail)
  go_wp2
  go_ret2
  exact ⟨rfl, below_drewN hb0 _⟩

set_option maxHeartbeats 1600000 in
set_option maxRecDepth 100000 in
theorem utf8Guess_no (a : Option Addr) (n cap : Nat) (l : List Nat) (w : World) (hl : l.length = n) (hr : Rd w a l) (hB : IsB l) (hn : 1 ≤ n) (h2 : 128 ≤ nth l 0) (h3 : n = 1 ∨ n = 2 ∧ 224 ≤ nth l 0) :
    Calls Tryz.prog 229 #[.agg #[], .slice a n cap] w fun e w' => e = .returned (.tuple #[.int .i64 (0), .int .i64 0]) ∧ Below w.heap.size w w' := by
  obtain ⟨b, off, rfl, hlt, hc⟩ := hr.at_ (by omega)
  have hb0 : Below w.heap.size w (w.alloc (.cells #[] 109)) := (Below.refl _ _).alloc (Nat.le_refl _) _
  have h0 : (w.alloc (.cells #[] 109)).cell? ⟨b, off, none⟩ = some (.int .u8 (nth l 0 : Int)) := (hb0.cell (p := ⟨b, off, none⟩) hlt).trans (hc 0 (by omega))
  have x0 := nth_lt hB 0
  clear hc hr hB
  generalize nth l 0 = x at *
  have hn0 : (1 : Int) ≤ (n : Int) := by omega
  have g1 : ¬ (x : Int) < 128 := by omega
  have g2 : ¬ ((2 : Int) ≤ (n : Int) ∧ (x : Int) < 224) := by omega
  have hn3 : ¬ (3 : Int) ≤ (n : Int) := by omega
  go_enter Tryz.func229, Tryz.ntmps229
  go_wp2
  all_goals (go_ret2; exact ⟨rfl, hb0⟩)
end Go.Proofs.YtooifkdbpghcfaaGreatDoor
