/- What a charset guesses at the beginning of some bytes, and bytes held against each other: the program's functions by plain functions · The model's l2Bytes and l2Encode: the bytes of a character that a charset has, and of all characters, or a code; at most 400 characters · CodesFault, the program's and the model's, at every slice of at most 1048576 numbers: both by one plain function. -/
import Derived.Test.YtooifkdbpghcfaaGreatDoorTelToTel2
import Derived.BigQuiet
import Derived.Deep.QuietTactic
import Derived.Test.YtooifkdbpghcfaaGreatDoorCsoToAll
namespace Go.Proofs.YtooifkdbpghcfaaGreatDoor
open Go.RowKit

theorem str_inj {a b : List Nat} (ha : IsB a) (hb : IsB b) : str a = str b ↔ a = b := by
  constructor
  · intro h
    have h1 : (a.map UInt8.ofNat) = (b.map UInt8.ofNat) := by
      have := congrArg (fun s => s.data.toList) h
      simpa [str] using this
    have h2 : ∀ l : List Nat, IsB l → (l.map UInt8.ofNat).map UInt8.toNat = l := fun l hl => by
      rw [List.map_map]
      conv => rhs; rw [← List.map_id l]
      apply List.map_congr_left
      intro x hx
      have := hl x hx
      simp only [Function.comp, UInt8.toNat_ofNat', id]
      omega
    rw [← h2 a ha, ← h2 b hb, h1]
  · intro h; rw [h]
theorem toList_str (l : List Nat) : (str l).toList = l.map UInt8.ofNat := by
  rw [ByteArray.toList_eq]; simp [str]
theorem bytesEqual_any (a b : Option Addr) (n m cap cap' : Nat) (l k : List Nat) (w : World) (hl : l.length = n) (hk : k.length = m) (hr : Rd w a l) (hs : Rd w b k) (hB : IsB l) (hC : IsB k) :
    Calls Tryz.prog 77 #[.slice a n cap, .slice b m cap'] w fun e w' => e = .returned (.bool (decide (l = k))) ∧ w = w' := by
  have h1 := fun c' => run_str (cap := c') hl hr
  have h2 := fun c' => run_str (cap := c') hk hs
  have h3 : decide (l = k) = ((str l).toList == (str k).toList) := by
    rw [Bool.eq_iff_iff, decide_eq_true_iff, beq_iff_eq, ← str_inj hB hC]
    constructor
    · intro h; rw [h]
    · intro h
      rw [toList_str, toList_str] at h
      unfold str; rw [h]
  rw [h3]
  clear h3
  go_enter Tryz.func77, Tryz.ntmps77
  go_wp2
  go_ret
  exact ⟨rfl, rfl⟩

/-- The character of a cyrillic byte. -/
def cyU (b : Nat) : Nat := if b = 253 then 167 else if b = 240 then 8470 else if b ≤ 160 ∨ b = 173 then b else b + 864


set_option maxHeartbeats 1600000 in
set_option maxRecDepth 100000 in
theorem singleGuess (m : Int) (a : Option Addr) (n cap : Nat) (l : List Nat) (w : World) (hl : l.length = n) (hr : Rd w a l) (hB : IsB l) (hn : 1 ≤ n) :
    Calls Tryz.prog 223 #[.agg #[.int .i64 m], .slice a n cap] w fun e w' => e = .returned (.tuple #[.int .i64 ((nth l 0 : Nat) : Int), .int .i64 1]) ∧ Below w.heap.size w w' := by
  obtain ⟨b, off, rfl, hlt, hc⟩ := hr.at_ (by omega)
  have hb0 : Below w.heap.size w (w.alloc (.cells #[.int .i64 m] 106)) := (Below.refl _ _).alloc (Nat.le_refl _) _
  have h0 : (w.alloc (.cells #[.int .i64 m] 106)).cell? ⟨b, off, none⟩ = some (.int .u8 (nth l 0 : Int)) := (hb0.cell (p := ⟨b, off, none⟩) hlt).trans (hc 0 (by omega))
  have x0 := nth_lt hB 0
  clear hc hr hB
  generalize nth l 0 = x at *
  have hn0 : ((n : Int) == 0) = false := by simp; omega
  go_enter Tryz.func223, Tryz.ntmps223
  go_wp2
  go_ret2
  exact ⟨rfl, hb0⟩

set_option maxHeartbeats 1600000 in
set_option maxRecDepth 100000 in
theorem cyrGuess_253 (a : Option Addr) (n cap : Nat) (l : List Nat) (w : World) (hl : l.length = n) (hr : Rd w a l) (hB : IsB l) (hn : 1 ≤ n) (hx : nth l 0 = 253) :
    Calls Tryz.prog 226 #[.agg #[], .slice a n cap] w fun e w' => e = .returned (.tuple #[.int .i64 (167), .int .i64 1]) ∧ Below w.heap.size w w' := by
  obtain ⟨b, off, rfl, hlt, hc⟩ := hr.at_ (by omega)
  have hb0 : Below w.heap.size w (w.alloc (.cells #[] 108)) := (Below.refl _ _).alloc (Nat.le_refl _) _
  have h0 : (w.alloc (.cells #[] 108)).cell? ⟨b, off, none⟩ = some (.int .u8 (nth l 0 : Int)) := (hb0.cell (p := ⟨b, off, none⟩) hlt).trans (hc 0 (by omega))
  have x0 := nth_lt hB 0
  clear hc hr hB
  generalize nth l 0 = x at *
  have hn0 : ((n : Int) == 0) = false := by simp; omega
  subst hx
  go_enter Tryz.func226, Tryz.ntmps226
  go_wp2
  go_ret2
  exact ⟨rfl, hb0⟩

set_option maxHeartbeats 1600000 in
set_option maxRecDepth 100000 in
theorem cyrGuess_240 (a : Option Addr) (n cap : Nat) (l : List Nat) (w : World) (hl : l.length = n) (hr : Rd w a l) (hB : IsB l) (hn : 1 ≤ n) (hx : nth l 0 = 240) :
    Calls Tryz.prog 226 #[.agg #[], .slice a n cap] w fun e w' => e = .returned (.tuple #[.int .i64 (8470), .int .i64 1]) ∧ Below w.heap.size w w' := by
  obtain ⟨b, off, rfl, hlt, hc⟩ := hr.at_ (by omega)
  have hb0 : Below w.heap.size w (w.alloc (.cells #[] 108)) := (Below.refl _ _).alloc (Nat.le_refl _) _
  have h0 : (w.alloc (.cells #[] 108)).cell? ⟨b, off, none⟩ = some (.int .u8 (nth l 0 : Int)) := (hb0.cell (p := ⟨b, off, none⟩) hlt).trans (hc 0 (by omega))
  have x0 := nth_lt hB 0
  clear hc hr hB
  generalize nth l 0 = x at *
  have hn0 : ((n : Int) == 0) = false := by simp; omega
  subst hx
  go_enter Tryz.func226, Tryz.ntmps226
  go_wp2
  go_ret2
  exact ⟨rfl, hb0⟩

set_option maxHeartbeats 1600000 in
set_option maxRecDepth 100000 in
theorem cyrGuess_173 (a : Option Addr) (n cap : Nat) (l : List Nat) (w : World) (hl : l.length = n) (hr : Rd w a l) (hB : IsB l) (hn : 1 ≤ n) (hx : nth l 0 = 173) :
    Calls Tryz.prog 226 #[.agg #[], .slice a n cap] w fun e w' => e = .returned (.tuple #[.int .i64 (173), .int .i64 1]) ∧ Below w.heap.size w w' := by
  obtain ⟨b, off, rfl, hlt, hc⟩ := hr.at_ (by omega)
  have hb0 : Below w.heap.size w (w.alloc (.cells #[] 108)) := (Below.refl _ _).alloc (Nat.le_refl _) _
  have h0 : (w.alloc (.cells #[] 108)).cell? ⟨b, off, none⟩ = some (.int .u8 (nth l 0 : Int)) := (hb0.cell (p := ⟨b, off, none⟩) hlt).trans (hc 0 (by omega))
  have x0 := nth_lt hB 0
  clear hc hr hB
  generalize nth l 0 = x at *
  have hn0 : ((n : Int) == 0) = false := by simp; omega
  subst hx
  go_enter Tryz.func226, Tryz.ntmps226
  go_wp2
  go_ret2
  exact ⟨rfl, hb0⟩

set_option maxHeartbeats 1600000 in
set_option maxRecDepth 100000 in
theorem cyrGuess_same (a : Option Addr) (n cap : Nat) (l : List Nat) (w : World) (hl : l.length = n) (hr : Rd w a l) (hB : IsB l) (hn : 1 ≤ n) (hx : nth l 0 ≤ 160) :
    Calls Tryz.prog 226 #[.agg #[], .slice a n cap] w fun e w' => e = .returned (.tuple #[.int .i64 ((nth l 0 : Nat) : Int), .int .i64 1]) ∧ Below w.heap.size w w' := by
  obtain ⟨b, off, rfl, hlt, hc⟩ := hr.at_ (by omega)
  have hb0 : Below w.heap.size w (w.alloc (.cells #[] 108)) := (Below.refl _ _).alloc (Nat.le_refl _) _
  have h0 : (w.alloc (.cells #[] 108)).cell? ⟨b, off, none⟩ = some (.int .u8 (nth l 0 : Int)) := (hb0.cell (p := ⟨b, off, none⟩) hlt).trans (hc 0 (by omega))
  have x0 := nth_lt hB 0
  clear hc hr hB
  generalize nth l 0 = x at *
  have hn0 : ((n : Int) == 0) = false := by simp; omega
  have e1 : ((x : Int) == 253) = false := by simp; omega
  have e2 : ((x : Int) == 240) = false := by simp; omega
  have e3 : (x : Int) ≤ 160 := by omega
  go_enter Tryz.func226, Tryz.ntmps226
  go_wp2
  go_ret2
  exact ⟨rfl, hb0⟩

set_option maxHeartbeats 1600000 in
set_option maxRecDepth 100000 in
theorem cyrGuess_far (a : Option Addr) (n cap : Nat) (l : List Nat) (w : World) (hl : l.length = n) (hr : Rd w a l) (hB : IsB l) (hn : 1 ≤ n) (hx : 160 < nth l 0 ∧ nth l 0 ≠ 173 ∧ nth l 0 ≠ 240 ∧ nth l 0 ≠ 253) :
    Calls Tryz.prog 226 #[.agg #[], .slice a n cap] w fun e w' => e = .returned (.tuple #[.int .i64 (((nth l 0 : Nat) : Int) + 864), .int .i64 1]) ∧ Below w.heap.size w w' := by
  obtain ⟨b, off, rfl, hlt, hc⟩ := hr.at_ (by omega)
  have hb0 : Below w.heap.size w (w.alloc (.cells #[] 108)) := (Below.refl _ _).alloc (Nat.le_refl _) _
  have h0 : (w.alloc (.cells #[] 108)).cell? ⟨b, off, none⟩ = some (.int .u8 (nth l 0 : Int)) := (hb0.cell (p := ⟨b, off, none⟩) hlt).trans (hc 0 (by omega))
  have x0 := nth_lt hB 0
  clear hc hr hB
  generalize nth l 0 = x at *
  have hn0 : ((n : Int) == 0) = false := by simp; omega
  have e1 : ((x : Int) == 253) = false := by simp; omega
  have e2 : ((x : Int) == 240) = false := by simp; omega
  have e3 : ¬ (x : Int) ≤ 160 := by omega
  have e4 : ((x : Int) == 173) = false := by simp; omega
  go_enter Tryz.func226, Tryz.ntmps226
  go_wp2
  go_ret2
  exact ⟨rfl, hb0⟩

set_option maxHeartbeats 1600000 in
set_option maxRecDepth 100000 in
theorem utf16Guess (a : Option Addr) (n cap : Nat) (l : List Nat) (w : World) (hl : l.length = n) (hr : Rd w a l) (hB : IsB l) (_hn : 1 ≤ n) (h2 : 2 ≤ n) :
    Calls Tryz.prog 232 #[.agg #[], .slice a n cap] w fun e w' => e = .returned (.tuple #[.int .i64 (((nth l 0 * 256 + nth l 1 : Nat) : Int)), .int .i64 2]) ∧ Below w.heap.size w w' := by
  obtain ⟨b, off, rfl, hlt, hc⟩ := hr.at_ (by omega)
  have hb0 : Below w.heap.size w (w.alloc (.cells #[] 110)) := (Below.refl _ _).alloc (Nat.le_refl _) _
  have h0 : (w.alloc (.cells #[] 110)).cell? ⟨b, off, none⟩ = some (.int .u8 (nth l 0 : Int)) := (hb0.cell (p := ⟨b, off, none⟩) hlt).trans (hc 0 (by omega))
  have x0 := nth_lt hB 0
  have h1 : (w.alloc (.cells #[] 110)).cell? ⟨b, off + 1, none⟩ = some (.int .u8 (nth l 1 : Int)) := (hb0.cell (p := ⟨b, off + 1, none⟩) hlt).trans (hc 1 (by omega))
  have x1 := nth_lt hB 1
  clear hc hr hB
  generalize nth l 0 = x at *
  generalize nth l 1 = y at *
  have hn0 : ¬ (n : Int) < 2 := by omega
  have e1 := i64_or_nat (x * 256) y (by omega) (by omega)
  rw [show x * 256 = x * 2 ^ 8 from rfl, or_add x y 8 (by omega), show x * 2 ^ 8 = x * 256 from rfl] at e1
  rw [show ((x * 256 : Nat) : Int) = (x : Int) * 256 by omega] at e1
  obtain ⟨q, hq⟩ : ∃ q, q = x * 256 + y := ⟨_, rfl⟩
  rw [← hq] at e1 ⊢
  clear hq
  go_enter Tryz.func232, Tryz.ntmps232
  go_wp2
  go_quiet (fail)
  go_wp2
  go_ret2
  exact ⟨rfl, below_drewN hb0 _⟩

set_option maxHeartbeats 1600000 in
set_option maxRecDepth 100000 in
theorem utf8Guess_1 (a : Option Addr) (n cap : Nat) (l : List Nat) (w : World) (hl : l.length = n) (hr : Rd w a l) (hB : IsB l) (hn : 1 ≤ n) (h2 : nth l 0 < 128) :
    Calls Tryz.prog 229 #[.agg #[], .slice a n cap] w fun e w' => e = .returned (.tuple #[.int .i64 ((nth l 0 : Nat) : Int), .int .i64 1]) ∧ Below w.heap.size w w' := by
  obtain ⟨b, off, rfl, hlt, hc⟩ := hr.at_ (by omega)
  have hb0 : Below w.heap.size w (w.alloc (.cells #[] 109)) := (Below.refl _ _).alloc (Nat.le_refl _) _
  have h0 : (w.alloc (.cells #[] 109)).cell? ⟨b, off, none⟩ = some (.int .u8 (nth l 0 : Int)) := (hb0.cell (p := ⟨b, off, none⟩) hlt).trans (hc 0 (by omega))
  have x0 := nth_lt hB 0
  clear hc hr hB
  generalize nth l 0 = x at *
  have hn0 : (1 : Int) ≤ (n : Int) := by omega
  have e1 : (x : Int) < 128 := by omega
  go_enter Tryz.func229, Tryz.ntmps229
  go_wp2
  go_ret2
  exact ⟨rfl, hb0⟩

set_option maxHeartbeats 1600000 in
set_option maxRecDepth 100000 in
theorem utf8Guess_2 (a : Option Addr) (n cap : Nat) (l : List Nat) (w : World) (hl : l.length = n) (hr : Rd w a l) (hB : IsB l) (_hn : 1 ≤ n) (h2 : 2 ≤ n) (h3 : 128 ≤ nth l 0) (h4 : nth l 0 < 224) :
    Calls Tryz.prog 229 #[.agg #[], .slice a n cap] w fun e w' => e = .returned (.tuple #[.int .i64 (((nth l 0 % 32 * 64 + nth l 1 % 64 : Nat) : Int)), .int .i64 2]) ∧ Below w.heap.size w w' := by
  obtain ⟨b, off, rfl, hlt, hc⟩ := hr.at_ (by omega)
  have hb0 : Below w.heap.size w (w.alloc (.cells #[] 109)) := (Below.refl _ _).alloc (Nat.le_refl _) _
  have h0 : (w.alloc (.cells #[] 109)).cell? ⟨b, off, none⟩ = some (.int .u8 (nth l 0 : Int)) := (hb0.cell (p := ⟨b, off, none⟩) hlt).trans (hc 0 (by omega))
  have x0 := nth_lt hB 0
  have h1 : (w.alloc (.cells #[] 109)).cell? ⟨b, off + 1, none⟩ = some (.int .u8 (nth l 1 : Int)) := (hb0.cell (p := ⟨b, off + 1, none⟩) hlt).trans (hc 1 (by omega))
  have x1 := nth_lt hB 1
  clear hc hr hB
  generalize nth l 0 = x at *
  generalize nth l 1 = y at *
  have hn0 : (1 : Int) ≤ (n : Int) := by omega
  have hn2 : (2 : Int) ≤ (n : Int) := by omega
  have g1 : ¬ (x : Int) < 128 := by omega
  have g2 : (x : Int) < 224 := by omega
  obtain ⟨X, hX⟩ : ∃ X, X = x % 32 := ⟨_, rfl⟩
  obtain ⟨Y, hY⟩ : ∃ Y, Y = y % 64 := ⟨_, rfl⟩
  have hX' : X < 32 := by omega
  have hY' : Y < 64 := by omega
  have e0 : (x : Int) % 32 = (X : Int) := by omega
  have e1 : (y : Int) % 64 = (Y : Int) := by omega
  have e2 := i64_or_nat (X * 64) Y (by omega) (by omega)
  rw [show X * 64 = X * 2 ^ 6 from rfl, or_add X Y 6 (by omega), show X * 2 ^ 6 = X * 64 from rfl] at e2
  rw [show ((X * 64 : Nat) : Int) = (X : Int) * 64 by omega] at e2
  obtain ⟨q, hq⟩ : ∃ q, q = X * 64 + Y := ⟨_, rfl⟩
  have hg : x % 32 * 64 + y % 64 = q := by omega
  rw [hg]
  rw [← hq] at e2
  clear hq hg hX hY
  go_enter Tryz.func229, Tryz.ntmps229
  go_wp2
  go_quiet (fail)
  go_wp2
  go_ret2
  exact ⟨rfl, below_drewN hb0 _⟩

set_option maxHeartbeats 1600000 in
set_option maxRecDepth 100000 in
theorem utf8Guess_3 (a : Option Addr) (n cap : Nat) (l : List Nat) (w : World) (hl : l.length = n) (hr : Rd w a l) (hB : IsB l) (_hn : 1 ≤ n) (h2 : 3 ≤ n) (h3 : 224 ≤ nth l 0) :
    Calls Tryz.prog 229 #[.agg #[], .slice a n cap] w fun e w' => e = .returned (.tuple #[.int .i64 (((nth l 0 % 16 * 4096 + nth l 1 % 64 * 64 + nth l 2 % 64 : Nat) : Int)), .int .i64 3]) ∧ Below w.heap.size w w' := by
  obtain ⟨b, off, rfl, hlt, hc⟩ := hr.at_ (by omega)
  have hb0 : Below w.heap.size w (w.alloc (.cells #[] 109)) := (Below.refl _ _).alloc (Nat.le_refl _) _
  have h0 : (w.alloc (.cells #[] 109)).cell? ⟨b, off, none⟩ = some (.int .u8 (nth l 0 : Int)) := (hb0.cell (p := ⟨b, off, none⟩) hlt).trans (hc 0 (by omega))
  have x0 := nth_lt hB 0
  have h1 : (w.alloc (.cells #[] 109)).cell? ⟨b, off + 1, none⟩ = some (.int .u8 (nth l 1 : Int)) := (hb0.cell (p := ⟨b, off + 1, none⟩) hlt).trans (hc 1 (by omega))
  have x1 := nth_lt hB 1
  have h2 : (w.alloc (.cells #[] 109)).cell? ⟨b, off + 2, none⟩ = some (.int .u8 (nth l 2 : Int)) := (hb0.cell (p := ⟨b, off + 2, none⟩) hlt).trans (hc 2 (by omega))
  have x2 := nth_lt hB 2
  clear hc hr hB
  generalize nth l 0 = x at *
  generalize nth l 1 = y at *
  generalize nth l 2 = z at *
  have hn0 : (1 : Int) ≤ (n : Int) := by omega
  have hn2 : (2 : Int) ≤ (n : Int) := by omega
  have hn3 : (3 : Int) ≤ (n : Int) := by omega
  have g1 : ¬ (x : Int) < 128 := by omega
  have g2 : ¬ (x : Int) < 224 := by omega
  obtain ⟨X, hX⟩ : ∃ X, X = x % 16 := ⟨_, rfl⟩
  obtain ⟨Y, hY⟩ : ∃ Y, Y = y % 64 := ⟨_, rfl⟩
  obtain ⟨Z, hZ⟩ : ∃ Z, Z = z % 64 := ⟨_, rfl⟩
  have hX' : X < 16 := by omega
  have hY' : Y < 64 := by omega
  have hZ' : Z < 64 := by omega
  have e0 : (x : Int) % 16 = (X : Int) := by omega
  have e1 : (y : Int) % 64 = (Y : Int) := by omega
  have e3 : (z : Int) % 64 = (Z : Int) := by omega
  have e2 := i64_or_nat (X * 4096) (Y * 64) (by omega) (by omega)
  rw [show X * 4096 = X * 2 ^ 12 from rfl, or_add X (Y * 64) 12 (by omega), show X * 2 ^ 12 = X * 4096 from rfl] at e2
  obtain ⟨p, hp⟩ : ∃ p, p = X * 64 + Y := ⟨_, rfl⟩
  rw [show X * 4096 + Y * 64 = p * 64 by omega, show ((X * 4096 : Nat) : Int) = (X : Int) * 4096 by omega, show ((Y * 64 : Nat) : Int) = (Y : Int) * 64 by omega, show ((p * 64 : Nat) : Int) = (p : Int) * 64 by omega] at e2
  have e4 := i64_or_nat (p * 64) Z (by omega) (by omega)
  rw [show p * 64 = p * 2 ^ 6 from rfl, or_add p Z 6 (by omega), show p * 2 ^ 6 = p * 64 from rfl] at e4
  rw [show ((p * 64 : Nat) : Int) = (p : Int) * 64 by omega] at e4
  obtain ⟨q, hq⟩ : ∃ q, q = p * 64 + Z := ⟨_, rfl⟩
  have hg : x % 16 * 4096 + y % 64 * 64 + z % 64 = q := by omega
  rw [hg]
  rw [← hq] at e4
  clear hq hg hX hY hZ hp
  go_enter Tryz.func229, Tryz.ntmps229
  go_wp2
  go_quiet (fail)
  go_wp2
  go_ret2
  exact ⟨rfl, below_drewN hb0 _⟩

set_option maxHeartbeats 1600000 in
set_option maxRecDepth 100000 in
theorem utf8Guess_no (a : Option Addr) (n cap : Nat) (l : List Nat) (w : World) (hl : l.length = n) (hr : Rd w a l) (hB : IsB l) (hn : 1 ≤ n) (h2 : 128 ≤ nth l 0) (h3 : n = 1 ∨ n = 2 ∧ 224 ≤ nth l 0) :
    Calls Tryz.prog 229 #[.agg #[], .slice a n cap] w fun e w' => e = .returned (.tuple #[.int .i64 (0), .int .i64 0]) ∧ Below w.heap.size w w' := by
  obtain ⟨b, off, rfl, hlt, hc⟩ := hr.at_ (by omega)
  have hb0 : Below w.heap.size w (w.alloc (.cells #[] 109)) := (Below.refl _ _).alloc (Nat.le_refl _) _
  have h0 : (w.alloc (.cells #[] 109)).cell? ⟨b, off, none⟩ = some (.int .u8 (nth l 0 : Int)) := (hb0.cell (p := ⟨b, off, none⟩) hlt).trans (hc 0 (by omega))
  have x0 := nth_lt hB 0
  clear hc hr hB
  generalize nth l 0 = x at *
  have hn0 : (1 : Int) ≤ (n : Int) := by omega
  have g1 : ¬ (x : Int) < 128 := by omega
  have g2 : ¬ ((2 : Int) ≤ (n : Int) ∧ (x : Int) < 224) := by omega
  have hn3 : ¬ (3 : Int) ≤ (n : Int) := by omega
  go_enter Tryz.func229, Tryz.ntmps229
  go_wp2
  all_goals (go_ret2; exact ⟨rfl, hb0⟩)
end Go.Proofs.YtooifkdbpghcfaaGreatDoor

namespace Go.Proofs.YtooifkdbpghcfaaGreatDoor
open Go.RowKit

set_option maxHeartbeats 1600000 in
set_option maxRecDepth 100000 in
theorem l2Bytes_any (cs : Int) (y : Nat) (w : World) (hcs : 1 ≤ cs ∧ cs ≤ 5) (hy : y < 65536) (hh : hasC cs (y : Int) = true) :
    Calls Tryz.prog 93 #[.int .i64 cs, .int .i64 (y : Int)] w fun e w' => Laid w.heap.size (tellL cs (y : Int)) w e w' := by
  have hb0 := fun cells => (Below.refl w.heap.size w).alloc (Nat.le_refl _) (.cells cells 5)
  rcases cs_cases hcs with rfl | rfl | rfl | rfl | rfl
  · rw [tellL_1]
    have h1 : (y : Int) ≤ 127 := by simpa [hasC] using hh
    clear hh
    have hL := Own.lit w w.heap.size (Nat.le_refl _) #[.int .u8 (y : Int)] [y] rfl (by simp [maxLen])
    go_enter Tryz.func93, Tryz.ntmps93
    go_wp2
    go_ret
    exact ⟨_, rfl, hL, hb0 _⟩
  · rw [tellL_2]
    have h1 : (y : Int) ≤ 255 := by simpa [hasC] using hh
    clear hh
    have hL := Own.lit w w.heap.size (Nat.le_refl _) #[.int .u8 (y : Int)] [y] rfl (by simp [maxLen])
    go_enter Tryz.func93, Tryz.ntmps93
    go_wp2
    go_ret
    exact ⟨_, rfl, hL, hb0 _⟩
  · rw [tellL_3]
    have h1 : 0 ≤ cyr (y : Int) := by simpa [hasC] using hh
    have h2 : cyr (y : Int) ≤ 255 := by
      have := cyr_pos.1 h1
      unfold cyr
      split
      · omega
      · split
        · omega
        · split
          · omega
          · split <;> omega
    clear hh
    obtain ⟨q, hq⟩ : ∃ q : Nat, cyr (y : Int) = (q : Int) := Int.eq_ofNat_of_zero_le h1
    have hq' : q < 256 := by omega
    have hL := Own.lit w w.heap.size (Nat.le_refl _) #[.int .u8 (q : Int)] [q] rfl (by simp [maxLen])
    have ht : (cyr (y : Int)).toNat = q := by rw [hq]; simp
    rw [ht]
    clear h1 h2 ht
    go_enter Tryz.func93, Tryz.ntmps93
    go_wp2_with (first | (go_at_call 123; refine (l2Cyrillic_any _ _).mono ?_; rintro e w' ⟨rfl, rfl⟩; rw [hq]))
    go_ret
    exact ⟨_, rfl, hL, hb0 _⟩
  · rw [tellL_4]
    clear hh
    simp only [Int.toNat_natCast]
    by_cases h1 : y < 128
    · have h1' : (y : Int) < 128 := by omega
      rw [u8L_one h1]
      have hL := Own.lit w w.heap.size (Nat.le_refl _) #[.int .u8 (y : Int)] [y] rfl (by simp [maxLen])
      go_enter Tryz.func93, Tryz.ntmps93
      go_wp2
      go_ret
      exact ⟨_, rfl, hL, hb0 _⟩
    · have h1' : ¬ (y : Int) < 128 := by omega
      by_cases h2 : y < 2048
      · have h2' : (y : Int) < 2048 := by omega
        rw [u8L_two h1 h2]
        obtain ⟨p, hp⟩ : ∃ p, p = y / 64 := ⟨_, rfl⟩
        obtain ⟨q, hq⟩ : ∃ q, q = y % 64 := ⟨_, rfl⟩
        rw [← hp, ← hq]
        have e1 : (y : Int) / 64 = (p : Int) := by omega
        have e2 : (y : Int) % 64 = (q : Int) := by omega
        have hp' : p < 32 := by omega
        have hq' : q < 64 := by omega
        have hL := Own.lit w w.heap.size (Nat.le_refl _) #[.int .u8 (192 + (p : Int)), .int .u8 (128 + (q : Int))] [192 + p, 128 + q] rfl (by simp [maxLen])
        clear hp hq
        go_enter Tryz.func93, Tryz.ntmps93
        go_wp2
        go_ret
        exact ⟨_, rfl, hL, hb0 _⟩
      · have h2' : ¬ (y : Int) < 2048 := by omega
        rw [u8L_three h1 h2]
        obtain ⟨p, hp⟩ : ∃ p, p = y / 4096 := ⟨_, rfl⟩
        obtain ⟨r, hr⟩ : ∃ r, r = y / 64 := ⟨_, rfl⟩
        obtain ⟨s, hs⟩ : ∃ s, s = r % 64 := ⟨_, rfl⟩
        obtain ⟨q, hq⟩ : ∃ q, q = y % 64 := ⟨_, rfl⟩
        rw [← hp, ← hr, ← hq, ← hs]
        have e0 : (y : Int) / 4096 = (p : Int) := by omega
        have e1 : (y : Int) / 64 = (r : Int) := by omega
        have e2 : (y : Int) % 64 = (q : Int) := by omega
        have e3 : (r : Int) % 64 = (s : Int) := by omega
        have hp' : p < 16 := by omega
        have hq' : q < 64 := by omega
        have hs' : s < 64 := by omega
        have hr' : r < 1024 := by omega
        have hL := Own.lit w w.heap.size (Nat.le_refl _) #[.int .u8 (224 + (p : Int)), .int .u8 (128 + (s : Int)), .int .u8 (128 + (q : Int))] [224 + p, 128 + s, 128 + q] rfl (by simp [maxLen])
        clear hp hq hr hs
        go_enter Tryz.func93, Tryz.ntmps93
        go_wp2
        go_ret
        exact ⟨_, rfl, hL, hb0 _⟩
  · rw [tellL_5]
    clear hh
    simp only [Int.toNat_natCast]
    obtain ⟨p, hp⟩ : ∃ p, p = y / 256 := ⟨_, rfl⟩
    obtain ⟨q, hq⟩ : ∃ q, q = y % 256 := ⟨_, rfl⟩
    rw [← hp, ← hq]
    have e1 : (y : Int) / 256 = (p : Int) := by omega
    have e2 : (y : Int) % 256 = (q : Int) := by omega
    have hp' : p < 256 := by omega
    have hq' : q < 256 := by omega
    have hL := Own.lit w w.heap.size (Nat.le_refl _) #[.int .u8 (p : Int), .int .u8 (q : Int)] [p, q] rfl (by simp [maxLen])
    clear hp hq
    go_enter Tryz.func93, Tryz.ntmps93
    go_wp2
    go_ret
    exact ⟨_, rfl, hL, hb0 _⟩

/-- All bytes, or a code: what EncodeText answers of characters without a fault. -/
def encV (cs : Int) (l : List Int) : Int × List Nat := if l.all (hasC cs) then (if 400 < (l.flatMap (tellL cs)).length then (2, []) else (0, l.flatMap (tellL cs))) else (8, [])
theorem encV_bad {cs : Int} {l : List Int} (h : l.all (hasC cs) = false) : encV cs l = (8, []) := by unfold encV; rw [h]; rfl
theorem encV_many {cs : Int} {l : List Int} (h : l.all (hasC cs) = true) (h4 : 400 < (l.flatMap (tellL cs)).length) : encV cs l = (2, []) := by unfold encV; rw [h, if_pos rfl, if_pos h4]
theorem encV_ok {cs : Int} {l : List Int} (h : l.all (hasC cs) = true) (h4 : ¬ 400 < (l.flatMap (tellL cs)).length) : encV cs l = (0, l.flatMap (tellL cs)) := by unfold encV; rw [h, if_pos rfl, if_neg h4]

/-- What the model's l2Encode ends with. -/
def EncEnd (cs : Int) (l : List Int) (w : World) (e : Ending) (w' : World) : Prop := ∃ v, e = .returned (.tuple #[v, .int .i64 (encV cs l).1]) ∧ Own w' w.heap.size v (encV cs l).2 ∧ Below w.heap.size w w'

set_option maxHeartbeats 1600000 in
set_option maxRecDepth 100000 in
theorem l2Encode_any (cs : Int) (a : Option Addr) (n cap : Nat) (l : List Int) (w : World) (hcs : 1 ≤ cs ∧ cs ≤ 5) (hl : l.length = n) (hr : RdI w a l) (hn : n ≤ 400) (hch : ∀ x ∈ l, chr x = true) :
    Calls Tryz.prog 75 #[.int .i64 cs, .slice a n cap] w fun e w' => EncEnd cs l w e w' := by
  go_enter Tryz.func75, Tryz.ntmps75
  go_wp2
  have hO := Own.lit w w.heap.size (Nat.le_refl _) #[] [] rfl (by simp [maxLen])
  have hB0 : Below w.heap.size w (w.alloc (.cells #[] 5)) := (Below.refl _ _).alloc (Nat.le_refl _) _
  go_loopw [6, 7] (fun v i wr => ∃ k : Nat, k ≤ n ∧ i = .int .i64 k ∧ Own wr w.heap.size v ((l.take k).flatMap (tellL cs)) ∧ (l.take k).all (hasC cs) = true ∧ Below w.heap.size w wr) (fun _ i _ => n - (intOf i).toNat)
  case atStart => exact ⟨0, Nat.zero_le _, rfl, hO, by simp, hB0⟩
  case round =>
    obtain ⟨k, hk, rfl, hown, hall, hbel⟩ := hrel
    clear hO hB0
    by_cases hkn : k < n
    · obtain ⟨b, off, rfl, hblt, hcell⟩ := hr.at_ (by omega)
      have hc : wr.cell? ⟨b, off + k, none⟩ = some (.int .i64 (nthI l k)) := (hbel.cell (p := ⟨b, off + k, none⟩) hblt).trans (hcell k (by omega))
      have hx := chr_iff.1 (hch _ (nthI_mem (l := l) (k := k) (by omega)))
      have HF : Hid ((l.take (k + 1)).flatMap (tellL cs) = (l.take k).flatMap (tellL cs) ++ tellL cs (nthI l k)) := flat_step (by omega)
      have HS : Hid (hasC cs (nthI l k) = true → (l.take (k + 1)).all (hasC cs) = true) := fun hb => all_step (by omega) hall hb
      have HN : Hid (hasC cs (nthI l k) = false → encV cs l = (8, [])) := fun hb => encV_bad (all_bad (by omega) hb)
      have hlen : ((l.take k).flatMap (tellL cs)).length ≤ 1048576 := by
        have := (flat_len cs (l.take k)).2
        rw [List.length_take] at this
        omega
      clear hcell hr hall
      generalize nthI l k = x at *
      obtain ⟨y, rfl⟩ : ∃ y : Nat, x = (y : Int) := Int.eq_ofNat_of_zero_le (by omega)
      generalize (l.take k).flatMap (tellL cs) = out at *
      have hsz := hbel.size
      cases hp : hasC cs (y : Int) with
      | true =>
        have hall' := HS.out hp
        have hy : y < 65536 := by omega
        clear HS HN
        go_wp2_with (first | (go_at_call 92; refine (l2Has_any _ _ _ (by omega)).mono ?_; rintro e w' ⟨rfl, rfl⟩; rw [hp]))
        refine (l2Bytes_any cs y _ hcs hy hp).mono ?_
        rintro e w2 ⟨v2, rfl, ho2, hb2⟩
        obtain ⟨a2, c2, rfl, -, -⟩ := ho2.form
        obtain ⟨b2, off2, rfl, hlt2, hcl2⟩ := (Own.rd ho2).2.at_ (by have := (tellL_len cs (y : Int)).1; omega)
        have hown2 : Own w2 w.heap.size _ out := hown.below hb2 (Nat.le_refl _)
        have hln2 := tellL_len cs (y : Int)
        have hcs2 : ∀ j, j < (tellL cs (y : Int)).length → w2.cell? ((⟨b2, off2, none⟩ : Addr).add j) = some (.int .u8 (nth (tellL cs (y : Int)) j : Int)) := fun j hj => by
          rw [Go.WideShapes.add_plain]; exact hcl2 j hj
        have hbB : Below w.heap.size w w2 := hbel.trans (hb2.mono hsz)
        have hsz2 := hbB.size
        clear ho2 hcl2 hown hb2
        generalize tellL cs (y : Int) = new at *
        go_wp2_with (at_builtin; refine wpList_app rfl _ _ rfl w.heap.size _ out rfl hown2 ⟨b2, off2, none⟩ new.length c2 new rfl rfl hcs2 (by omega) hsz2 ?_; intro v' w3 hown' hb')
        rw [← HF.out] at hown'
        go_wp2
        go_roundw
        case rel => exact ⟨k + 1, by omega, by go_num, hown', hall', hbB.trans hb'⟩
        case measure => simp [intOf]; omega
      | false =>
        have HN' := HN.out hp
        have HE : Hid (EncEnd cs l w (.returned (.tuple #[.slice none 0 0, .int .i64 8])) wr) := by
          unfold Hid EncEnd
          rw [HN']
          exact ⟨_, rfl, Own.nil _ _, hbel⟩
        clear HS HN HN'
        go_wp2_with (first | (go_at_call 92; refine (l2Has_any _ _ _ (by omega)).mono ?_; rintro e w' ⟨rfl, rfl⟩; rw [hp]))
        go_ret2
        exact HE.out
    · have hkk : k = n := by omega
      subst hkk
      rw [flat_end hl] at hown
      have hA := all_end hl hall
      obtain ⟨a2, c2, rfl, -, -⟩ := hown.form
      by_cases h4 : 400 < (l.flatMap (tellL cs)).length
      · have HE : Hid (EncEnd cs l w (.returned (.tuple #[.slice none 0 0, .int .i64 2])) wr) := by
          unfold Hid EncEnd
          rw [encV_many hA h4]
          exact ⟨_, rfl, Own.nil _ _, hbel⟩
        generalize (l.flatMap (tellL cs)).length = N at *
        have h4' : (400 : Int) < (N : Int) := by omega
        go_wp2
        go_ret2
        exact HE.out
      · have HE : Hid (EncEnd cs l w (.returned (.tuple #[.slice a2 (l.flatMap (tellL cs)).length c2, .int .i64 0])) wr) := by
          unfold Hid EncEnd
          rw [encV_ok hA h4]
          exact ⟨_, rfl, hown, hbel⟩
        clear hown
        generalize (l.flatMap (tellL cs)).length = N at *
        have h4' : ¬ (400 : Int) < (N : Int) := by omega
        go_wp2
        go_ret2
        exact HE.out
end Go.Proofs.YtooifkdbpghcfaaGreatDoor

namespace Go.Proofs.YtooifkdbpghcfaaGreatDoor
open Go.RowKit

/-- The fault of some characters. -/
def flt (l : List Int) : Int := if 400 < l.length then 2 else if l.all chr then 0 else 3
theorem flt_many {l : List Int} (h : 400 < l.length) : flt l = 2 := if_pos h
theorem flt_ok {l : List Int} (h : ¬ 400 < l.length) (ha : l.all chr = true) : flt l = 0 := by unfold flt; rw [if_neg h, if_pos ha]
theorem flt_bad {l : List Int} (h : ¬ 400 < l.length) (ha : l.all chr = false) : flt l = 3 := by unfold flt; rw [if_neg h, ha]; rfl
theorem ret_intB {b b' : Int} {w w' : World} {n : Nat} (h : b = b') (hb : Below n w w') : Ending.returned (Value.int .i64 b) = .returned (.int .i64 b') ∧ Below n w w' := ⟨by rw [h], hb⟩

set_option maxHeartbeats 1600000 in
set_option maxRecDepth 100000 in
theorem codesFault_any (a : Option Addr) (n cap : Nat) (l : List Int) (w : World) (hl : l.length = n) (hr : RdI w a l) (hn : n ≤ 1048576) :
    Calls Tryz.prog 68 #[.slice a n cap] w fun e w' => e = .returned (.int .i64 (flt l)) ∧ Below w.heap.size w w' := by
  by_cases h4 : 400 < n
  · have h4' : (400 : Int) < (n : Int) := by omega
    rw [flt_many (by omega)]
    go_enter Tryz.func68, Tryz.ntmps68
    go_wp2
    go_ret
    exact ret_intB rfl (Below.refl _ _)
  · have h4' : ¬ (400 : Int) < (n : Int) := by omega
    cases ha : l.all chr with
    | true =>
      rw [flt_ok (by omega) ha]
      go_enter Tryz.func68, Tryz.ntmps68
      go_wp2_with (first | (go_at_call 69; refine (areAll_char a n cap l _ hl hr hn).mono ?_; rintro e w' ⟨rfl, hb⟩; rw [ha]))
      go_ret
      exact ret_intB rfl hb
    | false =>
      rw [flt_bad (by omega) ha]
      go_enter Tryz.func68, Tryz.ntmps68
      go_wp2_with (first | (go_at_call 69; refine (areAll_char a n cap l _ hl hr hn).mono ?_; rintro e w' ⟨rfl, hb⟩; rw [ha]))
      go_ret
      exact ret_intB rfl hb

set_option maxHeartbeats 1600000 in
set_option maxRecDepth 100000 in
theorem l2Fault_any (a : Option Addr) (n cap : Nat) (l : List Int) (w : World) (hl : l.length = n) (hr : RdI w a l) (hn : n ≤ 1048576) :
    Calls Tryz.prog 74 #[.slice a n cap] w fun e w' => e = .returned (.int .i64 (flt l)) ∧ Below w.heap.size w w' := by
  by_cases h4 : 400 < n
  · have h4' : (400 : Int) < (n : Int) := by omega
    rw [flt_many (by omega)]
    go_enter Tryz.func74, Tryz.ntmps74
    go_wp2
    go_ret
    exact ret_intB rfl (Below.refl _ _)
  · have h4' : ¬ (400 : Int) < (n : Int) := by omega
    go_enter Tryz.func74, Tryz.ntmps74
    go_wp2
    go_loop [3] (fun v3 => ∃ k : Nat, k ≤ n ∧ v3 = .int .i64 k ∧ (l.take k).all chr = true) (fun v3 => n - (intOf v3).toNat)
    case atStart => exact ⟨0, Nat.zero_le _, rfl, by simp⟩
    case round =>
      obtain ⟨k, hk, rfl, hall⟩ := hrel
      by_cases hkn : k < n
      · obtain ⟨b, off, rfl, hblt, hcell⟩ := hr.at_ (by omega)
        have hc := hcell k (by omega)
        have HS : Hid (chr (nthI l k) = true → (l.take (k + 1)).all chr = true) := fun hb => all_step (by omega) hall hb
        have HF : Hid (chr (nthI l k) = false → flt l = 3) := fun hb => flt_bad (by omega) (all_bad (by omega) hb)
        clear hcell hr hall
        generalize nthI l k = x at *
        cases hp : chr x with
        | true =>
          have hall' := HS.out hp
          go_wp2_with (first | (go_at_call 91; refine (l2Char_any _ _).mono ?_; rintro e w' ⟨rfl, rfl⟩; rw [hp]))
          go_round
          case rel => exact ⟨k + 1, by omega, by go_num, hall'⟩
          case measure => simp [intOf]; omega
        | false =>
          clear HS
          go_wp2_with (first | (go_at_call 91; refine (l2Char_any _ _).mono ?_; rintro e w' ⟨rfl, rfl⟩; rw [hp]))
          go_ret
          exact ⟨by rw [HF.out hp]; rfl, Below.refl _ _⟩
      · have hkk : k = n := by omega
        subst hkk
        have HA : Hid (flt l = 0) := flt_ok (by omega) (all_end hl hall)
        go_wp2
        go_ret
        exact ⟨by rw [HA.out]; rfl, Below.refl _ _⟩

end Go.Proofs.YtooifkdbpghcfaaGreatDoor
