/- The bounds of a term: the program's side; no conditions beyond those that each fact names. -/
import Derived.Test.YthmimalplpjghaaGreatDoorTfdToOss
import Derived.Test.YthmimalplpjghaaGreatDoorTme
namespace Go.Proofs.YthmimalplpjghaaGreatDoor
open Go.RowKit
set_option linter.unusedVariables false

theorem isOneFlag_any (n : Int) (w : World) : Calls Tryz.prog 210 #[.int .i64 n] w fun e w' => e = .returned (.bool (ofB n)) ∧ w = w' := by
  go_enter Tryz.func210, Tryz.ntmps210
  go_wp2
  all_goals (go_ret; refine ret_bool ?_; rw [Bool.eq_iff_iff]; simp [ofB]; try omega)
theorem isLookedFor_any (c : Int) (w : World) : Calls Tryz.prog 211 #[.int .i64 c] w fun e w' => e = .returned (.bool (lkC c)) ∧ w = w' := by
  cases hp : chr c with
  | false =>
    have HR : Hid (lkC c = false) := by show _ = _; simp [lkC, hp]
    generalize lkC c = rv at *
    go_enter Tryz.func211, Tryz.ntmps211
    go_wp2_with (first | (go_at_call 187; refine (isCharacter_any _ _).mono ?_; rintro e w1 ⟨rfl, rfl⟩; rw [hp]))
    go_ret
    exact ⟨by rw [HR.out]; rfl, rfl⟩
  | true =>
    by_cases h1 : 32 < c
    · by_cases h2 : c = 127
      · have HR : Hid (lkC c = false) := by show _ = _; simp [lkC, h2]
        generalize lkC c = rv at *
        subst h2
        go_enter Tryz.func211, Tryz.ntmps211
        go_wp2_with (first | (go_at_call 187; refine (isCharacter_any _ _).mono ?_; rintro e w1 ⟨rfl, rfl⟩; rw [hp]))
        go_ret
        exact ⟨by rw [HR.out]; rfl, rfl⟩
      · have HR : Hid (lkC c = true) := by show _ = _; simp [lkC, hp, h1, h2]
        have h2b : (c == 127) = false := by simpa using h2
        generalize lkC c = rv at *
        go_enter Tryz.func211, Tryz.ntmps211
        go_wp2_with (first | (go_at_call 187; refine (isCharacter_any _ _).mono ?_; rintro e w1 ⟨rfl, rfl⟩; rw [hp]))
        go_ret
        exact ⟨by rw [HR.out]; first | rfl | (simp; done) | (simp [h2]; done), rfl⟩
    · have HR : Hid (lkC c = false) := by show _ = _; simp [lkC, h1]
      generalize lkC c = rv at *
      go_enter Tryz.func211, Tryz.ntmps211
      go_wp2_with (first | (go_at_call 187; refine (isCharacter_any _ _).mono ?_; rintro e w1 ⟨rfl, rfl⟩; rw [hp]))
      go_ret
      exact ⟨by rw [HR.out]; rfl, rfl⟩

set_option maxHeartbeats 1600000 in
set_option maxRecDepth 100000 in
theorem areAll_look (a : Option Addr) (n cap : Nat) (l : List Int) (w : World) (hl : l.length = n) (hr : RdI w a l) (hn : n ≤ 1048576) :
    Calls Tryz.prog 186 #[.slice a n cap, .func (.func 211) #[] #[]] w fun e w' => e = .returned (.bool (l.all lkC)) ∧ Below w.heap.size w w' := by
  go_enter Tryz.func186, Tryz.ntmps186
  go_wp2
  go_loopw [9] (fun v9 wr => ∃ k : Nat, k ≤ n ∧ v9 = .int .i64 k ∧ (l.take k).all lkC = true ∧ Below w.heap.size w wr) (fun v9 _ => n - (intOf v9).toNat)
  case atStart => exact ⟨0, Nat.zero_le _, rfl, by simp, Below.refl _ _⟩
  case round =>
    obtain ⟨k, hk, rfl, hall, hbel⟩ := hrel
    by_cases hkn : k < n
    · obtain ⟨b, off, rfl, hblt, hcell⟩ := hr.at_ (by omega)
      have hc : wr.cell? ⟨b, off + k, none⟩ = some (.int .i64 (nthI l k)) := (hbel.cell (p := ⟨b, off + k, none⟩) hblt).trans (hcell k (by omega))
      have HS : Hid (lkC (nthI l k) = true → (l.take (k + 1)).all lkC = true) := fun hb => allL_step (by omega) hall hb
      have HF : Hid (lkC (nthI l k) = false → l.all lkC = false) := fun hb => allL_bad (by omega) hb
      clear hcell hr hall
      generalize nthI l k = x at *
      cases hp : lkC x with
      | true =>
        have hall' := HS.out hp
        go_wp2_with (first | (go_at_call 211; refine (isLookedFor_any _ _).mono ?_; rintro e w' ⟨rfl, rfl⟩; rw [hp]))
        go_roundw
        case rel => exact ⟨k + 1, by omega, by go_num, hall', hbel⟩
        case measure => simp [intOf]; omega
      | false =>
        clear HS
        go_wp2_with (first | (go_at_call 211; refine (isLookedFor_any _ _).mono ?_; rintro e w' ⟨rfl, rfl⟩; rw [hp]))
        go_ret
        exact ⟨by rw [HF.out hp]; rfl, hbel⟩
    · have hkk : k = n := by omega
      subst hkk
      have HA : Hid (l.all lkC = true) := allL_end hl hall
      go_wp2
      go_ret
      exact ⟨by rw [HA.out]; rfl, hbel⟩


set_option maxHeartbeats 1600000 in
set_option maxRecDepth 100000 in
theorem hasTermBounds_2 (n l r : Int) (c : List Int) (y : List YgP) (p : SlT) {lo : Nat} (w : World) (hs : IsTm lo w p ⟨2, n, c, y, l, r⟩) :
    Calls Tryz.prog 159 #[tmX ⟨2, n, c, y, l, r⟩ p] w fun e w' => e = .returned (.bool (bdT ⟨2, n, c, y, l, r⟩)) ∧ Below w.heap.size w w' := by
  have hb0 : Below w.heap.size w (w.alloc (.cells #[.int .i64 2, .int .i64 n, slW p.1, slW p.2, .int .i64 l, .int .i64 r] 47)) := (Below.refl _ _).alloc (Nat.le_refl _) _
  have HR : Hid (bdT ⟨2, n, c, y, l, r⟩ = ofB n) := rfl
  generalize bdT ⟨2, n, c, y, l, r⟩ = rv at *
  go_enter Tryz.func159, Tryz.ntmps159
  go_wp2_with (first | (go_at_call 210; refine (isOneFlag_any _ _).mono ?_; rintro e w1 ⟨rfl, rfl⟩))
  go_ret
  exact ⟨by rw [HR.out]; rfl, hb0⟩

set_option maxHeartbeats 1600000 in
set_option maxRecDepth 100000 in
theorem hasTermBounds_3 (n l r : Int) (c : List Int) (y : List YgP) (p : SlT) {lo : Nat} (w : World) (hs : IsTm lo w p ⟨3, n, c, y, l, r⟩) :
    Calls Tryz.prog 159 #[tmX ⟨3, n, c, y, l, r⟩ p] w fun e w' => e = .returned (.bool (bdT ⟨3, n, c, y, l, r⟩)) ∧ Below w.heap.size w w' := by
  have hb0 : Below w.heap.size w (w.alloc (.cells #[.int .i64 3, .int .i64 n, slW p.1, slW p.2, .int .i64 l, .int .i64 r] 47)) := (Below.refl _ _).alloc (Nat.le_refl _) _
  have HR : Hid (bdT ⟨3, n, c, y, l, r⟩ = bty n 0 9999) := rfl
  generalize bdT ⟨3, n, c, y, l, r⟩ = rv at *
  go_enter Tryz.func159, Tryz.ntmps159
  go_wp2_with (first | (go_at_call 65; refine (isBetween_y _ _ _ _).mono ?_; rintro e w1 ⟨rfl, rfl⟩))
  go_ret
  exact ⟨by rw [HR.out]; rfl, hb0⟩

set_option maxHeartbeats 1600000 in
set_option maxRecDepth 100000 in
theorem hasTermBounds_4 (n l r : Int) (c : List Int) (y : List YgP) (p : SlT) {lo : Nat} (w : World) (hs : IsTm lo w p ⟨4, n, c, y, l, r⟩) :
    Calls Tryz.prog 159 #[tmX ⟨4, n, c, y, l, r⟩ p] w fun e w' => e = .returned (.bool (bdT ⟨4, n, c, y, l, r⟩)) ∧ Below w.heap.size w w' := by
  have hb0 : Below w.heap.size w (w.alloc (.cells #[.int .i64 4, .int .i64 n, slW p.1, slW p.2, .int .i64 l, .int .i64 r] 47)) := (Below.refl _ _).alloc (Nat.le_refl _) _
  have HR : Hid (bdT ⟨4, n, c, y, l, r⟩ = bty n 0 9999) := rfl
  generalize bdT ⟨4, n, c, y, l, r⟩ = rv at *
  go_enter Tryz.func159, Tryz.ntmps159
  go_wp2_with (first | (go_at_call 65; refine (isBetween_y _ _ _ _).mono ?_; rintro e w1 ⟨rfl, rfl⟩))
  go_ret
  exact ⟨by rw [HR.out]; rfl, hb0⟩

set_option maxHeartbeats 1600000 in
set_option maxRecDepth 100000 in
theorem hasTermBounds_5 (n l r : Int) (c : List Int) (y : List YgP) (p : SlT) {lo : Nat} (w : World) (hs : IsTm lo w p ⟨5, n, c, y, l, r⟩) :
    Calls Tryz.prog 159 #[tmX ⟨5, n, c, y, l, r⟩ p] w fun e w' => e = .returned (.bool (bdT ⟨5, n, c, y, l, r⟩)) ∧ Below w.heap.size w w' := by
  have hb0 : Below w.heap.size w (w.alloc (.cells #[.int .i64 5, .int .i64 n, slW p.1, slW p.2, .int .i64 l, .int .i64 r] 47)) := (Below.refl _ _).alloc (Nat.le_refl _) _
  have HR : Hid (bdT ⟨5, n, c, y, l, r⟩ = bty n 0 400) := rfl
  generalize bdT ⟨5, n, c, y, l, r⟩ = rv at *
  go_enter Tryz.func159, Tryz.ntmps159
  go_wp2_with (first | (go_at_call 65; refine (isBetween_y _ _ _ _).mono ?_; rintro e w1 ⟨rfl, rfl⟩))
  go_ret
  exact ⟨by rw [HR.out]; rfl, hb0⟩

set_option maxHeartbeats 1600000 in
set_option maxRecDepth 100000 in
theorem hasTermBounds_6 (n l r : Int) (c : List Int) (y : List YgP) (p : SlT) {lo : Nat} (w : World) (hs : IsTm lo w p ⟨6, n, c, y, l, r⟩) :
    Calls Tryz.prog 159 #[tmX ⟨6, n, c, y, l, r⟩ p] w fun e w' => e = .returned (.bool (bdT ⟨6, n, c, y, l, r⟩)) ∧ Below w.heap.size w w' := by
  have hb0 : Below w.heap.size w (w.alloc (.cells #[.int .i64 6, .int .i64 n, slW p.1, slW p.2, .int .i64 l, .int .i64 r] 47)) := (Below.refl _ _).alloc (Nat.le_refl _) _
  have HV : Hid (bdT ⟨6, n, c, y, l, r⟩ = (bty (c.length : Int) 1 20 && c.all lkC)) := rfl
  generalize bdT ⟨6, n, c, y, l, r⟩ = rv at *
  obtain ⟨⟨s1, m, c1⟩, ⟨s2, q, c2⟩⟩ := p
  have hm : m ≤ maxLen := Nat.le_trans hs.1.2.1 hs.1.2.2.1
  unfold maxLen at hm
  have hcl : c.length = m := hs.1.1
  rw [hcl] at HV
  cases HB : bty (m : Int) 1 20 with
  | false =>
    have HR : Hid (rv = false) := HV.out.trans (by rw [HB]; rfl)
    clear HV
    go_enter Tryz.func159, Tryz.ntmps159
    go_wp2_with (first | (go_at_call 65; refine (isBetween_y _ _ _ _).mono ?_; rintro e w1 ⟨rfl, rfl⟩; rw [HB]))
    go_ret
    exact ⟨by rw [HR.out]; rfl, hb0⟩
  | true =>
    have HR : Hid (rv = c.all lkC) := HV.out.trans (by rw [HB]; rfl)
    have hm20 : m ≤ 1048576 := by have := of_decide_eq_true HB; omega
    have HC := areAll_look s1 m c1 c _ hcl (hs.1.below hb0).2.2.2.1 hm20
    clear HV
    generalize c.all lkC = cv at *
    go_enter Tryz.func159, Tryz.ntmps159
    go_wp2_with (first | (go_at_call 65; refine (isBetween_y _ _ _ _).mono ?_; rintro e w1 ⟨rfl, rfl⟩; rw [HB]))
    refine HC.mono ?_
    rintro e w1 ⟨rfl, hb1⟩
    have hb2 := hb0.trans (hb1.mono hb0.size)
    go_wp2
    go_ret
    exact ⟨by rw [HR.out]; rfl, hb2⟩

set_option maxHeartbeats 1600000 in
set_option maxRecDepth 100000 in
theorem hasTermBounds_7 (n l r : Int) (c : List Int) (y : List YgP) (p : SlT) {lo : Nat} (w : World) (hs : IsTm lo w p ⟨7, n, c, y, l, r⟩) :
    Calls Tryz.prog 159 #[tmX ⟨7, n, c, y, l, r⟩ p] w fun e w' => e = .returned (.bool (bdT ⟨7, n, c, y, l, r⟩)) ∧ Below w.heap.size w w' := by
  have hb0 : Below w.heap.size w (w.alloc (.cells #[.int .i64 7, .int .i64 n, slW p.1, slW p.2, .int .i64 l, .int .i64 r] 47)) := (Below.refl _ _).alloc (Nat.le_refl _) _
  have HV : Hid (bdT ⟨7, n, c, y, l, r⟩ = (bty (c.length : Int) 1 20 && c.all lkC)) := rfl
  generalize bdT ⟨7, n, c, y, l, r⟩ = rv at *
  obtain ⟨⟨s1, m, c1⟩, ⟨s2, q, c2⟩⟩ := p
  have hm : m ≤ maxLen := Nat.le_trans hs.1.2.1 hs.1.2.2.1
  unfold maxLen at hm
  have hcl : c.length = m := hs.1.1
  rw [hcl] at HV
  cases HB : bty (m : Int) 1 20 with
  | false =>
    have HR : Hid (rv = false) := HV.out.trans (by rw [HB]; rfl)
    clear HV
    go_enter Tryz.func159, Tryz.ntmps159
    go_wp2_with (first | (go_at_call 65; refine (isBetween_y _ _ _ _).mono ?_; rintro e w1 ⟨rfl, rfl⟩; rw [HB]))
    go_ret
    exact ⟨by rw [HR.out]; rfl, hb0⟩
  | true =>
    have HR : Hid (rv = c.all lkC) := HV.out.trans (by rw [HB]; rfl)
    have hm20 : m ≤ 1048576 := by have := of_decide_eq_true HB; omega
    have HC := areAll_look s1 m c1 c _ hcl (hs.1.below hb0).2.2.2.1 hm20
    clear HV
    generalize c.all lkC = cv at *
    go_enter Tryz.func159, Tryz.ntmps159
    go_wp2_with (first | (go_at_call 65; refine (isBetween_y _ _ _ _).mono ?_; rintro e w1 ⟨rfl, rfl⟩; rw [HB]))
    refine HC.mono ?_
    rintro e w1 ⟨rfl, hb1⟩
    have hb2 := hb0.trans (hb1.mono hb0.size)
    go_wp2
    go_ret
    exact ⟨by rw [HR.out]; rfl, hb2⟩

set_option maxHeartbeats 1600000 in
set_option maxRecDepth 100000 in
theorem hasTermBounds_o (k : Int) (n l r : Int) (c : List Int) (y : List YgP) (p : SlT) {lo : Nat} (w : World) (hs : IsTm lo w p ⟨k, n, c, y, l, r⟩) (hk : ¬ k = 2 ∧ ¬ k = 3 ∧ ¬ k = 4 ∧ ¬ k = 5 ∧ ¬ k = 6 ∧ ¬ k = 7) :
    Calls Tryz.prog 159 #[tmX ⟨k, n, c, y, l, r⟩ p] w fun e w' => e = .returned (.bool (bdT ⟨k, n, c, y, l, r⟩)) ∧ Below w.heap.size w w' := by
  have hb0 : Below w.heap.size w (w.alloc (.cells #[.int .i64 k, .int .i64 n, slW p.1, slW p.2, .int .i64 l, .int .i64 r] 47)) := (Below.refl _ _).alloc (Nat.le_refl _) _
  have HR : Hid (bdT ⟨k, n, c, y, l, r⟩ = true) := by show _ = _; simp [bdT, hk]
  generalize bdT ⟨k, n, c, y, l, r⟩ = rv at *
  obtain ⟨k2, k3, k4, k5, k6, k7⟩ := hk
  go_enter Tryz.func159, Tryz.ntmps159
  go_wp2
  go_ret
  exact ⟨by rw [HR.out]; rfl, hb0⟩

theorem hasTermBounds_any (o : TmR) (p : SlT) {lo : Nat} (w : World) (hs : IsTm lo w p o) :
    Calls Tryz.prog 159 #[tmX o p] w fun e w' => e = .returned (.bool (bdT o)) ∧ Below w.heap.size w w' := by
  obtain ⟨k, n, c, y, l, r⟩ := o
  by_cases h2 : k = 2
  · subst h2; exact hasTermBounds_2 n l r c y p w hs
  by_cases h3 : k = 3
  · subst h3; exact hasTermBounds_3 n l r c y p w hs
  by_cases h4 : k = 4
  · subst h4; exact hasTermBounds_4 n l r c y p w hs
  by_cases h5 : k = 5
  · subst h5; exact hasTermBounds_5 n l r c y p w hs
  by_cases h6 : k = 6
  · subst h6; exact hasTermBounds_6 n l r c y p w hs
  by_cases h7 : k = 7
  · subst h7; exact hasTermBounds_7 n l r c y p w hs
  exact hasTermBounds_o k n l r c y p w hs ⟨h2, h3, h4, h5, h6, h7⟩
end Go.Proofs.YthmimalplpjghaaGreatDoor
