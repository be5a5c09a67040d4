/- What is in a set, on both sides: the program's ranges as complex numbers; at every set without a fault; no conditions beyond those that each fact names. -/
import Derived.Test.YtlkfmgfblfkgbaaGreatDoorMemZ
import Derived.Deep.RegionHeld3
namespace Go.Proofs.YtlkfmgfblfkgbaaGreatDoor
open Go.RowKit

theorem reachOf_any (x y : Int) (w : World) : Calls Tryz.prog 43 #[.int .i64 x, .int .i64 y] w fun e w' => e = .returned (cz (x, y)) ∧ w = w' := by
  go_enter Tryz.func43, Tryz.ntmps43
  go_wp2
  go_ret
  exact ⟨rfl, rfl⟩
theorem reachFrom_any (p : YgP) (w : World) (h : bty p.1 0 999 = true) : Calls Tryz.prog 45 #[cz p] w fun e w' => e = .returned (.int .i64 p.1) ∧ w = w' := by
  have hc : ∀ w, (convert 89 2 (.float .f64 (fB p.1))).run Tryz.prog w = .ok (.int .i64 p.1) w := fun w => run_convert_float_int w 89 2 .f64 .i64 (fB p.1) p.1 (by rw [Tryz.underlying89]; rfl) Tryz.underlying2 (fB_back h)
  unfold cz
  go_enter Tryz.func45, Tryz.ntmps45
  go_wp2_with (simp only [hc])
  go_ret
  exact ⟨rfl, rfl⟩
theorem reachTo_any (p : YgP) (w : World) (h : bty p.2 0 999 = true) : Calls Tryz.prog 44 #[cz p] w fun e w' => e = .returned (.int .i64 p.2) ∧ w = w' := by
  have hc : ∀ w, (convert 89 2 (.float .f64 (fB p.2))).run Tryz.prog w = .ok (.int .i64 p.2) w := fun w => run_convert_float_int w 89 2 .f64 .i64 (fB p.2) p.2 (by rw [Tryz.underlying89]; rfl) Tryz.underlying2 (fB_back h)
  unfold cz
  go_enter Tryz.func44, Tryz.ntmps44
  go_wp2_with (simp only [hc])
  go_ret
  exact ⟨rfl, rfl⟩
/-- An end of a range: 0 is the greatest one. -/
def edY (n most : Int) : Int := if n = 0 then most else n
theorem endAs_any (n most : Int) (w : World) : Calls Tryz.prog 56 #[.int .i64 n, .int .i64 most] w fun e w' => e = .returned (.int .i64 (edY n most)) ∧ w = w' := by
  by_cases h : n = 0
  · have HV : Hid (edY n most = most) := if_pos h
    go_enter Tryz.func56, Tryz.ntmps56
    go_wp2
    go_ret
    exact ⟨by rw [HV.out]; rfl, rfl⟩
  · have HV : Hid (edY n most = n) := if_neg h
    go_enter Tryz.func56, Tryz.ntmps56
    go_wp2
    go_ret
    exact ⟨by rw [HV.out]; rfl, rfl⟩
def mnY (a b : Int) : Int := if b < a then b else a
def mxY (a b : Int) : Int := if b > a then b else a
set_option maxHeartbeats 800000 in
set_option maxRecDepth 100000 in
theorem ends_any (p : YgP) (most : Int) (w : World) (h1 : bty p.1 0 999 = true) (h2 : bty p.2 0 999 = true) : Calls Tryz.prog 46 #[cz p, .int .i64 most] w fun e w' => e = .returned (.tuple #[.int .i64 (mnY (edY p.1 most) (edY p.2 most)), .int .i64 (mxY (edY p.1 most) (edY p.2 most))]) ∧ w = w' := by
  go_enter Tryz.func46, Tryz.ntmps46
  go_wp2_with fail
  refine (reachFrom_any p _ h1).mono ?_
  rintro e w1 ⟨rfl, rfl⟩
  go_wp2_with fail
  refine (endAs_any p.1 most _).mono ?_
  rintro e w1 ⟨rfl, rfl⟩
  go_wp2_with fail
  refine (reachTo_any p _ h2).mono ?_
  rintro e w1 ⟨rfl, rfl⟩
  go_wp2_with fail
  refine (endAs_any p.2 most _).mono ?_
  rintro e w1 ⟨rfl, rfl⟩
  obtain ⟨x, hx⟩ : ∃ x, x = edY p.1 most := ⟨_, rfl⟩
  obtain ⟨y, hy⟩ : ∃ y, y = edY p.2 most := ⟨_, rfl⟩
  rw [← hx, ← hy]
  by_cases h3 : y < x
  · have H1 : Hid (mnY x y = y) := if_pos h3
    have H2 : Hid (mxY x y = x) := if_neg (by omega)
    have h4 : ¬ x < y := by omega
    go_wp2
    go_returns
    exact ⟨by rw [← hx, ← hy, H1.out, H2.out]; rfl, rfl⟩
  · have H1 : Hid (mnY x y = x) := if_neg h3
    by_cases h4 : x < y
    · have H2 : Hid (mxY x y = y) := if_pos h4
      go_wp2
      go_returns
      exact ⟨by rw [← hx, ← hy, H1.out, H2.out]; rfl, rfl⟩
    · have H2 : Hid (mxY x y = x) := if_neg (by omega)
      go_wp2
      go_returns
      exact ⟨by rw [← hx, ← hy, H1.out, H2.out]; rfl, rfl⟩
/-- The range has the number in it. -/
def oneY (n most : Int) (p : YgP) : Bool := bty n (mnY (edY p.1 most) (edY p.2 most)) (mxY (edY p.1 most) (edY p.2 most))
/-- One of the ranges has the number in it. -/
def inY (l : List YgP) (n most : Int) : Bool := l.any (oneY n most)
theorem inY_at {l : List YgP} {n most : Int} {k : Nat} (h : k < l.length) (hx : oneY n most (nthY l k) = true) : inY l n most = true := by
  unfold inY
  rw [List.any_eq_true]
  refine ⟨nthY l k, ?_, hx⟩
  rw [nthY_get h]; exact List.getElem_mem h
theorem inY_none {l : List YgP} {n most : Int} (h : ∀ i, i < l.length → oneY n most (nthY l i) = false) : inY l n most = false := by
  unfold inY
  rw [List.any_eq_false]
  intro p hp
  obtain ⟨i, hi, rfl⟩ := List.getElem_of_mem hp
  have := h i hi
  rw [nthY_get hi] at this
  rw [this]; decide
theorem nthZY (l : List YgP) (i : Nat) : nthZ l i = nthY l i := rfl
theorem rfA_nth {l : List YgP} (h : rfA l = true) {i : Nat} (hi : i < l.length) : bty (nthY l i).1 0 999 = true ∧ bty (nthY l i).2 0 999 = true := by
  have := List.all_eq_true.1 h (nthY l i) (by rw [nthY_get hi]; exact List.getElem_mem hi)
  exact Bool.and_eq_true_iff.1 this

set_option maxHeartbeats 1600000 in
set_option maxRecDepth 100000 in
theorem isInOne_any (n most : Int) (a : Option Addr) (m cap : Nat) (l : List YgP) (w : World) (hl : l.length = m) (hr : RdZ w a l) (hn : m ≤ 1048576) (hok : rfA l = true) :
    Calls Tryz.prog 32 #[.int .i64 n, .int .i64 most, .slice a m cap] w fun e w' => e = .returned (.bool (inY l n most)) ∧ Below w.heap.size w w' := by
  go_enter Tryz.func32, Tryz.ntmps32
  go_wp2
  go_loopw [13] (fun i wr => ∃ k : Nat, k ≤ m ∧ i = .int .i64 k ∧ (∀ i, i < k → oneY n most (nthY l i) = false) ∧ Below w.heap.size w wr) (fun i _ => m - (intOf i).toNat)
  case atStart => exact ⟨0, Nat.zero_le _, rfl, fun i hi => by omega, Below.refl _ _⟩
  case round =>
    obtain ⟨k, hk, rfl, hall, hbel⟩ := hrel
    by_cases hkn : k < m
    · obtain ⟨b, off, rfl, hblt, hcell⟩ := hr.at_ (by omega)
      have hc0 : wr.cell? ⟨b, off + k, none⟩ = some (cz (nthY l k)) := (hbel.cell (p := ⟨b, off + k, none⟩) hblt).trans (hcell k (by omega))
      have hki : (k : Int) < (m : Int) := by omega
      obtain ⟨b1, b2⟩ := rfA_nth hok (i := k) (by omega)
      have HYES : Hid (oneY n most (nthY l k) = true → inY l n most = true) := fun h => inY_at (by omega) h
      have HGO : Hid (oneY n most (nthY l k) = false → ∀ i, i < k + 1 → oneY n most (nthY l i) = false) := fun h i hi => by
        rcases Nat.lt_or_ge i k with h' | h'
        · exact hall i h'
        · rw [show i = k by omega]; exact h
      clear hcell hall
      generalize nthY l k = p at *
      have HE : Hid (_) := ends_any p most
      have hz : (cz p).oneCell' = true := rfl
      obtain ⟨cv, hcv⟩ : ∃ cv, cv = cz p := ⟨_, rfl⟩
      rw [← hcv] at hc0
      unfold cz at hcv
      subst hcv
      go_wp2_with fail
      refine (HE.out _ b1 b2).mono ?_
      rintro e w2 ⟨rfl, rfl⟩
      go_wp2_with fail
      refine (isBetween_y n _ _ _).mono ?_
      rintro e w2 ⟨rfl, rfl⟩
      cases hx : oneY n most p with
      | false =>
        have hx' : bty n (mnY (edY p.1 most) (edY p.2 most)) (mxY (edY p.1 most) (edY p.2 most)) = false := hx
        rw [hx']
        have HV : Hid (_) := HGO.out hx
        clear HGO HYES hx hx'
        go_wp2
        go_roundw
        case rel => exact ⟨k + 1, by omega, by go_num, HV.out, hbel⟩
        case measure => simp [intOf]; omega
      | true =>
        have hx' : bty n (mnY (edY p.1 most) (edY p.2 most)) (mxY (edY p.1 most) (edY p.2 most)) = true := hx
        rw [hx']
        have HV : Hid (_) := HYES.out hx
        clear HGO HYES hx hx'
        go_wp2
        go_ret
        exact ⟨by rw [HV.out]; rfl, hbel⟩
    · have hki : ¬ (k : Int) < (m : Int) := by omega
      have HV : Hid (inY l n most = false) := inY_none (fun i hi => hall i (by omega))
      clear hall
      go_wp2
      go_ret
      exact ⟨by rw [HV.out]; rfl, hbel⟩

/-- What the program's turning of ranges into complex numbers tells. -/
def RoEnd (l : List YgP) (w : World) (e : Ending) (w' : World) : Prop := ∃ v, e = .returned v ∧ OwnZ w' w.heap.size v l ∧ Below w.heap.size w w'
set_option maxHeartbeats 1600000 in
set_option maxRecDepth 100000 in
theorem reachesOf_any (a : Option Addr) (n cap : Nat) (l : List YgP) (w : World) (hl : l.length = n) (hr : RdY w a l) (hn : n ≤ 1048576) :
    Calls Tryz.prog 25 #[.slice a n cap] w fun e w' => RoEnd l w e w' := by
  go_enter Tryz.func25, Tryz.ntmps25
  go_wp2
  go_loopw [3, 8] (fun v i wr => ∃ k : Nat, k ≤ n ∧ i = .int .i64 k ∧ OwnZ wr w.heap.size v (l.take k) ∧ Below w.heap.size w wr) (fun _ i _ => n - (intOf i).toNat)
  case atStart => exact ⟨0, Nat.zero_le _, rfl, OwnZ.nil _ _, Below.refl _ _⟩
  case round =>
    rename_i v _
    obtain ⟨k, hk, rfl, hown, hbel⟩ := hrel
    by_cases hkn : k < n
    · obtain ⟨b, off, rfl, hblt, hcell⟩ := hr.at_ (by omega)
      have hc0 : wr.cell? ⟨b, off + k * 2, none⟩ = some (.int .i64 (nthY l k).1) := (hbel.cell (p := ⟨b, off + k * 2, none⟩) hblt).trans (hcell k (by omega)).1
      have hc1 : wr.cell? ⟨b, off + k * 2 + 1, none⟩ = some (.int .i64 (nthY l k).2) := (hbel.cell (p := ⟨b, off + k * 2 + 1, none⟩) hblt).trans (hcell k (by omega)).2
      have hki : (k : Int) < (n : Int) := by omega
      have HT : Hid (l.take k ++ [nthY l k] = l.take (k + 1)) := (take_snocY l k (by omega)).symm
      have hlt : (l.take k).length = k := by rw [List.length_take]; omega
      clear hcell
      generalize nthY l k = p at *
      obtain ⟨x, y⟩ := p
      simp only at hc0 hc1
      obtain ⟨av, cv, ev, _, _⟩ := hown.form
      rw [hlt] at ev
      subst ev
      have hB1 : Below w.heap.size w (wr.alloc (.cells #[.int .i64 x, .int .i64 y] 42)) := hbel.alloc hbel.size _
      have hown1 := hown.alloc (.cells #[.int .i64 x, .int .i64 y] 42)
      clear hown
      go_wp2_with fail
      refine (reachOf_any x y _).mono ?_
      rintro e w2 ⟨rfl, rfl⟩
      generalize wr.alloc (.cells #[.int .i64 x, .int .i64 y] 42) = W at *
      rw [show cz (x, y) = .complex .f64 (fB x) (fB y) from rfl]
      go_wp2_with (at_builtin; refine wpList_app_newZ rfl _ _ rfl w.heap.size _ (l.take k) rfl hown1 1 1 [(x, y)] rfl rfl rfl (by rw [hlt]; omega) hB1.size ?_; intro v' w3 ho3 hb3)
      have hB3 := hB1.trans hb3
      rw [HT.out] at ho3
      obtain ⟨av', cv', ev', _, _⟩ := ho3.form
      clear hb3 hown1
      go_wp2
      go_roundw
      case rel => exact ⟨k + 1, by omega, by go_num, ho3, hB3⟩
      case measure => simp [intOf]; omega
    · have hki : ¬ (k : Int) < (n : Int) := by omega
      have hkk : l.take k = l := List.take_of_length_le (by omega)
      rw [hkk] at hown
      go_wp2
      go_ret
      exact ⟨_, rfl, hown, hbel⟩
end Go.Proofs.YtlkfmgfblfkgbaaGreatDoor
