/- What is in a set, on both sides: the program's ranges as complex numbers; at every set without a fault; no conditions beyond those that each fact names · Whether a number is in a set, on both sides: at every set and all numbers; no conditions beyond those that each fact names. -/
import Derived.Test.YthmimalplpjghaaGreatDoorMemZ
import Derived.Deep.RegionHeld3
namespace Go.Proofs.YthmimalplpjghaaGreatDoor
open Go.RowKit

theorem reachOf_any (x y : Int) (w : World) : Calls Tryz.prog 222 #[.int .i64 x, .int .i64 y] w fun e w' => e = .returned (cz (x, y)) ∧ w = w' := by
  go_enter Tryz.func222, Tryz.ntmps222
  go_wp2
  go_ret
  exact ⟨rfl, rfl⟩
theorem reachFrom_any (p : YgP) (w : World) (h : bty p.1 0 999 = true) : Calls Tryz.prog 271 #[cz p] w fun e w' => e = .returned (.int .i64 p.1) ∧ w = w' := by
  have hc : ∀ w, (convert 350 2 (.float .f64 (fB p.1))).run Tryz.prog w = .ok (.int .i64 p.1) w := fun w => run_convert_float_int w 350 2 .f64 .i64 (fB p.1) p.1 (by rw [Tryz.underlying350]; rfl) Tryz.underlying2 (fB_back h)
  unfold cz
  go_enter Tryz.func271, Tryz.ntmps271
  go_wp2_with (simp only [hc])
  go_ret
  exact ⟨rfl, rfl⟩
theorem reachTo_any (p : YgP) (w : World) (h : bty p.2 0 999 = true) : Calls Tryz.prog 272 #[cz p] w fun e w' => e = .returned (.int .i64 p.2) ∧ w = w' := by
  have hc : ∀ w, (convert 350 2 (.float .f64 (fB p.2))).run Tryz.prog w = .ok (.int .i64 p.2) w := fun w => run_convert_float_int w 350 2 .f64 .i64 (fB p.2) p.2 (by rw [Tryz.underlying350]; rfl) Tryz.underlying2 (fB_back h)
  unfold cz
  go_enter Tryz.func272, Tryz.ntmps272
  go_wp2_with (simp only [hc])
  go_ret
  exact ⟨rfl, rfl⟩
theorem rfA_nth {l : List YgP} (h : rfA l = true) {i : Nat} (hi : i < l.length) : bty (nthY l i).1 0 999 = true ∧ bty (nthY l i).2 0 999 = true := by
  have := List.all_eq_true.1 h (nthY l i) (by rw [nthY_get hi]; exact List.getElem_mem hi)
  exact Bool.and_eq_true_iff.1 this

/-- What the program's turning of ranges into complex numbers tells. -/
def RoEnd (l : List YgP) (w : World) (e : Ending) (w' : World) : Prop := ∃ v, e = .returned v ∧ OwnZ w' w.heap.size v l ∧ Below w.heap.size w w'
set_option maxHeartbeats 1600000 in
set_option maxRecDepth 100000 in
theorem reachesOf_any (a : Option Addr) (n cap : Nat) (l : List YgP) (w : World) (hl : l.length = n) (hr : RdY w a l) (hn : n ≤ 1048576) :
    Calls Tryz.prog 167 #[.slice a n cap] w fun e w' => RoEnd l w e w' := by
  go_enter Tryz.func167, Tryz.ntmps167
  go_wp2
  go_loopw [3, 8] (fun v i wr => ∃ k : Nat, k ≤ n ∧ i = .int .i64 k ∧ OwnZ wr w.heap.size v (l.take k) ∧ Below w.heap.size w wr) (fun _ i _ => n - (intOf i).toNat)
  case atStart => exact ⟨0, Nat.zero_le _, rfl, OwnZ.nil _ _, Below.refl _ _⟩
  case round =>
    rename_i v _
    obtain ⟨k, hk, rfl, hown, hbel⟩ := hrel
    by_cases hkn : k < n
    · obtain ⟨b, off, rfl, hblt, hcell⟩ := hr.at_ (by omega)
      have hc0 : wr.cell? ⟨b, off + k * 2, none⟩ = some (.int .i64 (nthY l k).1) := (hbel.cell (p := ⟨b, off + k * 2, none⟩) hblt).trans (hcell k (by omega)).1
      have hc1 : wr.cell? ⟨b, off + k * 2 + 1, none⟩ = some (.int .i64 (nthY l k).2) := (hbel.cell (p := ⟨b, off + k * 2 + 1, none⟩) hblt).trans (hcell k (by omega)).2
      have hki : (k : Int) < (n : Int) := by omega
      have HT : Hid (l.take k ++ [nthY l k] = l.take (k + 1)) := (take_snocY l k (by omega)).symm
      have hlt : (l.take k).length = k := by rw [List.length_take]; omega
      clear hcell
      generalize nthY l k = p at *
      obtain ⟨x, y⟩ := p
      simp only at hc0 hc1
      obtain ⟨av, cv, ev, _, _⟩ := hown.form
      rw [hlt] at ev
      subst ev
      have hB1 : Below w.heap.size w (wr.alloc (.cells #[.int .i64 x, .int .i64 y] 188)) := hbel.alloc hbel.size _
      have hown1 := hown.alloc (.cells #[.int .i64 x, .int .i64 y] 188)
      clear hown
      go_wp2_with fail
      refine (reachOf_any x y _).mono ?_
      rintro e w2 ⟨rfl, rfl⟩
      generalize wr.alloc (.cells #[.int .i64 x, .int .i64 y] 188) = W at *
      rw [show cz (x, y) = .complex .f64 (fB x) (fB y) from rfl]
      go_wp2_with (at_builtin; refine wpList_app_newZ rfl _ _ rfl w.heap.size _ (l.take k) rfl hown1 1 1 [(x, y)] rfl rfl rfl (by rw [hlt]; omega) hB1.size ?_; intro v' w3 ho3 hb3)
      have hB3 := hB1.trans hb3
      rw [HT.out] at ho3
      obtain ⟨av', cv', ev', _, _⟩ := ho3.form
      clear hb3 hown1
      go_wp2
      go_roundw
      case rel => exact ⟨k + 1, by omega, by go_num, ho3, hB3⟩
      case measure => simp [intOf]; omega
    · have hki : ¬ (k : Int) < (n : Int) := by omega
      have hkk : l.take k = l := List.take_of_length_le (by omega)
      rw [hkk] at hown
      go_wp2
      go_ret
      exact ⟨_, rfl, hown, hbel⟩
end Go.Proofs.YthmimalplpjghaaGreatDoor

namespace Go.Proofs.YthmimalplpjghaaGreatDoor
open Go.RowKit

theorem rfV_A {l : List YgP} (h : rfV l = 0) : rfA l = true ∧ 1 ≤ l.length ∧ l.length ≤ 8 := by
  unfold rfV at h
  split at h
  · split at h
    · exact ⟨by assumption, by assumption⟩
    · omega
  · omega
theorem rfV_three (l : List YgP) : rfV l = 0 ∨ rfV l = 2 ∨ rfV l = 3 := by
  unfold rfV
  split
  · split
    · exact .inl rfl
    · exact .inr (.inr rfl)
  · exact .inr (.inl rfl)

end Go.Proofs.YthmimalplpjghaaGreatDoor
