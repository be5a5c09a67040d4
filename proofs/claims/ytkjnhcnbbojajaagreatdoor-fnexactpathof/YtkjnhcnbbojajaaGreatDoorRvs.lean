/- slices.Reverse over at most two numbers. -/
import Derived.Test.YtkjnhcnbbojajaaGreatDoorMemFToOpnF
import Derived.Test.YtkjnhcnbbojajaaGreatDoorFdoToFar
import Derived.Test.YtkjnhcnbbojajaaGreatDoorMemPToMrkF
import Derived.RegionTactic
namespace Go.Proofs.YtkjnhcnbbojajaaGreatDoor
open Go.RowKit

set_option maxHeartbeats 3200000 in
set_option maxRecDepth 100000 in
theorem reverse_two (g cap B : Nat) (x y : Int) (w : World) (hown : OwnI w B (.slice (some ⟨g, 0, none⟩) 2 cap) [x, y]) :
    Calls Tryz.prog 74 #[.slice (some ⟨g, 0, none⟩) 2 cap] w fun e w' => e = .returned (.tuple #[]) ∧ OwnI w' B (.slice (some ⟨g, 0, none⟩) 2 cap) [y, x] ∧ w.grownBy w' (some g) := by
  have ho : w.ownsRow B 2 1 (.slice (some ⟨g, 0, none⟩) 2 cap) 2 [.int .i64 x, .int .i64 y] := hown
  have c0 : w.cell? ⟨g, 0, none⟩ = some (.int .i64 x) := ho.cellAt 0 (by omega)
  have c1 : w.cell? ⟨g, 1, none⟩ = some (.int .i64 y) := ho.cellAt 1 (by omega)
  have f0 := ho.frozenAt 0
  have f1 := ho.frozenAt 1
  go_enter Tryz.func74, Tryz.ntmps74
  go_wp2
  go_loopw [2, 3] (fun i j wr => (i = .int .i64 0 ∧ j = .int .i64 1 ∧ wr = w) ∨ (i = .int .i64 1 ∧ j = .int .i64 0 ∧ OwnI wr B (.slice (some ⟨g, 0, none⟩) 2 cap) [y, x] ∧ w.grownBy wr (some g))) (fun i _ _ => 2 - (intOf i).toNat)
  case atStart => exact .inl ⟨rfl, rfl, rfl⟩
  case round =>
    rcases hrel with ⟨rfl, rfl, rfl⟩ | ⟨rfl, rfl, h1, h2⟩
    · go_wp2_with fail
      go_region
      obtain ⟨o1, g1⟩ := ho.stored 0 (.int .i64 y)
      obtain ⟨o2, g2⟩ := o1.stored 1 (.int .i64 x)
      have hO : Hid (OwnI (((wr.setCell ⟨g, 0, none⟩ (.int .i64 y)).setCell ⟨g, 1, none⟩ (.int .i64 x)).drew) B (.slice (some ⟨g, 0, none⟩) 2 cap) [y, x] ∧ wr.grownBy (((wr.setCell ⟨g, 0, none⟩ (.int .i64 y)).setCell ⟨g, 1, none⟩ (.int .i64 x)).drew) (some g)) := ⟨o2, let h := grow_then g1 g2; ⟨h.os, h.tape, h.output, h.size, h.block⟩⟩
      clear o1 g1 o2 g2 ho hown
      go_wp2
      go_roundw
      case rel => exact .inr ⟨rfl, rfl, hO.out.1, hO.out.2⟩
      case measure => simp [intOf]
    · go_wp2
      go_end0
      exact ⟨rfl, h1, h2⟩

set_option maxHeartbeats 1600000 in
set_option maxRecDepth 100000 in
theorem reverse_few (a : Option Addr) (n cap : Nat) (w : World) (hn : n ≤ 1) :
    Calls Tryz.prog 74 #[.slice a n cap] w fun e w' => e = .returned (.tuple #[]) ∧ w = w' := by
  have hni : ¬ (0 : Int) < (n : Int) - 1 := by omega
  go_enter Tryz.func74, Tryz.ntmps74
  go_wp2
  go_loop [2, 3] (fun i j => i = .int .i64 0 ∧ j = .int .i64 ((n : Int) - 1)) (fun _ _ => 0)
  case atStart => exact ⟨rfl, rfl⟩
  case round =>
    obtain ⟨rfl, rfl⟩ := hrel
    go_wp2
    go_end0
    exact ⟨rfl, rfl⟩
/-- slices.Reverse over at most two numbers of the call's own. -/
theorem reverse_any (v : Value) (B : Nat) (l : List Int) (w : World) (hown : OwnI w B v l) (hl : l.length ≤ 2) :
    Calls Tryz.prog 74 #[v] w fun e w' => e = .returned (.tuple #[]) ∧ OwnI w' B v l.reverse ∧ w.grownBy w' v.ownBlock := by
  match l, hl, hown with
  | [], _, hown =>
    obtain ⟨a, cp, hv, -, -⟩ := hown.form
    subst hv
    refine (reverse_few a 0 cp w (by omega)).mono ?_
    rintro e w' ⟨rfl, rfl⟩
    exact ⟨rfl, hown, World.grownBy.refl _ _⟩
  | [x], _, hown =>
    obtain ⟨a, cp, hv, -, -⟩ := hown.form
    subst hv
    refine (reverse_few a 1 cp w (by omega)).mono ?_
    rintro e w' ⟨rfl, rfl⟩
    exact ⟨rfl, hown, World.grownBy.refl _ _⟩
  | [x, y], _, hown =>
    rcases hown.2 with ⟨_, h1⟩ | ⟨g, cap, cur, h1, _⟩
    · simp at h1
    · subst h1
      exact reverse_two g cap B x y w hown
end Go.Proofs.YtkjnhcnbbojajaaGreatDoor
