/- Commands: the laws' copy of one; no conditions beyond those that each fact names. -/
import Derived.Test.YtjogclofjollnaaGreatDoorTmtToCms
namespace Go.Proofs.YtjogclofjollnaaGreatDoor
open Go.RowKit
set_option maxHeartbeats 1600000 in
set_option maxRecDepth 100000 in
theorem toCmd_ft (o : CmR) (p : SlC) {lo : Nat} (w : World) (hs : IsCm lo w p o) (hf : FtC o) :
  Calls Tryz.prog 6 #[cmX o p] w fun e w' => ∃ p', e = .returned (cmX o p') ∧ IsCm w.heap.size w' p' o ∧ Below w.heap.size w w' := by
 have hbW : Below w.heap.size w (((w.alloc (.cells #[.string o.t, .int .i64 o.k, .string o.n, slW p.1, .int .i64 o.m, .int .i64 o.f, .int .i64 o.d, slW p.2.1, .int .i64 o.h, slW p.2.2.1, .int .i64 o.e, .bool o.r, slW p.2.2.2, .int .i64 o.c] 27)).alloc (.cells #[.string ⟨#[]⟩, .int .i64 0, .string ⟨#[]⟩, .slice none 0 0, .int .i64 0, .int .i64 0, .int .i64 0, .slice none 0 0, .int .i64 0, .slice none 0 0, .int .i64 0, .bool false, .slice none 0 0, .int .i64 0] 35)).alloc (.cells #[.string o.t, .int .i64 o.k, .string o.n, .slice none 0 0, .int .i64 0, .int .i64 0, .int .i64 0, .slice none 0 0, .int .i64 0, .slice none 0 0, .int .i64 0, .bool false, .slice none 0 0, .int .i64 0] 35)) :=
  (((Below.refl _ _).alloc (Nat.le_refl _) _).alloc (by simp) _).alloc (by simp; omega) _
 have hsz : (((w.alloc (.cells #[.string o.t, .int .i64 o.k, .string o.n, slW p.1, .int .i64 o.m, .int .i64 o.f, .int .i64 o.d, slW p.2.1, .int .i64 o.h, slW p.2.2.1, .int .i64 o.e, .bool o.r, slW p.2.2.2, .int .i64 o.c] 27)).alloc (.cells #[.string ⟨#[]⟩, .int .i64 0, .string ⟨#[]⟩, .slice none 0 0, .int .i64 0, .int .i64 0, .int .i64 0, .slice none 0 0, .int .i64 0, .slice none 0 0, .int .i64 0, .bool false, .slice none 0 0, .int .i64 0] 35)).alloc (.cells #[.string o.t, .int .i64 o.k, .string o.n, .slice none 0 0, .int .i64 0, .int .i64 0, .int .i64 0, .slice none 0 0, .int .i64 0, .slice none 0 0, .int .i64 0, .bool false, .slice none 0 0, .int .i64 0] 35)).heap.size = w.heap.size + 3 := by simp
 have hA : Qm (((w.alloc (.cells #[.string o.t, .int .i64 o.k, .string o.n, slW p.1, .int .i64 o.m, .int .i64 o.f, .int .i64 o.d, slW p.2.1, .int .i64 o.h, slW p.2.2.1, .int .i64 o.e, .bool o.r, slW p.2.2.2, .int .i64 o.c] 27)).alloc (.cells #[.string ⟨#[]⟩, .int .i64 0, .string ⟨#[]⟩, .slice none 0 0, .int .i64 0, .int .i64 0, .int .i64 0, .slice none 0 0, .int .i64 0, .slice none 0 0, .int .i64 0, .bool false, .slice none 0 0, .int .i64 0] 35)).alloc (.cells #[.string o.t, .int .i64 o.k, .string o.n, .slice none 0 0, .int .i64 0, .int .i64 0, .int .i64 0, .slice none 0 0, .int .i64 0, .slice none 0 0, .int .i64 0, .bool false, .slice none 0 0, .int .i64 0] 35)) w.heap.size ⟨.string o.t, .int .i64 o.k, .string o.n, slW p.1, .int .i64 o.m, .int .i64 o.f, .int .i64 o.d, slW p.2.1, .int .i64 o.h, slW p.2.2.1, .int .i64 o.e, .bool o.r, slW p.2.2.2, .int .i64 o.c⟩ := ((Qm.new w _ _ _ _ _ _ _ _ _ _ _ _ _ _ _).below ((Below.refl _ _).alloc (Nat.le_refl _) _) (by simp)).below ((Below.refl _ _).alloc (Nat.le_refl _) _) (by simp; omega)
 have hR : Qm (((w.alloc (.cells #[.string o.t, .int .i64 o.k, .string o.n, slW p.1, .int .i64 o.m, .int .i64 o.f, .int .i64 o.d, slW p.2.1, .int .i64 o.h, slW p.2.2.1, .int .i64 o.e, .bool o.r, slW p.2.2.2, .int .i64 o.c] 27)).alloc (.cells #[.string ⟨#[]⟩, .int .i64 0, .string ⟨#[]⟩, .slice none 0 0, .int .i64 0, .int .i64 0, .int .i64 0, .slice none 0 0, .int .i64 0, .slice none 0 0, .int .i64 0, .bool false, .slice none 0 0, .int .i64 0] 35)).alloc (.cells #[.string o.t, .int .i64 o.k, .string o.n, .slice none 0 0, .int .i64 0, .int .i64 0, .int .i64 0, .slice none 0 0, .int .i64 0, .slice none 0 0, .int .i64 0, .bool false, .slice none 0 0, .int .i64 0] 35)) (w.heap.size + 1) ⟨.string ⟨#[]⟩, .int .i64 0, .string ⟨#[]⟩, .slice none 0 0, .int .i64 0, .int .i64 0, .int .i64 0, .slice none 0 0, .int .i64 0, .slice none 0 0, .int .i64 0, .bool false, .slice none 0 0, .int .i64 0⟩ := by
  have h := (Qm.new (w.alloc (.cells #[.string o.t, .int .i64 o.k, .string o.n, slW p.1, .int .i64 o.m, .int .i64 o.f, .int .i64 o.d, slW p.2.1, .int .i64 o.h, slW p.2.2.1, .int .i64 o.e, .bool o.r, slW p.2.2.2, .int .i64 o.c] 27)) (.string ⟨#[]⟩) (.int .i64 0) (.string ⟨#[]⟩) (.slice none 0 0) (.int .i64 0) (.int .i64 0) (.int .i64 0) (.slice none 0 0) (.int .i64 0) (.slice none 0 0) (.int .i64 0) (.bool false) (.slice none 0 0) (.int .i64 0) 35).below ((Below.refl _ _).alloc (Nat.le_refl _) (.cells #[.string o.t, .int .i64 o.k, .string o.n, .slice none 0 0, .int .i64 0, .int .i64 0, .int .i64 0, .slice none 0 0, .int .i64 0, .slice none 0 0, .int .i64 0, .bool false, .slice none 0 0, .int .i64 0] 35)) (by simp)
  simpa using h
 have hO : Qm (((w.alloc (.cells #[.string o.t, .int .i64 o.k, .string o.n, slW p.1, .int .i64 o.m, .int .i64 o.f, .int .i64 o.d, slW p.2.1, .int .i64 o.h, slW p.2.2.1, .int .i64 o.e, .bool o.r, slW p.2.2.2, .int .i64 o.c] 27)).alloc (.cells #[.string ⟨#[]⟩, .int .i64 0, .string ⟨#[]⟩, .slice none 0 0, .int .i64 0, .int .i64 0, .int .i64 0, .slice none 0 0, .int .i64 0, .slice none 0 0, .int .i64 0, .bool false, .slice none 0 0, .int .i64 0] 35)).alloc (.cells #[.string o.t, .int .i64 o.k, .string o.n, .slice none 0 0, .int .i64 0, .int .i64 0, .int .i64 0, .slice none 0 0, .int .i64 0, .slice none 0 0, .int .i64 0, .bool false, .slice none 0 0, .int .i64 0] 35)) (w.heap.size + 1 + 1) ⟨.string o.t, .int .i64 o.k, .string o.n, .slice none 0 0, .int .i64 0, .int .i64 0, .int .i64 0, .slice none 0 0, .int .i64 0, .slice none 0 0, .int .i64 0, .bool false, .slice none 0 0, .int .i64 0⟩ := by
  have h := (Qm.new ((w.alloc (.cells #[.string o.t, .int .i64 o.k, .string o.n, slW p.1, .int .i64 o.m, .int .i64 o.f, .int .i64 o.d, slW p.2.1, .int .i64 o.h, slW p.2.2.1, .int .i64 o.e, .bool o.r, slW p.2.2.2, .int .i64 o.c] 27)).alloc (.cells #[.string ⟨#[]⟩, .int .i64 0, .string ⟨#[]⟩, .slice none 0 0, .int .i64 0, .int .i64 0, .int .i64 0, .slice none 0 0, .int .i64 0, .slice none 0 0, .int .i64 0, .bool false, .slice none 0 0, .int .i64 0] 35)) (.string o.t) (.int .i64 o.k) (.string o.n) (.slice none 0 0) (.int .i64 0) (.int .i64 0) (.int .i64 0) (.slice none 0 0) (.int .i64 0) (.slice none 0 0) (.int .i64 0) (.bool false) (.slice none 0 0) (.int .i64 0) 35)
  simpa using h
 have fR : Fm (((w.alloc (.cells #[.string o.t, .int .i64 o.k, .string o.n, slW p.1, .int .i64 o.m, .int .i64 o.f, .int .i64 o.d, slW p.2.1, .int .i64 o.h, slW p.2.2.1, .int .i64 o.e, .bool o.r, slW p.2.2.2, .int .i64 o.c] 27)).alloc (.cells #[.string ⟨#[]⟩, .int .i64 0, .string ⟨#[]⟩, .slice none 0 0, .int .i64 0, .int .i64 0, .int .i64 0, .slice none 0 0, .int .i64 0, .slice none 0 0, .int .i64 0, .bool false, .slice none 0 0, .int .i64 0] 35)).alloc (.cells #[.string o.t, .int .i64 o.k, .string o.n, .slice none 0 0, .int .i64 0, .int .i64 0, .int .i64 0, .slice none 0 0, .int .i64 0, .slice none 0 0, .int .i64 0, .bool false, .slice none 0 0, .int .i64 0] 35)) (w.heap.size + 1) := by
  have h := (Fm.new (w.alloc (.cells #[.string o.t, .int .i64 o.k, .string o.n, slW p.1, .int .i64 o.m, .int .i64 o.f, .int .i64 o.d, slW p.2.1, .int .i64 o.h, slW p.2.2.1, .int .i64 o.e, .bool o.r, slW p.2.2.2, .int .i64 o.c] 27)) (.string ⟨#[]⟩) (.int .i64 0) (.string ⟨#[]⟩) (.slice none 0 0) (.int .i64 0) (.int .i64 0) (.int .i64 0) (.slice none 0 0) (.int .i64 0) (.slice none 0 0) (.int .i64 0) (.bool false) (.slice none 0 0) (.int .i64 0) 35).below ((Below.refl _ _).alloc (Nat.le_refl _) (.cells #[.string o.t, .int .i64 o.k, .string o.n, .slice none 0 0, .int .i64 0, .int .i64 0, .int .i64 0, .slice none 0 0, .int .i64 0, .slice none 0 0, .int .i64 0, .bool false, .slice none 0 0, .int .i64 0] 35)) (by simp)
  simpa using h
 have fO : Fm (((w.alloc (.cells #[.string o.t, .int .i64 o.k, .string o.n, slW p.1, .int .i64 o.m, .int .i64 o.f, .int .i64 o.d, slW p.2.1, .int .i64 o.h, slW p.2.2.1, .int .i64 o.e, .bool o.r, slW p.2.2.2, .int .i64 o.c] 27)).alloc (.cells #[.string ⟨#[]⟩, .int .i64 0, .string ⟨#[]⟩, .slice none 0 0, .int .i64 0, .int .i64 0, .int .i64 0, .slice none 0 0, .int .i64 0, .slice none 0 0, .int .i64 0, .bool false, .slice none 0 0, .int .i64 0] 35)).alloc (.cells #[.string o.t, .int .i64 o.k, .string o.n, .slice none 0 0, .int .i64 0, .int .i64 0, .int .i64 0, .slice none 0 0, .int .i64 0, .slice none 0 0, .int .i64 0, .bool false, .slice none 0 0, .int .i64 0] 35)) (w.heap.size + 1 + 1) := by
  have h := (Fm.new ((w.alloc (.cells #[.string o.t, .int .i64 o.k, .string o.n, slW p.1, .int .i64 o.m, .int .i64 o.f, .int .i64 o.d, slW p.2.1, .int .i64 o.h, slW p.2.2.1, .int .i64 o.e, .bool o.r, slW p.2.2.2, .int .i64 o.c] 27)).alloc (.cells #[.string ⟨#[]⟩, .int .i64 0, .string ⟨#[]⟩, .slice none 0 0, .int .i64 0, .int .i64 0, .int .i64 0, .slice none 0 0, .int .i64 0, .slice none 0 0, .int .i64 0, .bool false, .slice none 0 0, .int .i64 0] 35)) (.string o.t) (.int .i64 o.k) (.string o.n) (.slice none 0 0) (.int .i64 0) (.int .i64 0) (.int .i64 0) (.slice none 0 0) (.int .i64 0) (.slice none 0 0) (.int .i64 0) (.bool false) (.slice none 0 0) (.int .i64 0) 35)
  simpa using h
 obtain ⟨hy, hb, hp, hu⟩ := hs
 obtain ⟨-, -, hf1, hf2, hf3, hf4⟩ := hf
 have HC := toYl_any p.1 o.y _ (hy.below hbW) hf1
 have HX : Hid (IsSl lo w p.2.1 o.b ∧ IsIl lo w p.2.2.1 o.p ∧ IsTs lo w p.2.2.2 o.u) := ⟨hb, hp, hu⟩
 clear hy hb hp hu
 go_enter Tryz.func6, Tryz.ntmps6
 go_wp2_with fail
 generalize (((w.alloc (.cells #[.string o.t, .int .i64 o.k, .string o.n, slW p.1, .int .i64 o.m, .int .i64 o.f, .int .i64 o.d, slW p.2.1, .int .i64 o.h, slW p.2.2.1, .int .i64 o.e, .bool o.r, slW p.2.2.2, .int .i64 o.c] 27)).alloc (.cells #[.string ⟨#[]⟩, .int .i64 0, .string ⟨#[]⟩, .slice none 0 0, .int .i64 0, .int .i64 0, .int .i64 0, .slice none 0 0, .int .i64 0, .slice none 0 0, .int .i64 0, .bool false, .slice none 0 0, .int .i64 0] 35)).alloc (.cells #[.string o.t, .int .i64 o.k, .string o.n, .slice none 0 0, .int .i64 0, .int .i64 0, .int .i64 0, .slice none 0 0, .int .i64 0, .slice none 0 0, .int .i64 0, .bool false, .slice none 0 0, .int .i64 0] 35)) = W at *
 refine HC.mono ?_
 rintro e w1 ⟨s1, rfl, hI1, hb1⟩
 rw [hsz] at hI1
 have hA1 := hA.below hb1 (by omega)
 have hR1 := hR.below hb1 (by omega)
 have hO1 := hO.below hb1 (by omega)
 have fR1 := fR.below hb1 (by omega)
 have fO1 := fO.below hb1 (by omega)
 have hz1 : w.heap.size + 3 ≤ w1.heap.size := by rw [← hsz]; exact hb1.size
 have hB1 : Below w.heap.size w w1 := hbW.trans (hb1.mono (by omega))
 clear HC hA hR hO fR fO hb1 hsz hbW W hf1
 have hN : Near (w.heap.size + 3) w1 ((((w1.setCell ⟨w.heap.size + 1 + 1, 3, none⟩ (slW s1)).setCell ⟨w.heap.size + 1 + 1, 4, none⟩ (.int .i64 o.m)).setCell ⟨w.heap.size + 1 + 1, 5, none⟩ (.int .i64 o.f)).setCell ⟨w.heap.size + 1 + 1, 6, none⟩ (.int .i64 o.d)) := ((((Near.set _ (show w.heap.size + 1 + 1 < w.heap.size + 3 by omega)).trans (Near.set _ (show w.heap.size + 1 + 1 < w.heap.size + 3 by omega))).trans (Near.set _ (show w.heap.size + 1 + 1 < w.heap.size + 3 by omega))).trans (Near.set _ (show w.heap.size + 1 + 1 < w.heap.size + 3 by omega)))
 have hO' : Qm ((((w1.setCell ⟨w.heap.size + 1 + 1, 3, none⟩ (slW s1)).setCell ⟨w.heap.size + 1 + 1, 4, none⟩ (.int .i64 o.m)).setCell ⟨w.heap.size + 1 + 1, 5, none⟩ (.int .i64 o.f)).setCell ⟨w.heap.size + 1 + 1, 6, none⟩ (.int .i64 o.d)) (w.heap.size + 1 + 1) ⟨.string o.t, .int .i64 o.k, .string o.n, slW s1, .int .i64 o.m, .int .i64 o.f, .int .i64 o.d, .slice none 0 0, .int .i64 0, .slice none 0 0, .int .i64 0, .bool false, .slice none 0 0, .int .i64 0⟩ := ((((hO1.put3 (slW s1)).put4 (.int .i64 o.m)).put5 (.int .i64 o.f)).put6 (.int .i64 o.d))
 have fO' : Fm ((((w1.setCell ⟨w.heap.size + 1 + 1, 3, none⟩ (slW s1)).setCell ⟨w.heap.size + 1 + 1, 4, none⟩ (.int .i64 o.m)).setCell ⟨w.heap.size + 1 + 1, 5, none⟩ (.int .i64 o.f)).setCell ⟨w.heap.size + 1 + 1, 6, none⟩ (.int .i64 o.d)) (w.heap.size + 1 + 1) := ((((fO1.set ⟨w.heap.size + 1 + 1, 3, none⟩ (slW s1)).set ⟨w.heap.size + 1 + 1, 4, none⟩ (.int .i64 o.m)).set ⟨w.heap.size + 1 + 1, 5, none⟩ (.int .i64 o.f)).set ⟨w.heap.size + 1 + 1, 6, none⟩ (.int .i64 o.d))
 have hR' : Qm ((((w1.setCell ⟨w.heap.size + 1 + 1, 3, none⟩ (slW s1)).setCell ⟨w.heap.size + 1 + 1, 4, none⟩ (.int .i64 o.m)).setCell ⟨w.heap.size + 1 + 1, 5, none⟩ (.int .i64 o.f)).setCell ⟨w.heap.size + 1 + 1, 6, none⟩ (.int .i64 o.d)) (w.heap.size + 1) ⟨.string ⟨#[]⟩, .int .i64 0, .string ⟨#[]⟩, .slice none 0 0, .int .i64 0, .int .i64 0, .int .i64 0, .slice none 0 0, .int .i64 0, .slice none 0 0, .int .i64 0, .bool false, .slice none 0 0, .int .i64 0⟩ := ((((hR1.far (w.heap.size + 1 + 1) 3 (slW s1) (by omega)).far (w.heap.size + 1 + 1) 4 (.int .i64 o.m) (by omega)).far (w.heap.size + 1 + 1) 5 (.int .i64 o.f) (by omega)).far (w.heap.size + 1 + 1) 6 (.int .i64 o.d) (by omega))
 have fR' : Fm ((((w1.setCell ⟨w.heap.size + 1 + 1, 3, none⟩ (slW s1)).setCell ⟨w.heap.size + 1 + 1, 4, none⟩ (.int .i64 o.m)).setCell ⟨w.heap.size + 1 + 1, 5, none⟩ (.int .i64 o.f)).setCell ⟨w.heap.size + 1 + 1, 6, none⟩ (.int .i64 o.d)) (w.heap.size + 1) := ((((fR1.set ⟨w.heap.size + 1 + 1, 3, none⟩ (slW s1)).set ⟨w.heap.size + 1 + 1, 4, none⟩ (.int .i64 o.m)).set ⟨w.heap.size + 1 + 1, 5, none⟩ (.int .i64 o.f)).set ⟨w.heap.size + 1 + 1, 6, none⟩ (.int .i64 o.d))
 have hA' : Qm ((((w1.setCell ⟨w.heap.size + 1 + 1, 3, none⟩ (slW s1)).setCell ⟨w.heap.size + 1 + 1, 4, none⟩ (.int .i64 o.m)).setCell ⟨w.heap.size + 1 + 1, 5, none⟩ (.int .i64 o.f)).setCell ⟨w.heap.size + 1 + 1, 6, none⟩ (.int .i64 o.d)) w.heap.size ⟨.string o.t, .int .i64 o.k, .string o.n, slW p.1, .int .i64 o.m, .int .i64 o.f, .int .i64 o.d, slW p.2.1, .int .i64 o.h, slW p.2.2.1, .int .i64 o.e, .bool o.r, slW p.2.2.2, .int .i64 o.c⟩ := ((((hA1.far (w.heap.size + 1 + 1) 3 (slW s1) (by omega)).far (w.heap.size + 1 + 1) 4 (.int .i64 o.m) (by omega)).far (w.heap.size + 1 + 1) 5 (.int .i64 o.f) (by omega)).far (w.heap.size + 1 + 1) 6 (.int .i64 o.d) (by omega))
 have hB' : Below w.heap.size w ((((w1.setCell ⟨w.heap.size + 1 + 1, 3, none⟩ (slW s1)).setCell ⟨w.heap.size + 1 + 1, 4, none⟩ (.int .i64 o.m)).setCell ⟨w.heap.size + 1 + 1, 5, none⟩ (.int .i64 o.f)).setCell ⟨w.heap.size + 1 + 1, 6, none⟩ (.int .i64 o.d)) := ((((hB1.setCell (by simp; omega) _).setCell (by simp; omega) _).setCell (by simp; omega) _).setCell (by simp; omega) _)
 have hz' : w.heap.size + 3 ≤ ((((w1.setCell ⟨w.heap.size + 1 + 1, 3, none⟩ (slW s1)).setCell ⟨w.heap.size + 1 + 1, 4, none⟩ (.int .i64 o.m)).setCell ⟨w.heap.size + 1 + 1, 5, none⟩ (.int .i64 o.f)).setCell ⟨w.heap.size + 1 + 1, 6, none⟩ (.int .i64 o.d)).heap.size := by simpa using hz1
 have hI1' := hI1.near hN
 have HK : Hid (_) := And.intro hO' (And.intro fO' (And.intro hR' (And.intro fR' (And.intro hA' (And.intro hB' (And.intro hz' (hI1')))))))
 have HC : Hid (_) := And.intro (toSl_any p.2.1 o.b ((((w1.setCell ⟨w.heap.size + 1 + 1, 3, none⟩ (slW s1)).setCell ⟨w.heap.size + 1 + 1, 4, none⟩ (.int .i64 o.m)).setCell ⟨w.heap.size + 1 + 1, 5, none⟩ (.int .i64 o.f)).setCell ⟨w.heap.size + 1 + 1, 6, none⟩ (.int .i64 o.d)) ((HX.out.1).below hB') hf2) True.intro
 obtain ⟨a0, a1, a2, a3, a4, a5, a6, a7, a8, a9, a10, a11, a12, a13⟩ := hA1
 obtain ⟨o0, o1, o2, o3, o4, o5, o6, o7, o8, o9, o10, o11, o12, o13⟩ := hO1
 obtain ⟨f0, f1, f2, f3, f4, f5, f6, f7, f8, f9, f10, f11, f12, f13⟩ := fO1
 dsimp only at a0 a1 a2 a3 a4 a5 a6 a7 a8 a9 a10 a11 a12 a13 o0 o1 o2 o3 o4 o5 o6 o7 o8 o9 o10 o11 o12 o13
 clear hR1 fR1 hB1 hz1 hN hO' fO' hR' fR' hA' hB' hz' hI1' hI1
 go_wp2_with fail
 obtain ⟨hO', fO', hR', fR', hA', hB', hz', hI1'⟩ := HK.out
 replace HC := HC.out.1
 clear HK a0 o0 f0 a1 o1 f1 a2 o2 f2 a3 o3 f3 a4 o4 f4 a5 o5 f5 a6 o6 f6 a7 o7 f7 a8 o8 f8 a9 o9 f9 a10 o10 f10 a11 o11 f11 a12 o12 f12 a13 o13 f13
 generalize (((w1.setCell ⟨w.heap.size + 1 + 1, 3, none⟩ (slW s1)).setCell ⟨w.heap.size + 1 + 1, 4, none⟩ (.int .i64 o.m)).setCell ⟨w.heap.size + 1 + 1, 5, none⟩ (.int .i64 o.f)).setCell ⟨w.heap.size + 1 + 1, 6, none⟩ (.int .i64 o.d) = W at *
 refine HC.mono ?_
 rintro e w2 ⟨s2, rfl, hI2, hb⟩
 have hz2 : w.heap.size + 3 ≤ w2.heap.size := Nat.le_trans hz' hb.size
 have hA2 := hA'.below hb hA'.lt
 have hR2 := hR'.below hb hR'.lt
 have hO2 := hO'.below hb hO'.lt
 have fR2 := fR'.below hb hR'.lt
 have fO2 := fO'.below hb hO'.lt
 have hB2 : Below w.heap.size w w2 := hB'.trans (hb.mono hB'.size)
 replace hI2 := hI2.low (lo' := w.heap.size + 3) hz'
 have hI1 := hI1'.below hb
 clear HC hb hz' hA' hR' hO' fR' fO' hB' W hI1'
 have hN : Near (w.heap.size + 3) w2 ((w2.setCell ⟨w.heap.size + 1 + 1, 7, none⟩ (slW s2)).setCell ⟨w.heap.size + 1 + 1, 8, none⟩ (.int .i64 o.h)) := ((Near.set _ (show w.heap.size + 1 + 1 < w.heap.size + 3 by omega)).trans (Near.set _ (show w.heap.size + 1 + 1 < w.heap.size + 3 by omega)))
 have hO' : Qm ((w2.setCell ⟨w.heap.size + 1 + 1, 7, none⟩ (slW s2)).setCell ⟨w.heap.size + 1 + 1, 8, none⟩ (.int .i64 o.h)) (w.heap.size + 1 + 1) ⟨.string o.t, .int .i64 o.k, .string o.n, slW s1, .int .i64 o.m, .int .i64 o.f, .int .i64 o.d, slW s2, .int .i64 o.h, .slice none 0 0, .int .i64 0, .bool false, .slice none 0 0, .int .i64 0⟩ := ((hO2.put7 (slW s2)).put8 (.int .i64 o.h))
 have fO' : Fm ((w2.setCell ⟨w.heap.size + 1 + 1, 7, none⟩ (slW s2)).setCell ⟨w.heap.size + 1 + 1, 8, none⟩ (.int .i64 o.h)) (w.heap.size + 1 + 1) := ((fO2.set ⟨w.heap.size + 1 + 1, 7, none⟩ (slW s2)).set ⟨w.heap.size + 1 + 1, 8, none⟩ (.int .i64 o.h))
 have hR' : Qm ((w2.setCell ⟨w.heap.size + 1 + 1, 7, none⟩ (slW s2)).setCell ⟨w.heap.size + 1 + 1, 8, none⟩ (.int .i64 o.h)) (w.heap.size + 1) ⟨.string ⟨#[]⟩, .int .i64 0, .string ⟨#[]⟩, .slice none 0 0, .int .i64 0, .int .i64 0, .int .i64 0, .slice none 0 0, .int .i64 0, .slice none 0 0, .int .i64 0, .bool false, .slice none 0 0, .int .i64 0⟩ := ((hR2.far (w.heap.size + 1 + 1) 7 (slW s2) (by omega)).far (w.heap.size + 1 + 1) 8 (.int .i64 o.h) (by omega))
 have fR' : Fm ((w2.setCell ⟨w.heap.size + 1 + 1, 7, none⟩ (slW s2)).setCell ⟨w.heap.size + 1 + 1, 8, none⟩ (.int .i64 o.h)) (w.heap.size + 1) := ((fR2.set ⟨w.heap.size + 1 + 1, 7, none⟩ (slW s2)).set ⟨w.heap.size + 1 + 1, 8, none⟩ (.int .i64 o.h))
 have hA' : Qm ((w2.setCell ⟨w.heap.size + 1 + 1, 7, none⟩ (slW s2)).setCell ⟨w.heap.size + 1 + 1, 8, none⟩ (.int .i64 o.h)) w.heap.size ⟨.string o.t, .int .i64 o.k, .string o.n, slW p.1, .int .i64 o.m, .int .i64 o.f, .int .i64 o.d, slW p.2.1, .int .i64 o.h, slW p.2.2.1, .int .i64 o.e, .bool o.r, slW p.2.2.2, .int .i64 o.c⟩ := ((hA2.far (w.heap.size + 1 + 1) 7 (slW s2) (by omega)).far (w.heap.size + 1 + 1) 8 (.int .i64 o.h) (by omega))
 have hB' : Below w.heap.size w ((w2.setCell ⟨w.heap.size + 1 + 1, 7, none⟩ (slW s2)).setCell ⟨w.heap.size + 1 + 1, 8, none⟩ (.int .i64 o.h)) := ((hB2.setCell (by simp; omega) _).setCell (by simp; omega) _)
 have hz' : w.heap.size + 3 ≤ ((w2.setCell ⟨w.heap.size + 1 + 1, 7, none⟩ (slW s2)).setCell ⟨w.heap.size + 1 + 1, 8, none⟩ (.int .i64 o.h)).heap.size := by simpa using hz2
 have hI1' := hI1.near hN
 have hI2' := hI2.near hN
 have HK : Hid (_) := And.intro hO' (And.intro fO' (And.intro hR' (And.intro fR' (And.intro hA' (And.intro hB' (And.intro hz' (And.intro hI1' (hI2'))))))))
 have HC : Hid (_) := And.intro (toIl_any p.2.2.1 o.p ((w2.setCell ⟨w.heap.size + 1 + 1, 7, none⟩ (slW s2)).setCell ⟨w.heap.size + 1 + 1, 8, none⟩ (.int .i64 o.h)) ((HX.out.2.1).below hB') hf3) True.intro
 obtain ⟨a0, a1, a2, a3, a4, a5, a6, a7, a8, a9, a10, a11, a12, a13⟩ := hA2
 obtain ⟨o0, o1, o2, o3, o4, o5, o6, o7, o8, o9, o10, o11, o12, o13⟩ := hO2
 obtain ⟨f0, f1, f2, f3, f4, f5, f6, f7, f8, f9, f10, f11, f12, f13⟩ := fO2
 dsimp only at a0 a1 a2 a3 a4 a5 a6 a7 a8 a9 a10 a11 a12 a13 o0 o1 o2 o3 o4 o5 o6 o7 o8 o9 o10 o11 o12 o13
 clear hR2 fR2 hB2 hz2 hN hO' fO' hR' fR' hA' hB' hz' hI1' hI1 hI2' hI2
 go_wp2_with fail
 obtain ⟨hO', fO', hR', fR', hA', hB', hz', hI1', hI2'⟩ := HK.out
 replace HC := HC.out.1
 clear HK a0 o0 f0 a1 o1 f1 a2 o2 f2 a3 o3 f3 a4 o4 f4 a5 o5 f5 a6 o6 f6 a7 o7 f7 a8 o8 f8 a9 o9 f9 a10 o10 f10 a11 o11 f11 a12 o12 f12 a13 o13 f13
 generalize (w2.setCell ⟨w.heap.size + 1 + 1, 7, none⟩ (slW s2)).setCell ⟨w.heap.size + 1 + 1, 8, none⟩ (.int .i64 o.h) = W at *
 refine HC.mono ?_
 rintro e w3 ⟨s3, rfl, hI3, hb⟩
 have hz3 : w.heap.size + 3 ≤ w3.heap.size := Nat.le_trans hz' hb.size
 have hA3 := hA'.below hb hA'.lt
 have hR3 := hR'.below hb hR'.lt
 have hO3 := hO'.below hb hO'.lt
 have fR3 := fR'.below hb hR'.lt
 have fO3 := fO'.below hb hO'.lt
 have hB3 : Below w.heap.size w w3 := hB'.trans (hb.mono hB'.size)
 replace hI3 := hI3.low (lo' := w.heap.size + 3) hz'
 have hI1 := hI1'.below hb
 have hI2 := hI2'.below hb
 clear HC hb hz' hA' hR' hO' fR' fO' hB' W hI1' hI2'
 have hN : Near (w.heap.size + 3) w3 (((w3.setCell ⟨w.heap.size + 1 + 1, 9, none⟩ (slW s3)).setCell ⟨w.heap.size + 1 + 1, 10, none⟩ (.int .i64 o.e)).setCell ⟨w.heap.size + 1 + 1, 11, none⟩ (.bool o.r)) := (((Near.set _ (show w.heap.size + 1 + 1 < w.heap.size + 3 by omega)).trans (Near.set _ (show w.heap.size + 1 + 1 < w.heap.size + 3 by omega))).trans (Near.set _ (show w.heap.size + 1 + 1 < w.heap.size + 3 by omega)))
 have hO' : Qm (((w3.setCell ⟨w.heap.size + 1 + 1, 9, none⟩ (slW s3)).setCell ⟨w.heap.size + 1 + 1, 10, none⟩ (.int .i64 o.e)).setCell ⟨w.heap.size + 1 + 1, 11, none⟩ (.bool o.r)) (w.heap.size + 1 + 1) ⟨.string o.t, .int .i64 o.k, .string o.n, slW s1, .int .i64 o.m, .int .i64 o.f, .int .i64 o.d, slW s2, .int .i64 o.h, slW s3, .int .i64 o.e, .bool o.r, .slice none 0 0, .int .i64 0⟩ := (((hO3.put9 (slW s3)).put10 (.int .i64 o.e)).put11 (.bool o.r))
 have fO' : Fm (((w3.setCell ⟨w.heap.size + 1 + 1, 9, none⟩ (slW s3)).setCell ⟨w.heap.size + 1 + 1, 10, none⟩ (.int .i64 o.e)).setCell ⟨w.heap.size + 1 + 1, 11, none⟩ (.bool o.r)) (w.heap.size + 1 + 1) := (((fO3.set ⟨w.heap.size + 1 + 1, 9, none⟩ (slW s3)).set ⟨w.heap.size + 1 + 1, 10, none⟩ (.int .i64 o.e)).set ⟨w.heap.size + 1 + 1, 11, none⟩ (.bool o.r))
 have hR' : Qm (((w3.setCell ⟨w.heap.size + 1 + 1, 9, none⟩ (slW s3)).setCell ⟨w.heap.size + 1 + 1, 10, none⟩ (.int .i64 o.e)).setCell ⟨w.heap.size + 1 + 1, 11, none⟩ (.bool o.r)) (w.heap.size + 1) ⟨.string ⟨#[]⟩, .int .i64 0, .string ⟨#[]⟩, .slice none 0 0, .int .i64 0, .int .i64 0, .int .i64 0, .slice none 0 0, .int .i64 0, .slice none 0 0, .int .i64 0, .bool false, .slice none 0 0, .int .i64 0⟩ := (((hR3.far (w.heap.size + 1 + 1) 9 (slW s3) (by omega)).far (w.heap.size + 1 + 1) 10 (.int .i64 o.e) (by omega)).far (w.heap.size + 1 + 1) 11 (.bool o.r) (by omega))
 have fR' : Fm (((w3.setCell ⟨w.heap.size + 1 + 1, 9, none⟩ (slW s3)).setCell ⟨w.heap.size + 1 + 1, 10, none⟩ (.int .i64 o.e)).setCell ⟨w.heap.size + 1 + 1, 11, none⟩ (.bool o.r)) (w.heap.size + 1) := (((fR3.set ⟨w.heap.size + 1 + 1, 9, none⟩ (slW s3)).set ⟨w.heap.size + 1 + 1, 10, none⟩ (.int .i64 o.e)).set ⟨w.heap.size + 1 + 1, 11, none⟩ (.bool o.r))
 have hA' : Qm (((w3.setCell ⟨w.heap.size + 1 + 1, 9, none⟩ (slW s3)).setCell ⟨w.heap.size + 1 + 1, 10, none⟩ (.int .i64 o.e)).setCell ⟨w.heap.size + 1 + 1, 11, none⟩ (.bool o.r)) w.heap.size ⟨.string o.t, .int .i64 o.k, .string o.n, slW p.1, .int .i64 o.m, .int .i64 o.f, .int .i64 o.d, slW p.2.1, .int .i64 o.h, slW p.2.2.1, .int .i64 o.e, .bool o.r, slW p.2.2.2, .int .i64 o.c⟩ := (((hA3.far (w.heap.size + 1 + 1) 9 (slW s3) (by omega)).far (w.heap.size + 1 + 1) 10 (.int .i64 o.e) (by omega)).far (w.heap.size + 1 + 1) 11 (.bool o.r) (by omega))
 have hB' : Below w.heap.size w (((w3.setCell ⟨w.heap.size + 1 + 1, 9, none⟩ (slW s3)).setCell ⟨w.heap.size + 1 + 1, 10, none⟩ (.int .i64 o.e)).setCell ⟨w.heap.size + 1 + 1, 11, none⟩ (.bool o.r)) := (((hB3.setCell (by simp; omega) _).setCell (by simp; omega) _).setCell (by simp; omega) _)
 have hz' : w.heap.size + 3 ≤ (((w3.setCell ⟨w.heap.size + 1 + 1, 9, none⟩ (slW s3)).setCell ⟨w.heap.size + 1 + 1, 10, none⟩ (.int .i64 o.e)).setCell ⟨w.heap.size + 1 + 1, 11, none⟩ (.bool o.r)).heap.size := by simpa using hz3
 have hI1' := hI1.near hN
 have hI2' := hI2.near hN
 have hI3' := hI3.near hN
 have HK : Hid (_) := And.intro hO' (And.intro fO' (And.intro hR' (And.intro fR' (And.intro hA' (And.intro hB' (And.intro hz' (And.intro hI1' (And.intro hI2' (hI3')))))))))
 have HC : Hid (_) := And.intro (toTermS_ft p.2.2.2 o.u (((w3.setCell ⟨w.heap.size + 1 + 1, 9, none⟩ (slW s3)).setCell ⟨w.heap.size + 1 + 1, 10, none⟩ (.int .i64 o.e)).setCell ⟨w.heap.size + 1 + 1, 11, none⟩ (.bool o.r)) ((HX.out.2.2).below hB') hf4) True.intro
 obtain ⟨a0, a1, a2, a3, a4, a5, a6, a7, a8, a9, a10, a11, a12, a13⟩ := hA3
 obtain ⟨o0, o1, o2, o3, o4, o5, o6, o7, o8, o9, o10, o11, o12, o13⟩ := hO3
 obtain ⟨f0, f1, f2, f3, f4, f5, f6, f7, f8, f9, f10, f11, f12, f13⟩ := fO3
 dsimp only at a0 a1 a2 a3 a4 a5 a6 a7 a8 a9 a10 a11 a12 a13 o0 o1 o2 o3 o4 o5 o6 o7 o8 o9 o10 o11 o12 o13
 clear hR3 fR3 hB3 hz3 hN hO' fO' hR' fR' hA' hB' hz' hI1' hI1 hI2' hI2 hI3' hI3
 go_wp2_with fail
 obtain ⟨hO', fO', hR', fR', hA', hB', hz', hI1', hI2', hI3'⟩ := HK.out
 replace HC := HC.out.1
 clear HK a0 o0 f0 a1 o1 f1 a2 o2 f2 a3 o3 f3 a4 o4 f4 a5 o5 f5 a6 o6 f6 a7 o7 f7 a8 o8 f8 a9 o9 f9 a10 o10 f10 a11 o11 f11 a12 o12 f12 a13 o13 f13
 generalize ((w3.setCell ⟨w.heap.size + 1 + 1, 9, none⟩ (slW s3)).setCell ⟨w.heap.size + 1 + 1, 10, none⟩ (.int .i64 o.e)).setCell ⟨w.heap.size + 1 + 1, 11, none⟩ (.bool o.r) = W at *
 refine HC.mono ?_
 rintro e w4 ⟨s4, rfl, hI4, hb⟩
 have hz4 : w.heap.size + 3 ≤ w4.heap.size := Nat.le_trans hz' hb.size
 have hA4 := hA'.below hb hA'.lt
 have hR4 := hR'.below hb hR'.lt
 have hO4 := hO'.below hb hO'.lt
 have fR4 := fR'.below hb hR'.lt
 have fO4 := fO'.below hb hO'.lt
 have hB4 : Below w.heap.size w w4 := hB'.trans (hb.mono hB'.size)
 replace hI4 := hI4.low (lo' := w.heap.size + 3) hz'
 have hI1 := hI1'.below hb
 have hI2 := hI2'.below hb
 have hI3 := hI3'.below hb
 clear HC hb hz' hA' hR' hO' fR' fO' hB' W hI1' hI2' hI3'
 have hO5 := ((hO4.put12 (slW s4)).put13 (.int .i64 o.c))
 have hR5 := ((hR4.far (w.heap.size + 1 + 1) 12 (slW s4) (by omega)).far (w.heap.size + 1 + 1) 13 (.int .i64 o.c) (by omega))
 have hR6 := ((((((((((((((hR5.put0 (.string o.t)).put1 (.int .i64 o.k)).put2 (.string o.n)).put3 (slW s1)).put4 (.int .i64 o.m)).put5 (.int .i64 o.f)).put6 (.int .i64 o.d)).put7 (slW s2)).put8 (.int .i64 o.h)).put9 (slW s3)).put10 (.int .i64 o.e)).put11 (.bool o.r)).put12 (slW s4)).put13 (.int .i64 o.c))
 obtain ⟨a0, a1, a2, a3, a4, a5, a6, a7, a8, a9, a10, a11, a12, a13⟩ := hA4
 obtain ⟨q0, q1, q2, q3, q4, q5, q6, q7, q8, q9, q10, q11, q12, q13⟩ := hR6
 obtain ⟨o0, o1, o2, o3, o4, o5, o6, o7, o8, o9, o10, o11, o12, o13⟩ := hO4
 obtain ⟨f0, f1, f2, f3, f4, f5, f6, f7, f8, f9, f10, f11, f12, f13⟩ := fO4
 obtain ⟨r0, r1, r2, r3, r4, r5, r6, r7, r8, r9, r10, r11, r12, r13⟩ := hR4
 obtain ⟨y0, y1, y2, y3, y4, y5, y6, y7, y8, y9, y10, y11, y12, y13⟩ := fR4
 obtain ⟨k0, k1, k2, k3, k4, k5, k6, k7, k8, k9, k10, k11, k12, k13⟩ := hO5
 dsimp only at a0 q0 o0 r0 k0 a1 q1 o1 r1 k1 a2 q2 o2 r2 k2 a3 q3 o3 r3 k3 a4 q4 o4 r4 k4 a5 q5 o5 r5 k5 a6 q6 o6 r6 k6 a7 q7 o7 r7 k7 a8 q8 o8 r8 k8 a9 q9 o9 r9 k9 a10 q10 o10 r10 k10 a11 q11 o11 r11 k11 a12 q12 o12 r12 k12 a13 q13 o13 r13 k13
 have HS : Hid (IsYl (w.heap.size + 3) w4 s1 o.y ∧ IsSl (w.heap.size + 3) w4 s2 o.b ∧ IsIl (w.heap.size + 3) w4 s3 o.p ∧ IsTs (w.heap.size + 3) w4 s4 o.u) := ⟨hI1, hI2, hI3, hI4⟩
 have hg1 : w.heap.size + 1 + 1 ≠ w.heap.size + 1 := by omega
 have HB : Hid (_) := And.intro hB4 hz4
 clear hI1 hI2 hI3 hI4 hR5 hB4 HX
 go_wp2
 refine bodyPost_ret (v := .agg #[.string o.t, .int .i64 o.k, .string o.n, slW s1, .int .i64 o.m, .int .i64 o.f, .int .i64 o.d, slW s2, .int .i64 o.h, slW s3, .int .i64 o.e, .bool o.r, slW s4, .int .i64 o.c]) (by simp [results, Tryz.results6, go_sem, q0, q1, q2, q3, q4, q5, q6, q7, q8, q9, q10, q11, q12, q13]) rfl ?_
 obtain ⟨hB4, hz4⟩ := HB.out
 have hN : Near (w.heap.size + 3) w4 ((((((((((((((((w4.setCell ⟨w.heap.size + 1 + 1, 12, none⟩ (slW s4)).setCell ⟨w.heap.size + 1 + 1, 13, none⟩ (.int .i64 o.c)).setCell ⟨w.heap.size + 1, 0, none⟩ (.string o.t)).setCell ⟨w.heap.size + 1, 1, none⟩ (.int .i64 o.k)).setCell ⟨w.heap.size + 1, 2, none⟩ (.string o.n)).setCell ⟨w.heap.size + 1, 3, none⟩ (slW s1)).setCell ⟨w.heap.size + 1, 4, none⟩ (.int .i64 o.m)).setCell ⟨w.heap.size + 1, 5, none⟩ (.int .i64 o.f)).setCell ⟨w.heap.size + 1, 6, none⟩ (.int .i64 o.d)).setCell ⟨w.heap.size + 1, 7, none⟩ (slW s2)).setCell ⟨w.heap.size + 1, 8, none⟩ (.int .i64 o.h)).setCell ⟨w.heap.size + 1, 9, none⟩ (slW s3)).setCell ⟨w.heap.size + 1, 10, none⟩ (.int .i64 o.e)).setCell ⟨w.heap.size + 1, 11, none⟩ (.bool o.r)).setCell ⟨w.heap.size + 1, 12, none⟩ (slW s4)).setCell ⟨w.heap.size + 1, 13, none⟩ (.int .i64 o.c)) := ((((((((((((((((Near.set _ (by omega)).trans (Near.set _ (by omega))).trans (Near.set _ (by omega))).trans (Near.set _ (by omega))).trans (Near.set _ (by omega))).trans (Near.set _ (by omega))).trans (Near.set _ (by omega))).trans (Near.set _ (by omega))).trans (Near.set _ (by omega))).trans (Near.set _ (by omega))).trans (Near.set _ (by omega))).trans (Near.set _ (by omega))).trans (Near.set _ (by omega))).trans (Near.set _ (by omega))).trans (Near.set _ (by omega))).trans (Near.set _ (by omega)))
 refine ⟨(s1, s2, s3, s4), rfl, ⟨(HS.out.1.near hN).low (by omega), (HS.out.2.1.near hN).low (by omega), (HS.out.2.2.1.near hN).low (by omega), (HS.out.2.2.2.near hN).low (by omega)⟩, ?_⟩
 exact ((((((((((((((((hB4.setCell (by simp; try omega) _).setCell (by simp; try omega) _).setCell (by simp; try omega) _).setCell (by simp; try omega) _).setCell (by simp; try omega) _).setCell (by simp; try omega) _).setCell (by simp; try omega) _).setCell (by simp; try omega) _).setCell (by simp; try omega) _).setCell (by simp; try omega) _).setCell (by simp; try omega) _).setCell (by simp; try omega) _).setCell (by simp; try omega) _).setCell (by simp; try omega) _).setCell (by simp; try omega) _).setCell (by simp; try omega) _)
end Go.Proofs.YtjogclofjollnaaGreatDoor
