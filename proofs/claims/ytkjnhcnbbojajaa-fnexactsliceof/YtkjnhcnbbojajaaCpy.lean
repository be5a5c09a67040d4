/- The model's copy of bytes. -/
import Derived.Test.YtkjnhcnbbojajaaApp
namespace Go.Proofs.Ytkjnhcnbbojajaa
open Go.RowKit

set_option maxHeartbeats 800000 in
set_option maxRecDepth 100000 in
theorem l1Copy_any (b off n cap : Nat) (l : List Nat) (w : World) (hl : l.length = n) (hr : Rd w (some ⟨b, off, none⟩) l) (hn : n ≤ 1048576) :
    Calls Try.prog 30 #[.slice (some ⟨b, off, none⟩) n cap] w fun e w' => ∃ v, e = .returned v ∧ Own w' w.heap.size v l ∧ Below w.heap.size w w' := by
  have HC : Hid (∀ j, j < n → (w.alloc (.cells #[] 5)).cell? ((⟨b, off, none⟩ : Addr).add j) = some (.int .u8 (nth l j : Int))) := fun j hj => by
    obtain ⟨b', off', e, -, hc⟩ := (hr.below ((Below.refl _ w).alloc (Nat.le_refl _) (.cells #[] 5))).at_ (by omega)
    cases e
    rw [Go.WideShapes.add_plain]
    exact hc j (by omega)
  go_enter Try.func30, Try.ntmps30
  go_wp2_with (at_builtin; refine wpList_app rfl _ _ rfl w.heap.size _ [] rfl (Own.lit w w.heap.size (Nat.le_refl _) #[] [] rfl (Nat.zero_le _)) ⟨b, off, none⟩ n cap l rfl hl HC.out (by simp; omega) (by simp) ?_; intro v' w1 hown' hb')
  have hb : Below w.heap.size w w1 := ((Below.refl _ _).alloc (Nat.le_refl _) _).trans hb'
  obtain ⟨a, cp, hv, -, -⟩ := hown'.form
  subst hv
  go_wp2
  go_ret
  exact ⟨_, rfl, hown', hb⟩
end Go.Proofs.Ytkjnhcnbbojajaa
