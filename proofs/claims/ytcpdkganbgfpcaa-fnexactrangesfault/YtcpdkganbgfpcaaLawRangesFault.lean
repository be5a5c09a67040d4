/- RangesFault answers as the model at every slice of ranges: the law returns true, whatever the input; no conditions. -/
import Derived.Test.YtcpdkganbgfpcaaRows
import Derived.Test.YtcpdkganbgfpcaaYft
import Derived.WalkKit
import Derived.ProofKit
import Derived.OpenShut
import Derived.ShutString
import Derived.ChangeOld
import Derived.Below
namespace Go.Proofs.Ytcpdkganbgfpcaa.fnExactRangesFault
open Go.ChangeShapes Go.WideShapes Go.ChangeAt Go.RowKit
open Go.ChangeMaps (open_string shut_string)
set_option linter.unusedVariables false

theorem own : ownKnob Try.prog.godebug = none := by kernel_rfl
theorem laidOut : laidOutB Try.prog = true := by kernel_rfl

/-! ### THE WALK -/
set_option maxHeartbeats 1600000 in
set_option maxRecDepth 100000 in
theorem walk (a0 : Option Addr) (len0 cap0 : Nat) (z0 : List YgP) (w : World) (w0 : IsYs w a0 len0 cap0 z0) :
    Calls Try.prog 4 #[.slice a0 len0 cap0] w fun e w' => e = .returned (.bool true) ∧ Below w.heap.size w w' := by
  obtain ⟨hl, hnc, hcm, hr⟩ := w0
  have hsz := szRangeS_any a0 len0 cap0 w (by omega)
  go_enter Try.func4, Try.ntmps4
  go_wp2_with fail
  refine hsz.mono ?_
  rintro e w1 ⟨⟨r, rfl, hcase⟩, hb1⟩
  rcases hcase with rfl | ⟨r0, hn⟩
  · go_wp2
    go_ret
    exact ⟨rfl, hb1⟩
  · have hneg : ¬ r < 0 := by omega
    have hr1 := hr.below hb1
    clear hr hsz
    go_wp2_with fail
    refine (toRangeS_any a0 len0 cap0 z0 _ hl hr1 hn).mono ?_
    rintro e w2 ⟨rfl, ho2, hb2⟩
    have hB2 : Below w.heap.size w w2 := hb1.trans (hb2.mono hb1.size)
    have hr2 := hr1.below hb2
    go_wp2_with fail
    refine (specRangesFault_any _ len0 len0 z0 _ hl ho2.rd.2 hn).mono ?_
    rintro e w3 ⟨rfl, hb3⟩
    have hB3 : Below w.heap.size w w3 := hB2.trans (hb3.mono hB2.size)
    have hr3 := hr2.below hb3
    clear hb1 hb2 hb3 ho2 hr1 hr2 hB2
    go_wp2_with fail
    refine (toRangeS_any a0 len0 cap0 z0 _ hl hr3 hn).mono ?_
    rintro e w4 ⟨rfl, ho4, hb4⟩
    have hB4 : Below w.heap.size w w4 := hB3.trans (hb4.mono hB3.size)
    have hr4 := hr3.below hb4
    have hx4 := ho4.rd.2
    clear hb4 ho4 hr3 hB3
    go_wp2_with fail
    refine (rangesFault_any _ len0 len0 z0 _ hl hx4 hn).mono ?_
    rintro e w5 ⟨rfl, hb5⟩
    have hB5 : Below w.heap.size w w5 := hB4.trans (hb5.mono hB4.size)
    have hr5 := hr4.below hb5
    have hx5 := hx4.below hb5
    clear hb5 hr4 hx4 hB4
    go_wp2_with fail
    refine (toRangeS_any a0 len0 cap0 z0 _ hl hr5 hn).mono ?_
    rintro e w6 ⟨rfl, ho6, hb6⟩
    have hB6 : Below w.heap.size w w6 := hB5.trans (hb6.mono hB5.size)
    have hx6 := hx5.below hb6
    have hy6 := ho6.rd.2
    clear hb6 ho6 hr5 hx5 hB5
    go_wp2_with fail
    refine (eqRangeS_same _ _ len0 len0 len0 z0 _ hl hx6 hy6 hn).mono ?_
    rintro e w7 ⟨rfl, hb7⟩
    have hB7 : Below w.heap.size w w7 := hB6.trans (hb7.mono hB6.size)
    clear hb7
    go_wp2
    go_ret
    exact ⟨rfl, hB7⟩

/-! ### THE ROW's STEP -/
set_option maxRecDepth 100000 in
theorem lifted (os : Os) (started : os.Started) (H : Type) (enc : TypeId × Value → H) :
    ReturnsInHanded {} Try.checked os 4 .any (Rows.fnExactRangesFaultSpec.pre6 enc Try.prog Try.f4 Rows.fnExactRangesFaultRow.domain false) (Rows.fnExactRangesFaultSpec.post enc Try.prog Try.f4 false true false false) := by
  refine returnsInHanded_of_change (C := Try.checked) own started (by kernel_rfl) Try.func4
    (ChangeSpec.witness6 (enc := enc) (C := Try.checked) false ⟨#[], #[.slice none 0 0], []⟩ 8 (by kernel_rfl) (by kernel_rfl) (by kernel_rfl) (by kernel_rfl)) ?_
  intro W base args ds gs before hval0 hW hcnd _
  have hval : ∀ (j : Nat) t v, Try.f4.params[j]? = some t → args[j]? = some v → Value.okWide Try.prog W .any base t v := hval0
  have hW' := hW
  obtain ⟨p, q, hA0, hV, rfl, hfz, hnd⟩ := hW
  have hA : DataW.TrodAll enc Try.prog W 0 (fun _ => true) true Try.f4.params.toList args.toList ds p := hA0
  rw [Try.params4] at hA hval
  obtain ⟨v0, vs0, d0, ds0, p0, q0, hargs, rfl, rfl, h0, r0⟩ := trodAll_cons hA
  obtain ⟨rfl, rfl, rfl⟩ := trodAll_nil r0
  obtain rfl : args = #[v0] := by cases args; simp_all
  obtain ⟨rfl, rfl⟩ := trodVars_none hV
  obtain ⟨a0, len0, cap0, rfl⟩ := okWide_slice Try.underlying37 (hval 0 37 v0 rfl rfl)
  have k0 := h0
  have lt0 : ∀ x ∈ p0, x.block < W.heap.size := by obtain ⟨m, hm⟩ := k0; exact DataW.trod_lt m _ _ _ hm
  obtain ⟨z0, w0⟩ : ∃ zs, IsYs W a0 len0 cap0 zs := by
    obtain ⟨fuel, hf⟩ := h0
    exact open_ys Try.underlying37 Try.underlying69 Try.underlying2 rfl rfl rfl rfl (by kernel_rfl) (by kernel_rfl) hf
  clear hA0 hval0
  refine (walk a0 len0 cap0 z0 W w0).mono fun e W' ⟨he, bel⟩ => ?_
  subst he
  exact ⟨_, rfl, _, _, _, [], _, [], hW', trodAll_mk1 (shut_bool Try.underlying4 _), (trodAll_cons_mk (Below.trod laidOut (by kernel_rfl) (of_decide_eq_true (by kernel_rfl)) k0 bel lt0) trodAll_mk0), rfl, bel.frame _, fun h => by cases h⟩

theorem over : Rows.fnExactRangesFaultRow.holds Try.pinned (OpenSpec.ofChange Rows.fnExactRangesFaultSpec) :=
  OpenClaim.holds_of_wide 4 Try.f4 rfl rfl rfl rfl rfl rfl rfl ⟨rfl, rfl, rfl, rfl, rfl⟩ rfl rfl rfl rfl rfl (by kernel_rfl) Try.func4 (by kernel_rfl)
    (of_decide_eq_true (by kernel_rfl)) (by unfold Func.isWrapper; first | (rw [if_pos (by decide +kernel)]; kernel_rfl) | (rw [if_neg (by decide +kernel)]; exact ⟨rfl, rfl⟩))
    (fun os started H enc _ => lifted os started H enc)
end Go.Proofs.Ytcpdkganbgfpcaa.fnExactRangesFault

namespace Go.Proofs.Ytcpdkganbgfpcaa
theorem fnExactRangesFault_holds : Rows.FnExactRangesFaultSaid := fnExactRangesFault.over
end Go.Proofs.Ytcpdkganbgfpcaa
