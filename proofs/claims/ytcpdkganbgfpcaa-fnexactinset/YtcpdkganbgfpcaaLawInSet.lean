/- Proved: called with any slice of ranges and any two numbers, the law FnExactInSet returns true (the program's InSet answers as the model does and writes into no argument); no condition of our own. -/
import Derived.Test.YtcpdkganbgfpcaaRows
import Derived.Test.YtcpdkganbgfpcaaYis
import Derived.WalkKit
import Derived.ProofKit
import Derived.OpenShut
import Derived.ShutString
import Derived.ChangeOld
import Derived.Below
namespace Go.Proofs.Ytcpdkganbgfpcaa.fnExactInSet
open Go.ChangeShapes Go.WideShapes Go.ChangeAt Go.RowKit
open Go.ChangeMaps (open_string shut_string)
set_option linter.unusedVariables false

theorem own : ownKnob Try.prog.godebug = none := by kernel_rfl
theorem laidOut : laidOutB Try.prog = true := by kernel_rfl

/-! ### THE WALK -/
set_option maxHeartbeats 1600000 in
set_option maxRecDepth 100000 in
theorem walk (a0 : Option Addr) (len0 cap0 : Nat) (z0 : List YgP) (a1 : Int) (a2 : Int) (w : World) (w0 : IsYs w a0 len0 cap0 z0) (w1 : (Lit.int .i64 a1).wf = true) (w2 : (Lit.int .i64 a2).wf = true) :
    Calls Try.prog 7 #[.slice a0 len0 cap0, .int .i64 a1, .int .i64 a2] w fun e w' => e = .returned (.bool true) ∧ Below w.heap.size w w' := by
  obtain ⟨hl, hnc, hcm, hr⟩ := w0
  have hsz := szRangeS_any a0 len0 cap0 w (by omega)
  go_enter Try.func7, Try.ntmps7
  go_wp2_with fail
  refine hsz.mono ?_
  rintro e w1 ⟨⟨r, rfl, hcase⟩, hb1⟩
  rcases hcase with rfl | ⟨r0, hn⟩
  · go_wp2
    go_ret
    exact ⟨rfl, hb1⟩
  · have hneg : ¬ r < 0 := by omega
    have hr1 := hr.below hb1
    clear hr hsz
    go_wp2_with fail
    refine (toRangeS_any a0 len0 cap0 z0 _ hl hr1 hn).mono ?_
    rintro e w2 ⟨rfl, ho2, hb2⟩
    have hB2 : Below w.heap.size w w2 := hb1.trans (hb2.mono hb1.size)
    have hr2 := hr1.below hb2
    go_wp2_with fail
    refine (specInSet_any a1 a2 _ len0 len0 z0 _ hl ho2.rd.2 hn).mono ?_
    rintro e w3 ⟨rfl, hb3⟩
    have hB3 : Below w.heap.size w w3 := hB2.trans (hb3.mono hB2.size)
    have hr3 := hr2.below hb3
    clear hb1 hb2 hb3 ho2 hr1 hr2 hB2
    go_wp2_with fail
    refine (toRangeS_any a0 len0 cap0 z0 _ hl hr3 hn).mono ?_
    rintro e w4 ⟨rfl, ho4, hb4⟩
    have hB4 : Below w.heap.size w w4 := hB3.trans (hb4.mono hB3.size)
    have hr4 := hr3.below hb4
    have hx4 := ho4.rd.2
    clear hb4 ho4 hr3 hB3
    go_wp2_with fail
    refine (inSet_any a1 a2 _ len0 len0 z0 _ hl hx4 hn).mono ?_
    rintro e w5 ⟨rfl, hb5⟩
    have hB5 : Below w.heap.size w w5 := hB4.trans (hb5.mono hB4.size)
    have hr5 := hr4.below hb5
    have hx5 := hx4.below hb5
    clear hb5 hr4 hx4 hB4
    generalize isY z0 a1 a2 = bb
    cases bb <;> go_wp2_with fail
    all_goals
      refine (toRangeS_any a0 len0 cap0 z0 _ hl hr5 hn).mono ?_
      rintro e w6 ⟨rfl, ho6, hb6⟩
      have hB6 : Below w.heap.size w w6 := hB5.trans (hb6.mono hB5.size)
      have hx6 := hx5.below hb6
      have hy6 := ho6.rd.2
      clear hb6 ho6 hr5 hx5 hB5
      go_wp2_with fail
      refine (eqRangeS_same _ _ len0 len0 len0 z0 _ hl hx6 hy6 hn).mono ?_
      rintro e w7 ⟨rfl, hb7⟩
      have hB7 : Below w.heap.size w w7 := hB6.trans (hb7.mono hB6.size)
      clear hb7
      go_wp2
      go_ret
      exact ⟨rfl, hB7⟩

/-! ### THE ROW's STEP -/
set_option maxRecDepth 100000 in
theorem lifted (os : Os) (started : os.Started) (H : Type) (enc : TypeId × Value → H) :
    ReturnsInHanded {} Try.checked os 7 .any (Rows.fnExactInSetSpec.pre6 enc Try.prog Try.f7 Rows.fnExactInSetRow.domain false) (Rows.fnExactInSetSpec.post enc Try.prog Try.f7 false true false false) := by
  refine returnsInHanded_of_change (C := Try.checked) own started (by kernel_rfl) Try.func7
    (ChangeSpec.witness6 (enc := enc) (C := Try.checked) false ⟨#[], #[.slice none 0 0, .int .i64 0, .int .i64 0], []⟩ 8 (by kernel_rfl) (by kernel_rfl) (by kernel_rfl) (by kernel_rfl)) ?_
  intro W base args ds gs before hval0 hW hcnd _
  have hval : ∀ (j : Nat) t v, Try.f7.params[j]? = some t → args[j]? = some v → Value.okWide Try.prog W .any base t v := hval0
  have hW' := hW
  obtain ⟨p, q, hA0, hV, rfl, hfz, hnd⟩ := hW
  have hA : DataW.TrodAll enc Try.prog W 0 (fun _ => true) true Try.f7.params.toList args.toList ds p := hA0
  rw [Try.params7] at hA hval
  obtain ⟨v0, vs0, d0, ds0, p0, q0, hargs, rfl, rfl, h0, r0⟩ := trodAll_cons hA
  obtain ⟨v1, vs1, d1, ds1, p1, q1, rfl, rfl, rfl, h1, r1⟩ := trodAll_cons r0
  obtain ⟨v2, vs2, d2, ds2, p2, q2, rfl, rfl, rfl, h2, r2⟩ := trodAll_cons r1
  obtain ⟨rfl, rfl, rfl⟩ := trodAll_nil r2
  obtain rfl : args = #[v0, v1, v2] := by cases args; simp_all
  obtain ⟨rfl, rfl⟩ := trodVars_none hV
  obtain ⟨a0, len0, cap0, rfl⟩ := okWide_slice Try.underlying37 (hval 0 37 v0 rfl rfl)
  have k0 := h0
  have lt0 : ∀ x ∈ p0, x.block < W.heap.size := by obtain ⟨m, hm⟩ := k0; exact DataW.trod_lt m _ _ _ hm
  obtain ⟨z0, w0⟩ : ∃ zs, IsYs W a0 len0 cap0 zs := by
    obtain ⟨fuel, hf⟩ := h0
    exact open_ys Try.underlying37 Try.underlying69 Try.underlying2 rfl rfl rfl rfl (by kernel_rfl) (by kernel_rfl) hf
  obtain ⟨a1, rfl, rfl, rfl, w1⟩ := open_int Try.underlying2 (hval 1 2 v1 rfl rfl) h1
  obtain ⟨a2, rfl, rfl, rfl, w2⟩ := open_int Try.underlying2 (hval 2 2 v2 rfl rfl) h2
  clear hA0 hval0
  refine (walk a0 len0 cap0 z0 a1 a2 W w0 w1 w2).mono fun e W' ⟨he, bel⟩ => ?_
  subst he
  exact ⟨_, rfl, _, _, _, [], _, [], hW', trodAll_mk1 (shut_bool Try.underlying4 _), (trodAll_cons_mk (Below.trod laidOut (by kernel_rfl) (of_decide_eq_true (by kernel_rfl)) k0 bel lt0) (trodAll_cons_mk (shut_int Try.underlying2 w1) (trodAll_cons_mk (shut_int Try.underlying2 w2) trodAll_mk0))), rfl, bel.frame _, fun h => by cases h⟩

theorem over : Rows.fnExactInSetRow.holds Try.pinned (OpenSpec.ofChange Rows.fnExactInSetSpec) :=
  OpenClaim.holds_of_wide 7 Try.f7 rfl rfl rfl rfl rfl rfl rfl ⟨rfl, rfl, rfl, rfl, rfl⟩ rfl rfl rfl rfl rfl (by kernel_rfl) Try.func7 (by kernel_rfl)
    (of_decide_eq_true (by kernel_rfl)) (by unfold Func.isWrapper; first | (rw [if_pos (by decide +kernel)]; kernel_rfl) | (rw [if_neg (by decide +kernel)]; exact ⟨rfl, rfl⟩))
    (fun os started H enc _ => lifted os started H enc)
end Go.Proofs.Ytcpdkganbgfpcaa.fnExactInSet

namespace Go.Proofs.Ytcpdkganbgfpcaa
theorem fnExactInSet_holds : Rows.FnExactInSetSaid := fnExactInSet.over
end Go.Proofs.Ytcpdkganbgfpcaa
