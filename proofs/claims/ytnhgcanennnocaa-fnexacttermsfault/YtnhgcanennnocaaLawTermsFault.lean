/- TermsFault answers as the model at every list of terms: the law returns true, whatever the input; no conditions. -/
import Derived.Test.YtnhgcanennnocaaRows
import Derived.Test.YtnhgcanennnocaaTmu
import Derived.Test.YtnhgcanennnocaaTph
import Derived.WalkKit
import Derived.ProofKit
import Derived.OpenShut
import Derived.ShutString
import Derived.ChangeOld
import Derived.Below
namespace Go.Proofs.Ytnhgcanennnocaa.fnExactTermsFault
open Go.ChangeShapes Go.WideShapes Go.ChangeAt Go.RowKit
open Go.ChangeMaps (open_string shut_string)
set_option linter.unusedVariables false

theorem own : ownKnob Try.prog.godebug = none := by kernel_rfl
theorem laidOut : laidOutB Try.prog = true := by kernel_rfl

/-! ### THE WALK -/
set_option maxHeartbeats 1600000 in
set_option maxRecDepth 100000 in
theorem walk (q0 : SlQ) (l0 : List TmR) (w : World) (w0 : IsTs 0 w q0 l0) :
    Calls Try.prog 3 #[slW q0] w fun e w' => e = .returned (.bool true) ∧ Below w.heap.size w w' := by
  have hu0 := w0
  have HSP : Hid (∀ (s : SlQ) (lo : Nat) (w' : World), IsTs lo w' s l0 → FtUs l0 → Calls Try.prog 6 #[slW s] w' fun e w'' => e = .returned (.int .i64 (tmV l0)) ∧ Below w'.heap.size w' w'') := fun s lo w' h h' => specTermsFault_any s l0 w' h h'
  have HIM : Hid (∀ (s : SlQ) (lo : Nat) (w' : World), IsTs lo w' s l0 → FtUs l0 → Calls Try.prog 8 #[slW s] w' fun e w'' => e = .returned (.int .i64 (tmV l0)) ∧ Below w'.heap.size w' w'') := fun s lo w' h h' => termsFault_any s l0 w' h h'
  generalize tmV l0 = rv at *
  go_enter Try.func3, Try.ntmps3
  go_wp2_with fail
  refine (szTermS_ft q0 l0 1048576 w (by omega) (by omega) hu0).mono ?_
  rintro e w1 ⟨r, rfl, hcase, hB1⟩
  rcases hcase with rfl | ⟨r0, r0', hn⟩
  · go_wp2
    go_ret
    exact ⟨rfl, hB1⟩
  have hneg : ¬ r < 0 := by omega
  have hu1 := hu0.below hB1
  clear hu0
  go_wp2_with fail
  refine (toTermS_ft q0 l0 w1 hu1 hn).mono ?_
  rintro e w2 ⟨s2, rfl, ho2, hb2⟩
  have hB2 := hB1.trans (hb2.mono hB1.size)
  have hu2 := hu1.below hb2
  clear hu1 hB1 hb2
  go_wp2_with fail
  refine (HSP.out s2 _ _ ho2 hn).mono ?_
  rintro e w3 ⟨rfl, hb3⟩
  have hB3 := hB2.trans (hb3.mono hB2.size)
  have hu3 := hu2.below hb3
  clear hu2 hB2 hb3 ho2 HSP
  go_wp2_with fail
  refine (toTermS_ft q0 l0 w3 hu3 hn).mono ?_
  rintro e w4 ⟨s4, rfl, ho4, hb4⟩
  have hB4 := hB3.trans (hb4.mono hB3.size)
  have hu4 := hu3.below hb4
  clear hu3 hB3 hb4
  go_wp2_with fail
  refine (HIM.out s4 _ _ ho4 hn).mono ?_
  rintro e w5 ⟨rfl, hb5⟩
  have hB5 := hB4.trans (hb5.mono hB4.size)
  have hu5 := hu4.below hb5
  have ho5 := ho4.below hb5
  clear hu4 hB4 hb5 ho4 HIM
  go_wp2_with fail
  refine (toTermS_ft q0 l0 w5 hu5 hn).mono ?_
  rintro e w6 ⟨s6, rfl, ho6, hb6⟩
  have hB6 := hB5.trans (hb6.mono hB5.size)
  have ho5' := ho5.below hb6
  clear hu5 hB5 hb6 ho5
  go_wp2_with fail
  refine (eqTermS_ft s4 s6 l0 w6 ho5' ho6 hn).mono ?_
  rintro e w7 ⟨rfl, hb7⟩
  have hB7 := hB6.trans (hb7.mono hB6.size)
  go_wp2
  go_ret
  exact ⟨rfl, hB7⟩

/-! ### THE ROW's STEP -/
set_option maxRecDepth 100000 in
theorem lifted (os : Os) (started : os.Started) (H : Type) (enc : TypeId × Value → H) :
    ReturnsInHanded {} Try.checked os 3 .any (Rows.fnExactTermsFaultSpec.pre6 enc Try.prog Try.f3 Rows.fnExactTermsFaultRow.domain false) (Rows.fnExactTermsFaultSpec.post enc Try.prog Try.f3 false true false false) := by
  refine returnsInHanded_of_change (C := Try.checked) own started (by kernel_rfl) Try.func3
    (ChangeSpec.witness6 (enc := enc) (C := Try.checked) false ⟨#[], #[.slice none 0 0], []⟩ 8 (by kernel_rfl) (by kernel_rfl) (by kernel_rfl) (by kernel_rfl)) ?_
  intro W base args ds gs before hval0 hW hcnd _
  have hval : ∀ (j : Nat) t v, Try.f3.params[j]? = some t → args[j]? = some v → Value.okWide Try.prog W .any base t v := hval0
  have hW' := hW
  obtain ⟨p, q, hA0, hV, rfl, hfz, hnd⟩ := hW
  have hA : DataW.TrodAll enc Try.prog W 0 (fun _ => true) true Try.f3.params.toList args.toList ds p := hA0
  rw [Try.params3] at hA hval
  obtain ⟨v0, vs0, d0, ds0, p0, q0, hargs, rfl, rfl, h0, r0⟩ := trodAll_cons hA
  obtain ⟨rfl, rfl, rfl⟩ := trodAll_nil r0
  obtain rfl : args = #[v0] := by cases args; simp_all
  obtain ⟨rfl, rfl⟩ := trodVars_none hV
  have k0 := h0
  have lt0 : ∀ x ∈ p0, x.block < W.heap.size := by obtain ⟨m, hm⟩ := k0; exact DataW.trod_lt m _ _ _ hm
  obtain ⟨a0, len0, cap0, rfl⟩ := okWide_slice Try.underlying22 (hval 0 22 v0 rfl rfl)
  obtain ⟨fuel0, hf0⟩ := h0
  obtain ⟨⟨x0, y0, z0⟩, l0, hc0, w0⟩ := open_ts Try.underlying22 tmT hf0
  simp [Value.cells] at hc0
  obtain ⟨rfl, rfl, rfl⟩ := hc0
  clear hA0 hval0
  refine (walk _ l0 W w0).mono fun e W' ⟨he, bel⟩ => ?_
  subst he
  exact ⟨_, rfl, _, _, _, [], _, [], hW', trodAll_mk1 (shut_bool Try.underlying4 _), (trodAll_cons_mk (Below.trod laidOut (by kernel_rfl) (of_decide_eq_true (by kernel_rfl)) k0 bel lt0) trodAll_mk0), rfl, bel.frame _, fun h => by cases h⟩

theorem over : Rows.fnExactTermsFaultRow.holds Try.pinned (OpenSpec.ofChange Rows.fnExactTermsFaultSpec) :=
  OpenClaim.holds_of_wide 3 Try.f3 rfl rfl rfl rfl rfl rfl rfl ⟨rfl, rfl, rfl, rfl, rfl⟩ rfl rfl rfl rfl rfl (by kernel_rfl) Try.func3 (by kernel_rfl)
    (of_decide_eq_true (by kernel_rfl)) (by unfold Func.isWrapper; first | (rw [if_pos (by decide +kernel)]; kernel_rfl) | (rw [if_neg (by decide +kernel)]; exact ⟨rfl, rfl⟩))
    (fun os started H enc _ => lifted os started H enc)
end Go.Proofs.Ytnhgcanennnocaa.fnExactTermsFault

namespace Go.Proofs.Ytnhgcanennnocaa
theorem fnExactTermsFault_holds : Rows.FnExactTermsFaultSaid := fnExactTermsFault.over
end Go.Proofs.Ytnhgcanennnocaa
