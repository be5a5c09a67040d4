/- SameTerms answers as the model at every two lists of terms: the law returns true, whatever the input; no conditions. -/
import Derived.Test.YtnhgcanennnocaaRows
import Derived.Test.YtnhgcanennnocaaTmu
import Derived.Test.YtnhgcanennnocaaTmg
import Derived.WalkKit
import Derived.ProofKit
import Derived.OpenShut
import Derived.ShutString
import Derived.ChangeOld
import Derived.Below
namespace Go.Proofs.Ytnhgcanennnocaa.fnExactSameTerms
open Go.ChangeShapes Go.WideShapes Go.ChangeAt Go.RowKit
open Go.ChangeMaps (open_string shut_string)
set_option linter.unusedVariables false

theorem own : ownKnob Try.prog.godebug = none := by kernel_rfl
theorem laidOut : laidOutB Try.prog = true := by kernel_rfl

/-! ### THE WALK -/
set_option maxHeartbeats 1600000 in
set_option maxRecDepth 100000 in
theorem walk (q0 : SlQ) (l0 : List TmR) (q1 : SlQ) (l1 : List TmR) (w : World) (w0 : IsTs 0 w q0 l0) (w1 : IsTs 0 w q1 l1) :
    Calls Try.prog 4 #[slW q0, slW q1] w fun e w' => e = .returned (.bool true) ∧ Below w.heap.size w w' := by
  have hu0 := w0
  have hv0 := w1
  have HSP : Hid (∀ (s s' : SlQ) (lo lo' : Nat) (w' : World), IsTs lo w' s l0 → IsTs lo' w' s' l1 → Calls Try.prog 10 #[slW s, slW s'] w' fun e w'' => e = .returned (.bool (smTs l0 l1)) ∧ Below w'.heap.size w' w'') := fun s s' lo lo' w' h h' => specSameTerms_any l0 l1 s s' w' h h'
  have HIM : Hid (∀ (s s' : SlQ) (lo lo' : Nat) (w' : World), IsTs lo w' s l0 → IsTs lo' w' s' l1 → Calls Try.prog 11 #[slW s, slW s'] w' fun e w'' => e = .returned (.bool (smTs l0 l1)) ∧ Below w'.heap.size w' w'') := fun s s' lo lo' w' h h' => sameTerms_any l0 l1 s s' w' h h'
  generalize smTs l0 l1 = rv at *
  go_enter Try.func4, Try.ntmps4
  go_wp2_with fail
  refine (szTermS_ft q0 l0 1048576 w (by omega) (by omega) hu0).mono ?_
  rintro e w1 ⟨r, rfl, hcase, hB1⟩
  rcases hcase with rfl | ⟨r0, r0', hn⟩
  · go_wp2
    go_ret
    exact ⟨rfl, hB1⟩
  have hneg : ¬ r < 0 := by omega
  have hu1 := hu0.below hB1
  have hv1 := hv0.below hB1
  clear hu0 hv0
  go_wp2_with fail
  refine (szTermS_ft q1 l1 r w1 (by omega) (by omega) hv1).mono ?_
  rintro e w2 ⟨r2, rfl, hcase, hb2⟩
  have hB2 := hB1.trans (hb2.mono hB1.size)
  rcases hcase with rfl | ⟨r20, -, hn1⟩
  · go_wp2
    go_ret
    exact ⟨rfl, hB2⟩
  · have hneg2 : ¬ r2 < 0 := by omega
    have hu2 := hu1.below hb2
    have hv2 := hv1.below hb2
    clear hu1 hv1 hB1 hb2
    go_wp2_with fail
    refine (toTermS_ft q0 l0 w2 hu2 hn).mono ?_
    rintro e w3 ⟨s3, rfl, ho3, hb3⟩
    have hB3 : Below w.heap.size w w3 := hB2.trans (hb3.mono hB2.size)
    have hu3 := hu2.below hb3
    have hv3 := hv2.below hb3
    clear hu2 hv2 hB2 hb3
    go_wp2_with fail
    refine (toTermS_ft q1 l1 w3 hv3 hn1).mono ?_
    rintro e w4 ⟨s4, rfl, ho4, hb4⟩
    have hB4 : Below w.heap.size w w4 := hB3.trans (hb4.mono hB3.size)
    have hu4 := hu3.below hb4
    have hv4 := hv3.below hb4
    have ho3' := ho3.below hb4
    clear hu3 hv3 hB3 hb4 ho3
    go_wp2_with fail
    refine (HSP.out s3 s4 _ _ _ ho3' ho4).mono ?_
    rintro e w5 ⟨rfl, hb5⟩
    have hB5 : Below w.heap.size w w5 := hB4.trans (hb5.mono hB4.size)
    have hu5 := hu4.below hb5
    have hv5 := hv4.below hb5
    clear hu4 hv4 hB4 hb5 ho3' ho4 HSP
    go_wp2_with fail
    refine (toTermS_ft q0 l0 w5 hu5 hn).mono ?_
    rintro e w6 ⟨s6, rfl, ho6, hb6⟩
    have hB6 : Below w.heap.size w w6 := hB5.trans (hb6.mono hB5.size)
    have hu6 := hu5.below hb6
    have hv6 := hv5.below hb6
    clear hu5 hv5 hB5 hb6
    go_wp2_with fail
    refine (toTermS_ft q1 l1 w6 hv6 hn1).mono ?_
    rintro e w7 ⟨s7, rfl, ho7, hb7⟩
    have hB7 : Below w.heap.size w w7 := hB6.trans (hb7.mono hB6.size)
    have hu7 := hu6.below hb7
    have hv7 := hv6.below hb7
    have ho6a := ho6.below hb7
    clear hu6 hv6 hB6 hb7 ho6
    go_wp2_with fail
    refine (HIM.out s6 s7 _ _ _ ho6a ho7).mono ?_
    rintro e w8 ⟨rfl, hb8⟩
    have hB8 : Below w.heap.size w w8 := hB7.trans (hb8.mono hB7.size)
    have hu8 := hu7.below hb8
    have hv8 := hv7.below hb8
    have ho6b := ho6a.below hb8
    have ho7b := ho7.below hb8
    clear hu7 hv7 hB7 hb8 ho6a ho7 HIM
    go_wp2_with fail
    refine (toTermS_ft q0 l0 w8 hu8 hn).mono ?_
    rintro e w9 ⟨s9, rfl, ho9, hb9⟩
    have hB9 : Below w.heap.size w w9 := hB8.trans (hb9.mono hB8.size)
    have hu9 := hu8.below hb9
    have hv9 := hv8.below hb9
    have ho6c := ho6b.below hb9
    have ho7c := ho7b.below hb9
    clear hu8 hv8 hB8 hb9 ho6b ho7b
    go_wp2_with fail
    refine (eqTermS_ft s6 s9 l0 w9 ho6c ho9 hn).mono ?_
    rintro e w10 ⟨rfl, hb10⟩
    have hB10 : Below w.heap.size w w10 := hB9.trans (hb10.mono hB9.size)
    have hu10 := hu9.below hb10
    have hv10 := hv9.below hb10
    have ho7d := ho7c.below hb10
    clear hu9 hv9 hB9 hb10 ho6c ho7c ho9
    go_wp2_with fail
    refine (toTermS_ft q1 l1 w10 hv10 hn1).mono ?_
    rintro e w11 ⟨s11, rfl, ho11, hb11⟩
    have hB11 : Below w.heap.size w w11 := hB10.trans (hb11.mono hB10.size)
    have hu11 := hu10.below hb11
    have hv11 := hv10.below hb11
    have ho7e := ho7d.below hb11
    clear hu10 hv10 hB10 hb11 ho7d
    go_wp2_with fail
    refine (eqTermS_ft s7 s11 l1 w11 ho7e ho11 hn1).mono ?_
    rintro e w12 ⟨rfl, hb12⟩
    have hB12 : Below w.heap.size w w12 := hB11.trans (hb12.mono hB11.size)
    clear hu11 hv11 hB11 hb12 ho7e ho11
    go_wp2
    go_ret
    exact ⟨rfl, hB12⟩

/-! ### THE ROW's STEP -/
set_option maxRecDepth 100000 in
theorem lifted (os : Os) (started : os.Started) (H : Type) (enc : TypeId × Value → H) :
    ReturnsInHanded {} Try.checked os 4 .any (Rows.fnExactSameTermsSpec.pre6 enc Try.prog Try.f4 Rows.fnExactSameTermsRow.domain false) (Rows.fnExactSameTermsSpec.post enc Try.prog Try.f4 false true false false) := by
  refine returnsInHanded_of_change (C := Try.checked) own started (by kernel_rfl) Try.func4
    (ChangeSpec.witness6 (enc := enc) (C := Try.checked) false ⟨#[], #[.slice none 0 0, .slice none 0 0], []⟩ 8 (by kernel_rfl) (by kernel_rfl) (by kernel_rfl) (by kernel_rfl)) ?_
  intro W base args ds gs before hval0 hW hcnd _
  have hval : ∀ (j : Nat) t v, Try.f4.params[j]? = some t → args[j]? = some v → Value.okWide Try.prog W .any base t v := hval0
  have hW' := hW
  obtain ⟨p, q, hA0, hV, rfl, hfz, hnd⟩ := hW
  have hA : DataW.TrodAll enc Try.prog W 0 (fun _ => true) true Try.f4.params.toList args.toList ds p := hA0
  rw [Try.params4] at hA hval
  obtain ⟨v0, vs0, d0, ds0, p0, q0, hargs, rfl, rfl, h0, r0⟩ := trodAll_cons hA
  obtain ⟨v1, vs1, d1, ds1, p1, q1, rfl, rfl, rfl, h1, r1⟩ := trodAll_cons r0
  obtain ⟨rfl, rfl, rfl⟩ := trodAll_nil r1
  obtain rfl : args = #[v0, v1] := by cases args; simp_all
  obtain ⟨rfl, rfl⟩ := trodVars_none hV
  have k0 := h0
  have lt0 : ∀ x ∈ p0, x.block < W.heap.size := by obtain ⟨m, hm⟩ := k0; exact DataW.trod_lt m _ _ _ hm
  obtain ⟨a0, len0, cap0, rfl⟩ := okWide_slice Try.underlying22 (hval 0 22 v0 rfl rfl)
  obtain ⟨fuel0, hf0⟩ := h0
  obtain ⟨⟨x0, y0, z0⟩, l0, hc0, w0⟩ := open_ts Try.underlying22 tmT hf0
  simp [Value.cells] at hc0
  obtain ⟨rfl, rfl, rfl⟩ := hc0
  have k1 := h1
  have lt1 : ∀ x ∈ p1, x.block < W.heap.size := by obtain ⟨m, hm⟩ := k1; exact DataW.trod_lt m _ _ _ hm
  obtain ⟨a1, len1, cap1, rfl⟩ := okWide_slice Try.underlying22 (hval 1 22 v1 rfl rfl)
  obtain ⟨fuel1, hf1⟩ := h1
  obtain ⟨⟨x1, y1, z1⟩, l1, hc1, w1⟩ := open_ts Try.underlying22 tmT hf1
  simp [Value.cells] at hc1
  obtain ⟨rfl, rfl, rfl⟩ := hc1
  clear hA0 hval0
  refine (walk _ l0 _ l1 W w0 w1).mono fun e W' ⟨he, bel⟩ => ?_
  subst he
  exact ⟨_, rfl, _, _, _, [], _, [], hW', trodAll_mk1 (shut_bool Try.underlying4 _), (trodAll_cons_mk (Below.trod laidOut (by kernel_rfl) (of_decide_eq_true (by kernel_rfl)) k0 bel lt0) (trodAll_cons_mk (Below.trod laidOut (by kernel_rfl) (of_decide_eq_true (by kernel_rfl)) k1 bel lt1) trodAll_mk0)), rfl, bel.frame _, fun h => by cases h⟩

theorem over : Rows.fnExactSameTermsRow.holds Try.pinned (OpenSpec.ofChange Rows.fnExactSameTermsSpec) :=
  OpenClaim.holds_of_wide 4 Try.f4 rfl rfl rfl rfl rfl rfl rfl ⟨rfl, rfl, rfl, rfl, rfl⟩ rfl rfl rfl rfl rfl (by kernel_rfl) Try.func4 (by kernel_rfl)
    (of_decide_eq_true (by kernel_rfl)) (by unfold Func.isWrapper; first | (rw [if_pos (by decide +kernel)]; kernel_rfl) | (rw [if_neg (by decide +kernel)]; exact ⟨rfl, rfl⟩))
    (fun os started H enc _ => lifted os started H enc)
end Go.Proofs.Ytnhgcanennnocaa.fnExactSameTerms

namespace Go.Proofs.Ytnhgcanennnocaa
theorem fnExactSameTerms_holds : Rows.FnExactSameTermsSaid := fnExactSameTerms.over
end Go.Proofs.Ytnhgcanennnocaa
