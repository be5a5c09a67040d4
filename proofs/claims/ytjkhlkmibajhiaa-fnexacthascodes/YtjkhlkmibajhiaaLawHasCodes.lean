/- Proved: called with any number and any two slices of numbers, the law FnExactHasCodes returns true (the program's HasCodes answers as the model does and leaves its arguments as they were); no condition of our own. -/
import Derived.Test.YtjkhlkmibajhiaaRows
import Derived.Test.YtjkhlkmibajhiaaHas2
import Derived.WalkKit
import Derived.ProofKit
import Derived.OpenShut
import Derived.ShutString
import Derived.ChangeOld
import Derived.Below
namespace Go.Proofs.Ytjkhlkmibajhiaa.fnExactHasCodes
open Go.ChangeShapes Go.WideShapes Go.ChangeAt Go.RowKit
open Go.ChangeMaps (open_string shut_string)
set_option linter.unusedVariables false

theorem own : ownKnob Try.prog.godebug = none := by kernel_rfl
theorem laidOut : laidOutB Try.prog = true := by kernel_rfl

/-! ### THE WALK -/
set_option maxHeartbeats 1600000 in
set_option maxRecDepth 100000 in
theorem walk (a0 : Int) (a1 : Option Addr) (len1 cap1 : Nat) (z1 : List Int) (a2 : Option Addr) (len2 cap2 : Nat) (z2 : List Int) (w : World) (w0 : (Lit.int .i64 a0).wf = true) (w1 : IsRow .i64 w a1 len1 cap1 z1) (w2 : IsRow .i64 w a2 len2 cap2 z2) :
    Calls Try.prog 10 #[.int .i64 a0, .slice a1 len1 cap1, .slice a2 len2 cap2] w fun e w' => e = .returned (.bool true) ∧ Below w.heap.size w w' := by
  obtain ⟨l, hl, hr, hmax1⟩ := w1.rdI
  obtain ⟨s, hs, hq, hmax2⟩ := w2.rdI
  clear w1 w2
  by_cases hbig : 1048576 < len1
  · have hb' : (1048576 : Int) < (len1 : Int) := by omega
    go_enter Try.func10, Try.ntmps10
    go_wp2
    go_ret
    exact ⟨rfl, Below.refl _ _⟩
  by_cases hbig2 : 1048576 < len2
  · have hb' : ¬ (1048576 : Int) < (len1 : Int) := by omega
    have hb2' : (1048576 : Int) < (len2 : Int) := by omega
    go_enter Try.func10, Try.ntmps10
    go_wp2
    go_ret
    exact ⟨rfl, Below.refl _ _⟩
  have hb' : ¬ (1048576 : Int) < (len1 : Int) := by omega
  have hb2' : ¬ (1048576 : Int) < (len2 : Int) := by omega
  have hn : len1 ≤ 1048576 := by omega
  have hm : len2 ≤ 1048576 := by omega
  have HS := fun (a c : Option Addr) (w : World) (h1 : RdI w a l) (h2 : RdI w c s) => specHasCodes_any a0 a c len1 len2 len1 len2 l s w hl hs h1 h2 hn hm (Nat.le_refl _)
  have HI := fun (a c : Option Addr) (cap cap' : Nat) (w : World) (h1 : RdI w a l) (h2 : RdI w c s) => hasCodes_any a0 a c len1 len2 cap cap' l s w hl hs h1 h2 hn hm
  generalize hasT a0 l s = r at *
  have HR : Hid (r = r) := rfl
  go_enter Try.func10, Try.ntmps10
  go_wp2_with fail
  refine (toInt64S_ex a1 len1 cap1 l _ hl hr hn).mono ?_
  rintro e w1 ⟨g1, rfl, x1, hb1⟩
  have hq1 := hq.below hb1
  have hr1 := hr.below hb1
  go_wp2_with fail
  refine (toInt64S_ex a2 len2 cap2 s _ hs hq1 hm).mono ?_
  rintro e w2 ⟨g2, rfl, x2, hb2⟩
  have hz1 := hb1.size
  have HB2 : Hid (Below w.heap.size w w2) := hb1.trans (hb2.mono hz1)
  have hz2 := HB2.out.size
  have y1 := x1.below hb2
  clear x1 hb1 hb2 hr1 hq1
  go_wp2_with fail
  refine (HS _ _ _ y1 x2).mono ?_
  rintro e w3 ⟨rfl, hb3⟩
  have HB3 : Hid (Below w.heap.size w w3) := HB2.out.trans (hb3.mono hz2)
  clear y1 x2 HB2 hb3 hz1 hz2
  have HV := HB3
  go_wp2_with fail
  refine (toInt64S_ex a1 len1 cap1 l _ hl (hr.below HV.out) hn).mono ?_
  rintro e w4 ⟨g4, rfl, x1, hb4⟩
  have hz4 := hb4.size
  have HB4 : Hid (Below w.heap.size w w4) := HV.out.trans (hb4.mono HV.out.size)
  go_wp2_with fail
  refine (toInt64S_ex a2 len2 cap2 s _ hs (hq.below HB4.out) hm).mono ?_
  rintro e w5 ⟨g5, rfl, x2, hb5⟩
  have hz5 := hb5.size
  have y1 := x1.below hb5
  have HB5 : Hid (Below w.heap.size w w5) := HB4.out.trans (hb5.mono HB4.out.size)
  clear x1
  go_wp2_with fail
  refine (HI _ _ _ _ _ y1 x2).mono ?_
  rintro e w6 ⟨rfl, hb6⟩
  have hz6 := hb6.size
  have HB6 : Hid (Below w.heap.size w w6) := HB5.out.trans (hb6.mono HB5.out.size)
  have z1 := y1.below hb6
  have z2 := x2.below hb6
  clear y1 x2 hb6
  have HB7 := HB6
  have v1 := z1
  have v2 := z2
  clear z1 z2
  cases r
  all_goals
    go_wp2_with fail
    refine (toInt64S_ex a1 len1 cap1 l _ hl (hr.below HB7.out) hn).mono ?_
    rintro e w8 ⟨g8, rfl, x8, hb8⟩
    have u1 := v1.below hb8
    have u2 := v2.below hb8
    have HB8 : Hid (Below w.heap.size w w8) := HB7.out.trans (hb8.mono HB7.out.size)
    clear v1 v2 hb8
    go_wp2_with fail
    refine (eqInt64S_same _ _ len1 len1 len1 l _ hl u1 x8 hn).mono ?_
    rintro e w9 ⟨rfl, hb9⟩
    have t2 := u2.below hb9
    have HB9 : Hid (Below w.heap.size w w9) := HB8.out.trans (hb9.mono HB8.out.size)
    clear u1 u2 hb9 x8
    go_wp2_with fail
    refine (toInt64S_ex a2 len2 cap2 s _ hs (hq.below HB9.out) hm).mono ?_
    rintro e w10 ⟨g10, rfl, x10, hb10⟩
    have u2 := t2.below hb10
    have HB10 : Hid (Below w.heap.size w w10) := HB9.out.trans (hb10.mono HB9.out.size)
    clear hb10
    go_wp2_with fail
    refine (eqInt64S_same _ _ len2 len2 len2 s _ hs u2 x10 hm).mono ?_
    rintro e w11 ⟨rfl, hb11⟩
    have HB11 : Hid (Below w.heap.size w w11) := HB10.out.trans (hb11.mono HB10.out.size)
    clear hb11
    go_wp2
    go_ret
    exact ⟨rfl, HB11.out⟩

/-! ### THE ROW's STEP -/
set_option maxRecDepth 100000 in
theorem lifted (os : Os) (started : os.Started) (H : Type) (enc : TypeId × Value → H) :
    ReturnsInHanded {} Try.checked os 10 .any (Rows.fnExactHasCodesSpec.pre6 enc Try.prog Try.f10 Rows.fnExactHasCodesRow.domain false) (Rows.fnExactHasCodesSpec.post enc Try.prog Try.f10 false true false false) := by
  refine returnsInHanded_of_change (C := Try.checked) own started (by kernel_rfl) Try.func10
    (ChangeSpec.witness6 (enc := enc) (C := Try.checked) false ⟨#[], #[.int .i64 0, .slice none 0 0, .slice none 0 0], []⟩ 8 (by kernel_rfl) (by kernel_rfl) (by kernel_rfl) (by kernel_rfl)) ?_
  intro W base args ds gs before hval0 hW hcnd _
  have hval : ∀ (j : Nat) t v, Try.f10.params[j]? = some t → args[j]? = some v → Value.okWide Try.prog W .any base t v := hval0
  have hW' := hW
  obtain ⟨p, q, hA0, hV, rfl, hfz, hnd⟩ := hW
  have hA : DataW.TrodAll enc Try.prog W 0 (fun _ => true) true Try.f10.params.toList args.toList ds p := hA0
  rw [Try.params10] at hA hval
  obtain ⟨v0, vs0, d0, ds0, p0, q0, hargs, rfl, rfl, h0, r0⟩ := trodAll_cons hA
  obtain ⟨v1, vs1, d1, ds1, p1, q1, rfl, rfl, rfl, h1, r1⟩ := trodAll_cons r0
  obtain ⟨v2, vs2, d2, ds2, p2, q2, rfl, rfl, rfl, h2, r2⟩ := trodAll_cons r1
  obtain ⟨rfl, rfl, rfl⟩ := trodAll_nil r2
  obtain rfl : args = #[v0, v1, v2] := by cases args; simp_all
  obtain ⟨rfl, rfl⟩ := trodVars_none hV
  obtain ⟨a0, rfl, rfl, rfl, w0⟩ := open_int Try.underlying2 (hval 0 2 v0 rfl rfl) h0
  obtain ⟨a1, len1, cap1, rfl⟩ := okWide_slice Try.underlying26 (hval 1 26 v1 rfl rfl)
  have k1 := h1
  have lt1 : ∀ x ∈ p1, x.block < W.heap.size := by obtain ⟨m, hm⟩ := k1; exact DataW.trod_lt m _ _ _ hm
  obtain ⟨z1, w1⟩ : ∃ zs, IsRow .i64 W a1 len1 cap1 zs := by
    obtain ⟨fuel, hf⟩ := h1
    rcases open_ints Try.underlying26 Try.underlying2 (by kernel_rfl) hf with ⟨hcs, _⟩ | ⟨x, l, c, zs, hcs, _, hl, hm, hz, _, hcell, hwz⟩
    · simp [Value.cells] at hcs
      obtain ⟨rfl, rfl, rfl⟩ := hcs
      exact ⟨[], .inl ⟨rfl, rfl, rfl, rfl⟩⟩
    · simp [Value.cells] at hcs
      obtain ⟨rfl, rfl, rfl⟩ := hcs
      exact ⟨zs, .inr ⟨_, rfl, hl, hm, by simpa using hz, hcell, hwz⟩⟩
  obtain ⟨a2, len2, cap2, rfl⟩ := okWide_slice Try.underlying26 (hval 2 26 v2 rfl rfl)
  have k2 := h2
  have lt2 : ∀ x ∈ p2, x.block < W.heap.size := by obtain ⟨m, hm⟩ := k2; exact DataW.trod_lt m _ _ _ hm
  obtain ⟨z2, w2⟩ : ∃ zs, IsRow .i64 W a2 len2 cap2 zs := by
    obtain ⟨fuel, hf⟩ := h2
    rcases open_ints Try.underlying26 Try.underlying2 (by kernel_rfl) hf with ⟨hcs, _⟩ | ⟨x, l, c, zs, hcs, _, hl, hm, hz, _, hcell, hwz⟩
    · simp [Value.cells] at hcs
      obtain ⟨rfl, rfl, rfl⟩ := hcs
      exact ⟨[], .inl ⟨rfl, rfl, rfl, rfl⟩⟩
    · simp [Value.cells] at hcs
      obtain ⟨rfl, rfl, rfl⟩ := hcs
      exact ⟨zs, .inr ⟨_, rfl, hl, hm, by simpa using hz, hcell, hwz⟩⟩
  clear hA0 hval0
  refine (walk a0 a1 len1 cap1 z1 a2 len2 cap2 z2 W w0 w1 w2).mono fun e W' ⟨he, bel⟩ => ?_
  subst he
  exact ⟨_, rfl, _, _, _, [], _, [], hW', trodAll_mk1 (shut_bool Try.underlying4 _), (trodAll_cons_mk (shut_int Try.underlying2 w0) (trodAll_cons_mk (Below.trod laidOut (by kernel_rfl) (of_decide_eq_true (by kernel_rfl)) k1 bel lt1) (trodAll_cons_mk (Below.trod laidOut (by kernel_rfl) (of_decide_eq_true (by kernel_rfl)) k2 bel lt2) trodAll_mk0))), rfl, bel.frame _, fun h => by cases h⟩

theorem over : Rows.fnExactHasCodesRow.holds Try.pinned (OpenSpec.ofChange Rows.fnExactHasCodesSpec) :=
  OpenClaim.holds_of_wide 10 Try.f10 rfl rfl rfl rfl rfl rfl rfl ⟨rfl, rfl, rfl, rfl, rfl⟩ rfl rfl rfl rfl rfl (by kernel_rfl) Try.func10 (by kernel_rfl)
    (of_decide_eq_true (by kernel_rfl)) (by unfold Func.isWrapper; first | (rw [if_pos (by decide +kernel)]; kernel_rfl) | (rw [if_neg (by decide +kernel)]; exact ⟨rfl, rfl⟩))
    (fun os started H enc _ => lifted os started H enc)
end Go.Proofs.Ytjkhlkmibajhiaa.fnExactHasCodes

namespace Go.Proofs.Ytjkhlkmibajhiaa
theorem fnExactHasCodes_holds : Rows.FnExactHasCodesSaid := fnExactHasCodes.over
end Go.Proofs.Ytjkhlkmibajhiaa
