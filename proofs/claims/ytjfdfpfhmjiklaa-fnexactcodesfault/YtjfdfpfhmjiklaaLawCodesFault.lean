/- Proved: called with any slice of numbers, the law FnExactCodesFault returns true (the program's CodesFault answers as the model does and leaves its argument as it was); no condition of our own. -/
import Derived.Test.YtjfdfpfhmjiklaaRows
import Derived.Test.YtjfdfpfhmjiklaaFlt
import Derived.WalkKit
import Derived.ProofKit
import Derived.OpenShut
import Derived.ShutString
import Derived.ChangeOld
import Derived.Below
namespace Go.Proofs.Ytjfdfpfhmjiklaa.fnExactCodesFault
open Go.ChangeShapes Go.WideShapes Go.ChangeAt Go.RowKit
open Go.ChangeMaps (open_string shut_string)
set_option linter.unusedVariables false

theorem own : ownKnob Try.prog.godebug = none := by kernel_rfl
theorem laidOut : laidOutB Try.prog = true := by kernel_rfl

/-! ### THE WALK -/
set_option maxHeartbeats 1600000 in
set_option maxRecDepth 100000 in
theorem walk (a0 : Option Addr) (len0 cap0 : Nat) (z0 : List Int) (w : World) (w0 : IsRow .i64 w a0 len0 cap0 z0) :
    Calls Try.prog 6 #[.slice a0 len0 cap0] w fun e w' => e = .returned (.bool true) ∧ Below w.heap.size w w' := by
  obtain ⟨l, hl, hr, hmax⟩ := w0.rdI
  by_cases hbig : 1048576 < len0
  · have hb' : (1048576 : Int) < (len0 : Int) := by omega
    go_enter Try.func6, Try.ntmps6
    go_wp2
    go_ret
    exact ⟨rfl, Below.refl _ _⟩
  · have hb' : ¬ (1048576 : Int) < (len0 : Int) := by omega
    have hn : len0 ≤ 1048576 := by omega
    go_enter Try.func6, Try.ntmps6
    go_wp2_with fail
    refine (toInt64S_any a0 len0 cap0 l _ hl hr hn).mono ?_
    rintro e w1 ⟨rfl, hown1, hb1⟩
    go_wp2_with fail
    refine (specCodesFault_any _ len0 len0 l _ hl (RdI.own hown1) hn).mono ?_
    rintro e w2 ⟨rfl, hb2⟩
    have hr2 := (hr.below hb1).below hb2
    have hbA : Below w.heap.size w w2 := hb1.trans (hb2.mono hb1.size)
    clear hown1 hb1 hb2 hr
    go_wp2_with fail
    refine (toInt64S_any a0 len0 cap0 l _ hl hr2 hn).mono ?_
    rintro e w3 ⟨rfl, hown3, hb3⟩
    have hx := RdI.own hown3
    have hr3 := hr2.below hb3
    have hbB : Below w.heap.size w w3 := hbA.trans (hb3.mono hbA.size)
    clear hown3 hb3 hr2 hbA
    go_wp2_with fail
    refine (codesFault_any _ len0 len0 l _ hl hx hn).mono ?_
    rintro e w4 ⟨rfl, hb4⟩
    have hx4 := hx.below hb4
    have hr4 := hr3.below hb4
    have hbC : Below w.heap.size w w4 := hbB.trans (hb4.mono hbB.size)
    clear hx hb4 hr3 hbB
    go_wp2_with fail
    refine (toInt64S_any a0 len0 cap0 l _ hl hr4 hn).mono ?_
    rintro e w5 ⟨rfl, hown5, hb5⟩
    have hx5 := hx4.below hb5
    have hy5 := RdI.own hown5
    have hbD : Below w.heap.size w w5 := hbC.trans (hb5.mono hbC.size)
    clear hown5 hb5 hr4 hbC hx4
    go_wp2_with fail
    refine (eqInt64S_same _ _ len0 len0 len0 l _ hl hx5 hy5 hn).mono ?_
    rintro e w6 ⟨rfl, hb6⟩
    go_wp2
    go_ret
    exact ⟨rfl, hbD.trans (hb6.mono hbD.size)⟩

/-! ### THE ROW's STEP -/
set_option maxRecDepth 100000 in
theorem lifted (os : Os) (started : os.Started) (H : Type) (enc : TypeId × Value → H) :
    ReturnsInHanded {} Try.checked os 6 .any (Rows.fnExactCodesFaultSpec.pre6 enc Try.prog Try.f6 Rows.fnExactCodesFaultRow.domain false) (Rows.fnExactCodesFaultSpec.post enc Try.prog Try.f6 false true false false) := by
  refine returnsInHanded_of_change (C := Try.checked) own started (by kernel_rfl) Try.func6
    (ChangeSpec.witness6 (enc := enc) (C := Try.checked) false ⟨#[], #[.slice none 0 0], []⟩ 8 (by kernel_rfl) (by kernel_rfl) (by kernel_rfl) (by kernel_rfl)) ?_
  intro W base args ds gs before hval0 hW hcnd _
  have hval : ∀ (j : Nat) t v, Try.f6.params[j]? = some t → args[j]? = some v → Value.okWide Try.prog W .any base t v := hval0
  have hW' := hW
  obtain ⟨p, q, hA0, hV, rfl, hfz, hnd⟩ := hW
  have hA : DataW.TrodAll enc Try.prog W 0 (fun _ => true) true Try.f6.params.toList args.toList ds p := hA0
  rw [Try.params6] at hA hval
  obtain ⟨v0, vs0, d0, ds0, p0, q0, hargs, rfl, rfl, h0, r0⟩ := trodAll_cons hA
  obtain ⟨rfl, rfl, rfl⟩ := trodAll_nil r0
  obtain rfl : args = #[v0] := by cases args; simp_all
  obtain ⟨rfl, rfl⟩ := trodVars_none hV
  obtain ⟨a0, len0, cap0, rfl⟩ := okWide_slice Try.underlying26 (hval 0 26 v0 rfl rfl)
  have k0 := h0
  have lt0 : ∀ x ∈ p0, x.block < W.heap.size := by obtain ⟨m, hm⟩ := k0; exact DataW.trod_lt m _ _ _ hm
  obtain ⟨z0, w0⟩ : ∃ zs, IsRow .i64 W a0 len0 cap0 zs := by
    obtain ⟨fuel, hf⟩ := h0
    rcases open_ints Try.underlying26 Try.underlying2 (by kernel_rfl) hf with ⟨hcs, _⟩ | ⟨x, l, c, zs, hcs, _, hl, hm, hz, _, hcell, hwz⟩
    · simp [Value.cells] at hcs
      obtain ⟨rfl, rfl, rfl⟩ := hcs
      exact ⟨[], .inl ⟨rfl, rfl, rfl, rfl⟩⟩
    · simp [Value.cells] at hcs
      obtain ⟨rfl, rfl, rfl⟩ := hcs
      exact ⟨zs, .inr ⟨_, rfl, hl, hm, by simpa using hz, hcell, hwz⟩⟩
  clear hA0 hval0
  refine (walk a0 len0 cap0 z0 W w0).mono fun e W' ⟨he, bel⟩ => ?_
  subst he
  exact ⟨_, rfl, _, _, _, [], _, [], hW', trodAll_mk1 (shut_bool Try.underlying4 _), (trodAll_cons_mk (Below.trod laidOut (by kernel_rfl) (of_decide_eq_true (by kernel_rfl)) k0 bel lt0) trodAll_mk0), rfl, bel.frame _, fun h => by cases h⟩

theorem over : Rows.fnExactCodesFaultRow.holds Try.pinned (OpenSpec.ofChange Rows.fnExactCodesFaultSpec) :=
  OpenClaim.holds_of_wide 6 Try.f6 rfl rfl rfl rfl rfl rfl rfl ⟨rfl, rfl, rfl, rfl, rfl⟩ rfl rfl rfl rfl rfl (by kernel_rfl) Try.func6 (by kernel_rfl)
    (of_decide_eq_true (by kernel_rfl)) (by unfold Func.isWrapper; first | (rw [if_pos (by decide +kernel)]; kernel_rfl) | (rw [if_neg (by decide +kernel)]; exact ⟨rfl, rfl⟩))
    (fun os started H enc _ => lifted os started H enc)
end Go.Proofs.Ytjfdfpfhmjiklaa.fnExactCodesFault

namespace Go.Proofs.Ytjfdfpfhmjiklaa
theorem fnExactCodesFault_holds : Rows.FnExactCodesFaultSaid := fnExactCodesFault.over
end Go.Proofs.Ytjfdfpfhmjiklaa
