/- FieldOf answers as the model at every slice of fields and every name: the law returns true, whatever the input; no conditions. -/
import Derived.Test.YtknbndebfickpaaRows
import Derived.Test.YtknbndebfickpaaFldS2
import Derived.Test.YtknbndebfickpaaOpnF
import Derived.Test.YtknbndebfickpaaFdo
import Derived.Test.YtknbndebfickpaaTxt
import Derived.WalkKit
import Derived.ProofKit
import Derived.OpenShut
import Derived.ShutString
import Derived.ChangeOld
import Derived.Below
namespace Go.Proofs.Ytknbndebfickpaa.fnExactFieldOf
open Go.ChangeShapes Go.WideShapes Go.ChangeAt Go.RowKit
open Go.ChangeMaps (open_string shut_string)
set_option linter.unusedVariables false

theorem own : ownKnob Try.prog.godebug = none := by kernel_rfl
theorem laidOut : laidOutB Try.prog = true := by kernel_rfl

/-! ### THE WALK -/
set_option maxHeartbeats 1600000 in
set_option maxRecDepth 100000 in
theorem walk (a0 : Option Addr) (len0 cap0 : Nat) (z0 : List FldP) (s1 : ByteArray) (w : World) (w0 : IsFlds w a0 len0 cap0 z0) (w1 : s1.size ≤ maxLen) :
    Calls Try.prog 7 #[.slice a0 len0 cap0, .string s1] w fun e w' => e = .returned (.bool true) ∧ Below w.heap.size w w' := by
  have hI := w0
  obtain ⟨hl, hnc, hcm, hr, -⟩ := w0
  have hsz := szFieldS_any a0 len0 cap0 z0 w hI
  clear hI
  by_cases hbig : 1048576 < s1.size
  · have hb' : (1048576 : Int) < (s1.size : Int) := by omega
    go_enter Try.func7, Try.ntmps7
    go_wp2
    go_ret
    exact ⟨rfl, Below.refl _ _⟩
  · have hb' : ¬ (1048576 : Int) < (s1.size : Int) := by omega
    have hnm : s1.size ≤ 1048576 := by omega
    go_enter Try.func7, Try.ntmps7
    go_wp2_with fail
    refine hsz.mono ?_
    rintro e w1 ⟨r, rfl, hcase, hb1⟩
    rcases hcase with rfl | ⟨r0, hn, hfit⟩
    · go_wp2
      go_ret
      exact ⟨rfl, hb1⟩
    · have hneg : ¬ r < 0 := by omega
      have hr1 := hr.below hb1
      have HFT : Hid (Fit z0) := hfit
      clear hfit hr hsz
      go_wp2_with fail
      refine (toFieldS_any a0 len0 cap0 z0 _ hl hr1 hn).mono ?_
      rintro e w2 ⟨rfl, ho2, hb2⟩
      have hB2 : Below w.heap.size w w2 := hb1.trans (hb2.mono hb1.size)
      have hr2 := hr1.below hb2
      go_wp2_with fail
      refine (specFieldOf_any _ len0 len0 z0 s1 _ hl ho2.rd.2 hn HFT.out hnm).mono ?_
      rintro e w3 ⟨rfl, hb3⟩
      have hB3 : Below w.heap.size w w3 := hB2.trans (hb3.mono hB2.size)
      have HG : Hid (∀ (a : Option Addr) (n cap : Nat) (w : World), z0.length = n → RdF w a z0 → n ≤ 1048576 → Calls Try.prog 16 #[.slice a n cap, .string s1] w fun e w' => e = .returned (.agg #[.int .i64 (foC z0 s1), .string (foT z0 s1)]) ∧ Below w.heap.size w w') := fun a n cap w h1 h2 h3 => fieldOf_any a n cap z0 s1 w h1 h2 h3 HFT.out hnm
      generalize foC z0 s1 = rc at *
      generalize foT z0 s1 = rt at *
      have hA3 : Below w3.heap.size w3 (w3.alloc (.cells #[.int .i64 rc, .string rt] 37)) := (Below.refl _ _).alloc (Nat.le_refl _) _
      have hr3 := (hr2.below hb3).below hA3
      have hB3' : Below w.heap.size w (w3.alloc (.cells #[.int .i64 rc, .string rt] 37)) := hB3.trans (hA3.mono hB3.size)
      have HS3 : Hid ((w3.alloc (.cells #[.int .i64 rc, .string rt] 37)).heap.size = w3.heap.size + 1) := by show _ = _; simp
      clear hb1 hb2 hb3 ho2 hr1 hr2 hB2 hA3
      go_wp2_with fail
      generalize hW3 : w3.alloc (.cells #[.int .i64 rc, .string rt] 37) = W3 at *
      refine (toFieldS_any a0 len0 cap0 z0 _ hl hr3 hn).mono ?_
      rintro e w4 ⟨rfl, ho4, hb4⟩
      have hB4 : Below w.heap.size w w4 := hB3'.trans (hb4.mono hB3'.size)
      have hr4 := hr3.below hb4
      have hx4 := ho4.rd.2
      have hbl4 : Below (w3.heap.size + 1) W3 w4 := by rw [← HS3.out]; exact hb4
      have hz4 := hbl4.size
      rw [HS3.out] at hz4
      clear hb4 ho4 hr3
      go_wp2_with fail
      refine (HG.out _ len0 len0 _ hl hx4 hn).mono ?_
      rintro e w5 ⟨rfl, hb5⟩
      have hB5 : Below w.heap.size w w5 := hB4.trans (hb5.mono hB4.size)
      have hbl5 := hbl4.trans (hb5.mono hz4)
      have hz5 := hb5.size
      have hA5 : Below w5.heap.size w5 (w5.alloc (.cells #[.int .i64 rc, .string rt] 37)) := (Below.refl _ _).alloc (Nat.le_refl _) _
      have hr5 := (hr4.below hb5).below hA5
      have hx5 := (hx4.below hb5).below hA5
      have hB5' : Below w.heap.size w (w5.alloc (.cells #[.int .i64 rc, .string rt] 37)) := hB5.trans (hA5.mono hB5.size)
      have hbl5' : Below (w3.heap.size + 1) W3 (w5.alloc (.cells #[.int .i64 rc, .string rt] 37)) := hbl5.trans (hA5.mono (by omega))
      obtain ⟨k0, k1, kf0, kf1⟩ := res_block hW3 hbl5
      have hlt5 : w3.heap.size < w5.heap.size := by omega
      clear hb5 hr4 hx4 hB4 hA5 HG
      go_wp2_with fail
      generalize hW5 : w5.alloc (.cells #[.int .i64 rc, .string rt] 37) = W5 at *
      refine (eqTextResult_txt rc rt _).mono ?_
      rintro e w6 ⟨rfl, hb6⟩
      have hB6 : Below w.heap.size w w6 := hB5'.trans (hb6.mono hB5'.size)
      have hr6 := hr5.below hb6
      have hx6 := hx5.below hb6
      clear hb6 hr5 hx5 k0 k1 kf0 kf1
      go_wp2_with fail
      refine (toFieldS_any a0 len0 cap0 z0 _ hl hr6 hn).mono ?_
      rintro e w7 ⟨rfl, ho7, hb7⟩
      have hB7 : Below w.heap.size w w7 := hB6.trans (hb7.mono hB6.size)
      have hx7 := hx6.below hb7
      have hy7 := ho7.rd.2
      clear hb7 ho7 hr6 hx6
      go_wp2_with fail
      refine (eqFieldS_same _ _ len0 len0 len0 z0 _ hl hx7 hy7 hn).mono ?_
      rintro e w8 ⟨rfl, hb8⟩
      have hB8 : Below w.heap.size w w8 := hB7.trans (hb8.mono hB7.size)
      clear hb8
      go_wp2
      go_ret
      exact ⟨rfl, hB8⟩

/-! ### THE ROW's STEP -/
set_option maxRecDepth 100000 in
theorem lifted (os : Os) (started : os.Started) (H : Type) (enc : TypeId × Value → H) :
    ReturnsInHanded {} Try.checked os 7 .any (Rows.fnExactFieldOfSpec.pre6 enc Try.prog Try.f7 Rows.fnExactFieldOfRow.domain false) (Rows.fnExactFieldOfSpec.post enc Try.prog Try.f7 false true false false) := by
  refine returnsInHanded_of_change (C := Try.checked) own started (by kernel_rfl) Try.func7
    (ChangeSpec.witness6 (enc := enc) (C := Try.checked) false ⟨#[], #[.slice none 0 0, .string ByteArray.empty], []⟩ 8 (by kernel_rfl) (by kernel_rfl) (by kernel_rfl) (by kernel_rfl)) ?_
  intro W base args ds gs before hval0 hW hcnd _
  have hval : ∀ (j : Nat) t v, Try.f7.params[j]? = some t → args[j]? = some v → Value.okWide Try.prog W .any base t v := hval0
  have hW' := hW
  obtain ⟨p, q, hA0, hV, rfl, hfz, hnd⟩ := hW
  have hA : DataW.TrodAll enc Try.prog W 0 (fun _ => true) true Try.f7.params.toList args.toList ds p := hA0
  rw [Try.params7] at hA hval
  obtain ⟨v0, vs0, d0, ds0, p0, q0, hargs, rfl, rfl, h0, r0⟩ := trodAll_cons hA
  obtain ⟨v1, vs1, d1, ds1, p1, q1, rfl, rfl, rfl, h1, r1⟩ := trodAll_cons r0
  obtain ⟨rfl, rfl, rfl⟩ := trodAll_nil r1
  obtain rfl : args = #[v0, v1] := by cases args; simp_all
  obtain ⟨rfl, rfl⟩ := trodVars_none hV
  obtain ⟨a0, len0, cap0, rfl⟩ := okWide_slice Try.underlying41 (hval 0 41 v0 rfl rfl)
  have k0 := h0
  have lt0 : ∀ x ∈ p0, x.block < W.heap.size := by obtain ⟨m, hm⟩ := k0; exact DataW.trod_lt m _ _ _ hm
  obtain ⟨z0, w0⟩ : ∃ zs, IsFlds W a0 len0 cap0 zs := by
    obtain ⟨fuel, hf⟩ := h0
    exact open_flds Try.underlying41 Try.underlying70 Try.underlying9 rfl rfl rfl rfl (by kernel_rfl) (by kernel_rfl) hf
  obtain ⟨s1, rfl, rfl, rfl, w1⟩ := open_string Try.underlying9 (hval 1 9 v1 rfl rfl) h1
  clear hA0 hval0
  refine (walk a0 len0 cap0 z0 s1 W w0 w1).mono fun e W' ⟨he, bel⟩ => ?_
  subst he
  exact ⟨_, rfl, _, _, _, [], _, [], hW', trodAll_mk1 (shut_bool Try.underlying4 _), (trodAll_cons_mk (Below.trod laidOut (by kernel_rfl) (of_decide_eq_true (by kernel_rfl)) k0 bel lt0) (trodAll_cons_mk (shut_string Try.underlying9 w1) trodAll_mk0)), rfl, bel.frame _, fun h => by cases h⟩

theorem over : Rows.fnExactFieldOfRow.holds Try.pinned (OpenSpec.ofChange Rows.fnExactFieldOfSpec) :=
  OpenClaim.holds_of_wide 7 Try.f7 rfl rfl rfl rfl rfl rfl rfl ⟨rfl, rfl, rfl, rfl, rfl⟩ rfl rfl rfl rfl rfl (by kernel_rfl) Try.func7 (by kernel_rfl)
    (of_decide_eq_true (by kernel_rfl)) (by unfold Func.isWrapper; first | (rw [if_pos (by decide +kernel)]; kernel_rfl) | (rw [if_neg (by decide +kernel)]; exact ⟨rfl, rfl⟩))
    (fun os started H enc _ => lifted os started H enc)
end Go.Proofs.Ytknbndebfickpaa.fnExactFieldOf

namespace Go.Proofs.Ytknbndebfickpaa
theorem fnExactFieldOf_holds : Rows.FnExactFieldOfSaid := fnExactFieldOf.over
end Go.Proofs.Ytknbndebfickpaa
