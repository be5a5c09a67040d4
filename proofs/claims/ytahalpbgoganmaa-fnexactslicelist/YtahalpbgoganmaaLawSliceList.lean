/- Proved: called with any slice of numbers and any two numbers, the law FnExactSliceList returns true (the program's SliceList answers as the model does, writes into no argument, keeps nothing of one, and its answer owns its memory); no condition of our own. -/
import Derived.Test.YtahalpbgoganmaaRows
import Derived.Test.YtahalpbgoganmaaLsl
import Derived.Test.YtahalpbgoganmaaMrkN
import Derived.Test.YtahalpbgoganmaaFar
import Derived.WalkKit
import Derived.ProofKit
import Derived.OpenShut
import Derived.ShutString
import Derived.ChangeOld
import Derived.Below
namespace Go.Proofs.Ytahalpbgoganmaa.fnExactSliceList
open Go.ChangeShapes Go.WideShapes Go.ChangeAt Go.RowKit
open Go.ChangeMaps (open_string shut_string)
set_option linter.unusedVariables false

theorem own : ownKnob Try.prog.godebug = none := by kernel_rfl
theorem laidOut : laidOutB Try.prog = true := by kernel_rfl

/-! ### THE WALK -/
set_option maxHeartbeats 1600000 in
set_option maxRecDepth 100000 in
theorem walk (a0 : Option Addr) (len0 cap0 : Nat) (z0 : List Int) (a1 : Int) (a2 : Int) (w : World) (w0 : IsRow .i64 w a0 len0 cap0 z0) (w1 : (Lit.int .i64 a1).wf = true) (w2 : (Lit.int .i64 a2).wf = true) :
    Calls Try.prog 3 #[.slice a0 len0 cap0, .int .i64 a1, .int .i64 a2] w fun e w' => e = .returned (.bool true) ∧ Below w.heap.size w w' := by
  obtain ⟨s, hl, hr, hmax⟩ := w0.rdI
  by_cases hbig : 1048576 < len0
  · have hb' : (1048576 : Int) < (len0 : Int) := by omega
    go_enter Try.func3, Try.ntmps3
    go_wp2
    go_ret
    exact ⟨rfl, Below.refl _ _⟩
  · have hb' : ¬ (1048576 : Int) < (len0 : Int) := by omega
    have hn : len0 ≤ 1048576 := by omega
    obtain ⟨c, l, hbnd, hHs, hHi⟩ := lsV_both len0 s a1 a2 hl
    have Hs : Hid (_) := hHs
    have Hi : Hid (_) := hHi
    clear hHs hHi
    obtain ⟨N, hlN⟩ : ∃ N, l.length = N := ⟨_, rfl⟩
    have hN' : N ≤ 1048576 := by omega
    have hpos : ¬ ((1 + N : Nat) : Int) < 0 := by omega
    have hposS : ¬ ((1 + len0 : Nat) : Int) < 0 := by omega
    clear hbnd
    go_enter Try.func3, Try.ntmps3
    go_wp2_with fail
    refine (toInt64S_any a0 len0 cap0 s _ hl hr hn).mono ?_
    rintro e w1 ⟨rfl, hoA, hb1⟩
    go_wp2_with fail
    refine (Hs.out _ _ (RdI.own hoA)).mono ?_
    rintro e w2 ⟨v0, rfl, ho0, hb2⟩
    obtain ⟨b0, cp0, hv0, -, -⟩ := ho0.form
    rw [hlN] at hv0
    rw [hv0] at ho0 ⊢
    have HBw2 : Hid (Below w.heap.size w (w2.alloc (.cells #[.int .i64 c, .slice b0 N cp0] 24))) := (hb1.trans (hb2.mono hb1.size)).alloc (Nat.le_trans hb1.size hb2.size) _
    have hr0 : RdI (w2.alloc (.cells #[.int .i64 c, .slice b0 N cp0] 24)) b0 l := (OwnI.rd ho0).2.below ((Below.refl _ _).alloc (Nat.le_refl _) _)
    have hs2 : (w2.alloc (.cells #[.int .i64 c, .slice b0 N cp0] 24)).heap.size = w2.heap.size + 1 := by simp
    have HC0 := fun (wx : World) (hx : Below (w2.heap.size + 1) (w2.alloc (.cells #[.int .i64 c, .slice b0 N cp0] 24)) wx) => res_block rfl hx
    clear ho0 hv0 hoA hb1 hb2
    go_wp2_with fail
    generalize hW2 : w2.alloc (.cells #[.int .i64 c, .slice b0 N cp0] 24) = W2 at *
    clear hW2
    generalize w2.heap.size = g2 at *
    refine (toInt64S_any a0 len0 cap0 s _ hl (hr.below HBw2.out) hn).mono ?_
    rintro e w3 ⟨rfl, hoX, hb3⟩
    have hX : OwnI w3 W2.heap.size (.slice (some ⟨W2.heap.size, 0, none⟩) len0 len0) s := by unfold OwnI; rw [hl]; exact hoX
    rw [hs2] at hb3 hX
    have hs3 := hb3.size
    clear hoX
    rw [hs2]
    have hlt3 : g2 + 1 < w3.heap.size := (hX.lt (g2 + 1) rfl).2
    go_wp2_with fail
    refine (Hi.out _ _ (OwnI.rd hX).2).mono ?_
    rintro e w4 ⟨v1, rfl, ho1, hb4⟩
    obtain ⟨b1, cp1, hv1, -, -⟩ := ho1.form
    rw [hlN] at hv1
    rw [hv1] at ho1 ⊢
    clear hv1
    have hs4 := hb4.size
    have hX4 : OwnI w4 (g2 + 1) (.slice (some ⟨g2 + 1, 0, none⟩) len0 len0) s := hX.below hb4 (Nat.le_refl _)
    have HB4 : Hid (Below (g2 + 1) W2 w4) := hb3.trans (hb4.mono (by omega))
    obtain ⟨k0, k1, _, _⟩ := HC0 w4 HB4.out
    have hbl1 := ho1.lt
    have hbA : Below w4.heap.size w4 (w4.alloc (.cells #[.int .i64 c, .slice b1 N cp1] 24)) := (Below.refl _ _).alloc (Nat.le_refl _) _
    have hra1 := (OwnI.rd ho1).2.below hbA
    have hrA0 := (hr0.below (by rw [hs2]; exact HB4.out)).below hbA
    have hz4 : g2 < w4.heap.size := by omega
    clear hX hb3 hb4
    go_wp2_with fail
    refine (eqIntsResult_same c b1 b0 N cp1 cp0 l _ hlN hra1 hrA0 hN').mono ?_
    rintro e w5 ⟨rfl, hb5⟩
    have hs5 := hb5.size
    have HB5 : Hid (Below w4.heap.size w4 w5) := hbA.trans (hb5.mono (by simp))
    have ho5 : OwnI w5 w3.heap.size (.slice b1 N cp1) l := ho1.below HB5.out (Nat.le_refl _)
    have hX5 : OwnI w5 (g2 + 1) (.slice (some ⟨g2 + 1, 0, none⟩) len0 len0) s := hX4.below HB5.out (Nat.le_refl _)
    obtain ⟨m0, m1, _, _⟩ := res_block (w := w4) rfl (hb5.mono (by simp))
    have HC5 : Hid (Below (g2 + 1) W2 w5) := HB4.out.trans (HB5.out.mono (by omega))
    have hz5 : w4.heap.size < w5.heap.size := by simp at hs5; omega
    clear hra1 hrA0 hb5 hX4 k0 k1 hbA
    have HW5 : Hid (Below w.heap.size w w5) := HBw2.out.trans (HC5.out.mono (by have := HBw2.out.size; omega))
    go_wp2_with fail
    refine (toInt64S_any a0 len0 cap0 s _ hl (hr.below HW5.out) hn).mono ?_
    rintro e w6 ⟨rfl, hoT, hb6⟩
    have hs6 := hb6.size
    have hX6 := hX5.below hb6 (Nat.le_refl _)
    have ho6 := ho5.below hb6 (Nat.le_refl _)
    have p0 : w6.cell? ⟨w4.heap.size, 0, none⟩ = some (.int .i64 c) := (hb6.cell (p := ⟨w4.heap.size, 0, none⟩) hz5).trans m0
    have p1 : w6.cell? ⟨w4.heap.size, 1, none⟩ = some (.slice b1 N cp1) := (hb6.cell (p := ⟨w4.heap.size, 1, none⟩) hz5).trans m1
    have HC6 : Hid (Below (g2 + 1) W2 w6) := HC5.out.trans (hb6.mono (by omega))
    clear m0 m1 hX5 ho5
    go_wp2_with fail
    refine (eqInt64S_same _ _ len0 len0 len0 s _ hl (OwnI.rd hX6).2 (RdI.own hoT) hn).mono ?_
    rintro e w7 ⟨rfl, hb7⟩
    have hs7 := hb7.size
    have hX7 := hX6.below hb7 (Nat.le_refl _)
    have ho7 := ho6.below hb7 (Nat.le_refl _)
    have q0 : w7.cell? ⟨w4.heap.size, 0, none⟩ = some (.int .i64 c) := (hb7.cell (p := ⟨w4.heap.size, 0, none⟩) (by simp; omega)).trans p0
    have q1 : w7.cell? ⟨w4.heap.size, 1, none⟩ = some (.slice b1 N cp1) := (hb7.cell (p := ⟨w4.heap.size, 1, none⟩) (by simp; omega)).trans p1
    have HC7 : Hid (Below (g2 + 1) W2 w7) := HC6.out.trans (hb7.mono (by omega))
    clear p0 p1 hX6 ho6 hb7 hb6 hoT
    go_wp2_with fail
    refine (markInt64S_any _ len0 len0 1 (g2 + 1) s _ hX7 hn (by omega)).mono ?_
    rintro e w8 ⟨rfl, -, hgr⟩
    have hs8 := hgr.size
    have hne4 : some w4.heap.size ≠ (Value.slice (some ⟨g2 + 1, 0, none⟩) len0 len0).ownBlock := fun h => by rw [ownBlock_slice] at h; simp at h; omega
    have hneV : ∀ b, (Value.slice b1 N cp1).ownBlock = some b → some b ≠ (Value.slice (some ⟨g2 + 1, 0, none⟩) len0 len0).ownBlock := fun b hb h => by
      have := (hbl1 b hb).1
      rw [ownBlock_slice] at h; simp at h; omega
    have ho8 : OwnI w8 w3.heap.size (.slice b1 N cp1) l := ho7.far hgr hneV
    have m0 : w8.cell? ⟨w4.heap.size, 0, none⟩ = some (.int .i64 c) := (hgr.cell_far ⟨w4.heap.size, 0, none⟩ (by simp; omega) hne4).trans q0
    have m1 : w8.cell? ⟨w4.heap.size, 1, none⟩ = some (.slice b1 N cp1) := (hgr.cell_far ⟨w4.heap.size, 1, none⟩ (by simp; omega) hne4).trans q1
    have HC8 : Hid (Below (g2 + 1) W2 w8) := HC7.out.trans ((Below.refl _ _).grown hgr (by omega) (fun k hk => (hX7.lt k hk).1))
    obtain ⟨k0, k1, _, _⟩ := HC0 w8 HC8.out
    have hr81 := (OwnI.rd ho8).2
    have hr80 := hr0.below (by rw [hs2]; exact HC8.out)
    clear q0 q1 hX7 ho7 hgr hne4 hneV
    go_wp2_with fail
    refine (eqIntsResult_same c b1 b0 N cp1 cp0 l _ hlN hr81 hr80 hN').mono ?_
    rintro e w9 ⟨rfl, hb9⟩
    have hs9 := hb9.size
    have ho9 := ho8.below hb9 (Nat.le_refl _)
    have q0 : w9.cell? ⟨w4.heap.size, 0, none⟩ = some (.int .i64 c) := (hb9.cell (p := ⟨w4.heap.size, 0, none⟩) (by simp; omega)).trans m0
    have q1 : w9.cell? ⟨w4.heap.size, 1, none⟩ = some (.slice b1 N cp1) := (hb9.cell (p := ⟨w4.heap.size, 1, none⟩) (by simp; omega)).trans m1
    have HC9 : Hid (Below (g2 + 1) W2 w9) := HC8.out.trans (hb9.mono (by omega))
    clear m0 m1 ho8 hb9 k0 k1 hr81 hr80
    go_wp2_with fail
    refine (markIntsResult_any c b1 N cp1 w3.heap.size l _ ho9 hN').mono ?_
    rintro e w10 ⟨rfl, ho10, hgr⟩
    have hs10 := hgr.size
    have hne : some w4.heap.size ≠ (Value.slice b1 N cp1).ownBlock := fun h => by have := (hbl1 _ h.symm).2; omega
    have m0 : w10.cell? ⟨w4.heap.size, 0, none⟩ = some (.int .i64 c) := (hgr.cell_far ⟨w4.heap.size, 0, none⟩ (by simp; omega) hne).trans q0
    have m1 : w10.cell? ⟨w4.heap.size, 1, none⟩ = some (.slice b1 N cp1) := (hgr.cell_far ⟨w4.heap.size, 1, none⟩ (by simp; omega) hne).trans q1
    have HC10 : Hid (Below (g2 + 1) W2 w10) := HC9.out.trans ((Below.refl _ _).grown hgr (by omega) (fun k hk => by have := (ho9.lt k hk).1; omega))
    have hr10 := (OwnI.rd ho10).2
    have hz10 : w4.heap.size < w10.heap.size := by omega
    clear q0 q1 ho9 hgr hne ho10 hbl1 ho1
    go_wp2_with fail
    refine (heldIntsResult_any c b1 N cp1 _ hr10 hN').mono ?_
    rintro e w11 ⟨rfl, hb11⟩
    have hs11 := hb11.size
    have hr11 := hr10.below hb11
    have q0 : w11.cell? ⟨w4.heap.size, 0, none⟩ = some (.int .i64 c) := (hb11.cell (p := ⟨w4.heap.size, 0, none⟩) hz10).trans m0
    have q1 : w11.cell? ⟨w4.heap.size, 1, none⟩ = some (.slice b1 N cp1) := (hb11.cell (p := ⟨w4.heap.size, 1, none⟩) hz10).trans m1
    have HC11 : Hid (Below (g2 + 1) W2 w11) := HC10.out.trans (hb11.mono (by omega))
    have HW11 : Hid (Below w.heap.size w w11) := HBw2.out.trans (HC11.out.mono (by have := HBw2.out.size; omega))
    clear m0 m1 hr10 hb11
    go_wp2_with fail
    refine (toInt64S_any a0 len0 cap0 s _ hl (hr.below HW11.out) hn).mono ?_
    rintro e w12 ⟨rfl, hoU, hb12⟩
    have hs12 := hb12.size
    have hr12 := hr11.below hb12
    have m0 : w12.cell? ⟨w4.heap.size, 0, none⟩ = some (.int .i64 c) := (hb12.cell (p := ⟨w4.heap.size, 0, none⟩) (by simp; omega)).trans q0
    have m1 : w12.cell? ⟨w4.heap.size, 1, none⟩ = some (.slice b1 N cp1) := (hb12.cell (p := ⟨w4.heap.size, 1, none⟩) (by simp; omega)).trans q1
    have HC12 : Hid (Below (g2 + 1) W2 w12) := HC11.out.trans (hb12.mono (by omega))
    clear q0 q1 hr11 hb12
    go_wp2_with fail
    refine (Hi.out _ _ (RdI.own hoU)).mono ?_
    rintro e w13 ⟨v2, rfl, ho13, hb13⟩
    obtain ⟨b2, cp2, hv2, -, -⟩ := ho13.form
    rw [hlN] at hv2
    rw [hv2] at ho13 ⊢
    clear hv2 hoU
    have hs13 := hb13.size
    have HC13 : Hid (Below (g2 + 1) W2 w13) := HC12.out.trans (hb13.mono (by omega))
    obtain ⟨k0, k1, _, _⟩ := HC0 w13 HC13.out
    have hz13 : g2 < w13.heap.size := by omega
    have hz13' : w4.heap.size < w13.heap.size := by omega
    have hbB : Below w13.heap.size w13 (w13.alloc (.cells #[.int .i64 c, .slice b2 N cp2] 24)) := (Below.refl _ _).alloc (Nat.le_refl _) _
    have hrB2 := (OwnI.rd ho13).2.below hbB
    have hrB0 := (hr0.below (by rw [hs2]; exact HC13.out)).below hbB
    have hr13 := (hr12.below hb13).below hbB
    have q0 : w13.cell? ⟨w4.heap.size, 0, none⟩ = some (.int .i64 c) := (hb13.cell (p := ⟨w4.heap.size, 0, none⟩) (by simp; omega)).trans m0
    have q1 : w13.cell? ⟨w4.heap.size, 1, none⟩ = some (.slice b1 N cp1) := (hb13.cell (p := ⟨w4.heap.size, 1, none⟩) (by simp; omega)).trans m1
    clear m0 m1 hr12 ho13 hb13
    go_wp2_with fail
    refine (eqIntsResult_same c b2 b0 N cp2 cp0 l _ hlN hrB2 hrB0 hN').mono ?_
    rintro e w14 ⟨rfl, hb14⟩
    have hs14 := hb14.size
    have HB14 : Hid (Below w13.heap.size w13 w14) := hbB.trans (hb14.mono (by simp))
    have hr14 := hr13.below hb14
    have m0 : w14.cell? ⟨w4.heap.size, 0, none⟩ = some (.int .i64 c) := (HB14.out.cell (p := ⟨w4.heap.size, 0, none⟩) hz13').trans q0
    have m1 : w14.cell? ⟨w4.heap.size, 1, none⟩ = some (.slice b1 N cp1) := (HB14.out.cell (p := ⟨w4.heap.size, 1, none⟩) hz13').trans q1
    clear q0 q1 k0 k1 hrB2 hrB0 hr13 hbB hb14
    go_wp2_with fail
    refine (heldIntsResult_any c b1 N cp1 _ hr14 hN').mono ?_
    rintro e w15 ⟨rfl, hb15⟩
    have HF : Hid (Below w.heap.size w w15) := by
      have h1 := HBw2.out.size
      have h2 := HC13.out.size
      have h3 := HB14.out.size
      exact (HBw2.out.trans (HC13.out.mono (by omega))).trans ((HB14.out.mono (by omega)).trans (hb15.mono (by omega)))
    clear m0 m1 hb15 hr14 HC0
    go_wp2
    go_ret
    exact ⟨rfl, HF.out⟩

/-! ### THE ROW's STEP -/
set_option maxRecDepth 100000 in
theorem lifted (os : Os) (started : os.Started) (H : Type) (enc : TypeId × Value → H) :
    ReturnsInHanded {} Try.checked os 3 .any (Rows.fnExactSliceListSpec.pre6 enc Try.prog Try.f3 Rows.fnExactSliceListRow.domain false) (Rows.fnExactSliceListSpec.post enc Try.prog Try.f3 false true false false) := by
  refine returnsInHanded_of_change (C := Try.checked) own started (by kernel_rfl) Try.func3
    (ChangeSpec.witness6 (enc := enc) (C := Try.checked) false ⟨#[], #[.slice none 0 0, .int .i64 0, .int .i64 0], []⟩ 8 (by kernel_rfl) (by kernel_rfl) (by kernel_rfl) (by kernel_rfl)) ?_
  intro W base args ds gs before hval0 hW hcnd _
  have hval : ∀ (j : Nat) t v, Try.f3.params[j]? = some t → args[j]? = some v → Value.okWide Try.prog W .any base t v := hval0
  have hW' := hW
  obtain ⟨p, q, hA0, hV, rfl, hfz, hnd⟩ := hW
  have hA : DataW.TrodAll enc Try.prog W 0 (fun _ => true) true Try.f3.params.toList args.toList ds p := hA0
  rw [Try.params3] at hA hval
  obtain ⟨v0, vs0, d0, ds0, p0, q0, hargs, rfl, rfl, h0, r0⟩ := trodAll_cons hA
  obtain ⟨v1, vs1, d1, ds1, p1, q1, rfl, rfl, rfl, h1, r1⟩ := trodAll_cons r0
  obtain ⟨v2, vs2, d2, ds2, p2, q2, rfl, rfl, rfl, h2, r2⟩ := trodAll_cons r1
  obtain ⟨rfl, rfl, rfl⟩ := trodAll_nil r2
  obtain rfl : args = #[v0, v1, v2] := by cases args; simp_all
  obtain ⟨rfl, rfl⟩ := trodVars_none hV
  obtain ⟨a0, len0, cap0, rfl⟩ := okWide_slice Try.underlying22 (hval 0 22 v0 rfl rfl)
  have k0 := h0
  have lt0 : ∀ x ∈ p0, x.block < W.heap.size := by obtain ⟨m, hm⟩ := k0; exact DataW.trod_lt m _ _ _ hm
  obtain ⟨z0, w0⟩ : ∃ zs, IsRow .i64 W a0 len0 cap0 zs := by
    obtain ⟨fuel, hf⟩ := h0
    rcases open_ints Try.underlying22 Try.underlying2 (by kernel_rfl) hf with ⟨hcs, _⟩ | ⟨x, l, c, zs, hcs, _, hl, hm, hz, _, hcell, hwz⟩
    · simp [Value.cells] at hcs
      obtain ⟨rfl, rfl, rfl⟩ := hcs
      exact ⟨[], .inl ⟨rfl, rfl, rfl, rfl⟩⟩
    · simp [Value.cells] at hcs
      obtain ⟨rfl, rfl, rfl⟩ := hcs
      exact ⟨zs, .inr ⟨_, rfl, hl, hm, by simpa using hz, hcell, hwz⟩⟩
  obtain ⟨a1, rfl, rfl, rfl, w1⟩ := open_int Try.underlying2 (hval 1 2 v1 rfl rfl) h1
  obtain ⟨a2, rfl, rfl, rfl, w2⟩ := open_int Try.underlying2 (hval 2 2 v2 rfl rfl) h2
  clear hA0 hval0
  refine (walk a0 len0 cap0 z0 a1 a2 W w0 w1 w2).mono fun e W' ⟨he, bel⟩ => ?_
  subst he
  exact ⟨_, rfl, _, _, _, [], _, [], hW', trodAll_mk1 (shut_bool Try.underlying4 _), (trodAll_cons_mk (Below.trod laidOut (by kernel_rfl) (of_decide_eq_true (by kernel_rfl)) k0 bel lt0) (trodAll_cons_mk (shut_int Try.underlying2 w1) (trodAll_cons_mk (shut_int Try.underlying2 w2) trodAll_mk0))), rfl, bel.frame _, fun h => by cases h⟩

theorem over : Rows.fnExactSliceListRow.holds Try.pinned (OpenSpec.ofChange Rows.fnExactSliceListSpec) :=
  OpenClaim.holds_of_wide 3 Try.f3 rfl rfl rfl rfl rfl rfl rfl ⟨rfl, rfl, rfl, rfl, rfl⟩ rfl rfl rfl rfl rfl (by kernel_rfl) Try.func3 (by kernel_rfl)
    (of_decide_eq_true (by kernel_rfl)) (by unfold Func.isWrapper; first | (rw [if_pos (by decide +kernel)]; kernel_rfl) | (rw [if_neg (by decide +kernel)]; exact ⟨rfl, rfl⟩))
    (fun os started H enc _ => lifted os started H enc)
end Go.Proofs.Ytahalpbgoganmaa.fnExactSliceList

namespace Go.Proofs.Ytahalpbgoganmaa
theorem fnExactSliceList_holds : Rows.FnExactSliceListSaid := fnExactSliceList.over
end Go.Proofs.Ytahalpbgoganmaa
