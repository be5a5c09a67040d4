/- Proved: called with any text, the law FnExactWordsOf returns true (the program's WordsOf answers as the model does, and its answer owns its memory); no condition. -/
import Derived.Test.YtmidjgpegdodcaaRows
import Derived.Test.YtmidjgpegdodcaaWoq
import Derived.Test.YtmidjgpegdodcaaMks
import Derived.WalkKit
import Derived.ProofKit
import Derived.OpenShut
import Derived.ShutString
import Derived.ChangeOld
import Derived.Below
namespace Go.Proofs.Ytmidjgpegdodcaa.fnExactWordsOf
open Go.ChangeShapes Go.WideShapes Go.ChangeAt Go.RowKit
open Go.ChangeMaps (open_string shut_string)
set_option linter.unusedVariables false

theorem own : ownKnob Try.prog.godebug = none := by kernel_rfl
theorem laidOut : laidOutB Try.prog = true := by kernel_rfl

/-! ### THE WALK -/
set_option maxHeartbeats 1600000 in
set_option maxRecDepth 100000 in
theorem walk (s0 : ByteArray) (w : World) (w0 : s0.size ≤ maxLen) :
    Calls Try.prog 3 #[.string s0] w fun e w' => e = .returned (.bool true) ∧ Below w.heap.size w w' := by
  obtain ⟨t, rfl, hB⟩ := str_surj s0
  have hsz : (str t).size = t.length := str_size t
  by_cases hbig : 1048576 < t.length
  · have hb' : (1048576 : Int) < (t.length : Int) := by omega
    go_enter Try.func3, Try.ntmps3
    go_wp2
    go_ret
    exact ⟨rfl, Below.refl _ _⟩
  · have hb' : ¬ (1048576 : Int) < (t.length : Int) := by omega
    obtain ⟨c, hc0⟩ : ∃ c : Int, c = 0 := ⟨_, rfl⟩
    obtain ⟨l, hN, hspec, himpl⟩ : ∃ l : List (List Nat), l.length ≤ t.length ∧ (∀ w, Calls Try.prog 4 #[.string (str t)] w fun e w' => ∃ v, e = .returned (.agg #[.int .i64 c, v]) ∧ OwnS w' w.heap.size v l ∧ Below w.heap.size w w') ∧ (∀ w, Calls Try.prog 5 #[.string (str t)] w fun e w' => ∃ v, e = .returned (.agg #[.int .i64 c, v]) ∧ OwnS w' w.heap.size v l ∧ Below w.heap.size w w') := by
      subst hc0
      exact ⟨wdX t, wdX_len _ t rfl, fun w => specWordsOf_any t _ w rfl hB (by omega), fun w => wordsOf_any t _ w rfl hB (by omega)⟩
    have Hs : Hid (_) := hspec
    have Hi : Hid (_) := himpl
    clear hspec himpl hc0
    obtain ⟨N, hlN⟩ : ∃ N, l.length = N := ⟨_, rfl⟩
    have hN' : N ≤ 1048576 := by omega
    go_enter Try.func3, Try.ntmps3
    go_wp2_with fail
    refine (Hs.out _).mono ?_
    rintro e w1 ⟨v0, rfl, ho0, hb1⟩
    obtain ⟨a0, cp0, hv0, _⟩ := ho0.form
    rw [hlN] at hv0
    rw [hv0] at ho0 ⊢
    have hb1' : Below w.heap.size w (w1.alloc (.cells #[.int .i64 c, .slice a0 N cp0] 24)) := hb1.alloc hb1.size _
    have hr0 : RdS (w1.alloc (.cells #[.int .i64 c, .slice a0 N cp0] 24)) a0 l := (OwnS.rd ho0).2.below ((Below.refl _ _).alloc (Nat.le_refl _) _)
    have hs1 : (w1.alloc (.cells #[.int .i64 c, .slice a0 N cp0] 24)).heap.size = w1.heap.size + 1 := by simp
    clear ho0 hv0
    go_wp2_with fail
    refine (Hi.out _).mono ?_
    rintro e w2 ⟨v1, rfl, ho1, hb2⟩
    obtain ⟨a1, cp1, hv1, _⟩ := ho1.form
    rw [hlN] at hv1
    rw [hv1] at ho1 ⊢
    clear hv1
    have HC0 := fun (wx : World) (hx : Below (w1.heap.size + 1) (w1.alloc (.cells #[.int .i64 c, .slice a0 N cp0] 24)) wx) => res_block rfl hx
    generalize hW1 : w1.alloc (.cells #[.int .i64 c, .slice a0 N cp0] 24) = W1 at *
    rw [hs1] at hb2 ho1
    have hs2 := hb2.size
    have hr1 := (OwnS.rd ho1).2
    have hbl1 := ho1.lt
    obtain ⟨k0, k1, _, _⟩ := HC0 w2 hb2
    have HB2 : Hid (Below (w1.heap.size + 1) W1 w2) := hb2
    have hz1 : w1.heap.size < w2.heap.size := by omega
    have hbA : Below w2.heap.size w2 (w2.alloc (.cells #[.int .i64 c, .slice a1 N cp1] 24)) := (Below.refl _ _).alloc (Nat.le_refl _) _
    have hrA1 := hr1.below hbA
    have hrA0 := (hr0.below (by rw [hs1]; exact hb2)).below hbA
    go_wp2_with fail
    refine (eqWordsResult_same c a1 a0 N cp1 cp0 l _ hlN hrA1 hrA0 hN').mono ?_
    rintro e w3 ⟨rfl, hb3⟩
    have hs3 := hb3.size
    have HBA : Hid (Below w2.heap.size w2 w3) := hbA.trans (hb3.mono (by simp))
    have ho3 : OwnS w3 (w1.heap.size + 1) (.slice a1 N cp1) l := ho1.below HBA.out (Nat.le_refl _)
    obtain ⟨m0, m1, _, _⟩ := res_block (w := w2) rfl (hb3.mono (by simp))
    have hz3 : w2.heap.size < w3.heap.size := by simp at hs3; omega
    clear hrA1 hrA0 k0 k1
    go_wp2_with fail
    refine (markWordsResult_any c a1 N cp1 (w1.heap.size + 1) l _ ho3 hN').mono ?_
    rintro e w4 ⟨rfl, ho4, hgr⟩
    have hne : some w2.heap.size ≠ (Value.slice a1 N cp1).ownBlock := fun h => by have := (hbl1 _ h.symm).2; omega
    have n0 : w4.cell? ⟨w2.heap.size, 0, none⟩ = some (.int .i64 c) := (hgr.cell_far ⟨w2.heap.size, 0, none⟩ hz3 hne).trans m0
    have n1 : w4.cell? ⟨w2.heap.size, 1, none⟩ = some (.slice a1 N cp1) := (hgr.cell_far ⟨w2.heap.size, 1, none⟩ hz3 hne).trans m1
    have hs4 := hgr.size
    have HB4 : Hid (Below (w1.heap.size + 1) W1 w4) := (HB2.out.trans (HBA.out.mono (by omega))).trans ((Below.refl _ _).grown hgr (by omega) (fun k hk => (ho3.lt k hk).1))
    have hr4 := (OwnS.rd ho4).2
    have hz4 : w2.heap.size < w4.heap.size := by omega
    clear m0 m1 hgr ho4 ho3 ho1 hbl1 hr1
    go_wp2_with fail
    refine (heldWordsResult_any c a1 N cp1 _ hr4 hN').mono ?_
    rintro e w5 ⟨rfl, hb5⟩
    have hs5 := hb5.size
    have HB5 : Hid (Below (w1.heap.size + 1) W1 w5) := HB4.out.trans (hb5.mono (by omega))
    have hr5 := hr4.below hb5
    have p0 : w5.cell? ⟨w2.heap.size, 0, none⟩ = some (.int .i64 c) := (hb5.cell (p := ⟨w2.heap.size, 0, none⟩) hz4).trans n0
    have p1 : w5.cell? ⟨w2.heap.size, 1, none⟩ = some (.slice a1 N cp1) := (hb5.cell (p := ⟨w2.heap.size, 1, none⟩) hz4).trans n1
    have hpos : ¬ ((1 + N : Nat) : Int) < 0 := by omega
    clear n0 n1 hr4
    go_wp2_with fail
    refine (Hi.out _).mono ?_
    rintro e w6 ⟨v2, rfl, ho6, hb6⟩
    obtain ⟨a2, cp2, hv2, _⟩ := ho6.form
    rw [hlN] at hv2
    rw [hv2] at ho6 ⊢
    clear hv2
    have hs6 := hb6.size
    have HB6 : Hid (Below (w1.heap.size + 1) W1 w6) := HB5.out.trans (hb6.mono (by omega))
    obtain ⟨k0, k1, _, _⟩ := HC0 w6 HB6.out
    have hz6 : w1.heap.size < w6.heap.size := by omega
    have hz6' : w2.heap.size < w6.heap.size := by omega
    have hbB : Below w6.heap.size w6 (w6.alloc (.cells #[.int .i64 c, .slice a2 N cp2] 24)) := (Below.refl _ _).alloc (Nat.le_refl _) _
    have hrB2 := (OwnS.rd ho6).2.below hbB
    have hrB0 := (hr0.below (by rw [hs1]; exact HB6.out)).below hbB
    have hr6 := (hr5.below hb6).below hbB
    have q0 : w6.cell? ⟨w2.heap.size, 0, none⟩ = some (.int .i64 c) := (hb6.cell (p := ⟨w2.heap.size, 0, none⟩) (by simp; omega)).trans p0
    have q1 : w6.cell? ⟨w2.heap.size, 1, none⟩ = some (.slice a1 N cp1) := (hb6.cell (p := ⟨w2.heap.size, 1, none⟩) (by simp; omega)).trans p1
    clear p0 p1 hr5
    go_wp2_with fail
    refine (eqWordsResult_same c a2 a0 N cp2 cp0 l _ hlN hrB2 hrB0 hN').mono ?_
    rintro e w7 ⟨rfl, hb7⟩
    have hs7 := hb7.size
    have HBB : Hid (Below w6.heap.size w6 w7) := hbB.trans (hb7.mono (by simp))
    have hr7 := hr6.below hb7
    have s0 : w7.cell? ⟨w2.heap.size, 0, none⟩ = some (.int .i64 c) := (HBB.out.cell (p := ⟨w2.heap.size, 0, none⟩) hz6').trans q0
    have s1 : w7.cell? ⟨w2.heap.size, 1, none⟩ = some (.slice a1 N cp1) := (HBB.out.cell (p := ⟨w2.heap.size, 1, none⟩) hz6').trans q1
    have HB7 : Hid (Below (w1.heap.size + 1) W1 w7) := HB6.out.trans (HBB.out.mono (by omega))
    have hz7 : w2.heap.size < w7.heap.size := by simp at hs7; omega
    clear q0 q1 hr6 hrB2 hrB0 k0 k1
    go_wp2_with fail
    refine (heldWordsResult_any c a1 N cp1 _ hr7 hN').mono ?_
    rintro e w8 ⟨rfl, hb8⟩
    go_wp2
    go_ret
    exact ⟨rfl, (hb1'.trans (HB7.out.mono (by have := hb1.size; omega))).trans (hb8.mono (by have := hb1.size; omega))⟩

/-! ### THE ROW's STEP -/
set_option maxRecDepth 100000 in
theorem lifted (os : Os) (started : os.Started) (H : Type) (enc : TypeId × Value → H) :
    ReturnsInHanded {} Try.checked os 3 .any (Rows.fnExactWordsOfSpec.pre6 enc Try.prog Try.f3 Rows.fnExactWordsOfRow.domain false) (Rows.fnExactWordsOfSpec.post enc Try.prog Try.f3 false true false false) := by
  refine returnsInHanded_of_change (C := Try.checked) own started (by kernel_rfl) Try.func3
    (ChangeSpec.witness6 (enc := enc) (C := Try.checked) false ⟨#[], #[.string ByteArray.empty], []⟩ 8 (by kernel_rfl) (by kernel_rfl) (by kernel_rfl) (by kernel_rfl)) ?_
  intro W base args ds gs before hval0 hW hcnd _
  have hval : ∀ (j : Nat) t v, Try.f3.params[j]? = some t → args[j]? = some v → Value.okWide Try.prog W .any base t v := hval0
  have hW' := hW
  obtain ⟨p, q, hA0, hV, rfl, hfz, hnd⟩ := hW
  have hA : DataW.TrodAll enc Try.prog W 0 (fun _ => true) true Try.f3.params.toList args.toList ds p := hA0
  rw [Try.params3] at hA hval
  obtain ⟨v0, vs0, d0, ds0, p0, q0, hargs, rfl, rfl, h0, r0⟩ := trodAll_cons hA
  obtain ⟨rfl, rfl, rfl⟩ := trodAll_nil r0
  obtain rfl : args = #[v0] := by cases args; simp_all
  obtain ⟨rfl, rfl⟩ := trodVars_none hV
  obtain ⟨s0, rfl, rfl, rfl, w0⟩ := open_string Try.underlying9 (hval 0 9 v0 rfl rfl) h0
  clear hA0 hval0
  refine (walk s0 W w0).mono fun e W' ⟨he, bel⟩ => ?_
  subst he
  exact ⟨_, rfl, _, _, _, [], _, [], hW', trodAll_mk1 (shut_bool Try.underlying4 _), (trodAll_cons_mk (shut_string Try.underlying9 w0) trodAll_mk0), rfl, bel.frame _, fun h => by cases h⟩

theorem over : Rows.fnExactWordsOfRow.holds Try.pinned (OpenSpec.ofChange Rows.fnExactWordsOfSpec) :=
  OpenClaim.holds_of_wide 3 Try.f3 rfl rfl rfl rfl rfl rfl rfl ⟨rfl, rfl, rfl, rfl, rfl⟩ rfl rfl rfl rfl rfl (by kernel_rfl) Try.func3 (by kernel_rfl)
    (of_decide_eq_true (by kernel_rfl)) (by unfold Func.isWrapper; first | (rw [if_pos (by decide +kernel)]; kernel_rfl) | (rw [if_neg (by decide +kernel)]; exact ⟨rfl, rfl⟩))
    (fun os started H enc _ => lifted os started H enc)
end Go.Proofs.Ytmidjgpegdodcaa.fnExactWordsOf

namespace Go.Proofs.Ytmidjgpegdodcaa
theorem fnExactWordsOf_holds : Rows.FnExactWordsOfSaid := fnExactWordsOf.over
end Go.Proofs.Ytmidjgpegdodcaa
