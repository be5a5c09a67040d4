/- Proved: called with any text, the law FnExactParseSet returns true (the program's ParseSet answers as the model does, and its answer owns its memory); tied to the program's text; no condition of our own. -/
import Derived.Test.YtlkfmgfblfkgbaaDoorCards
import Derived.Test.YtlkfmgfblfkgbaaDoorTie
import Derived.Test.YtlkfmgfblfkgbaaDoorYpi
import Derived.Test.YtlkfmgfblfkgbaaDoorMrkY
import Derived.WalkKit
import Derived.ProofKit
import Derived.OpenShut
import Derived.ShutString
import Derived.ChangeOld
import Derived.Below
import Derived.LaidMore
import Derived.OpenVars
import Derived.Stop.Joined
import Derived.Lib.LaidTab
import Derived.Stop.LaidErr
import Derived.Test.YtlkfmgfblfkgbaaDoorShp
import Derived.Lay
import Derived.MakeChecks
namespace Go.Proofs.YtlkfmgfblfkgbaaDoor.fnExactParseSet
open Go.ChangeShapes Go.WideShapes Go.ChangeAt Go.WideMaps Go.WideElems Go.RowKit
open Go.ChangeMaps (open_string shut_string)
set_option linter.unusedVariables false

theorem own : ownKnob Tryd.prog.godebug = none := by kernel_rfl
theorem laidOut : laidOutB Tryd.prog = true := by kernel_rfl
theorem gW : Tryd.prog.globalNamed "internal/strconv.uint64pow10" = some 5 := by kernel_rfl
theorem gtW : (Tryd.prog.globals[5]?).map (·.type) = some 113 := by kernel_rfl
theorem cW : Tryd.prog.cellsOf 113 = 20 := by kernel_rfl
theorem cellsU : Tryd.prog.cellsOf 95 = 1 := by kernel_rfl

/-- The door's own heap meets the condition: closed facts. -/
theorem door_met (os : Os) (args : Array Value) : laidMetH Tryd.prog Rows.fnExactParseSetRow.laid ((World.laidAll Tryd.prog os Rows.fnExactParseSetRow.laid).forCall (fun _ _ => 0) ⟨#[], args, []⟩).memory := by
  rw [MakeChecks.laidMetH_plain _ _ _ (by kernel_rfl)]; exact laidMet_laidAll _ (by kernel_rfl) (by kernel_rfl)

theorem gtR : (Tryd.prog.globals[4]?).map (·.type) = some 69 := by kernel_rfl
theorem gtS : (Tryd.prog.globals[3]?).map (·.type) = some 69 := by kernel_rfl
theorem cellsE : Tryd.prog.cellsOf 119 = 1 := by kernel_rfl
theorem cellsT : Tryd.prog.cellsOf 9 = 1 := by kernel_rfl
theorem star : "*" ++ "errors.errorString" = "*errors.errorString" := by decide
theorem rowE (u : TypeId) (h : Tryd.prog.typeName? 3 u = some "*errors.errorString") : u = 117 :=
  typeName_ptr_named (nm := "errors.errorString") (by rw [star]; kernel_rfl) (by kernel_rfl) (by decide) u (by rw [star]; exact h)
/-- WHAT THE ROW LISTS GIVES THE WALK: the library's errors lie in their variables. -/
theorem of_laidE {W : World} (h : laidMetH Tryd.prog Rows.fnExactParseSetRow.laid W) (hsh : W.ShapedOpen Tryd.prog) : VarE W := by
  have h0 : laidMet Tryd.prog [("math/bits.deBruijn32tab", Rows.laid_math_bits_deBruijn32tab), ("math/bits.deBruijn64tab", Rows.laid_math_bits_deBruijn64tab), ("internal/strconv.uint64pow10", Rows.laid_internal_strconv_uint64pow10), ("unicode/utf8.acceptRanges", Rows.laid_unicode_utf8_acceptRanges), ("strconv.ErrRange", Rows.laid_strconv_ErrRange), ("strconv.ErrSyntax", Rows.laid_strconv_ErrSyntax), ("unicode/utf8.first", Rows.laid_unicode_utf8_first)] W := h
  have h4 := h0.tail.tail.tail.tail
  obtain ⟨a0, s0, hv0, -, -, -⟩ := laid_sentinel h4 gRan gtR Tryd.underlying69 rowE Tryd.underlying117 Tryd.underlying119 rfl rfl Tryd.underlying9 cellsE cellsT
  obtain ⟨a1, s1, hv1, -, -, -⟩ := laid_sentinel h4.tail gSyn gtS Tryd.underlying69 rowE Tryd.underlying117 Tryd.underlying119 rfl rfl Tryd.underlying9 cellsE cellsT
  exact ⟨maxLen_shaped hsh, ⟨_, _, hv1⟩, ⟨_, _, hv0⟩⟩

/-- WHAT THE ROW LISTS GIVES THE WALK: the table lies in its variable. -/
theorem of_laidW {W : World} (h : laidMetH Tryd.prog Rows.fnExactParseSetRow.laid W) : TabW W :=
  Lib.tabIs_of_head (zs := Lib.pow10Tab) gW gtW Tryd.underlying113 Tryd.underlying95 cellsU cW h.tail.tail

/-! ### THE WALK -/
set_option maxHeartbeats 1600000 in
set_option maxRecDepth 100000 in
theorem walk (s0 : ByteArray) (w : World) (w0 : s0.size ≤ maxLen) (htW : TabW w) (htE : VarE w) :
    Calls Tryd.prog 3 #[.string s0] w fun e w' => e = .returned (.bool true) ∧ Below w.heap.size w w' := by
  have hw0 := w0
  unfold maxLen at hw0
  by_cases hbig : 1048576 < s0.size
  · have hb' : (1048576 : Int) < (s0.size : Int) := by omega
    go_enter Tryd.func3, Tryd.ntmps3
    go_wp2
    go_ret
    exact ⟨rfl, Below.refl _ _⟩
  · have hb' : ¬ (1048576 : Int) < (s0.size : Int) := by omega
    obtain ⟨c, l, hN, hspec, himpl⟩ := parseSet_both s0 (by omega)
    have Hs : Hid (_) := hspec
    have Hi : Hid (_) := himpl
    clear hspec himpl
    obtain ⟨N, hlN⟩ : ∃ N, l.length = N := ⟨_, rfl⟩
    have hN' : N ≤ 1048576 := by omega
    go_enter Tryd.func3, Tryd.ntmps3
    go_wp2_with fail
    refine (Hs.out _).mono ?_
    rintro e w1 ⟨v0, rfl, ho0, hb1⟩
    obtain ⟨a0, cp0, hv0, _⟩ := ho0.form
    rw [hlN] at hv0
    rw [hv0] at ho0 ⊢
    have hb1' : Below w.heap.size w (w1.alloc (.cells #[.int .i64 c, .slice a0 N cp0] 24)) := hb1.alloc hb1.size _
    have hr0 : RdY (w1.alloc (.cells #[.int .i64 c, .slice a0 N cp0] 24)) a0 l := (OwnY.rd ho0).2.below ((Below.refl _ _).alloc (Nat.le_refl _) _)
    have HT1 : Hid (VarE (w1.alloc (.cells #[.int .i64 c, .slice a0 N cp0] 24)) ∧ TabW (w1.alloc (.cells #[.int .i64 c, .slice a0 N cp0] 24))) := ⟨htE.below hb1', TabW.below htW hb1'⟩
    have hs1 : (w1.alloc (.cells #[.int .i64 c, .slice a0 N cp0] 24)).heap.size = w1.heap.size + 1 := by simp
    clear ho0 hv0
    go_wp2_with fail
    refine (Hi.out _ HT1.out.1 HT1.out.2).mono ?_
    rintro e w2 ⟨v1, rfl, ho1, hb2⟩
    obtain ⟨a1, cp1, hv1, _⟩ := ho1.form
    rw [hlN] at hv1
    rw [hv1] at ho1 ⊢
    clear hv1
    have HC0 := fun (wx : World) (hx : Below (w1.heap.size + 1) (w1.alloc (.cells #[.int .i64 c, .slice a0 N cp0] 24)) wx) => res_block rfl hx
    generalize hW1 : w1.alloc (.cells #[.int .i64 c, .slice a0 N cp0] 24) = W1 at *
    rw [hs1] at hb2 ho1
    have hs2 := hb2.size
    have hr1 := (OwnY.rd ho1).2
    have hbl1 := ho1.lt
    obtain ⟨k0, k1, _, _⟩ := HC0 w2 hb2
    have HB2 : Hid (Below (w1.heap.size + 1) W1 w2) := hb2
    have hz1 : w1.heap.size < w2.heap.size := by omega
    have hbA : Below w2.heap.size w2 (w2.alloc (.cells #[.int .i64 c, .slice a1 N cp1] 24)) := (Below.refl _ _).alloc (Nat.le_refl _) _
    have hrA1 := hr1.below hbA
    have hrA0 := (hr0.below (by rw [hs1]; exact hb2)).below hbA
    go_wp2_with fail
    refine (eqRangesResult_same c a1 a0 N cp1 cp0 l _ hlN hrA1 hrA0 hN').mono ?_
    rintro e w3 ⟨rfl, hb3⟩
    have hs3 := hb3.size
    have HBA : Hid (Below w2.heap.size w2 w3) := hbA.trans (hb3.mono (by simp))
    have ho3 : OwnY w3 (w1.heap.size + 1) (.slice a1 N cp1) l := ho1.below HBA.out (Nat.le_refl _)
    obtain ⟨m0, m1, _, _⟩ := res_block (w := w2) rfl (hb3.mono (by simp))
    have hz3 : w2.heap.size < w3.heap.size := by simp at hs3; omega
    clear hrA1 hrA0 k0 k1
    go_wp2_with fail
    refine (markRangesResult_any c a1 N cp1 (w1.heap.size + 1) l _ ho3 hN').mono ?_
    rintro e w4 ⟨rfl, ho4, hgr⟩
    have hne : some w2.heap.size ≠ (Value.slice a1 N cp1).ownBlock := fun h => by have := (hbl1 _ h.symm).2; omega
    have n0 : w4.cell? ⟨w2.heap.size, 0, none⟩ = some (.int .i64 c) := (hgr.cell_far ⟨w2.heap.size, 0, none⟩ hz3 hne).trans m0
    have n1 : w4.cell? ⟨w2.heap.size, 1, none⟩ = some (.slice a1 N cp1) := (hgr.cell_far ⟨w2.heap.size, 1, none⟩ hz3 hne).trans m1
    have hs4 := hgr.size
    have HB4 : Hid (Below (w1.heap.size + 1) W1 w4) := (HB2.out.trans (HBA.out.mono (by omega))).trans ((Below.refl _ _).grown hgr (by omega) (fun k hk => (ho3.lt k hk).1))
    have hr4 := (OwnY.rd ho4).2
    have hz4 : w2.heap.size < w4.heap.size := by omega
    clear m0 m1 hgr ho4 ho3 ho1 hbl1 hr1
    go_wp2_with fail
    refine (heldRangesResult_any c a1 N cp1 _ hr4 hN').mono ?_
    rintro e w5 ⟨rfl, hb5⟩
    have hs5 := hb5.size
    have HB5 : Hid (Below (w1.heap.size + 1) W1 w5) := HB4.out.trans (hb5.mono (by omega))
    have hr5 := hr4.below hb5
    have p0 : w5.cell? ⟨w2.heap.size, 0, none⟩ = some (.int .i64 c) := (hb5.cell (p := ⟨w2.heap.size, 0, none⟩) hz4).trans n0
    have p1 : w5.cell? ⟨w2.heap.size, 1, none⟩ = some (.slice a1 N cp1) := (hb5.cell (p := ⟨w2.heap.size, 1, none⟩) hz4).trans n1
    have hpos : ¬ ((1 + 2 * N : Nat) : Int) < 0 := by omega
    clear n0 n1 hr4
    go_wp2_with fail
    refine (Hi.out _ (HT1.out.1.below (by rw [hs1]; exact HB5.out)) (TabW.below HT1.out.2 (by rw [hs1]; exact HB5.out))).mono ?_
    rintro e w6 ⟨v2, rfl, ho6, hb6⟩
    obtain ⟨a2, cp2, hv2, _⟩ := ho6.form
    rw [hlN] at hv2
    rw [hv2] at ho6 ⊢
    clear hv2
    have hs6 := hb6.size
    have HB6 : Hid (Below (w1.heap.size + 1) W1 w6) := HB5.out.trans (hb6.mono (by omega))
    obtain ⟨k0, k1, _, _⟩ := HC0 w6 HB6.out
    have hz6 : w1.heap.size < w6.heap.size := by omega
    have hz6' : w2.heap.size < w6.heap.size := by omega
    have hbB : Below w6.heap.size w6 (w6.alloc (.cells #[.int .i64 c, .slice a2 N cp2] 24)) := (Below.refl _ _).alloc (Nat.le_refl _) _
    have hrB2 := (OwnY.rd ho6).2.below hbB
    have hrB0 := (hr0.below (by rw [hs1]; exact HB6.out)).below hbB
    have hr6 := (hr5.below hb6).below hbB
    have q0 : w6.cell? ⟨w2.heap.size, 0, none⟩ = some (.int .i64 c) := (hb6.cell (p := ⟨w2.heap.size, 0, none⟩) (by simp; omega)).trans p0
    have q1 : w6.cell? ⟨w2.heap.size, 1, none⟩ = some (.slice a1 N cp1) := (hb6.cell (p := ⟨w2.heap.size, 1, none⟩) (by simp; omega)).trans p1
    clear p0 p1 hr5
    go_wp2_with fail
    refine (eqRangesResult_same c a2 a0 N cp2 cp0 l _ hlN hrB2 hrB0 hN').mono ?_
    rintro e w7 ⟨rfl, hb7⟩
    have hs7 := hb7.size
    have HBB : Hid (Below w6.heap.size w6 w7) := hbB.trans (hb7.mono (by simp))
    have hr7 := hr6.below hb7
    have s0 : w7.cell? ⟨w2.heap.size, 0, none⟩ = some (.int .i64 c) := (HBB.out.cell (p := ⟨w2.heap.size, 0, none⟩) hz6').trans q0
    have s1 : w7.cell? ⟨w2.heap.size, 1, none⟩ = some (.slice a1 N cp1) := (HBB.out.cell (p := ⟨w2.heap.size, 1, none⟩) hz6').trans q1
    have HB7 : Hid (Below (w1.heap.size + 1) W1 w7) := HB6.out.trans (HBB.out.mono (by omega))
    have hz7 : w2.heap.size < w7.heap.size := by simp at hs7; omega
    clear q0 q1 hr6 hrB2 hrB0 k0 k1
    go_wp2_with fail
    refine (heldRangesResult_any c a1 N cp1 _ hr7 hN').mono ?_
    rintro e w8 ⟨rfl, hb8⟩
    go_wp2
    go_ret
    exact ⟨rfl, (hb1'.trans (HB7.out.mono (by have := hb1.size; omega))).trans (hb8.mono (by have := hb1.size; omega))⟩

/-! ### THE ROW's STEP -/
set_option maxRecDepth 100000 in
theorem lifted (os : Os) (started : os.Started) (H : Type) (enc : TypeId × Value → H) :
    ReturnsInHanded {} Tryd.checked os 3 .any (fun w args => (Rows.fnExactParseSetSpec.pre enc Tryd.prog Tryd.f3 [] false w args ∧ laidMetH Tryd.prog Rows.fnExactParseSetRow.laid w) ∧ sizedMet enc Tryd.prog Tryd.f3 (OpenSpec.ofChange Rows.fnExactParseSetSpec) false w args)
      (Rows.fnExactParseSetSpec.post enc Tryd.prog Tryd.f3 false true false false) := by
  refine handed_and_shaped (C := Tryd.checked) (X := fun w _ => laidMetH Tryd.prog Rows.fnExactParseSetRow.laid w) (fun _ _ _ hh h => h.of_heap hh) own started (by kernel_rfl) Tryd.func3
    (ChangeSpec.witness_shaped (enc := enc) (C := Tryd.checked) (os := os) (X := fun w _ => laidMetH Tryd.prog Rows.fnExactParseSetRow.laid w) false (World.laidAll Tryd.prog os Rows.fnExactParseSetRow.laid) #[.string ByteArray.empty] 8 (World.laidAll_os _ _ _) (World.shaped_of_ZipB (by kernel_rfl) (by kernel_rfl)) (by kernel_rfl) (by kernel_rfl) (by kernel_rfl) (door_met os _)) ?_
  intro W base args ds gs before hval0 hW hL hsh
  have hval : ∀ (j : Nat) t v, Tryd.f3.params[j]? = some t → args[j]? = some v → Value.okWide Tryd.prog W .any base t v := hval0
  have hW' := hW
  obtain ⟨p, q, hA0, hV, rfl, hfz, hnd⟩ := hW
  have hA : DataW.TrodAll enc Tryd.prog W 0 (fun _ => true) true Tryd.f3.params.toList args.toList ds p := hA0
  rw [Tryd.params3] at hA hval
  obtain ⟨v0, vs0, d0, ds0, p0, q0, hargs, rfl, rfl, h0, r0⟩ := trodAll_cons hA
  obtain ⟨rfl, rfl, rfl⟩ := trodAll_nil r0
  obtain rfl : args = #[v0] := by cases args; simp_all
  obtain ⟨s0, rfl, rfl, rfl, w0⟩ := open_string Tryd.underlying9 (hval 0 9 v0 rfl rfl) h0
  obtain ⟨rfl, rfl⟩ := trodVars_none hV
  clear hA0 hval0
  refine (walk s0 W w0 (of_laidW hL) (of_laidE hL hsh)).mono fun e W' ⟨he, bel⟩ => ?_
  subst he
  exact ⟨_, rfl, _, _, _, [], _, [], hW', trodAll_mk1 (shut_bool Tryd.underlying4 _), (trodAll_cons_mk (shut_string Tryd.underlying9 w0) trodAll_mk0), rfl, bel.frame _, fun h => by cases h⟩

theorem over : Rows.fnExactParseSetRow.holds Tryd.pinned (OpenSpec.ofChange Rows.fnExactParseSetSpec) :=
  OpenClaim.holds_of_wide 3 Tryd.f3 rfl rfl rfl rfl rfl rfl rfl ⟨rfl, rfl, rfl, rfl, rfl⟩ rfl rfl rfl rfl rfl (by kernel_rfl) Tryd.func3 (by kernel_rfl)
    (of_decide_eq_true (by kernel_rfl)) (by unfold Func.isWrapper; first | (rw [if_pos (by decide +kernel)]; kernel_rfl) | (rw [if_neg (by decide +kernel)]; exact ⟨rfl, rfl⟩))
    (fun os started H enc _ => lifted os started H enc)

theorem plainF (f : FuncId) (fn : Func) (hf : Tryd.pinned.checked.prog.funcNamed "loop.example/g00447/laws.FnExactParseSet" = some f) (hfn : Tryd.pinned.checked.prog.funcs[f]? = some fn) :
    true = Tryd.pinned.checked.prog.looks [] ∧ ∀ (j : Nat) t, fn.params[j]? = some t → Tryd.pinned.checked.prog.wantsStandIn t = false := by
  obtain rfl : f = 3 := Option.some.inj ((show Tryd.prog.funcNamed "loop.example/g00447/laws.FnExactParseSet" = some 3 by kernel_rfl).symm.trans hf) |>.symm
  obtain rfl : fn = Tryd.f3 := (Option.some.inj (Tryd.func3.symm.trans hfn)).symm
  refine ⟨by kernel_rfl, fun j t ht => ?_⟩
  rw [Tryd.params3] at ht
  have hm : t ∈ [9] := by simpa using Array.mem_of_getElem? ht
  have hall : ([9].all fun u => !Tryd.prog.wantsStandIn u) = true := by kernel_rfl
  exact (show Tryd.prog.wantsStandIn t = false by simpa using List.all_eq_true.1 hall t hm)
end Go.Proofs.YtlkfmgfblfkgbaaDoor.fnExactParseSet

namespace Go.Proofs.YtlkfmgfblfkgbaaDoor
/-- THE TIED CARD. -/
theorem fnExactParseSet_card : Rows.FnExactParseSetCardSaid :=
  Claim7.holds_tied_plain_at .later [] _ _ _ _ fnExactParseSet.over (fun _ h => by cases h) (by kernel_rfl) (fun _ h => by cases h) fnExactParseSet_row_tie rfl ⟨rfl, rfl⟩ (by kernel_rfl) rfl fnExactParseSet.plainF (by kernel_rfl)
end Go.Proofs.YtlkfmgfblfkgbaaDoor
