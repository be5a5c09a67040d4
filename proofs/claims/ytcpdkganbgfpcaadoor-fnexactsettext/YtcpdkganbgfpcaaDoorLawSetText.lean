/- Proved: called with any slice of ranges, the law FnExactSetText returns true (the program's SetText answers as the model does and writes into no argument); tied to the program's text; no condition of our own. -/
import Derived.Test.YtcpdkganbgfpcaaDoorCards
import Derived.Test.YtcpdkganbgfpcaaDoorTie
import Derived.Test.YtcpdkganbgfpcaaDoorYtv
import Derived.Test.YtcpdkganbgfpcaaDoorMrkY
import Derived.WalkKit
import Derived.ProofKit
import Derived.OpenShut
import Derived.ShutString
import Derived.ChangeOld
import Derived.Below
import Derived.LaidMore
import Derived.OpenVars
import Derived.Stop.Joined
import Derived.Lib.LaidTab
import Derived.Stop.LaidErr
namespace Go.Proofs.YtcpdkganbgfpcaaDoor.fnExactSetText
open Go.ChangeShapes Go.WideShapes Go.ChangeAt Go.WideMaps Go.WideElems Go.RowKit
open Go.ChangeMaps (open_string shut_string)
set_option linter.unusedVariables false

theorem own : ownKnob Tryd.prog.godebug = none := by kernel_rfl
theorem laidOut : laidOutB Tryd.prog = true := by kernel_rfl
theorem gW : Tryd.prog.globalNamed "internal/strconv.uint64pow10" = some 1 := by kernel_rfl
theorem gtW : (Tryd.prog.globals[1]?).map (·.type) = some 109 := by kernel_rfl
theorem cW : Tryd.prog.cellsOf 109 = 20 := by kernel_rfl
theorem cellsU : Tryd.prog.cellsOf 95 = 1 := by kernel_rfl

/-- The door's own heap meets the condition: closed facts. -/
theorem door_met (os : Os) (args : Array Value) : laidMetH Tryd.prog Rows.fnExactSetTextRow.laid ((World.doorLaid Tryd.prog 400 os).forCall (fun _ _ => 0) ⟨#[], args, []⟩).memory :=
  laidMetH_of_parts3 (fuel := 8) (laidMet_of_run' 8 (by kernel_rfl) (by kernel_rfl)) (by kernel_rfl) (by kernel_rfl)

/-- WHAT THE ROW LISTS GIVES THE WALK: the table lies in its variable. -/
theorem of_laidW {W : World} (h : laidMetH Tryd.prog Rows.fnExactSetTextRow.laid W) : TabW W :=
  Lib.tabIs_of_head (zs := Lib.pow10Tab) gW gtW Tryd.underlying109 Tryd.underlying95 cellsU cW h.tail.tail

/-! ### THE WALK -/
set_option maxHeartbeats 1600000 in
set_option maxRecDepth 100000 in
theorem walk (a0 : Option Addr) (len0 cap0 : Nat) (z0 : List YgP) (w : World) (w0 : IsYs w a0 len0 cap0 z0) (htW : TabW w) :
    Calls Tryd.prog 3 #[.slice a0 len0 cap0] w fun e w' => e = .returned (.bool true) ∧ Below w.heap.size w w' := by
  obtain ⟨hl, hnc, hcm, hr⟩ := w0
  have hsz := szRangeS_same a0 len0 cap0 w (by omega)
  go_enter Tryd.func3, Tryd.ntmps3
  go_wp2_with fail
  refine hsz.mono ?_
  rintro e wS ⟨⟨r, rfl, hcase⟩, rfl⟩
  rcases hcase with rfl | ⟨r0, hn⟩
  · go_wp2
    go_ret
    exact ⟨rfl, Below.refl _ _⟩
  · have hneg : ¬ r < 0 := by omega
    clear hsz
    go_wp2_with fail
    refine (toRangeS_any a0 len0 cap0 z0 _ hl hr hn).mono ?_
    rintro e w2 ⟨rfl, ho2, hB2⟩
    have hr2 := hr.below hB2
    go_wp2_with fail
    refine (specSetText_any _ len0 len0 z0 _ hl ho2.rd.2 hn).mono ?_
    rintro e w3 ⟨rfl, hb3⟩
    have hbA : Below w3.heap.size w3 (w3.alloc (.cells #[.int .i64 (stT z0).1, .string (str (stT z0).2)] 25)) := (Below.refl _ _).alloc (Nat.le_refl _) _
    have hB3 : Below w.heap.size w (w3.alloc (.cells #[.int .i64 (stT z0).1, .string (str (stT z0).2)] 25)) := (hB2.trans (hb3.mono hB2.size)).trans (hbA.mono (Nat.le_trans hB2.size hb3.size))
    have hr3 := hr.below hB3
    have ht3 := TabW.below htW hB3
    have hHS : Hid (∀ (c : Int) (s : ByteArray) w, Calls Tryd.prog 9 #[.agg #[.int .i64 c, .string s], .agg #[.int .i64 c, .string s]] w fun e w' => e = .returned (.bool true) ∧ Below w.heap.size w w') := eqTextResult_y
    obtain ⟨k0, k1, -, -⟩ := res_block (w := w3) (wr := w3.alloc (.cells #[.int .i64 (stT z0).1, .string (str (stT z0).2)] 25)) rfl (Below.refl _ _)
    have hs3 : (w3.alloc (.cells #[.int .i64 (stT z0).1, .string (str (stT z0).2)] 25)).heap.size = w3.heap.size + 1 := by simp
    have HST : Hid (∀ (a : Option Addr) w, RdY w a z0 → TabW w → Calls Tryd.prog 8 #[.slice a len0 len0] w fun e w' => e = .returned (.agg #[.int .i64 (stT z0).1, .string (str (stT z0).2)]) ∧ Below w.heap.size w w') := fun a w hr ht => setText_any a len0 len0 z0 w hl hr hn ht
    clear hb3 ho2 hr2 hB2 hbA htW
    generalize (stT z0).1 = c at *
    generalize str (stT z0).2 = sx at *
    go_wp2_with fail
    generalize w3.alloc (.cells #[.int .i64 c, .string sx] 25) = W3 at *
    generalize w3.heap.size = g at *
    refine (toRangeS_any a0 len0 cap0 z0 _ hl hr3 hn).mono ?_
    rintro e w4 ⟨rfl, ho4, hb4⟩
    have hB4 := hB3.trans (hb4.mono hB3.size)
    have hx4 := ho4.rd.2
    rw [hs3] at hx4
    have ht4 := TabW.below ht3 hb4
    have j0 : w4.cell? ⟨g, 0, none⟩ = some (.int .i64 c) := (hb4.cell (p := ⟨g, 0, none⟩) (by simp; omega)).trans k0
    have j1 : w4.cell? ⟨g, 1, none⟩ = some (.string sx) := (hb4.cell (p := ⟨g, 1, none⟩) (by simp; omega)).trans k1
    have hg4 : g < w4.heap.size := by have := hb4.size; omega
    clear ho4 hb4 hB3 hr3 ht3 k0 k1
    go_wp2_with fail
    refine (HST.out _ _ hx4 ht4).mono ?_
    rintro e w5 ⟨rfl, hb5⟩
    have hbA : Below w5.heap.size w5 (w5.alloc (.cells #[.int .i64 c, .string sx] 25)) := (Below.refl _ _).alloc (Nat.le_refl _) _
    have hb5' : Below w4.heap.size w4 (w5.alloc (.cells #[.int .i64 c, .string sx] 25)) := hb5.trans (hbA.mono hb5.size)
    have hB5 := hB4.trans (hb5'.mono hB4.size)
    have hx5 := hx4.below hb5'
    have k0 := (hb5'.cell (p := ⟨g, 0, none⟩) hg4).trans j0
    have k1 := (hb5'.cell (p := ⟨g, 1, none⟩) hg4).trans j1
    obtain ⟨i0, i1, -, -⟩ := res_block (w := w5) (wr := w5.alloc (.cells #[.int .i64 c, .string sx] 25)) rfl (Below.refl _ _)
    clear hb5 hb5' hbA hB4 hx4 ht4 j0 j1 HST
    go_wp2_with fail
    generalize w5.alloc (.cells #[.int .i64 c, .string sx] 25) = W5 at *
    refine (hHS.out c sx _).mono ?_
    rintro e w6 ⟨rfl, hb6⟩
    have hB6 := hB5.trans (hb6.mono hB5.size)
    have hx6 := hx5.below hb6
    clear hb6 hB5 hx5 k0 k1 i0 i1 hHS
    go_wp2_with fail
    refine (toRangeS_any a0 len0 cap0 z0 _ hl (hr.below hB6) hn).mono ?_
    rintro e w7 ⟨rfl, ho7, hb7⟩
    have hB7 := hB6.trans (hb7.mono hB6.size)
    have hx7 := hx6.below hb7
    have hy7 := ho7.rd.2
    clear hb7 ho7 hx6 hB6
    go_wp2_with fail
    refine (eqRangeS_same _ _ len0 len0 len0 z0 _ hl hx7 hy7 hn).mono ?_
    rintro e w8 ⟨rfl, hb8⟩
    have hB8 : Below w.heap.size w w8 := hB7.trans (hb8.mono hB7.size)
    clear hb8
    go_wp2
    go_ret
    exact ⟨rfl, hB8⟩

/-! ### THE ROW's STEP -/
set_option maxRecDepth 100000 in
theorem lifted (os : Os) (started : os.Started) (H : Type) (enc : TypeId × Value → H) :
    ReturnsInHanded {} Tryd.checked os 3 .any (fun w args => (Rows.fnExactSetTextSpec.pre enc Tryd.prog Tryd.f3 [] false w args ∧ laidMetH Tryd.prog Rows.fnExactSetTextRow.laid w) ∧ sizedMet enc Tryd.prog Tryd.f3 (OpenSpec.ofChange Rows.fnExactSetTextSpec) false w args)
      (Rows.fnExactSetTextSpec.post enc Tryd.prog Tryd.f3 false true false false) := by
  refine returnsInHanded_of_change_and (C := Tryd.checked) (X := fun w _ => laidMetH Tryd.prog Rows.fnExactSetTextRow.laid w) (fun _ _ _ hh h => h.of_heap hh) own started (by kernel_rfl) Tryd.func3
    (ChangeSpec.witness_shaped (enc := enc) (C := Tryd.checked) (os := os) (X := fun w _ => laidMetH Tryd.prog Rows.fnExactSetTextRow.laid w) false (World.doorLaid Tryd.prog 400 os) #[.slice none 0 0] 8 rfl (World.shaped_of_RefB (by kernel_rfl) (by kernel_rfl)) (by kernel_rfl) (by kernel_rfl) (by kernel_rfl) (door_met os _)) ?_
  intro W base args ds gs before hval0 hW _ _ hL _
  have hval : ∀ (j : Nat) t v, Tryd.f3.params[j]? = some t → args[j]? = some v → Value.okWide Tryd.prog W .any base t v := hval0
  have hW' := hW
  obtain ⟨p, q, hA0, hV, rfl, hfz, hnd⟩ := hW
  have hA : DataW.TrodAll enc Tryd.prog W 0 (fun _ => true) true Tryd.f3.params.toList args.toList ds p := hA0
  rw [Tryd.params3] at hA hval
  obtain ⟨v0, vs0, d0, ds0, p0, q0, hargs, rfl, rfl, h0, r0⟩ := trodAll_cons hA
  obtain ⟨rfl, rfl, rfl⟩ := trodAll_nil r0
  obtain rfl : args = #[v0] := by cases args; simp_all
  obtain ⟨a0, len0, cap0, rfl⟩ := okWide_slice Tryd.underlying22 (hval 0 22 v0 rfl rfl)
  have k0 := h0
  have lt0 : ∀ x ∈ p0, x.block < W.heap.size := by obtain ⟨m, hm⟩ := k0; exact DataW.trod_lt m _ _ _ hm
  obtain ⟨z0, w0⟩ : ∃ zs, IsYs W a0 len0 cap0 zs := by
    obtain ⟨fuel, hf⟩ := h0
    exact open_ys Tryd.underlying22 Tryd.underlying43 Tryd.underlying2 rfl rfl rfl rfl (by kernel_rfl) (by kernel_rfl) hf
  obtain ⟨rfl, rfl⟩ := trodVars_none hV
  clear hA0 hval0
  refine (walk a0 len0 cap0 z0 W w0 (of_laidW hL)).mono fun e W' ⟨he, bel⟩ => ?_
  subst he
  exact ⟨_, rfl, _, _, _, [], _, [], hW', trodAll_mk1 (shut_bool Tryd.underlying4 _), (trodAll_cons_mk (Below.trod laidOut (by kernel_rfl) (of_decide_eq_true (by kernel_rfl)) k0 bel lt0) trodAll_mk0), rfl, bel.frame _, fun h => by cases h⟩

theorem over : Rows.fnExactSetTextRow.holds Tryd.pinned (OpenSpec.ofChange Rows.fnExactSetTextSpec) :=
  OpenClaim.holds_of_wide 3 Tryd.f3 rfl rfl rfl rfl rfl rfl rfl ⟨rfl, rfl, rfl, rfl, rfl⟩ rfl rfl rfl rfl rfl (by kernel_rfl) Tryd.func3 (by kernel_rfl)
    (of_decide_eq_true (by kernel_rfl)) (by unfold Func.isWrapper; first | (rw [if_pos (by decide +kernel)]; kernel_rfl) | (rw [if_neg (by decide +kernel)]; exact ⟨rfl, rfl⟩))
    (fun os started H enc _ => lifted os started H enc)

theorem plainF (f : FuncId) (fn : Func) (hf : Tryd.pinned.checked.prog.funcNamed "loop.example/g00447/laws.FnExactSetText" = some f) (hfn : Tryd.pinned.checked.prog.funcs[f]? = some fn) :
    true = Tryd.pinned.checked.prog.looks [] ∧ ∀ (j : Nat) t, fn.params[j]? = some t → Tryd.pinned.checked.prog.wantsStandIn t = false := by
  obtain rfl : f = 3 := Option.some.inj ((show Tryd.prog.funcNamed "loop.example/g00447/laws.FnExactSetText" = some 3 by kernel_rfl).symm.trans hf) |>.symm
  obtain rfl : fn = Tryd.f3 := (Option.some.inj (Tryd.func3.symm.trans hfn)).symm
  refine ⟨by kernel_rfl, fun j t ht => ?_⟩
  rw [Tryd.params3] at ht
  have hm : t ∈ [22] := by simpa using Array.mem_of_getElem? ht
  have hall : ([22].all fun u => !Tryd.prog.wantsStandIn u) = true := by kernel_rfl
  exact (show Tryd.prog.wantsStandIn t = false by simpa using List.all_eq_true.1 hall t hm)
end Go.Proofs.YtcpdkganbgfpcaaDoor.fnExactSetText

namespace Go.Proofs.YtcpdkganbgfpcaaDoor
/-- THE TIED CARD. -/
theorem fnExactSetText_card : Rows.FnExactSetTextCardSaid :=
  Claim7.holds_tied_plain_at .later [] _ _ _ _ fnExactSetText.over (fun _ h => by cases h) (by kernel_rfl) (fun _ h => by cases h) fnExactSetText_row_tie rfl ⟨rfl, rfl⟩ (by kernel_rfl) rfl fnExactSetText.plainF (by kernel_rfl)
end Go.Proofs.YtcpdkganbgfpcaaDoor
