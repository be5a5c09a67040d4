/- Proved: called with any text, the law FnExactTypeOf returns true (the program's TypeOf answers as the model does), where the tables that the row lists hold what the program's text lays in them; no other condition. -/
import Derived.Test.YtpgjichcpnjeoaaDoorCards
import Derived.Test.YtpgjichcpnjeoaaDoorTie
import Derived.Test.YtpgjichcpnjeoaaDoorTyp5
import Derived.Test.YtpgjichcpnjeoaaDoorTbs
import Derived.WalkKit
import Derived.ProofKit
import Derived.OpenShut
import Derived.ShutString
import Derived.ChangeOld
import Derived.Below
import Derived.LaidMore
import Derived.OpenVars
import Derived.Stop.Joined
import Derived.Lib.LaidTab
import Derived.Stop.LaidErr
import Derived.Lay
import Derived.MakeChecks
namespace Go.Proofs.YtpgjichcpnjeoaaDoor.fnExactTypeOf
open Go.ChangeShapes Go.WideShapes Go.ChangeAt Go.WideMaps Go.WideElems Go.RowKit
open Go.ChangeMaps (open_string shut_string)
set_option linter.unusedVariables false

theorem own : ownKnob Tryd.prog.godebug = none := by kernel_rfl
theorem laidOut : laidOutB Tryd.prog = true := by kernel_rfl
theorem gC : Tryd.prog.globalNamed "loop.example/g00447/impl.charsetNames" = some 0 := by kernel_rfl
theorem gtC : (Tryd.prog.globals[0]?).map (·.type) = some 144 := by kernel_rfl
theorem cC : Tryd.prog.cellsOf 144 = 5 := by kernel_rfl
theorem cellsS : Tryd.prog.cellsOf 9 = 1 := by kernel_rfl

/-- The door's own heap meets the condition: closed facts. -/
theorem door_met (os : Os) (args : Array Value) : laidMetH Tryd.prog Rows.fnExactTypeOfRow.laid ((World.laidAll Tryd.prog os Rows.fnExactTypeOfRow.laid).forCall (fun _ _ => 0) ⟨#[], args, []⟩).memory := by
  rw [MakeChecks.laidMetH_plain _ _ _ (by kernel_rfl)]; exact laidMet_laidAll _ (by kernel_rfl) (by kernel_rfl)

/-- The tails of what the row lists. -/
theorem tails {W : World} (h : laidMetH Tryd.prog Rows.fnExactTypeOfRow.laid W) : laidMet Tryd.prog [("loop.example/g00447/impl.charsetNames", Rows.laid_loop_example_g00447_impl_charsetNames), ("unicode/utf8.first", Rows.laid_unicode_utf8_first)] W := by
  have h0 : laidMet Tryd.prog [("unicode/utf8.acceptRanges", Rows.laid_unicode_utf8_acceptRanges), ("loop.example/g00447/impl.charsetNames", Rows.laid_loop_example_g00447_impl_charsetNames), ("unicode/utf8.first", Rows.laid_unicode_utf8_first)] W := h
  exact h0.tail
theorem of_laidC {W : World} (h : laidMetH Tryd.prog Rows.fnExactTypeOfRow.laid W) : TabC W := fun v hv => by
  have ht : StrsAre Tryd.prog W "loop.example/g00447/impl.charsetNames" csZ := strsAre_of_head (rest := [("unicode/utf8.first", Rows.laid_unicode_utf8_first)]) gC gtC Tryd.underlying144 Tryd.underlying9 cellsS cC (tails h)
  exact ht.cell gC v hv

/-! ### THE WALK -/
set_option maxHeartbeats 1600000 in
set_option maxRecDepth 100000 in
theorem walk (s0 : ByteArray) (w : World) (w0 : s0.size ≤ maxLen) (htC : TabC w) :
    Calls Tryd.prog 6 #[.string s0] w fun e w' => e = .returned (.bool true) ∧ Below w.heap.size w w' := by
  obtain ⟨t, rfl, hB⟩ := str_surj s0
  have hsz : (str t).size = t.length := str_size t
  by_cases hbig : 1048576 < t.length
  · have hb' : (1048576 : Int) < (t.length : Int) := by omega
    go_enter Tryd.func6, Tryd.ntmps6
    go_wp2
    go_ret
    exact ⟨rfl, Below.refl _ _⟩
  · have hb' : ¬ (1048576 : Int) < (t.length : Int) := by omega
    have hn : t.length ≤ 1048576 := by omega
    have HS : Hid (∀ w, Calls Tryd.prog 26 #[.string (str t)] w fun e w' => e = .returned (ptV (tyV t)) ∧ Below w.heap.size w w') := fun w => specTypeOf_any t _ w rfl hB hn
    have HI : Hid (∀ w, TabC w → Calls Tryd.prog 27 #[.string (str t)] w fun e w' => e = .returned (ptV (tyV t)) ∧ Below w.heap.size w w') := fun w h => typeOf_any t w hB hn h
    generalize tyV t = r at *
    obtain ⟨k, c⟩ := r
    unfold ptV at *
    simp only at HS HI
    go_enter Tryd.func6, Tryd.ntmps6
    go_wp2_with fail
    refine (HS.out _).mono ?_
    rintro e w1 ⟨rfl, hb1⟩
    have hbA : Below w1.heap.size w1 (w1.alloc (.cells #[.int .i64 k, .int .i64 c, .int .i64 0, .int .i64 0, .int .i64 0, .int .i64 0, .int .i64 0] 35)) := (Below.refl _ _).alloc (Nat.le_refl _) _
    have hsA : (w1.alloc (.cells #[.int .i64 k, .int .i64 c, .int .i64 0, .int .i64 0, .int .i64 0, .int .i64 0, .int .i64 0] 35)).heap.size = w1.heap.size + 1 := by simp
    have ht1 := (htC.below hb1).below hbA
    clear HS
    go_wp2_with fail
    refine (HI.out _ ht1).mono ?_
    rintro e w2 ⟨rfl, hb2⟩
    clear HI ht1
    generalize hWA : w1.alloc (.cells #[.int .i64 k, .int .i64 c, .int .i64 0, .int .i64 0, .int .i64 0, .int .i64 0, .int .i64 0] 35) = WA at *
    have hbl2 : Below (w1.heap.size + 1) WA w2 := hb2.mono (by omega)
    obtain ⟨⟨d0, d1, d2, d3, d4, d5, d6⟩, -⟩ := res_block7 hWA hbl2
    have hz2 := hb2.size
    have hlt : w1.heap.size < w2.heap.size := by omega
    have hbw2 := (hb1.trans (hbA.mono hb1.size)).trans (hb2.mono (by have := hb1.size; omega))
    clear hb2 hbl2 hbA
    go_wp2_with fail
    refine (eqPart_same k c 0 0 0 0 0 _).mono ?_
    rintro e w3 ⟨rfl, hb3⟩
    have hbw3 := (hbw2.alloc hbw2.size _).trans (hb3.mono (by have := hbw2.size; simp; omega))
    go_wp2
    go_ret
    exact ⟨rfl, hbw3⟩

/-! ### THE ROW's STEP -/
set_option maxRecDepth 100000 in
theorem lifted (os : Os) (started : os.Started) (H : Type) (enc : TypeId × Value → H) :
    ReturnsInHanded {} Tryd.checked os 6 .any (fun w args => (Rows.fnExactTypeOfSpec.pre enc Tryd.prog Tryd.f6 [] false w args ∧ laidMetH Tryd.prog Rows.fnExactTypeOfRow.laid w) ∧ sizedMet enc Tryd.prog Tryd.f6 (OpenSpec.ofChange Rows.fnExactTypeOfSpec) false w args)
      (Rows.fnExactTypeOfSpec.post enc Tryd.prog Tryd.f6 false true false false) := by
  refine returnsInHanded_of_change_and (C := Tryd.checked) (X := fun w _ => laidMetH Tryd.prog Rows.fnExactTypeOfRow.laid w) (fun _ _ _ hh h => h.of_heap hh) own started (by kernel_rfl) Tryd.func6
    (ChangeSpec.witness_shaped (enc := enc) (C := Tryd.checked) (os := os) (X := fun w _ => laidMetH Tryd.prog Rows.fnExactTypeOfRow.laid w) false (World.laidAll Tryd.prog os Rows.fnExactTypeOfRow.laid) #[.string ByteArray.empty] 8 (World.laidAll_os _ _ _) (World.shaped_of_ZipB (by kernel_rfl) (by kernel_rfl)) (by kernel_rfl) (by kernel_rfl) (by kernel_rfl) (door_met os _)) ?_
  intro W base args ds gs before hval0 hW _ _ hL _
  have hval : ∀ (j : Nat) t v, Tryd.f6.params[j]? = some t → args[j]? = some v → Value.okWide Tryd.prog W .any base t v := hval0
  have hW' := hW
  obtain ⟨p, q, hA0, hV, rfl, hfz, hnd⟩ := hW
  have hA : DataW.TrodAll enc Tryd.prog W 0 (fun _ => true) true Tryd.f6.params.toList args.toList ds p := hA0
  rw [Tryd.params6] at hA hval
  obtain ⟨v0, vs0, d0, ds0, p0, q0, hargs, rfl, rfl, h0, r0⟩ := trodAll_cons hA
  obtain ⟨rfl, rfl, rfl⟩ := trodAll_nil r0
  obtain rfl : args = #[v0] := by cases args; simp_all
  obtain ⟨s0, rfl, rfl, rfl, w0⟩ := open_string Tryd.underlying9 (hval 0 9 v0 rfl rfl) h0
  obtain ⟨dv, rfl⟩ : ∃ d, gs = [d] := by obtain ⟨_, _, _, _, d, _, e, _⟩ := trodVars_one (n := "loop.example/g00447/impl.charsetNames") hV; exact ⟨d, e⟩
  clear hA0 hval0
  refine (walk s0 W w0 (of_laidC hL)).mono fun e W' ⟨he, bel⟩ => ?_
  subst he
  exact ⟨_, rfl, _, _, _, [], _, _, hW', trodAll_mk1 (shut_bool Tryd.underlying4 _), (trodAll_cons_mk (shut_string Tryd.underlying9 w0) trodAll_mk0), Below.trodVars laidOut bel (by kernel_rfl) hV, bel.frame _, fun h => by cases h⟩

theorem over : Rows.fnExactTypeOfRow.holds Tryd.pinned (OpenSpec.ofChange Rows.fnExactTypeOfSpec) :=
  OpenClaim.holds_of_wide 6 Tryd.f6 rfl rfl rfl rfl rfl rfl rfl ⟨rfl, rfl, rfl, rfl, rfl⟩ rfl rfl rfl rfl rfl (by kernel_rfl) Tryd.func6 (by kernel_rfl)
    (of_decide_eq_true (by kernel_rfl)) (by unfold Func.isWrapper; first | (rw [if_pos (by decide +kernel)]; kernel_rfl) | (rw [if_neg (by decide +kernel)]; exact ⟨rfl, rfl⟩))
    (fun os started H enc _ => lifted os started H enc)

theorem plainF (f : FuncId) (fn : Func) (hf : Tryd.pinned.checked.prog.funcNamed "loop.example/g00447/laws.FnExactTypeOf" = some f) (hfn : Tryd.pinned.checked.prog.funcs[f]? = some fn) :
    false = Tryd.pinned.checked.prog.looks [] ∧ ∀ (j : Nat) t, fn.params[j]? = some t → Tryd.pinned.checked.prog.wantsStandIn t = false := by
  obtain rfl : f = 6 := Option.some.inj ((show Tryd.prog.funcNamed "loop.example/g00447/laws.FnExactTypeOf" = some 6 by kernel_rfl).symm.trans hf) |>.symm
  obtain rfl : fn = Tryd.f6 := (Option.some.inj (Tryd.func6.symm.trans hfn)).symm
  refine ⟨by kernel_rfl, fun j t ht => ?_⟩
  rw [Tryd.params6] at ht
  have hm : t ∈ [9] := by simpa using Array.mem_of_getElem? ht
  have hall : ([9].all fun u => !Tryd.prog.wantsStandIn u) = true := by kernel_rfl
  exact (show Tryd.prog.wantsStandIn t = false by simpa using List.all_eq_true.1 hall t hm)
end Go.Proofs.YtpgjichcpnjeoaaDoor.fnExactTypeOf

namespace Go.Proofs.YtpgjichcpnjeoaaDoor
/-- THE TIED CARD. -/
theorem fnExactTypeOf_card : Rows.FnExactTypeOfCardSaid :=
  Claim7.holds_tied_plain_at .later [] _ _ _ _ fnExactTypeOf.over (fun _ h => by cases h) (by kernel_rfl) (fun _ h => by cases h) fnExactTypeOf_row_tie rfl ⟨rfl, rfl⟩ (by kernel_rfl) rfl fnExactTypeOf.plainF (by kernel_rfl)
end Go.Proofs.YtpgjichcpnjeoaaDoor
