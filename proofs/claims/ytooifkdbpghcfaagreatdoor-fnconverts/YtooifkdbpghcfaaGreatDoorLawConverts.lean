/- Proved: called with any bytes, the law FnConverts returns true (what is converted has the same characters in another charset, of every message that is drawn out of them); the row's listed variables read as laid (its card ties them to the program's text); no condition of our own. -/
import Derived.Test.YtooifkdbpghcfaaGreatDoorCards
import Derived.Test.YtooifkdbpghcfaaGreatDoorTie
import Derived.Test.YtooifkdbpghcfaaGreatDoorWcv
import Derived.Test.YtooifkdbpghcfaaGreatDoorByeToHdr
import Derived.Test.YtooifkdbpghcfaaGreatDoorMrkToShp
import Derived.Test.YtooifkdbpghcfaaGreatDoorTbsToMemS
import Derived.WalkKit
import Derived.ProofKit
import Derived.OpenShut
import Derived.ShutString
import Derived.ChangeOld
import Derived.Below
import Derived.LaidMore
import Derived.OpenVars
import Derived.Stop.Joined
import Derived.Lib.LaidTab
import Derived.Stop.LaidErr
import Derived.Lay
import Derived.MakeChecks
namespace Go.Proofs.YtooifkdbpghcfaaGreatDoor.fnConverts
open Go.ChangeShapes Go.WideShapes Go.ChangeAt Go.WideMaps Go.WideElems Go.RowKit
open Go.ChangeMaps (open_string shut_string)
set_option linter.unusedVariables false

theorem own : ownKnob Tryz.prog.godebug = none := by kernel_rfl
theorem laidOut : laidOutB Tryz.prog = true := by kernel_rfl
theorem gB : Tryz.prog.globalNamed "loop.example/g00447/impl.baseDigits" = some 0 := by kernel_rfl
theorem gtB : (Tryz.prog.globals[0]?).map (·.type) = some 199 := by kernel_rfl
theorem cB : Tryz.prog.cellsOf 199 = 64 := by kernel_rfl
theorem gH : Tryz.prog.globalNamed "loop.example/g00447/impl.hexDigits" = some 1 := by kernel_rfl
theorem gtH : (Tryz.prog.globals[1]?).map (·.type) = some 212 := by kernel_rfl
theorem cH : Tryz.prog.cellsOf 212 = 16 := by kernel_rfl
theorem gC : Tryz.prog.globalNamed "loop.example/g00447/impl.charsetNames" = some 2 := by kernel_rfl
theorem gtC : (Tryz.prog.globals[2]?).map (·.type) = some 228 := by kernel_rfl
theorem cC : Tryz.prog.cellsOf 228 = 5 := by kernel_rfl
theorem cellsS : Tryz.prog.cellsOf 9 = 1 := by kernel_rfl
theorem cellsB : Tryz.prog.cellsOf 5 = 1 := by kernel_rfl

/-- The door's own heap meets the condition: closed facts. -/
theorem door_met (os : Os) (args : Array Value) : laidMetH Tryz.prog Rows.fnConvertsRow.laid ((World.laidAll Tryz.prog os Rows.fnConvertsRow.laid).forCall (fun _ _ => 0) ⟨#[], args, []⟩).memory := by
  rw [MakeChecks.laidMetH_plain _ _ _ (by kernel_rfl)]; exact laidMet_laidAll _ (by kernel_rfl) (by kernel_rfl)

/-- The tails of what the row lists. -/
theorem tails {W : World} (h : laidMetH Tryz.prog Rows.fnConvertsRow.laid W) : laidMet Tryz.prog [("loop.example/g00447/impl.baseDigits", Rows.laid_loop_example_g00447_impl_baseDigits), ("loop.example/g00447/impl.hexDigits", Rows.laid_loop_example_g00447_impl_hexDigits), ("loop.example/g00447/impl.charsetNames", Rows.laid_loop_example_g00447_impl_charsetNames), ("unicode/utf8.first", Rows.laid_unicode_utf8_first)] W ∧ laidMet Tryz.prog [("loop.example/g00447/impl.hexDigits", Rows.laid_loop_example_g00447_impl_hexDigits), ("loop.example/g00447/impl.charsetNames", Rows.laid_loop_example_g00447_impl_charsetNames), ("unicode/utf8.first", Rows.laid_unicode_utf8_first)] W ∧ laidMet Tryz.prog [("loop.example/g00447/impl.charsetNames", Rows.laid_loop_example_g00447_impl_charsetNames), ("unicode/utf8.first", Rows.laid_unicode_utf8_first)] W := by
  have h0 : laidMet Tryz.prog [("unicode/utf8.acceptRanges", Rows.laid_unicode_utf8_acceptRanges), ("loop.example/g00447/impl.baseDigits", Rows.laid_loop_example_g00447_impl_baseDigits), ("loop.example/g00447/impl.hexDigits", Rows.laid_loop_example_g00447_impl_hexDigits), ("loop.example/g00447/impl.charsetNames", Rows.laid_loop_example_g00447_impl_charsetNames), ("unicode/utf8.first", Rows.laid_unicode_utf8_first)] W := h
  exact ⟨h0.tail, h0.tail.tail, h0.tail.tail.tail⟩
theorem of_laidB {W : World} (h : laidMetH Tryz.prog Rows.fnConvertsRow.laid W) : TabB W := fun v hv => by
  have ht : Lib.TabIs Tryz.prog W "loop.example/g00447/impl.baseDigits" .u8 tabI := Lib.tabIs_of_head (rest := [("loop.example/g00447/impl.hexDigits", Rows.laid_loop_example_g00447_impl_hexDigits), ("loop.example/g00447/impl.charsetNames", Rows.laid_loop_example_g00447_impl_charsetNames), ("unicode/utf8.first", Rows.laid_unicode_utf8_first)]) gB gtB Tryz.underlying199 Tryz.underlying5 cellsB cB (tails h).1
  rw [ht.cell gB v (by rw [tabI_len]; exact hv), tabI_get v hv]
theorem of_laidH {W : World} (h : laidMetH Tryz.prog Rows.fnConvertsRow.laid W) : TabH W := fun v hv => by
  have ht : Lib.TabIs Tryz.prog W "loop.example/g00447/impl.hexDigits" .u8 tabHI := Lib.tabIs_of_head (rest := [("loop.example/g00447/impl.charsetNames", Rows.laid_loop_example_g00447_impl_charsetNames), ("unicode/utf8.first", Rows.laid_unicode_utf8_first)]) gH gtH Tryz.underlying212 Tryz.underlying5 cellsB cH (tails h).2.1
  rw [ht.cell gH v (by rw [tabHI_len]; exact hv), tabHI_get v hv]
theorem of_laidC {W : World} (h : laidMetH Tryz.prog Rows.fnConvertsRow.laid W) : TabC W := fun v hv => by
  have ht : StrsAre Tryz.prog W "loop.example/g00447/impl.charsetNames" csZ := strsAre_of_head (rest := [("unicode/utf8.first", Rows.laid_unicode_utf8_first)]) gC gtC Tryz.underlying228 Tryz.underlying9 cellsS cC (tails h).2.2
  exact ht.cell gC v hv

/-! ### THE WALK -/
set_option maxHeartbeats 1600000 in
set_option maxRecDepth 100000 in
theorem walk (a0 : Option Addr) (len0 cap0 : Nat) (z0 : List Int) (w : World) (w0 : IsRow .u8 w a0 len0 cap0 z0) (htB : TabB w) (htH : TabH w) (htC : TabC w) (hmx : MaxI w) :
    Calls Tryz.prog 4 #[.slice a0 len0 cap0] w fun e w' => e = .returned (.bool true) ∧ Below w.heap.size w w' := by
  obtain ⟨s, hl, hBs, hr, hmax⟩ := w0.rd
  exact walkConverts a0 len0 cap0 s w hl hr hBs htC htB htH hmx

/-! ### THE ROW's STEP -/
set_option maxRecDepth 100000 in
theorem lifted (os : Os) (started : os.Started) (H : Type) (enc : TypeId × Value → H) :
    ReturnsInHanded {} Tryz.checked os 4 .any (fun w args => (Rows.fnConvertsSpec.pre enc Tryz.prog Tryz.f4 [] false w args ∧ laidMetH Tryz.prog Rows.fnConvertsRow.laid w) ∧ sizedMet enc Tryz.prog Tryz.f4 (OpenSpec.ofChange Rows.fnConvertsSpec) false w args)
      (Rows.fnConvertsSpec.post enc Tryz.prog Tryz.f4 false true false false) := by
  refine handed_and_shaped (C := Tryz.checked) (X := fun w _ => laidMetH Tryz.prog Rows.fnConvertsRow.laid w) (fun _ _ _ hh h => h.of_heap hh) own started (by kernel_rfl) Tryz.func4
    (ChangeSpec.witness_shaped (enc := enc) (C := Tryz.checked) (os := os) (X := fun w _ => laidMetH Tryz.prog Rows.fnConvertsRow.laid w) false (World.laidAll Tryz.prog os Rows.fnConvertsRow.laid) #[.slice none 0 0] 8 (World.laidAll_os _ _ _) (World.shaped_of_ZipB (by kernel_rfl) (by kernel_rfl)) (by kernel_rfl) (by kernel_rfl) (by kernel_rfl) (door_met os _)) ?_
  intro W base args ds gs before hval0 hW hL hsh
  have hval : ∀ (j : Nat) t v, Tryz.f4.params[j]? = some t → args[j]? = some v → Value.okWide Tryz.prog W .any base t v := hval0
  have hW' := hW
  obtain ⟨p, q, hA0, hV, rfl, hfz, hnd⟩ := hW
  have hA : DataW.TrodAll enc Tryz.prog W 0 (fun _ => true) true Tryz.f4.params.toList args.toList ds p := hA0
  rw [Tryz.params4] at hA hval
  obtain ⟨v0, vs0, d0, ds0, p0, q0, hargs, rfl, rfl, h0, r0⟩ := trodAll_cons hA
  obtain ⟨rfl, rfl, rfl⟩ := trodAll_nil r0
  obtain rfl : args = #[v0] := by cases args; simp_all
  obtain ⟨a0, len0, cap0, rfl⟩ := okWide_slice Tryz.underlying22 (hval 0 22 v0 rfl rfl)
  have k0 := h0
  have lt0 : ∀ x ∈ p0, x.block < W.heap.size := by obtain ⟨m, hm⟩ := k0; exact DataW.trod_lt m _ _ _ hm
  obtain ⟨z0, w0⟩ : ∃ zs, IsRow .u8 W a0 len0 cap0 zs := by
    obtain ⟨fuel, hf⟩ := h0
    rcases open_ints Tryz.underlying22 Tryz.underlying5 (by kernel_rfl) hf with ⟨hcs, _⟩ | ⟨x, l, c, zs, hcs, _, hl, hm, hz, _, hcell, hwz⟩
    · simp [Value.cells] at hcs
      obtain ⟨rfl, rfl, rfl⟩ := hcs
      exact ⟨[], .inl ⟨rfl, rfl, rfl, rfl⟩⟩
    · simp [Value.cells] at hcs
      obtain ⟨rfl, rfl, rfl⟩ := hcs
      exact ⟨zs, .inr ⟨_, rfl, hl, hm, by simpa using hz, hcell, hwz⟩⟩
  obtain ⟨dv, dv2, dv3, rfl⟩ : ∃ d d2 d3, gs = [d, d2, d3] := by
    match gs, hV with
    | [d, d2, d3], _ => exact ⟨d, d2, d3, rfl⟩
    | [], h => exact h.elim
    | [d], h => obtain ⟨_, _, _, _, _, _, _, _, _, _, h, _⟩ := h; exact h.elim
    | [d, d2], h => obtain ⟨_, _, _, _, _, _, _, _, _, _, ⟨_, _, _, _, _, _, _, _, _, _, h, _⟩, _⟩ := h; exact h.elim
    | _ :: _ :: _ :: _ :: _, h => obtain ⟨_, _, _, _, _, _, _, _, _, _, ⟨_, _, _, _, _, _, _, _, _, _, ⟨_, _, _, _, _, _, _, _, _, _, h, _⟩, _⟩, _⟩ := h; exact h.elim
  clear hA0 hval0
  refine (walk a0 len0 cap0 z0 W w0 (of_laidB hL) (of_laidH hL) (of_laidC hL) (maxLen_shaped hsh)).mono fun e W' ⟨he, bel⟩ => ?_
  subst he
  exact ⟨_, rfl, _, _, _, [], _, _, hW', trodAll_mk1 (shut_bool Tryz.underlying4 _), (trodAll_cons_mk (Below.trod laidOut (by kernel_rfl) (of_decide_eq_true (by kernel_rfl)) k0 bel lt0) trodAll_mk0), Below.trodVars laidOut bel (by kernel_rfl) hV, bel.frame _, fun h => by cases h⟩

theorem over : Rows.fnConvertsRow.holds Tryz.pinned (OpenSpec.ofChange Rows.fnConvertsSpec) :=
  OpenClaim.holds_of_wide 4 Tryz.f4 rfl rfl rfl rfl rfl rfl rfl ⟨rfl, rfl, rfl, rfl, rfl⟩ rfl rfl rfl rfl rfl (by kernel_rfl) Tryz.func4 (by kernel_rfl)
    (of_decide_eq_true (by kernel_rfl)) (by unfold Func.isWrapper; first | (rw [if_pos (by decide +kernel)]; kernel_rfl) | (rw [if_neg (by decide +kernel)]; exact ⟨rfl, rfl⟩))
    (fun os started H enc _ => lifted os started H enc)

theorem plainF (f : FuncId) (fn : Func) (hf : Tryz.pinned.checked.prog.funcNamed "loop.example/g00447/laws.FnConverts" = some f) (hfn : Tryz.pinned.checked.prog.funcs[f]? = some fn) :
    true = Tryz.pinned.checked.prog.looks [] ∧ ∀ (j : Nat) t, fn.params[j]? = some t → Tryz.pinned.checked.prog.wantsStandIn t = false := by
  obtain rfl : f = 4 := Option.some.inj ((show Tryz.prog.funcNamed "loop.example/g00447/laws.FnConverts" = some 4 by kernel_rfl).symm.trans hf) |>.symm
  obtain rfl : fn = Tryz.f4 := (Option.some.inj (Tryz.func4.symm.trans hfn)).symm
  refine ⟨by kernel_rfl, fun j t ht => ?_⟩
  rw [Tryz.params4] at ht
  have hm : t ∈ [22] := by simpa using Array.mem_of_getElem? ht
  have hall : ([22].all fun u => !Tryz.prog.wantsStandIn u) = true := by kernel_rfl
  exact (show Tryz.prog.wantsStandIn t = false by simpa using List.all_eq_true.1 hall t hm)
end Go.Proofs.YtooifkdbpghcfaaGreatDoor.fnConverts

namespace Go.Proofs.YtooifkdbpghcfaaGreatDoor
/-- THE TIED CARD. -/
theorem fnConverts_card : Rows.FnConvertsCardSaid :=
  Claim7.holds_tied_plain_at .later [] _ _ _ _ fnConverts.over (fun _ h => by cases h) (by kernel_rfl) (fun _ h => by cases h) fnConverts_row_tie rfl ⟨rfl, rfl⟩ (by kernel_rfl) rfl fnConverts.plainF (by kernel_rfl)
end Go.Proofs.YtooifkdbpghcfaaGreatDoor
