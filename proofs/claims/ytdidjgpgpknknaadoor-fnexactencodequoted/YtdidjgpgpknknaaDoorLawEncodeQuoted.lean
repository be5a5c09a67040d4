/- Proved: called with any slice of bytes, the law FnExactEncodeQuoted returns true (the program's EncodeQuoted answers as the model does, and writes into no argument), where the table of digits holds what the program's text lays in it; no other condition. -/
import Derived.Test.YtdidjgpgpknknaaDoorCards
import Derived.Test.YtdidjgpgpknknaaDoorTie
import Derived.Test.YtdidjgpgpknknaaDoorEncQ3
import Derived.Test.YtdidjgpgpknknaaDoorTxt
import Derived.WalkKit
import Derived.ProofKit
import Derived.OpenShut
import Derived.ShutString
import Derived.ChangeOld
import Derived.Below
import Derived.LaidMore
import Derived.OpenVars
import Derived.Stop.Joined
import Derived.Lib.LaidTab
namespace Go.Proofs.YtdidjgpgpknknaaDoor.fnExactEncodeQuoted
open Go.ChangeShapes Go.WideShapes Go.ChangeAt Go.WideMaps Go.WideElems Go.RowKit
open Go.ChangeMaps (open_string shut_string)
set_option linter.unusedVariables false

theorem own : ownKnob Tryd.prog.godebug = none := by kernel_rfl
theorem laidOut : laidOutB Tryd.prog = true := by kernel_rfl
theorem gH : Tryd.prog.globalNamed "loop.example/g00447/impl.hexDigits" = some 1 := by kernel_rfl
theorem gtH : (Tryd.prog.globals[1]?).map (·.type) = some 62 := by kernel_rfl
theorem cH : Tryd.prog.cellsOf 62 = 16 := by kernel_rfl
theorem cellsB : Tryd.prog.cellsOf 5 = 1 := by kernel_rfl

/-- The door's own heap meets the condition: closed facts. -/
theorem door_met (os : Os) (args : Array Value) : laidMetH Tryd.prog Rows.fnExactEncodeQuotedRow.laid ((World.doorLaid Tryd.prog 400 os).forCall (fun _ _ => 0) ⟨#[], args, []⟩).memory :=
  laidMetH_of_parts3 (fuel := 8) (laidMet_of_run' 8 (by kernel_rfl) (by kernel_rfl)) (by kernel_rfl) (by kernel_rfl)

/-- WHAT THE ROW LISTS GIVES THE WALK: the table lies in its variable. -/
theorem of_laidH {W : World} (h : laidMetH Tryd.prog Rows.fnExactEncodeQuotedRow.laid W) : TabH W := fun v hv => by
  have ht : Lib.TabIs Tryd.prog W "loop.example/g00447/impl.hexDigits" .u8 tabHI := Lib.tabIs_of_head (rest := []) gH gtH Tryd.underlying62 Tryd.underlying5 cellsB cH h
  rw [ht.cell gH v (by rw [tabHI_len]; exact hv), tabHI_get v hv]

/-! ### THE WALK -/
set_option maxHeartbeats 1600000 in
set_option maxRecDepth 100000 in
theorem walk (a0 : Option Addr) (len0 cap0 : Nat) (z0 : List Int) (w : World) (w0 : IsRow .u8 w a0 len0 cap0 z0) (htH : TabH w) :
    Calls Tryd.prog 7 #[.slice a0 len0 cap0] w fun e w' => e = .returned (.bool true) ∧ Below w.heap.size w w' := by
  obtain ⟨l, hl, hB, hr, hmax⟩ := w0.rd
  by_cases hbig : 1048576 < len0
  · have hb' : (1048576 : Int) < (len0 : Int) := by omega
    go_enter Tryd.func7, Tryd.ntmps7
    go_wp2
    go_ret
    exact ⟨rfl, Below.refl _ _⟩
  · have hb' : ¬ (1048576 : Int) < (len0 : Int) := by omega
    have hn : len0 ≤ 1048576 := by omega
    obtain ⟨c, s, hspec, himpl⟩ := encQ_both len0 l hl hB
    have Hs : Hid (_) := hspec
    have Hi : Hid (_) := himpl
    clear hspec himpl
    go_enter Tryd.func7, Tryd.ntmps7
    go_wp2_with fail
    refine (toByteS_ex a0 len0 cap0 l _ hl hr hn).mono ?_
    rintro e w1 ⟨g1, rfl, hx1, hb1⟩
    go_wp2_with fail
    refine (Hs.out _ _ _ hx1).mono ?_
    rintro e w2 ⟨rfl, hb2⟩
    have hb20 : Below w.heap.size w w2 := hb1.trans (hb2.mono hb1.size)
    have hb30 : Below w.heap.size w (w2.alloc (.cells #[.int .i64 c, .string s] 29)) := hb20.alloc hb20.size _
    go_wp2_with fail
    refine (toByteS_ex a0 len0 cap0 l _ hl (hr.below hb30) hn).mono ?_
    rintro e w4 ⟨g4, rfl, hx4, hb4⟩
    have hb40 : Below w.heap.size w w4 := hb30.trans (hb4.mono hb30.size)
    go_wp2_with fail
    refine (Hi.out _ _ _ hx4 (Nat.le_refl _) (htH.below hb40)).mono ?_
    rintro e w5 ⟨rfl, hb5⟩
    have hb50 : Below w.heap.size w w5 := hb40.trans (hb5.mono hb40.size)
    obtain ⟨hk0, hk1, _, _⟩ := res_block (W := w2.alloc (.cells #[.int .i64 c, .string s] 29)) rfl (((hb4.trans (hb5.mono hb4.size))).mono (by simp))
    have hz5 : w2.heap.size < w5.heap.size := by have h1 := hb4.size; have h2 := hb5.size; simp at h1; omega
    go_wp2_with fail
    refine (eqTextResult_same c s _).mono ?_
    rintro e w6 ⟨rfl, hb6⟩
    have hb60 : Below w.heap.size w w6 := (hb50.alloc hb50.size _).trans (hb6.mono (by have := hb50.size; simp; omega))
    have hx6 := ((hx4.below hb5).below ((Below.refl _ _).alloc (Nat.le_refl _) (.cells #[.int .i64 c, .string s] 29))).below hb6
    go_wp2_with fail
    refine (toByteS_ex a0 len0 cap0 l _ hl (hr.below hb60) hn).mono ?_
    rintro e w7 ⟨g7, rfl, hx7, hb7⟩
    have hb70 : Below w.heap.size w w7 := hb60.trans (hb7.mono hb60.size)
    go_wp2_with fail
    refine (eqByteS_same _ _ len0 len0 len0 l _ hl (hx6.below hb7) hx7 hn).mono ?_
    rintro e w8 ⟨rfl, hb8⟩
    go_wp2
    go_ret
    exact ⟨rfl, hb70.trans (hb8.mono hb70.size)⟩

/-! ### THE ROW's STEP -/
set_option maxRecDepth 100000 in
theorem lifted (os : Os) (started : os.Started) (H : Type) (enc : TypeId × Value → H) :
    ReturnsInHanded {} Tryd.checked os 7 .any (fun w args => (Rows.fnExactEncodeQuotedSpec.pre enc Tryd.prog Tryd.f7 [] false w args ∧ laidMetH Tryd.prog Rows.fnExactEncodeQuotedRow.laid w) ∧ sizedMet enc Tryd.prog Tryd.f7 (OpenSpec.ofChange Rows.fnExactEncodeQuotedSpec) false w args)
      (Rows.fnExactEncodeQuotedSpec.post enc Tryd.prog Tryd.f7 false true false false) := by
  refine returnsInHanded_of_change_and (C := Tryd.checked) (X := fun w _ => laidMetH Tryd.prog Rows.fnExactEncodeQuotedRow.laid w) (fun _ _ _ hh h => h.of_heap hh) own started (by kernel_rfl) Tryd.func7
    (ChangeSpec.witness_shaped (enc := enc) (C := Tryd.checked) (os := os) (X := fun w _ => laidMetH Tryd.prog Rows.fnExactEncodeQuotedRow.laid w) false (World.doorLaid Tryd.prog 400 os) #[.slice none 0 0] 8 rfl (World.shaped_of_RefB (by kernel_rfl) (by kernel_rfl)) (by kernel_rfl) (by kernel_rfl) (by kernel_rfl) (door_met os _)) ?_
  intro W base args ds gs before hval0 hW _ _ hL _
  have hval : ∀ (j : Nat) t v, Tryd.f7.params[j]? = some t → args[j]? = some v → Value.okWide Tryd.prog W .any base t v := hval0
  have hW' := hW
  obtain ⟨p, q, hA0, hV, rfl, hfz, hnd⟩ := hW
  have hA : DataW.TrodAll enc Tryd.prog W 0 (fun _ => true) true Tryd.f7.params.toList args.toList ds p := hA0
  rw [Tryd.params7] at hA hval
  obtain ⟨v0, vs0, d0, ds0, p0, q0, hargs, rfl, rfl, h0, r0⟩ := trodAll_cons hA
  obtain ⟨rfl, rfl, rfl⟩ := trodAll_nil r0
  obtain rfl : args = #[v0] := by cases args; simp_all
  obtain ⟨a0, len0, cap0, rfl⟩ := okWide_slice Tryd.underlying22 (hval 0 22 v0 rfl rfl)
  have k0 := h0
  have lt0 : ∀ x ∈ p0, x.block < W.heap.size := by obtain ⟨m, hm⟩ := k0; exact DataW.trod_lt m _ _ _ hm
  obtain ⟨z0, w0⟩ : ∃ zs, IsRow .u8 W a0 len0 cap0 zs := by
    obtain ⟨fuel, hf⟩ := h0
    rcases open_ints Tryd.underlying22 Tryd.underlying5 (by kernel_rfl) hf with ⟨hcs, _⟩ | ⟨x, l, c, zs, hcs, _, hl, hm, hz, _, hcell, hwz⟩
    · simp [Value.cells] at hcs
      obtain ⟨rfl, rfl, rfl⟩ := hcs
      exact ⟨[], .inl ⟨rfl, rfl, rfl, rfl⟩⟩
    · simp [Value.cells] at hcs
      obtain ⟨rfl, rfl, rfl⟩ := hcs
      exact ⟨zs, .inr ⟨_, rfl, hl, hm, by simpa using hz, hcell, hwz⟩⟩
  obtain ⟨dv, rfl⟩ : ∃ d, gs = [d] := by obtain ⟨_, _, _, _, d, _, e, _⟩ := trodVars_one (n := "loop.example/g00447/impl.hexDigits") hV; exact ⟨d, e⟩
  clear hA0 hval0
  refine (walk a0 len0 cap0 z0 W w0 (of_laidH hL)).mono fun e W' ⟨he, bel⟩ => ?_
  subst he
  exact ⟨_, rfl, _, _, _, [], _, _, hW', trodAll_mk1 (shut_bool Tryd.underlying4 _), (trodAll_cons_mk (Below.trod laidOut (by kernel_rfl) (of_decide_eq_true (by kernel_rfl)) k0 bel lt0) trodAll_mk0), Below.trodVars laidOut bel (by kernel_rfl) hV, bel.frame _, fun h => by cases h⟩

theorem over : Rows.fnExactEncodeQuotedRow.holds Tryd.pinned (OpenSpec.ofChange Rows.fnExactEncodeQuotedSpec) :=
  OpenClaim.holds_of_wide 7 Tryd.f7 rfl rfl rfl rfl rfl rfl rfl ⟨rfl, rfl, rfl, rfl, rfl⟩ rfl rfl rfl rfl rfl (by kernel_rfl) Tryd.func7 (by kernel_rfl)
    (of_decide_eq_true (by kernel_rfl)) (by unfold Func.isWrapper; first | (rw [if_pos (by decide +kernel)]; kernel_rfl) | (rw [if_neg (by decide +kernel)]; exact ⟨rfl, rfl⟩))
    (fun os started H enc _ => lifted os started H enc)

theorem plainF (f : FuncId) (fn : Func) (hf : Tryd.pinned.checked.prog.funcNamed "loop.example/g00447/laws.FnExactEncodeQuoted" = some f) (hfn : Tryd.pinned.checked.prog.funcs[f]? = some fn) :
    false = Tryd.pinned.checked.prog.looks [] ∧ ∀ (j : Nat) t, fn.params[j]? = some t → Tryd.pinned.checked.prog.wantsStandIn t = false := by
  obtain rfl : f = 7 := Option.some.inj ((show Tryd.prog.funcNamed "loop.example/g00447/laws.FnExactEncodeQuoted" = some 7 by kernel_rfl).symm.trans hf) |>.symm
  obtain rfl : fn = Tryd.f7 := (Option.some.inj (Tryd.func7.symm.trans hfn)).symm
  refine ⟨by kernel_rfl, fun j t ht => ?_⟩
  rw [Tryd.params7] at ht
  have hm : t ∈ [22] := by simpa using Array.mem_of_getElem? ht
  have hall : ([22].all fun u => !Tryd.prog.wantsStandIn u) = true := by kernel_rfl
  exact (show Tryd.prog.wantsStandIn t = false by simpa using List.all_eq_true.1 hall t hm)
end Go.Proofs.YtdidjgpgpknknaaDoor.fnExactEncodeQuoted

namespace Go.Proofs.YtdidjgpgpknknaaDoor
/-- THE TIED CARD. -/
theorem fnExactEncodeQuoted_card : Rows.FnExactEncodeQuotedCardSaid :=
  Claim7.holds_tied_plain_at .later [] _ _ _ _ fnExactEncodeQuoted.over (fun _ h => by cases h) (by kernel_rfl) (fun _ h => by cases h) fnExactEncodeQuoted_row_tie rfl ⟨rfl, rfl⟩ (by kernel_rfl) rfl fnExactEncodeQuoted.plainF (by kernel_rfl)
end Go.Proofs.YtdidjgpgpknknaaDoor
