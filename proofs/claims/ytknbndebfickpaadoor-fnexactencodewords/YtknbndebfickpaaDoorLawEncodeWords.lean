/- EncodeWords answers as the model at every slice of characters: the law returns true, whatever the input; what the row lists is laid by the program's own text. -/
import Derived.Test.YtknbndebfickpaaDoorCards
import Derived.Test.YtknbndebfickpaaDoorTie
import Derived.Test.YtknbndebfickpaaDoorEwp
import Derived.Test.YtknbndebfickpaaDoorEws
import Derived.Test.YtknbndebfickpaaDoorBytI
import Derived.Test.YtknbndebfickpaaDoorTxt
import Derived.WalkKit
import Derived.ProofKit
import Derived.OpenShut
import Derived.ShutString
import Derived.ChangeOld
import Derived.Below
import Derived.LaidMore
import Derived.OpenVars
import Derived.Stop.Joined
import Derived.Lib.LaidTab
import Derived.Stop.LaidErr
import Derived.Test.YtknbndebfickpaaDoorShp
namespace Go.Proofs.YtknbndebfickpaaDoor.fnExactEncodeWords
open Go.ChangeShapes Go.WideShapes Go.ChangeAt Go.WideMaps Go.WideElems Go.RowKit
open Go.ChangeMaps (open_string shut_string)
set_option linter.unusedVariables false

theorem own : ownKnob Tryd.prog.godebug = none := by kernel_rfl
theorem laidOut : laidOutB Tryd.prog = true := by kernel_rfl
theorem gB : Tryd.prog.globalNamed "loop.example/g00447/impl.baseDigits" = some 0 := by kernel_rfl
theorem gtB : (Tryd.prog.globals[0]?).map (·.type) = some 98 := by kernel_rfl
theorem cB : Tryd.prog.cellsOf 98 = 64 := by kernel_rfl
theorem cellsB : Tryd.prog.cellsOf 5 = 1 := by kernel_rfl

/-- The door's own heap meets the condition: closed facts. -/
theorem door_met (os : Os) (args : Array Value) : laidMetH Tryd.prog Rows.fnExactEncodeWordsRow.laid ((World.doorLaid Tryd.prog 400 os).forCall (fun _ _ => 0) ⟨#[], args, []⟩).memory :=
  laidMetH_of_parts3 (fuel := 8) (laidMet_of_run' 8 (by kernel_rfl) (by kernel_rfl)) (by kernel_rfl) (by kernel_rfl)

/-- WHAT THE ROW LISTS GIVES THE WALK: the table lies in its variable. -/
theorem of_laidB {W : World} (h : laidMetH Tryd.prog Rows.fnExactEncodeWordsRow.laid W) : TabB W := fun v hv => by
  have ht : Lib.TabIs Tryd.prog W "loop.example/g00447/impl.baseDigits" .u8 tabI := Lib.tabIs_of_head (rest := []) gB gtB Tryd.underlying98 Tryd.underlying5 cellsB cB h
  rw [ht.cell gB v (by rw [tabI_len]; exact hv), tabI_get v hv]

/-! ### THE WALK -/
set_option maxHeartbeats 1600000 in
set_option maxRecDepth 100000 in
theorem walk (a0 : Option Addr) (len0 cap0 : Nat) (z0 : List Int) (w : World) (w0 : IsRow .i64 w a0 len0 cap0 z0) (htB : TabB w) (hmx : MaxI w) :
    Calls Tryd.prog 4 #[.slice a0 len0 cap0] w fun e w' => e = .returned (.bool true) ∧ Below w.heap.size w w' := by
  obtain ⟨s, hl, hr, hmax⟩ := w0.rdI
  by_cases hbig : 1048576 < len0
  · have hb' : (1048576 : Int) < (len0 : Int) := by omega
    go_enter Tryd.func4, Tryd.ntmps4
    go_wp2
    go_ret
    exact ⟨rfl, Below.refl _ _⟩
  · have hb' : ¬ (1048576 : Int) < (len0 : Int) := by omega
    have hn : len0 ≤ 1048576 := by omega
    have HS : Hid (∀ a cap w, RdI w a s → Calls Tryd.prog 10 #[.slice a len0 cap] w fun e w' => e = .returned (.agg #[.int .i64 (ewV s).1, .string (str (ewV s).2)]) ∧ Below w.heap.size w w') := fun a cap w h => specEncodeWords_any a len0 cap s w hl h hn
    have HG : Hid (∀ a cap w, RdI w a s → TabB w → MaxI w → Calls Tryd.prog 12 #[.slice a len0 cap] w fun e w' => e = .returned (.agg #[.int .i64 (ewV s).1, .string (str (ewV s).2)]) ∧ Below w.heap.size w w') := fun a cap w h h1 h2 => encodeWords_any a len0 cap s w hl h hn h1 h2
    generalize (ewV s).1 = rc at *
    generalize str (ewV s).2 = rt at *
    go_enter Tryd.func4, Tryd.ntmps4
    go_wp2_with fail
    refine (toInt64S_any a0 len0 cap0 s _ hl hr hn).mono ?_
    rintro e w2 ⟨rfl, ho2, hb2⟩
    go_wp2_with fail
    refine (HS.out _ _ _ (RdI.own ho2)).mono ?_
    rintro e w3 ⟨rfl, hb3⟩
    have hB3 : Below w.heap.size w w3 := hb2.trans (hb3.mono hb2.size)
    have hA3 : Below w3.heap.size w3 (w3.alloc (.cells #[.int .i64 rc, .string rt] 30)) := (Below.refl _ _).alloc (Nat.le_refl _) _
    have hB3' : Below w.heap.size w (w3.alloc (.cells #[.int .i64 rc, .string rt] 30)) := hB3.trans (hA3.mono hB3.size)
    have hr3 := hr.below hB3'
    have HS3 : Hid ((w3.alloc (.cells #[.int .i64 rc, .string rt] 30)).heap.size = w3.heap.size + 1) := by show _ = _; simp
    clear hb2 hb3 ho2 hA3 HS
    go_wp2_with fail
    generalize hW3 : w3.alloc (.cells #[.int .i64 rc, .string rt] 30) = W3 at *
    refine (toInt64S_any a0 len0 cap0 s _ hl hr3 hn).mono ?_
    rintro e w4 ⟨rfl, ho4, hb4⟩
    have hB4 : Below w.heap.size w w4 := hB3'.trans (hb4.mono hB3'.size)
    have hr4 := hr3.below hb4
    have hx4 := RdI.own ho4
    have hbl4 : Below (w3.heap.size + 1) W3 w4 := by rw [← HS3.out]; exact hb4
    have hz4 := hbl4.size
    rw [HS3.out] at hz4
    clear hb4 ho4 hr3
    go_wp2_with fail
    refine (HG.out _ _ _ hx4 (htB.below hB4) (hmx.below hB4)).mono ?_
    rintro e w5 ⟨rfl, hb5⟩
    have hB5 : Below w.heap.size w w5 := hB4.trans (hb5.mono hB4.size)
    have hbl5 := hbl4.trans (hb5.mono hz4)
    have hz5 := hb5.size
    have hA5 : Below w5.heap.size w5 (w5.alloc (.cells #[.int .i64 rc, .string rt] 30)) := (Below.refl _ _).alloc (Nat.le_refl _) _
    have hr5 := (hr4.below hb5).below hA5
    have hx5 := (hx4.below hb5).below hA5
    have hB5' : Below w.heap.size w (w5.alloc (.cells #[.int .i64 rc, .string rt] 30)) := hB5.trans (hA5.mono hB5.size)
    obtain ⟨k0, k1, kf0, kf1⟩ := res_block hW3 hbl5
    have hlt5 : w3.heap.size < w5.heap.size := by omega
    clear hb5 hr4 hx4 hB4 hA5 HG
    go_wp2_with fail
    generalize hW5 : w5.alloc (.cells #[.int .i64 rc, .string rt] 30) = W5 at *
    refine (eqTextResult_txt rc rt _).mono ?_
    rintro e w6 ⟨rfl, hb6⟩
    have hB6 : Below w.heap.size w w6 := hB5'.trans (hb6.mono hB5'.size)
    have hr6 := hr5.below hb6
    have hx6 := hx5.below hb6
    clear hb6 hr5 hx5 k0 k1 kf0 kf1
    go_wp2_with fail
    refine (toInt64S_any a0 len0 cap0 s _ hl hr6 hn).mono ?_
    rintro e w7 ⟨rfl, ho7, hb7⟩
    have hB7 : Below w.heap.size w w7 := hB6.trans (hb7.mono hB6.size)
    have hx7 := hx6.below hb7
    have hy7 := RdI.own ho7
    clear hb7 ho7 hr6 hx6
    go_wp2_with fail
    refine (eqInt64S_same _ _ len0 len0 len0 s _ hl hx7 hy7 hn).mono ?_
    rintro e w8 ⟨rfl, hb8⟩
    have hB8 : Below w.heap.size w w8 := hB7.trans (hb8.mono hB7.size)
    clear hb8
    go_wp2
    go_ret
    exact ⟨rfl, hB8⟩

/-! ### THE ROW's STEP -/
set_option maxRecDepth 100000 in
theorem lifted (os : Os) (started : os.Started) (H : Type) (enc : TypeId × Value → H) :
    ReturnsInHanded {} Tryd.checked os 4 .any (fun w args => (Rows.fnExactEncodeWordsSpec.pre enc Tryd.prog Tryd.f4 [] false w args ∧ laidMetH Tryd.prog Rows.fnExactEncodeWordsRow.laid w) ∧ sizedMet enc Tryd.prog Tryd.f4 (OpenSpec.ofChange Rows.fnExactEncodeWordsSpec) false w args)
      (Rows.fnExactEncodeWordsSpec.post enc Tryd.prog Tryd.f4 false true false false) := by
  refine handed_and_shaped (C := Tryd.checked) (X := fun w _ => laidMetH Tryd.prog Rows.fnExactEncodeWordsRow.laid w) (fun _ _ _ hh h => h.of_heap hh) own started (by kernel_rfl) Tryd.func4
    (ChangeSpec.witness_shaped (enc := enc) (C := Tryd.checked) (os := os) (X := fun w _ => laidMetH Tryd.prog Rows.fnExactEncodeWordsRow.laid w) false (World.doorLaid Tryd.prog 400 os) #[.slice none 0 0] 8 rfl (World.shaped_of_RefB (by kernel_rfl) (by kernel_rfl)) (by kernel_rfl) (by kernel_rfl) (by kernel_rfl) (door_met os _)) ?_
  intro W base args ds gs before hval0 hW hL hsh
  have hval : ∀ (j : Nat) t v, Tryd.f4.params[j]? = some t → args[j]? = some v → Value.okWide Tryd.prog W .any base t v := hval0
  have hW' := hW
  obtain ⟨p, q, hA0, hV, rfl, hfz, hnd⟩ := hW
  have hA : DataW.TrodAll enc Tryd.prog W 0 (fun _ => true) true Tryd.f4.params.toList args.toList ds p := hA0
  rw [Tryd.params4] at hA hval
  obtain ⟨v0, vs0, d0, ds0, p0, q0, hargs, rfl, rfl, h0, r0⟩ := trodAll_cons hA
  obtain ⟨rfl, rfl, rfl⟩ := trodAll_nil r0
  obtain rfl : args = #[v0] := by cases args; simp_all
  obtain ⟨a0, len0, cap0, rfl⟩ := okWide_slice Tryd.underlying22 (hval 0 22 v0 rfl rfl)
  have k0 := h0
  have lt0 : ∀ x ∈ p0, x.block < W.heap.size := by obtain ⟨m, hm⟩ := k0; exact DataW.trod_lt m _ _ _ hm
  obtain ⟨z0, w0⟩ : ∃ zs, IsRow .i64 W a0 len0 cap0 zs := by
    obtain ⟨fuel, hf⟩ := h0
    rcases open_ints Tryd.underlying22 Tryd.underlying2 (by kernel_rfl) hf with ⟨hcs, _⟩ | ⟨x, l, c, zs, hcs, _, hl, hm, hz, _, hcell, hwz⟩
    · simp [Value.cells] at hcs
      obtain ⟨rfl, rfl, rfl⟩ := hcs
      exact ⟨[], .inl ⟨rfl, rfl, rfl, rfl⟩⟩
    · simp [Value.cells] at hcs
      obtain ⟨rfl, rfl, rfl⟩ := hcs
      exact ⟨zs, .inr ⟨_, rfl, hl, hm, by simpa using hz, hcell, hwz⟩⟩
  obtain ⟨dv, rfl⟩ : ∃ d, gs = [d] := by obtain ⟨_, _, _, _, d, _, e, _⟩ := trodVars_one (n := "loop.example/g00447/impl.baseDigits") hV; exact ⟨d, e⟩
  clear hA0 hval0
  refine (walk a0 len0 cap0 z0 W w0 (of_laidB hL) (maxLen_shaped hsh)).mono fun e W' ⟨he, bel⟩ => ?_
  subst he
  exact ⟨_, rfl, _, _, _, [], _, _, hW', trodAll_mk1 (shut_bool Tryd.underlying4 _), (trodAll_cons_mk (Below.trod laidOut (by kernel_rfl) (of_decide_eq_true (by kernel_rfl)) k0 bel lt0) trodAll_mk0), Below.trodVars laidOut bel (by kernel_rfl) hV, bel.frame _, fun h => by cases h⟩

theorem over : Rows.fnExactEncodeWordsRow.holds Tryd.pinned (OpenSpec.ofChange Rows.fnExactEncodeWordsSpec) :=
  OpenClaim.holds_of_wide 4 Tryd.f4 rfl rfl rfl rfl rfl rfl rfl ⟨rfl, rfl, rfl, rfl, rfl⟩ rfl rfl rfl rfl rfl (by kernel_rfl) Tryd.func4 (by kernel_rfl)
    (of_decide_eq_true (by kernel_rfl)) (by unfold Func.isWrapper; first | (rw [if_pos (by decide +kernel)]; kernel_rfl) | (rw [if_neg (by decide +kernel)]; exact ⟨rfl, rfl⟩))
    (fun os started H enc _ => lifted os started H enc)

theorem plainF (f : FuncId) (fn : Func) (hf : Tryd.pinned.checked.prog.funcNamed "loop.example/g00447/laws.FnExactEncodeWords" = some f) (hfn : Tryd.pinned.checked.prog.funcs[f]? = some fn) :
    false = Tryd.pinned.checked.prog.looks [] ∧ ∀ (j : Nat) t, fn.params[j]? = some t → Tryd.pinned.checked.prog.wantsStandIn t = false := by
  obtain rfl : f = 4 := Option.some.inj ((show Tryd.prog.funcNamed "loop.example/g00447/laws.FnExactEncodeWords" = some 4 by kernel_rfl).symm.trans hf) |>.symm
  obtain rfl : fn = Tryd.f4 := (Option.some.inj (Tryd.func4.symm.trans hfn)).symm
  refine ⟨by kernel_rfl, fun j t ht => ?_⟩
  rw [Tryd.params4] at ht
  have hm : t ∈ [22] := by simpa using Array.mem_of_getElem? ht
  have hall : ([22].all fun u => !Tryd.prog.wantsStandIn u) = true := by kernel_rfl
  exact (show Tryd.prog.wantsStandIn t = false by simpa using List.all_eq_true.1 hall t hm)
end Go.Proofs.YtknbndebfickpaaDoor.fnExactEncodeWords

namespace Go.Proofs.YtknbndebfickpaaDoor
/-- THE TIED CARD. -/
theorem fnExactEncodeWords_card : Rows.FnExactEncodeWordsCardSaid :=
  Claim7.holds_tied_plain_at .later [] _ _ _ _ fnExactEncodeWords.over (fun _ h => by cases h) (by kernel_rfl) (fun _ h => by cases h) fnExactEncodeWords_row_tie rfl ⟨rfl, rfl⟩ (by kernel_rfl) rfl fnExactEncodeWords.plainF (by kernel_rfl)
end Go.Proofs.YtknbndebfickpaaDoor
