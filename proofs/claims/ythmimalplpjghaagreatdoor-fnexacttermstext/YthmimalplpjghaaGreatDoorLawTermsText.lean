/- TermsText answers as the model: the law returns true; the tables of words, of flags and of powers lie as the program lays them. -/
import Derived.Test.YthmimalplpjghaaGreatDoorCards
import Derived.Test.YthmimalplpjghaaGreatDoorTie
import Derived.Test.YthmimalplpjghaaGreatDoorJfzToInf
import Derived.Test.YthmimalplpjghaaGreatDoorTms
import Derived.Test.YthmimalplpjghaaGreatDoorOpmToTmu
import Derived.Test.YthmimalplpjghaaGreatDoorTxzToShp
import Derived.WalkKit
import Derived.ProofKit
import Derived.OpenShut
import Derived.ShutString
import Derived.ChangeOld
import Derived.Below
import Derived.LaidMore
import Derived.OpenVars
import Derived.Stop.Joined
import Derived.Lib.LaidTab
import Derived.Stop.LaidErr
import Derived.Lay
import Derived.MakeChecks
namespace Go.Proofs.YthmimalplpjghaaGreatDoor.fnExactTermsText
open Go.ChangeShapes Go.WideShapes Go.ChangeAt Go.WideMaps Go.WideElems Go.RowKit
open Go.ChangeMaps (open_string shut_string)
set_option linter.unusedVariables false

theorem own : ownKnob Tryz.prog.godebug = none := jzOwn
theorem laidOut : laidOutB Tryz.prog = true := jz2
theorem gtW : (Tryz.prog.globals[3]?).map (·.type) = some 346 := by kernel_rfl
theorem cW : Tryz.prog.cellsOf 346 = 20 := by kernel_rfl
theorem gF : Tryz.prog.globalNamed "loop.example/g00447/impl.flagWords" = some 1 := by kernel_rfl
theorem gtF : (Tryz.prog.globals[1]?).map (·.type) = some 234 := by kernel_rfl
theorem cF : Tryz.prog.cellsOf 234 = 4 := by kernel_rfl
theorem gT : Tryz.prog.globalNamed "loop.example/g00447/impl.termWords" = some 0 := by kernel_rfl
theorem gtT : (Tryz.prog.globals[0]?).map (·.type) = some 214 := by kernel_rfl
theorem cT : Tryz.prog.cellsOf 214 = 12 := by kernel_rfl
theorem cellsS : Tryz.prog.cellsOf 9 = 1 := by kernel_rfl
theorem cellsU : Tryz.prog.cellsOf 295 = 1 := by kernel_rfl

/-- The door's own heap meets the condition: closed facts. -/
theorem door_met (os : Os) (args : Array Value) : laidMetH Tryz.prog Rows.fnExactTermsTextRow.laid ((World.laidAll Tryz.prog os Rows.fnExactTermsTextRow.laid).forCall (fun _ _ => 0) ⟨#[], args, []⟩).memory := by
  rw [MakeChecks.laidMetH_plain _ _ _ (by kernel_rfl)]; exact laidMet_laidAll _ (by kernel_rfl) (by kernel_rfl)

/-- The words as bytes. -/
def twB : List (List UInt8) := [[], [97, 108, 108], [102, 108, 97, 103], [115, 105, 110, 99, 101], [98, 101, 102, 111, 114, 101], [108, 97, 114, 103, 101, 114], [115, 117, 98, 106, 101, 99, 116], [98, 111, 100, 121], [117, 105, 100], [110, 111, 116], [97, 110, 100], [111, 114]]
theorem twB_str : ∀ v : Nat, v < 12 → txt (twB.getD v []) = str (twN v) := by
  intro v hv
  have h' : v = 0 ∨ v = 1 ∨ v = 2 ∨ v = 3 ∨ v = 4 ∨ v = 5 ∨ v = 6 ∨ v = 7 ∨ v = 8 ∨ v = 9 ∨ v = 10 ∨ v = 11 := by omega
  rcases h' with rfl | rfl | rfl | rfl | rfl | rfl | rfl | rfl | rfl | rfl | rfl | rfl
  all_goals rfl
/-- The tails of what the row lists. -/
theorem tails {W : World} (h : laidMetH Tryz.prog Rows.fnExactTermsTextRow.laid W) : laidMet Tryz.prog [("internal/strconv.uint64pow10", Rows.laid_internal_strconv_uint64pow10), ("loop.example/g00447/impl.flagWords", Rows.laid_loop_example_g00447_impl_flagWords), ("loop.example/g00447/impl.termWords", Rows.laid_loop_example_g00447_impl_termWords)] W ∧ laidMet Tryz.prog [("loop.example/g00447/impl.flagWords", Rows.laid_loop_example_g00447_impl_flagWords), ("loop.example/g00447/impl.termWords", Rows.laid_loop_example_g00447_impl_termWords)] W ∧ laidMet Tryz.prog [("loop.example/g00447/impl.termWords", Rows.laid_loop_example_g00447_impl_termWords)] W := by
  have h0 : laidMet Tryz.prog [("math/bits.deBruijn32tab", Rows.laid_math_bits_deBruijn32tab), ("math/bits.deBruijn64tab", Rows.laid_math_bits_deBruijn64tab), ("internal/strconv.uint64pow10", Rows.laid_internal_strconv_uint64pow10), ("loop.example/g00447/impl.flagWords", Rows.laid_loop_example_g00447_impl_flagWords), ("loop.example/g00447/impl.termWords", Rows.laid_loop_example_g00447_impl_termWords)] W := h
  exact ⟨h0.tail.tail, h0.tail.tail.tail, h0.tail.tail.tail.tail⟩
theorem of_laidW {W : World} (h : laidMetH Tryz.prog Rows.fnExactTermsTextRow.laid W) : TabW W :=
  Lib.tabIs_of_head (zs := Lib.pow10Tab) (rest := [("loop.example/g00447/impl.flagWords", Rows.laid_loop_example_g00447_impl_flagWords), ("loop.example/g00447/impl.termWords", Rows.laid_loop_example_g00447_impl_termWords)]) gW gtW Tryz.underlying346 Tryz.underlying295 cellsU cW (tails h).1
theorem of_laidF {W : World} (h : laidMetH Tryz.prog Rows.fnExactTermsTextRow.laid W) : TabF W := fun v hv => by
  have ht : StrsAre Tryz.prog W "loop.example/g00447/impl.flagWords" flZ := strsAre_of_head (rest := [("loop.example/g00447/impl.termWords", Rows.laid_loop_example_g00447_impl_termWords)]) gF gtF Tryz.underlying234 Tryz.underlying9 cellsS cF (tails h).2.1
  exact ht.cell gF v hv
theorem of_laidT {W : World} (h : laidMetH Tryz.prog Rows.fnExactTermsTextRow.laid W) : TabT W := fun v hv => by
  have ht : StrsAre Tryz.prog W "loop.example/g00447/impl.termWords" twB := strsAre_of_head (rest := []) gT gtT Tryz.underlying214 Tryz.underlying9 cellsS cT (tails h).2.2
  rw [← twB_str v hv]
  exact ht.cell gT v hv

/-! ### THE WALK -/
set_option maxHeartbeats 1600000 in
set_option maxRecDepth 100000 in
theorem walk (q0 : SlQ) (l0 : List TmR) (w : World) (w0 : IsTs 0 w q0 l0) (htW : TabW w) (htF : TabF w) (htT : TabT w) :
    Calls Tryz.prog 6 #[slW q0] w fun e w' => e = .returned (.bool true) ∧ Below w.heap.size w w' := by
  have HSP : Hid (∀ (s : SlQ) (lo : Nat) (w' : World), IsTs lo w' s l0 → FtUs l0 → Calls Tryz.prog 16 #[slW s] w' fun e w'' => e = .returned (.agg #[.int .i64 (ttV l0).1, .string (str (ttV l0).2)]) ∧ Below w'.heap.size w' w'') := fun s lo w' h h' => specTermsText_any s l0 w' h h'
  have HIM : Hid (∀ (s : SlQ) (lo : Nat) (w' : World), Below w.heap.size w w' → IsTs lo w' s l0 → FtUs l0 → Calls Tryz.prog 14 #[slW s] w' fun e w'' => e = .returned (.agg #[.int .i64 (ttV l0).1, .string (str (ttV l0).2)]) ∧ Below w'.heap.size w' w'') := fun s lo w' hb h h' => termsText_any s l0 w' h h' (htT.below hb) (htF.below hb) (htW.below hb)
  have hHS : Hid (∀ (c : Int) (s : ByteArray) w, Calls Tryz.prog 31 #[.agg #[.int .i64 c, .string s], .agg #[.int .i64 c, .string s]] w fun e w' => e = .returned (.bool true) ∧ Below w.heap.size w w') := eqTextResult_y
  have hu0 := w0
  generalize (ttV l0).1 = c at *
  generalize str (ttV l0).2 = sx at *
  go_enter Tryz.func6, Tryz.ntmps6
  go_wp2_with fail
  refine (szTermS_ft q0 l0 1048576 w (by omega) (by omega) hu0).mono ?_
  rintro e w1 ⟨r, rfl, hcase, hB1⟩
  rcases hcase with rfl | ⟨r0, r0', hn⟩
  · go_wp2
    go_ret
    exact ⟨rfl, hB1⟩
  have hneg : ¬ r < 0 := by omega
  have hu1 := hu0.below hB1
  clear hu0
  go_wp2_with fail
  refine (toTermS_ft q0 l0 w1 hu1 hn).mono ?_
  rintro e w2 ⟨s2, rfl, ho2, hb2⟩
  have hB2 := hB1.trans (hb2.mono hB1.size)
  have hu2 := hu1.below hb2
  clear hu1 hB1 hb2
  go_wp2_with fail
  refine (HSP.out s2 _ _ ho2 hn).mono ?_
  rintro e w3 ⟨rfl, hb3⟩
  have hbA : Below w3.heap.size w3 (w3.alloc (.cells #[.int .i64 c, .string sx] 30)) := (Below.refl _ _).alloc (Nat.le_refl _) _
  have hb3' : Below w2.heap.size w2 (w3.alloc (.cells #[.int .i64 c, .string sx] 30)) := hb3.trans (hbA.mono hb3.size)
  have hB3 := hB2.trans (hb3'.mono hB2.size)
  have hu3 := hu2.below hb3'
  obtain ⟨k0, k1, -, -⟩ := res_block (w := w3) (wr := w3.alloc (.cells #[.int .i64 c, .string sx] 30)) rfl (Below.refl _ _)
  have hs3 : (w3.alloc (.cells #[.int .i64 c, .string sx] 30)).heap.size = w3.heap.size + 1 := by simp
  clear hu2 hB2 hb3 hb3' hbA ho2 HSP
  go_wp2_with fail
  generalize w3.alloc (.cells #[.int .i64 c, .string sx] 30) = W3 at *
  generalize w3.heap.size = g at *
  refine (toTermS_ft q0 l0 W3 hu3 hn).mono ?_
  rintro e w4 ⟨s4, rfl, ho4, hb4⟩
  have hB4 := hB3.trans (hb4.mono hB3.size)
  have hu4 := hu3.below hb4
  have hg4 : g < w4.heap.size := by have := hb4.size; omega
  have j0 : w4.cell? ⟨g, 0, none⟩ = some (.int .i64 c) := (hb4.cell (p := ⟨g, 0, none⟩) (by show g < _; omega)).trans k0
  have j1 : w4.cell? ⟨g, 1, none⟩ = some (.string sx) := (hb4.cell (p := ⟨g, 1, none⟩) (by show g < _; omega)).trans k1
  clear hu3 hB3 hb4 k0 k1
  go_wp2_with fail
  refine (HIM.out s4 _ _ hB4 ho4 hn).mono ?_
  rintro e w5 ⟨rfl, hb5⟩
  have hbA : Below w5.heap.size w5 (w5.alloc (.cells #[.int .i64 c, .string sx] 30)) := (Below.refl _ _).alloc (Nat.le_refl _) _
  have hb5' : Below w4.heap.size w4 (w5.alloc (.cells #[.int .i64 c, .string sx] 30)) := hb5.trans (hbA.mono hb5.size)
  have hB5 := hB4.trans (hb5'.mono hB4.size)
  have hu5 := hu4.below hb5'
  have ho5 := ho4.below hb5'
  have k0 := (hb5'.cell (p := ⟨g, 0, none⟩) hg4).trans j0
  have k1 := (hb5'.cell (p := ⟨g, 1, none⟩) hg4).trans j1
  obtain ⟨i0, i1, -, -⟩ := res_block (w := w5) (wr := w5.alloc (.cells #[.int .i64 c, .string sx] 30)) rfl (Below.refl _ _)
  clear hu4 hB4 hb5 hb5' hbA ho4 HIM j0 j1
  go_wp2_with fail
  generalize w5.alloc (.cells #[.int .i64 c, .string sx] 30) = W5 at *
  refine (hHS.out c sx _).mono ?_
  rintro e w6 ⟨rfl, hb6⟩
  have hB6 := hB5.trans (hb6.mono hB5.size)
  have hu6 := hu5.below hb6
  have ho6 := ho5.below hb6
  clear hb6 hB5 hu5 ho5 k0 k1 i0 i1 hHS
  go_wp2_with fail
  refine (toTermS_ft q0 l0 w6 hu6 hn).mono ?_
  rintro e w7 ⟨s7, rfl, ho7, hb7⟩
  have hB7 := hB6.trans (hb7.mono hB6.size)
  have ho6' := ho6.below hb7
  clear hu6 hB6 hb7 ho6
  go_wp2_with fail
  refine (eqTermS_ft s4 s7 l0 w7 ho6' ho7 hn).mono ?_
  rintro e w8 ⟨rfl, hb8⟩
  have hB8 := hB7.trans (hb8.mono hB7.size)
  go_wp2
  go_ret
  exact ⟨rfl, hB8⟩

/-! ### THE ROW's STEP -/
set_option maxRecDepth 100000 in
theorem lifted (os : Os) (started : os.Started) (H : Type) (enc : TypeId × Value → H) :
    ReturnsInHanded {} Tryz.checked os 6 .any (fun w args => (Rows.fnExactTermsTextSpec.pre enc Tryz.prog Tryz.f6 [] false w args ∧ laidMetH Tryz.prog Rows.fnExactTermsTextRow.laid w) ∧ sizedMet enc Tryz.prog Tryz.f6 (OpenSpec.ofChange Rows.fnExactTermsTextSpec) false w args)
      (Rows.fnExactTermsTextSpec.post enc Tryz.prog Tryz.f6 false true false false) := by
  refine handed_and_shaped (C := Tryz.checked) (X := fun w _ => laidMetH Tryz.prog Rows.fnExactTermsTextRow.laid w) (fun _ _ _ hh h => h.of_heap hh) own started (by kernel_rfl) Tryz.func6
    (ChangeSpec.witness_shaped (enc := enc) (C := Tryz.checked) (os := os) (X := fun w _ => laidMetH Tryz.prog Rows.fnExactTermsTextRow.laid w) false (World.laidAll Tryz.prog os Rows.fnExactTermsTextRow.laid) #[.slice none 0 0] 8 (World.laidAll_os _ _ _) (World.shaped_of_ZipB (by kernel_rfl) (by kernel_rfl)) (by kernel_rfl) (by kernel_rfl) (by kernel_rfl) (door_met os _)) ?_
  intro W base args ds gs before hval0 hW hL _
  have hval : ∀ (j : Nat) t v, Tryz.f6.params[j]? = some t → args[j]? = some v → Value.okWide Tryz.prog W .any base t v := hval0
  have hW' := hW
  obtain ⟨p, q, hA0, hV, rfl, hfz, hnd⟩ := hW
  have hA : DataW.TrodAll enc Tryz.prog W 0 (fun _ => true) true Tryz.f6.params.toList args.toList ds p := hA0
  rw [Tryz.params6] at hA hval
  obtain ⟨v0, vs0, d0, ds0, p0, q0, hargs, rfl, rfl, h0, r0⟩ := trodAll_cons hA
  obtain ⟨rfl, rfl, rfl⟩ := trodAll_nil r0
  obtain rfl : args = #[v0] := by cases args; simp_all
  have k0 := h0
  have lt0 : ∀ x ∈ p0, x.block < W.heap.size := by obtain ⟨m, hm⟩ := k0; exact DataW.trod_lt m _ _ _ hm
  obtain ⟨a0, len0, cap0, rfl⟩ := okWide_slice Tryz.underlying58 (hval 0 58 v0 rfl rfl)
  obtain ⟨fuel0, hf0⟩ := h0
  obtain ⟨⟨x0, y0, z0⟩, l0, hc0, w0⟩ := open_ts Tryz.underlying58 tmT hf0
  simp [Value.cells] at hc0
  obtain ⟨rfl, rfl, rfl⟩ := hc0
  obtain ⟨dv, dv2, rfl⟩ : ∃ d d2, gs = [d, d2] := by
    match gs, hV with
    | [d, d2], _ => exact ⟨d, d2, rfl⟩
    | [], h => exact h.elim
    | [d], h => obtain ⟨_, _, _, _, _, _, _, _, _, _, h, _⟩ := h; exact h.elim
    | _ :: _ :: _ :: _, h => obtain ⟨_, _, _, _, _, _, _, _, _, _, ⟨_, _, _, _, _, _, _, _, _, _, h, _⟩, _⟩ := h; exact h.elim
  clear hA0 hval0
  refine (walk _ l0 W w0 (of_laidW hL) (of_laidF hL) (of_laidT hL)).mono fun e W' ⟨he, bel⟩ => ?_
  subst he
  exact ⟨_, rfl, _, _, _, [], _, _, hW', trodAll_mk1 (shut_bool Tryz.underlying4 _), (trodAll_cons_mk (Below.trod laidOut (by kernel_rfl) (of_decide_eq_true (by kernel_rfl)) k0 bel lt0) trodAll_mk0), Below.trodVars laidOut bel (by kernel_rfl) hV, bel.frame _, fun h => by cases h⟩

theorem over : Rows.fnExactTermsTextRow.holds Tryz.pinned (OpenSpec.ofChange Rows.fnExactTermsTextSpec) :=
  OpenClaim.holds_of_wide 6 Tryz.f6 rfl rfl rfl rfl rfl rfl rfl ⟨rfl, rfl, rfl, rfl, rfl⟩ rfl rfl rfl rfl rfl (by kernel_rfl) Tryz.func6 closedF
    (of_decide_eq_true (by kernel_rfl)) (by unfold Func.isWrapper; first | (rw [if_pos (by decide +kernel)]; kernel_rfl) | (rw [if_neg (by decide +kernel)]; exact ⟨rfl, rfl⟩))
    (fun os started H enc _ => lifted os started H enc)

theorem plainF (f : FuncId) (fn : Func) (hf : Tryz.pinned.checked.prog.funcNamed "loop.example/g00447/laws.FnExactTermsText" = some f) (hfn : Tryz.pinned.checked.prog.funcs[f]? = some fn) :
    true = Tryz.pinned.checked.prog.looks [] ∧ ∀ (j : Nat) t, fn.params[j]? = some t → Tryz.pinned.checked.prog.wantsStandIn t = false := by
  obtain rfl : f = 6 := Option.some.inj ((show Tryz.prog.funcNamed "loop.example/g00447/laws.FnExactTermsText" = some 6 by kernel_rfl).symm.trans hf) |>.symm
  obtain rfl : fn = Tryz.f6 := (Option.some.inj (Tryz.func6.symm.trans hfn)).symm
  refine ⟨jzLooks, fun j t ht => ?_⟩
  rw [Tryz.params6] at ht
  have hm : t ∈ [58] := by simpa using Array.mem_of_getElem? ht
  have hall : ([58].all fun u => !Tryz.prog.wantsStandIn u) = true := by kernel_rfl
  exact (show Tryz.prog.wantsStandIn t = false by simpa using List.all_eq_true.1 hall t hm)
end Go.Proofs.YthmimalplpjghaaGreatDoor.fnExactTermsText

namespace Go.Proofs.YthmimalplpjghaaGreatDoor
/-- THE TIED CARD. -/
theorem fnExactTermsText_card : Rows.FnExactTermsTextCardSaid :=
  Claim7.holds_tied_plain_at .later [] _ _ _ _ fnExactTermsText.over (fun _ h => by cases h) fnExactTermsText.byText (fun _ h => by cases h) fnExactTermsText_row_tie rfl ⟨rfl, rfl⟩ jzMain rfl fnExactTermsText.plainF fnExactTermsText.goesF
end Go.Proofs.YthmimalplpjghaaGreatDoor
