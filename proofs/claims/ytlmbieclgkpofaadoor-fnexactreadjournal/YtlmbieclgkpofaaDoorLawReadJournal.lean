/- ReadJournal answers as the model at every slice of bytes, writes into none of it, and its answer is new memory: the law returns true, whatever the input; the condition: the table kindHas lies in its variable, which the card ties to the program's text. -/
import Derived.Test.YtlmbieclgkpofaaDoorCards
import Derived.Test.YtlmbieclgkpofaaDoorTie
import Derived.Test.YtlmbieclgkpofaaDoorJrx
import Derived.WalkKit
import Derived.ProofKit
import Derived.OpenShut
import Derived.ShutString
import Derived.ChangeOld
import Derived.Below
import Derived.LaidMore
import Derived.OpenVars
import Derived.Stop.Joined
import Derived.Lib.LaidTab
import Derived.Stop.LaidErr
namespace Go.Proofs.YtlmbieclgkpofaaDoor.fnExactReadJournal
open Go.ChangeShapes Go.WideShapes Go.ChangeAt Go.WideMaps Go.WideElems Go.RowKit
open Go.ChangeMaps (open_string shut_string)
set_option linter.unusedVariables false

theorem own : ownKnob Tryd.prog.godebug = none := by kernel_rfl
theorem laidOut : laidOutB Tryd.prog = true := by kernel_rfl
theorem g8 : Tryd.prog.globalNamed "loop.example/g00447/impl.kindHas" = some 0 := by kernel_rfl
theorem gt8 : (Tryd.prog.globals[0]?).map (·.type) = some 65 := by kernel_rfl
theorem c8 : Tryd.prog.cellsOf 65 = 8 := by kernel_rfl
theorem cellsB : Tryd.prog.cellsOf 2 = 1 := by kernel_rfl

/-- The door's own heap meets the condition: closed facts. -/
theorem door_met (os : Os) (args : Array Value) : laidMetH Tryd.prog Rows.fnExactReadJournalRow.laid ((World.doorLaid Tryd.prog 400 os).forCall (fun _ _ => 0) ⟨#[], args, []⟩).memory :=
  laidMetH_of_parts3 (fuel := 8) (laidMet_of_run' 8 (by kernel_rfl) (by kernel_rfl)) (by kernel_rfl) (by kernel_rfl)

/-- WHAT THE ROW LISTS GIVES THE WALK: the table lies in its variable. -/
theorem of_laid8 {W : World} (h : laidMetH Tryd.prog Rows.fnExactReadJournalRow.laid W) : TabH8 W := fun v hv => by
  have ht : Lib.TabIs Tryd.prog W "loop.example/g00447/impl.kindHas" .i64 khZ := Lib.tabIs_of_head (rest := []) g8 gt8 Tryd.underlying65 Tryd.underlying2 cellsB c8 h
  rw [ht.cell g8 v hv]

/-! ### THE WALK -/
set_option maxHeartbeats 1600000 in
set_option maxRecDepth 100000 in
theorem walk (a0 : Option Addr) (len0 cap0 : Nat) (z0 : List Int) (w : World) (w0 : IsRow .u8 w a0 len0 cap0 z0) (ht8 : TabH8 w) :
    Calls Tryd.prog 7 #[.slice a0 len0 cap0] w fun e w' => e = .returned (.bool true) ∧ Below w.heap.size w w' := by
  obtain ⟨l, hl, hBl, hr, hmax⟩ := w0.rd
  by_cases hbig : 1048576 < len0
  · have hb' : (1048576 : Int) < (len0 : Int) := by omega
    go_enter Tryd.func7, Tryd.ntmps7
    go_wp2
    go_ret
    exact ⟨rfl, Below.refl _ _⟩
  have hb' : ¬ (1048576 : Int) < (len0 : Int) := by omega
  have hn : len0 ≤ 1048576 := by omega
  have hmx : len0 ≤ maxLen := by unfold maxLen; omega
  have HRA : Hid (∀ w', Below w.heap.size w w' → Rd w' a0 l ∧ TabH8 w') := fun w' hb => ⟨hr.below hb, ht8.below hb⟩
  have HSP : Hid (∀ (g : Nat) (w : World), Rd w (some ⟨g, 0, none⟩) l → Calls Tryd.prog 33 #[.slice (some ⟨g, 0, none⟩) len0 len0] w fun e w' => JrEnd (jV l) w e w') := fun g w h => by
    exact specReadJournal_any _ _ _ l w hl (Nat.le_refl _) hmx h hBl
  have HIM : Hid (∀ (g : Nat) (w : World), Rd w (some ⟨g, 0, none⟩) l → TabH8 w → Calls Tryd.prog 34 #[.slice (some ⟨g, 0, none⟩) len0 len0] w fun e w' => JrEnd (jV l) w e w') := fun g w h ht => readJournal_any _ _ _ l w hl (Nat.le_refl _) hmx h hBl ht
  have hft := jV_fts l
  have hn5 := jV_len14 l
  have HKL : Hid (∀ j, j ≤ (jV l).2.2.length → 1 ≤ kJ ((jV l).2.2.take j) ∧ kJ ((jV l).2.2.take j) ≤ 500000) := fun j hj => by
    have := kJ_le (fun i hi => (jV_ft l i hi).2) j hj
    omega
  generalize jV l = rv at *
  obtain ⟨c, u, os⟩ := rv
  dsimp only at hft hn5 HKL HSP HIM
  have HTB : Hid (∀ w', Below w.heap.size w w' → Calls Tryd.prog 20 #[.slice a0 len0 cap0] w' fun e w'' => e = .returned (.slice (some ⟨w'.heap.size, 0, none⟩) len0 len0) ∧ w''.ownsRow w'.heap.size 5 1 (.slice (some ⟨w'.heap.size, 0, none⟩) len0 len0) len0 (bc l) ∧ Below w'.heap.size w' w'') := fun w' hb => toByteS_any a0 len0 cap0 l w' hl (HRA.out w' hb).1 hn
  clear hr ht8
  go_enter Tryd.func7, Tryd.ntmps7
  go_wp2_with fail
  refine (HTB.out w (Below.refl _ _)).mono ?_
  rintro e w1 ⟨rfl, ho1, hb1⟩
  go_wp2_with fail
  refine (HSP.out _ w1 (Rd.own ho1)).mono ?_
  rintro e w2 ⟨v2, rfl, hop2, hb2⟩
  obtain ⟨a2, cp2, rfl, -, -⟩ := id hop2.form
  dsimp only at hop2 ⊢
  have hB2 := hb1.trans (hb2.mono hb1.size)
  obtain ⟨W3, hW3⟩ : ∃ W3, w2.alloc (.cells #[.int .i64 c, .int .i64 (u : Int), .slice a2 os.length cp2] 56) = W3 := ⟨_, rfl⟩
  have b3 : Below w2.heap.size w2 W3 := by rw [← hW3]; exact (Below.refl _ _).alloc (Nat.le_refl _) _
  have s3 : W3.heap.size = w2.heap.size + 1 := by rw [← hW3]; simp
  have t3 : Tq W3 w2.heap.size c u (.slice a2 os.length cp2) := by rw [← hW3]; exact Tq.new _ _ _ _ _
  have hB3 := hB2.trans (b3.mono hB2.size)
  have HY : Hid (∀ w', Below W3.heap.size W3 w' → Tq w' w2.heap.size c u (.slice a2 os.length cp2) ∧ IsOs w1.heap.size w' (a2, os.length, cp2) os) := fun w' hb => ⟨t3.below hb (by omega), ((hop2.below b3).below hb).os⟩
  have HW3 : Hid (∀ w', Below W3.heap.size W3 w' → Below w.heap.size w w') := fun w' hb => hB3.trans (hb.mono hB3.size)
  have HS3 : Hid (W3.heap.size = w2.heap.size + 1) := s3
  have hTB3 := HTB.out W3 hB3
  clear ho1 hb1 hb2 hB2 b3 s3 t3 hop2 hB3
  go_wp2_with fail
  generalize w2.heap.size = g3 at *
  refine hTB3.mono ?_
  rintro e w4 ⟨rfl, ho4, hb4'⟩
  have hlt4 : W3.heap.size < w4.heap.size := by
    have := (ho4.lt W3.heap.size rfl).2
    exact this
  have hrd4 := Rd.own ho4
  have hWr4 := WrQ.own ho4 (Nat.le_refl _)
  have hIM4 := HIM.out _ w4 hrd4 (HRA.out w4 (HW3.out w4 hb4')).2
  clear hTB3
  go_wp2_with fail
  refine hIM4.mono ?_
  rintro e w5 ⟨v5, rfl, hop5, hb5⟩
  obtain ⟨a5, cp5, rfl, -, -⟩ := id hop5.form
  dsimp only at hop5 ⊢
  have hz5 : w4.heap.size ≤ w5.heap.size := hb5.size
  obtain ⟨W6, hW6⟩ : ∃ W6, w5.alloc (.cells #[.int .i64 c, .int .i64 (u : Int), .slice a5 os.length cp5] 56) = W6 := ⟨_, rfl⟩
  have b6 : Below w5.heap.size w5 W6 := by rw [← hW6]; exact (Below.refl _ _).alloc (Nat.le_refl _) _
  have s6 : W6.heap.size = w5.heap.size + 1 := by rw [← hW6]; simp
  have t6 : Tq W6 w5.heap.size c u (.slice a5 os.length cp5) := by rw [← hW6]; exact Tq.new _ _ _ _ _
  have hB36 : Below W3.heap.size W3 W6 := hb4'.trans ((hb5.trans (b6.mono hz5)).mono (by omega))
  have hB46 : Below w4.heap.size w4 W6 := hb5.trans (b6.mono hz5)
  have hop6 := hop5.below b6
  have hrc5 := hop5.rc rfl
  have HX : Hid (∀ w', Below W6.heap.size W6 w' → Tq w' w5.heap.size c u (.slice a5 os.length cp5) ∧ RwO w' w4.heap.size (.slice a5 os.length cp5) os ∧ RwC w' w4.heap.size w5.heap.size a5 os.length os ∧ Rd w' (some ⟨W3.heap.size, 0, none⟩) l ∧ WrQ W3.heap.size w' (some ⟨W3.heap.size, 0, none⟩, len0, len0)) := fun w' hb => ⟨t6.below hb (by omega), hop6.below hb, (hrc5.keep b6.size (fun g i h1 h2 => ⟨b6.cell (p := ⟨g, i, none⟩) h2, b6.frozen (p := ⟨g, i, none⟩) h2⟩)).keep hb.size (fun g i h1 h2 => ⟨hb.cell (p := ⟨g, i, none⟩) h2, hb.frozen (p := ⟨g, i, none⟩) h2⟩), (hrd4.below hB46).below hb, (hWr4.below hB46).below hb⟩
  have HS6 : Hid (W6.heap.size = w5.heap.size + 1) := s6
  obtain ⟨t6', hop6', -⟩ := HX.out W6 (Below.refl _ _)
  obtain ⟨t3', hop3'⟩ := HY.out W6 hB36
  obtain ⟨x0, x1, x2⟩ := t6'
  obtain ⟨y0, y1, y2⟩ := t3'
  have HEQ6 := eqOpsResult_same c u (a5, os.length, cp5) (a2, os.length, cp2) os W6 hop6'.os hop3' hft
  clear hIM4 ho4 hb4' hrd4 hWr4 hop5 hrc5 hb5 b6 s6 t6 hop6 hop6' hop3'
  go_wp2_with fail
  generalize w5.heap.size = g6 at *
  refine HEQ6.mono ?_
  rintro e w7 ⟨rfl, hb7⟩
  have hB37 := hB36.trans (hb7.mono hB36.size)
  have hTB7 := HTB.out w7 (HW3.out w7 hB37)
  clear HEQ6 x0 x1 x2 y0 y1 y2
  go_wp2_with fail
  refine hTB7.mono ?_
  rintro e w8 ⟨rfl, ho8, hb8⟩
  have hB68 := hb7.trans (hb8.mono hb7.size)
  have hB38 := hB37.trans (hb8.mono hB37.size)
  have HEB := eqByteS_same (some ⟨W3.heap.size, 0, none⟩) (some ⟨w7.heap.size, 0, none⟩) len0 len0 len0 l w8 hl (HX.out w8 hB68).2.2.2.1 (Rd.own ho8) hn
  clear hTB7 hb7 hb8 ho8 hB37
  go_wp2_with fail
  refine HEB.mono ?_
  rintro e w9 ⟨rfl, hb9⟩
  have hB69 := hB68.trans (hb9.mono hB68.size)
  have hB39 := hB38.trans (hb9.mono hB38.size)
  obtain ⟨t9, hop9, hrc9, -, hwr9⟩ := HX.out w9 hB69
  have hz69 : W6.heap.size ≤ w9.heap.size := hB69.size
  have HMB := markByteS_mj (some ⟨W3.heap.size, 0, none⟩) W3.heap.size len0 len0 1 W3.heap.size (W3.heap.size + 1) w9 (.inr rfl) (Nat.le_refl _) (Nat.lt_succ_self _) (by
    rcases hwr9 with h | ⟨g, e, -, -, h⟩
    · exact fun i hi => by dsimp only at h; omega
    · cases e; exact h) hn (by omega)
  rw [show ((1 : Nat) : Int) = 1 from rfl] at HMB
  clear HEB hb9 hB68 hB38 HX
  go_wp2_with fail
  refine HMB.mono ?_
  rintro e w10 ⟨rfl, hm10, -⟩
  have hB310 := hB39.trans hm10.1
  have hge : ∀ x : Addr, W3.heap.size < x.block → w10.cell? x = w9.cell? x := fun x hx => hm10.2.1 x hx
  have hg64 : W3.heap.size < g6 := by omega
  have t10 : Tq w10 g6 c u (.slice a5 os.length cp5) := t9.same (fun i => hge ⟨g6, i, none⟩ hg64)
  have hg6l : g6 < w10.heap.size := t10.lt
  have hop10 : IsOs w4.heap.size w10 (a5, os.length, cp5) os := hop9.os.near ⟨hm10.1.size, fun x h1 _ => hge x (by omega)⟩
  have hrc10 : RwC w10 w4.heap.size g6 a5 os.length os := hrc9.keep hm10.1.size (fun g i h1 h2 => ⟨hge ⟨g, i, none⟩ (by show _ < g; omega), hm10.2.2.2 _⟩)
  obtain ⟨kk, hkk⟩ : ∃ kk : Nat, 1 + len0 = kk := ⟨_, rfl⟩
  rw [hkk]
  have hkp : ¬ (kk : Int) < 0 := by omega
  obtain ⟨t3', hop3'⟩ := HY.out w10 hB310
  obtain ⟨x0, x1, x2⟩ := id t10
  obtain ⟨y0, y1, y2⟩ := t3'
  have HEQ := eqOpsResult_same c u (a5, os.length, cp5) (a2, os.length, cp2) os w10 hop10 hop3' hft
  clear HMB hm10 hge t9 hop9 hrc9 hwr9 hB69 hB39 hkk hop3'
  go_wp2_with fail
  refine HEQ.mono ?_
  rintro e w11 ⟨rfl, hb11⟩
  have hB311 := hB310.trans (hb11.mono hB310.size)
  have t11 := t10.below hb11 hg6l
  have hz11 : w10.heap.size ≤ w11.heap.size := hb11.size
  have hrc11 : RwC w11 w4.heap.size g6 a5 os.length os := hrc10.keep hb11.size (fun g i h1 h2 => ⟨hb11.cell (p := ⟨g, i, none⟩) h2, hb11.frozen (p := ⟨g, i, none⟩) h2⟩)
  have hW11 : w4.heap.size ≤ w11.heap.size := by omega
  have HMO := markOpsResult_hd c u a5 os.length cp5 w4.heap.size g6 os w11 hrc11 rfl (by omega) HKL.out hW11
  clear HEQ x0 x1 x2 y0 y1 y2 t10 hop10 hrc10 hb11 hB310
  obtain ⟨x0, x1, x2⟩ := id t11
  go_wp2_with fail
  refine HMO.mono ?_
  rintro e w12 ⟨rfl, hm12, hge12, bb, hri, hrb, hhd⟩
  have hB312 := hB311.trans (hm12.mono (by omega))
  have hg6m : g6 < w11.heap.size := by omega
  have t12 : Tq w12 g6 c u (.slice a5 os.length cp5) := t11.same (fun i => hge12 g6 i (Nat.le_refl _) hg6m)
  have hg6n : g6 < w12.heap.size := t12.lt
  have HZ : Hid (∀ w', Below w12.heap.size w12 w' → Tq w' g6 c u (.slice a5 os.length cp5) ∧ (os.length = 0 ∨ bb < w'.heap.size) ∧ (∀ j, j < os.length → ∃ p, HdJ w' bb (nthO os j) (kJ (os.take j)) j p) ∧ Below W3.heap.size W3 w') := fun w' hb => ⟨t12.below hb hg6n, hrb.imp id (fun h => Nat.lt_of_lt_of_le h hb.size), fun j hj => by
    obtain ⟨p, c0, c1, c2, c3, c4, c5, c6, c7, hu, hd, n1, n2⟩ := hhd j hj
    have hbl : bb < w12.heap.size := hrb.resolve_left (by omega)
    have e : ∀ f, w'.cell? ⟨bb, f, none⟩ = w12.cell? ⟨bb, f, none⟩ := fun f => hb.cell (p := ⟨bb, f, none⟩) hbl
    exact ⟨p, (e _).trans c0, (e _).trans c1, (e _).trans c2, (e _).trans c3, (e _).trans c4, (e _).trans c5, (e _).trans c6, (e _).trans c7, hu.below hb, hd.below hb, n1, n2⟩, hB312.trans (hb.mono hB312.size)⟩
  have HHD : Hid (∀ w', Below w12.heap.size w12 w' → Calls Tryd.prog 37 #[.agg #[.int .i64 c, .int .i64 (u : Int), .slice a5 os.length cp5], .int .i64 1] w' fun e w'' => e = .returned (.int .i64 (kJ os : Int)) ∧ Below w'.heap.size w' w'') := fun w' hb => heldOpsResult_hd c u a5 bb os.length cp5 os w' hri (HZ.out w' hb).2.1 rfl (by omega) (HZ.out w' hb).2.2.1 HKL.out
  generalize kJ os = kr at *
  have hkr : ¬ (kr : Int) < 0 := by omega
  clear HMO x0 x1 x2 t11 hm12 hge12 hri hrb hhd hrc11 hB311 hB312
  obtain ⟨x0, x1, x2⟩ := id t12
  go_wp2_with fail
  refine (HHD.out w12 (Below.refl _ _)).mono ?_
  rintro e w13 ⟨rfl, hb13⟩
  have hTB13 := HTB.out w13 (HW3.out w13 (HZ.out w13 hb13).2.2.2)
  clear x0 x1 x2 t12
  go_wp2_with fail
  refine hTB13.mono ?_
  rintro e w14 ⟨rfl, ho14, hb14⟩
  have hB14 := hb13.trans (hb14.mono hb13.size)
  have hIM14 := HIM.out _ w14 (Rd.own ho14) (HRA.out w14 (HW3.out w14 (HZ.out w14 hB14).2.2.2)).2
  clear hTB13 hb13 hb14 ho14
  go_wp2_with fail
  refine hIM14.mono ?_
  rintro e w15 ⟨v15, rfl, hop15, hb15⟩
  obtain ⟨a15, cp15, rfl, -, -⟩ := id hop15.form
  dsimp only at hop15 ⊢
  have hB15 := hB14.trans (hb15.mono hB14.size)
  obtain ⟨W16, hW16⟩ : ∃ W16, w15.alloc (.cells #[.int .i64 c, .int .i64 (u : Int), .slice a15 os.length cp15] 56) = W16 := ⟨_, rfl⟩
  have b16 : Below w15.heap.size w15 W16 := by rw [← hW16]; exact (Below.refl _ _).alloc (Nat.le_refl _) _
  have t16 : Tq W16 w15.heap.size c u (.slice a15 os.length cp15) := by rw [← hW16]; exact Tq.new _ _ _ _ _
  have hB16 := hB15.trans (b16.mono hB15.size)
  obtain ⟨t3', hop3'⟩ := HY.out W16 (HZ.out W16 hB16).2.2.2
  have HEQ16 := eqOpsResult_same c u (a15, os.length, cp15) (a2, os.length, cp2) os W16 (hop15.below b16).os hop3' hft
  obtain ⟨x0, x1, x2⟩ := t16
  obtain ⟨y0, y1, y2⟩ := t3'
  clear hIM14 hop15 hb15 hB14 hB15 b16 hop3'
  go_wp2_with fail
  refine HEQ16.mono ?_
  rintro e w17 ⟨rfl, hb17⟩
  have hB17 := hB16.trans (hb17.mono hB16.size)
  have t17 := (HZ.out w17 hB17).1
  clear HEQ16 x0 x1 x2 y0 y1 y2 hB16 hb17
  obtain ⟨x0, x1, x2⟩ := t17
  go_wp2_with fail
  refine (HHD.out w17 hB17).mono ?_
  rintro e w18 ⟨rfl, hb18⟩
  have hBend := HW3.out w18 (HZ.out w18 (hB17.trans (hb18.mono hB17.size))).2.2.2
  clear x0 x1 x2 HHD HZ
  go_wp2
  go_ret
  exact ⟨rfl, hBend⟩

/-! ### THE ROW's STEP -/
set_option maxRecDepth 100000 in
theorem lifted (os : Os) (started : os.Started) (H : Type) (enc : TypeId × Value → H) :
    ReturnsInHanded {} Tryd.checked os 7 .any (fun w args => (Rows.fnExactReadJournalSpec.pre enc Tryd.prog Tryd.f7 [] false w args ∧ laidMetH Tryd.prog Rows.fnExactReadJournalRow.laid w) ∧ sizedMet enc Tryd.prog Tryd.f7 (OpenSpec.ofChange Rows.fnExactReadJournalSpec) false w args)
      (Rows.fnExactReadJournalSpec.post enc Tryd.prog Tryd.f7 false true false false) := by
  refine returnsInHanded_of_change_and (C := Tryd.checked) (X := fun w _ => laidMetH Tryd.prog Rows.fnExactReadJournalRow.laid w) (fun _ _ _ hh h => h.of_heap hh) own started (by kernel_rfl) Tryd.func7
    (ChangeSpec.witness_shaped (enc := enc) (C := Tryd.checked) (os := os) (X := fun w _ => laidMetH Tryd.prog Rows.fnExactReadJournalRow.laid w) false (World.doorLaid Tryd.prog 400 os) #[.slice none 0 0] 8 rfl (World.shaped_of_RefB (by kernel_rfl) (by kernel_rfl)) (by kernel_rfl) (by kernel_rfl) (by kernel_rfl) (door_met os _)) ?_
  intro W base args ds gs before hval0 hW _ _ hL _
  have hval : ∀ (j : Nat) t v, Tryd.f7.params[j]? = some t → args[j]? = some v → Value.okWide Tryd.prog W .any base t v := hval0
  have hW' := hW
  obtain ⟨p, q, hA0, hV, rfl, hfz, hnd⟩ := hW
  have hA : DataW.TrodAll enc Tryd.prog W 0 (fun _ => true) true Tryd.f7.params.toList args.toList ds p := hA0
  rw [Tryd.params7] at hA hval
  obtain ⟨v0, vs0, d0, ds0, p0, q0, hargs, rfl, rfl, h0, r0⟩ := trodAll_cons hA
  obtain ⟨rfl, rfl, rfl⟩ := trodAll_nil r0
  obtain rfl : args = #[v0] := by cases args; simp_all
  obtain ⟨a0, len0, cap0, rfl⟩ := okWide_slice Tryd.underlying23 (hval 0 23 v0 rfl rfl)
  have k0 := h0
  have lt0 : ∀ x ∈ p0, x.block < W.heap.size := by obtain ⟨m, hm⟩ := k0; exact DataW.trod_lt m _ _ _ hm
  obtain ⟨z0, w0⟩ : ∃ zs, IsRow .u8 W a0 len0 cap0 zs := by
    obtain ⟨fuel, hf⟩ := h0
    rcases open_ints Tryd.underlying23 Tryd.underlying5 (by kernel_rfl) hf with ⟨hcs, _⟩ | ⟨x, l, c, zs, hcs, _, hl, hm, hz, _, hcell, hwz⟩
    · simp [Value.cells] at hcs
      obtain ⟨rfl, rfl, rfl⟩ := hcs
      exact ⟨[], .inl ⟨rfl, rfl, rfl, rfl⟩⟩
    · simp [Value.cells] at hcs
      obtain ⟨rfl, rfl, rfl⟩ := hcs
      exact ⟨zs, .inr ⟨_, rfl, hl, hm, by simpa using hz, hcell, hwz⟩⟩
  obtain ⟨dv, rfl⟩ : ∃ d, gs = [d] := by obtain ⟨_, _, _, _, d, _, e, _⟩ := trodVars_one (n := "loop.example/g00447/impl.kindHas") hV; exact ⟨d, e⟩
  clear hA0 hval0
  refine (walk a0 len0 cap0 z0 W w0 (of_laid8 hL)).mono fun e W' ⟨he, bel⟩ => ?_
  subst he
  exact ⟨_, rfl, _, _, _, [], _, _, hW', trodAll_mk1 (shut_bool Tryd.underlying4 _), (trodAll_cons_mk (Below.trod laidOut (by kernel_rfl) (of_decide_eq_true (by kernel_rfl)) k0 bel lt0) trodAll_mk0), Below.trodVars laidOut bel (by kernel_rfl) hV, bel.frame _, fun h => by cases h⟩

theorem over : Rows.fnExactReadJournalRow.holds Tryd.pinned (OpenSpec.ofChange Rows.fnExactReadJournalSpec) :=
  OpenClaim.holds_of_wide 7 Tryd.f7 rfl rfl rfl rfl rfl rfl rfl ⟨rfl, rfl, rfl, rfl, rfl⟩ rfl rfl rfl rfl rfl (by kernel_rfl) Tryd.func7 (by kernel_rfl)
    (of_decide_eq_true (by kernel_rfl)) (by unfold Func.isWrapper; first | (rw [if_pos (by decide +kernel)]; kernel_rfl) | (rw [if_neg (by decide +kernel)]; exact ⟨rfl, rfl⟩))
    (fun os started H enc _ => lifted os started H enc)

theorem plainF (f : FuncId) (fn : Func) (hf : Tryd.pinned.checked.prog.funcNamed "loop.example/g00447/laws.FnExactReadJournal" = some f) (hfn : Tryd.pinned.checked.prog.funcs[f]? = some fn) :
    false = Tryd.pinned.checked.prog.looks [] ∧ ∀ (j : Nat) t, fn.params[j]? = some t → Tryd.pinned.checked.prog.wantsStandIn t = false := by
  obtain rfl : f = 7 := Option.some.inj ((show Tryd.prog.funcNamed "loop.example/g00447/laws.FnExactReadJournal" = some 7 by kernel_rfl).symm.trans hf) |>.symm
  obtain rfl : fn = Tryd.f7 := (Option.some.inj (Tryd.func7.symm.trans hfn)).symm
  refine ⟨by kernel_rfl, fun j t ht => ?_⟩
  rw [Tryd.params7] at ht
  have hm : t ∈ [23] := by simpa using Array.mem_of_getElem? ht
  have hall : ([23].all fun u => !Tryd.prog.wantsStandIn u) = true := by kernel_rfl
  exact (show Tryd.prog.wantsStandIn t = false by simpa using List.all_eq_true.1 hall t hm)
end Go.Proofs.YtlmbieclgkpofaaDoor.fnExactReadJournal

namespace Go.Proofs.YtlmbieclgkpofaaDoor
/-- THE TIED CARD. -/
theorem fnExactReadJournal_card : Rows.FnExactReadJournalCardSaid :=
  Claim7.holds_tied_plain_at .later [] _ _ _ _ fnExactReadJournal.over (fun _ h => by cases h) (by kernel_rfl) (fun _ h => by cases h) fnExactReadJournal_row_tie rfl ⟨rfl, rfl⟩ (by kernel_rfl) rfl fnExactReadJournal.plainF (by kernel_rfl)
end Go.Proofs.YtlmbieclgkpofaaDoor
