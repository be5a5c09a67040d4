/- The fault of an op: the program's, whole; the condition: the table of what each kind has lies in its variable. -/
import Derived.Test.YtdcgihcjiiemdaaDoorOfv
import Derived.Test.YtdcgihcjiiemdaaDoorBmbToDr12
namespace Go.Proofs.YtdcgihcjiiemdaaDoor
open Go.RowKit List
set_option linter.unusedVariables false
def TabH8 (w : World) : Prop := ∀ v, v < 8 → w.cell? ⟨0, v, none⟩ = some (.int .i64 (khZ.getD v 0))
theorem TabH8.below {w w' : World} (h : TabH8 w) (hb : Below w.heap.size w w') : TabH8 w' := fun v hv =>
 (hb.cell (p := ⟨0, v, none⟩) (World.block_lt_of_cell? w ⟨0, 0, none⟩ (h 0 (by decide)))).trans (h v hv)
theorem fmK_bits1 : ∀ (p0 p1 p2 p3 p4 p5 : Bool), (Go.bits BinOp.andNot IntKind.i64 (bitZ p0 p1 p2 p3 p4 p5) 0 != 0) = !fmK 1 p0 p1 p2 p3 p4 p5 := by decide +kernel
theorem fmK_bits2 : ∀ (p0 p1 p2 p3 p4 p5 : Bool), (Go.bits BinOp.andNot IntKind.i64 (bitZ p0 p1 p2 p3 p4 p5) 0 != 0) = !fmK 2 p0 p1 p2 p3 p4 p5 := by decide +kernel
theorem fmK_bits3 : ∀ (p0 p1 p2 p3 p4 p5 : Bool), (Go.bits BinOp.andNot IntKind.i64 (bitZ p0 p1 p2 p3 p4 p5) 56 != 0) = !fmK 3 p0 p1 p2 p3 p4 p5 := by decide +kernel
theorem fmK_bits4 : ∀ (p0 p1 p2 p3 p4 p5 : Bool), (Go.bits BinOp.andNot IntKind.i64 (bitZ p0 p1 p2 p3 p4 p5) 14 != 0) = !fmK 4 p0 p1 p2 p3 p4 p5 := by decide +kernel
theorem fmK_bits5 : ∀ (p0 p1 p2 p3 p4 p5 : Bool), (Go.bits BinOp.andNot IntKind.i64 (bitZ p0 p1 p2 p3 p4 p5) 3 != 0) = !fmK 5 p0 p1 p2 p3 p4 p5 := by decide +kernel
theorem fmK_bits6 : ∀ (p0 p1 p2 p3 p4 p5 : Bool), (Go.bits BinOp.andNot IntKind.i64 (bitZ p0 p1 p2 p3 p4 p5) 3 != 0) = !fmK 6 p0 p1 p2 p3 p4 p5 := by decide +kernel
theorem fmK_bits7 : ∀ (p0 p1 p2 p3 p4 p5 : Bool), (Go.bits BinOp.andNot IntKind.i64 (bitZ p0 p1 p2 p3 p4 p5) 0 != 0) = !fmK 7 p0 p1 p2 p3 p4 p5 := by decide +kernel
set_option maxHeartbeats 3200000 in
set_option maxRecDepth 100000 in
theorem opFault_1 (ox0 ot0 : ByteArray) (ou0 : List Int) (om0 of0 od0 : Int) (ob0 : List Nat) (p : SlO) {lo : Nat} (w : World) (hs : IsOp lo w p ⟨1, ox0, ot0, ou0, om0, of0, od0, ob0⟩) (hT : TabH8 w) (hx : ox0.size ≤ 1048576) (ht : ot0.size ≤ 1048576) :
  Calls Tryd.prog 30 #[opX ⟨1, ox0, ot0, ou0, om0, of0, od0, ob0⟩ p] w fun e w' => e = .returned (.int .i64 (ofV ⟨1, ox0, ot0, ou0, om0, of0, od0, ob0⟩)) ∧ Below w.heap.size w w' := by
 have hu : ou0.length = p.1.2.1 := hs.1.1
 have hb : ob0.length = p.2.2.1 := hs.2.1
 have hm1 : p.1.2.1 ≤ maxLen := Nat.le_trans hs.1.2.1 hs.1.2.2.1
 have hm2 : p.2.2.1 ≤ maxLen := Nat.le_trans hs.2.2.1 hs.2.2.2.1
 have hV := ofV_eq ⟨1, ox0, ot0, ou0, om0, of0, od0, ob0⟩
 have hRG : rgV ⟨1, ox0, ot0, ou0, om0, of0, od0, ob0⟩ = (riU 0 ou0 && (!decide ((1 : Int) = 4) || bt om0 1 3) && bt of0 0 15 && bt od0 0 9999) := rfl
 have hFM : fmV ⟨1, ox0, ot0, ou0, om0, of0, od0, ob0⟩ = fmK 1 (h0B ⟨1, ox0, ot0, ou0, om0, of0, od0, ob0⟩) (h1B ⟨1, ox0, ot0, ou0, om0, of0, od0, ob0⟩) (h2B ⟨1, ox0, ot0, ou0, om0, of0, od0, ob0⟩) (h3B ⟨1, ox0, ot0, ou0, om0, of0, od0, ob0⟩) (h4B ⟨1, ox0, ot0, ou0, om0, of0, od0, ob0⟩) (h5B ⟨1, ox0, ot0, ou0, om0, of0, od0, ob0⟩) := rfl
 dsimp only at hV
 rw [hu, hb, ← hRG] at hV
 rw [show cpK (1 : Int) = false from rfl] at hV
 unfold maxLen at hm1 hm2
 have hb0 : Below w.heap.size w (w.alloc (.cells #[.int .i64 1, .string ox0, .string ot0, slW p.1, .int .i64 om0, .int .i64 of0, .int .i64 od0, slW p.2] 27)) := (Below.refl _ _).alloc (Nat.le_refl _) _
 have hQ : Qo (w.alloc (.cells #[.int .i64 1, .string ox0, .string ot0, slW p.1, .int .i64 om0, .int .i64 of0, .int .i64 od0, slW p.2] 27)) w.heap.size (opQ ⟨1, ox0, ot0, ou0, om0, of0, od0, ob0⟩ p) := Qo.new _ _ _ _ _ _ _ _ _ _
 have hs := hs.below hb0
 have hT := hT.below hb0
 have hTl : 0 < (w.alloc (.cells #[.int .i64 1, .string ox0, .string ot0, slW p.1, .int .i64 om0, .int .i64 of0, .int .i64 od0, slW p.2] 27)).heap.size := World.block_lt_of_cell? _ ⟨0, 0, none⟩ (hT 0 (by decide))
 have hT : (w.alloc (.cells #[.int .i64 1, .string ox0, .string ot0, slW p.1, .int .i64 om0, .int .i64 of0, .int .i64 od0, slW p.2] 27)).cell? ⟨0, 1, none⟩ = some (.int .i64 0) := hT 1 (by decide)
 have HB : ∀ w, Calls Tryd.prog 58 #[.int .i64 1, .int .i64 1, .int .i64 7] w fun e w' => e = .returned (.bool true) ∧ w = w' := isBetween_bt 1 1 7
 have HBI := fun (w' : World) (h : IsOp lo w' p ⟨1, ox0, ot0, ou0, om0, of0, od0, ob0⟩) => bitsOf_any ⟨1, ox0, ot0, ou0, om0, of0, od0, ob0⟩ p w' h
 have HBD := fun (w' : World) (h : IsOp lo w' p ⟨1, ox0, ot0, ou0, om0, of0, od0, ob0⟩) => hasBounds_any ⟨1, ox0, ot0, ou0, om0, of0, od0, ob0⟩ p w' h
 have HX := fun w => isBoxName_nm ox0 w hx
 have HTT := fun w => isBoxName_nm ot0 w ht
 have hA := fmK_bits1 (h0B ⟨1, ox0, ot0, ou0, om0, of0, od0, ob0⟩) (h1B ⟨1, ox0, ot0, ou0, om0, of0, od0, ob0⟩) (h2B ⟨1, ox0, ot0, ou0, om0, of0, od0, ob0⟩) (h3B ⟨1, ox0, ot0, ou0, om0, of0, od0, ob0⟩) (h4B ⟨1, ox0, ot0, ou0, om0, of0, od0, ob0⟩) (h5B ⟨1, ox0, ot0, ou0, om0, of0, od0, ob0⟩)
 rw [← hFM] at hA
 have HV : Hid (_) := hV
 clear hV hRG hFM hu hb
 generalize ofV ⟨1, ox0, ot0, ou0, om0, of0, od0, ob0⟩ = r at *
 generalize bitZ (h0B ⟨1, ox0, ot0, ou0, om0, of0, od0, ob0⟩) (h1B ⟨1, ox0, ot0, ou0, om0, of0, od0, ob0⟩) (h2B ⟨1, ox0, ot0, ou0, om0, of0, od0, ob0⟩) (h3B ⟨1, ox0, ot0, ou0, om0, of0, od0, ob0⟩) (h4B ⟨1, ox0, ot0, ou0, om0, of0, od0, ob0⟩) (h5B ⟨1, ox0, ot0, ou0, om0, of0, od0, ob0⟩) = bz at *
 generalize fmV ⟨1, ox0, ot0, ou0, om0, of0, od0, ob0⟩ = fm at *
 generalize rgV ⟨1, ox0, ot0, ou0, om0, of0, od0, ob0⟩ = rg at *
 generalize bnOk (txB ox0) = bx at *
 generalize bnOk (txB ot0) = btx at *
 have HA : Hid (_) := hA
 clear hA
 go_enter Tryd.func30, Tryd.ntmps30
 go_wp2_with fail
 generalize (w.alloc (.cells #[.int .i64 1, .string ox0, .string ot0, slW p.1, .int .i64 om0, .int .i64 of0, .int .i64 od0, slW p.2] 27)) = W at *
 cases fm with
 | false =>
  have HR : Hid (r = 1) := HV.out.trans (by simp)
  have hA' : ¬ Go.bits BinOp.andNot IntKind.i64 bz 0 = 0 := by have h := HA.out; simpa using h
  replace HA : Hid (¬ Go.bits BinOp.andNot IntKind.i64 bz 0 = 0) := hA'
  clear hA'
  clear HV
  refine wp_region_held_drew (S := fun w' => Qo w' w.heap.size (opQ ⟨1, ox0, ot0, ou0, om0, of0, od0, ob0⟩ p) ∧ w'.cell? ⟨0, 1, none⟩ = some (.int .i64 0)) (by kernel_rfl) ?hS1 (fun hHeld => ?_)
  case hS1 => exact ⟨hQ, hT⟩
  refine tk (i := 0) (v := ?_) rfl (Or.inl ⟨by rfl, ?hy2⟩) ?ty2
  case hy2 => (intro w hSw; obtain ⟨⟨e0, e1, e2, e3, e4, e5, e6, e7⟩, eT⟩ := hSw; dsimp only at e0 e1 e2 e3 e4 e5 e6 e7; go_simp; all_goals with_reducible rfl)
  simp only [Act.put, J1, J2, J4, J5, J6]
  refine tk (i := 1) (v := ?_) rfl (Or.inl ⟨by rfl, ?hy3⟩) ?ty3
  case hy3 => (intro w hSw; obtain ⟨⟨e0, e1, e2, e3, e4, e5, e6, e7⟩, eT⟩ := hSw; dsimp only at e0 e1 e2 e3 e4 e5 e6 e7; go_simp; all_goals with_reducible rfl)
  simp only [Act.put, J1, J2, J3, J4, J5, J6]
  refine wpAnyH_ready (rs := [2]) (by kernel_rfl) (by simp) ?_
  refine AllReadyH.cons rfl (fun K hK => ?_) AllReadyH.nil
  go_simp
  refine (HB _).mono ?_
  rintro e w1 ⟨rfl, rfl⟩
  refine hK.out _ _ ⟨hQ, hT⟩ (fun hHeld => ?_)
  clear hK K
  refine tk (i := 3) (v := ?_) rfl (Or.inl ⟨by rfl, ?hy4⟩) ?ty4
  case hy4 => (intro w hSw; obtain ⟨⟨e0, e1, e2, e3, e4, e5, e6, e7⟩, eT⟩ := hSw; dsimp only at e0 e1 e2 e3 e4 e5 e6 e7; go_simp; all_goals with_reducible rfl)
  simp only [Act.put, J1, J2, J3, J4, J5, J6]
  refine tk (i := 4) (v := ?_) rfl (Or.inl ⟨by rfl, ?hy5⟩) ?ty5
  case hy5 => (intro w hSw; obtain ⟨⟨e0, e1, e2, e3, e4, e5, e6, e7⟩, eT⟩ := hSw; dsimp only at e0 e1 e2 e3 e4 e5 e6 e7; go_simp; all_goals with_reducible rfl)
  simp only [Act.put, J1, J2, J3, J4, J5, J6]
  refine tk (i := 5) (v := ?_) rfl (Or.inl ⟨by rfl, ?hy6⟩) ?ty6
  case hy6 => (intro w hSw; obtain ⟨⟨e0, e1, e2, e3, e4, e5, e6, e7⟩, eT⟩ := hSw; dsimp only at e0 e1 e2 e3 e4 e5 e6 e7; go_simp; all_goals with_reducible rfl)
  simp only [Act.put, J1, J2, J3, J4, J5, J6]
  refine tk (i := 7) (v := ?_) rfl (Or.inl ⟨by rfl, ?hy7⟩) ?ty7
  case hy7 => (intro w hSw; obtain ⟨⟨e0, e1, e2, e3, e4, e5, e6, e7⟩, eT⟩ := hSw; dsimp only at e0 e1 e2 e3 e4 e5 e6 e7; go_simp; all_goals with_reducible rfl)
  simp only [Act.put, J1, J2, J3, J4, J5, J6]
  refine tk (i := 8) (v := ?_) rfl (Or.inl ⟨by rfl, ?hy8⟩) ?ty8
  case hy8 => (intro w hSw; obtain ⟨⟨e0, e1, e2, e3, e4, e5, e6, e7⟩, eT⟩ := hSw; dsimp only at e0 e1 e2 e3 e4 e5 e6 e7; go_simp; all_goals with_reducible rfl)
  simp only [Act.put, J1, J2, J3, J4, J5, J6]
  refine tk (i := 9) (v := ?_) rfl (Or.inl ⟨by rfl, ?hy9⟩) ?ty9
  case hy9 => (intro w hSw; obtain ⟨⟨e0, e1, e2, e3, e4, e5, e6, e7⟩, eT⟩ := hSw; dsimp only at e0 e1 e2 e3 e4 e5 e6 e7; go_simp; all_goals with_reducible rfl)
  simp only [Act.put, J1, J2, J3, J4, J5, J6]
  refine tk (i := 10) (v := ?_) rfl (Or.inl ⟨by rfl, ?hy10⟩) ?ty10
  case hy10 => (intro w hSw; obtain ⟨⟨e0, e1, e2, e3, e4, e5, e6, e7⟩, eT⟩ := hSw; dsimp only at e0 e1 e2 e3 e4 e5 e6 e7; go_simp; all_goals with_reducible rfl)
  simp only [Act.put, J1, J2, J3, J4, J5, J6]
  refine wpAnyH_ready (rs := [6]) (by kernel_rfl) (by simp) ?_
  refine AllReadyH.cons rfl (fun K hK => ?_) AllReadyH.nil
  go_simp
  refine (HBI _ (hs.below (Below.refl _ _).drew)).mono ?_
  rintro e w1 ⟨rfl, hb1⟩
  have hb1 : Below W.heap.size W w1 := (Below.refl _ _).drew.trans hb1
  have hQ1 := hQ.below hb1 hQ.lt
  have hT1 := (hb1.cell (p := ⟨0, 1, none⟩) hTl).trans hT
  refine hK.out _ _ ⟨hQ1, hT1⟩ (fun hHeld => ?_)
  clear hK K
  refine tk (i := 11) (v := ?_) rfl (Or.inl ⟨by rfl, ?hy11⟩) ?ty11
  case hy11 => (intro w hSw; obtain ⟨⟨e0, e1, e2, e3, e4, e5, e6, e7⟩, eT⟩ := hSw; dsimp only at e0 e1 e2 e3 e4 e5 e6 e7; go_simp; all_goals with_reducible rfl)
  simp only [Act.put, J1, J2, J3, J4, J5, J6]
  refine tk (i := 12) (v := .bool true) rfl (Or.inl ⟨by rfl, ?hy12⟩) ?ty12
  case hy12 => (intro w hSw; obtain ⟨⟨e0, e1, e2, e3, e4, e5, e6, e7⟩, eT⟩ := hSw; dsimp only at e0 e1 e2 e3 e4 e5 e6 e7; go_simp; exact HA.out)
  simp only [Act.put, J1, J2, J3, J4, J5, J6]
  refine tk (i := 13) (v := .bool true) rfl (Or.inl ⟨by rfl, ?hy13⟩) ?ty13
  case hy13 => (intro w hSw; obtain ⟨⟨e0, e1, e2, e3, e4, e5, e6, e7⟩, eT⟩ := hSw; dsimp only at e0 e1 e2 e3 e4 e5 e6 e7; go_simp; first | (simp; done) | (all_goals with_reducible rfl))
  simp only [Act.put, J1, J2, J3, J4, J5, J6]
  refine wpAnyH_done (by kernel_rfl) ?_ _
  clear hHeld
  go_wp2
  go_ret
  exact ⟨by rw [HR.out]; rfl, hb0.trans (hb1.mono hb0.size)⟩
 | true =>
  have hA' : Go.bits BinOp.andNot IntKind.i64 bz 0 = 0 := by have h := HA.out; simpa using h
  replace HA : Hid (Go.bits BinOp.andNot IntKind.i64 bz 0 = 0) := hA'
  clear hA'
  refine wp_region_held_drew (S := fun w' => Qo w' w.heap.size (opQ ⟨1, ox0, ot0, ou0, om0, of0, od0, ob0⟩ p) ∧ w'.cell? ⟨0, 1, none⟩ = some (.int .i64 0)) (by kernel_rfl) ?hS14 (fun hHeld => ?_)
  case hS14 => exact ⟨hQ, hT⟩
  refine tk (i := 0) (v := ?_) rfl (Or.inl ⟨by rfl, ?hy15⟩) ?ty15
  case hy15 => (intro w hSw; obtain ⟨⟨e0, e1, e2, e3, e4, e5, e6, e7⟩, eT⟩ := hSw; dsimp only at e0 e1 e2 e3 e4 e5 e6 e7; go_simp; all_goals with_reducible rfl)
  simp only [Act.put, J1, J2, J4, J5, J6]
  refine tk (i := 1) (v := ?_) rfl (Or.inl ⟨by rfl, ?hy16⟩) ?ty16
  case hy16 => (intro w hSw; obtain ⟨⟨e0, e1, e2, e3, e4, e5, e6, e7⟩, eT⟩ := hSw; dsimp only at e0 e1 e2 e3 e4 e5 e6 e7; go_simp; all_goals with_reducible rfl)
  simp only [Act.put, J1, J2, J3, J4, J5, J6]
  refine wpAnyH_ready (rs := [2]) (by kernel_rfl) (by simp) ?_
  refine AllReadyH.cons rfl (fun K hK => ?_) AllReadyH.nil
  go_simp
  refine (HB _).mono ?_
  rintro e w1 ⟨rfl, rfl⟩
  refine hK.out _ _ ⟨hQ, hT⟩ (fun hHeld => ?_)
  clear hK K
  refine tk (i := 3) (v := ?_) rfl (Or.inl ⟨by rfl, ?hy17⟩) ?ty17
  case hy17 => (intro w hSw; obtain ⟨⟨e0, e1, e2, e3, e4, e5, e6, e7⟩, eT⟩ := hSw; dsimp only at e0 e1 e2 e3 e4 e5 e6 e7; go_simp; all_goals with_reducible rfl)
  simp only [Act.put, J1, J2, J3, J4, J5, J6]
  refine tk (i := 4) (v := ?_) rfl (Or.inl ⟨by rfl, ?hy18⟩) ?ty18
  case hy18 => (intro w hSw; obtain ⟨⟨e0, e1, e2, e3, e4, e5, e6, e7⟩, eT⟩ := hSw; dsimp only at e0 e1 e2 e3 e4 e5 e6 e7; go_simp; all_goals with_reducible rfl)
  simp only [Act.put, J1, J2, J3, J4, J5, J6]
  refine tk (i := 5) (v := ?_) rfl (Or.inl ⟨by rfl, ?hy19⟩) ?ty19
  case hy19 => (intro w hSw; obtain ⟨⟨e0, e1, e2, e3, e4, e5, e6, e7⟩, eT⟩ := hSw; dsimp only at e0 e1 e2 e3 e4 e5 e6 e7; go_simp; all_goals with_reducible rfl)
  simp only [Act.put, J1, J2, J3, J4, J5, J6]
  refine tk (i := 7) (v := ?_) rfl (Or.inl ⟨by rfl, ?hy20⟩) ?ty20
  case hy20 => (intro w hSw; obtain ⟨⟨e0, e1, e2, e3, e4, e5, e6, e7⟩, eT⟩ := hSw; dsimp only at e0 e1 e2 e3 e4 e5 e6 e7; go_simp; all_goals with_reducible rfl)
  simp only [Act.put, J1, J2, J3, J4, J5, J6]
  refine tk (i := 8) (v := ?_) rfl (Or.inl ⟨by rfl, ?hy21⟩) ?ty21
  case hy21 => (intro w hSw; obtain ⟨⟨e0, e1, e2, e3, e4, e5, e6, e7⟩, eT⟩ := hSw; dsimp only at e0 e1 e2 e3 e4 e5 e6 e7; go_simp; all_goals with_reducible rfl)
  simp only [Act.put, J1, J2, J3, J4, J5, J6]
  refine tk (i := 9) (v := ?_) rfl (Or.inl ⟨by rfl, ?hy22⟩) ?ty22
  case hy22 => (intro w hSw; obtain ⟨⟨e0, e1, e2, e3, e4, e5, e6, e7⟩, eT⟩ := hSw; dsimp only at e0 e1 e2 e3 e4 e5 e6 e7; go_simp; all_goals with_reducible rfl)
  simp only [Act.put, J1, J2, J3, J4, J5, J6]
  refine tk (i := 10) (v := ?_) rfl (Or.inl ⟨by rfl, ?hy23⟩) ?ty23
  case hy23 => (intro w hSw; obtain ⟨⟨e0, e1, e2, e3, e4, e5, e6, e7⟩, eT⟩ := hSw; dsimp only at e0 e1 e2 e3 e4 e5 e6 e7; go_simp; all_goals with_reducible rfl)
  simp only [Act.put, J1, J2, J3, J4, J5, J6]
  refine wpAnyH_ready (rs := [6]) (by kernel_rfl) (by simp) ?_
  refine AllReadyH.cons rfl (fun K hK => ?_) AllReadyH.nil
  go_simp
  refine (HBI _ (hs.below (Below.refl _ _).drew)).mono ?_
  rintro e w1 ⟨rfl, hb1⟩
  have hb1 : Below W.heap.size W w1 := (Below.refl _ _).drew.trans hb1
  have hQ1 := hQ.below hb1 hQ.lt
  have hT1 := (hb1.cell (p := ⟨0, 1, none⟩) hTl).trans hT
  refine hK.out _ _ ⟨hQ1, hT1⟩ (fun hHeld => ?_)
  clear hK K
  refine tk (i := 11) (v := ?_) rfl (Or.inl ⟨by rfl, ?hy24⟩) ?ty24
  case hy24 => (intro w hSw; obtain ⟨⟨e0, e1, e2, e3, e4, e5, e6, e7⟩, eT⟩ := hSw; dsimp only at e0 e1 e2 e3 e4 e5 e6 e7; go_simp; all_goals with_reducible rfl)
  simp only [Act.put, J1, J2, J3, J4, J5, J6]
  refine tk (i := 12) (v := .bool false) rfl (Or.inl ⟨by rfl, ?hy25⟩) ?ty25
  case hy25 => (intro w hSw; obtain ⟨⟨e0, e1, e2, e3, e4, e5, e6, e7⟩, eT⟩ := hSw; dsimp only at e0 e1 e2 e3 e4 e5 e6 e7; go_simp; first | exact HA.out | (simp [HA.out]; done))
  simp only [Act.put, J1, J2, J3, J4, J5, J6]
  refine tk (i := 13) (v := .bool false) rfl (Or.inl ⟨by rfl, ?hy26⟩) ?ty26
  case hy26 => (intro w hSw; obtain ⟨⟨e0, e1, e2, e3, e4, e5, e6, e7⟩, eT⟩ := hSw; dsimp only at e0 e1 e2 e3 e4 e5 e6 e7; go_simp; first | (simp; done) | (all_goals with_reducible rfl))
  simp only [Act.put, J1, J2, J3, J4, J5, J6]
  refine wpAnyH_done (by kernel_rfl) ?_ _
  clear hHeld
  have hB1 := hb0.trans (hb1.mono hb0.size)
  have hs1 := hs.below hb1
  obtain ⟨c0, c1, c2, c3, c4, c5, c6, c7⟩ := id hQ1
  dsimp only at c0 c1 c2 c3 c4 c5 c6 c7
  clear hs hQ hT hTl hb0 hb1 HB HBI
  go_wp2_with fail
  refine (HX _).mono ?_
  rintro e w2 ⟨rfl, hb2⟩
  have hQ2 := hQ1.below hb2 hQ1.lt
  have hT2 := (hb2.cell (p := ⟨0, 1, none⟩) (World.block_lt_of_cell? _ ⟨0, 1, none⟩ hT1)).trans hT1
  have hs2 := hs1.below hb2
  have hB2 := hB1.trans (hb2.mono hB1.size)
  clear c0 c1 c2 c3 c4 c5 c6 c7 hQ1 hs1 hT1 hB1 hb2
  obtain ⟨c0, c1, c2, c3, c4, c5, c6, c7⟩ := id hQ2
  dsimp only at c0 c1 c2 c3 c4 c5 c6 c7
  cases bx with
  | false =>
   have HR : Hid (r = 5) := HV.out.trans (by simp)
   clear HV
   go_wp2
   go_ret
   exact ⟨by rw [HR.out]; rfl, hB2⟩
  | true =>
   by_cases hmany : 6 < p.1.2.1
   ·have hmi : (6 : Int) < (p.1.2.1 : Int) := by omega
    have HR : Hid (r = 2) := HV.out.trans (by simp [hmany])
    clear HV
    go_wp2
    go_ret
    exact ⟨by rw [HR.out]; rfl, hB2⟩
   ·have hmi : ¬ (6 : Int) < (p.1.2.1 : Int) := by omega
    go_wp2_with fail
    refine (HBD _ hs2).mono ?_
    rintro e w4 ⟨rfl, hb4⟩
    have hQ4 := hQ2.below hb4 hQ2.lt
    have hT4 := (hb4.cell (p := ⟨0, 1, none⟩) (World.block_lt_of_cell? _ ⟨0, 1, none⟩ hT2)).trans hT2
    have hs4 := hs2.below hb4
    have hB4 := hB2.trans (hb4.mono hB2.size)
    clear c0 c1 c2 c3 c4 c5 c6 c7 hQ2 hs2 hT2 hB2 hb4
    obtain ⟨c0, c1, c2, c3, c4, c5, c6, c7⟩ := id hQ4
    dsimp only at c0 c1 c2 c3 c4 c5 c6 c7
    cases rg with
    | false =>
     have HR : Hid (r = 3) := HV.out.trans (by simp [hmany])
     clear HV
     go_wp2
     go_ret
     exact ⟨by rw [HR.out]; rfl, hB4⟩
    | true =>
     by_cases h4 : 400 < p.2.2.1
     ·have h4i : (400 : Int) < (p.2.2.1 : Int) := by omega
      have HR : Hid (r = 2) := HV.out.trans (by simp [hmany, h4])
      clear HV
      go_wp2
      go_ret
      exact ⟨by rw [HR.out]; rfl, hB4⟩
     ·have h4i : ¬ (400 : Int) < (p.2.2.1 : Int) := by omega
      have HR : Hid (r = 0) := HV.out.trans (by simp [hmany, h4])
      clear HV
      go_wp2
      go_ret
      exact ⟨by rw [HR.out]; rfl, hB4⟩
set_option maxHeartbeats 3200000 in
set_option maxRecDepth 100000 in
theorem opFault_2 (ox0 ot0 : ByteArray) (ou0 : List Int) (om0 of0 od0 : Int) (ob0 : List Nat) (p : SlO) {lo : Nat} (w : World) (hs : IsOp lo w p ⟨2, ox0, ot0, ou0, om0, of0, od0, ob0⟩) (hT : TabH8 w) (hx : ox0.size ≤ 1048576) (ht : ot0.size ≤ 1048576) :
  Calls Tryd.prog 30 #[opX ⟨2, ox0, ot0, ou0, om0, of0, od0, ob0⟩ p] w fun e w' => e = .returned (.int .i64 (ofV ⟨2, ox0, ot0, ou0, om0, of0, od0, ob0⟩)) ∧ Below w.heap.size w w' := by
 have hu : ou0.length = p.1.2.1 := hs.1.1
 have hb : ob0.length = p.2.2.1 := hs.2.1
 have hm1 : p.1.2.1 ≤ maxLen := Nat.le_trans hs.1.2.1 hs.1.2.2.1
 have hm2 : p.2.2.1 ≤ maxLen := Nat.le_trans hs.2.2.1 hs.2.2.2.1
 have hV := ofV_eq ⟨2, ox0, ot0, ou0, om0, of0, od0, ob0⟩
 have hRG : rgV ⟨2, ox0, ot0, ou0, om0, of0, od0, ob0⟩ = (riU 0 ou0 && (!decide ((2 : Int) = 4) || bt om0 1 3) && bt of0 0 15 && bt od0 0 9999) := rfl
 have hFM : fmV ⟨2, ox0, ot0, ou0, om0, of0, od0, ob0⟩ = fmK 2 (h0B ⟨2, ox0, ot0, ou0, om0, of0, od0, ob0⟩) (h1B ⟨2, ox0, ot0, ou0, om0, of0, od0, ob0⟩) (h2B ⟨2, ox0, ot0, ou0, om0, of0, od0, ob0⟩) (h3B ⟨2, ox0, ot0, ou0, om0, of0, od0, ob0⟩) (h4B ⟨2, ox0, ot0, ou0, om0, of0, od0, ob0⟩) (h5B ⟨2, ox0, ot0, ou0, om0, of0, od0, ob0⟩) := rfl
 dsimp only at hV
 rw [hu, hb, ← hRG] at hV
 rw [show cpK (2 : Int) = false from rfl] at hV
 unfold maxLen at hm1 hm2
 have hb0 : Below w.heap.size w (w.alloc (.cells #[.int .i64 2, .string ox0, .string ot0, slW p.1, .int .i64 om0, .int .i64 of0, .int .i64 od0, slW p.2] 27)) := (Below.refl _ _).alloc (Nat.le_refl _) _
 have hQ : Qo (w.alloc (.cells #[.int .i64 2, .string ox0, .string ot0, slW p.1, .int .i64 om0, .int .i64 of0, .int .i64 od0, slW p.2] 27)) w.heap.size (opQ ⟨2, ox0, ot0, ou0, om0, of0, od0, ob0⟩ p) := Qo.new _ _ _ _ _ _ _ _ _ _
 have hs := hs.below hb0
 have hT := hT.below hb0
 have hTl : 0 < (w.alloc (.cells #[.int .i64 2, .string ox0, .string ot0, slW p.1, .int .i64 om0, .int .i64 of0, .int .i64 od0, slW p.2] 27)).heap.size := World.block_lt_of_cell? _ ⟨0, 0, none⟩ (hT 0 (by decide))
 have hT : (w.alloc (.cells #[.int .i64 2, .string ox0, .string ot0, slW p.1, .int .i64 om0, .int .i64 of0, .int .i64 od0, slW p.2] 27)).cell? ⟨0, 2, none⟩ = some (.int .i64 0) := hT 2 (by decide)
 have HB : ∀ w, Calls Tryd.prog 58 #[.int .i64 2, .int .i64 1, .int .i64 7] w fun e w' => e = .returned (.bool true) ∧ w = w' := isBetween_bt 2 1 7
 have HBI := fun (w' : World) (h : IsOp lo w' p ⟨2, ox0, ot0, ou0, om0, of0, od0, ob0⟩) => bitsOf_any ⟨2, ox0, ot0, ou0, om0, of0, od0, ob0⟩ p w' h
 have HBD := fun (w' : World) (h : IsOp lo w' p ⟨2, ox0, ot0, ou0, om0, of0, od0, ob0⟩) => hasBounds_any ⟨2, ox0, ot0, ou0, om0, of0, od0, ob0⟩ p w' h
 have HX := fun w => isBoxName_nm ox0 w hx
 have HTT := fun w => isBoxName_nm ot0 w ht
 have hA := fmK_bits2 (h0B ⟨2, ox0, ot0, ou0, om0, of0, od0, ob0⟩) (h1B ⟨2, ox0, ot0, ou0, om0, of0, od0, ob0⟩) (h2B ⟨2, ox0, ot0, ou0, om0, of0, od0, ob0⟩) (h3B ⟨2, ox0, ot0, ou0, om0, of0, od0, ob0⟩) (h4B ⟨2, ox0, ot0, ou0, om0, of0, od0, ob0⟩) (h5B ⟨2, ox0, ot0, ou0, om0, of0, od0, ob0⟩)
 rw [← hFM] at hA
 have HV : Hid (_) := hV
 clear hV hRG hFM hu hb
 generalize ofV ⟨2, ox0, ot0, ou0, om0, of0, od0, ob0⟩ = r at *
 generalize bitZ (h0B ⟨2, ox0, ot0, ou0, om0, of0, od0, ob0⟩) (h1B ⟨2, ox0, ot0, ou0, om0, of0, od0, ob0⟩) (h2B ⟨2, ox0, ot0, ou0, om0, of0, od0, ob0⟩) (h3B ⟨2, ox0, ot0, ou0, om0, of0, od0, ob0⟩) (h4B ⟨2, ox0, ot0, ou0, om0, of0, od0, ob0⟩) (h5B ⟨2, ox0, ot0, ou0, om0, of0, od0, ob0⟩) = bz at *
 generalize fmV ⟨2, ox0, ot0, ou0, om0, of0, od0, ob0⟩ = fm at *
 generalize rgV ⟨2, ox0, ot0, ou0, om0, of0, od0, ob0⟩ = rg at *
 generalize bnOk (txB ox0) = bx at *
 generalize bnOk (txB ot0) = btx at *
 have HA : Hid (_) := hA
 clear hA
 go_enter Tryd.func30, Tryd.ntmps30
 go_wp2_with fail
 generalize (w.alloc (.cells #[.int .i64 2, .string ox0, .string ot0, slW p.1, .int .i64 om0, .int .i64 of0, .int .i64 od0, slW p.2] 27)) = W at *
 cases fm with
 | false =>
  have HR : Hid (r = 1) := HV.out.trans (by simp)
  have hA' : ¬ Go.bits BinOp.andNot IntKind.i64 bz 0 = 0 := by have h := HA.out; simpa using h
  replace HA : Hid (¬ Go.bits BinOp.andNot IntKind.i64 bz 0 = 0) := hA'
  clear hA'
  clear HV
  refine wp_region_held_drew (S := fun w' => Qo w' w.heap.size (opQ ⟨2, ox0, ot0, ou0, om0, of0, od0, ob0⟩ p) ∧ w'.cell? ⟨0, 2, none⟩ = some (.int .i64 0)) (by kernel_rfl) ?hS27 (fun hHeld => ?_)
  case hS27 => exact ⟨hQ, hT⟩
  refine tk (i := 0) (v := ?_) rfl (Or.inl ⟨by rfl, ?hy28⟩) ?ty28
  case hy28 => (intro w hSw; obtain ⟨⟨e0, e1, e2, e3, e4, e5, e6, e7⟩, eT⟩ := hSw; dsimp only at e0 e1 e2 e3 e4 e5 e6 e7; go_simp; all_goals with_reducible rfl)
  simp only [Act.put, J1, J2, J4, J5, J6]
  refine tk (i := 1) (v := ?_) rfl (Or.inl ⟨by rfl, ?hy29⟩) ?ty29
  case hy29 => (intro w hSw; obtain ⟨⟨e0, e1, e2, e3, e4, e5, e6, e7⟩, eT⟩ := hSw; dsimp only at e0 e1 e2 e3 e4 e5 e6 e7; go_simp; all_goals with_reducible rfl)
  simp only [Act.put, J1, J2, J3, J4, J5, J6]
  refine wpAnyH_ready (rs := [2]) (by kernel_rfl) (by simp) ?_
  refine AllReadyH.cons rfl (fun K hK => ?_) AllReadyH.nil
  go_simp
  refine (HB _).mono ?_
  rintro e w1 ⟨rfl, rfl⟩
  refine hK.out _ _ ⟨hQ, hT⟩ (fun hHeld => ?_)
  clear hK K
  refine tk (i := 3) (v := ?_) rfl (Or.inl ⟨by rfl, ?hy30⟩) ?ty30
  case hy30 => (intro w hSw; obtain ⟨⟨e0, e1, e2, e3, e4, e5, e6, e7⟩, eT⟩ := hSw; dsimp only at e0 e1 e2 e3 e4 e5 e6 e7; go_simp; all_goals with_reducible rfl)
  simp only [Act.put, J1, J2, J3, J4, J5, J6]
  refine tk (i := 4) (v := ?_) rfl (Or.inl ⟨by rfl, ?hy31⟩) ?ty31
  case hy31 => (intro w hSw; obtain ⟨⟨e0, e1, e2, e3, e4, e5, e6, e7⟩, eT⟩ := hSw; dsimp only at e0 e1 e2 e3 e4 e5 e6 e7; go_simp; all_goals with_reducible rfl)
  simp only [Act.put, J1, J2, J3, J4, J5, J6]
  refine tk (i := 5) (v := ?_) rfl (Or.inl ⟨by rfl, ?hy32⟩) ?ty32
  case hy32 => (intro w hSw; obtain ⟨⟨e0, e1, e2, e3, e4, e5, e6, e7⟩, eT⟩ := hSw; dsimp only at e0 e1 e2 e3 e4 e5 e6 e7; go_simp; all_goals with_reducible rfl)
  simp only [Act.put, J1, J2, J3, J4, J5, J6]
  refine tk (i := 7) (v := ?_) rfl (Or.inl ⟨by rfl, ?hy33⟩) ?ty33
  case hy33 => (intro w hSw; obtain ⟨⟨e0, e1, e2, e3, e4, e5, e6, e7⟩, eT⟩ := hSw; dsimp only at e0 e1 e2 e3 e4 e5 e6 e7; go_simp; all_goals with_reducible rfl)
  simp only [Act.put, J1, J2, J3, J4, J5, J6]
  refine tk (i := 8) (v := ?_) rfl (Or.inl ⟨by rfl, ?hy34⟩) ?ty34
  case hy34 => (intro w hSw; obtain ⟨⟨e0, e1, e2, e3, e4, e5, e6, e7⟩, eT⟩ := hSw; dsimp only at e0 e1 e2 e3 e4 e5 e6 e7; go_simp; all_goals with_reducible rfl)
  simp only [Act.put, J1, J2, J3, J4, J5, J6]
  refine tk (i := 9) (v := ?_) rfl (Or.inl ⟨by rfl, ?hy35⟩) ?ty35
  case hy35 => (intro w hSw; obtain ⟨⟨e0, e1, e2, e3, e4, e5, e6, e7⟩, eT⟩ := hSw; dsimp only at e0 e1 e2 e3 e4 e5 e6 e7; go_simp; all_goals with_reducible rfl)
  simp only [Act.put, J1, J2, J3, J4, J5, J6]
  refine tk (i := 10) (v := ?_) rfl (Or.inl ⟨by rfl, ?hy36⟩) ?ty36
  case hy36 => (intro w hSw; obtain ⟨⟨e0, e1, e2, e3, e4, e5, e6, e7⟩, eT⟩ := hSw; dsimp only at e0 e1 e2 e3 e4 e5 e6 e7; go_simp; all_goals with_reducible rfl)
  simp only [Act.put, J1, J2, J3, J4, J5, J6]
  refine wpAnyH_ready (rs := [6]) (by kernel_rfl) (by simp) ?_
  refine AllReadyH.cons rfl (fun K hK => ?_) AllReadyH.nil
  go_simp
  refine (HBI _ (hs.below (Below.refl _ _).drew)).mono ?_
  rintro e w1 ⟨rfl, hb1⟩
  have hb1 : Below W.heap.size W w1 := (Below.refl _ _).drew.trans hb1
  have hQ1 := hQ.below hb1 hQ.lt
  have hT1 := (hb1.cell (p := ⟨0, 2, none⟩) hTl).trans hT
  refine hK.out _ _ ⟨hQ1, hT1⟩ (fun hHeld => ?_)
  clear hK K
  refine tk (i := 11) (v := ?_) rfl (Or.inl ⟨by rfl, ?hy37⟩) ?ty37
  case hy37 => (intro w hSw; obtain ⟨⟨e0, e1, e2, e3, e4, e5, e6, e7⟩, eT⟩ := hSw; dsimp only at e0 e1 e2 e3 e4 e5 e6 e7; go_simp; all_goals with_reducible rfl)
  simp only [Act.put, J1, J2, J3, J4, J5, J6]
  refine tk (i := 12) (v := .bool true) rfl (Or.inl ⟨by rfl, ?hy38⟩) ?ty38
  case hy38 => (intro w hSw; obtain ⟨⟨e0, e1, e2, e3, e4, e5, e6, e7⟩, eT⟩ := hSw; dsimp only at e0 e1 e2 e3 e4 e5 e6 e7; go_simp; exact HA.out)
  simp only [Act.put, J1, J2, J3, J4, J5, J6]
  refine tk (i := 13) (v := .bool true) rfl (Or.inl ⟨by rfl, ?hy39⟩) ?ty39
  case hy39 => (intro w hSw; obtain ⟨⟨e0, e1, e2, e3, e4, e5, e6, e7⟩, eT⟩ := hSw; dsimp only at e0 e1 e2 e3 e4 e5 e6 e7; go_simp; first | (simp; done) | (all_goals with_reducible rfl))
  simp only [Act.put, J1, J2, J3, J4, J5, J6]
  refine wpAnyH_done (by kernel_rfl) ?_ _
  clear hHeld
  go_wp2
  go_ret
  exact ⟨by rw [HR.out]; rfl, hb0.trans (hb1.mono hb0.size)⟩
 | true =>
  have hA' : Go.bits BinOp.andNot IntKind.i64 bz 0 = 0 := by have h := HA.out; simpa using h
  replace HA : Hid (Go.bits BinOp.andNot IntKind.i64 bz 0 = 0) := hA'
  clear hA'
  refine wp_region_held_drew (S := fun w' => Qo w' w.heap.size (opQ ⟨2, ox0, ot0, ou0, om0, of0, od0, ob0⟩ p) ∧ w'.cell? ⟨0, 2, none⟩ = some (.int .i64 0)) (by kernel_rfl) ?hS40 (fun hHeld => ?_)
  case hS40 => exact ⟨hQ, hT⟩
  refine tk (i := 0) (v := ?_) rfl (Or.inl ⟨by rfl, ?hy41⟩) ?ty41
  case hy41 => (intro w hSw; obtain ⟨⟨e0, e1, e2, e3, e4, e5, e6, e7⟩, eT⟩ := hSw; dsimp only at e0 e1 e2 e3 e4 e5 e6 e7; go_simp; all_goals with_reducible rfl)
  simp only [Act.put, J1, J2, J4, J5, J6]
  refine tk (i := 1) (v := ?_) rfl (Or.inl ⟨by rfl, ?hy42⟩) ?ty42
  case hy42 => (intro w hSw; obtain ⟨⟨e0, e1, e2, e3, e4, e5, e6, e7⟩, eT⟩ := hSw; dsimp only at e0 e1 e2 e3 e4 e5 e6 e7; go_simp; all_goals with_reducible rfl)
  simp only [Act.put, J1, J2, J3, J4, J5, J6]
  refine wpAnyH_ready (rs := [2]) (by kernel_rfl) (by simp) ?_
  refine AllReadyH.cons rfl (fun K hK => ?_) AllReadyH.nil
  go_simp
  refine (HB _).mono ?_
  rintro e w1 ⟨rfl, rfl⟩
  refine hK.out _ _ ⟨hQ, hT⟩ (fun hHeld => ?_)
  clear hK K
  refine tk (i := 3) (v := ?_) rfl (Or.inl ⟨by rfl, ?hy43⟩) ?ty43
  case hy43 => (intro w hSw; obtain ⟨⟨e0, e1, e2, e3, e4, e5, e6, e7⟩, eT⟩ := hSw; dsimp only at e0 e1 e2 e3 e4 e5 e6 e7; go_simp; all_goals with_reducible rfl)
  simp only [Act.put, J1, J2, J3, J4, J5, J6]
  refine tk (i := 4) (v := ?_) rfl (Or.inl ⟨by rfl, ?hy44⟩) ?ty44
  case hy44 => (intro w hSw; obtain ⟨⟨e0, e1, e2, e3, e4, e5, e6, e7⟩, eT⟩ := hSw; dsimp only at e0 e1 e2 e3 e4 e5 e6 e7; go_simp; all_goals with_reducible rfl)
  simp only [Act.put, J1, J2, J3, J4, J5, J6]
  refine tk (i := 5) (v := ?_) rfl (Or.inl ⟨by rfl, ?hy45⟩) ?ty45
  case hy45 => (intro w hSw; obtain ⟨⟨e0, e1, e2, e3, e4, e5, e6, e7⟩, eT⟩ := hSw; dsimp only at e0 e1 e2 e3 e4 e5 e6 e7; go_simp; all_goals with_reducible rfl)
  simp only [Act.put, J1, J2, J3, J4, J5, J6]
  refine tk (i := 7) (v := ?_) rfl (Or.inl ⟨by rfl, ?hy46⟩) ?ty46
  case hy46 => (intro w hSw; obtain ⟨⟨e0, e1, e2, e3, e4, e5, e6, e7⟩, eT⟩ := hSw; dsimp only at e0 e1 e2 e3 e4 e5 e6 e7; go_simp; all_goals with_reducible rfl)
  simp only [Act.put, J1, J2, J3, J4, J5, J6]
  refine tk (i := 8) (v := ?_) rfl (Or.inl ⟨by rfl, ?hy47⟩) ?ty47
  case hy47 => (intro w hSw; obtain ⟨⟨e0, e1, e2, e3, e4, e5, e6, e7⟩, eT⟩ := hSw; dsimp only at e0 e1 e2 e3 e4 e5 e6 e7; go_simp; all_goals with_reducible rfl)
  simp only [Act.put, J1, J2, J3, J4, J5, J6]
  refine tk (i := 9) (v := ?_) rfl (Or.inl ⟨by rfl, ?hy48⟩) ?ty48
  case hy48 => (intro w hSw; obtain ⟨⟨e0, e1, e2, e3, e4, e5, e6, e7⟩, eT⟩ := hSw; dsimp only at e0 e1 e2 e3 e4 e5 e6 e7; go_simp; all_goals with_reducible rfl)
  simp only [Act.put, J1, J2, J3, J4, J5, J6]
  refine tk (i := 10) (v := ?_) rfl (Or.inl ⟨by rfl, ?hy49⟩) ?ty49
  case hy49 => (intro w hSw; obtain ⟨⟨e0, e1, e2, e3, e4, e5, e6, e7⟩, eT⟩ := hSw; dsimp only at e0 e1 e2 e3 e4 e5 e6 e7; go_simp; all_goals with_reducible rfl)
  simp only [Act.put, J1, J2, J3, J4, J5, J6]
  refine wpAnyH_ready (rs := [6]) (by kernel_rfl) (by simp) ?_
  refine AllReadyH.cons rfl (fun K hK => ?_) AllReadyH.nil
  go_simp
  refine (HBI _ (hs.below (Below.refl _ _).drew)).mono ?_
  rintro e w1 ⟨rfl, hb1⟩
  have hb1 : Below W.heap.size W w1 := (Below.refl _ _).drew.trans hb1
  have hQ1 := hQ.below hb1 hQ.lt
  have hT1 := (hb1.cell (p := ⟨0, 2, none⟩) hTl).trans hT
  refine hK.out _ _ ⟨hQ1, hT1⟩ (fun hHeld => ?_)
  clear hK K
  refine tk (i := 11) (v := ?_) rfl (Or.inl ⟨by rfl, ?hy50⟩) ?ty50
  case hy50 => (intro w hSw; obtain ⟨⟨e0, e1, e2, e3, e4, e5, e6, e7⟩, eT⟩ := hSw; dsimp only at e0 e1 e2 e3 e4 e5 e6 e7; go_simp; all_goals with_reducible rfl)
  simp only [Act.put, J1, J2, J3, J4, J5, J6]
  refine tk (i := 12) (v := .bool false) rfl (Or.inl ⟨by rfl, ?hy51⟩) ?ty51
  case hy51 => (intro w hSw; obtain ⟨⟨e0, e1, e2, e3, e4, e5, e6, e7⟩, eT⟩ := hSw; dsimp only at e0 e1 e2 e3 e4 e5 e6 e7; go_simp; first | exact HA.out | (simp [HA.out]; done))
  simp only [Act.put, J1, J2, J3, J4, J5, J6]
  refine tk (i := 13) (v := .bool false) rfl (Or.inl ⟨by rfl, ?hy52⟩) ?ty52
  case hy52 => (intro w hSw; obtain ⟨⟨e0, e1, e2, e3, e4, e5, e6, e7⟩, eT⟩ := hSw; dsimp only at e0 e1 e2 e3 e4 e5 e6 e7; go_simp; first | (simp; done) | (all_goals with_reducible rfl))
  simp only [Act.put, J1, J2, J3, J4, J5, J6]
  refine wpAnyH_done (by kernel_rfl) ?_ _
  clear hHeld
  have hB1 := hb0.trans (hb1.mono hb0.size)
  have hs1 := hs.below hb1
  obtain ⟨c0, c1, c2, c3, c4, c5, c6, c7⟩ := id hQ1
  dsimp only at c0 c1 c2 c3 c4 c5 c6 c7
  clear hs hQ hT hTl hb0 hb1 HB HBI
  go_wp2_with fail
  refine (HX _).mono ?_
  rintro e w2 ⟨rfl, hb2⟩
  have hQ2 := hQ1.below hb2 hQ1.lt
  have hT2 := (hb2.cell (p := ⟨0, 2, none⟩) (World.block_lt_of_cell? _ ⟨0, 2, none⟩ hT1)).trans hT1
  have hs2 := hs1.below hb2
  have hB2 := hB1.trans (hb2.mono hB1.size)
  clear c0 c1 c2 c3 c4 c5 c6 c7 hQ1 hs1 hT1 hB1 hb2
  obtain ⟨c0, c1, c2, c3, c4, c5, c6, c7⟩ := id hQ2
  dsimp only at c0 c1 c2 c3 c4 c5 c6 c7
  cases bx with
  | false =>
   have HR : Hid (r = 5) := HV.out.trans (by simp)
   clear HV
   go_wp2
   go_ret
   exact ⟨by rw [HR.out]; rfl, hB2⟩
  | true =>
   by_cases hmany : 6 < p.1.2.1
   ·have hmi : (6 : Int) < (p.1.2.1 : Int) := by omega
    have HR : Hid (r = 2) := HV.out.trans (by simp [hmany])
    clear HV
    go_wp2
    go_ret
    exact ⟨by rw [HR.out]; rfl, hB2⟩
   ·have hmi : ¬ (6 : Int) < (p.1.2.1 : Int) := by omega
    go_wp2_with fail
    refine (HBD _ hs2).mono ?_
    rintro e w4 ⟨rfl, hb4⟩
    have hQ4 := hQ2.below hb4 hQ2.lt
    have hT4 := (hb4.cell (p := ⟨0, 2, none⟩) (World.block_lt_of_cell? _ ⟨0, 2, none⟩ hT2)).trans hT2
    have hs4 := hs2.below hb4
    have hB4 := hB2.trans (hb4.mono hB2.size)
    clear c0 c1 c2 c3 c4 c5 c6 c7 hQ2 hs2 hT2 hB2 hb4
    obtain ⟨c0, c1, c2, c3, c4, c5, c6, c7⟩ := id hQ4
    dsimp only at c0 c1 c2 c3 c4 c5 c6 c7
    cases rg with
    | false =>
     have HR : Hid (r = 3) := HV.out.trans (by simp [hmany])
     clear HV
     go_wp2
     go_ret
     exact ⟨by rw [HR.out]; rfl, hB4⟩
    | true =>
     by_cases h4 : 400 < p.2.2.1
     ·have h4i : (400 : Int) < (p.2.2.1 : Int) := by omega
      have HR : Hid (r = 2) := HV.out.trans (by simp [hmany, h4])
      clear HV
      go_wp2
      go_ret
      exact ⟨by rw [HR.out]; rfl, hB4⟩
     ·have h4i : ¬ (400 : Int) < (p.2.2.1 : Int) := by omega
      have HR : Hid (r = 0) := HV.out.trans (by simp [hmany, h4])
      clear HV
      go_wp2
      go_ret
      exact ⟨by rw [HR.out]; rfl, hB4⟩
set_option maxHeartbeats 3200000 in
set_option maxRecDepth 100000 in
theorem opFault_3 (ox0 ot0 : ByteArray) (ou0 : List Int) (om0 of0 od0 : Int) (ob0 : List Nat) (p : SlO) {lo : Nat} (w : World) (hs : IsOp lo w p ⟨3, ox0, ot0, ou0, om0, of0, od0, ob0⟩) (hT : TabH8 w) (hx : ox0.size ≤ 1048576) (ht : ot0.size ≤ 1048576) :
  Calls Tryd.prog 30 #[opX ⟨3, ox0, ot0, ou0, om0, of0, od0, ob0⟩ p] w fun e w' => e = .returned (.int .i64 (ofV ⟨3, ox0, ot0, ou0, om0, of0, od0, ob0⟩)) ∧ Below w.heap.size w w' := by
 have hu : ou0.length = p.1.2.1 := hs.1.1
 have hb : ob0.length = p.2.2.1 := hs.2.1
 have hm1 : p.1.2.1 ≤ maxLen := Nat.le_trans hs.1.2.1 hs.1.2.2.1
 have hm2 : p.2.2.1 ≤ maxLen := Nat.le_trans hs.2.2.1 hs.2.2.2.1
 have hV := ofV_eq ⟨3, ox0, ot0, ou0, om0, of0, od0, ob0⟩
 have hRG : rgV ⟨3, ox0, ot0, ou0, om0, of0, od0, ob0⟩ = (riU 0 ou0 && (!decide ((3 : Int) = 4) || bt om0 1 3) && bt of0 0 15 && bt od0 0 9999) := rfl
 have hFM : fmV ⟨3, ox0, ot0, ou0, om0, of0, od0, ob0⟩ = fmK 3 (h0B ⟨3, ox0, ot0, ou0, om0, of0, od0, ob0⟩) (h1B ⟨3, ox0, ot0, ou0, om0, of0, od0, ob0⟩) (h2B ⟨3, ox0, ot0, ou0, om0, of0, od0, ob0⟩) (h3B ⟨3, ox0, ot0, ou0, om0, of0, od0, ob0⟩) (h4B ⟨3, ox0, ot0, ou0, om0, of0, od0, ob0⟩) (h5B ⟨3, ox0, ot0, ou0, om0, of0, od0, ob0⟩) := rfl
 dsimp only at hV
 rw [hu, hb, ← hRG] at hV
 rw [show cpK (3 : Int) = false from rfl] at hV
 unfold maxLen at hm1 hm2
 have hb0 : Below w.heap.size w (w.alloc (.cells #[.int .i64 3, .string ox0, .string ot0, slW p.1, .int .i64 om0, .int .i64 of0, .int .i64 od0, slW p.2] 27)) := (Below.refl _ _).alloc (Nat.le_refl _) _
 have hQ : Qo (w.alloc (.cells #[.int .i64 3, .string ox0, .string ot0, slW p.1, .int .i64 om0, .int .i64 of0, .int .i64 od0, slW p.2] 27)) w.heap.size (opQ ⟨3, ox0, ot0, ou0, om0, of0, od0, ob0⟩ p) := Qo.new _ _ _ _ _ _ _ _ _ _
 have hs := hs.below hb0
 have hT := hT.below hb0
 have hTl : 0 < (w.alloc (.cells #[.int .i64 3, .string ox0, .string ot0, slW p.1, .int .i64 om0, .int .i64 of0, .int .i64 od0, slW p.2] 27)).heap.size := World.block_lt_of_cell? _ ⟨0, 0, none⟩ (hT 0 (by decide))
 have hT : (w.alloc (.cells #[.int .i64 3, .string ox0, .string ot0, slW p.1, .int .i64 om0, .int .i64 of0, .int .i64 od0, slW p.2] 27)).cell? ⟨0, 3, none⟩ = some (.int .i64 56) := hT 3 (by decide)
 have HB : ∀ w, Calls Tryd.prog 58 #[.int .i64 3, .int .i64 1, .int .i64 7] w fun e w' => e = .returned (.bool true) ∧ w = w' := isBetween_bt 3 1 7
 have HBI := fun (w' : World) (h : IsOp lo w' p ⟨3, ox0, ot0, ou0, om0, of0, od0, ob0⟩) => bitsOf_any ⟨3, ox0, ot0, ou0, om0, of0, od0, ob0⟩ p w' h
 have HBD := fun (w' : World) (h : IsOp lo w' p ⟨3, ox0, ot0, ou0, om0, of0, od0, ob0⟩) => hasBounds_any ⟨3, ox0, ot0, ou0, om0, of0, od0, ob0⟩ p w' h
 have HX := fun w => isBoxName_nm ox0 w hx
 have HTT := fun w => isBoxName_nm ot0 w ht
 have hA := fmK_bits3 (h0B ⟨3, ox0, ot0, ou0, om0, of0, od0, ob0⟩) (h1B ⟨3, ox0, ot0, ou0, om0, of0, od0, ob0⟩) (h2B ⟨3, ox0, ot0, ou0, om0, of0, od0, ob0⟩) (h3B ⟨3, ox0, ot0, ou0, om0, of0, od0, ob0⟩) (h4B ⟨3, ox0, ot0, ou0, om0, of0, od0, ob0⟩) (h5B ⟨3, ox0, ot0, ou0, om0, of0, od0, ob0⟩)
 rw [← hFM] at hA
 have HV : Hid (_) := hV
 clear hV hRG hFM hu hb
 generalize ofV ⟨3, ox0, ot0, ou0, om0, of0, od0, ob0⟩ = r at *
 generalize bitZ (h0B ⟨3, ox0, ot0, ou0, om0, of0, od0, ob0⟩) (h1B ⟨3, ox0, ot0, ou0, om0, of0, od0, ob0⟩) (h2B ⟨3, ox0, ot0, ou0, om0, of0, od0, ob0⟩) (h3B ⟨3, ox0, ot0, ou0, om0, of0, od0, ob0⟩) (h4B ⟨3, ox0, ot0, ou0, om0, of0, od0, ob0⟩) (h5B ⟨3, ox0, ot0, ou0, om0, of0, od0, ob0⟩) = bz at *
 generalize fmV ⟨3, ox0, ot0, ou0, om0, of0, od0, ob0⟩ = fm at *
 generalize rgV ⟨3, ox0, ot0, ou0, om0, of0, od0, ob0⟩ = rg at *
 generalize bnOk (txB ox0) = bx at *
 generalize bnOk (txB ot0) = btx at *
 have HA : Hid (_) := hA
 clear hA
 go_enter Tryd.func30, Tryd.ntmps30
 go_wp2_with fail
 generalize (w.alloc (.cells #[.int .i64 3, .string ox0, .string ot0, slW p.1, .int .i64 om0, .int .i64 of0, .int .i64 od0, slW p.2] 27)) = W at *
 cases fm with
 | false =>
  have HR : Hid (r = 1) := HV.out.trans (by simp)
  have hA' : ¬ Go.bits BinOp.andNot IntKind.i64 bz 56 = 0 := by have h := HA.out; simpa using h
  replace HA : Hid (¬ Go.bits BinOp.andNot IntKind.i64 bz 56 = 0) := hA'
  clear hA'
  clear HV
  refine wp_region_held_drew (S := fun w' => Qo w' w.heap.size (opQ ⟨3, ox0, ot0, ou0, om0, of0, od0, ob0⟩ p) ∧ w'.cell? ⟨0, 3, none⟩ = some (.int .i64 56)) (by kernel_rfl) ?hS53 (fun hHeld => ?_)
  case hS53 => exact ⟨hQ, hT⟩
  refine tk (i := 0) (v := ?_) rfl (Or.inl ⟨by rfl, ?hy54⟩) ?ty54
  case hy54 => (intro w hSw; obtain ⟨⟨e0, e1, e2, e3, e4, e5, e6, e7⟩, eT⟩ := hSw; dsimp only at e0 e1 e2 e3 e4 e5 e6 e7; go_simp; all_goals with_reducible rfl)
  simp only [Act.put, J1, J2, J4, J5, J6]
  refine tk (i := 1) (v := ?_) rfl (Or.inl ⟨by rfl, ?hy55⟩) ?ty55
  case hy55 => (intro w hSw; obtain ⟨⟨e0, e1, e2, e3, e4, e5, e6, e7⟩, eT⟩ := hSw; dsimp only at e0 e1 e2 e3 e4 e5 e6 e7; go_simp; all_goals with_reducible rfl)
  simp only [Act.put, J1, J2, J3, J4, J5, J6]
  refine wpAnyH_ready (rs := [2]) (by kernel_rfl) (by simp) ?_
  refine AllReadyH.cons rfl (fun K hK => ?_) AllReadyH.nil
  go_simp
  refine (HB _).mono ?_
  rintro e w1 ⟨rfl, rfl⟩
  refine hK.out _ _ ⟨hQ, hT⟩ (fun hHeld => ?_)
  clear hK K
  refine tk (i := 3) (v := ?_) rfl (Or.inl ⟨by rfl, ?hy56⟩) ?ty56
  case hy56 => (intro w hSw; obtain ⟨⟨e0, e1, e2, e3, e4, e5, e6, e7⟩, eT⟩ := hSw; dsimp only at e0 e1 e2 e3 e4 e5 e6 e7; go_simp; all_goals with_reducible rfl)
  simp only [Act.put, J1, J2, J3, J4, J5, J6]
  refine tk (i := 4) (v := ?_) rfl (Or.inl ⟨by rfl, ?hy57⟩) ?ty57
  case hy57 => (intro w hSw; obtain ⟨⟨e0, e1, e2, e3, e4, e5, e6, e7⟩, eT⟩ := hSw; dsimp only at e0 e1 e2 e3 e4 e5 e6 e7; go_simp; all_goals with_reducible rfl)
  simp only [Act.put, J1, J2, J3, J4, J5, J6]
  refine tk (i := 5) (v := ?_) rfl (Or.inl ⟨by rfl, ?hy58⟩) ?ty58
  case hy58 => (intro w hSw; obtain ⟨⟨e0, e1, e2, e3, e4, e5, e6, e7⟩, eT⟩ := hSw; dsimp only at e0 e1 e2 e3 e4 e5 e6 e7; go_simp; all_goals with_reducible rfl)
  simp only [Act.put, J1, J2, J3, J4, J5, J6]
  refine tk (i := 7) (v := ?_) rfl (Or.inl ⟨by rfl, ?hy59⟩) ?ty59
  case hy59 => (intro w hSw; obtain ⟨⟨e0, e1, e2, e3, e4, e5, e6, e7⟩, eT⟩ := hSw; dsimp only at e0 e1 e2 e3 e4 e5 e6 e7; go_simp; all_goals with_reducible rfl)
  simp only [Act.put, J1, J2, J3, J4, J5, J6]
  refine tk (i := 8) (v := ?_) rfl (Or.inl ⟨by rfl, ?hy60⟩) ?ty60
  case hy60 => (intro w hSw; obtain ⟨⟨e0, e1, e2, e3, e4, e5, e6, e7⟩, eT⟩ := hSw; dsimp only at e0 e1 e2 e3 e4 e5 e6 e7; go_simp; all_goals with_reducible rfl)
  simp only [Act.put, J1, J2, J3, J4, J5, J6]
  refine tk (i := 9) (v := ?_) rfl (Or.inl ⟨by rfl, ?hy61⟩) ?ty61
  case hy61 => (intro w hSw; obtain ⟨⟨e0, e1, e2, e3, e4, e5, e6, e7⟩, eT⟩ := hSw; dsimp only at e0 e1 e2 e3 e4 e5 e6 e7; go_simp; all_goals with_reducible rfl)
  simp only [Act.put, J1, J2, J3, J4, J5, J6]
  refine tk (i := 10) (v := ?_) rfl (Or.inl ⟨by rfl, ?hy62⟩) ?ty62
  case hy62 => (intro w hSw; obtain ⟨⟨e0, e1, e2, e3, e4, e5, e6, e7⟩, eT⟩ := hSw; dsimp only at e0 e1 e2 e3 e4 e5 e6 e7; go_simp; all_goals with_reducible rfl)
  simp only [Act.put, J1, J2, J3, J4, J5, J6]
  refine wpAnyH_ready (rs := [6]) (by kernel_rfl) (by simp) ?_
  refine AllReadyH.cons rfl (fun K hK => ?_) AllReadyH.nil
  go_simp
  refine (HBI _ (hs.below (Below.refl _ _).drew)).mono ?_
  rintro e w1 ⟨rfl, hb1⟩
  have hb1 : Below W.heap.size W w1 := (Below.refl _ _).drew.trans hb1
  have hQ1 := hQ.below hb1 hQ.lt
  have hT1 := (hb1.cell (p := ⟨0, 3, none⟩) hTl).trans hT
  refine hK.out _ _ ⟨hQ1, hT1⟩ (fun hHeld => ?_)
  clear hK K
  refine tk (i := 11) (v := ?_) rfl (Or.inl ⟨by rfl, ?hy63⟩) ?ty63
  case hy63 => (intro w hSw; obtain ⟨⟨e0, e1, e2, e3, e4, e5, e6, e7⟩, eT⟩ := hSw; dsimp only at e0 e1 e2 e3 e4 e5 e6 e7; go_simp; all_goals with_reducible rfl)
  simp only [Act.put, J1, J2, J3, J4, J5, J6]
  refine tk (i := 12) (v := .bool true) rfl (Or.inl ⟨by rfl, ?hy64⟩) ?ty64
  case hy64 => (intro w hSw; obtain ⟨⟨e0, e1, e2, e3, e4, e5, e6, e7⟩, eT⟩ := hSw; dsimp only at e0 e1 e2 e3 e4 e5 e6 e7; go_simp; exact HA.out)
  simp only [Act.put, J1, J2, J3, J4, J5, J6]
  refine tk (i := 13) (v := .bool true) rfl (Or.inl ⟨by rfl, ?hy65⟩) ?ty65
  case hy65 => (intro w hSw; obtain ⟨⟨e0, e1, e2, e3, e4, e5, e6, e7⟩, eT⟩ := hSw; dsimp only at e0 e1 e2 e3 e4 e5 e6 e7; go_simp; first | (simp; done) | (all_goals with_reducible rfl))
  simp only [Act.put, J1, J2, J3, J4, J5, J6]
  refine wpAnyH_done (by kernel_rfl) ?_ _
  clear hHeld
  go_wp2
  go_ret
  exact ⟨by rw [HR.out]; rfl, hb0.trans (hb1.mono hb0.size)⟩
 | true =>
  have hA' : Go.bits BinOp.andNot IntKind.i64 bz 56 = 0 := by have h := HA.out; simpa using h
  replace HA : Hid (Go.bits BinOp.andNot IntKind.i64 bz 56 = 0) := hA'
  clear hA'
  refine wp_region_held_drew (S := fun w' => Qo w' w.heap.size (opQ ⟨3, ox0, ot0, ou0, om0, of0, od0, ob0⟩ p) ∧ w'.cell? ⟨0, 3, none⟩ = some (.int .i64 56)) (by kernel_rfl) ?hS66 (fun hHeld => ?_)
  case hS66 => exact ⟨hQ, hT⟩
  refine tk (i := 0) (v := ?_) rfl (Or.inl ⟨by rfl, ?hy67⟩) ?ty67
  case hy67 => (intro w hSw; obtain ⟨⟨e0, e1, e2, e3, e4, e5, e6, e7⟩, eT⟩ := hSw; dsimp only at e0 e1 e2 e3 e4 e5 e6 e7; go_simp; all_goals with_reducible rfl)
  simp only [Act.put, J1, J2, J4, J5, J6]
  refine tk (i := 1) (v := ?_) rfl (Or.inl ⟨by rfl, ?hy68⟩) ?ty68
  case hy68 => (intro w hSw; obtain ⟨⟨e0, e1, e2, e3, e4, e5, e6, e7⟩, eT⟩ := hSw; dsimp only at e0 e1 e2 e3 e4 e5 e6 e7; go_simp; all_goals with_reducible rfl)
  simp only [Act.put, J1, J2, J3, J4, J5, J6]
  refine wpAnyH_ready (rs := [2]) (by kernel_rfl) (by simp) ?_
  refine AllReadyH.cons rfl (fun K hK => ?_) AllReadyH.nil
  go_simp
  refine (HB _).mono ?_
  rintro e w1 ⟨rfl, rfl⟩
  refine hK.out _ _ ⟨hQ, hT⟩ (fun hHeld => ?_)
  clear hK K
  refine tk (i := 3) (v := ?_) rfl (Or.inl ⟨by rfl, ?hy69⟩) ?ty69
  case hy69 => (intro w hSw; obtain ⟨⟨e0, e1, e2, e3, e4, e5, e6, e7⟩, eT⟩ := hSw; dsimp only at e0 e1 e2 e3 e4 e5 e6 e7; go_simp; all_goals with_reducible rfl)
  simp only [Act.put, J1, J2, J3, J4, J5, J6]
  refine tk (i := 4) (v := ?_) rfl (Or.inl ⟨by rfl, ?hy70⟩) ?ty70
  case hy70 => (intro w hSw; obtain ⟨⟨e0, e1, e2, e3, e4, e5, e6, e7⟩, eT⟩ := hSw; dsimp only at e0 e1 e2 e3 e4 e5 e6 e7; go_simp; all_goals with_reducible rfl)
  simp only [Act.put, J1, J2, J3, J4, J5, J6]
  refine tk (i := 5) (v := ?_) rfl (Or.inl ⟨by rfl, ?hy71⟩) ?ty71
  case hy71 => (intro w hSw; obtain ⟨⟨e0, e1, e2, e3, e4, e5, e6, e7⟩, eT⟩ := hSw; dsimp only at e0 e1 e2 e3 e4 e5 e6 e7; go_simp; all_goals with_reducible rfl)
  simp only [Act.put, J1, J2, J3, J4, J5, J6]
  refine tk (i := 7) (v := ?_) rfl (Or.inl ⟨by rfl, ?hy72⟩) ?ty72
  case hy72 => (intro w hSw; obtain ⟨⟨e0, e1, e2, e3, e4, e5, e6, e7⟩, eT⟩ := hSw; dsimp only at e0 e1 e2 e3 e4 e5 e6 e7; go_simp; all_goals with_reducible rfl)
  simp only [Act.put, J1, J2, J3, J4, J5, J6]
  refine tk (i := 8) (v := ?_) rfl (Or.inl ⟨by rfl, ?hy73⟩) ?ty73
  case hy73 => (intro w hSw; obtain ⟨⟨e0, e1, e2, e3, e4, e5, e6, e7⟩, eT⟩ := hSw; dsimp only at e0 e1 e2 e3 e4 e5 e6 e7; go_simp; all_goals with_reducible rfl)
  simp only [Act.put, J1, J2, J3, J4, J5, J6]
  refine tk (i := 9) (v := ?_) rfl (Or.inl ⟨by rfl, ?hy74⟩) ?ty74
  case hy74 => (intro w hSw; obtain ⟨⟨e0, e1, e2, e3, e4, e5, e6, e7⟩, eT⟩ := hSw; dsimp only at e0 e1 e2 e3 e4 e5 e6 e7; go_simp; all_goals with_reducible rfl)
  simp only [Act.put, J1, J2, J3, J4, J5, J6]
  refine tk (i := 10) (v := ?_) rfl (Or.inl ⟨by rfl, ?hy75⟩) ?ty75
  case hy75 => (intro w hSw; obtain ⟨⟨e0, e1, e2, e3, e4, e5, e6, e7⟩, eT⟩ := hSw; dsimp only at e0 e1 e2 e3 e4 e5 e6 e7; go_simp; all_goals with_reducible rfl)
  simp only [Act.put, J1, J2, J3, J4, J5, J6]
  refine wpAnyH_ready (rs := [6]) (by kernel_rfl) (by simp) ?_
  refine AllReadyH.cons rfl (fun K hK => ?_) AllReadyH.nil
  go_simp
  refine (HBI _ (hs.below (Below.refl _ _).drew)).mono ?_
  rintro e w1 ⟨rfl, hb1⟩
  have hb1 : Below W.heap.size W w1 := (Below.refl _ _).drew.trans hb1
  have hQ1 := hQ.below hb1 hQ.lt
  have hT1 := (hb1.cell (p := ⟨0, 3, none⟩) hTl).trans hT
  refine hK.out _ _ ⟨hQ1, hT1⟩ (fun hHeld => ?_)
  clear hK K
  refine tk (i := 11) (v := ?_) rfl (Or.inl ⟨by rfl, ?hy76⟩) ?ty76
  case hy76 => (intro w hSw; obtain ⟨⟨e0, e1, e2, e3, e4, e5, e6, e7⟩, eT⟩ := hSw; dsimp only at e0 e1 e2 e3 e4 e5 e6 e7; go_simp; all_goals with_reducible rfl)
  simp only [Act.put, J1, J2, J3, J4, J5, J6]
  refine tk (i := 12) (v := .bool false) rfl (Or.inl ⟨by rfl, ?hy77⟩) ?ty77
  case hy77 => (intro w hSw; obtain ⟨⟨e0, e1, e2, e3, e4, e5, e6, e7⟩, eT⟩ := hSw; dsimp only at e0 e1 e2 e3 e4 e5 e6 e7; go_simp; first | exact HA.out | (simp [HA.out]; done))
  simp only [Act.put, J1, J2, J3, J4, J5, J6]
  refine tk (i := 13) (v := .bool false) rfl (Or.inl ⟨by rfl, ?hy78⟩) ?ty78
  case hy78 => (intro w hSw; obtain ⟨⟨e0, e1, e2, e3, e4, e5, e6, e7⟩, eT⟩ := hSw; dsimp only at e0 e1 e2 e3 e4 e5 e6 e7; go_simp; first | (simp; done) | (all_goals with_reducible rfl))
  simp only [Act.put, J1, J2, J3, J4, J5, J6]
  refine wpAnyH_done (by kernel_rfl) ?_ _
  clear hHeld
  have hB1 := hb0.trans (hb1.mono hb0.size)
  have hs1 := hs.below hb1
  obtain ⟨c0, c1, c2, c3, c4, c5, c6, c7⟩ := id hQ1
  dsimp only at c0 c1 c2 c3 c4 c5 c6 c7
  clear hs hQ hT hTl hb0 hb1 HB HBI
  go_wp2_with fail
  refine (HX _).mono ?_
  rintro e w2 ⟨rfl, hb2⟩
  have hQ2 := hQ1.below hb2 hQ1.lt
  have hT2 := (hb2.cell (p := ⟨0, 3, none⟩) (World.block_lt_of_cell? _ ⟨0, 3, none⟩ hT1)).trans hT1
  have hs2 := hs1.below hb2
  have hB2 := hB1.trans (hb2.mono hB1.size)
  clear c0 c1 c2 c3 c4 c5 c6 c7 hQ1 hs1 hT1 hB1 hb2
  obtain ⟨c0, c1, c2, c3, c4, c5, c6, c7⟩ := id hQ2
  dsimp only at c0 c1 c2 c3 c4 c5 c6 c7
  cases bx with
  | false =>
   have HR : Hid (r = 5) := HV.out.trans (by simp)
   clear HV
   go_wp2
   go_ret
   exact ⟨by rw [HR.out]; rfl, hB2⟩
  | true =>
   by_cases hmany : 6 < p.1.2.1
   ·have hmi : (6 : Int) < (p.1.2.1 : Int) := by omega
    have HR : Hid (r = 2) := HV.out.trans (by simp [hmany])
    clear HV
    go_wp2
    go_ret
    exact ⟨by rw [HR.out]; rfl, hB2⟩
   ·have hmi : ¬ (6 : Int) < (p.1.2.1 : Int) := by omega
    go_wp2_with fail
    refine (HBD _ hs2).mono ?_
    rintro e w4 ⟨rfl, hb4⟩
    have hQ4 := hQ2.below hb4 hQ2.lt
    have hT4 := (hb4.cell (p := ⟨0, 3, none⟩) (World.block_lt_of_cell? _ ⟨0, 3, none⟩ hT2)).trans hT2
    have hs4 := hs2.below hb4
    have hB4 := hB2.trans (hb4.mono hB2.size)
    clear c0 c1 c2 c3 c4 c5 c6 c7 hQ2 hs2 hT2 hB2 hb4
    obtain ⟨c0, c1, c2, c3, c4, c5, c6, c7⟩ := id hQ4
    dsimp only at c0 c1 c2 c3 c4 c5 c6 c7
    cases rg with
    | false =>
     have HR : Hid (r = 3) := HV.out.trans (by simp [hmany])
     clear HV
     go_wp2
     go_ret
     exact ⟨by rw [HR.out]; rfl, hB4⟩
    | true =>
     by_cases h4 : 400 < p.2.2.1
     ·have h4i : (400 : Int) < (p.2.2.1 : Int) := by omega
      have HR : Hid (r = 2) := HV.out.trans (by simp [hmany, h4])
      clear HV
      go_wp2
      go_ret
      exact ⟨by rw [HR.out]; rfl, hB4⟩
     ·have h4i : ¬ (400 : Int) < (p.2.2.1 : Int) := by omega
      have HR : Hid (r = 0) := HV.out.trans (by simp [hmany, h4])
      clear HV
      go_wp2
      go_ret
      exact ⟨by rw [HR.out]; rfl, hB4⟩
set_option maxHeartbeats 3200000 in
set_option maxRecDepth 100000 in
theorem opFault_4 (ox0 ot0 : ByteArray) (ou0 : List Int) (om0 of0 od0 : Int) (ob0 : List Nat) (p : SlO) {lo : Nat} (w : World) (hs : IsOp lo w p ⟨4, ox0, ot0, ou0, om0, of0, od0, ob0⟩) (hT : TabH8 w) (hx : ox0.size ≤ 1048576) (ht : ot0.size ≤ 1048576) :
  Calls Tryd.prog 30 #[opX ⟨4, ox0, ot0, ou0, om0, of0, od0, ob0⟩ p] w fun e w' => e = .returned (.int .i64 (ofV ⟨4, ox0, ot0, ou0, om0, of0, od0, ob0⟩)) ∧ Below w.heap.size w w' := by
 have hu : ou0.length = p.1.2.1 := hs.1.1
 have hb : ob0.length = p.2.2.1 := hs.2.1
 have hm1 : p.1.2.1 ≤ maxLen := Nat.le_trans hs.1.2.1 hs.1.2.2.1
 have hm2 : p.2.2.1 ≤ maxLen := Nat.le_trans hs.2.2.1 hs.2.2.2.1
 have hV := ofV_eq ⟨4, ox0, ot0, ou0, om0, of0, od0, ob0⟩
 have hRG : rgV ⟨4, ox0, ot0, ou0, om0, of0, od0, ob0⟩ = (riU 0 ou0 && (!decide ((4 : Int) = 4) || bt om0 1 3) && bt of0 0 15 && bt od0 0 9999) := rfl
 have hFM : fmV ⟨4, ox0, ot0, ou0, om0, of0, od0, ob0⟩ = fmK 4 (h0B ⟨4, ox0, ot0, ou0, om0, of0, od0, ob0⟩) (h1B ⟨4, ox0, ot0, ou0, om0, of0, od0, ob0⟩) (h2B ⟨4, ox0, ot0, ou0, om0, of0, od0, ob0⟩) (h3B ⟨4, ox0, ot0, ou0, om0, of0, od0, ob0⟩) (h4B ⟨4, ox0, ot0, ou0, om0, of0, od0, ob0⟩) (h5B ⟨4, ox0, ot0, ou0, om0, of0, od0, ob0⟩) := rfl
 dsimp only at hV
 rw [hu, hb, ← hRG] at hV
 rw [show cpK (4 : Int) = false from rfl] at hV
 unfold maxLen at hm1 hm2
 have hb0 : Below w.heap.size w (w.alloc (.cells #[.int .i64 4, .string ox0, .string ot0, slW p.1, .int .i64 om0, .int .i64 of0, .int .i64 od0, slW p.2] 27)) := (Below.refl _ _).alloc (Nat.le_refl _) _
 have hQ : Qo (w.alloc (.cells #[.int .i64 4, .string ox0, .string ot0, slW p.1, .int .i64 om0, .int .i64 of0, .int .i64 od0, slW p.2] 27)) w.heap.size (opQ ⟨4, ox0, ot0, ou0, om0, of0, od0, ob0⟩ p) := Qo.new _ _ _ _ _ _ _ _ _ _
 have hs := hs.below hb0
 have hT := hT.below hb0
 have hTl : 0 < (w.alloc (.cells #[.int .i64 4, .string ox0, .string ot0, slW p.1, .int .i64 om0, .int .i64 of0, .int .i64 od0, slW p.2] 27)).heap.size := World.block_lt_of_cell? _ ⟨0, 0, none⟩ (hT 0 (by decide))
 have hT : (w.alloc (.cells #[.int .i64 4, .string ox0, .string ot0, slW p.1, .int .i64 om0, .int .i64 of0, .int .i64 od0, slW p.2] 27)).cell? ⟨0, 4, none⟩ = some (.int .i64 14) := hT 4 (by decide)
 have HB : ∀ w, Calls Tryd.prog 58 #[.int .i64 4, .int .i64 1, .int .i64 7] w fun e w' => e = .returned (.bool true) ∧ w = w' := isBetween_bt 4 1 7
 have HBI := fun (w' : World) (h : IsOp lo w' p ⟨4, ox0, ot0, ou0, om0, of0, od0, ob0⟩) => bitsOf_any ⟨4, ox0, ot0, ou0, om0, of0, od0, ob0⟩ p w' h
 have HBD := fun (w' : World) (h : IsOp lo w' p ⟨4, ox0, ot0, ou0, om0, of0, od0, ob0⟩) => hasBounds_any ⟨4, ox0, ot0, ou0, om0, of0, od0, ob0⟩ p w' h
 have HX := fun w => isBoxName_nm ox0 w hx
 have HTT := fun w => isBoxName_nm ot0 w ht
 have hA := fmK_bits4 (h0B ⟨4, ox0, ot0, ou0, om0, of0, od0, ob0⟩) (h1B ⟨4, ox0, ot0, ou0, om0, of0, od0, ob0⟩) (h2B ⟨4, ox0, ot0, ou0, om0, of0, od0, ob0⟩) (h3B ⟨4, ox0, ot0, ou0, om0, of0, od0, ob0⟩) (h4B ⟨4, ox0, ot0, ou0, om0, of0, od0, ob0⟩) (h5B ⟨4, ox0, ot0, ou0, om0, of0, od0, ob0⟩)
 rw [← hFM] at hA
 have HV : Hid (_) := hV
 clear hV hRG hFM hu hb
 generalize ofV ⟨4, ox0, ot0, ou0, om0, of0, od0, ob0⟩ = r at *
 generalize bitZ (h0B ⟨4, ox0, ot0, ou0, om0, of0, od0, ob0⟩) (h1B ⟨4, ox0, ot0, ou0, om0, of0, od0, ob0⟩) (h2B ⟨4, ox0, ot0, ou0, om0, of0, od0, ob0⟩) (h3B ⟨4, ox0, ot0, ou0, om0, of0, od0, ob0⟩) (h4B ⟨4, ox0, ot0, ou0, om0, of0, od0, ob0⟩) (h5B ⟨4, ox0, ot0, ou0, om0, of0, od0, ob0⟩) = bz at *
 generalize fmV ⟨4, ox0, ot0, ou0, om0, of0, od0, ob0⟩ = fm at *
 generalize rgV ⟨4, ox0, ot0, ou0, om0, of0, od0, ob0⟩ = rg at *
 generalize bnOk (txB ox0) = bx at *
 generalize bnOk (txB ot0) = btx at *
 have HA : Hid (_) := hA
 clear hA
 go_enter Tryd.func30, Tryd.ntmps30
 go_wp2_with fail
 generalize (w.alloc (.cells #[.int .i64 4, .string ox0, .string ot0, slW p.1, .int .i64 om0, .int .i64 of0, .int .i64 od0, slW p.2] 27)) = W at *
 cases fm with
 | false =>
  have HR : Hid (r = 1) := HV.out.trans (by simp)
  have hA' : ¬ Go.bits BinOp.andNot IntKind.i64 bz 14 = 0 := by have h := HA.out; simpa using h
  replace HA : Hid (¬ Go.bits BinOp.andNot IntKind.i64 bz 14 = 0) := hA'
  clear hA'
  clear HV
  refine wp_region_held_drew (S := fun w' => Qo w' w.heap.size (opQ ⟨4, ox0, ot0, ou0, om0, of0, od0, ob0⟩ p) ∧ w'.cell? ⟨0, 4, none⟩ = some (.int .i64 14)) (by kernel_rfl) ?hS79 (fun hHeld => ?_)
  case hS79 => exact ⟨hQ, hT⟩
  refine tk (i := 0) (v := ?_) rfl (Or.inl ⟨by rfl, ?hy80⟩) ?ty80
  case hy80 => (intro w hSw; obtain ⟨⟨e0, e1, e2, e3, e4, e5, e6, e7⟩, eT⟩ := hSw; dsimp only at e0 e1 e2 e3 e4 e5 e6 e7; go_simp; all_goals with_reducible rfl)
  simp only [Act.put, J1, J2, J4, J5, J6]
  refine tk (i := 1) (v := ?_) rfl (Or.inl ⟨by rfl, ?hy81⟩) ?ty81
  case hy81 => (intro w hSw; obtain ⟨⟨e0, e1, e2, e3, e4, e5, e6, e7⟩, eT⟩ := hSw; dsimp only at e0 e1 e2 e3 e4 e5 e6 e7; go_simp; all_goals with_reducible rfl)
  simp only [Act.put, J1, J2, J3, J4, J5, J6]
  refine wpAnyH_ready (rs := [2]) (by kernel_rfl) (by simp) ?_
  refine AllReadyH.cons rfl (fun K hK => ?_) AllReadyH.nil
  go_simp
  refine (HB _).mono ?_
  rintro e w1 ⟨rfl, rfl⟩
  refine hK.out _ _ ⟨hQ, hT⟩ (fun hHeld => ?_)
  clear hK K
  refine tk (i := 3) (v := ?_) rfl (Or.inl ⟨by rfl, ?hy82⟩) ?ty82
  case hy82 => (intro w hSw; obtain ⟨⟨e0, e1, e2, e3, e4, e5, e6, e7⟩, eT⟩ := hSw; dsimp only at e0 e1 e2 e3 e4 e5 e6 e7; go_simp; all_goals with_reducible rfl)
  simp only [Act.put, J1, J2, J3, J4, J5, J6]
  refine tk (i := 4) (v := ?_) rfl (Or.inl ⟨by rfl, ?hy83⟩) ?ty83
  case hy83 => (intro w hSw; obtain ⟨⟨e0, e1, e2, e3, e4, e5, e6, e7⟩, eT⟩ := hSw; dsimp only at e0 e1 e2 e3 e4 e5 e6 e7; go_simp; all_goals with_reducible rfl)
  simp only [Act.put, J1, J2, J3, J4, J5, J6]
  refine tk (i := 5) (v := ?_) rfl (Or.inl ⟨by rfl, ?hy84⟩) ?ty84
  case hy84 => (intro w hSw; obtain ⟨⟨e0, e1, e2, e3, e4, e5, e6, e7⟩, eT⟩ := hSw; dsimp only at e0 e1 e2 e3 e4 e5 e6 e7; go_simp; all_goals with_reducible rfl)
  simp only [Act.put, J1, J2, J3, J4, J5, J6]
  refine tk (i := 7) (v := ?_) rfl (Or.inl ⟨by rfl, ?hy85⟩) ?ty85
  case hy85 => (intro w hSw; obtain ⟨⟨e0, e1, e2, e3, e4, e5, e6, e7⟩, eT⟩ := hSw; dsimp only at e0 e1 e2 e3 e4 e5 e6 e7; go_simp; all_goals with_reducible rfl)
  simp only [Act.put, J1, J2, J3, J4, J5, J6]
  refine tk (i := 8) (v := ?_) rfl (Or.inl ⟨by rfl, ?hy86⟩) ?ty86
  case hy86 => (intro w hSw; obtain ⟨⟨e0, e1, e2, e3, e4, e5, e6, e7⟩, eT⟩ := hSw; dsimp only at e0 e1 e2 e3 e4 e5 e6 e7; go_simp; all_goals with_reducible rfl)
  simp only [Act.put, J1, J2, J3, J4, J5, J6]
  refine tk (i := 9) (v := ?_) rfl (Or.inl ⟨by rfl, ?hy87⟩) ?ty87
  case hy87 => (intro w hSw; obtain ⟨⟨e0, e1, e2, e3, e4, e5, e6, e7⟩, eT⟩ := hSw; dsimp only at e0 e1 e2 e3 e4 e5 e6 e7; go_simp; all_goals with_reducible rfl)
  simp only [Act.put, J1, J2, J3, J4, J5, J6]
  refine tk (i := 10) (v := ?_) rfl (Or.inl ⟨by rfl, ?hy88⟩) ?ty88
  case hy88 => (intro w hSw; obtain ⟨⟨e0, e1, e2, e3, e4, e5, e6, e7⟩, eT⟩ := hSw; dsimp only at e0 e1 e2 e3 e4 e5 e6 e7; go_simp; all_goals with_reducible rfl)
  simp only [Act.put, J1, J2, J3, J4, J5, J6]
  refine wpAnyH_ready (rs := [6]) (by kernel_rfl) (by simp) ?_
  refine AllReadyH.cons rfl (fun K hK => ?_) AllReadyH.nil
  go_simp
  refine (HBI _ (hs.below (Below.refl _ _).drew)).mono ?_
  rintro e w1 ⟨rfl, hb1⟩
  have hb1 : Below W.heap.size W w1 := (Below.refl _ _).drew.trans hb1
  have hQ1 := hQ.below hb1 hQ.lt
  have hT1 := (hb1.cell (p := ⟨0, 4, none⟩) hTl).trans hT
  refine hK.out _ _ ⟨hQ1, hT1⟩ (fun hHeld => ?_)
  clear hK K
  refine tk (i := 11) (v := ?_) rfl (Or.inl ⟨by rfl, ?hy89⟩) ?ty89
  case hy89 => (intro w hSw; obtain ⟨⟨e0, e1, e2, e3, e4, e5, e6, e7⟩, eT⟩ := hSw; dsimp only at e0 e1 e2 e3 e4 e5 e6 e7; go_simp; all_goals with_reducible rfl)
  simp only [Act.put, J1, J2, J3, J4, J5, J6]
  refine tk (i := 12) (v := .bool true) rfl (Or.inl ⟨by rfl, ?hy90⟩) ?ty90
  case hy90 => (intro w hSw; obtain ⟨⟨e0, e1, e2, e3, e4, e5, e6, e7⟩, eT⟩ := hSw; dsimp only at e0 e1 e2 e3 e4 e5 e6 e7; go_simp; exact HA.out)
  simp only [Act.put, J1, J2, J3, J4, J5, J6]
  refine tk (i := 13) (v := .bool true) rfl (Or.inl ⟨by rfl, ?hy91⟩) ?ty91
  case hy91 => (intro w hSw; obtain ⟨⟨e0, e1, e2, e3, e4, e5, e6, e7⟩, eT⟩ := hSw; dsimp only at e0 e1 e2 e3 e4 e5 e6 e7; go_simp; first | (simp; done) | (all_goals with_reducible rfl))
  simp only [Act.put, J1, J2, J3, J4, J5, J6]
  refine wpAnyH_done (by kernel_rfl) ?_ _
  clear hHeld
  go_wp2
  go_ret
  exact ⟨by rw [HR.out]; rfl, hb0.trans (hb1.mono hb0.size)⟩
 | true =>
  have hA' : Go.bits BinOp.andNot IntKind.i64 bz 14 = 0 := by have h := HA.out; simpa using h
  replace HA : Hid (Go.bits BinOp.andNot IntKind.i64 bz 14 = 0) := hA'
  clear hA'
  refine wp_region_held_drew (S := fun w' => Qo w' w.heap.size (opQ ⟨4, ox0, ot0, ou0, om0, of0, od0, ob0⟩ p) ∧ w'.cell? ⟨0, 4, none⟩ = some (.int .i64 14)) (by kernel_rfl) ?hS92 (fun hHeld => ?_)
  case hS92 => exact ⟨hQ, hT⟩
  refine tk (i := 0) (v := ?_) rfl (Or.inl ⟨by rfl, ?hy93⟩) ?ty93
  case hy93 => (intro w hSw; obtain ⟨⟨e0, e1, e2, e3, e4, e5, e6, e7⟩, eT⟩ := hSw; dsimp only at e0 e1 e2 e3 e4 e5 e6 e7; go_simp; all_goals with_reducible rfl)
  simp only [Act.put, J1, J2, J4, J5, J6]
  refine tk (i := 1) (v := ?_) rfl (Or.inl ⟨by rfl, ?hy94⟩) ?ty94
  case hy94 => (intro w hSw; obtain ⟨⟨e0, e1, e2, e3, e4, e5, e6, e7⟩, eT⟩ := hSw; dsimp only at e0 e1 e2 e3 e4 e5 e6 e7; go_simp; all_goals with_reducible rfl)
  simp only [Act.put, J1, J2, J3, J4, J5, J6]
  refine wpAnyH_ready (rs := [2]) (by kernel_rfl) (by simp) ?_
  refine AllReadyH.cons rfl (fun K hK => ?_) AllReadyH.nil
  go_simp
  refine (HB _).mono ?_
  rintro e w1 ⟨rfl, rfl⟩
  refine hK.out _ _ ⟨hQ, hT⟩ (fun hHeld => ?_)
  clear hK K
  refine tk (i := 3) (v := ?_) rfl (Or.inl ⟨by rfl, ?hy95⟩) ?ty95
  case hy95 => (intro w hSw; obtain ⟨⟨e0, e1, e2, e3, e4, e5, e6, e7⟩, eT⟩ := hSw; dsimp only at e0 e1 e2 e3 e4 e5 e6 e7; go_simp; all_goals with_reducible rfl)
  simp only [Act.put, J1, J2, J3, J4, J5, J6]
  refine tk (i := 4) (v := ?_) rfl (Or.inl ⟨by rfl, ?hy96⟩) ?ty96
  case hy96 => (intro w hSw; obtain ⟨⟨e0, e1, e2, e3, e4, e5, e6, e7⟩, eT⟩ := hSw; dsimp only at e0 e1 e2 e3 e4 e5 e6 e7; go_simp; all_goals with_reducible rfl)
  simp only [Act.put, J1, J2, J3, J4, J5, J6]
  refine tk (i := 5) (v := ?_) rfl (Or.inl ⟨by rfl, ?hy97⟩) ?ty97
  case hy97 => (intro w hSw; obtain ⟨⟨e0, e1, e2, e3, e4, e5, e6, e7⟩, eT⟩ := hSw; dsimp only at e0 e1 e2 e3 e4 e5 e6 e7; go_simp; all_goals with_reducible rfl)
  simp only [Act.put, J1, J2, J3, J4, J5, J6]
  refine tk (i := 7) (v := ?_) rfl (Or.inl ⟨by rfl, ?hy98⟩) ?ty98
  case hy98 => (intro w hSw; obtain ⟨⟨e0, e1, e2, e3, e4, e5, e6, e7⟩, eT⟩ := hSw; dsimp only at e0 e1 e2 e3 e4 e5 e6 e7; go_simp; all_goals with_reducible rfl)
  simp only [Act.put, J1, J2, J3, J4, J5, J6]
  refine tk (i := 8) (v := ?_) rfl (Or.inl ⟨by rfl, ?hy99⟩) ?ty99
  case hy99 => (intro w hSw; obtain ⟨⟨e0, e1, e2, e3, e4, e5, e6, e7⟩, eT⟩ := hSw; dsimp only at e0 e1 e2 e3 e4 e5 e6 e7; go_simp; all_goals with_reducible rfl)
  simp only [Act.put, J1, J2, J3, J4, J5, J6]
  refine tk (i := 9) (v := ?_) rfl (Or.inl ⟨by rfl, ?hy100⟩) ?ty100
  case hy100 => (intro w hSw; obtain ⟨⟨e0, e1, e2, e3, e4, e5, e6, e7⟩, eT⟩ := hSw; dsimp only at e0 e1 e2 e3 e4 e5 e6 e7; go_simp; all_goals with_reducible rfl)
  simp only [Act.put, J1, J2, J3, J4, J5, J6]
  refine tk (i := 10) (v := ?_) rfl (Or.inl ⟨by rfl, ?hy101⟩) ?ty101
  case hy101 => (intro w hSw; obtain ⟨⟨e0, e1, e2, e3, e4, e5, e6, e7⟩, eT⟩ := hSw; dsimp only at e0 e1 e2 e3 e4 e5 e6 e7; go_simp; all_goals with_reducible rfl)
  simp only [Act.put, J1, J2, J3, J4, J5, J6]
  refine wpAnyH_ready (rs := [6]) (by kernel_rfl) (by simp) ?_
  refine AllReadyH.cons rfl (fun K hK => ?_) AllReadyH.nil
  go_simp
  refine (HBI _ (hs.below (Below.refl _ _).drew)).mono ?_
  rintro e w1 ⟨rfl, hb1⟩
  have hb1 : Below W.heap.size W w1 := (Below.refl _ _).drew.trans hb1
  have hQ1 := hQ.below hb1 hQ.lt
  have hT1 := (hb1.cell (p := ⟨0, 4, none⟩) hTl).trans hT
  refine hK.out _ _ ⟨hQ1, hT1⟩ (fun hHeld => ?_)
  clear hK K
  refine tk (i := 11) (v := ?_) rfl (Or.inl ⟨by rfl, ?hy102⟩) ?ty102
  case hy102 => (intro w hSw; obtain ⟨⟨e0, e1, e2, e3, e4, e5, e6, e7⟩, eT⟩ := hSw; dsimp only at e0 e1 e2 e3 e4 e5 e6 e7; go_simp; all_goals with_reducible rfl)
  simp only [Act.put, J1, J2, J3, J4, J5, J6]
  refine tk (i := 12) (v := .bool false) rfl (Or.inl ⟨by rfl, ?hy103⟩) ?ty103
  case hy103 => (intro w hSw; obtain ⟨⟨e0, e1, e2, e3, e4, e5, e6, e7⟩, eT⟩ := hSw; dsimp only at e0 e1 e2 e3 e4 e5 e6 e7; go_simp; first | exact HA.out | (simp [HA.out]; done))
  simp only [Act.put, J1, J2, J3, J4, J5, J6]
  refine tk (i := 13) (v := .bool false) rfl (Or.inl ⟨by rfl, ?hy104⟩) ?ty104
  case hy104 => (intro w hSw; obtain ⟨⟨e0, e1, e2, e3, e4, e5, e6, e7⟩, eT⟩ := hSw; dsimp only at e0 e1 e2 e3 e4 e5 e6 e7; go_simp; first | (simp; done) | (all_goals with_reducible rfl))
  simp only [Act.put, J1, J2, J3, J4, J5, J6]
  refine wpAnyH_done (by kernel_rfl) ?_ _
  clear hHeld
  have hB1 := hb0.trans (hb1.mono hb0.size)
  have hs1 := hs.below hb1
  obtain ⟨c0, c1, c2, c3, c4, c5, c6, c7⟩ := id hQ1
  dsimp only at c0 c1 c2 c3 c4 c5 c6 c7
  clear hs hQ hT hTl hb0 hb1 HB HBI
  go_wp2_with fail
  refine (HX _).mono ?_
  rintro e w2 ⟨rfl, hb2⟩
  have hQ2 := hQ1.below hb2 hQ1.lt
  have hT2 := (hb2.cell (p := ⟨0, 4, none⟩) (World.block_lt_of_cell? _ ⟨0, 4, none⟩ hT1)).trans hT1
  have hs2 := hs1.below hb2
  have hB2 := hB1.trans (hb2.mono hB1.size)
  clear c0 c1 c2 c3 c4 c5 c6 c7 hQ1 hs1 hT1 hB1 hb2
  obtain ⟨c0, c1, c2, c3, c4, c5, c6, c7⟩ := id hQ2
  dsimp only at c0 c1 c2 c3 c4 c5 c6 c7
  cases bx with
  | false =>
   have HR : Hid (r = 5) := HV.out.trans (by simp)
   clear HV
   go_wp2
   go_ret
   exact ⟨by rw [HR.out]; rfl, hB2⟩
  | true =>
   by_cases hmany : 6 < p.1.2.1
   ·have hmi : (6 : Int) < (p.1.2.1 : Int) := by omega
    have HR : Hid (r = 2) := HV.out.trans (by simp [hmany])
    clear HV
    go_wp2
    go_ret
    exact ⟨by rw [HR.out]; rfl, hB2⟩
   ·have hmi : ¬ (6 : Int) < (p.1.2.1 : Int) := by omega
    go_wp2_with fail
    refine (HBD _ hs2).mono ?_
    rintro e w4 ⟨rfl, hb4⟩
    have hQ4 := hQ2.below hb4 hQ2.lt
    have hT4 := (hb4.cell (p := ⟨0, 4, none⟩) (World.block_lt_of_cell? _ ⟨0, 4, none⟩ hT2)).trans hT2
    have hs4 := hs2.below hb4
    have hB4 := hB2.trans (hb4.mono hB2.size)
    clear c0 c1 c2 c3 c4 c5 c6 c7 hQ2 hs2 hT2 hB2 hb4
    obtain ⟨c0, c1, c2, c3, c4, c5, c6, c7⟩ := id hQ4
    dsimp only at c0 c1 c2 c3 c4 c5 c6 c7
    cases rg with
    | false =>
     have HR : Hid (r = 3) := HV.out.trans (by simp [hmany])
     clear HV
     go_wp2
     go_ret
     exact ⟨by rw [HR.out]; rfl, hB4⟩
    | true =>
     by_cases h4 : 400 < p.2.2.1
     ·have h4i : (400 : Int) < (p.2.2.1 : Int) := by omega
      have HR : Hid (r = 2) := HV.out.trans (by simp [hmany, h4])
      clear HV
      go_wp2
      go_ret
      exact ⟨by rw [HR.out]; rfl, hB4⟩
     ·have h4i : ¬ (400 : Int) < (p.2.2.1 : Int) := by omega
      have HR : Hid (r = 0) := HV.out.trans (by simp [hmany, h4])
      clear HV
      go_wp2
      go_ret
      exact ⟨by rw [HR.out]; rfl, hB4⟩
set_option maxHeartbeats 3200000 in
set_option maxRecDepth 100000 in
theorem opFault_5 (ox0 ot0 : ByteArray) (ou0 : List Int) (om0 of0 od0 : Int) (ob0 : List Nat) (p : SlO) {lo : Nat} (w : World) (hs : IsOp lo w p ⟨5, ox0, ot0, ou0, om0, of0, od0, ob0⟩) (hT : TabH8 w) (hx : ox0.size ≤ 1048576) (ht : ot0.size ≤ 1048576) :
  Calls Tryd.prog 30 #[opX ⟨5, ox0, ot0, ou0, om0, of0, od0, ob0⟩ p] w fun e w' => e = .returned (.int .i64 (ofV ⟨5, ox0, ot0, ou0, om0, of0, od0, ob0⟩)) ∧ Below w.heap.size w w' := by
 have hu : ou0.length = p.1.2.1 := hs.1.1
 have hb : ob0.length = p.2.2.1 := hs.2.1
 have hm1 : p.1.2.1 ≤ maxLen := Nat.le_trans hs.1.2.1 hs.1.2.2.1
 have hm2 : p.2.2.1 ≤ maxLen := Nat.le_trans hs.2.2.1 hs.2.2.2.1
 have hV := ofV_eq ⟨5, ox0, ot0, ou0, om0, of0, od0, ob0⟩
 have hRG : rgV ⟨5, ox0, ot0, ou0, om0, of0, od0, ob0⟩ = (riU 0 ou0 && (!decide ((5 : Int) = 4) || bt om0 1 3) && bt of0 0 15 && bt od0 0 9999) := rfl
 have hFM : fmV ⟨5, ox0, ot0, ou0, om0, of0, od0, ob0⟩ = fmK 5 (h0B ⟨5, ox0, ot0, ou0, om0, of0, od0, ob0⟩) (h1B ⟨5, ox0, ot0, ou0, om0, of0, od0, ob0⟩) (h2B ⟨5, ox0, ot0, ou0, om0, of0, od0, ob0⟩) (h3B ⟨5, ox0, ot0, ou0, om0, of0, od0, ob0⟩) (h4B ⟨5, ox0, ot0, ou0, om0, of0, od0, ob0⟩) (h5B ⟨5, ox0, ot0, ou0, om0, of0, od0, ob0⟩) := rfl
 dsimp only at hV
 rw [hu, hb, ← hRG] at hV
 rw [show cpK (5 : Int) = true from rfl] at hV
 unfold maxLen at hm1 hm2
 have hb0 : Below w.heap.size w (w.alloc (.cells #[.int .i64 5, .string ox0, .string ot0, slW p.1, .int .i64 om0, .int .i64 of0, .int .i64 od0, slW p.2] 27)) := (Below.refl _ _).alloc (Nat.le_refl _) _
 have hQ : Qo (w.alloc (.cells #[.int .i64 5, .string ox0, .string ot0, slW p.1, .int .i64 om0, .int .i64 of0, .int .i64 od0, slW p.2] 27)) w.heap.size (opQ ⟨5, ox0, ot0, ou0, om0, of0, od0, ob0⟩ p) := Qo.new _ _ _ _ _ _ _ _ _ _
 have hs := hs.below hb0
 have hT := hT.below hb0
 have hTl : 0 < (w.alloc (.cells #[.int .i64 5, .string ox0, .string ot0, slW p.1, .int .i64 om0, .int .i64 of0, .int .i64 od0, slW p.2] 27)).heap.size := World.block_lt_of_cell? _ ⟨0, 0, none⟩ (hT 0 (by decide))
 have hT : (w.alloc (.cells #[.int .i64 5, .string ox0, .string ot0, slW p.1, .int .i64 om0, .int .i64 of0, .int .i64 od0, slW p.2] 27)).cell? ⟨0, 5, none⟩ = some (.int .i64 3) := hT 5 (by decide)
 have HB : ∀ w, Calls Tryd.prog 58 #[.int .i64 5, .int .i64 1, .int .i64 7] w fun e w' => e = .returned (.bool true) ∧ w = w' := isBetween_bt 5 1 7
 have HBI := fun (w' : World) (h : IsOp lo w' p ⟨5, ox0, ot0, ou0, om0, of0, od0, ob0⟩) => bitsOf_any ⟨5, ox0, ot0, ou0, om0, of0, od0, ob0⟩ p w' h
 have HBD := fun (w' : World) (h : IsOp lo w' p ⟨5, ox0, ot0, ou0, om0, of0, od0, ob0⟩) => hasBounds_any ⟨5, ox0, ot0, ou0, om0, of0, od0, ob0⟩ p w' h
 have HX := fun w => isBoxName_nm ox0 w hx
 have HTT := fun w => isBoxName_nm ot0 w ht
 have hA := fmK_bits5 (h0B ⟨5, ox0, ot0, ou0, om0, of0, od0, ob0⟩) (h1B ⟨5, ox0, ot0, ou0, om0, of0, od0, ob0⟩) (h2B ⟨5, ox0, ot0, ou0, om0, of0, od0, ob0⟩) (h3B ⟨5, ox0, ot0, ou0, om0, of0, od0, ob0⟩) (h4B ⟨5, ox0, ot0, ou0, om0, of0, od0, ob0⟩) (h5B ⟨5, ox0, ot0, ou0, om0, of0, od0, ob0⟩)
 rw [← hFM] at hA
 have HV : Hid (_) := hV
 clear hV hRG hFM hu hb
 generalize ofV ⟨5, ox0, ot0, ou0, om0, of0, od0, ob0⟩ = r at *
 generalize bitZ (h0B ⟨5, ox0, ot0, ou0, om0, of0, od0, ob0⟩) (h1B ⟨5, ox0, ot0, ou0, om0, of0, od0, ob0⟩) (h2B ⟨5, ox0, ot0, ou0, om0, of0, od0, ob0⟩) (h3B ⟨5, ox0, ot0, ou0, om0, of0, od0, ob0⟩) (h4B ⟨5, ox0, ot0, ou0, om0, of0, od0, ob0⟩) (h5B ⟨5, ox0, ot0, ou0, om0, of0, od0, ob0⟩) = bz at *
 generalize fmV ⟨5, ox0, ot0, ou0, om0, of0, od0, ob0⟩ = fm at *
 generalize rgV ⟨5, ox0, ot0, ou0, om0, of0, od0, ob0⟩ = rg at *
 generalize bnOk (txB ox0) = bx at *
 generalize bnOk (txB ot0) = btx at *
 have HA : Hid (_) := hA
 clear hA
 go_enter Tryd.func30, Tryd.ntmps30
 go_wp2_with fail
 generalize (w.alloc (.cells #[.int .i64 5, .string ox0, .string ot0, slW p.1, .int .i64 om0, .int .i64 of0, .int .i64 od0, slW p.2] 27)) = W at *
 cases fm with
 | false =>
  have HR : Hid (r = 1) := HV.out.trans (by simp)
  have hA' : ¬ Go.bits BinOp.andNot IntKind.i64 bz 3 = 0 := by have h := HA.out; simpa using h
  replace HA : Hid (¬ Go.bits BinOp.andNot IntKind.i64 bz 3 = 0) := hA'
  clear hA'
  clear HV
  refine wp_region_held_drew (S := fun w' => Qo w' w.heap.size (opQ ⟨5, ox0, ot0, ou0, om0, of0, od0, ob0⟩ p) ∧ w'.cell? ⟨0, 5, none⟩ = some (.int .i64 3)) (by kernel_rfl) ?hS105 (fun hHeld => ?_)
  case hS105 => exact ⟨hQ, hT⟩
  refine tk (i := 0) (v := ?_) rfl (Or.inl ⟨by rfl, ?hy106⟩) ?ty106
  case hy106 => (intro w hSw; obtain ⟨⟨e0, e1, e2, e3, e4, e5, e6, e7⟩, eT⟩ := hSw; dsimp only at e0 e1 e2 e3 e4 e5 e6 e7; go_simp; all_goals with_reducible rfl)
  simp only [Act.put, J1, J2, J4, J5, J6]
  refine tk (i := 1) (v := ?_) rfl (Or.inl ⟨by rfl, ?hy107⟩) ?ty107
  case hy107 => (intro w hSw; obtain ⟨⟨e0, e1, e2, e3, e4, e5, e6, e7⟩, eT⟩ := hSw; dsimp only at e0 e1 e2 e3 e4 e5 e6 e7; go_simp; all_goals with_reducible rfl)
  simp only [Act.put, J1, J2, J3, J4, J5, J6]
  refine wpAnyH_ready (rs := [2]) (by kernel_rfl) (by simp) ?_
  refine AllReadyH.cons rfl (fun K hK => ?_) AllReadyH.nil
  go_simp
  refine (HB _).mono ?_
  rintro e w1 ⟨rfl, rfl⟩
  refine hK.out _ _ ⟨hQ, hT⟩ (fun hHeld => ?_)
  clear hK K
  refine tk (i := 3) (v := ?_) rfl (Or.inl ⟨by rfl, ?hy108⟩) ?ty108
  case hy108 => (intro w hSw; obtain ⟨⟨e0, e1, e2, e3, e4, e5, e6, e7⟩, eT⟩ := hSw; dsimp only at e0 e1 e2 e3 e4 e5 e6 e7; go_simp; all_goals with_reducible rfl)
  simp only [Act.put, J1, J2, J3, J4, J5, J6]
  refine tk (i := 4) (v := ?_) rfl (Or.inl ⟨by rfl, ?hy109⟩) ?ty109
  case hy109 => (intro w hSw; obtain ⟨⟨e0, e1, e2, e3, e4, e5, e6, e7⟩, eT⟩ := hSw; dsimp only at e0 e1 e2 e3 e4 e5 e6 e7; go_simp; all_goals with_reducible rfl)
  simp only [Act.put, J1, J2, J3, J4, J5, J6]
  refine tk (i := 5) (v := ?_) rfl (Or.inl ⟨by rfl, ?hy110⟩) ?ty110
  case hy110 => (intro w hSw; obtain ⟨⟨e0, e1, e2, e3, e4, e5, e6, e7⟩, eT⟩ := hSw; dsimp only at e0 e1 e2 e3 e4 e5 e6 e7; go_simp; all_goals with_reducible rfl)
  simp only [Act.put, J1, J2, J3, J4, J5, J6]
  refine tk (i := 7) (v := ?_) rfl (Or.inl ⟨by rfl, ?hy111⟩) ?ty111
  case hy111 => (intro w hSw; obtain ⟨⟨e0, e1, e2, e3, e4, e5, e6, e7⟩, eT⟩ := hSw; dsimp only at e0 e1 e2 e3 e4 e5 e6 e7; go_simp; all_goals with_reducible rfl)
  simp only [Act.put, J1, J2, J3, J4, J5, J6]
  refine tk (i := 8) (v := ?_) rfl (Or.inl ⟨by rfl, ?hy112⟩) ?ty112
  case hy112 => (intro w hSw; obtain ⟨⟨e0, e1, e2, e3, e4, e5, e6, e7⟩, eT⟩ := hSw; dsimp only at e0 e1 e2 e3 e4 e5 e6 e7; go_simp; all_goals with_reducible rfl)
  simp only [Act.put, J1, J2, J3, J4, J5, J6]
  refine tk (i := 9) (v := ?_) rfl (Or.inl ⟨by rfl, ?hy113⟩) ?ty113
  case hy113 => (intro w hSw; obtain ⟨⟨e0, e1, e2, e3, e4, e5, e6, e7⟩, eT⟩ := hSw; dsimp only at e0 e1 e2 e3 e4 e5 e6 e7; go_simp; all_goals with_reducible rfl)
  simp only [Act.put, J1, J2, J3, J4, J5, J6]
  refine tk (i := 10) (v := ?_) rfl (Or.inl ⟨by rfl, ?hy114⟩) ?ty114
  case hy114 => (intro w hSw; obtain ⟨⟨e0, e1, e2, e3, e4, e5, e6, e7⟩, eT⟩ := hSw; dsimp only at e0 e1 e2 e3 e4 e5 e6 e7; go_simp; all_goals with_reducible rfl)
  simp only [Act.put, J1, J2, J3, J4, J5, J6]
  refine wpAnyH_ready (rs := [6]) (by kernel_rfl) (by simp) ?_
  refine AllReadyH.cons rfl (fun K hK => ?_) AllReadyH.nil
  go_simp
  refine (HBI _ (hs.below (Below.refl _ _).drew)).mono ?_
  rintro e w1 ⟨rfl, hb1⟩
  have hb1 : Below W.heap.size W w1 := (Below.refl _ _).drew.trans hb1
  have hQ1 := hQ.below hb1 hQ.lt
  have hT1 := (hb1.cell (p := ⟨0, 5, none⟩) hTl).trans hT
  refine hK.out _ _ ⟨hQ1, hT1⟩ (fun hHeld => ?_)
  clear hK K
  refine tk (i := 11) (v := ?_) rfl (Or.inl ⟨by rfl, ?hy115⟩) ?ty115
  case hy115 => (intro w hSw; obtain ⟨⟨e0, e1, e2, e3, e4, e5, e6, e7⟩, eT⟩ := hSw; dsimp only at e0 e1 e2 e3 e4 e5 e6 e7; go_simp; all_goals with_reducible rfl)
  simp only [Act.put, J1, J2, J3, J4, J5, J6]
  refine tk (i := 12) (v := .bool true) rfl (Or.inl ⟨by rfl, ?hy116⟩) ?ty116
  case hy116 => (intro w hSw; obtain ⟨⟨e0, e1, e2, e3, e4, e5, e6, e7⟩, eT⟩ := hSw; dsimp only at e0 e1 e2 e3 e4 e5 e6 e7; go_simp; exact HA.out)
  simp only [Act.put, J1, J2, J3, J4, J5, J6]
  refine tk (i := 13) (v := .bool true) rfl (Or.inl ⟨by rfl, ?hy117⟩) ?ty117
  case hy117 => (intro w hSw; obtain ⟨⟨e0, e1, e2, e3, e4, e5, e6, e7⟩, eT⟩ := hSw; dsimp only at e0 e1 e2 e3 e4 e5 e6 e7; go_simp; first | (simp; done) | (all_goals with_reducible rfl))
  simp only [Act.put, J1, J2, J3, J4, J5, J6]
  refine wpAnyH_done (by kernel_rfl) ?_ _
  clear hHeld
  go_wp2
  go_ret
  exact ⟨by rw [HR.out]; rfl, hb0.trans (hb1.mono hb0.size)⟩
 | true =>
  have hA' : Go.bits BinOp.andNot IntKind.i64 bz 3 = 0 := by have h := HA.out; simpa using h
  replace HA : Hid (Go.bits BinOp.andNot IntKind.i64 bz 3 = 0) := hA'
  clear hA'
  refine wp_region_held_drew (S := fun w' => Qo w' w.heap.size (opQ ⟨5, ox0, ot0, ou0, om0, of0, od0, ob0⟩ p) ∧ w'.cell? ⟨0, 5, none⟩ = some (.int .i64 3)) (by kernel_rfl) ?hS118 (fun hHeld => ?_)
  case hS118 => exact ⟨hQ, hT⟩
  refine tk (i := 0) (v := ?_) rfl (Or.inl ⟨by rfl, ?hy119⟩) ?ty119
  case hy119 => (intro w hSw; obtain ⟨⟨e0, e1, e2, e3, e4, e5, e6, e7⟩, eT⟩ := hSw; dsimp only at e0 e1 e2 e3 e4 e5 e6 e7; go_simp; all_goals with_reducible rfl)
  simp only [Act.put, J1, J2, J4, J5, J6]
  refine tk (i := 1) (v := ?_) rfl (Or.inl ⟨by rfl, ?hy120⟩) ?ty120
  case hy120 => (intro w hSw; obtain ⟨⟨e0, e1, e2, e3, e4, e5, e6, e7⟩, eT⟩ := hSw; dsimp only at e0 e1 e2 e3 e4 e5 e6 e7; go_simp; all_goals with_reducible rfl)
  simp only [Act.put, J1, J2, J3, J4, J5, J6]
  refine wpAnyH_ready (rs := [2]) (by kernel_rfl) (by simp) ?_
  refine AllReadyH.cons rfl (fun K hK => ?_) AllReadyH.nil
  go_simp
  refine (HB _).mono ?_
  rintro e w1 ⟨rfl, rfl⟩
  refine hK.out _ _ ⟨hQ, hT⟩ (fun hHeld => ?_)
  clear hK K
  refine tk (i := 3) (v := ?_) rfl (Or.inl ⟨by rfl, ?hy121⟩) ?ty121
  case hy121 => (intro w hSw; obtain ⟨⟨e0, e1, e2, e3, e4, e5, e6, e7⟩, eT⟩ := hSw; dsimp only at e0 e1 e2 e3 e4 e5 e6 e7; go_simp; all_goals with_reducible rfl)
  simp only [Act.put, J1, J2, J3, J4, J5, J6]
  refine tk (i := 4) (v := ?_) rfl (Or.inl ⟨by rfl, ?hy122⟩) ?ty122
  case hy122 => (intro w hSw; obtain ⟨⟨e0, e1, e2, e3, e4, e5, e6, e7⟩, eT⟩ := hSw; dsimp only at e0 e1 e2 e3 e4 e5 e6 e7; go_simp; all_goals with_reducible rfl)
  simp only [Act.put, J1, J2, J3, J4, J5, J6]
  refine tk (i := 5) (v := ?_) rfl (Or.inl ⟨by rfl, ?hy123⟩) ?ty123
  case hy123 => (intro w hSw; obtain ⟨⟨e0, e1, e2, e3, e4, e5, e6, e7⟩, eT⟩ := hSw; dsimp only at e0 e1 e2 e3 e4 e5 e6 e7; go_simp; all_goals with_reducible rfl)
  simp only [Act.put, J1, J2, J3, J4, J5, J6]
  refine tk (i := 7) (v := ?_) rfl (Or.inl ⟨by rfl, ?hy124⟩) ?ty124
  case hy124 => (intro w hSw; obtain ⟨⟨e0, e1, e2, e3, e4, e5, e6, e7⟩, eT⟩ := hSw; dsimp only at e0 e1 e2 e3 e4 e5 e6 e7; go_simp; all_goals with_reducible rfl)
  simp only [Act.put, J1, J2, J3, J4, J5, J6]
  refine tk (i := 8) (v := ?_) rfl (Or.inl ⟨by rfl, ?hy125⟩) ?ty125
  case hy125 => (intro w hSw; obtain ⟨⟨e0, e1, e2, e3, e4, e5, e6, e7⟩, eT⟩ := hSw; dsimp only at e0 e1 e2 e3 e4 e5 e6 e7; go_simp; all_goals with_reducible rfl)
  simp only [Act.put, J1, J2, J3, J4, J5, J6]
  refine tk (i := 9) (v := ?_) rfl (Or.inl ⟨by rfl, ?hy126⟩) ?ty126
  case hy126 => (intro w hSw; obtain ⟨⟨e0, e1, e2, e3, e4, e5, e6, e7⟩, eT⟩ := hSw; dsimp only at e0 e1 e2 e3 e4 e5 e6 e7; go_simp; all_goals with_reducible rfl)
  simp only [Act.put, J1, J2, J3, J4, J5, J6]
  refine tk (i := 10) (v := ?_) rfl (Or.inl ⟨by rfl, ?hy127⟩) ?ty127
  case hy127 => (intro w hSw; obtain ⟨⟨e0, e1, e2, e3, e4, e5, e6, e7⟩, eT⟩ := hSw; dsimp only at e0 e1 e2 e3 e4 e5 e6 e7; go_simp; all_goals with_reducible rfl)
  simp only [Act.put, J1, J2, J3, J4, J5, J6]
  refine wpAnyH_ready (rs := [6]) (by kernel_rfl) (by simp) ?_
  refine AllReadyH.cons rfl (fun K hK => ?_) AllReadyH.nil
  go_simp
  refine (HBI _ (hs.below (Below.refl _ _).drew)).mono ?_
  rintro e w1 ⟨rfl, hb1⟩
  have hb1 : Below W.heap.size W w1 := (Below.refl _ _).drew.trans hb1
  have hQ1 := hQ.below hb1 hQ.lt
  have hT1 := (hb1.cell (p := ⟨0, 5, none⟩) hTl).trans hT
  refine hK.out _ _ ⟨hQ1, hT1⟩ (fun hHeld => ?_)
  clear hK K
  refine tk (i := 11) (v := ?_) rfl (Or.inl ⟨by rfl, ?hy128⟩) ?ty128
  case hy128 => (intro w hSw; obtain ⟨⟨e0, e1, e2, e3, e4, e5, e6, e7⟩, eT⟩ := hSw; dsimp only at e0 e1 e2 e3 e4 e5 e6 e7; go_simp; all_goals with_reducible rfl)
  simp only [Act.put, J1, J2, J3, J4, J5, J6]
  refine tk (i := 12) (v := .bool false) rfl (Or.inl ⟨by rfl, ?hy129⟩) ?ty129
  case hy129 => (intro w hSw; obtain ⟨⟨e0, e1, e2, e3, e4, e5, e6, e7⟩, eT⟩ := hSw; dsimp only at e0 e1 e2 e3 e4 e5 e6 e7; go_simp; first | exact HA.out | (simp [HA.out]; done))
  simp only [Act.put, J1, J2, J3, J4, J5, J6]
  refine tk (i := 13) (v := .bool false) rfl (Or.inl ⟨by rfl, ?hy130⟩) ?ty130
  case hy130 => (intro w hSw; obtain ⟨⟨e0, e1, e2, e3, e4, e5, e6, e7⟩, eT⟩ := hSw; dsimp only at e0 e1 e2 e3 e4 e5 e6 e7; go_simp; first | (simp; done) | (all_goals with_reducible rfl))
  simp only [Act.put, J1, J2, J3, J4, J5, J6]
  refine wpAnyH_done (by kernel_rfl) ?_ _
  clear hHeld
  have hB1 := hb0.trans (hb1.mono hb0.size)
  have hs1 := hs.below hb1
  obtain ⟨c0, c1, c2, c3, c4, c5, c6, c7⟩ := id hQ1
  dsimp only at c0 c1 c2 c3 c4 c5 c6 c7
  clear hs hQ hT hTl hb0 hb1 HB HBI
  go_wp2_with fail
  refine (HX _).mono ?_
  rintro e w2 ⟨rfl, hb2⟩
  have hQ2 := hQ1.below hb2 hQ1.lt
  have hT2 := (hb2.cell (p := ⟨0, 5, none⟩) (World.block_lt_of_cell? _ ⟨0, 5, none⟩ hT1)).trans hT1
  have hs2 := hs1.below hb2
  have hB2 := hB1.trans (hb2.mono hB1.size)
  clear c0 c1 c2 c3 c4 c5 c6 c7 hQ1 hs1 hT1 hB1 hb2
  obtain ⟨c0, c1, c2, c3, c4, c5, c6, c7⟩ := id hQ2
  dsimp only at c0 c1 c2 c3 c4 c5 c6 c7
  cases bx with
  | false =>
   have HR : Hid (r = 5) := HV.out.trans (by simp)
   clear HV
   go_wp2
   go_ret
   exact ⟨by rw [HR.out]; rfl, hB2⟩
  | true =>
   go_wp2_with fail
   refine (HTT _).mono ?_
   rintro e w3 ⟨rfl, hb3⟩
   have hQ3 := hQ2.below hb3 hQ2.lt
   have hT3 := (hb3.cell (p := ⟨0, 5, none⟩) (World.block_lt_of_cell? _ ⟨0, 5, none⟩ hT2)).trans hT2
   have hs3 := hs2.below hb3
   have hB3 := hB2.trans (hb3.mono hB2.size)
   clear c0 c1 c2 c3 c4 c5 c6 c7 hQ2 hs2 hT2 hB2 hb3
   obtain ⟨c0, c1, c2, c3, c4, c5, c6, c7⟩ := id hQ3
   dsimp only at c0 c1 c2 c3 c4 c5 c6 c7
   cases btx with
   | false =>
    have HR : Hid (r = 5) := HV.out.trans (by simp)
    clear HV
    go_wp2
    go_ret
    exact ⟨by rw [HR.out]; rfl, hB3⟩
   | true =>
    by_cases hmany : 6 < p.1.2.1
    ·have hmi : (6 : Int) < (p.1.2.1 : Int) := by omega
     have HR : Hid (r = 2) := HV.out.trans (by simp [hmany])
     clear HV
     go_wp2
     go_ret
     exact ⟨by rw [HR.out]; rfl, hB3⟩
    ·have hmi : ¬ (6 : Int) < (p.1.2.1 : Int) := by omega
     go_wp2_with fail
     refine (HBD _ hs3).mono ?_
     rintro e w4 ⟨rfl, hb4⟩
     have hQ4 := hQ3.below hb4 hQ3.lt
     have hT4 := (hb4.cell (p := ⟨0, 5, none⟩) (World.block_lt_of_cell? _ ⟨0, 5, none⟩ hT3)).trans hT3
     have hs4 := hs3.below hb4
     have hB4 := hB3.trans (hb4.mono hB3.size)
     clear c0 c1 c2 c3 c4 c5 c6 c7 hQ3 hs3 hT3 hB3 hb4
     obtain ⟨c0, c1, c2, c3, c4, c5, c6, c7⟩ := id hQ4
     dsimp only at c0 c1 c2 c3 c4 c5 c6 c7
     cases rg with
     | false =>
      have HR : Hid (r = 3) := HV.out.trans (by simp [hmany])
      clear HV
      go_wp2
      go_ret
      exact ⟨by rw [HR.out]; rfl, hB4⟩
     | true =>
      by_cases h4 : 400 < p.2.2.1
      ·have h4i : (400 : Int) < (p.2.2.1 : Int) := by omega
       have HR : Hid (r = 2) := HV.out.trans (by simp [hmany, h4])
       clear HV
       go_wp2
       go_ret
       exact ⟨by rw [HR.out]; rfl, hB4⟩
      ·have h4i : ¬ (400 : Int) < (p.2.2.1 : Int) := by omega
       have HR : Hid (r = 0) := HV.out.trans (by simp [hmany, h4])
       clear HV
       go_wp2
       go_ret
       exact ⟨by rw [HR.out]; rfl, hB4⟩
set_option maxHeartbeats 3200000 in
set_option maxRecDepth 100000 in
theorem opFault_6 (ox0 ot0 : ByteArray) (ou0 : List Int) (om0 of0 od0 : Int) (ob0 : List Nat) (p : SlO) {lo : Nat} (w : World) (hs : IsOp lo w p ⟨6, ox0, ot0, ou0, om0, of0, od0, ob0⟩) (hT : TabH8 w) (hx : ox0.size ≤ 1048576) (ht : ot0.size ≤ 1048576) :
  Calls Tryd.prog 30 #[opX ⟨6, ox0, ot0, ou0, om0, of0, od0, ob0⟩ p] w fun e w' => e = .returned (.int .i64 (ofV ⟨6, ox0, ot0, ou0, om0, of0, od0, ob0⟩)) ∧ Below w.heap.size w w' := by
 have hu : ou0.length = p.1.2.1 := hs.1.1
 have hb : ob0.length = p.2.2.1 := hs.2.1
 have hm1 : p.1.2.1 ≤ maxLen := Nat.le_trans hs.1.2.1 hs.1.2.2.1
 have hm2 : p.2.2.1 ≤ maxLen := Nat.le_trans hs.2.2.1 hs.2.2.2.1
 have hV := ofV_eq ⟨6, ox0, ot0, ou0, om0, of0, od0, ob0⟩
 have hRG : rgV ⟨6, ox0, ot0, ou0, om0, of0, od0, ob0⟩ = (riU 0 ou0 && (!decide ((6 : Int) = 4) || bt om0 1 3) && bt of0 0 15 && bt od0 0 9999) := rfl
 have hFM : fmV ⟨6, ox0, ot0, ou0, om0, of0, od0, ob0⟩ = fmK 6 (h0B ⟨6, ox0, ot0, ou0, om0, of0, od0, ob0⟩) (h1B ⟨6, ox0, ot0, ou0, om0, of0, od0, ob0⟩) (h2B ⟨6, ox0, ot0, ou0, om0, of0, od0, ob0⟩) (h3B ⟨6, ox0, ot0, ou0, om0, of0, od0, ob0⟩) (h4B ⟨6, ox0, ot0, ou0, om0, of0, od0, ob0⟩) (h5B ⟨6, ox0, ot0, ou0, om0, of0, od0, ob0⟩) := rfl
 dsimp only at hV
 rw [hu, hb, ← hRG] at hV
 rw [show cpK (6 : Int) = true from rfl] at hV
 unfold maxLen at hm1 hm2
 have hb0 : Below w.heap.size w (w.alloc (.cells #[.int .i64 6, .string ox0, .string ot0, slW p.1, .int .i64 om0, .int .i64 of0, .int .i64 od0, slW p.2] 27)) := (Below.refl _ _).alloc (Nat.le_refl _) _
 have hQ : Qo (w.alloc (.cells #[.int .i64 6, .string ox0, .string ot0, slW p.1, .int .i64 om0, .int .i64 of0, .int .i64 od0, slW p.2] 27)) w.heap.size (opQ ⟨6, ox0, ot0, ou0, om0, of0, od0, ob0⟩ p) := Qo.new _ _ _ _ _ _ _ _ _ _
 have hs := hs.below hb0
 have hT := hT.below hb0
 have hTl : 0 < (w.alloc (.cells #[.int .i64 6, .string ox0, .string ot0, slW p.1, .int .i64 om0, .int .i64 of0, .int .i64 od0, slW p.2] 27)).heap.size := World.block_lt_of_cell? _ ⟨0, 0, none⟩ (hT 0 (by decide))
 have hT : (w.alloc (.cells #[.int .i64 6, .string ox0, .string ot0, slW p.1, .int .i64 om0, .int .i64 of0, .int .i64 od0, slW p.2] 27)).cell? ⟨0, 6, none⟩ = some (.int .i64 3) := hT 6 (by decide)
 have HB : ∀ w, Calls Tryd.prog 58 #[.int .i64 6, .int .i64 1, .int .i64 7] w fun e w' => e = .returned (.bool true) ∧ w = w' := isBetween_bt 6 1 7
 have HBI := fun (w' : World) (h : IsOp lo w' p ⟨6, ox0, ot0, ou0, om0, of0, od0, ob0⟩) => bitsOf_any ⟨6, ox0, ot0, ou0, om0, of0, od0, ob0⟩ p w' h
 have HBD := fun (w' : World) (h : IsOp lo w' p ⟨6, ox0, ot0, ou0, om0, of0, od0, ob0⟩) => hasBounds_any ⟨6, ox0, ot0, ou0, om0, of0, od0, ob0⟩ p w' h
 have HX := fun w => isBoxName_nm ox0 w hx
 have HTT := fun w => isBoxName_nm ot0 w ht
 have hA := fmK_bits6 (h0B ⟨6, ox0, ot0, ou0, om0, of0, od0, ob0⟩) (h1B ⟨6, ox0, ot0, ou0, om0, of0, od0, ob0⟩) (h2B ⟨6, ox0, ot0, ou0, om0, of0, od0, ob0⟩) (h3B ⟨6, ox0, ot0, ou0, om0, of0, od0, ob0⟩) (h4B ⟨6, ox0, ot0, ou0, om0, of0, od0, ob0⟩) (h5B ⟨6, ox0, ot0, ou0, om0, of0, od0, ob0⟩)
 rw [← hFM] at hA
 have HV : Hid (_) := hV
 clear hV hRG hFM hu hb
 generalize ofV ⟨6, ox0, ot0, ou0, om0, of0, od0, ob0⟩ = r at *
 generalize bitZ (h0B ⟨6, ox0, ot0, ou0, om0, of0, od0, ob0⟩) (h1B ⟨6, ox0, ot0, ou0, om0, of0, od0, ob0⟩) (h2B ⟨6, ox0, ot0, ou0, om0, of0, od0, ob0⟩) (h3B ⟨6, ox0, ot0, ou0, om0, of0, od0, ob0⟩) (h4B ⟨6, ox0, ot0, ou0, om0, of0, od0, ob0⟩) (h5B ⟨6, ox0, ot0, ou0, om0, of0, od0, ob0⟩) = bz at *
 generalize fmV ⟨6, ox0, ot0, ou0, om0, of0, od0, ob0⟩ = fm at *
 generalize rgV ⟨6, ox0, ot0, ou0, om0, of0, od0, ob0⟩ = rg at *
 generalize bnOk (txB ox0) = bx at *
 generalize bnOk (txB ot0) = btx at *
 have HA : Hid (_) := hA
 clear hA
 go_enter Tryd.func30, Tryd.ntmps30
 go_wp2_with fail
 generalize (w.alloc (.cells #[.int .i64 6, .string ox0, .string ot0, slW p.1, .int .i64 om0, .int .i64 of0, .int .i64 od0, slW p.2] 27)) = W at *
 cases fm with
 | false =>
  have HR : Hid (r = 1) := HV.out.trans (by simp)
  have hA' : ¬ Go.bits BinOp.andNot IntKind.i64 bz 3 = 0 := by have h := HA.out; simpa using h
  replace HA : Hid (¬ Go.bits BinOp.andNot IntKind.i64 bz 3 = 0) := hA'
  clear hA'
  clear HV
  refine wp_region_held_drew (S := fun w' => Qo w' w.heap.size (opQ ⟨6, ox0, ot0, ou0, om0, of0, od0, ob0⟩ p) ∧ w'.cell? ⟨0, 6, none⟩ = some (.int .i64 3)) (by kernel_rfl) ?hS131 (fun hHeld => ?_)
  case hS131 => exact ⟨hQ, hT⟩
  refine tk (i := 0) (v := ?_) rfl (Or.inl ⟨by rfl, ?hy132⟩) ?ty132
  case hy132 => (intro w hSw; obtain ⟨⟨e0, e1, e2, e3, e4, e5, e6, e7⟩, eT⟩ := hSw; dsimp only at e0 e1 e2 e3 e4 e5 e6 e7; go_simp; all_goals with_reducible rfl)
  simp only [Act.put, J1, J2, J4, J5, J6]
  refine tk (i := 1) (v := ?_) rfl (Or.inl ⟨by rfl, ?hy133⟩) ?ty133
  case hy133 => (intro w hSw; obtain ⟨⟨e0, e1, e2, e3, e4, e5, e6, e7⟩, eT⟩ := hSw; dsimp only at e0 e1 e2 e3 e4 e5 e6 e7; go_simp; all_goals with_reducible rfl)
  simp only [Act.put, J1, J2, J3, J4, J5, J6]
  refine wpAnyH_ready (rs := [2]) (by kernel_rfl) (by simp) ?_
  refine AllReadyH.cons rfl (fun K hK => ?_) AllReadyH.nil
  go_simp
  refine (HB _).mono ?_
  rintro e w1 ⟨rfl, rfl⟩
  refine hK.out _ _ ⟨hQ, hT⟩ (fun hHeld => ?_)
  clear hK K
  refine tk (i := 3) (v := ?_) rfl (Or.inl ⟨by rfl, ?hy134⟩) ?ty134
  case hy134 => (intro w hSw; obtain ⟨⟨e0, e1, e2, e3, e4, e5, e6, e7⟩, eT⟩ := hSw; dsimp only at e0 e1 e2 e3 e4 e5 e6 e7; go_simp; all_goals with_reducible rfl)
  simp only [Act.put, J1, J2, J3, J4, J5, J6]
  refine tk (i := 4) (v := ?_) rfl (Or.inl ⟨by rfl, ?hy135⟩) ?ty135
  case hy135 => (intro w hSw; obtain ⟨⟨e0, e1, e2, e3, e4, e5, e6, e7⟩, eT⟩ := hSw; dsimp only at e0 e1 e2 e3 e4 e5 e6 e7; go_simp; all_goals with_reducible rfl)
  simp only [Act.put, J1, J2, J3, J4, J5, J6]
  refine tk (i := 5) (v := ?_) rfl (Or.inl ⟨by rfl, ?hy136⟩) ?ty136
  case hy136 => (intro w hSw; obtain ⟨⟨e0, e1, e2, e3, e4, e5, e6, e7⟩, eT⟩ := hSw; dsimp only at e0 e1 e2 e3 e4 e5 e6 e7; go_simp; all_goals with_reducible rfl)
  simp only [Act.put, J1, J2, J3, J4, J5, J6]
  refine tk (i := 7) (v := ?_) rfl (Or.inl ⟨by rfl, ?hy137⟩) ?ty137
  case hy137 => (intro w hSw; obtain ⟨⟨e0, e1, e2, e3, e4, e5, e6, e7⟩, eT⟩ := hSw; dsimp only at e0 e1 e2 e3 e4 e5 e6 e7; go_simp; all_goals with_reducible rfl)
  simp only [Act.put, J1, J2, J3, J4, J5, J6]
  refine tk (i := 8) (v := ?_) rfl (Or.inl ⟨by rfl, ?hy138⟩) ?ty138
  case hy138 => (intro w hSw; obtain ⟨⟨e0, e1, e2, e3, e4, e5, e6, e7⟩, eT⟩ := hSw; dsimp only at e0 e1 e2 e3 e4 e5 e6 e7; go_simp; all_goals with_reducible rfl)
  simp only [Act.put, J1, J2, J3, J4, J5, J6]
  refine tk (i := 9) (v := ?_) rfl (Or.inl ⟨by rfl, ?hy139⟩) ?ty139
  case hy139 => (intro w hSw; obtain ⟨⟨e0, e1, e2, e3, e4, e5, e6, e7⟩, eT⟩ := hSw; dsimp only at e0 e1 e2 e3 e4 e5 e6 e7; go_simp; all_goals with_reducible rfl)
  simp only [Act.put, J1, J2, J3, J4, J5, J6]
  refine tk (i := 10) (v := ?_) rfl (Or.inl ⟨by rfl, ?hy140⟩) ?ty140
  case hy140 => (intro w hSw; obtain ⟨⟨e0, e1, e2, e3, e4, e5, e6, e7⟩, eT⟩ := hSw; dsimp only at e0 e1 e2 e3 e4 e5 e6 e7; go_simp; all_goals with_reducible rfl)
  simp only [Act.put, J1, J2, J3, J4, J5, J6]
  refine wpAnyH_ready (rs := [6]) (by kernel_rfl) (by simp) ?_
  refine AllReadyH.cons rfl (fun K hK => ?_) AllReadyH.nil
  go_simp
  refine (HBI _ (hs.below (Below.refl _ _).drew)).mono ?_
  rintro e w1 ⟨rfl, hb1⟩
  have hb1 : Below W.heap.size W w1 := (Below.refl _ _).drew.trans hb1
  have hQ1 := hQ.below hb1 hQ.lt
  have hT1 := (hb1.cell (p := ⟨0, 6, none⟩) hTl).trans hT
  refine hK.out _ _ ⟨hQ1, hT1⟩ (fun hHeld => ?_)
  clear hK K
  refine tk (i := 11) (v := ?_) rfl (Or.inl ⟨by rfl, ?hy141⟩) ?ty141
  case hy141 => (intro w hSw; obtain ⟨⟨e0, e1, e2, e3, e4, e5, e6, e7⟩, eT⟩ := hSw; dsimp only at e0 e1 e2 e3 e4 e5 e6 e7; go_simp; all_goals with_reducible rfl)
  simp only [Act.put, J1, J2, J3, J4, J5, J6]
  refine tk (i := 12) (v := .bool true) rfl (Or.inl ⟨by rfl, ?hy142⟩) ?ty142
  case hy142 => (intro w hSw; obtain ⟨⟨e0, e1, e2, e3, e4, e5, e6, e7⟩, eT⟩ := hSw; dsimp only at e0 e1 e2 e3 e4 e5 e6 e7; go_simp; exact HA.out)
  simp only [Act.put, J1, J2, J3, J4, J5, J6]
  refine tk (i := 13) (v := .bool true) rfl (Or.inl ⟨by rfl, ?hy143⟩) ?ty143
  case hy143 => (intro w hSw; obtain ⟨⟨e0, e1, e2, e3, e4, e5, e6, e7⟩, eT⟩ := hSw; dsimp only at e0 e1 e2 e3 e4 e5 e6 e7; go_simp; first | (simp; done) | (all_goals with_reducible rfl))
  simp only [Act.put, J1, J2, J3, J4, J5, J6]
  refine wpAnyH_done (by kernel_rfl) ?_ _
  clear hHeld
  go_wp2
  go_ret
  exact ⟨by rw [HR.out]; rfl, hb0.trans (hb1.mono hb0.size)⟩
 | true =>
  have hA' : Go.bits BinOp.andNot IntKind.i64 bz 3 = 0 := by have h := HA.out; simpa using h
  replace HA : Hid (Go.bits BinOp.andNot IntKind.i64 bz 3 = 0) := hA'
  clear hA'
  refine wp_region_held_drew (S := fun w' => Qo w' w.heap.size (opQ ⟨6, ox0, ot0, ou0, om0, of0, od0, ob0⟩ p) ∧ w'.cell? ⟨0, 6, none⟩ = some (.int .i64 3)) (by kernel_rfl) ?hS144 (fun hHeld => ?_)
  case hS144 => exact ⟨hQ, hT⟩
  refine tk (i := 0) (v := ?_) rfl (Or.inl ⟨by rfl, ?hy145⟩) ?ty145
  case hy145 => (intro w hSw; obtain ⟨⟨e0, e1, e2, e3, e4, e5, e6, e7⟩, eT⟩ := hSw; dsimp only at e0 e1 e2 e3 e4 e5 e6 e7; go_simp; all_goals with_reducible rfl)
  simp only [Act.put, J1, J2, J4, J5, J6]
  refine tk (i := 1) (v := ?_) rfl (Or.inl ⟨by rfl, ?hy146⟩) ?ty146
  case hy146 => (intro w hSw; obtain ⟨⟨e0, e1, e2, e3, e4, e5, e6, e7⟩, eT⟩ := hSw; dsimp only at e0 e1 e2 e3 e4 e5 e6 e7; go_simp; all_goals with_reducible rfl)
  simp only [Act.put, J1, J2, J3, J4, J5, J6]
  refine wpAnyH_ready (rs := [2]) (by kernel_rfl) (by simp) ?_
  refine AllReadyH.cons rfl (fun K hK => ?_) AllReadyH.nil
  go_simp
  refine (HB _).mono ?_
  rintro e w1 ⟨rfl, rfl⟩
  refine hK.out _ _ ⟨hQ, hT⟩ (fun hHeld => ?_)
  clear hK K
  refine tk (i := 3) (v := ?_) rfl (Or.inl ⟨by rfl, ?hy147⟩) ?ty147
  case hy147 => (intro w hSw; obtain ⟨⟨e0, e1, e2, e3, e4, e5, e6, e7⟩, eT⟩ := hSw; dsimp only at e0 e1 e2 e3 e4 e5 e6 e7; go_simp; all_goals with_reducible rfl)
  simp only [Act.put, J1, J2, J3, J4, J5, J6]
  refine tk (i := 4) (v := ?_) rfl (Or.inl ⟨by rfl, ?hy148⟩) ?ty148
  case hy148 => (intro w hSw; obtain ⟨⟨e0, e1, e2, e3, e4, e5, e6, e7⟩, eT⟩ := hSw; dsimp only at e0 e1 e2 e3 e4 e5 e6 e7; go_simp; all_goals with_reducible rfl)
  simp only [Act.put, J1, J2, J3, J4, J5, J6]
  refine tk (i := 5) (v := ?_) rfl (Or.inl ⟨by rfl, ?hy149⟩) ?ty149
  case hy149 => (intro w hSw; obtain ⟨⟨e0, e1, e2, e3, e4, e5, e6, e7⟩, eT⟩ := hSw; dsimp only at e0 e1 e2 e3 e4 e5 e6 e7; go_simp; all_goals with_reducible rfl)
  simp only [Act.put, J1, J2, J3, J4, J5, J6]
  refine tk (i := 7) (v := ?_) rfl (Or.inl ⟨by rfl, ?hy150⟩) ?ty150
  case hy150 => (intro w hSw; obtain ⟨⟨e0, e1, e2, e3, e4, e5, e6, e7⟩, eT⟩ := hSw; dsimp only at e0 e1 e2 e3 e4 e5 e6 e7; go_simp; all_goals with_reducible rfl)
  simp only [Act.put, J1, J2, J3, J4, J5, J6]
  refine tk (i := 8) (v := ?_) rfl (Or.inl ⟨by rfl, ?hy151⟩) ?ty151
  case hy151 => (intro w hSw; obtain ⟨⟨e0, e1, e2, e3, e4, e5, e6, e7⟩, eT⟩ := hSw; dsimp only at e0 e1 e2 e3 e4 e5 e6 e7; go_simp; all_goals with_reducible rfl)
  simp only [Act.put, J1, J2, J3, J4, J5, J6]
  refine tk (i := 9) (v := ?_) rfl (Or.inl ⟨by rfl, ?hy152⟩) ?ty152
  case hy152 => (intro w hSw; obtain ⟨⟨e0, e1, e2, e3, e4, e5, e6, e7⟩, eT⟩ := hSw; dsimp only at e0 e1 e2 e3 e4 e5 e6 e7; go_simp; all_goals with_reducible rfl)
  simp only [Act.put, J1, J2, J3, J4, J5, J6]
  refine tk (i := 10) (v := ?_) rfl (Or.inl ⟨by rfl, ?hy153⟩) ?ty153
  case hy153 => (intro w hSw; obtain ⟨⟨e0, e1, e2, e3, e4, e5, e6, e7⟩, eT⟩ := hSw; dsimp only at e0 e1 e2 e3 e4 e5 e6 e7; go_simp; all_goals with_reducible rfl)
  simp only [Act.put, J1, J2, J3, J4, J5, J6]
  refine wpAnyH_ready (rs := [6]) (by kernel_rfl) (by simp) ?_
  refine AllReadyH.cons rfl (fun K hK => ?_) AllReadyH.nil
  go_simp
  refine (HBI _ (hs.below (Below.refl _ _).drew)).mono ?_
  rintro e w1 ⟨rfl, hb1⟩
  have hb1 : Below W.heap.size W w1 := (Below.refl _ _).drew.trans hb1
  have hQ1 := hQ.below hb1 hQ.lt
  have hT1 := (hb1.cell (p := ⟨0, 6, none⟩) hTl).trans hT
  refine hK.out _ _ ⟨hQ1, hT1⟩ (fun hHeld => ?_)
  clear hK K
  refine tk (i := 11) (v := ?_) rfl (Or.inl ⟨by rfl, ?hy154⟩) ?ty154
  case hy154 => (intro w hSw; obtain ⟨⟨e0, e1, e2, e3, e4, e5, e6, e7⟩, eT⟩ := hSw; dsimp only at e0 e1 e2 e3 e4 e5 e6 e7; go_simp; all_goals with_reducible rfl)
  simp only [Act.put, J1, J2, J3, J4, J5, J6]
  refine tk (i := 12) (v := .bool false) rfl (Or.inl ⟨by rfl, ?hy155⟩) ?ty155
  case hy155 => (intro w hSw; obtain ⟨⟨e0, e1, e2, e3, e4, e5, e6, e7⟩, eT⟩ := hSw; dsimp only at e0 e1 e2 e3 e4 e5 e6 e7; go_simp; first | exact HA.out | (simp [HA.out]; done))
  simp only [Act.put, J1, J2, J3, J4, J5, J6]
  refine tk (i := 13) (v := .bool false) rfl (Or.inl ⟨by rfl, ?hy156⟩) ?ty156
  case hy156 => (intro w hSw; obtain ⟨⟨e0, e1, e2, e3, e4, e5, e6, e7⟩, eT⟩ := hSw; dsimp only at e0 e1 e2 e3 e4 e5 e6 e7; go_simp; first | (simp; done) | (all_goals with_reducible rfl))
  simp only [Act.put, J1, J2, J3, J4, J5, J6]
  refine wpAnyH_done (by kernel_rfl) ?_ _
  clear hHeld
  have hB1 := hb0.trans (hb1.mono hb0.size)
  have hs1 := hs.below hb1
  obtain ⟨c0, c1, c2, c3, c4, c5, c6, c7⟩ := id hQ1
  dsimp only at c0 c1 c2 c3 c4 c5 c6 c7
  clear hs hQ hT hTl hb0 hb1 HB HBI
  go_wp2_with fail
  refine (HX _).mono ?_
  rintro e w2 ⟨rfl, hb2⟩
  have hQ2 := hQ1.below hb2 hQ1.lt
  have hT2 := (hb2.cell (p := ⟨0, 6, none⟩) (World.block_lt_of_cell? _ ⟨0, 6, none⟩ hT1)).trans hT1
  have hs2 := hs1.below hb2
  have hB2 := hB1.trans (hb2.mono hB1.size)
  clear c0 c1 c2 c3 c4 c5 c6 c7 hQ1 hs1 hT1 hB1 hb2
  obtain ⟨c0, c1, c2, c3, c4, c5, c6, c7⟩ := id hQ2
  dsimp only at c0 c1 c2 c3 c4 c5 c6 c7
  cases bx with
  | false =>
   have HR : Hid (r = 5) := HV.out.trans (by simp)
   clear HV
   go_wp2
   go_ret
   exact ⟨by rw [HR.out]; rfl, hB2⟩
  | true =>
   go_wp2_with fail
   refine (HTT _).mono ?_
   rintro e w3 ⟨rfl, hb3⟩
   have hQ3 := hQ2.below hb3 hQ2.lt
   have hT3 := (hb3.cell (p := ⟨0, 6, none⟩) (World.block_lt_of_cell? _ ⟨0, 6, none⟩ hT2)).trans hT2
   have hs3 := hs2.below hb3
   have hB3 := hB2.trans (hb3.mono hB2.size)
   clear c0 c1 c2 c3 c4 c5 c6 c7 hQ2 hs2 hT2 hB2 hb3
   obtain ⟨c0, c1, c2, c3, c4, c5, c6, c7⟩ := id hQ3
   dsimp only at c0 c1 c2 c3 c4 c5 c6 c7
   cases btx with
   | false =>
    have HR : Hid (r = 5) := HV.out.trans (by simp)
    clear HV
    go_wp2
    go_ret
    exact ⟨by rw [HR.out]; rfl, hB3⟩
   | true =>
    by_cases hmany : 6 < p.1.2.1
    ·have hmi : (6 : Int) < (p.1.2.1 : Int) := by omega
     have HR : Hid (r = 2) := HV.out.trans (by simp [hmany])
     clear HV
     go_wp2
     go_ret
     exact ⟨by rw [HR.out]; rfl, hB3⟩
    ·have hmi : ¬ (6 : Int) < (p.1.2.1 : Int) := by omega
     go_wp2_with fail
     refine (HBD _ hs3).mono ?_
     rintro e w4 ⟨rfl, hb4⟩
     have hQ4 := hQ3.below hb4 hQ3.lt
     have hT4 := (hb4.cell (p := ⟨0, 6, none⟩) (World.block_lt_of_cell? _ ⟨0, 6, none⟩ hT3)).trans hT3
     have hs4 := hs3.below hb4
     have hB4 := hB3.trans (hb4.mono hB3.size)
     clear c0 c1 c2 c3 c4 c5 c6 c7 hQ3 hs3 hT3 hB3 hb4
     obtain ⟨c0, c1, c2, c3, c4, c5, c6, c7⟩ := id hQ4
     dsimp only at c0 c1 c2 c3 c4 c5 c6 c7
     cases rg with
     | false =>
      have HR : Hid (r = 3) := HV.out.trans (by simp [hmany])
      clear HV
      go_wp2
      go_ret
      exact ⟨by rw [HR.out]; rfl, hB4⟩
     | true =>
      by_cases h4 : 400 < p.2.2.1
      ·have h4i : (400 : Int) < (p.2.2.1 : Int) := by omega
       have HR : Hid (r = 2) := HV.out.trans (by simp [hmany, h4])
       clear HV
       go_wp2
       go_ret
       exact ⟨by rw [HR.out]; rfl, hB4⟩
      ·have h4i : ¬ (400 : Int) < (p.2.2.1 : Int) := by omega
       have HR : Hid (r = 0) := HV.out.trans (by simp [hmany, h4])
       clear HV
       go_wp2
       go_ret
       exact ⟨by rw [HR.out]; rfl, hB4⟩
set_option maxHeartbeats 3200000 in
set_option maxRecDepth 100000 in
theorem opFault_7 (ox0 ot0 : ByteArray) (ou0 : List Int) (om0 of0 od0 : Int) (ob0 : List Nat) (p : SlO) {lo : Nat} (w : World) (hs : IsOp lo w p ⟨7, ox0, ot0, ou0, om0, of0, od0, ob0⟩) (hT : TabH8 w) (hx : ox0.size ≤ 1048576) (ht : ot0.size ≤ 1048576) :
  Calls Tryd.prog 30 #[opX ⟨7, ox0, ot0, ou0, om0, of0, od0, ob0⟩ p] w fun e w' => e = .returned (.int .i64 (ofV ⟨7, ox0, ot0, ou0, om0, of0, od0, ob0⟩)) ∧ Below w.heap.size w w' := by
 have hu : ou0.length = p.1.2.1 := hs.1.1
 have hb : ob0.length = p.2.2.1 := hs.2.1
 have hm1 : p.1.2.1 ≤ maxLen := Nat.le_trans hs.1.2.1 hs.1.2.2.1
 have hm2 : p.2.2.1 ≤ maxLen := Nat.le_trans hs.2.2.1 hs.2.2.2.1
 have hV := ofV_eq ⟨7, ox0, ot0, ou0, om0, of0, od0, ob0⟩
 have hRG : rgV ⟨7, ox0, ot0, ou0, om0, of0, od0, ob0⟩ = (riU 0 ou0 && (!decide ((7 : Int) = 4) || bt om0 1 3) && bt of0 0 15 && bt od0 0 9999) := rfl
 have hFM : fmV ⟨7, ox0, ot0, ou0, om0, of0, od0, ob0⟩ = fmK 7 (h0B ⟨7, ox0, ot0, ou0, om0, of0, od0, ob0⟩) (h1B ⟨7, ox0, ot0, ou0, om0, of0, od0, ob0⟩) (h2B ⟨7, ox0, ot0, ou0, om0, of0, od0, ob0⟩) (h3B ⟨7, ox0, ot0, ou0, om0, of0, od0, ob0⟩) (h4B ⟨7, ox0, ot0, ou0, om0, of0, od0, ob0⟩) (h5B ⟨7, ox0, ot0, ou0, om0, of0, od0, ob0⟩) := rfl
 dsimp only at hV
 rw [hu, hb, ← hRG] at hV
 rw [show cpK (7 : Int) = false from rfl] at hV
 unfold maxLen at hm1 hm2
 have hb0 : Below w.heap.size w (w.alloc (.cells #[.int .i64 7, .string ox0, .string ot0, slW p.1, .int .i64 om0, .int .i64 of0, .int .i64 od0, slW p.2] 27)) := (Below.refl _ _).alloc (Nat.le_refl _) _
 have hQ : Qo (w.alloc (.cells #[.int .i64 7, .string ox0, .string ot0, slW p.1, .int .i64 om0, .int .i64 of0, .int .i64 od0, slW p.2] 27)) w.heap.size (opQ ⟨7, ox0, ot0, ou0, om0, of0, od0, ob0⟩ p) := Qo.new _ _ _ _ _ _ _ _ _ _
 have hs := hs.below hb0
 have hT := hT.below hb0
 have hTl : 0 < (w.alloc (.cells #[.int .i64 7, .string ox0, .string ot0, slW p.1, .int .i64 om0, .int .i64 of0, .int .i64 od0, slW p.2] 27)).heap.size := World.block_lt_of_cell? _ ⟨0, 0, none⟩ (hT 0 (by decide))
 have hT : (w.alloc (.cells #[.int .i64 7, .string ox0, .string ot0, slW p.1, .int .i64 om0, .int .i64 of0, .int .i64 od0, slW p.2] 27)).cell? ⟨0, 7, none⟩ = some (.int .i64 0) := hT 7 (by decide)
 have HB : ∀ w, Calls Tryd.prog 58 #[.int .i64 7, .int .i64 1, .int .i64 7] w fun e w' => e = .returned (.bool true) ∧ w = w' := isBetween_bt 7 1 7
 have HBI := fun (w' : World) (h : IsOp lo w' p ⟨7, ox0, ot0, ou0, om0, of0, od0, ob0⟩) => bitsOf_any ⟨7, ox0, ot0, ou0, om0, of0, od0, ob0⟩ p w' h
 have HBD := fun (w' : World) (h : IsOp lo w' p ⟨7, ox0, ot0, ou0, om0, of0, od0, ob0⟩) => hasBounds_any ⟨7, ox0, ot0, ou0, om0, of0, od0, ob0⟩ p w' h
 have HX := fun w => isBoxName_nm ox0 w hx
 have HTT := fun w => isBoxName_nm ot0 w ht
 have hA := fmK_bits7 (h0B ⟨7, ox0, ot0, ou0, om0, of0, od0, ob0⟩) (h1B ⟨7, ox0, ot0, ou0, om0, of0, od0, ob0⟩) (h2B ⟨7, ox0, ot0, ou0, om0, of0, od0, ob0⟩) (h3B ⟨7, ox0, ot0, ou0, om0, of0, od0, ob0⟩) (h4B ⟨7, ox0, ot0, ou0, om0, of0, od0, ob0⟩) (h5B ⟨7, ox0, ot0, ou0, om0, of0, od0, ob0⟩)
 rw [← hFM] at hA
 have HV : Hid (_) := hV
 clear hV hRG hFM hu hb
 generalize ofV ⟨7, ox0, ot0, ou0, om0, of0, od0, ob0⟩ = r at *
 generalize bitZ (h0B ⟨7, ox0, ot0, ou0, om0, of0, od0, ob0⟩) (h1B ⟨7, ox0, ot0, ou0, om0, of0, od0, ob0⟩) (h2B ⟨7, ox0, ot0, ou0, om0, of0, od0, ob0⟩) (h3B ⟨7, ox0, ot0, ou0, om0, of0, od0, ob0⟩) (h4B ⟨7, ox0, ot0, ou0, om0, of0, od0, ob0⟩) (h5B ⟨7, ox0, ot0, ou0, om0, of0, od0, ob0⟩) = bz at *
 generalize fmV ⟨7, ox0, ot0, ou0, om0, of0, od0, ob0⟩ = fm at *
 generalize rgV ⟨7, ox0, ot0, ou0, om0, of0, od0, ob0⟩ = rg at *
 generalize bnOk (txB ox0) = bx at *
 generalize bnOk (txB ot0) = btx at *
 have HA : Hid (_) := hA
 clear hA
 go_enter Tryd.func30, Tryd.ntmps30
 go_wp2_with fail
 generalize (w.alloc (.cells #[.int .i64 7, .string ox0, .string ot0, slW p.1, .int .i64 om0, .int .i64 of0, .int .i64 od0, slW p.2] 27)) = W at *
 cases fm with
 | false =>
  have HR : Hid (r = 1) := HV.out.trans (by simp)
  have hA' : ¬ Go.bits BinOp.andNot IntKind.i64 bz 0 = 0 := by have h := HA.out; simpa using h
  replace HA : Hid (¬ Go.bits BinOp.andNot IntKind.i64 bz 0 = 0) := hA'
  clear hA'
  clear HV
  refine wp_region_held_drew (S := fun w' => Qo w' w.heap.size (opQ ⟨7, ox0, ot0, ou0, om0, of0, od0, ob0⟩ p) ∧ w'.cell? ⟨0, 7, none⟩ = some (.int .i64 0)) (by kernel_rfl) ?hS157 (fun hHeld => ?_)
  case hS157 => exact ⟨hQ, hT⟩
  refine tk (i := 0) (v := ?_) rfl (Or.inl ⟨by rfl, ?hy158⟩) ?ty158
  case hy158 => (intro w hSw; obtain ⟨⟨e0, e1, e2, e3, e4, e5, e6, e7⟩, eT⟩ := hSw; dsimp only at e0 e1 e2 e3 e4 e5 e6 e7; go_simp; all_goals with_reducible rfl)
  simp only [Act.put, J1, J2, J4, J5, J6]
  refine tk (i := 1) (v := ?_) rfl (Or.inl ⟨by rfl, ?hy159⟩) ?ty159
  case hy159 => (intro w hSw; obtain ⟨⟨e0, e1, e2, e3, e4, e5, e6, e7⟩, eT⟩ := hSw; dsimp only at e0 e1 e2 e3 e4 e5 e6 e7; go_simp; all_goals with_reducible rfl)
  simp only [Act.put, J1, J2, J3, J4, J5, J6]
  refine wpAnyH_ready (rs := [2]) (by kernel_rfl) (by simp) ?_
  refine AllReadyH.cons rfl (fun K hK => ?_) AllReadyH.nil
  go_simp
  refine (HB _).mono ?_
  rintro e w1 ⟨rfl, rfl⟩
  refine hK.out _ _ ⟨hQ, hT⟩ (fun hHeld => ?_)
  clear hK K
  refine tk (i := 3) (v := ?_) rfl (Or.inl ⟨by rfl, ?hy160⟩) ?ty160
  case hy160 => (intro w hSw; obtain ⟨⟨e0, e1, e2, e3, e4, e5, e6, e7⟩, eT⟩ := hSw; dsimp only at e0 e1 e2 e3 e4 e5 e6 e7; go_simp; all_goals with_reducible rfl)
  simp only [Act.put, J1, J2, J3, J4, J5, J6]
  refine tk (i := 4) (v := ?_) rfl (Or.inl ⟨by rfl, ?hy161⟩) ?ty161
  case hy161 => (intro w hSw; obtain ⟨⟨e0, e1, e2, e3, e4, e5, e6, e7⟩, eT⟩ := hSw; dsimp only at e0 e1 e2 e3 e4 e5 e6 e7; go_simp; all_goals with_reducible rfl)
  simp only [Act.put, J1, J2, J3, J4, J5, J6]
  refine tk (i := 5) (v := ?_) rfl (Or.inl ⟨by rfl, ?hy162⟩) ?ty162
  case hy162 => (intro w hSw; obtain ⟨⟨e0, e1, e2, e3, e4, e5, e6, e7⟩, eT⟩ := hSw; dsimp only at e0 e1 e2 e3 e4 e5 e6 e7; go_simp; all_goals with_reducible rfl)
  simp only [Act.put, J1, J2, J3, J4, J5, J6]
  refine tk (i := 7) (v := ?_) rfl (Or.inl ⟨by rfl, ?hy163⟩) ?ty163
  case hy163 => (intro w hSw; obtain ⟨⟨e0, e1, e2, e3, e4, e5, e6, e7⟩, eT⟩ := hSw; dsimp only at e0 e1 e2 e3 e4 e5 e6 e7; go_simp; all_goals with_reducible rfl)
  simp only [Act.put, J1, J2, J3, J4, J5, J6]
  refine tk (i := 8) (v := ?_) rfl (Or.inl ⟨by rfl, ?hy164⟩) ?ty164
  case hy164 => (intro w hSw; obtain ⟨⟨e0, e1, e2, e3, e4, e5, e6, e7⟩, eT⟩ := hSw; dsimp only at e0 e1 e2 e3 e4 e5 e6 e7; go_simp; all_goals with_reducible rfl)
  simp only [Act.put, J1, J2, J3, J4, J5, J6]
  refine tk (i := 9) (v := ?_) rfl (Or.inl ⟨by rfl, ?hy165⟩) ?ty165
  case hy165 => (intro w hSw; obtain ⟨⟨e0, e1, e2, e3, e4, e5, e6, e7⟩, eT⟩ := hSw; dsimp only at e0 e1 e2 e3 e4 e5 e6 e7; go_simp; all_goals with_reducible rfl)
  simp only [Act.put, J1, J2, J3, J4, J5, J6]
  refine tk (i := 10) (v := ?_) rfl (Or.inl ⟨by rfl, ?hy166⟩) ?ty166
  case hy166 => (intro w hSw; obtain ⟨⟨e0, e1, e2, e3, e4, e5, e6, e7⟩, eT⟩ := hSw; dsimp only at e0 e1 e2 e3 e4 e5 e6 e7; go_simp; all_goals with_reducible rfl)
  simp only [Act.put, J1, J2, J3, J4, J5, J6]
  refine wpAnyH_ready (rs := [6]) (by kernel_rfl) (by simp) ?_
  refine AllReadyH.cons rfl (fun K hK => ?_) AllReadyH.nil
  go_simp
  refine (HBI _ (hs.below (Below.refl _ _).drew)).mono ?_
  rintro e w1 ⟨rfl, hb1⟩
  have hb1 : Below W.heap.size W w1 := (Below.refl _ _).drew.trans hb1
  have hQ1 := hQ.below hb1 hQ.lt
  have hT1 := (hb1.cell (p := ⟨0, 7, none⟩) hTl).trans hT
  refine hK.out _ _ ⟨hQ1, hT1⟩ (fun hHeld => ?_)
  clear hK K
  refine tk (i := 11) (v := ?_) rfl (Or.inl ⟨by rfl, ?hy167⟩) ?ty167
  case hy167 => (intro w hSw; obtain ⟨⟨e0, e1, e2, e3, e4, e5, e6, e7⟩, eT⟩ := hSw; dsimp only at e0 e1 e2 e3 e4 e5 e6 e7; go_simp; all_goals with_reducible rfl)
  simp only [Act.put, J1, J2, J3, J4, J5, J6]
  refine tk (i := 12) (v := .bool true) rfl (Or.inl ⟨by rfl, ?hy168⟩) ?ty168
  case hy168 => (intro w hSw; obtain ⟨⟨e0, e1, e2, e3, e4, e5, e6, e7⟩, eT⟩ := hSw; dsimp only at e0 e1 e2 e3 e4 e5 e6 e7; go_simp; exact HA.out)
  simp only [Act.put, J1, J2, J3, J4, J5, J6]
  refine tk (i := 13) (v := .bool true) rfl (Or.inl ⟨by rfl, ?hy169⟩) ?ty169
  case hy169 => (intro w hSw; obtain ⟨⟨e0, e1, e2, e3, e4, e5, e6, e7⟩, eT⟩ := hSw; dsimp only at e0 e1 e2 e3 e4 e5 e6 e7; go_simp; first | (simp; done) | (all_goals with_reducible rfl))
  simp only [Act.put, J1, J2, J3, J4, J5, J6]
  refine wpAnyH_done (by kernel_rfl) ?_ _
  clear hHeld
  go_wp2
  go_ret
  exact ⟨by rw [HR.out]; rfl, hb0.trans (hb1.mono hb0.size)⟩
 | true =>
  have hA' : Go.bits BinOp.andNot IntKind.i64 bz 0 = 0 := by have h := HA.out; simpa using h
  replace HA : Hid (Go.bits BinOp.andNot IntKind.i64 bz 0 = 0) := hA'
  clear hA'
  refine wp_region_held_drew (S := fun w' => Qo w' w.heap.size (opQ ⟨7, ox0, ot0, ou0, om0, of0, od0, ob0⟩ p) ∧ w'.cell? ⟨0, 7, none⟩ = some (.int .i64 0)) (by kernel_rfl) ?hS170 (fun hHeld => ?_)
  case hS170 => exact ⟨hQ, hT⟩
  refine tk (i := 0) (v := ?_) rfl (Or.inl ⟨by rfl, ?hy171⟩) ?ty171
  case hy171 => (intro w hSw; obtain ⟨⟨e0, e1, e2, e3, e4, e5, e6, e7⟩, eT⟩ := hSw; dsimp only at e0 e1 e2 e3 e4 e5 e6 e7; go_simp; all_goals with_reducible rfl)
  simp only [Act.put, J1, J2, J4, J5, J6]
  refine tk (i := 1) (v := ?_) rfl (Or.inl ⟨by rfl, ?hy172⟩) ?ty172
  case hy172 => (intro w hSw; obtain ⟨⟨e0, e1, e2, e3, e4, e5, e6, e7⟩, eT⟩ := hSw; dsimp only at e0 e1 e2 e3 e4 e5 e6 e7; go_simp; all_goals with_reducible rfl)
  simp only [Act.put, J1, J2, J3, J4, J5, J6]
  refine wpAnyH_ready (rs := [2]) (by kernel_rfl) (by simp) ?_
  refine AllReadyH.cons rfl (fun K hK => ?_) AllReadyH.nil
  go_simp
  refine (HB _).mono ?_
  rintro e w1 ⟨rfl, rfl⟩
  refine hK.out _ _ ⟨hQ, hT⟩ (fun hHeld => ?_)
  clear hK K
  refine tk (i := 3) (v := ?_) rfl (Or.inl ⟨by rfl, ?hy173⟩) ?ty173
  case hy173 => (intro w hSw; obtain ⟨⟨e0, e1, e2, e3, e4, e5, e6, e7⟩, eT⟩ := hSw; dsimp only at e0 e1 e2 e3 e4 e5 e6 e7; go_simp; all_goals with_reducible rfl)
  simp only [Act.put, J1, J2, J3, J4, J5, J6]
  refine tk (i := 4) (v := ?_) rfl (Or.inl ⟨by rfl, ?hy174⟩) ?ty174
  case hy174 => (intro w hSw; obtain ⟨⟨e0, e1, e2, e3, e4, e5, e6, e7⟩, eT⟩ := hSw; dsimp only at e0 e1 e2 e3 e4 e5 e6 e7; go_simp; all_goals with_reducible rfl)
  simp only [Act.put, J1, J2, J3, J4, J5, J6]
  refine tk (i := 5) (v := ?_) rfl (Or.inl ⟨by rfl, ?hy175⟩) ?ty175
  case hy175 => (intro w hSw; obtain ⟨⟨e0, e1, e2, e3, e4, e5, e6, e7⟩, eT⟩ := hSw; dsimp only at e0 e1 e2 e3 e4 e5 e6 e7; go_simp; all_goals with_reducible rfl)
  simp only [Act.put, J1, J2, J3, J4, J5, J6]
  refine tk (i := 7) (v := ?_) rfl (Or.inl ⟨by rfl, ?hy176⟩) ?ty176
  case hy176 => (intro w hSw; obtain ⟨⟨e0, e1, e2, e3, e4, e5, e6, e7⟩, eT⟩ := hSw; dsimp only at e0 e1 e2 e3 e4 e5 e6 e7; go_simp; all_goals with_reducible rfl)
  simp only [Act.put, J1, J2, J3, J4, J5, J6]
  refine tk (i := 8) (v := ?_) rfl (Or.inl ⟨by rfl, ?hy177⟩) ?ty177
  case hy177 => (intro w hSw; obtain ⟨⟨e0, e1, e2, e3, e4, e5, e6, e7⟩, eT⟩ := hSw; dsimp only at e0 e1 e2 e3 e4 e5 e6 e7; go_simp; all_goals with_reducible rfl)
  simp only [Act.put, J1, J2, J3, J4, J5, J6]
  refine tk (i := 9) (v := ?_) rfl (Or.inl ⟨by rfl, ?hy178⟩) ?ty178
  case hy178 => (intro w hSw; obtain ⟨⟨e0, e1, e2, e3, e4, e5, e6, e7⟩, eT⟩ := hSw; dsimp only at e0 e1 e2 e3 e4 e5 e6 e7; go_simp; all_goals with_reducible rfl)
  simp only [Act.put, J1, J2, J3, J4, J5, J6]
  refine tk (i := 10) (v := ?_) rfl (Or.inl ⟨by rfl, ?hy179⟩) ?ty179
  case hy179 => (intro w hSw; obtain ⟨⟨e0, e1, e2, e3, e4, e5, e6, e7⟩, eT⟩ := hSw; dsimp only at e0 e1 e2 e3 e4 e5 e6 e7; go_simp; all_goals with_reducible rfl)
  simp only [Act.put, J1, J2, J3, J4, J5, J6]
  refine wpAnyH_ready (rs := [6]) (by kernel_rfl) (by simp) ?_
  refine AllReadyH.cons rfl (fun K hK => ?_) AllReadyH.nil
  go_simp
  refine (HBI _ (hs.below (Below.refl _ _).drew)).mono ?_
  rintro e w1 ⟨rfl, hb1⟩
  have hb1 : Below W.heap.size W w1 := (Below.refl _ _).drew.trans hb1
  have hQ1 := hQ.below hb1 hQ.lt
  have hT1 := (hb1.cell (p := ⟨0, 7, none⟩) hTl).trans hT
  refine hK.out _ _ ⟨hQ1, hT1⟩ (fun hHeld => ?_)
  clear hK K
  refine tk (i := 11) (v := ?_) rfl (Or.inl ⟨by rfl, ?hy180⟩) ?ty180
  case hy180 => (intro w hSw; obtain ⟨⟨e0, e1, e2, e3, e4, e5, e6, e7⟩, eT⟩ := hSw; dsimp only at e0 e1 e2 e3 e4 e5 e6 e7; go_simp; all_goals with_reducible rfl)
  simp only [Act.put, J1, J2, J3, J4, J5, J6]
  refine tk (i := 12) (v := .bool false) rfl (Or.inl ⟨by rfl, ?hy181⟩) ?ty181
  case hy181 => (intro w hSw; obtain ⟨⟨e0, e1, e2, e3, e4, e5, e6, e7⟩, eT⟩ := hSw; dsimp only at e0 e1 e2 e3 e4 e5 e6 e7; go_simp; first | exact HA.out | (simp [HA.out]; done))
  simp only [Act.put, J1, J2, J3, J4, J5, J6]
  refine tk (i := 13) (v := .bool false) rfl (Or.inl ⟨by rfl, ?hy182⟩) ?ty182
  case hy182 => (intro w hSw; obtain ⟨⟨e0, e1, e2, e3, e4, e5, e6, e7⟩, eT⟩ := hSw; dsimp only at e0 e1 e2 e3 e4 e5 e6 e7; go_simp; first | (simp; done) | (all_goals with_reducible rfl))
  simp only [Act.put, J1, J2, J3, J4, J5, J6]
  refine wpAnyH_done (by kernel_rfl) ?_ _
  clear hHeld
  have hB1 := hb0.trans (hb1.mono hb0.size)
  have hs1 := hs.below hb1
  obtain ⟨c0, c1, c2, c3, c4, c5, c6, c7⟩ := id hQ1
  dsimp only at c0 c1 c2 c3 c4 c5 c6 c7
  clear hs hQ hT hTl hb0 hb1 HB HBI
  go_wp2_with fail
  refine (HX _).mono ?_
  rintro e w2 ⟨rfl, hb2⟩
  have hQ2 := hQ1.below hb2 hQ1.lt
  have hT2 := (hb2.cell (p := ⟨0, 7, none⟩) (World.block_lt_of_cell? _ ⟨0, 7, none⟩ hT1)).trans hT1
  have hs2 := hs1.below hb2
  have hB2 := hB1.trans (hb2.mono hB1.size)
  clear c0 c1 c2 c3 c4 c5 c6 c7 hQ1 hs1 hT1 hB1 hb2
  obtain ⟨c0, c1, c2, c3, c4, c5, c6, c7⟩ := id hQ2
  dsimp only at c0 c1 c2 c3 c4 c5 c6 c7
  cases bx with
  | false =>
   have HR : Hid (r = 5) := HV.out.trans (by simp)
   clear HV
   go_wp2
   go_ret
   exact ⟨by rw [HR.out]; rfl, hB2⟩
  | true =>
   by_cases hmany : 6 < p.1.2.1
   ·have hmi : (6 : Int) < (p.1.2.1 : Int) := by omega
    have HR : Hid (r = 2) := HV.out.trans (by simp [hmany])
    clear HV
    go_wp2
    go_ret
    exact ⟨by rw [HR.out]; rfl, hB2⟩
   ·have hmi : ¬ (6 : Int) < (p.1.2.1 : Int) := by omega
    go_wp2_with fail
    refine (HBD _ hs2).mono ?_
    rintro e w4 ⟨rfl, hb4⟩
    have hQ4 := hQ2.below hb4 hQ2.lt
    have hT4 := (hb4.cell (p := ⟨0, 7, none⟩) (World.block_lt_of_cell? _ ⟨0, 7, none⟩ hT2)).trans hT2
    have hs4 := hs2.below hb4
    have hB4 := hB2.trans (hb4.mono hB2.size)
    clear c0 c1 c2 c3 c4 c5 c6 c7 hQ2 hs2 hT2 hB2 hb4
    obtain ⟨c0, c1, c2, c3, c4, c5, c6, c7⟩ := id hQ4
    dsimp only at c0 c1 c2 c3 c4 c5 c6 c7
    cases rg with
    | false =>
     have HR : Hid (r = 3) := HV.out.trans (by simp [hmany])
     clear HV
     go_wp2
     go_ret
     exact ⟨by rw [HR.out]; rfl, hB4⟩
    | true =>
     by_cases h4 : 400 < p.2.2.1
     ·have h4i : (400 : Int) < (p.2.2.1 : Int) := by omega
      have HR : Hid (r = 2) := HV.out.trans (by simp [hmany, h4])
      clear HV
      go_wp2
      go_ret
      exact ⟨by rw [HR.out]; rfl, hB4⟩
     ·have h4i : ¬ (400 : Int) < (p.2.2.1 : Int) := by omega
      have HR : Hid (r = 0) := HV.out.trans (by simp [hmany, h4])
      clear HV
      go_wp2
      go_ret
      exact ⟨by rw [HR.out]; rfl, hB4⟩
theorem opFault_any (o : OpR) (p : SlO) {lo : Nat} (w : World) (hs : IsOp lo w p o) (hT : TabH8 w) (hx : o.x.size ≤ 1048576) (ht : o.t.size ≤ 1048576) :
  Calls Tryd.prog 30 #[opX o p] w fun e w' => e = .returned (.int .i64 (ofV o)) ∧ Below w.heap.size w w' := by
 obtain ⟨ok0, ox0, ot0, ou0, om0, of0, od0, ob0⟩ := o
 cases hk : bt ok0 1 7 with
 | true =>
  have hk' := of_decide_eq_true hk
  obtain rfl | rfl | rfl | rfl | rfl | rfl | rfl : ok0 = 1 ∨ ok0 = 2 ∨ ok0 = 3 ∨ ok0 = 4 ∨ ok0 = 5 ∨ ok0 = 6 ∨ ok0 = 7 := by omega
  ·exact opFault_1 ox0 ot0 ou0 om0 of0 od0 ob0 p w hs hT hx ht
  ·exact opFault_2 ox0 ot0 ou0 om0 of0 od0 ob0 p w hs hT hx ht
  ·exact opFault_3 ox0 ot0 ou0 om0 of0 od0 ob0 p w hs hT hx ht
  ·exact opFault_4 ox0 ot0 ou0 om0 of0 od0 ob0 p w hs hT hx ht
  ·exact opFault_5 ox0 ot0 ou0 om0 of0 od0 ob0 p w hs hT hx ht
  ·exact opFault_6 ox0 ot0 ou0 om0 of0 od0 ob0 p w hs hT hx ht
  ·exact opFault_7 ox0 ot0 ou0 om0 of0 od0 ob0 p w hs hT hx ht
 | false =>
  have HM : Hid (ofV ⟨ok0, ox0, ot0, ou0, om0, of0, od0, ob0⟩ = 1) := by
   show _ = _
   rw [ofV_eq, if_neg]
   unfold fmV; rw [show bt (OpR.k ⟨ok0, ox0, ot0, ou0, om0, of0, od0, ob0⟩) 1 7 = false from hk]; simp
  have HB := isBetween_bt ok0 1 7
  rw [hk] at HB
  have hb0 : Below w.heap.size w (w.alloc (.cells #[.int .i64 ok0, .string ox0, .string ot0, slW p.1, .int .i64 om0, .int .i64 of0, .int .i64 od0, slW p.2] 27)) := (Below.refl _ _).alloc (Nat.le_refl _) _
  have hQ : Qo (w.alloc (.cells #[.int .i64 ok0, .string ox0, .string ot0, slW p.1, .int .i64 om0, .int .i64 of0, .int .i64 od0, slW p.2] 27)) w.heap.size (opQ ⟨ok0, ox0, ot0, ou0, om0, of0, od0, ob0⟩ p) := Qo.new _ _ _ _ _ _ _ _ _ _
  generalize ofV ⟨ok0, ox0, ot0, ou0, om0, of0, od0, ob0⟩ = r at *
  clear hk hs hT
  go_enter Tryd.func30, Tryd.ntmps30
  go_wp2_with fail
  generalize (w.alloc (.cells #[.int .i64 ok0, .string ox0, .string ot0, slW p.1, .int .i64 om0, .int .i64 of0, .int .i64 od0, slW p.2] 27)) = W at *
  refine wp_region_held_drew (S := fun w' => Qo w' w.heap.size (opQ ⟨ok0, ox0, ot0, ou0, om0, of0, od0, ob0⟩ p)) (by kernel_rfl) ?hS183 (fun hHeld => ?_)
  case hS183 => exact hQ
  refine tk (i := 0) (v := ?_) rfl (Or.inl ⟨by rfl, ?hy184⟩) ?ty184
  case hy184 => (intro w hSw; obtain ⟨e0, e1, e2, e3, e4, e5, e6, e7⟩ := hSw; dsimp only at e0 e1 e2 e3 e4 e5 e6 e7; go_simp; all_goals with_reducible rfl)
  simp only [Act.put, J1, J2, J4, J5, J6]
  refine tk (i := 1) (v := ?_) rfl (Or.inl ⟨by rfl, ?hy185⟩) ?ty185
  case hy185 => (intro w hSw; obtain ⟨e0, e1, e2, e3, e4, e5, e6, e7⟩ := hSw; dsimp only at e0 e1 e2 e3 e4 e5 e6 e7; go_simp; all_goals with_reducible rfl)
  simp only [Act.put, J1, J2, J3, J4, J5, J6]
  refine wpAnyH_ready (rs := [2]) (by kernel_rfl) (by simp) ?_
  refine AllReadyH.cons rfl (fun K hK => ?_) AllReadyH.nil
  go_simp
  refine (HB _).mono ?_
  rintro e w1 ⟨rfl, rfl⟩
  refine hK.out _ _ hQ (fun hHeld => ?_)
  clear hK K
  refine tk (i := 3) (v := ?_) rfl (Or.inl ⟨by rfl, ?hy186⟩) ?ty186
  case hy186 => (intro w hSw; obtain ⟨e0, e1, e2, e3, e4, e5, e6, e7⟩ := hSw; dsimp only at e0 e1 e2 e3 e4 e5 e6 e7; go_simp; all_goals with_reducible rfl)
  simp only [Act.put, J1, J2, J3, J4, J5, J6]
  refine tk (i := 4) (v := ?_) rfl (Or.inl ⟨by rfl, ?hy187⟩) ?ty187
  case hy187 => (intro w hSw; obtain ⟨e0, e1, e2, e3, e4, e5, e6, e7⟩ := hSw; dsimp only at e0 e1 e2 e3 e4 e5 e6 e7; go_simp; all_goals with_reducible rfl)
  simp only [Act.put, J1, J2, J3, J4, J5, J6]
  refine tk (i := 5) (v := undef) rfl (Or.inr ⟨by rfl, rfl⟩) ?_
  simp only [Act.put, J1, J2, J3, J4, J5, J6]
  refine tk (i := 6) (v := undef) rfl (Or.inr ⟨by rfl, rfl⟩) ?_
  simp only [Act.put, J1, J2, J3, J4, J5, J6]
  refine tk (i := 7) (v := undef) rfl (Or.inr ⟨by rfl, rfl⟩) ?_
  simp only [Act.put, J1, J2, J3, J4, J5, J6]
  refine tk (i := 8) (v := undef) rfl (Or.inr ⟨by rfl, rfl⟩) ?_
  simp only [Act.put, J1, J2, J3, J4, J5, J6]
  refine tk (i := 9) (v := undef) rfl (Or.inr ⟨by rfl, rfl⟩) ?_
  simp only [Act.put, J1, J2, J3, J4, J5, J6]
  refine tk (i := 10) (v := undef) rfl (Or.inr ⟨by rfl, rfl⟩) ?_
  simp only [Act.put, J1, J2, J3, J4, J5, J6]
  refine tk (i := 11) (v := undef) rfl (Or.inr ⟨by rfl, rfl⟩) ?_
  simp only [Act.put, J1, J2, J3, J4, J5, J6]
  refine tk (i := 12) (v := undef) rfl (Or.inr ⟨by rfl, rfl⟩) ?_
  simp only [Act.put, J1, J2, J3, J4, J5, J6]
  refine tk (i := 13) (v := .bool true) rfl (Or.inl ⟨by rfl, ?hy188⟩) ?ty188
  case hy188 => (intro w hSw; obtain ⟨e0, e1, e2, e3, e4, e5, e6, e7⟩ := hSw; dsimp only at e0 e1 e2 e3 e4 e5 e6 e7; go_simp; first | (simp; done) | (all_goals with_reducible rfl))
  simp only [Act.put, J1, J2, J3, J4, J5, J6]
  refine wpAnyH_done (by kernel_rfl) ?_ _
  clear hHeld
  go_wp2
  go_ret
  exact ⟨by rw [HM.out]; rfl, hb0.trans ((Below.refl _ _).drew)⟩
end Go.Proofs.YtdcgihcjiiemdaaDoor
