/- The words behind that of a kind, the program's; no conditions beyond those that each fact names. -/
import Derived.Test.YtjogclofjollnaaGreatDoorCtbToCfq
import Derived.Test.YtjogclofjollnaaGreatDoorCfkToFld
import Derived.Test.YtjogclofjollnaaGreatDoorYtv
import Derived.Test.YtjogclofjollnaaGreatDoorMathToEncB2
import Derived.Test.YtjogclofjollnaaGreatDoorTkwToIto
namespace Go.Proofs.YtjogclofjollnaaGreatDoor
open Go.RowKit
set_option linter.unusedVariables false
structure TbsJ (w : World) : Prop where
 W : TabW w
 B : TabB w
 T : TabT w
 F : TabF w
 N : TabN w
 V : VarT w
 c : TbJ 0 cwZ w
 m : TbJ 2 mwZ w
 h : TbJ 3 hwZ w
 e : TbJ 4 ewZ w
 n : TbJ 5 nwZ w
theorem TbsJ.below {w w' : World} (h : TbsJ w) (hb : Below w.heap.size w w') : TbsJ w' := ⟨h.W.below hb, h.B.below hb, h.T.below hb, h.F.below hb, h.N.below hb, h.V.below hb, h.c.below hb, h.m.below hb, h.h.below hb, h.e.below hb, h.n.below hb⟩
theorem wc11 {ot on : ByteArray} {oy : List YgP} {om of0 od : Int} {ob : List Nat} {oh : Int} {op : List Int} {oe : Int} {or : Bool} {ou : List TmR} {oc : Int} :
  wcJ ⟨ot, 11, on, oy, om, of0, od, ob, oh, op, oe, or, ou, oc⟩ = [txY oy, wdJ hwZ oh.toNat] ++ pwJ oh op := by
 simp only [wcJ, pwJ]
 cases ptK oh <;> simp
theorem sc_on (s : ByteArray) : Value.string (str (txB s)) = .string s := by rw [str_txJ]
set_option maxHeartbeats 12800000 in
set_option maxRecDepth 100000 in
theorem wordsBehindKind_any (o : CmR) (p : SlC) {lo : Nat} (w : World) (hs : IsCm lo w p o) (h0 : OkT o) (hf : FtC o) (hT : TbsJ w) :
  Calls Tryz.prog 41 #[cmX o p] w fun e w' => WbE (wcJ o) w e w' := by
 obtain ⟨-, -, hfy, -, -, hfu⟩ := hf
 obtain ⟨ht, ⟨hk1, hk14⟩, hn, hy, hb, hu⟩ := h0
 obtain ⟨ot, ok, on, oy, om, of0, od, ob, oh, op, oe, or, ou, oc⟩ := o
 obtain ⟨⟨ya, yn, yc⟩, ⟨ba, bn, bc'⟩, ⟨pa, pn, pc⟩, ua, un, uc⟩ := p
 dsimp only [slW] at *
 have hb0 : Below w.heap.size w (w.alloc (.cells #[.string ot, .int .i64 ok, .string on, .slice ya yn yc, .int .i64 om, .int .i64 of0, .int .i64 od, .slice ba bn bc', .int .i64 oh, .slice pa pn pc, .int .i64 oe, .bool or, .slice ua un uc, .int .i64 oc] 35)) := (Below.refl _ _).alloc (Nat.le_refl _) _
 have hq0 : Qm (w.alloc (.cells #[.string ot, .int .i64 ok, .string on, .slice ya yn yc, .int .i64 om, .int .i64 of0, .int .i64 od, .slice ba bn bc', .int .i64 oh, .slice pa pn pc, .int .i64 oe, .bool or, .slice ua un uc, .int .i64 oc] 35)) w.heap.size (cmQ ⟨ot, ok, on, oy, om, of0, od, ob, oh, op, oe, or, ou, oc⟩ ((ya, yn, yc), (ba, bn, bc'), (pa, pn, pc), ua, un, uc)) := Qm.new _ _ _ _ _ _ _ _ _ _ _ _ _ _ _ _
 have hs0 := hs.below hb0
 have hT0 := hT.below hb0
 have HQ : Hid (∀ W, Below (w.alloc (.cells #[.string ot, .int .i64 ok, .string on, .slice ya yn yc, .int .i64 om, .int .i64 of0, .int .i64 od, .slice ba bn bc', .int .i64 oh, .slice pa pn pc, .int .i64 oe, .bool or, .slice ua un uc, .int .i64 oc] 35)).heap.size (w.alloc (.cells #[.string ot, .int .i64 ok, .string on, .slice ya yn yc, .int .i64 om, .int .i64 of0, .int .i64 od, .slice ba bn bc', .int .i64 oh, .slice pa pn pc, .int .i64 oe, .bool or, .slice ua un uc, .int .i64 oc] 35)) W → Qm W w.heap.size (cmQ ⟨ot, ok, on, oy, om, of0, od, ob, oh, op, oe, or, ou, oc⟩ ((ya, yn, yc), (ba, bn, bc'), (pa, pn, pc), ua, un, uc)) ∧ IsCm lo W ((ya, yn, yc), (ba, bn, bc'), (pa, pn, pc), ua, un, uc) ⟨ot, ok, on, oy, om, of0, od, ob, oh, op, oe, or, ou, oc⟩ ∧ TbsJ W) := fun W hb => ⟨hq0.below hb hq0.lt, hs0.below hb, hT0.below hb⟩
 clear hs hT hq0 hs0 hT0
 have hcase : ok = 1 ∨ ok = 2 ∨ ok = 3 ∨ ok = 4 ∨ ok = 5 ∨ ok = 6 ∨ ok = 7 ∨ ok = 8 ∨ ok = 9 ∨ ok = 10 ∨ ok = 11 ∨ ok = 12 ∨ ok = 13 ∨ ok = 14 := by omega
 clear hk1 hk14
 have fT := fldTx
 rcases hcase with rfl | rfl | rfl | rfl | rfl | rfl | rfl | rfl | rfl | rfl | rfl | rfl | rfl | rfl
 ·have hw : wcJ ⟨ot, 1, on, oy, om, of0, od, ob, oh, op, oe, or, ou, oc⟩ = [] := by simp [wcJ]
  obtain ⟨W0, hW0⟩ : ∃ W, w.alloc (.cells #[.string ot, .int .i64 1, .string on, .slice ya yn yc, .int .i64 om, .int .i64 of0, .int .i64 od, .slice ba bn bc', .int .i64 oh, .slice pa pn pc, .int .i64 oe, .bool or, .slice ua un uc, .int .i64 oc] 35) = W := ⟨_, rfl⟩
  rw [hW0] at hb0 HQ
  have HS : Hid (∀ W, Below W0.heap.size W0 W → W.cell? ⟨w.heap.size, 0, none⟩ = some (.string ot) ∧ W.cell? ⟨w.heap.size, 1, none⟩ = some (.int .i64 1)) := fun W hb => by
   obtain ⟨⟨c0, c1, c2, c3, c4, c5, c6, c7, c8, c9, c10, c11, c12, c13⟩, -⟩ := HQ.out W hb
   dsimp only [slW] at c0 c1 c2 c3 c4 c5 c6 c7 c8 c9 c10 c11 c12 c13
   exact ⟨c0, c1⟩
  obtain ⟨c0, c1⟩ := HS.out W0 (Below.refl _ _)
  clear HQ
  go_enter Tryz.func41, Tryz.ntmps41
  go_wp2
  go_ret
  rw [hw]
  exact ⟨_, rfl, OwnS.nil _ _, hb0⟩
 ·have hw : wcJ ⟨ot, 2, on, oy, om, of0, od, ob, oh, op, oe, or, ou, oc⟩ = [txB on] := by simp [wcJ]
  obtain ⟨W0, hW0⟩ : ∃ W, w.alloc (.cells #[.string ot, .int .i64 2, .string on, .slice ya yn yc, .int .i64 om, .int .i64 of0, .int .i64 od, .slice ba bn bc', .int .i64 oh, .slice pa pn pc, .int .i64 oe, .bool or, .slice ua un uc, .int .i64 oc] 35) = W := ⟨_, rfl⟩
  rw [hW0] at hb0 HQ
  have HS : Hid (∀ W, Below W0.heap.size W0 W → W.cell? ⟨w.heap.size, 1, none⟩ = some (.int .i64 2) ∧ W.cell? ⟨w.heap.size, 2, none⟩ = some (.string on)) := fun W hb => by
   obtain ⟨⟨c0, c1, c2, c3, c4, c5, c6, c7, c8, c9, c10, c11, c12, c13⟩, -⟩ := HQ.out W hb
   dsimp only [slW] at c0 c1 c2 c3 c4 c5 c6 c7 c8 c9 c10 c11 c12 c13
   exact ⟨c1, c2⟩
  obtain ⟨c1, c2⟩ := HS.out W0 (Below.refl _ _)
  clear HQ HS
  go_enter Tryz.func41, Tryz.ntmps41
  go_wp2
  go_ret
  rw [hw]
  exact WbE.mk (ws := [txB on]) (cs := #[.string on]) hb0 (by simp [sc, sc_on]) rfl (by omega)
 ·have hw : wcJ ⟨ot, 3, on, oy, om, of0, od, ob, oh, op, oe, or, ou, oc⟩ = [txB on] := by simp [wcJ]
  obtain ⟨W0, hW0⟩ : ∃ W, w.alloc (.cells #[.string ot, .int .i64 3, .string on, .slice ya yn yc, .int .i64 om, .int .i64 of0, .int .i64 od, .slice ba bn bc', .int .i64 oh, .slice pa pn pc, .int .i64 oe, .bool or, .slice ua un uc, .int .i64 oc] 35) = W := ⟨_, rfl⟩
  rw [hW0] at hb0 HQ
  have HS : Hid (∀ W, Below W0.heap.size W0 W → W.cell? ⟨w.heap.size, 1, none⟩ = some (.int .i64 3) ∧ W.cell? ⟨w.heap.size, 2, none⟩ = some (.string on)) := fun W hb => by
   obtain ⟨⟨c0, c1, c2, c3, c4, c5, c6, c7, c8, c9, c10, c11, c12, c13⟩, -⟩ := HQ.out W hb
   dsimp only [slW] at c0 c1 c2 c3 c4 c5 c6 c7 c8 c9 c10 c11 c12 c13
   exact ⟨c1, c2⟩
  obtain ⟨c1, c2⟩ := HS.out W0 (Below.refl _ _)
  clear HQ HS
  go_enter Tryz.func41, Tryz.ntmps41
  go_wp2
  go_ret
  rw [hw]
  exact WbE.mk (ws := [txB on]) (cs := #[.string on]) hb0 (by simp [sc, sc_on]) rfl (by omega)
 ·have hw : wcJ ⟨ot, 4, on, oy, om, of0, od, ob, oh, op, oe, or, ou, oc⟩ = [txB on] := by simp [wcJ]
  obtain ⟨W0, hW0⟩ : ∃ W, w.alloc (.cells #[.string ot, .int .i64 4, .string on, .slice ya yn yc, .int .i64 om, .int .i64 of0, .int .i64 od, .slice ba bn bc', .int .i64 oh, .slice pa pn pc, .int .i64 oe, .bool or, .slice ua un uc, .int .i64 oc] 35) = W := ⟨_, rfl⟩
  rw [hW0] at hb0 HQ
  have HS : Hid (∀ W, Below W0.heap.size W0 W → W.cell? ⟨w.heap.size, 1, none⟩ = some (.int .i64 4) ∧ W.cell? ⟨w.heap.size, 2, none⟩ = some (.string on)) := fun W hb => by
   obtain ⟨⟨c0, c1, c2, c3, c4, c5, c6, c7, c8, c9, c10, c11, c12, c13⟩, -⟩ := HQ.out W hb
   dsimp only [slW] at c0 c1 c2 c3 c4 c5 c6 c7 c8 c9 c10 c11 c12 c13
   exact ⟨c1, c2⟩
  obtain ⟨c1, c2⟩ := HS.out W0 (Below.refl _ _)
  clear HQ HS
  go_enter Tryz.func41, Tryz.ntmps41
  go_wp2
  go_ret
  rw [hw]
  exact WbE.mk (ws := [txB on]) (cs := #[.string on]) hb0 (by simp [sc, sc_on]) rfl (by omega)
 ·have hw : wcJ ⟨ot, 5, on, oy, om, of0, od, ob, oh, op, oe, or, ou, oc⟩ = [] := by simp [wcJ]
  obtain ⟨W0, hW0⟩ : ∃ W, w.alloc (.cells #[.string ot, .int .i64 5, .string on, .slice ya yn yc, .int .i64 om, .int .i64 of0, .int .i64 od, .slice ba bn bc', .int .i64 oh, .slice pa pn pc, .int .i64 oe, .bool or, .slice ua un uc, .int .i64 oc] 35) = W := ⟨_, rfl⟩
  rw [hW0] at hb0 HQ
  have HS : Hid (∀ W, Below W0.heap.size W0 W → W.cell? ⟨w.heap.size, 0, none⟩ = some (.string ot) ∧ W.cell? ⟨w.heap.size, 1, none⟩ = some (.int .i64 5)) := fun W hb => by
   obtain ⟨⟨c0, c1, c2, c3, c4, c5, c6, c7, c8, c9, c10, c11, c12, c13⟩, -⟩ := HQ.out W hb
   dsimp only [slW] at c0 c1 c2 c3 c4 c5 c6 c7 c8 c9 c10 c11 c12 c13
   exact ⟨c0, c1⟩
  obtain ⟨c0, c1⟩ := HS.out W0 (Below.refl _ _)
  clear HQ
  go_enter Tryz.func41, Tryz.ntmps41
  go_wp2
  go_ret
  rw [hw]
  exact ⟨_, rfl, OwnS.nil _ _, hb0⟩
 ·have hw : wcJ ⟨ot, 6, on, oy, om, of0, od, ob, oh, op, oe, or, ou, oc⟩ = [txB on, d4J of0, d4J od, Xf.enc ob] := by simp [wcJ]
  obtain ⟨W0, hW0⟩ : ∃ W, w.alloc (.cells #[.string ot, .int .i64 6, .string on, .slice ya yn yc, .int .i64 om, .int .i64 of0, .int .i64 od, .slice ba bn bc', .int .i64 oh, .slice pa pn pc, .int .i64 oe, .bool or, .slice ua un uc, .int .i64 oc] 35) = W := ⟨_, rfl⟩
  rw [hW0] at hb0 HQ
  have hb6 : bt of0 0 15 = true ∧ bt od 0 9999 = true ∧ bt (ob.length : Int) 1 400 = true := by simpa [nbC] using hb
  obtain ⟨f0, f1⟩ := bt_in hb6.1
  obtain ⟨d0, d1⟩ := bt_in hb6.2.1
  obtain ⟨b0, b1⟩ := bt_in hb6.2.2
  have H2 : Hid (∀ W, Below W0.heap.size W0 W → Calls Tryz.prog 72 #[.int .i64 of0] W fun e w' => e = .returned (.string (str (d4J of0))) ∧ Below W.heap.size W w') := fun W hb => digitsOf_J of0 W f0 (by omega) (HQ.out W hb).2.2.W
  have H3 : Hid (∀ W, Below W0.heap.size W0 W → Calls Tryz.prog 72 #[.int .i64 od] W fun e w' => e = .returned (.string (str (d4J od))) ∧ Below W.heap.size W w') := fun W hb => digitsOf_J od W d0 d1 (HQ.out W hb).2.2.W
  have H4 : Hid (∀ W, Below W0.heap.size W0 W → Calls Tryz.prog 73 #[.slice ba bn bc'] W fun e w' => e = .returned (.agg #[.int .i64 0, .string (str (Xf.enc ob))]) ∧ Below W.heap.size W w') := fun W hb => by
    obtain ⟨hq, ⟨-, h2, -, -⟩, hT⟩ := HQ.out W hb
    exact implEncodeBase_few ba bn bc' ob W h2.1 h2.2.2.2.2.1 h2.2.2.2.1 h2.2.1 (by have := h2.1; dsimp only at this; omega) hT.B
  have HS : Hid (∀ W, Below W0.heap.size W0 W → W.cell? ⟨w.heap.size, 1, none⟩ = some (.int .i64 6) ∧ W.cell? ⟨w.heap.size, 2, none⟩ = some (.string on) ∧ W.cell? ⟨w.heap.size, 5, none⟩ = some (.int .i64 of0) ∧ W.cell? ⟨w.heap.size, 6, none⟩ = some (.int .i64 od) ∧ W.cell? ⟨w.heap.size, 7, none⟩ = some (.slice ba bn bc')) := fun W hb => by
   obtain ⟨⟨c0, c1, c2, c3, c4, c5, c6, c7, c8, c9, c10, c11, c12, c13⟩, -⟩ := HQ.out W hb
   dsimp only [slW] at c0 c1 c2 c3 c4 c5 c6 c7 c8 c9 c10 c11 c12 c13
   exact ⟨c1, c2, c5, c6, c7⟩
  obtain ⟨c1, c2, c5, c6, c7⟩ := HS.out W0 (Below.refl _ _)
  clear HQ
  go_enter Tryz.func41, Tryz.ntmps41
  go_wp2_with fail
  refine wp_region_held_drew (S := fun W => W.cell? ⟨w.heap.size, 1, none⟩ = some (.int .i64 6) ∧ W.cell? ⟨w.heap.size, 2, none⟩ = some (.string on) ∧ W.cell? ⟨w.heap.size, 5, none⟩ = some (.int .i64 of0) ∧ W.cell? ⟨w.heap.size, 6, none⟩ = some (.int .i64 od) ∧ W.cell? ⟨w.heap.size, 7, none⟩ = some (.slice ba bn bc')) (by kernel_rfl) ?hS1 (fun hHeld => ?_)
  case hS1 => exact HS.out _ (Below.refl _ _).drew
  have hx0 : Below W0.heap.size W0 W0.drew := (Below.refl _ _).drew
  generalize W0.drew = x0 at *
  refine tk (i := 0) (v := ?_) rfl (Or.inl ⟨by rfl, ?hy2⟩) ?ty2
  case hy2 => (intro w5 hSw; obtain ⟨c1, c2, c5, c6, c7⟩ := hSw; go_simp; all_goals with_reducible rfl)
  simp only [Act.put, J1, J2, J4, J5, J6]
  refine tk (i := 1) (v := ?_) rfl (Or.inl ⟨by rfl, ?hy3⟩) ?ty3
  case hy3 => (intro w5 hSw; obtain ⟨c1, c2, c5, c6, c7⟩ := hSw; go_simp; all_goals with_reducible rfl)
  simp only [Act.put, J1, J2, J3, J4, J5, J6]
  refine tk (i := 2) (v := ?_) rfl (Or.inl ⟨by rfl, ?hy4⟩) ?ty4
  case hy4 => (intro w5 hSw; obtain ⟨c1, c2, c5, c6, c7⟩ := hSw; go_simp; all_goals with_reducible rfl)
  simp only [Act.put, J1, J2, J3, J4, J5, J6]
  refine tk (i := 3) (v := ?_) rfl (Or.inl ⟨by rfl, ?hy5⟩) ?ty5
  case hy5 => (intro w5 hSw; obtain ⟨c1, c2, c5, c6, c7⟩ := hSw; go_simp; all_goals with_reducible rfl)
  simp only [Act.put, J1, J2, J3, J4, J5, J6]
  refine tk (i := 5) (v := ?_) rfl (Or.inl ⟨by rfl, ?hy6⟩) ?ty6
  case hy6 => (intro w5 hSw; obtain ⟨c1, c2, c5, c6, c7⟩ := hSw; go_simp; all_goals with_reducible rfl)
  simp only [Act.put, J1, J2, J3, J4, J5, J6]
  refine tk (i := 6) (v := ?_) rfl (Or.inl ⟨by rfl, ?hy7⟩) ?ty7
  case hy7 => (intro w5 hSw; obtain ⟨c1, c2, c5, c6, c7⟩ := hSw; go_simp; all_goals with_reducible rfl)
  simp only [Act.put, J1, J2, J3, J4, J5, J6]
  refine tk (i := 8) (v := ?_) rfl (Or.inl ⟨by rfl, ?hy8⟩) ?ty8
  case hy8 => (intro w5 hSw; obtain ⟨c1, c2, c5, c6, c7⟩ := hSw; go_simp; all_goals with_reducible rfl)
  simp only [Act.put, J1, J2, J3, J4, J5, J6]
  refine tk (i := 9) (v := ?_) rfl (Or.inl ⟨by rfl, ?hy9⟩) ?ty9
  case hy9 => (intro w5 hSw; obtain ⟨c1, c2, c5, c6, c7⟩ := hSw; go_simp; all_goals with_reducible rfl)
  simp only [Act.put, J1, J2, J3, J4, J5, J6]
  refine wpAnyH_ready (rs := [4]) (by kernel_rfl) (by simp) ?_
  refine AllReadyH.cons rfl (fun K hK => ?_) AllReadyH.nil
  go_simp
  refine (H2.out x0 hx0).mono ?_
  rintro e x1 ⟨rfl, hc1⟩
  have hx1 := hx0.trans (hc1.mono hx0.size)
  refine hK.out _ _ (HS.out _ hx1) (fun hHeld => ?_)
  clear hK K
  refine wpAnyH_ready (rs := [7]) (by kernel_rfl) (by simp) ?_
  refine AllReadyH.cons rfl (fun K hK => ?_) AllReadyH.nil
  go_simp
  refine (H3.out x1 hx1).mono ?_
  rintro e x2 ⟨rfl, hc2⟩
  have hx2 := hx1.trans (hc2.mono hx1.size)
  refine hK.out _ _ (HS.out _ hx2) (fun hHeld => ?_)
  clear hK K
  refine wpAnyH_ready (rs := [10]) (by kernel_rfl) (by simp) ?_
  refine AllReadyH.cons rfl (fun K hK => ?_) AllReadyH.nil
  go_simp
  refine (H4.out x2 hx2).mono ?_
  rintro e x3 ⟨rfl, hc3⟩
  have hx3 := hx2.trans (hc3.mono hx2.size)
  refine hK.out _ _ (HS.out _ hx3) (fun hHeld => ?_)
  clear hK K
  refine tk (i := 11) (v := ?_) rfl (Or.inl ⟨by rfl, ?hy10⟩) ?ty10
  case hy10 => (intro w5 hSw; obtain ⟨c1, c2, c5, c6, c7⟩ := hSw; go_simp; all_goals with_reducible rfl)
  simp only [Act.put, J1, J2, J3, J4, J5, J6]
  refine wpAnyH_ready (rs := [12]) (by kernel_rfl) (by simp) ?_
  refine AllReadyH.cons rfl (fun K hK => ?_) AllReadyH.nil
  go_simp
  have hbA : Below W0.heap.size W0 (x3.alloc (.cells #[.string on, .string (str (d4J of0)), .string (str (d4J od)), .string (str (Xf.enc ob))] 9)) := hx3.trans ((Below.refl _ _).alloc hx3.size _)
  refine hK.out _ _ (HS.out _ hbA) (fun hHeld => ?_)
  clear hK K
  refine tk (i := 13) (v := ?_) rfl (Or.inl ⟨by rfl, ?hy11⟩) ?ty11
  case hy11 => (intro w5 hSw; obtain ⟨c1, c2, c5, c6, c7⟩ := hSw; go_simp; all_goals with_reducible rfl)
  simp only [Act.put, J1, J2, J3, J4, J5, J6]
  refine wpAnyH_done (by kernel_rfl) ?_ _
  clear hHeld
  go_wp2
  go_ret
  rw [hw]
  exact WbE.mk (ws := [txB on, d4J of0, d4J od, Xf.enc ob]) (cs := #[.string on, .string (str (d4J of0)), .string (str (d4J od)), .string (str (Xf.enc ob))]) (hb0.trans (hx3.mono hb0.size)) (by simp [sc, sc_on]) rfl (by omega)
 ·have hb7 : bt om 1 3 = true ∧ bt of0 0 15 = true := by simpa [nbC] using hb
  obtain ⟨m0, m1⟩ := bt_in hb7.1
  obtain ⟨f0, f1⟩ := bt_in hb7.2
  obtain ⟨m, rfl⟩ := Int.eq_ofNat_of_zero_le (show 0 ≤ om by omega)
  have hm4 : (m : Int) < 4 := by omega
  obtain ⟨W0, hW0⟩ : ∃ W, w.alloc (.cells #[.string ot, .int .i64 7, .string on, .slice ya yn yc, .int .i64 m, .int .i64 of0, .int .i64 od, .slice ba bn bc', .int .i64 oh, .slice pa pn pc, .int .i64 oe, .bool or, .slice ua un uc, .int .i64 oc] 35) = W := ⟨_, rfl⟩
  rw [hW0] at hb0 HQ
  have H1 : Hid (∀ W, Below W0.heap.size W0 W → Calls Tryz.prog 74 #[.slice ya yn yc] W fun e w' => e = .returned (.agg #[.int .i64 0, .string (str (txY oy))]) ∧ Below W.heap.size W w') := fun W hb => by
    obtain ⟨hq, ⟨h1, -, -, -⟩, hT⟩ := HQ.out W hb
    have h := setText_any ya yn yc oy W h1.1 h1.2.2.2.1 (by have := h1.1; dsimp only at this; omega) hT.W
    rw [show stT oy = (0, txY oy) from if_pos (hy (by decide))] at h
    exact h
  have H3 : Hid (∀ W, Below W0.heap.size W0 W → Calls Tryz.prog 72 #[.int .i64 of0] W fun e w' => e = .returned (.string (str (d4J of0))) ∧ Below W.heap.size W w') := fun W hb => digitsOf_J of0 W f0 (by omega) (HQ.out W hb).2.2.W
  have hw : wcJ ⟨ot, 7, on, oy, (m : Int), of0, od, ob, oh, op, oe, or, ou, oc⟩ = [txY oy, wdJ mwZ m, d4J of0] := by simp [wcJ]
  have HS : Hid (∀ W, Below W0.heap.size W0 W → W.cell? ⟨w.heap.size, 1, none⟩ = some (.int .i64 7) ∧ W.cell? ⟨w.heap.size, 3, none⟩ = some (.slice ya yn yc) ∧ W.cell? ⟨w.heap.size, 4, none⟩ = some (.int .i64 m) ∧ W.cell? ⟨w.heap.size, 5, none⟩ = some (.int .i64 of0) ∧ W.cell? ⟨2, m, none⟩ = some (.string (str (wdJ mwZ m)))) := fun W hb => by
   obtain ⟨⟨c0, c1, c2, c3, c4, c5, c6, c7, c8, c9, c10, c11, c12, c13⟩, -, hT⟩ := HQ.out W hb
   dsimp only [slW] at c0 c1 c2 c3 c4 c5 c6 c7 c8 c9 c10 c11 c12 c13
   exact ⟨c1, c3, c4, c5, hT.m m (show m < 4 by omega)⟩
  obtain ⟨c1, c3, c4, c5, ct⟩ := HS.out W0 (Below.refl _ _)
  clear HQ
  go_enter Tryz.func41, Tryz.ntmps41
  go_wp2_with fail
  refine wp_region_held_drew (S := fun W => W.cell? ⟨w.heap.size, 1, none⟩ = some (.int .i64 7) ∧ W.cell? ⟨w.heap.size, 3, none⟩ = some (.slice ya yn yc) ∧ W.cell? ⟨w.heap.size, 4, none⟩ = some (.int .i64 m) ∧ W.cell? ⟨w.heap.size, 5, none⟩ = some (.int .i64 of0) ∧ W.cell? ⟨2, m, none⟩ = some (.string (str (wdJ mwZ m)))) (by kernel_rfl) ?hS12 (fun hHeld => ?_)
  case hS12 => exact HS.out _ (Below.refl _ _).drew
  have hx0 : Below W0.heap.size W0 W0.drew := (Below.refl _ _).drew
  generalize W0.drew = x0 at *
  refine tk (i := 0) (v := ?_) rfl (Or.inl ⟨by rfl, ?hy13⟩) ?ty13
  case hy13 => (intro w5 hSw; obtain ⟨c1, c3, c4, c5, ct⟩ := hSw; go_simp; all_goals with_reducible rfl)
  simp only [Act.put, J1, J2, J4, J5, J6]
  refine tk (i := 1) (v := ?_) rfl (Or.inl ⟨by rfl, ?hy14⟩) ?ty14
  case hy14 => (intro w5 hSw; obtain ⟨c1, c3, c4, c5, ct⟩ := hSw; go_simp; all_goals with_reducible rfl)
  simp only [Act.put, J1, J2, J3, J4, J5, J6]
  refine tk (i := 4) (v := ?_) rfl (Or.inl ⟨by rfl, ?hy15⟩) ?ty15
  case hy15 => (intro w5 hSw; obtain ⟨c1, c3, c4, c5, ct⟩ := hSw; go_simp; all_goals with_reducible rfl)
  simp only [Act.put, J1, J2, J3, J4, J5, J6]
  refine tk (i := 5) (v := ?_) rfl (Or.inl ⟨by rfl, ?hy16⟩) ?ty16
  case hy16 => (intro w5 hSw; obtain ⟨c1, c3, c4, c5, ct⟩ := hSw; go_simp; all_goals with_reducible rfl)
  simp only [Act.put, J1, J2, J3, J4, J5, J6]
  refine tk (i := 6) (v := ?_) rfl (Or.inl ⟨by rfl, ?hy17⟩) ?ty17
  case hy17 => (intro w5 hSw; obtain ⟨c1, c3, c4, c5, ct⟩ := hSw; go_simp; all_goals with_reducible rfl)
  simp only [Act.put, J1, J2, J3, J4, J5, J6]
  refine tk (i := 7) (v := ?_) rfl (Or.inl ⟨by rfl, ?hy18⟩) ?ty18
  case hy18 => (intro w5 hSw; obtain ⟨c1, c3, c4, c5, ct⟩ := hSw; go_simp; all_goals with_reducible rfl)
  simp only [Act.put, J1, J2, J3, J4, J5, J6]
  refine tk (i := 8) (v := ?_) rfl (Or.inl ⟨by rfl, ?hy19⟩) ?ty19
  case hy19 => (intro w5 hSw; obtain ⟨c1, c3, c4, c5, ct⟩ := hSw; go_simp; all_goals with_reducible rfl)
  simp only [Act.put, J1, J2, J3, J4, J5, J6]
  refine tk (i := 9) (v := ?_) rfl (Or.inl ⟨by rfl, ?hy20⟩) ?ty20
  case hy20 => (intro w5 hSw; obtain ⟨c1, c3, c4, c5, ct⟩ := hSw; go_simp; all_goals with_reducible rfl)
  simp only [Act.put, J1, J2, J3, J4, J5, J6]
  refine wpAnyH_ready (rs := [2]) (by kernel_rfl) (by simp) ?_
  refine AllReadyH.cons rfl (fun K hK => ?_) AllReadyH.nil
  go_simp
  refine (H1.out x0 hx0).mono ?_
  rintro e x1 ⟨rfl, hc1⟩
  have hx1 := hx0.trans (hc1.mono hx0.size)
  refine hK.out _ _ (HS.out _ hx1) (fun hHeld => ?_)
  clear hK K
  refine tk (i := 3) (v := ?_) rfl (Or.inl ⟨by rfl, ?hy21⟩) ?ty21
  case hy21 => (intro w5 hSw; obtain ⟨c1, c3, c4, c5, ct⟩ := hSw; go_simp; all_goals with_reducible rfl)
  simp only [Act.put, J1, J2, J3, J4, J5, J6]
  refine wpAnyH_ready (rs := [10]) (by kernel_rfl) (by simp) ?_
  refine AllReadyH.cons rfl (fun K hK => ?_) AllReadyH.nil
  go_simp
  refine (H3.out x1 hx1).mono ?_
  rintro e x2 ⟨rfl, hc2⟩
  have hx2 := hx1.trans (hc2.mono hx1.size)
  refine hK.out _ _ (HS.out _ hx2) (fun hHeld => ?_)
  clear hK K
  refine wpAnyH_ready (rs := [11]) (by kernel_rfl) (by simp) ?_
  refine AllReadyH.cons rfl (fun K hK => ?_) AllReadyH.nil
  go_simp
  have hbA : Below W0.heap.size W0 (x2.alloc (.cells #[.string (str (txY oy)), .string (str (wdJ mwZ m)), .string (str (d4J of0))] 9)) := hx2.trans ((Below.refl _ _).alloc hx2.size _)
  refine hK.out _ _ (HS.out _ hbA) (fun hHeld => ?_)
  clear hK K
  refine tk (i := 12) (v := ?_) rfl (Or.inl ⟨by rfl, ?hy22⟩) ?ty22
  case hy22 => (intro w5 hSw; obtain ⟨c1, c3, c4, c5, ct⟩ := hSw; go_simp; all_goals with_reducible rfl)
  simp only [Act.put, J1, J2, J3, J4, J5, J6]
  refine wpAnyH_done (by kernel_rfl) ?_ _
  clear hHeld
  go_wp2
  go_ret
  rw [hw]
  exact WbE.mk (ws := [txY oy, wdJ mwZ m, d4J of0]) (cs := #[.string (str (txY oy)), .string (str (wdJ mwZ m)), .string (str (d4J of0))]) (hb0.trans (hx2.mono hb0.size)) (by simp [sc]) rfl (by omega)
 ·have hw : wcJ ⟨ot, 8, on, oy, om, of0, od, ob, oh, op, oe, or, ou, oc⟩ = [txY oy, txB on] := by simp [wcJ]
  obtain ⟨W0, hW0⟩ : ∃ W, w.alloc (.cells #[.string ot, .int .i64 8, .string on, .slice ya yn yc, .int .i64 om, .int .i64 of0, .int .i64 od, .slice ba bn bc', .int .i64 oh, .slice pa pn pc, .int .i64 oe, .bool or, .slice ua un uc, .int .i64 oc] 35) = W := ⟨_, rfl⟩
  rw [hW0] at hb0 HQ
  have H1 : Hid (∀ W, Below W0.heap.size W0 W → Calls Tryz.prog 74 #[.slice ya yn yc] W fun e w' => e = .returned (.agg #[.int .i64 0, .string (str (txY oy))]) ∧ Below W.heap.size W w') := fun W hb => by
    obtain ⟨hq, ⟨h1, -, -, -⟩, hT⟩ := HQ.out W hb
    have h := setText_any ya yn yc oy W h1.1 h1.2.2.2.1 (by have := h1.1; dsimp only at this; omega) hT.W
    rw [show stT oy = (0, txY oy) from if_pos (hy (by decide))] at h
    exact h
  have HS : Hid (∀ W, Below W0.heap.size W0 W → W.cell? ⟨w.heap.size, 1, none⟩ = some (.int .i64 8) ∧ W.cell? ⟨w.heap.size, 2, none⟩ = some (.string on) ∧ W.cell? ⟨w.heap.size, 3, none⟩ = some (.slice ya yn yc)) := fun W hb => by
   obtain ⟨⟨c0, c1, c2, c3, c4, c5, c6, c7, c8, c9, c10, c11, c12, c13⟩, -⟩ := HQ.out W hb
   dsimp only [slW] at c0 c1 c2 c3 c4 c5 c6 c7 c8 c9 c10 c11 c12 c13
   exact ⟨c1, c2, c3⟩
  obtain ⟨c1, c2, c3⟩ := HS.out W0 (Below.refl _ _)
  clear HQ
  go_enter Tryz.func41, Tryz.ntmps41
  go_wp2_with fail
  refine wp_region_held_drew (S := fun W => W.cell? ⟨w.heap.size, 1, none⟩ = some (.int .i64 8) ∧ W.cell? ⟨w.heap.size, 2, none⟩ = some (.string on) ∧ W.cell? ⟨w.heap.size, 3, none⟩ = some (.slice ya yn yc)) (by kernel_rfl) ?hS23 (fun hHeld => ?_)
  case hS23 => exact HS.out _ (Below.refl _ _).drew
  have hx0 : Below W0.heap.size W0 W0.drew := (Below.refl _ _).drew
  generalize W0.drew = x0 at *
  refine tk (i := 0) (v := ?_) rfl (Or.inl ⟨by rfl, ?hy24⟩) ?ty24
  case hy24 => (intro w5 hSw; obtain ⟨c1, c2, c3⟩ := hSw; go_simp; all_goals with_reducible rfl)
  simp only [Act.put, J1, J2, J4, J5, J6]
  refine tk (i := 1) (v := ?_) rfl (Or.inl ⟨by rfl, ?hy25⟩) ?ty25
  case hy25 => (intro w5 hSw; obtain ⟨c1, c2, c3⟩ := hSw; go_simp; all_goals with_reducible rfl)
  simp only [Act.put, J1, J2, J3, J4, J5, J6]
  refine tk (i := 4) (v := ?_) rfl (Or.inl ⟨by rfl, ?hy26⟩) ?ty26
  case hy26 => (intro w5 hSw; obtain ⟨c1, c2, c3⟩ := hSw; go_simp; all_goals with_reducible rfl)
  simp only [Act.put, J1, J2, J3, J4, J5, J6]
  refine tk (i := 5) (v := ?_) rfl (Or.inl ⟨by rfl, ?hy27⟩) ?ty27
  case hy27 => (intro w5 hSw; obtain ⟨c1, c2, c3⟩ := hSw; go_simp; all_goals with_reducible rfl)
  simp only [Act.put, J1, J2, J3, J4, J5, J6]
  refine wpAnyH_ready (rs := [2]) (by kernel_rfl) (by simp) ?_
  refine AllReadyH.cons rfl (fun K hK => ?_) AllReadyH.nil
  go_simp
  refine (H1.out x0 hx0).mono ?_
  rintro e x1 ⟨rfl, hc1⟩
  have hx1 := hx0.trans (hc1.mono hx0.size)
  refine hK.out _ _ (HS.out _ hx1) (fun hHeld => ?_)
  clear hK K
  refine tk (i := 3) (v := ?_) rfl (Or.inl ⟨by rfl, ?hy28⟩) ?ty28
  case hy28 => (intro w5 hSw; obtain ⟨c1, c2, c3⟩ := hSw; go_simp; all_goals with_reducible rfl)
  simp only [Act.put, J1, J2, J3, J4, J5, J6]
  refine wpAnyH_ready (rs := [6]) (by kernel_rfl) (by simp) ?_
  refine AllReadyH.cons rfl (fun K hK => ?_) AllReadyH.nil
  go_simp
  have hbA : Below W0.heap.size W0 (x1.alloc (.cells #[.string (str (txY oy)), .string on] 9)) := hx1.trans ((Below.refl _ _).alloc hx1.size _)
  refine hK.out _ _ (HS.out _ hbA) (fun hHeld => ?_)
  clear hK K
  refine tk (i := 7) (v := ?_) rfl (Or.inl ⟨by rfl, ?hy29⟩) ?ty29
  case hy29 => (intro w5 hSw; obtain ⟨c1, c2, c3⟩ := hSw; go_simp; all_goals with_reducible rfl)
  simp only [Act.put, J1, J2, J3, J4, J5, J6]
  refine wpAnyH_done (by kernel_rfl) ?_ _
  clear hHeld
  go_wp2
  go_ret
  rw [hw]
  exact WbE.mk (ws := [txY oy, txB on]) (cs := #[.string (str (txY oy)), .string on]) (hb0.trans (hx1.mono hb0.size)) (by simp [sc, sc_on]) rfl (by omega)
 ·have hw : wcJ ⟨ot, 9, on, oy, om, of0, od, ob, oh, op, oe, or, ou, oc⟩ = [txY oy, txB on] := by simp [wcJ]
  obtain ⟨W0, hW0⟩ : ∃ W, w.alloc (.cells #[.string ot, .int .i64 9, .string on, .slice ya yn yc, .int .i64 om, .int .i64 of0, .int .i64 od, .slice ba bn bc', .int .i64 oh, .slice pa pn pc, .int .i64 oe, .bool or, .slice ua un uc, .int .i64 oc] 35) = W := ⟨_, rfl⟩
  rw [hW0] at hb0 HQ
  have H1 : Hid (∀ W, Below W0.heap.size W0 W → Calls Tryz.prog 74 #[.slice ya yn yc] W fun e w' => e = .returned (.agg #[.int .i64 0, .string (str (txY oy))]) ∧ Below W.heap.size W w') := fun W hb => by
    obtain ⟨hq, ⟨h1, -, -, -⟩, hT⟩ := HQ.out W hb
    have h := setText_any ya yn yc oy W h1.1 h1.2.2.2.1 (by have := h1.1; dsimp only at this; omega) hT.W
    rw [show stT oy = (0, txY oy) from if_pos (hy (by decide))] at h
    exact h
  have HS : Hid (∀ W, Below W0.heap.size W0 W → W.cell? ⟨w.heap.size, 1, none⟩ = some (.int .i64 9) ∧ W.cell? ⟨w.heap.size, 2, none⟩ = some (.string on) ∧ W.cell? ⟨w.heap.size, 3, none⟩ = some (.slice ya yn yc)) := fun W hb => by
   obtain ⟨⟨c0, c1, c2, c3, c4, c5, c6, c7, c8, c9, c10, c11, c12, c13⟩, -⟩ := HQ.out W hb
   dsimp only [slW] at c0 c1 c2 c3 c4 c5 c6 c7 c8 c9 c10 c11 c12 c13
   exact ⟨c1, c2, c3⟩
  obtain ⟨c1, c2, c3⟩ := HS.out W0 (Below.refl _ _)
  clear HQ
  go_enter Tryz.func41, Tryz.ntmps41
  go_wp2_with fail
  refine wp_region_held_drew (S := fun W => W.cell? ⟨w.heap.size, 1, none⟩ = some (.int .i64 9) ∧ W.cell? ⟨w.heap.size, 2, none⟩ = some (.string on) ∧ W.cell? ⟨w.heap.size, 3, none⟩ = some (.slice ya yn yc)) (by kernel_rfl) ?hS30 (fun hHeld => ?_)
  case hS30 => exact HS.out _ (Below.refl _ _).drew
  have hx0 : Below W0.heap.size W0 W0.drew := (Below.refl _ _).drew
  generalize W0.drew = x0 at *
  refine tk (i := 0) (v := ?_) rfl (Or.inl ⟨by rfl, ?hy31⟩) ?ty31
  case hy31 => (intro w5 hSw; obtain ⟨c1, c2, c3⟩ := hSw; go_simp; all_goals with_reducible rfl)
  simp only [Act.put, J1, J2, J4, J5, J6]
  refine tk (i := 1) (v := ?_) rfl (Or.inl ⟨by rfl, ?hy32⟩) ?ty32
  case hy32 => (intro w5 hSw; obtain ⟨c1, c2, c3⟩ := hSw; go_simp; all_goals with_reducible rfl)
  simp only [Act.put, J1, J2, J3, J4, J5, J6]
  refine tk (i := 4) (v := ?_) rfl (Or.inl ⟨by rfl, ?hy33⟩) ?ty33
  case hy33 => (intro w5 hSw; obtain ⟨c1, c2, c3⟩ := hSw; go_simp; all_goals with_reducible rfl)
  simp only [Act.put, J1, J2, J3, J4, J5, J6]
  refine tk (i := 5) (v := ?_) rfl (Or.inl ⟨by rfl, ?hy34⟩) ?ty34
  case hy34 => (intro w5 hSw; obtain ⟨c1, c2, c3⟩ := hSw; go_simp; all_goals with_reducible rfl)
  simp only [Act.put, J1, J2, J3, J4, J5, J6]
  refine wpAnyH_ready (rs := [2]) (by kernel_rfl) (by simp) ?_
  refine AllReadyH.cons rfl (fun K hK => ?_) AllReadyH.nil
  go_simp
  refine (H1.out x0 hx0).mono ?_
  rintro e x1 ⟨rfl, hc1⟩
  have hx1 := hx0.trans (hc1.mono hx0.size)
  refine hK.out _ _ (HS.out _ hx1) (fun hHeld => ?_)
  clear hK K
  refine tk (i := 3) (v := ?_) rfl (Or.inl ⟨by rfl, ?hy35⟩) ?ty35
  case hy35 => (intro w5 hSw; obtain ⟨c1, c2, c3⟩ := hSw; go_simp; all_goals with_reducible rfl)
  simp only [Act.put, J1, J2, J3, J4, J5, J6]
  refine wpAnyH_ready (rs := [6]) (by kernel_rfl) (by simp) ?_
  refine AllReadyH.cons rfl (fun K hK => ?_) AllReadyH.nil
  go_simp
  have hbA : Below W0.heap.size W0 (x1.alloc (.cells #[.string (str (txY oy)), .string on] 9)) := hx1.trans ((Below.refl _ _).alloc hx1.size _)
  refine hK.out _ _ (HS.out _ hbA) (fun hHeld => ?_)
  clear hK K
  refine tk (i := 7) (v := ?_) rfl (Or.inl ⟨by rfl, ?hy36⟩) ?ty36
  case hy36 => (intro w5 hSw; obtain ⟨c1, c2, c3⟩ := hSw; go_simp; all_goals with_reducible rfl)
  simp only [Act.put, J1, J2, J3, J4, J5, J6]
  refine wpAnyH_done (by kernel_rfl) ?_ _
  clear hHeld
  go_wp2
  go_ret
  rw [hw]
  exact WbE.mk (ws := [txY oy, txB on]) (cs := #[.string (str (txY oy)), .string on]) (hb0.trans (hx1.mono hb0.size)) (by simp [sc, sc_on]) rfl (by omega)
 ·have hw : wcJ ⟨ot, 10, on, oy, om, of0, od, ob, oh, op, oe, or, ou, oc⟩ = [] := by simp [wcJ]
  obtain ⟨W0, hW0⟩ : ∃ W, w.alloc (.cells #[.string ot, .int .i64 10, .string on, .slice ya yn yc, .int .i64 om, .int .i64 of0, .int .i64 od, .slice ba bn bc', .int .i64 oh, .slice pa pn pc, .int .i64 oe, .bool or, .slice ua un uc, .int .i64 oc] 35) = W := ⟨_, rfl⟩
  rw [hW0] at hb0 HQ
  have HS : Hid (∀ W, Below W0.heap.size W0 W → W.cell? ⟨w.heap.size, 0, none⟩ = some (.string ot) ∧ W.cell? ⟨w.heap.size, 1, none⟩ = some (.int .i64 10)) := fun W hb => by
   obtain ⟨⟨c0, c1, c2, c3, c4, c5, c6, c7, c8, c9, c10, c11, c12, c13⟩, -⟩ := HQ.out W hb
   dsimp only [slW] at c0 c1 c2 c3 c4 c5 c6 c7 c8 c9 c10 c11 c12 c13
   exact ⟨c0, c1⟩
  obtain ⟨c0, c1⟩ := HS.out W0 (Below.refl _ _)
  clear HQ
  go_enter Tryz.func41, Tryz.ntmps41
  go_wp2
  go_ret
  rw [hw]
  exact ⟨_, rfl, OwnS.nil _ _, hb0⟩
 ·have hb11 : bt oh 1 7 = true ∧ pnV op = true := by simpa [nbC] using hb
  obtain ⟨h1, h7⟩ := bt_in hb11.1
  have hpv := hb11.2
  unfold pnV at hpv
  rw [Bool.and_eq_true, decide_eq_true_eq, List.all_eq_true] at hpv
  obtain ⟨m, rfl⟩ := Int.eq_ofNat_of_zero_le (show 0 ≤ oh by omega)
  have hm8 : (m : Int) < 8 := by omega
  obtain ⟨W0, hW0⟩ : ∃ W, w.alloc (.cells #[.string ot, .int .i64 11, .string on, .slice ya yn yc, .int .i64 om, .int .i64 of0, .int .i64 od, .slice ba bn bc', .int .i64 m, .slice pa pn pc, .int .i64 oe, .bool or, .slice ua un uc, .int .i64 oc] 35) = W := ⟨_, rfl⟩
  rw [hW0] at hb0 HQ
  have H1 : Hid (∀ W, Below W0.heap.size W0 W → Calls Tryz.prog 74 #[.slice ya yn yc] W fun e w' => e = .returned (.agg #[.int .i64 0, .string (str (txY oy))]) ∧ Below W.heap.size W w') := fun W hb => by
    obtain ⟨hq, ⟨h1, -, -, -⟩, hT⟩ := HQ.out W hb
    have h := setText_any ya yn yc oy W h1.1 h1.2.2.2.1 (by have := h1.1; dsimp only at this; omega) hT.W
    rw [show stT oy = (0, txY oy) from if_pos (hy (by decide))] at h
    exact h
  have H2 : Hid (∀ W, Below W0.heap.size W0 W → Calls Tryz.prog 75 #[.agg #[.string ot, .int .i64 11, .string on, .slice ya yn yc, .int .i64 om, .int .i64 of0, .int .i64 od, .slice ba bn bc', .int .i64 m, .slice pa pn pc, .int .i64 oe, .bool or, .slice ua un uc, .int .i64 oc]] W fun e w' => WbE (pwJ (m : Int) op) W e w') := fun W hb => pathWords_any ⟨ot, 11, on, oy, om, of0, od, ob, (m : Int), op, oe, or, ou, oc⟩ ((ya, yn, yc), (ba, bn, bc'), (pa, pn, pc), ua, un, uc) W (HQ.out W hb).2.1 (HQ.out W hb).2.2.W hpv.1 (fun z hz => bt_in (hpv.2 z hz))
  have HW : Hid (wcJ ⟨ot, 11, on, oy, om, of0, od, ob, (m : Int), op, oe, or, ou, oc⟩ = [txY oy, wdJ hwZ m] ++ pwJ (m : Int) op) := wc11
  have HLW : Hid ((pwJ (m : Int) op).length ≤ 1) := by show _ ≤ _; unfold pwJ; split <;> simp
  have HS : Hid (∀ W, Below W0.heap.size W0 W → (W.cell? ⟨w.heap.size, 0, none⟩ = some (.string ot) ∧ W.cell? ⟨w.heap.size, 1, none⟩ = some (.int .i64 11) ∧ W.cell? ⟨w.heap.size, 2, none⟩ = some (.string on) ∧ W.cell? ⟨w.heap.size, 3, none⟩ = some (.slice ya yn yc) ∧ W.cell? ⟨w.heap.size, 4, none⟩ = some (.int .i64 om) ∧ W.cell? ⟨w.heap.size, 5, none⟩ = some (.int .i64 of0) ∧ W.cell? ⟨w.heap.size, 6, none⟩ = some (.int .i64 od) ∧ W.cell? ⟨w.heap.size, 7, none⟩ = some (.slice ba bn bc') ∧ W.cell? ⟨w.heap.size, 8, none⟩ = some (.int .i64 m) ∧ W.cell? ⟨w.heap.size, 9, none⟩ = some (.slice pa pn pc) ∧ W.cell? ⟨w.heap.size, 10, none⟩ = some (.int .i64 oe) ∧ W.cell? ⟨w.heap.size, 11, none⟩ = some (.bool or) ∧ W.cell? ⟨w.heap.size, 12, none⟩ = some (.slice ua un uc) ∧ W.cell? ⟨w.heap.size, 13, none⟩ = some (.int .i64 oc)) ∧ W.cell? ⟨3, m, none⟩ = some (.string (str (wdJ hwZ m)))) := fun W hb => by
   obtain ⟨⟨c0, c1, c2, c3, c4, c5, c6, c7, c8, c9, c10, c11, c12, c13⟩, -, hT⟩ := HQ.out W hb
   dsimp only [slW] at c0 c1 c2 c3 c4 c5 c6 c7 c8 c9 c10 c11 c12 c13
   exact ⟨⟨c0, c1, c2, c3, c4, c5, c6, c7, c8, c9, c10, c11, c12, c13⟩, hT.h m (show m < 8 by omega)⟩
  generalize pwJ (m : Int) op = pw at *
  obtain ⟨⟨c0, c1, c2, c3, c4, c5, c6, c7, c8, c9, c10, c11, c12, c13⟩, ct⟩ := HS.out W0 (Below.refl _ _)
  clear HQ
  go_enter Tryz.func41, Tryz.ntmps41
  go_wp2_with fail
  refine wp_region_held_drew (S := fun W => (W.cell? ⟨w.heap.size, 0, none⟩ = some (.string ot) ∧ W.cell? ⟨w.heap.size, 1, none⟩ = some (.int .i64 11) ∧ W.cell? ⟨w.heap.size, 2, none⟩ = some (.string on) ∧ W.cell? ⟨w.heap.size, 3, none⟩ = some (.slice ya yn yc) ∧ W.cell? ⟨w.heap.size, 4, none⟩ = some (.int .i64 om) ∧ W.cell? ⟨w.heap.size, 5, none⟩ = some (.int .i64 of0) ∧ W.cell? ⟨w.heap.size, 6, none⟩ = some (.int .i64 od) ∧ W.cell? ⟨w.heap.size, 7, none⟩ = some (.slice ba bn bc') ∧ W.cell? ⟨w.heap.size, 8, none⟩ = some (.int .i64 m) ∧ W.cell? ⟨w.heap.size, 9, none⟩ = some (.slice pa pn pc) ∧ W.cell? ⟨w.heap.size, 10, none⟩ = some (.int .i64 oe) ∧ W.cell? ⟨w.heap.size, 11, none⟩ = some (.bool or) ∧ W.cell? ⟨w.heap.size, 12, none⟩ = some (.slice ua un uc) ∧ W.cell? ⟨w.heap.size, 13, none⟩ = some (.int .i64 oc)) ∧ W.cell? ⟨3, m, none⟩ = some (.string (str (wdJ hwZ m)))) (by kernel_rfl) ?hS37 (fun hHeld => ?_)
  case hS37 => exact HS.out _ (Below.refl _ _).drew
  have hx0 : Below W0.heap.size W0 W0.drew := (Below.refl _ _).drew
  generalize W0.drew = x0 at *
  refine tk (i := 0) (v := ?_) rfl (Or.inl ⟨by rfl, ?hy38⟩) ?ty38
  case hy38 => (intro w5 hSw; obtain ⟨⟨c0, c1, c2, c3, c4, c5, c6, c7, c8, c9, c10, c11, c12, c13⟩, ct⟩ := hSw; go_simp; all_goals with_reducible rfl)
  simp only [Act.put, J1, J2, J4, J5, J6]
  refine tk (i := 1) (v := ?_) rfl (Or.inl ⟨by rfl, ?hy39⟩) ?ty39
  case hy39 => (intro w5 hSw; obtain ⟨⟨c0, c1, c2, c3, c4, c5, c6, c7, c8, c9, c10, c11, c12, c13⟩, ct⟩ := hSw; go_simp; all_goals with_reducible rfl)
  simp only [Act.put, J1, J2, J3, J4, J5, J6]
  refine tk (i := 4) (v := ?_) rfl (Or.inl ⟨by rfl, ?hy40⟩) ?ty40
  case hy40 => (intro w5 hSw; obtain ⟨⟨c0, c1, c2, c3, c4, c5, c6, c7, c8, c9, c10, c11, c12, c13⟩, ct⟩ := hSw; go_simp; all_goals with_reducible rfl)
  simp only [Act.put, J1, J2, J3, J4, J5, J6]
  refine tk (i := 5) (v := ?_) rfl (Or.inl ⟨by rfl, ?hy41⟩) ?ty41
  case hy41 => (intro w5 hSw; obtain ⟨⟨c0, c1, c2, c3, c4, c5, c6, c7, c8, c9, c10, c11, c12, c13⟩, ct⟩ := hSw; go_simp; all_goals with_reducible rfl)
  simp only [Act.put, J1, J2, J3, J4, J5, J6]
  refine tk (i := 6) (v := ?_) rfl (Or.inl ⟨by rfl, ?hy42⟩) ?ty42
  case hy42 => (intro w5 hSw; obtain ⟨⟨c0, c1, c2, c3, c4, c5, c6, c7, c8, c9, c10, c11, c12, c13⟩, ct⟩ := hSw; go_simp; all_goals with_reducible rfl)
  simp only [Act.put, J1, J2, J3, J4, J5, J6]
  refine tk (i := 7) (v := ?_) rfl (Or.inl ⟨by rfl, ?hy43⟩) ?ty43
  case hy43 => (intro w5 hSw; obtain ⟨⟨c0, c1, c2, c3, c4, c5, c6, c7, c8, c9, c10, c11, c12, c13⟩, ct⟩ := hSw; go_simp; all_goals with_reducible rfl)
  simp only [Act.put, J1, J2, J3, J4, J5, J6]
  refine tk (i := 9) (v := ?_) rfl (Or.inl ⟨by rfl, ?hy44⟩) ?ty44
  case hy44 => (intro w5 hSw; obtain ⟨⟨c0, c1, c2, c3, c4, c5, c6, c7, c8, c9, c10, c11, c12, c13⟩, ct⟩ := hSw; go_simp; all_goals with_reducible rfl)
  simp only [Act.put, J1, J2, J3, J4, J5, J6]
  refine wpAnyH_ready (rs := [2]) (by kernel_rfl) (by simp) ?_
  refine AllReadyH.cons rfl (fun K hK => ?_) AllReadyH.nil
  go_simp
  refine (H1.out x0 hx0).mono ?_
  rintro e x1 ⟨rfl, hc1⟩
  have hx1 := hx0.trans (hc1.mono hx0.size)
  refine hK.out _ _ (HS.out _ hx1) (fun hHeld => ?_)
  clear hK K
  refine tk (i := 3) (v := ?_) rfl (Or.inl ⟨by rfl, ?hy45⟩) ?ty45
  case hy45 => (intro w5 hSw; obtain ⟨⟨c0, c1, c2, c3, c4, c5, c6, c7, c8, c9, c10, c11, c12, c13⟩, ct⟩ := hSw; go_simp; all_goals with_reducible rfl)
  simp only [Act.put, J1, J2, J3, J4, J5, J6]
  refine wpAnyH_ready (rs := [8, 10]) (by kernel_rfl) (by simp) ?_
  refine AllReadyH.cons rfl (fun K hK => ?_) (AllReadyH.cons rfl (fun K hK => ?_) AllReadyH.nil)
  ·have hA := OwnS.lit x1 x1.heap.size (Nat.le_refl _) #[.string (str (txY oy)), .string (str (wdJ hwZ m))] [txY oy, wdJ hwZ m] (by simp [sc]) (show 2 ≤ maxLen by decide)
   have hbA : Below W0.heap.size W0 (x1.alloc (.cells #[.string (str (txY oy)), .string (str (wdJ hwZ m))] 9)) := hx1.trans ((Below.refl _ _).alloc hx1.size _)
   go_simp
   refine hK.out _ _ (HS.out _ hbA) (fun hHeld => ?_)
   clear hK K
   refine wpAnyH_ready (rs := [10]) (by kernel_rfl) (by simp) ?_
   refine AllReadyH.cons rfl (fun K hK => ?_) AllReadyH.nil
   go_simp
   refine (H2.out _ hbA).mono ?_
   rintro e y1 ⟨v1, rfl, hO1, hc1⟩
   have hbZ := hbA.trans (hc1.mono hbA.size)
   have hA1 := hA.below hc1 (Nat.le_refl _)
   have hzz : x1.heap.size ≤ y1.heap.size := Nat.le_trans (by simp) hc1.size
   refine hK.out _ _ (HS.out _ hbZ) (fun hHeld => ?_)
   clear hK K
   refine wpAnyH_ready (rs := [11]) (by kernel_rfl) (by simp) ?_
   refine AllReadyH.cons rfl (fun K hK => ?_) AllReadyH.nil
   refine step_appW rfl _ _ rfl x1.heap.size _ [txY oy, wdJ hwZ m] rfl hA1 _ _ _ rfl hO1 (by have := HLW.out; simp only [List.length_cons, List.length_nil]; omega) hzz (fun v9 w9 h9 hb9 => ?_)
   refine hK.out _ _ (HS.out _ (hbZ.trans (hb9.mono (Nat.le_trans hx1.size (Nat.le_refl _))))) (fun hHeld => ?_)
   clear hK K
   refine tk (i := 12) (v := ?_) rfl (Or.inl ⟨by rfl, ?hy46⟩) ?ty46
   case hy46 => (intro w5 hSw; skip; go_simp; all_goals with_reducible rfl)
   simp only [Act.put, J1, J2, J3, J4, J5, J6]
   refine wpAnyH_done (by kernel_rfl) ?_ _
   clear hHeld
   have hbE : Below W0.heap.size W0 w9 := hbZ.trans (hb9.mono hx1.size)
   have h9' : OwnS w9 W0.heap.size v9 _ := h9.low hx1.size
   go_wp2
   go_ret
   rw [HW.out]
   exact ⟨_, rfl, h9'.low hb0.size, hb0.trans (hbE.mono hb0.size)⟩
  ·go_simp
   refine (H2.out _ hx1).mono ?_
   rintro e y1 ⟨v1, rfl, hO1, hc1⟩
   have hbY := hx1.trans (hc1.mono hx1.size)
   refine hK.out _ _ (HS.out _ hbY) (fun hHeld => ?_)
   clear hK K
   refine wpAnyH_ready (rs := [8]) (by kernel_rfl) (by simp) ?_
   refine AllReadyH.cons rfl (fun K hK => ?_) AllReadyH.nil
   have hA := OwnS.lit y1 y1.heap.size (Nat.le_refl _) #[.string (str (txY oy)), .string (str (wdJ hwZ m))] [txY oy, wdJ hwZ m] (by simp [sc]) (show 2 ≤ maxLen by decide)
   have hbA : Below W0.heap.size W0 (y1.alloc (.cells #[.string (str (txY oy)), .string (str (wdJ hwZ m))] 9)) := hbY.trans ((Below.refl _ _).alloc hbY.size _)
   go_simp
   refine hK.out _ _ (HS.out _ hbA) (fun hHeld => ?_)
   clear hK K
   have hbZ := hbA
   have hO2 := hO1.alloc (.cells #[.string (str (txY oy)), .string (str (wdJ hwZ m))] 9)
   refine wpAnyH_ready (rs := [11]) (by kernel_rfl) (by simp) ?_
   refine AllReadyH.cons rfl (fun K hK => ?_) AllReadyH.nil
   refine step_appW rfl _ _ rfl y1.heap.size _ [txY oy, wdJ hwZ m] rfl hA _ _ _ rfl hO2 (by have := HLW.out; simp only [List.length_cons, List.length_nil]; omega) (by simp) (fun v9 w9 h9 hb9 => ?_)
   refine hK.out _ _ (HS.out _ (hbZ.trans (hb9.mono (hbY.size)))) (fun hHeld => ?_)
   clear hK K
   refine tk (i := 12) (v := ?_) rfl (Or.inl ⟨by rfl, ?hy47⟩) ?ty47
   case hy47 => (intro w5 hSw; skip; go_simp; all_goals with_reducible rfl)
   simp only [Act.put, J1, J2, J3, J4, J5, J6]
   refine wpAnyH_done (by kernel_rfl) ?_ _
   clear hHeld
   have hbE : Below W0.heap.size W0 w9 := hbZ.trans (hb9.mono hbY.size)
   have h9' : OwnS w9 W0.heap.size v9 _ := h9.low hbY.size
   go_wp2
   go_ret
   rw [HW.out]
   exact ⟨_, rfl, h9'.low hb0.size, hb0.trans (hbE.mono hb0.size)⟩
 ·have hw : wcJ ⟨ot, 12, on, oy, om, of0, od, ob, oh, op, oe, or, ou, oc⟩ = [tmJ ou] := by simp [wcJ]
  obtain ⟨W0, hW0⟩ : ∃ W, w.alloc (.cells #[.string ot, .int .i64 12, .string on, .slice ya yn yc, .int .i64 om, .int .i64 of0, .int .i64 od, .slice ba bn bc', .int .i64 oh, .slice pa pn pc, .int .i64 oe, .bool or, .slice ua un uc, .int .i64 oc] 35) = W := ⟨_, rfl⟩
  rw [hW0] at hb0 HQ
  have H1 : Hid (∀ W, Below W0.heap.size W0 W → Calls Tryz.prog 76 #[.slice ua un uc] W fun e w' => e = .returned (.agg #[.int .i64 0, .string (str (tmJ ou))]) ∧ Below W.heap.size W w') := fun W hb => by
    obtain ⟨hq, ⟨-, -, -, h4⟩, hT⟩ := HQ.out W hb
    have h := termsText_any (ua, un, uc) ou W h4 hfu hT.T hT.F hT.W
    rw [show ttV ou = (0, tmJ ou) from if_pos (hu (by decide))] at h
    exact h
  have HS : Hid (∀ W, Below W0.heap.size W0 W → W.cell? ⟨w.heap.size, 1, none⟩ = some (.int .i64 12) ∧ W.cell? ⟨w.heap.size, 12, none⟩ = some (.slice ua un uc)) := fun W hb => by
   obtain ⟨⟨c0, c1, c2, c3, c4, c5, c6, c7, c8, c9, c10, c11, c12, c13⟩, -⟩ := HQ.out W hb
   dsimp only [slW] at c0 c1 c2 c3 c4 c5 c6 c7 c8 c9 c10 c11 c12 c13
   exact ⟨c1, c12⟩
  obtain ⟨c1, c12⟩ := HS.out W0 (Below.refl _ _)
  clear HQ
  go_enter Tryz.func41, Tryz.ntmps41
  go_wp2_with fail
  refine (H1.out W0 (Below.refl _ _)).mono ?_
  rintro e x1 ⟨rfl, hx1⟩
  go_wp2
  go_ret
  rw [hw]
  exact WbE.mk (ws := [tmJ ou]) (cs := #[.string (str (tmJ ou))]) (hb0.trans (hx1.mono hb0.size)) (by simp [sc]) rfl (by omega)
 ·have hb13 : bt oe 1 4 = true := by simpa [nbC] using hb
  obtain ⟨e1, e4⟩ := bt_in hb13
  obtain ⟨m, rfl⟩ : ∃ m : Nat, oe = (m : Int) + 1 := ⟨(oe - 1).toNat, by omega⟩
  have hm4 : (m : Int) < 4 := by omega
  obtain ⟨W0, hW0⟩ : ∃ W, w.alloc (.cells #[.string ot, .int .i64 13, .string on, .slice ya yn yc, .int .i64 om, .int .i64 of0, .int .i64 od, .slice ba bn bc', .int .i64 oh, .slice pa pn pc, .int .i64 ((m : Int) + 1), .bool or, .slice ua un uc, .int .i64 oc] 35) = W := ⟨_, rfl⟩
  rw [hW0] at hb0 HQ
  obtain ⟨ow, how⟩ : ∃ x : List Nat, (if or then [100, 111, 119, 110] else [117, 112]) = x := ⟨_, rfl⟩
  have hw : wcJ ⟨ot, 13, on, oy, om, of0, od, ob, oh, op, (m : Int) + 1, or, ou, oc⟩ = [wdJ ewZ m, ow, tmJ ou] := by
   have : ((m : Int) + 1).toNat - 1 = m := by omega
   simp [wcJ, how]
  have H1 : Hid (∀ W, Below W0.heap.size W0 W → Calls Tryz.prog 77 #[.bool or] W fun e w' => e = .returned (.string (str ow)) ∧ Below W.heap.size W w') := fun W hb => by rw [← how]; exact orderWord_J or W
  have H2 : Hid (∀ W, Below W0.heap.size W0 W → Calls Tryz.prog 76 #[.slice ua un uc] W fun e w' => e = .returned (.agg #[.int .i64 0, .string (str (tmJ ou))]) ∧ Below W.heap.size W w') := fun W hb => by
    obtain ⟨hq, ⟨-, -, -, h4⟩, hT⟩ := HQ.out W hb
    have h := termsText_any (ua, un, uc) ou W h4 hfu hT.T hT.F hT.W
    rw [show ttV ou = (0, tmJ ou) from if_pos (hu (by decide))] at h
    exact h
  clear how
  have HS : Hid (∀ W, Below W0.heap.size W0 W → W.cell? ⟨w.heap.size, 1, none⟩ = some (.int .i64 13) ∧ W.cell? ⟨w.heap.size, 10, none⟩ = some (.int .i64 ((m : Int) + 1)) ∧ W.cell? ⟨w.heap.size, 11, none⟩ = some (.bool or) ∧ W.cell? ⟨w.heap.size, 12, none⟩ = some (.slice ua un uc) ∧ W.cell? ⟨4, m, none⟩ = some (.string (str (wdJ ewZ m)))) := fun W hb => by
   obtain ⟨⟨c0, c1, c2, c3, c4, c5, c6, c7, c8, c9, c10, c11, c12, c13⟩, -, hT⟩ := HQ.out W hb
   dsimp only [slW] at c0 c1 c2 c3 c4 c5 c6 c7 c8 c9 c10 c11 c12 c13
   exact ⟨c1, c10, c11, c12, hT.e m (show m < 4 by omega)⟩
  obtain ⟨c1, c10, c11, c12, ct⟩ := HS.out W0 (Below.refl _ _)
  clear HQ
  go_enter Tryz.func41, Tryz.ntmps41
  go_wp2_with fail
  refine wp_region_held_drew (S := fun W => W.cell? ⟨w.heap.size, 1, none⟩ = some (.int .i64 13) ∧ W.cell? ⟨w.heap.size, 10, none⟩ = some (.int .i64 ((m : Int) + 1)) ∧ W.cell? ⟨w.heap.size, 11, none⟩ = some (.bool or) ∧ W.cell? ⟨w.heap.size, 12, none⟩ = some (.slice ua un uc) ∧ W.cell? ⟨4, m, none⟩ = some (.string (str (wdJ ewZ m)))) (by kernel_rfl) ?hS48 (fun hHeld => ?_)
  case hS48 => exact HS.out _ (Below.refl _ _).drew
  have hx0 : Below W0.heap.size W0 W0.drew := (Below.refl _ _).drew
  generalize W0.drew = x0 at *
  refine tk (i := 0) (v := ?_) rfl (Or.inl ⟨by rfl, ?hy49⟩) ?ty49
  case hy49 => (intro w5 hSw; obtain ⟨c1, c10, c11, c12, ct⟩ := hSw; go_simp; all_goals with_reducible rfl)
  simp only [Act.put, J1, J2, J4, J5, J6]
  refine tk (i := 1) (v := ?_) rfl (Or.inl ⟨by rfl, ?hy50⟩) ?ty50
  case hy50 => (intro w5 hSw; obtain ⟨c1, c10, c11, c12, ct⟩ := hSw; go_simp; all_goals with_reducible rfl)
  simp only [Act.put, J1, J2, J3, J4, J5, J6]
  refine tk (i := 2) (v := .int .i64 (m : Int)) rfl (Or.inl ⟨by rfl, ?hy51⟩) ?ty51
  case hy51 => (intro w5 hSw; obtain ⟨c1, c10, c11, c12, ct⟩ := hSw; go_simp; first | (rw [IntKind.wrap_i64]; omega) | (simp; done) | (all_goals with_reducible rfl))
  simp only [Act.put, J1, J2, J3, J4, J5, J6]
  refine tk (i := 3) (v := ?_) rfl (Or.inl ⟨by rfl, ?hy52⟩) ?ty52
  case hy52 => (intro w5 hSw; obtain ⟨c1, c10, c11, c12, ct⟩ := hSw; go_simp; all_goals with_reducible rfl)
  simp only [Act.put, J1, J2, J3, J4, J5, J6]
  refine tk (i := 4) (v := ?_) rfl (Or.inl ⟨by rfl, ?hy53⟩) ?ty53
  case hy53 => (intro w5 hSw; obtain ⟨c1, c10, c11, c12, ct⟩ := hSw; go_simp; all_goals with_reducible rfl)
  simp only [Act.put, J1, J2, J3, J4, J5, J6]
  refine tk (i := 5) (v := ?_) rfl (Or.inl ⟨by rfl, ?hy54⟩) ?ty54
  case hy54 => (intro w5 hSw; obtain ⟨c1, c10, c11, c12, ct⟩ := hSw; go_simp; all_goals with_reducible rfl)
  simp only [Act.put, J1, J2, J3, J4, J5, J6]
  refine tk (i := 6) (v := ?_) rfl (Or.inl ⟨by rfl, ?hy55⟩) ?ty55
  case hy55 => (intro w5 hSw; obtain ⟨c1, c10, c11, c12, ct⟩ := hSw; go_simp; all_goals with_reducible rfl)
  simp only [Act.put, J1, J2, J3, J4, J5, J6]
  refine tk (i := 8) (v := ?_) rfl (Or.inl ⟨by rfl, ?hy56⟩) ?ty56
  case hy56 => (intro w5 hSw; obtain ⟨c1, c10, c11, c12, ct⟩ := hSw; go_simp; all_goals with_reducible rfl)
  simp only [Act.put, J1, J2, J3, J4, J5, J6]
  refine tk (i := 9) (v := ?_) rfl (Or.inl ⟨by rfl, ?hy57⟩) ?ty57
  case hy57 => (intro w5 hSw; obtain ⟨c1, c10, c11, c12, ct⟩ := hSw; go_simp; all_goals with_reducible rfl)
  simp only [Act.put, J1, J2, J3, J4, J5, J6]
  refine wpAnyH_ready (rs := [7]) (by kernel_rfl) (by simp) ?_
  refine AllReadyH.cons rfl (fun K hK => ?_) AllReadyH.nil
  go_simp
  refine (H1.out x0 hx0).mono ?_
  rintro e x1 ⟨rfl, hc1⟩
  have hx1 := hx0.trans (hc1.mono hx0.size)
  refine hK.out _ _ (HS.out _ hx1) (fun hHeld => ?_)
  clear hK K
  refine wpAnyH_ready (rs := [10]) (by kernel_rfl) (by simp) ?_
  refine AllReadyH.cons rfl (fun K hK => ?_) AllReadyH.nil
  go_simp
  refine (H2.out x1 hx1).mono ?_
  rintro e x2 ⟨rfl, hc2⟩
  have hx2 := hx1.trans (hc2.mono hx1.size)
  refine hK.out _ _ (HS.out _ hx2) (fun hHeld => ?_)
  clear hK K
  refine tk (i := 11) (v := ?_) rfl (Or.inl ⟨by rfl, ?hy58⟩) ?ty58
  case hy58 => (intro w5 hSw; obtain ⟨c1, c10, c11, c12, ct⟩ := hSw; go_simp; all_goals with_reducible rfl)
  simp only [Act.put, J1, J2, J3, J4, J5, J6]
  refine wpAnyH_ready (rs := [12]) (by kernel_rfl) (by simp) ?_
  refine AllReadyH.cons rfl (fun K hK => ?_) AllReadyH.nil
  go_simp
  have hbA : Below W0.heap.size W0 (x2.alloc (.cells #[.string (str (wdJ ewZ m)), .string (str ow), .string (str (tmJ ou))] 9)) := hx2.trans ((Below.refl _ _).alloc hx2.size _)
  refine hK.out _ _ (HS.out _ hbA) (fun hHeld => ?_)
  clear hK K
  refine tk (i := 13) (v := ?_) rfl (Or.inl ⟨by rfl, ?hy59⟩) ?ty59
  case hy59 => (intro w5 hSw; obtain ⟨c1, c10, c11, c12, ct⟩ := hSw; go_simp; all_goals with_reducible rfl)
  simp only [Act.put, J1, J2, J3, J4, J5, J6]
  refine wpAnyH_done (by kernel_rfl) ?_ _
  clear hHeld
  go_wp2
  go_ret
  rw [hw]
  exact WbE.mk (ws := [wdJ ewZ m, ow, tmJ ou]) (cs := #[.string (str (wdJ ewZ m)), .string (str ow), .string (str (tmJ ou))]) (hb0.trans (hx2.mono hb0.size)) (by simp [sc]) rfl (by omega)
 ·have hb14 : bt oc 1 3 = true := by simpa [nbC] using hb
  obtain ⟨e1, e4⟩ := bt_in hb14
  obtain ⟨m, rfl⟩ : ∃ m : Nat, oc = (m : Int) + 1 := ⟨(oc - 1).toNat, by omega⟩
  have hm3 : (m : Int) < 3 := by omega
  obtain ⟨W0, hW0⟩ : ∃ W, w.alloc (.cells #[.string ot, .int .i64 14, .string on, .slice ya yn yc, .int .i64 om, .int .i64 of0, .int .i64 od, .slice ba bn bc', .int .i64 oh, .slice pa pn pc, .int .i64 oe, .bool or, .slice ua un uc, .int .i64 ((m : Int) + 1)] 35) = W := ⟨_, rfl⟩
  rw [hW0] at hb0 HQ
  have hw : wcJ ⟨ot, 14, on, oy, om, of0, od, ob, oh, op, oe, or, ou, (m : Int) + 1⟩ = [wdJ nwZ m] := by
   have : ((m : Int) + 1).toNat - 1 = m := by omega
   simp [wcJ]
  have HS : Hid (∀ W, Below W0.heap.size W0 W → W.cell? ⟨w.heap.size, 1, none⟩ = some (.int .i64 14) ∧ W.cell? ⟨w.heap.size, 13, none⟩ = some (.int .i64 ((m : Int) + 1)) ∧ W.cell? ⟨5, m, none⟩ = some (.string (str (wdJ nwZ m)))) := fun W hb => by
   obtain ⟨⟨c0, c1, c2, c3, c4, c5, c6, c7, c8, c9, c10, c11, c12, c13⟩, -, hT⟩ := HQ.out W hb
   dsimp only [slW] at c1 c13
   exact ⟨c1, c13, hT.n m (show m < 3 by omega)⟩
  obtain ⟨c1, c13, ct⟩ := HS.out W0 (Below.refl _ _)
  clear HQ
  go_enter Tryz.func41, Tryz.ntmps41
  go_wp2
  go_ret
  rw [hw]
  exact WbE.mk (ws := [wdJ nwZ m]) (cs := #[.string (str (wdJ nwZ m))]) hb0 (by simp [sc]) rfl (by omega)
end Go.Proofs.YtjogclofjollnaaGreatDoor
