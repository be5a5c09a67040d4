/- The fault of a command: the model's side; no conditions beyond those that each fact names · What stands behind the word of a command, and its text, the model's; no conditions beyond those that each fact names. -/
import Derived.Test.YtjogclofjollnaaGreatDoorCl9ToCfl
import Derived.Test.YtjogclofjollnaaGreatDoorYftToCfv
import Derived.Test.YtjogclofjollnaaGreatDoorTfdToSmo
import Derived.Test.YtjogclofjollnaaGreatDoorCtl
import Derived.Test.YtjogclofjollnaaGreatDoorCtwToCl0
import Derived.Test.YtjogclofjollnaaGreatDoorEncB3ToTxm
namespace Go.Proofs.YtjogclofjollnaaGreatDoor
open Go.RowKit
set_option linter.unusedVariables false
set_option maxHeartbeats 6400000 in
set_option maxRecDepth 100000 in
theorem l14Fault_any (o : CmR) (p : SlC) (g : Nat) {lo : Nat} (w : World) (hs : IsCm lo w p o) (hq : Qm w g (cmQ o p)) (hf : FtC o) :
  Calls Tryz.prog 14 #[.pointer (some ⟨g, 0, none⟩)] w fun e w' => e = .returned (.int .i64 (cfV o)) ∧ Below w.heap.size w w' := by
 obtain ⟨hf1, hf2, hf3, -, -, hf6⟩ := hf
 have HV : Hid (cfV o = if tgOk (txB o.t) = true then (if fmC o = true then (if (nmK o.k && !bnOk (txB o.n)) = true then 5 else if (rgK o.k && decide (rfV o.y ≠ 0)) = true then rfV o.y else if nbC o = true then (if tmK o.k = true then tmV o.u else 0) else 3) else 1) else 5) := rfl
 have HTG : Hid (∀ w', Calls Tryz.prog 27 #[.string o.t] w' fun e w'' => e = .returned (.bool (tgOk (txB o.t))) ∧ Below w'.heap.size w' w'') := fun w' => l14Tag_nm o.t w' hf1
 have HFM : Hid (∀ w', IsCm lo w' p o → Qm w' g (cmQ o p) → Calls Tryz.prog 28 #[.pointer (some ⟨g, 0, none⟩)] w' fun e w'' => e = .returned (.bool (fmC o)) ∧ Below w'.heap.size w' w'') := fun w' h h' => l14Form_any o p g w' h h'
 have HNA : Hid (∀ w', Calls Tryz.prog 29 #[.int .i64 o.k] w' fun e w'' => e = .returned (.bool (nmK o.k)) ∧ w' = w'') := fun w' => l14Named_any _ w'
 have HNM : Hid (∀ w', Calls Tryz.prog 30 #[.string o.n] w' fun e w'' => e = .returned (.bool (bnOk (txB o.n))) ∧ Below w'.heap.size w' w'') := fun w' => l7Name_nm o.n w' hf2
 have HRA : Hid (∀ w', Calls Tryz.prog 31 #[.int .i64 o.k] w' fun e w'' => e = .returned (.bool (rgK o.k)) ∧ w' = w'') := fun w' => l14Ranged_any _ w'
 have HRF : Hid (∀ w', IsYl lo w' p.1 o.y → Calls Tryz.prog 32 #[slW p.1] w' fun e w'' => e = .returned (.int .i64 (rfV o.y)) ∧ Below w'.heap.size w' w'') := fun w' h => l11Fault_any p.1.1 p.1.2.1 p.1.2.2 o.y w' h.1 h.2.2.2.1 (by rw [← h.1]; exact hf3)
 have HNB : Hid (∀ w', IsCm lo w' p o → Qm w' g (cmQ o p) → Calls Tryz.prog 33 #[.pointer (some ⟨g, 0, none⟩)] w' fun e w'' => e = .returned (.bool (nbC o)) ∧ Below w'.heap.size w' w'') := fun w' h h' => l14Numbers_any o p g w' h h'
 have HTM : Hid (∀ w', Calls Tryz.prog 34 #[.int .i64 o.k] w' fun e w'' => e = .returned (.bool (tmK o.k)) ∧ w' = w'') := fun w' => l14Termed_any _ w'
 have HTF : Hid (∀ w', IsTs lo w' p.2.2.2 o.u → Calls Tryz.prog 35 #[slW p.2.2.2] w' fun e w'' => e = .returned (.int .i64 (tmV o.u)) ∧ Below w'.heap.size w' w'') := fun w' h => l12Fault_any p.2.2.2 o.u w' h hf6
 generalize tgOk (txB o.t) = tg at *
 generalize bnOk (txB o.n) = bn at *
 generalize rfV o.y = rf at *
 generalize tmV o.u = tv at *
 generalize nbC o = nb at *
 generalize fmC o = fm at *
 generalize cfV o = r at *
 generalize nmK o.k = nm at *
 generalize rgK o.k = rg at *
 generalize tmK o.k = tm' at *
 clear hf1 hf2 hf3 hf6
 have hB0 : Below w.heap.size w w := Below.refl _ _
 obtain ⟨c0, c1, c2, c3, c4, c5, c6, c7, c8, c9, c10, c11, c12, c13⟩ := id hq
 dsimp only at c0 c1 c2 c3 c4 c5 c6 c7 c8 c9 c10 c11 c12 c13
 go_enter Tryz.func14, Tryz.ntmps14
 go_wp2_with fail
 refine (HTG.out _).mono ?_
 rintro e w1 ⟨rfl, hb⟩
 have hB1 := hB0.trans (hb.mono hB0.size)
 clear c0 c1 c2 c3 c4 c5 c6 c7 c8 c9 c10 c11 c12 c13
 replace hq := hq.below hb hq.lt
 replace hs := hs.below hb
 clear hb hB0
 obtain ⟨c0, c1, c2, c3, c4, c5, c6, c7, c8, c9, c10, c11, c12, c13⟩ := id hq
 dsimp only at c0 c1 c2 c3 c4 c5 c6 c7 c8 c9 c10 c11 c12 c13
 cases tg with
 | false =>
  have HR : Hid (r = 5) := HV.out.trans (by simp)
  clear HV
  go_wp2
  go_ret
  exact ⟨by rw [HR.out]; first | rfl | simp, hB1⟩
 | true =>
  go_wp2_with fail
  refine (HFM.out _ hs hq).mono ?_
  rintro e w2 ⟨rfl, hb⟩
  have hB2 := hB1.trans (hb.mono hB1.size)
  clear c0 c1 c2 c3 c4 c5 c6 c7 c8 c9 c10 c11 c12 c13
  replace hq := hq.below hb hq.lt
  replace hs := hs.below hb
  clear hb hB1
  obtain ⟨c0, c1, c2, c3, c4, c5, c6, c7, c8, c9, c10, c11, c12, c13⟩ := id hq
  dsimp only at c0 c1 c2 c3 c4 c5 c6 c7 c8 c9 c10 c11 c12 c13
  cases fm with
  | false =>
   have HR : Hid (r = 1) := HV.out.trans (by simp)
   clear HV
   go_wp2
   go_ret
   exact ⟨by rw [HR.out]; first | rfl | simp, hB2⟩
  | true =>
   go_wp2_with fail
   refine (HNA.out _).mono ?_
   rintro e w' ⟨rfl, rfl⟩
   cases nm with
   | false =>
    go_wp2_with fail
    refine (HRA.out _).mono ?_
    rintro e w' ⟨rfl, rfl⟩
    cases rg with
    | false =>
     go_wp2_with fail
     refine (HNB.out _ hs hq).mono ?_
     rintro e w3 ⟨rfl, hb⟩
     have hB3 := hB2.trans (hb.mono hB2.size)
     clear c0 c1 c2 c3 c4 c5 c6 c7 c8 c9 c10 c11 c12 c13
     replace hq := hq.below hb hq.lt
     replace hs := hs.below hb
     clear hb hB2
     obtain ⟨c0, c1, c2, c3, c4, c5, c6, c7, c8, c9, c10, c11, c12, c13⟩ := id hq
     dsimp only at c0 c1 c2 c3 c4 c5 c6 c7 c8 c9 c10 c11 c12 c13
     cases nb with
     | false =>
      have HR : Hid (r = 3) := HV.out.trans (by simp)
      clear HV
      go_wp2
      go_ret
      exact ⟨by rw [HR.out]; first | rfl | simp, hB3⟩
     | true =>
      go_wp2_with fail
      refine (HTM.out _).mono ?_
      rintro e w' ⟨rfl, rfl⟩
      cases tm' with
      | false =>
       have HR : Hid (r = 0) := HV.out.trans (by simp)
       clear HV
       go_wp2
       go_ret
       exact ⟨by rw [HR.out]; first | rfl | simp, hB3⟩
      | true =>
       go_wp2_with fail
       refine (HTF.out _ hs.2.2.2).mono ?_
       rintro e w4 ⟨rfl, hb⟩
       have hB4 := hB3.trans (hb.mono hB3.size)
       clear c0 c1 c2 c3 c4 c5 c6 c7 c8 c9 c10 c11 c12 c13
       replace hq := hq.below hb hq.lt
       replace hs := hs.below hb
       clear hb hB3
       obtain ⟨c0, c1, c2, c3, c4, c5, c6, c7, c8, c9, c10, c11, c12, c13⟩ := id hq
       dsimp only at c0 c1 c2 c3 c4 c5 c6 c7 c8 c9 c10 c11 c12 c13
       have HR : Hid (r = tv) := HV.out.trans (by simp)
       clear HV
       go_wp2
       go_ret
       exact ⟨by rw [HR.out]; first | rfl | simp, hB4⟩
    | true =>
     go_wp2_with fail
     refine (HRF.out _ hs.1).mono ?_
     rintro e w3 ⟨rfl, hb⟩
     have hB3 := hB2.trans (hb.mono hB2.size)
     clear c0 c1 c2 c3 c4 c5 c6 c7 c8 c9 c10 c11 c12 c13
     replace hq := hq.below hb hq.lt
     replace hs := hs.below hb
     clear hb hB2
     obtain ⟨c0, c1, c2, c3, c4, c5, c6, c7, c8, c9, c10, c11, c12, c13⟩ := id hq
     dsimp only at c0 c1 c2 c3 c4 c5 c6 c7 c8 c9 c10 c11 c12 c13
     by_cases hrf : rf = 0
     rotate_left
     ·have hre : (rf != 0) = true := by simp [hrf]
      have HR : Hid (r = rf) := HV.out.trans (by simp [hrf])
      clear HV
      go_wp2
      go_ret
      exact ⟨by rw [HR.out]; first | rfl | simp, hB3⟩
     have hre : (rf != 0) = false := by simp [hrf]
     go_wp2_with fail
     refine (HNB.out _ hs hq).mono ?_
     rintro e w4 ⟨rfl, hb⟩
     have hB4 := hB3.trans (hb.mono hB3.size)
     clear c0 c1 c2 c3 c4 c5 c6 c7 c8 c9 c10 c11 c12 c13
     replace hq := hq.below hb hq.lt
     replace hs := hs.below hb
     clear hb hB3
     obtain ⟨c0, c1, c2, c3, c4, c5, c6, c7, c8, c9, c10, c11, c12, c13⟩ := id hq
     dsimp only at c0 c1 c2 c3 c4 c5 c6 c7 c8 c9 c10 c11 c12 c13
     cases nb with
     | false =>
      have HR : Hid (r = 3) := HV.out.trans (by simp [hrf])
      clear HV
      go_wp2
      go_ret
      exact ⟨by rw [HR.out]; first | rfl | simp, hB4⟩
     | true =>
      go_wp2_with fail
      refine (HTM.out _).mono ?_
      rintro e w' ⟨rfl, rfl⟩
      cases tm' with
      | false =>
       have HR : Hid (r = 0) := HV.out.trans (by simp [hrf])
       clear HV
       go_wp2
       go_ret
       exact ⟨by rw [HR.out]; first | rfl | simp, hB4⟩
      | true =>
       go_wp2_with fail
       refine (HTF.out _ hs.2.2.2).mono ?_
       rintro e w5 ⟨rfl, hb⟩
       have hB5 := hB4.trans (hb.mono hB4.size)
       clear c0 c1 c2 c3 c4 c5 c6 c7 c8 c9 c10 c11 c12 c13
       replace hq := hq.below hb hq.lt
       replace hs := hs.below hb
       clear hb hB4
       obtain ⟨c0, c1, c2, c3, c4, c5, c6, c7, c8, c9, c10, c11, c12, c13⟩ := id hq
       dsimp only at c0 c1 c2 c3 c4 c5 c6 c7 c8 c9 c10 c11 c12 c13
       have HR : Hid (r = tv) := HV.out.trans (by simp [hrf])
       clear HV
       go_wp2
       go_ret
       exact ⟨by rw [HR.out]; first | rfl | simp, hB5⟩
   | true =>
    go_wp2_with fail
    refine (HNM.out _).mono ?_
    rintro e w3 ⟨rfl, hb⟩
    have hB3 := hB2.trans (hb.mono hB2.size)
    clear c0 c1 c2 c3 c4 c5 c6 c7 c8 c9 c10 c11 c12 c13
    replace hq := hq.below hb hq.lt
    replace hs := hs.below hb
    clear hb hB2
    obtain ⟨c0, c1, c2, c3, c4, c5, c6, c7, c8, c9, c10, c11, c12, c13⟩ := id hq
    dsimp only at c0 c1 c2 c3 c4 c5 c6 c7 c8 c9 c10 c11 c12 c13
    cases bn with
    | false =>
     have HR : Hid (r = 5) := HV.out.trans (by simp)
     clear HV
     go_wp2
     go_ret
     exact ⟨by rw [HR.out]; first | rfl | simp, hB3⟩
    | true =>
     go_wp2_with fail
     refine (HRA.out _).mono ?_
     rintro e w' ⟨rfl, rfl⟩
     cases rg with
     | false =>
      go_wp2_with fail
      refine (HNB.out _ hs hq).mono ?_
      rintro e w4 ⟨rfl, hb⟩
      have hB4 := hB3.trans (hb.mono hB3.size)
      clear c0 c1 c2 c3 c4 c5 c6 c7 c8 c9 c10 c11 c12 c13
      replace hq := hq.below hb hq.lt
      replace hs := hs.below hb
      clear hb hB3
      obtain ⟨c0, c1, c2, c3, c4, c5, c6, c7, c8, c9, c10, c11, c12, c13⟩ := id hq
      dsimp only at c0 c1 c2 c3 c4 c5 c6 c7 c8 c9 c10 c11 c12 c13
      cases nb with
      | false =>
       have HR : Hid (r = 3) := HV.out.trans (by simp)
       clear HV
       go_wp2
       go_ret
       exact ⟨by rw [HR.out]; first | rfl | simp, hB4⟩
      | true =>
       go_wp2_with fail
       refine (HTM.out _).mono ?_
       rintro e w' ⟨rfl, rfl⟩
       cases tm' with
       | false =>
        have HR : Hid (r = 0) := HV.out.trans (by simp)
        clear HV
        go_wp2
        go_ret
        exact ⟨by rw [HR.out]; first | rfl | simp, hB4⟩
       | true =>
        go_wp2_with fail
        refine (HTF.out _ hs.2.2.2).mono ?_
        rintro e w5 ⟨rfl, hb⟩
        have hB5 := hB4.trans (hb.mono hB4.size)
        clear c0 c1 c2 c3 c4 c5 c6 c7 c8 c9 c10 c11 c12 c13
        replace hq := hq.below hb hq.lt
        replace hs := hs.below hb
        clear hb hB4
        obtain ⟨c0, c1, c2, c3, c4, c5, c6, c7, c8, c9, c10, c11, c12, c13⟩ := id hq
        dsimp only at c0 c1 c2 c3 c4 c5 c6 c7 c8 c9 c10 c11 c12 c13
        have HR : Hid (r = tv) := HV.out.trans (by simp)
        clear HV
        go_wp2
        go_ret
        exact ⟨by rw [HR.out]; first | rfl | simp, hB5⟩
     | true =>
      go_wp2_with fail
      refine (HRF.out _ hs.1).mono ?_
      rintro e w4 ⟨rfl, hb⟩
      have hB4 := hB3.trans (hb.mono hB3.size)
      clear c0 c1 c2 c3 c4 c5 c6 c7 c8 c9 c10 c11 c12 c13
      replace hq := hq.below hb hq.lt
      replace hs := hs.below hb
      clear hb hB3
      obtain ⟨c0, c1, c2, c3, c4, c5, c6, c7, c8, c9, c10, c11, c12, c13⟩ := id hq
      dsimp only at c0 c1 c2 c3 c4 c5 c6 c7 c8 c9 c10 c11 c12 c13
      by_cases hrf : rf = 0
      rotate_left
      ·have hre : (rf != 0) = true := by simp [hrf]
       have HR : Hid (r = rf) := HV.out.trans (by simp [hrf])
       clear HV
       go_wp2
       go_ret
       exact ⟨by rw [HR.out]; first | rfl | simp, hB4⟩
      have hre : (rf != 0) = false := by simp [hrf]
      go_wp2_with fail
      refine (HNB.out _ hs hq).mono ?_
      rintro e w5 ⟨rfl, hb⟩
      have hB5 := hB4.trans (hb.mono hB4.size)
      clear c0 c1 c2 c3 c4 c5 c6 c7 c8 c9 c10 c11 c12 c13
      replace hq := hq.below hb hq.lt
      replace hs := hs.below hb
      clear hb hB4
      obtain ⟨c0, c1, c2, c3, c4, c5, c6, c7, c8, c9, c10, c11, c12, c13⟩ := id hq
      dsimp only at c0 c1 c2 c3 c4 c5 c6 c7 c8 c9 c10 c11 c12 c13
      cases nb with
      | false =>
       have HR : Hid (r = 3) := HV.out.trans (by simp [hrf])
       clear HV
       go_wp2
       go_ret
       exact ⟨by rw [HR.out]; first | rfl | simp, hB5⟩
      | true =>
       go_wp2_with fail
       refine (HTM.out _).mono ?_
       rintro e w' ⟨rfl, rfl⟩
       cases tm' with
       | false =>
        have HR : Hid (r = 0) := HV.out.trans (by simp [hrf])
        clear HV
        go_wp2
        go_ret
        exact ⟨by rw [HR.out]; first | rfl | simp, hB5⟩
       | true =>
        go_wp2_with fail
        refine (HTF.out _ hs.2.2.2).mono ?_
        rintro e w6 ⟨rfl, hb⟩
        have hB6 := hB5.trans (hb.mono hB5.size)
        clear c0 c1 c2 c3 c4 c5 c6 c7 c8 c9 c10 c11 c12 c13
        replace hq := hq.below hb hq.lt
        replace hs := hs.below hb
        clear hb hB5
        obtain ⟨c0, c1, c2, c3, c4, c5, c6, c7, c8, c9, c10, c11, c12, c13⟩ := id hq
        dsimp only at c0 c1 c2 c3 c4 c5 c6 c7 c8 c9 c10 c11 c12 c13
        have HR : Hid (r = tv) := HV.out.trans (by simp [hrf])
        clear HV
        go_wp2
        go_ret
        exact ⟨by rw [HR.out]; first | rfl | simp, hB6⟩
end Go.Proofs.YtjogclofjollnaaGreatDoor
namespace Go.Proofs.YtjogclofjollnaaGreatDoor
open Go.RowKit
set_option linter.unusedVariables false
theorem cell_J {g i : Nat} {v v' : Value} {W : World} (h : W.cell? ⟨g, i, none⟩ = some v) (e : v = v') : W.cell? ⟨g, i, none⟩ = some v' := e ▸ h
theorem digJ (f : Int) (h0 : 0 ≤ f) (h9 : f ≤ 9999) (W : World) : Calls Tryz.prog 55 #[.int .i64 f] W fun e w' => e = .returned (.string (str (d4J f))) ∧ Below W.heap.size W w' := by
 obtain ⟨m, rfl⟩ := Int.eq_ofNat_of_zero_le h0
 exact l1Digits_any 3 m W (by omega) (by omega)
theorem setJ (a : Option Addr) (n cap : Nat) (l : List YgP) {lo : Nat} (w W : World) (hs : IsYl lo w (a, n, cap) l) (h : rfV l = 0) (hb : Below w.heap.size w W) : Calls Tryz.prog 57 #[.slice a n cap] W fun e w' => e = .returned (.string (str (txY l))) ∧ Below W.heap.size W w' := by
 obtain ⟨hA, h1, h8⟩ := rfV_A h
 exact l11Text_any a n cap l W hs.1 (hs.2.2.2.1.below hb) (by have := hs.1; dsimp only at this; omega) hA
theorem txJ_len {l : List YgP} (h : rfV l = 0) : (txY l).length ≤ 10000000 := by
 obtain ⟨hA, h1, h8⟩ := rfV_A h
 have := txY_len l
 omega
theorem wdJ_big {z : List (List Nat)} (h : ∀ x ∈ z, x.length ≤ 20) (k : Nat) : (wdJ z k).length ≤ 10000000 := Nat.le_trans (wdJ_len h k) (by decide)
theorem d4J_big (n : Int) : (d4J n).length ≤ 10000000 := Nat.le_trans (d4J_len n) (by decide)
theorem bt_in {x a b : Int} (h : bt x a b = true) : a ≤ x ∧ x ≤ b := of_decide_eq_true h
set_option maxHeartbeats 1600000 in
set_option maxRecDepth 100000 in
theorem l14Tail_any (o : CmR) (p : SlC) (R : Nat) {lo : Nat} (w : World) (hs : IsCm lo w p o) (hq : Qm w R (cmQ o p)) (h0 : OkT o) :
  Calls Tryz.prog 37 #[.pointer (some ⟨R, 0, none⟩)] w fun e w' => e = .returned (.string (str (tlJ 32 (wcJ o)))) ∧ Below w.heap.size w w' := by
 have HC : ∀ W, Below w.heap.size w W → Qm W R (cmQ o p) := fun W hb => hq.below hb hq.lt
 obtain ⟨ht, ⟨hk1, hk14⟩, hn, hy, hb, hu⟩ := h0
 obtain ⟨hs1, hs2, hs3, hs4⟩ := hs
 obtain ⟨ot, ok, on, oy, om, of0, od, ob, oh, op, oe, or, ou, oc⟩ := o
 obtain ⟨⟨ya, yn, yc⟩, ⟨ba, bn, bc'⟩, ⟨pa, pn, pc⟩, ua, un, uc⟩ := p
 dsimp only at *
 have hon : Value.string on = .string (str (txB on)) := by rw [str_txJ]
 have hol : nmK ok = true → (txB on).length ≤ 10000000 := fun h => by have := hn h; rw [txB_sizeJ]; omega
 have hcase : ok = 1 ∨ ok = 2 ∨ ok = 3 ∨ ok = 4 ∨ ok = 5 ∨ ok = 6 ∨ ok = 7 ∨ ok = 8 ∨ ok = 9 ∨ ok = 10 ∨ ok = 11 ∨ ok = 12 ∨ ok = 13 ∨ ok = 14 := by omega
 clear hk1 hk14
 rcases hcase with rfl | rfl | rfl | rfl | rfl | rfl | rfl | rfl | rfl | rfl | rfl | rfl | rfl | rfl
 ·have hw : wcJ ⟨ot, 1, on, oy, om, of0, od, ob, oh, op, oe, or, ou, oc⟩ = [] := by simp [wcJ]
  rw [hw]
  exact ctl_1 R w (show Hid _ from fun W hb => by obtain ⟨c0, c1, c2, c3, c4, c5, c6, c7, c8, c9, c10, c11, c12, c13⟩ := HC W hb; dsimp only [slW] at c0 c1 c2 c3 c4 c5 c6 c7 c8 c9 c10 c11 c12 c13; exact ⟨c1, trivial⟩)
 ·have hw : wcJ ⟨ot, 2, on, oy, om, of0, od, ob, oh, op, oe, or, ou, oc⟩ = [txB on] := by simp [wcJ]
  rw [hw]
  exact ctl_2 R w (txB on) (hol (by decide)) (show Hid _ from fun W hb => by obtain ⟨c0, c1, c2, c3, c4, c5, c6, c7, c8, c9, c10, c11, c12, c13⟩ := HC W hb; dsimp only [slW] at c0 c1 c2 c3 c4 c5 c6 c7 c8 c9 c10 c11 c12 c13; exact ⟨c1, cell_J c2 hon⟩)
 ·have hw : wcJ ⟨ot, 3, on, oy, om, of0, od, ob, oh, op, oe, or, ou, oc⟩ = [txB on] := by simp [wcJ]
  rw [hw]
  exact ctl_3 R w (txB on) (hol (by decide)) (show Hid _ from fun W hb => by obtain ⟨c0, c1, c2, c3, c4, c5, c6, c7, c8, c9, c10, c11, c12, c13⟩ := HC W hb; dsimp only [slW] at c0 c1 c2 c3 c4 c5 c6 c7 c8 c9 c10 c11 c12 c13; exact ⟨c1, cell_J c2 hon⟩)
 ·have hw : wcJ ⟨ot, 4, on, oy, om, of0, od, ob, oh, op, oe, or, ou, oc⟩ = [txB on] := by simp [wcJ]
  rw [hw]
  exact ctl_4 R w (txB on) (hol (by decide)) (show Hid _ from fun W hb => by obtain ⟨c0, c1, c2, c3, c4, c5, c6, c7, c8, c9, c10, c11, c12, c13⟩ := HC W hb; dsimp only [slW] at c0 c1 c2 c3 c4 c5 c6 c7 c8 c9 c10 c11 c12 c13; exact ⟨c1, cell_J c2 hon⟩)
 ·have hw : wcJ ⟨ot, 5, on, oy, om, of0, od, ob, oh, op, oe, or, ou, oc⟩ = [] := by simp [wcJ]
  rw [hw]
  exact ctl_5 R w (show Hid _ from fun W hb => by obtain ⟨c0, c1, c2, c3, c4, c5, c6, c7, c8, c9, c10, c11, c12, c13⟩ := HC W hb; dsimp only [slW] at c0 c1 c2 c3 c4 c5 c6 c7 c8 c9 c10 c11 c12 c13; exact ⟨c1, trivial⟩)
 ·have hw : wcJ ⟨ot, 6, on, oy, om, of0, od, ob, oh, op, oe, or, ou, oc⟩ = [txB on, d4J of0, d4J od, Xf.enc ob] := by simp [wcJ]
  rw [hw]
  have hb6 : bt of0 0 15 = true ∧ bt od 0 9999 = true ∧ bt (ob.length : Int) 1 400 = true := by simpa [nbC] using hb
  obtain ⟨f0, f1⟩ := bt_in hb6.1
  obtain ⟨d0, d1⟩ := bt_in hb6.2.1
  obtain ⟨b0, b1⟩ := bt_in hb6.2.2
  have hel : (Xf.enc ob).length ≤ 10000000 := by rw [Xf.enc_len]; omega
  exact ctl_6 R w (txB on) (d4J of0) (d4J od) (Xf.enc ob) (hol (by decide)) (d4J_big _) (d4J_big _) hel of0 od ba bn bc' (show Hid _ from fun W hb => by obtain ⟨c0, c1, c2, c3, c4, c5, c6, c7, c8, c9, c10, c11, c12, c13⟩ := HC W hb; dsimp only [slW] at c0 c1 c2 c3 c4 c5 c6 c7 c8 c9 c10 c11 c12 c13; exact ⟨c1, cell_J c2 hon, c5, c6, c7⟩) (show Hid _ from fun W hb => digJ of0 f0 (by omega) W) (show Hid _ from fun W hb => digJ od d0 d1 W) (show Hid _ from fun W hb => l1Encode_any ba bn bc' ob W hs2.1 (hs2.2.2.2.2.1.below hb) hs2.2.2.2.1 (by have := hs2.1; dsimp only at this; omega))
 ·have hw : wcJ ⟨ot, 7, on, oy, om, of0, od, ob, oh, op, oe, or, ou, oc⟩ = [txY oy, wdJ mwZ om.toNat, d4J of0] := by simp [wcJ]
  rw [hw]
  have hb7 : bt om 1 3 = true ∧ bt of0 0 15 = true := by simpa [nbC] using hb
  obtain ⟨m0, m1⟩ := bt_in hb7.1
  obtain ⟨f0, f1⟩ := bt_in hb7.2
  have hy0 := hy (by decide)
  obtain ⟨m, rfl⟩ := Int.eq_ofNat_of_zero_le (show 0 ≤ om by omega)
  exact ctl_7 R w (txY oy) (wdJ mwZ ((m : Int)).toNat) (d4J of0) (txJ_len hy0) (wdJ_big (by decide) _) (d4J_big _) m of0 ya yn yc (show Hid _ from fun W hb => by obtain ⟨c0, c1, c2, c3, c4, c5, c6, c7, c8, c9, c10, c11, c12, c13⟩ := HC W hb; dsimp only [slW] at c0 c1 c2 c3 c4 c5 c6 c7 c8 c9 c10 c11 c12 c13; exact ⟨c1, c3, c4, c5⟩) (show Hid _ from fun W hb => setJ ya yn yc oy w W hs1 hy0 hb) (show Hid _ from fun W hb => l14Mode_any m (by omega) W) (show Hid _ from fun W hb => digJ of0 f0 (by omega) W)
 ·have hw : wcJ ⟨ot, 8, on, oy, om, of0, od, ob, oh, op, oe, or, ou, oc⟩ = [txY oy, txB on] := by simp [wcJ]
  rw [hw]
  have hy0 := hy (by decide)
  exact ctl_8 R w (txY oy) (txB on) (txJ_len hy0) (hol (by decide)) ya yn yc (show Hid _ from fun W hb => by obtain ⟨c0, c1, c2, c3, c4, c5, c6, c7, c8, c9, c10, c11, c12, c13⟩ := HC W hb; dsimp only [slW] at c0 c1 c2 c3 c4 c5 c6 c7 c8 c9 c10 c11 c12 c13; exact ⟨c1, cell_J c2 hon, c3⟩) (show Hid _ from fun W hb => setJ ya yn yc oy w W hs1 hy0 hb)
 ·have hw : wcJ ⟨ot, 9, on, oy, om, of0, od, ob, oh, op, oe, or, ou, oc⟩ = [txY oy, txB on] := by simp [wcJ]
  rw [hw]
  have hy0 := hy (by decide)
  exact ctl_9 R w (txY oy) (txB on) (txJ_len hy0) (hol (by decide)) ya yn yc (show Hid _ from fun W hb => by obtain ⟨c0, c1, c2, c3, c4, c5, c6, c7, c8, c9, c10, c11, c12, c13⟩ := HC W hb; dsimp only [slW] at c0 c1 c2 c3 c4 c5 c6 c7 c8 c9 c10 c11 c12 c13; exact ⟨c1, cell_J c2 hon, c3⟩) (show Hid _ from fun W hb => setJ ya yn yc oy w W hs1 hy0 hb)
 ·have hw : wcJ ⟨ot, 10, on, oy, om, of0, od, ob, oh, op, oe, or, ou, oc⟩ = [] := by simp [wcJ]
  rw [hw]
  exact ctl_10 R w (show Hid _ from fun W hb => by obtain ⟨c0, c1, c2, c3, c4, c5, c6, c7, c8, c9, c10, c11, c12, c13⟩ := HC W hb; dsimp only [slW] at c0 c1 c2 c3 c4 c5 c6 c7 c8 c9 c10 c11 c12 c13; exact ⟨c1, trivial⟩)
 ·have hy0 := hy (by decide)
  have hb11 : bt oh 1 7 = true ∧ pnV op = true := by simpa [nbC] using hb
  obtain ⟨h1, h7⟩ := bt_in hb11.1
  have hpv := hb11.2
  unfold pnV at hpv
  rw [Bool.and_eq_true, decide_eq_true_eq, List.all_eq_true] at hpv
  have HW : ∀ W, Calls Tryz.prog 59 #[.int .i64 oh] W fun e w' => e = .returned (.string (str (wdJ hwZ oh.toNat))) ∧ Below W.heap.size W w' := fun W => by
   have h := l14What_any (oh.toNat - 1) W (by omega)
   rw [whN_w _ (by omega), show oh.toNat - 1 + 1 = oh.toNat by omega, show ((oh.toNat - 1 : Nat) : Int) + 1 = oh by omega] at h
   exact h
  have hpl : (ptJ op).length ≤ 10000000 := by
   unfold ptJ
   split
   ·decide
   ·have := jn4_len 46 (op.map d4J) (fun x hx => by obtain ⟨z, _, rfl⟩ := List.mem_map.1 hx; exact d4J_len z)
    rw [List.length_map] at this
    omega
  cases hp : ptK oh with
  | true =>
   have hw : wcJ ⟨ot, 11, on, oy, om, of0, od, ob, oh, op, oe, or, ou, oc⟩ = [txY oy, wdJ hwZ oh.toNat, ptJ op] := by simp [wcJ, hp]
   rw [hw]
   exact ctl_11t R w (txY oy) (wdJ hwZ oh.toNat) (ptJ op) (txJ_len hy0) (wdJ_big (by decide) _) hpl oh ya yn yc pa pn pc (show Hid _ from fun W hb => by obtain ⟨c0, c1, c2, c3, c4, c5, c6, c7, c8, c9, c10, c11, c12, c13⟩ := HC W hb; dsimp only [slW] at c0 c1 c2 c3 c4 c5 c6 c7 c8 c9 c10 c11 c12 c13; exact ⟨c1, c3, c8, c9⟩) (show Hid _ from fun W hb => setJ ya yn yc oy w W hs1 hy0 hb) (show Hid _ from fun W hb => HW W) (show Hid _ from fun W hb => l14PathText_any pa pn pc op W hs3.1 (hs3.2.2.2.1.below hb) (by have := hs3.1; dsimp only at this; omega) (fun z hz => bt_in (hpv.2 z hz))) hp
  | false =>
   have hw : wcJ ⟨ot, 11, on, oy, om, of0, od, ob, oh, op, oe, or, ou, oc⟩ = [txY oy, wdJ hwZ oh.toNat] := by simp [wcJ, hp]
   rw [hw]
   exact ctl_11f R w (txY oy) (wdJ hwZ oh.toNat) (txJ_len hy0) (wdJ_big (by decide) _) oh ya yn yc pa pn pc (show Hid _ from fun W hb => by obtain ⟨c0, c1, c2, c3, c4, c5, c6, c7, c8, c9, c10, c11, c12, c13⟩ := HC W hb; dsimp only [slW] at c0 c1 c2 c3 c4 c5 c6 c7 c8 c9 c10 c11 c12 c13; exact ⟨c1, c3, c8, c9⟩) (show Hid _ from fun W hb => setJ ya yn yc oy w W hs1 hy0 hb) (show Hid _ from fun W hb => HW W) hp
 ·have hw : wcJ ⟨ot, 12, on, oy, om, of0, od, ob, oh, op, oe, or, ou, oc⟩ = [tmJ ou] := by simp [wcJ]
  rw [hw]
  obtain ⟨hn12, hl12, HT⟩ := l12Top_any (ua, un, uc) ou w hs4 (hu (by decide))
  exact ctl_12 R w (tmJ ou) (by omega) ua un uc hn12 (show Hid _ from fun W hb => by obtain ⟨c0, c1, c2, c3, c4, c5, c6, c7, c8, c9, c10, c11, c12, c13⟩ := HC W hb; dsimp only [slW] at c0 c1 c2 c3 c4 c5 c6 c7 c8 c9 c10 c11 c12 c13; exact ⟨c1, c12⟩) (show Hid _ from fun W hb => HT W hb)
 ·obtain ⟨hn12, hl12, HT⟩ := l12Top_any (ua, un, uc) ou w hs4 (hu (by decide))
  have hb13 : bt oe 1 4 = true := by simpa [nbC] using hb
  obtain ⟨e1, e4⟩ := bt_in hb13
  have HK : ∀ W, Calls Tryz.prog 62 #[.int .i64 oe] W fun e w' => e = .returned (.string (str (wdJ ewZ (oe.toNat - 1)))) ∧ Below W.heap.size W w' := fun W => by
   have h := l14KeyW_any oe.toNat (by omega) W
   obtain ⟨j, hj⟩ : ∃ j, oe.toNat = j + 1 := ⟨oe.toNat - 1, by omega⟩
   rw [show ((oe.toNat : Nat) : Int) = oe by omega] at h
   rw [hj] at h ⊢
   exact h
  cases or with
  | true =>
   have hw : wcJ ⟨ot, 13, on, oy, om, of0, od, ob, oh, op, oe, true, ou, oc⟩ = [wdJ ewZ (oe.toNat - 1), [100, 111, 119, 110], tmJ ou] := by simp [wcJ]
   rw [hw]
   exact ctl_13t R w (wdJ ewZ (oe.toNat - 1)) (tmJ ou) (wdJ_big (by decide) _) (by omega) oe ua un uc hn12 (show Hid _ from fun W hb => by obtain ⟨c0, c1, c2, c3, c4, c5, c6, c7, c8, c9, c10, c11, c12, c13⟩ := HC W hb; dsimp only [slW] at c0 c1 c2 c3 c4 c5 c6 c7 c8 c9 c10 c11 c12 c13; exact ⟨c1, c10, c11, c12⟩) (show Hid _ from fun W hb => HK W) (show Hid _ from fun W hb => HT W hb)
  | false =>
   have hw : wcJ ⟨ot, 13, on, oy, om, of0, od, ob, oh, op, oe, false, ou, oc⟩ = [wdJ ewZ (oe.toNat - 1), [117, 112], tmJ ou] := by simp [wcJ]
   rw [hw]
   exact ctl_13f R w (wdJ ewZ (oe.toNat - 1)) (tmJ ou) (wdJ_big (by decide) _) (by omega) oe ua un uc hn12 (show Hid _ from fun W hb => by obtain ⟨c0, c1, c2, c3, c4, c5, c6, c7, c8, c9, c10, c11, c12, c13⟩ := HC W hb; dsimp only [slW] at c0 c1 c2 c3 c4 c5 c6 c7 c8 c9 c10 c11 c12 c13; exact ⟨c1, c10, c11, c12⟩) (show Hid _ from fun W hb => HK W) (show Hid _ from fun W hb => HT W hb)
 ·have hw : wcJ ⟨ot, 14, on, oy, om, of0, od, ob, oh, op, oe, or, ou, oc⟩ = [wdJ nwZ (oc.toNat - 1)] := by simp [wcJ]
  rw [hw]
  have hb14 : bt oc 1 3 = true := by simpa [nbC] using hb
  obtain ⟨e1, e4⟩ := bt_in hb14
  have HK : ∀ W, Calls Tryz.prog 63 #[.int .i64 oc] W fun e w' => e = .returned (.string (str (wdJ nwZ (oc.toNat - 1)))) ∧ Below W.heap.size W w' := fun W => by
   have h := l3Name_any (oc.toNat - 1) (by omega) W
   rw [cmN_w _ (by omega), show ((oc.toNat - 1 + 1 : Nat) : Int) = oc by omega] at h
   exact h
  exact ctl_14 R w (wdJ nwZ (oc.toNat - 1)) (wdJ_big (by decide) _) oc (show Hid _ from fun W hb => by obtain ⟨c0, c1, c2, c3, c4, c5, c6, c7, c8, c9, c10, c11, c12, c13⟩ := HC W hb; dsimp only [slW] at c0 c1 c2 c3 c4 c5 c6 c7 c8 c9 c10 c11 c12 c13; exact ⟨c1, c13⟩) (show Hid _ from fun W hb => HK W)
end Go.Proofs.YtjogclofjollnaaGreatDoor
