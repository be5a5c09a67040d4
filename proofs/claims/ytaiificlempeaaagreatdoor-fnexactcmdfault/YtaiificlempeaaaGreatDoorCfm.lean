/- The fault of a command: the model's side; no conditions beyond those that each fact names. -/
import Derived.Test.YtaiificlempeaaaGreatDoorCl9ToCfl
import Derived.Test.YtaiificlempeaaaGreatDoorTfmToCfq
import Derived.Test.YtaiificlempeaaaGreatDoorTfdToOss
namespace Go.Proofs.YtaiificlempeaaaGreatDoor
open Go.RowKit
set_option linter.unusedVariables false

set_option maxHeartbeats 6400000 in
set_option maxRecDepth 100000 in
theorem l14Fault_any (o : CmR) (p : SlC) (g : Nat) {lo : Nat} (w : World) (hs : IsCm lo w p o) (hq : Qm w g (cmQ o p)) (hf : FtC o) :
    Calls Tryz.prog 13 #[.pointer (some ⟨g, 0, none⟩)] w fun e w' => e = .returned (.int .i64 (cfV o)) ∧ Below w.heap.size w w' := by
  obtain ⟨hf1, hf2, hf3, -, -, hf6⟩ := hf
  have HV : Hid (cfV o = if tgOk (txB o.t) = true then (if fmC o = true then (if (nmK o.k && !bnOk (txB o.n)) = true then 5 else if (rgK o.k && decide (rfV o.y ≠ 0)) = true then rfV o.y else if nbC o = true then (if tmK o.k = true then tmV o.u else 0) else 3) else 1) else 5) := rfl
  have HTG : Hid (∀ w', Calls Tryz.prog 25 #[.string o.t] w' fun e w'' => e = .returned (.bool (tgOk (txB o.t))) ∧ Below w'.heap.size w' w'') := fun w' => l14Tag_nm o.t w' hf1
  have HFM : Hid (∀ w', IsCm lo w' p o → Qm w' g (cmQ o p) → Calls Tryz.prog 26 #[.pointer (some ⟨g, 0, none⟩)] w' fun e w'' => e = .returned (.bool (fmC o)) ∧ Below w'.heap.size w' w'') := fun w' h h' => l14Form_any o p g w' h h'
  have HNA : Hid (∀ w', Calls Tryz.prog 27 #[.int .i64 o.k] w' fun e w'' => e = .returned (.bool (nmK o.k)) ∧ w' = w'') := fun w' => l14Named_any _ w'
  have HNM : Hid (∀ w', Calls Tryz.prog 28 #[.string o.n] w' fun e w'' => e = .returned (.bool (bnOk (txB o.n))) ∧ Below w'.heap.size w' w'') := fun w' => l7Name_nm o.n w' hf2
  have HRA : Hid (∀ w', Calls Tryz.prog 29 #[.int .i64 o.k] w' fun e w'' => e = .returned (.bool (rgK o.k)) ∧ w' = w'') := fun w' => l14Ranged_any _ w'
  have HRF : Hid (∀ w', IsYl lo w' p.1 o.y → Calls Tryz.prog 30 #[slW p.1] w' fun e w'' => e = .returned (.int .i64 (rfV o.y)) ∧ Below w'.heap.size w' w'') := fun w' h => l11Fault_any p.1.1 p.1.2.1 p.1.2.2 o.y w' h.1 h.2.2.2.1 (by rw [← h.1]; exact hf3)
  have HNB : Hid (∀ w', IsCm lo w' p o → Qm w' g (cmQ o p) → Calls Tryz.prog 31 #[.pointer (some ⟨g, 0, none⟩)] w' fun e w'' => e = .returned (.bool (nbC o)) ∧ Below w'.heap.size w' w'') := fun w' h h' => l14Numbers_any o p g w' h h'
  have HTM : Hid (∀ w', Calls Tryz.prog 32 #[.int .i64 o.k] w' fun e w'' => e = .returned (.bool (tmK o.k)) ∧ w' = w'') := fun w' => l14Termed_any _ w'
  have HTF : Hid (∀ w', IsTs lo w' p.2.2.2 o.u → Calls Tryz.prog 33 #[slW p.2.2.2] w' fun e w'' => e = .returned (.int .i64 (tmV o.u)) ∧ Below w'.heap.size w' w'') := fun w' h => l12Fault_any p.2.2.2 o.u w' h hf6
  generalize tgOk (txB o.t) = tg at *
  generalize bnOk (txB o.n) = bn at *
  generalize rfV o.y = rf at *
  generalize tmV o.u = tv at *
  generalize nbC o = nb at *
  generalize fmC o = fm at *
  generalize cfV o = r at *
  generalize nmK o.k = nm at *
  generalize rgK o.k = rg at *
  generalize tmK o.k = tm' at *
  clear hf1 hf2 hf3 hf6
  have hB0 : Below w.heap.size w w := Below.refl _ _
  obtain ⟨c0, c1, c2, c3, c4, c5, c6, c7, c8, c9, c10, c11, c12, c13⟩ := id hq
  dsimp only at c0 c1 c2 c3 c4 c5 c6 c7 c8 c9 c10 c11 c12 c13
  go_enter Tryz.func13, Tryz.ntmps13
  go_wp2_with fail
  refine (HTG.out _).mono ?_
  rintro e w1 ⟨rfl, hb⟩
  have hB1 := hB0.trans (hb.mono hB0.size)
  clear c0 c1 c2 c3 c4 c5 c6 c7 c8 c9 c10 c11 c12 c13
  replace hq := hq.below hb hq.lt
  replace hs := hs.below hb
  clear hb hB0
  obtain ⟨c0, c1, c2, c3, c4, c5, c6, c7, c8, c9, c10, c11, c12, c13⟩ := id hq
  dsimp only at c0 c1 c2 c3 c4 c5 c6 c7 c8 c9 c10 c11 c12 c13
  cases tg with
  | false =>
    have HR : Hid (r = 5) := HV.out.trans (by simp)
    clear HV
    go_wp2
    go_ret
    exact ⟨by rw [HR.out]; first | rfl | simp, hB1⟩
  | true =>
    go_wp2_with fail
    refine (HFM.out _ hs hq).mono ?_
    rintro e w2 ⟨rfl, hb⟩
    have hB2 := hB1.trans (hb.mono hB1.size)
    clear c0 c1 c2 c3 c4 c5 c6 c7 c8 c9 c10 c11 c12 c13
    replace hq := hq.below hb hq.lt
    replace hs := hs.below hb
    clear hb hB1
    obtain ⟨c0, c1, c2, c3, c4, c5, c6, c7, c8, c9, c10, c11, c12, c13⟩ := id hq
    dsimp only at c0 c1 c2 c3 c4 c5 c6 c7 c8 c9 c10 c11 c12 c13
    cases fm with
    | false =>
      have HR : Hid (r = 1) := HV.out.trans (by simp)
      clear HV
      go_wp2
      go_ret
      exact ⟨by rw [HR.out]; first | rfl | simp, hB2⟩
    | true =>
      go_wp2_with fail
      refine (HNA.out _).mono ?_
      rintro e w' ⟨rfl, rfl⟩
      cases nm with
      | false =>
        go_wp2_with fail
        refine (HRA.out _).mono ?_
        rintro e w' ⟨rfl, rfl⟩
        cases rg with
        | false =>
          go_wp2_with fail
          refine (HNB.out _ hs hq).mono ?_
          rintro e w3 ⟨rfl, hb⟩
          have hB3 := hB2.trans (hb.mono hB2.size)
          clear c0 c1 c2 c3 c4 c5 c6 c7 c8 c9 c10 c11 c12 c13
          replace hq := hq.below hb hq.lt
          replace hs := hs.below hb
          clear hb hB2
          obtain ⟨c0, c1, c2, c3, c4, c5, c6, c7, c8, c9, c10, c11, c12, c13⟩ := id hq
          dsimp only at c0 c1 c2 c3 c4 c5 c6 c7 c8 c9 c10 c11 c12 c13
          cases nb with
          | false =>
            have HR : Hid (r = 3) := HV.out.trans (by simp)
            clear HV
            go_wp2
            go_ret
            exact ⟨by rw [HR.out]; first | rfl | simp, hB3⟩
          | true =>
            go_wp2_with fail
            refine (HTM.out _).mono ?_
            rintro e w' ⟨rfl, rfl⟩
            cases tm' with
            | false =>
              have HR : Hid (r = 0) := HV.out.trans (by simp)
              clear HV
              go_wp2
              go_ret
              exact ⟨by rw [HR.out]; first | rfl | simp, hB3⟩
            | true =>
              go_wp2_with fail
              refine (HTF.out _ hs.2.2.2).mono ?_
              rintro e w4 ⟨rfl, hb⟩
              have hB4 := hB3.trans (hb.mono hB3.size)
              clear c0 c1 c2 c3 c4 c5 c6 c7 c8 c9 c10 c11 c12 c13
              replace hq := hq.below hb hq.lt
              replace hs := hs.below hb
              clear hb hB3
              obtain ⟨c0, c1, c2, c3, c4, c5, c6, c7, c8, c9, c10, c11, c12, c13⟩ := id hq
              dsimp only at c0 c1 c2 c3 c4 c5 c6 c7 c8 c9 c10 c11 c12 c13
              have HR : Hid (r = tv) := HV.out.trans (by simp)
              clear HV
              go_wp2
              go_ret
              exact ⟨by rw [HR.out]; first | rfl | simp, hB4⟩
        | true =>
          go_wp2_with fail
          refine (HRF.out _ hs.1).mono ?_
          rintro e w3 ⟨rfl, hb⟩
          have hB3 := hB2.trans (hb.mono hB2.size)
          clear c0 c1 c2 c3 c4 c5 c6 c7 c8 c9 c10 c11 c12 c13
          replace hq := hq.below hb hq.lt
          replace hs := hs.below hb
          clear hb hB2
          obtain ⟨c0, c1, c2, c3, c4, c5, c6, c7, c8, c9, c10, c11, c12, c13⟩ := id hq
          dsimp only at c0 c1 c2 c3 c4 c5 c6 c7 c8 c9 c10 c11 c12 c13
          by_cases hrf : rf = 0
          rotate_left
          · have hre : (rf != 0) = true := by simp [hrf]
            have HR : Hid (r = rf) := HV.out.trans (by simp [hrf])
            clear HV
            go_wp2
            go_ret
            exact ⟨by rw [HR.out]; first | rfl | simp, hB3⟩
          have hre : (rf != 0) = false := by simp [hrf]
          go_wp2_with fail
          refine (HNB.out _ hs hq).mono ?_
          rintro e w4 ⟨rfl, hb⟩
          have hB4 := hB3.trans (hb.mono hB3.size)
          clear c0 c1 c2 c3 c4 c5 c6 c7 c8 c9 c10 c11 c12 c13
          replace hq := hq.below hb hq.lt
          replace hs := hs.below hb
          clear hb hB3
          obtain ⟨c0, c1, c2, c3, c4, c5, c6, c7, c8, c9, c10, c11, c12, c13⟩ := id hq
          dsimp only at c0 c1 c2 c3 c4 c5 c6 c7 c8 c9 c10 c11 c12 c13
          cases nb with
          | false =>
            have HR : Hid (r = 3) := HV.out.trans (by simp [hrf])
            clear HV
            go_wp2
            go_ret
            exact ⟨by rw [HR.out]; first | rfl | simp, hB4⟩
          | true =>
            go_wp2_with fail
            refine (HTM.out _).mono ?_
            rintro e w' ⟨rfl, rfl⟩
            cases tm' with
            | false =>
              have HR : Hid (r = 0) := HV.out.trans (by simp [hrf])
              clear HV
              go_wp2
              go_ret
              exact ⟨by rw [HR.out]; first | rfl | simp, hB4⟩
            | true =>
              go_wp2_with fail
              refine (HTF.out _ hs.2.2.2).mono ?_
              rintro e w5 ⟨rfl, hb⟩
              have hB5 := hB4.trans (hb.mono hB4.size)
              clear c0 c1 c2 c3 c4 c5 c6 c7 c8 c9 c10 c11 c12 c13
              replace hq := hq.below hb hq.lt
              replace hs := hs.below hb
              clear hb hB4
              obtain ⟨c0, c1, c2, c3, c4, c5, c6, c7, c8, c9, c10, c11, c12, c13⟩ := id hq
              dsimp only at c0 c1 c2 c3 c4 c5 c6 c7 c8 c9 c10 c11 c12 c13
              have HR : Hid (r = tv) := HV.out.trans (by simp [hrf])
              clear HV
              go_wp2
              go_ret
              exact ⟨by rw [HR.out]; first | rfl | simp, hB5⟩
      | true =>
        go_wp2_with fail
        refine (HNM.out _).mono ?_
        rintro e w3 ⟨rfl, hb⟩
        have hB3 := hB2.trans (hb.mono hB2.size)
        clear c0 c1 c2 c3 c4 c5 c6 c7 c8 c9 c10 c11 c12 c13
        replace hq := hq.below hb hq.lt
        replace hs := hs.below hb
        clear hb hB2
        obtain ⟨c0, c1, c2, c3, c4, c5, c6, c7, c8, c9, c10, c11, c12, c13⟩ := id hq
        dsimp only at c0 c1 c2 c3 c4 c5 c6 c7 c8 c9 c10 c11 c12 c13
        cases bn with
        | false =>
          have HR : Hid (r = 5) := HV.out.trans (by simp)
          clear HV
          go_wp2
          go_ret
          exact ⟨by rw [HR.out]; first | rfl | simp, hB3⟩
        | true =>
          go_wp2_with fail
          refine (HRA.out _).mono ?_
          rintro e w' ⟨rfl, rfl⟩
          cases rg with
          | false =>
            go_wp2_with fail
            refine (HNB.out _ hs hq).mono ?_
            rintro e w4 ⟨rfl, hb⟩
            have hB4 := hB3.trans (hb.mono hB3.size)
            clear c0 c1 c2 c3 c4 c5 c6 c7 c8 c9 c10 c11 c12 c13
            replace hq := hq.below hb hq.lt
            replace hs := hs.below hb
            clear hb hB3
            obtain ⟨c0, c1, c2, c3, c4, c5, c6, c7, c8, c9, c10, c11, c12, c13⟩ := id hq
            dsimp only at c0 c1 c2 c3 c4 c5 c6 c7 c8 c9 c10 c11 c12 c13
            cases nb with
            | false =>
              have HR : Hid (r = 3) := HV.out.trans (by simp)
              clear HV
              go_wp2
              go_ret
              exact ⟨by rw [HR.out]; first | rfl | simp, hB4⟩
            | true =>
              go_wp2_with fail
              refine (HTM.out _).mono ?_
              rintro e w' ⟨rfl, rfl⟩
              cases tm' with
              | false =>
                have HR : Hid (r = 0) := HV.out.trans (by simp)
                clear HV
                go_wp2
                go_ret
                exact ⟨by rw [HR.out]; first | rfl | simp, hB4⟩
              | true =>
                go_wp2_with fail
                refine (HTF.out _ hs.2.2.2).mono ?_
                rintro e w5 ⟨rfl, hb⟩
                have hB5 := hB4.trans (hb.mono hB4.size)
                clear c0 c1 c2 c3 c4 c5 c6 c7 c8 c9 c10 c11 c12 c13
                replace hq := hq.below hb hq.lt
                replace hs := hs.below hb
                clear hb hB4
                obtain ⟨c0, c1, c2, c3, c4, c5, c6, c7, c8, c9, c10, c11, c12, c13⟩ := id hq
                dsimp only at c0 c1 c2 c3 c4 c5 c6 c7 c8 c9 c10 c11 c12 c13
                have HR : Hid (r = tv) := HV.out.trans (by simp)
                clear HV
                go_wp2
                go_ret
                exact ⟨by rw [HR.out]; first | rfl | simp, hB5⟩
          | true =>
            go_wp2_with fail
            refine (HRF.out _ hs.1).mono ?_
            rintro e w4 ⟨rfl, hb⟩
            have hB4 := hB3.trans (hb.mono hB3.size)
            clear c0 c1 c2 c3 c4 c5 c6 c7 c8 c9 c10 c11 c12 c13
            replace hq := hq.below hb hq.lt
            replace hs := hs.below hb
            clear hb hB3
            obtain ⟨c0, c1, c2, c3, c4, c5, c6, c7, c8, c9, c10, c11, c12, c13⟩ := id hq
            dsimp only at c0 c1 c2 c3 c4 c5 c6 c7 c8 c9 c10 c11 c12 c13
            by_cases hrf : rf = 0
            rotate_left
            · have hre : (rf != 0) = true := by simp [hrf]
              have HR : Hid (r = rf) := HV.out.trans (by simp [hrf])
              clear HV
              go_wp2
              go_ret
              exact ⟨by rw [HR.out]; first | rfl | simp, hB4⟩
            have hre : (rf != 0) = false := by simp [hrf]
            go_wp2_with fail
            refine (HNB.out _ hs hq).mono ?_
            rintro e w5 ⟨rfl, hb⟩
            have hB5 := hB4.trans (hb.mono hB4.size)
            clear c0 c1 c2 c3 c4 c5 c6 c7 c8 c9 c10 c11 c12 c13
            replace hq := hq.below hb hq.lt
            replace hs := hs.below hb
            clear hb hB4
            obtain ⟨c0, c1, c2, c3, c4, c5, c6, c7, c8, c9, c10, c11, c12, c13⟩ := id hq
            dsimp only at c0 c1 c2 c3 c4 c5 c6 c7 c8 c9 c10 c11 c12 c13
            cases nb with
            | false =>
              have HR : Hid (r = 3) := HV.out.trans (by simp [hrf])
              clear HV
              go_wp2
              go_ret
              exact ⟨by rw [HR.out]; first | rfl | simp, hB5⟩
            | true =>
              go_wp2_with fail
              refine (HTM.out _).mono ?_
              rintro e w' ⟨rfl, rfl⟩
              cases tm' with
              | false =>
                have HR : Hid (r = 0) := HV.out.trans (by simp [hrf])
                clear HV
                go_wp2
                go_ret
                exact ⟨by rw [HR.out]; first | rfl | simp, hB5⟩
              | true =>
                go_wp2_with fail
                refine (HTF.out _ hs.2.2.2).mono ?_
                rintro e w6 ⟨rfl, hb⟩
                have hB6 := hB5.trans (hb.mono hB5.size)
                clear c0 c1 c2 c3 c4 c5 c6 c7 c8 c9 c10 c11 c12 c13
                replace hq := hq.below hb hq.lt
                replace hs := hs.below hb
                clear hb hB5
                obtain ⟨c0, c1, c2, c3, c4, c5, c6, c7, c8, c9, c10, c11, c12, c13⟩ := id hq
                dsimp only at c0 c1 c2 c3 c4 c5 c6 c7 c8 c9 c10 c11 c12 c13
                have HR : Hid (r = tv) := HV.out.trans (by simp [hrf])
                clear HV
                go_wp2
                go_ret
                exact ⟨by rw [HR.out]; first | rfl | simp, hB6⟩

set_option maxHeartbeats 6400000 in
set_option maxRecDepth 100000 in
theorem specCmdFault_any (o : CmR) (p : SlC) {lo : Nat} (w : World) (hs : IsCm lo w p o) (hf : FtC o) :
    Calls Tryz.prog 5 #[cmX o p] w fun e w' => e = .returned (.int .i64 (cfV o)) ∧ Below w.heap.size w w' := by
  have hb0 : Below w.heap.size w (w.alloc (.cells #[.string o.t, .int .i64 o.k, .string o.n, slW p.1, .int .i64 o.m, .int .i64 o.f, .int .i64 o.d, slW p.2.1, .int .i64 o.h, slW p.2.2.1, .int .i64 o.e, .bool o.r, slW p.2.2.2, .int .i64 o.c] 33)) := (Below.refl _ _).alloc (Nat.le_refl _) _
  have HC := l14Fault_any o p w.heap.size (w.alloc (.cells #[.string o.t, .int .i64 o.k, .string o.n, slW p.1, .int .i64 o.m, .int .i64 o.f, .int .i64 o.d, slW p.2.1, .int .i64 o.h, slW p.2.2.1, .int .i64 o.e, .bool o.r, slW p.2.2.2, .int .i64 o.c] 33)) (hs.below hb0) (Qm.new w (.string o.t) (.int .i64 o.k) (.string o.n) (slW p.1) (.int .i64 o.m) (.int .i64 o.f) (.int .i64 o.d) (slW p.2.1) (.int .i64 o.h) (slW p.2.2.1) (.int .i64 o.e) (.bool o.r) (slW p.2.2.2) (.int .i64 o.c) 33) hf
  go_enter Tryz.func5, Tryz.ntmps5
  go_wp2_with fail
  refine HC.mono ?_
  rintro e w1 ⟨rfl, hb1⟩
  go_wp2
  go_ret
  exact ⟨rfl, hb0.trans (hb1.mono hb0.size)⟩
end Go.Proofs.YtaiificlempeaaaGreatDoor
