/- The fault of a command: the program's side, where the table of its kinds lies in its variable; no conditions beyond those that each fact names · A field of a result that is held as a value: plain reading. -/
import Derived.Test.YtjogclofjollnaaGreatDoorYftToCfv
import Derived.Test.YtjogclofjollnaaGreatDoorCtbToCfq
import Derived.Test.YtjogclofjollnaaGreatDoorTphToTxy
import Derived.Test.YtjogclofjollnaaGreatDoorEasToEcd
import Derived.Test.YtjogclofjollnaaGreatDoorJfzToApp
namespace Go.Proofs.YtjogclofjollnaaGreatDoor
open Go.RowKit
set_option linter.unusedVariables false
def erV (c : Int) : Value := if c = 0 then .nilIface else noC c
theorem fmC_K (o : CmR) (k : Nat) (hk : o.k = (k : Int)) (h : bt (k : Int) 1 14 = true) : fmC o = fmK k (ptK o.h) (t0B o) (t1B o) (t2B o) (t3B o) (t4B o) (t5B o) (t6B o) (t7B o) (t8B o) o.r (t10B o) (t11B o) := by
 have e6 : decide ((k : Int) = 6) = decide (k = 6) := decide_eq_decide.2 (by omega)
 have e7 : decide ((k : Int) = 7) = decide (k = 7) := decide_eq_decide.2 (by omega)
 have e11 : decide ((k : Int) = 11) = decide (k = 11) := decide_eq_decide.2 (by omega)
 have e13 : decide ((k : Int) = 13) = decide (k = 13) := decide_eq_decide.2 (by omega)
 have e14 : decide ((k : Int) = 14) = decide (k = 14) := decide_eq_decide.2 (by omega)
 unfold fmC fmK t0B t1B t2B t3B t4B t5B t6B t7B t8B t10B t11B
 rw [hk, h, e6, e7, e11, e13, e14]
 simp only [Bool.true_and, Bool.and_assoc]
theorem told_C (o : CmR) (k : Nat) (hk : o.k = (k : Int)) (h : bt (k : Int) 1 14 = true) :
  decide (Go.bits BinOp.andNot IntKind.i64 (bUp (tbC o) 12 : Int) (myK k (ptK o.h)) = 0) = fmC o := by
 have hb : 1 ≤ (k : Int) ∧ (k : Int) ≤ 14 := of_decide_eq_true h
 rw [fmC_K o k hk h]
 have := told_not k (by omega) (by omega) (ptK o.h) (t0B o) (t1B o) (t2B o) (t3B o) (t4B o) (t5B o) (t6B o) (t7B o) (t8B o) o.r (t10B o) (t11B o) (by
  by_cases h0 : o.h = 0
  ·right; unfold ptK bt; rw [h0]; rfl
  ·left; unfold t6B; exact decide_eq_true h0)
 exact this
set_option maxHeartbeats 6400000 in
set_option maxRecDepth 100000 in
theorem checkCmd_any (o : CmR) (p : SlC) {lo : Nat} (w : World) (hs : IsCm lo w p o) (hf : FtC o) (hT : TabN w) :
  Calls Tryz.prog 40 #[cmX o p] w fun e w' => e = .returned (erV (cfV o)) ∧ Below w.heap.size w w' := by
 obtain ⟨hf1, hf2, hf3, -, -, hf6⟩ := hf
 have HV : Hid (cfV o = if tgOk (txB o.t) = true then (if fmC o = true then (if (nmK o.k && !bnOk (txB o.n)) = true then 5 else if (rgK o.k && decide (rfV o.y ≠ 0)) = true then rfV o.y else if nbC o = true then (if tmK o.k = true then tmV o.u else 0) else 3) else 1) else 5) := rfl
 have HTO : Hid (∀ w', IsCm lo w' p o → Calls Tryz.prog 66 #[cmX o p] w' fun e w'' => e = .returned (.int .i64 (bUp (tbC o) 12 : Int)) ∧ Below w'.heap.size w' w'') := fun w' h => toldIn_any o p w' h
 have HMB : Hid (∀ (k : Nat) w', o.k = (k : Int) → k < 15 → TabN w' → Calls Tryz.prog 67 #[cmX o p] w' fun e w'' => e = .returned (.int .i64 (myK k (ptK o.h))) ∧ Below w'.heap.size w' w'') := fun k w' h1 h2 h3 => mayBeTold_any o p k w' h1 h2 h3
 have HTC : Hid (∀ k : Nat, o.k = (k : Int) → bt (k : Int) 1 14 = true → decide (Go.bits BinOp.andNot IntKind.i64 (bUp (tbC o) 12 : Int) (myK k (ptK o.h)) = 0) = fmC o) := told_C o
 have HNB : Hid (∀ w', IsCm lo w' p o → Calls Tryz.prog 70 #[cmX o p] w' fun e w'' => e = .returned (.bool (nbC o)) ∧ Below w'.heap.size w' w'') := fun w' h => hasCmdBounds_any o p w' h
 have HF0 : Hid (bt o.k 1 14 = false → fmC o = false) := fun h => by unfold fmC; rw [h]; rfl
 generalize (bUp (tbC o) 12 : Int) = TB at *
 have hb0 : Below w.heap.size w (w.alloc (.cells #[.string o.t, .int .i64 o.k, .string o.n, slW p.1, .int .i64 o.m, .int .i64 o.f, .int .i64 o.d, slW p.2.1, .int .i64 o.h, slW p.2.2.1, .int .i64 o.e, .bool o.r, slW p.2.2.2, .int .i64 o.c] 35)) := (Below.refl _ _).alloc (Nat.le_refl _) _
 have hQ0 := Qm.new w (.string o.t) (.int .i64 o.k) (.string o.n) (slW p.1) (.int .i64 o.m) (.int .i64 o.f) (.int .i64 o.d) (slW p.2.1) (.int .i64 o.h) (slW p.2.2.1) (.int .i64 o.e) (.bool o.r) (slW p.2.2.2) (.int .i64 o.c) 35
 have hz0 : (w.alloc (.cells #[.string o.t, .int .i64 o.k, .string o.n, slW p.1, .int .i64 o.m, .int .i64 o.f, .int .i64 o.d, slW p.2.1, .int .i64 o.h, slW p.2.2.1, .int .i64 o.e, .bool o.r, slW p.2.2.2, .int .i64 o.c] 35)).heap.size = w.heap.size + 1 := by simp
 have hK : Hid (_) := And.intro (hs.below hb0) (And.intro (hT.below hb0) True.intro)
 have HTG := isTag_nm o.t (w.alloc (.cells #[.string o.t, .int .i64 o.k, .string o.n, slW p.1, .int .i64 o.m, .int .i64 o.f, .int .i64 o.d, slW p.2.1, .int .i64 o.h, slW p.2.2.1, .int .i64 o.e, .bool o.r, slW p.2.2.2, .int .i64 o.c] 35)) hf1
 have HNM : Hid (∀ w', Calls Tryz.prog 68 #[.string o.n] w' fun e w'' => e = .returned (.bool (bnOk (txB o.n))) ∧ Below w'.heap.size w' w'') := fun w' => isBoxName_nm o.n w' hf2
 have HRF : Hid (∀ w', IsYl lo w' p.1 o.y → Calls Tryz.prog 69 #[slW p.1] w' fun e w'' => e = .returned (.int .i64 (rfV o.y)) ∧ Below w'.heap.size w' w'') := fun w' h => rangesFault_any p.1.1 p.1.2.1 p.1.2.2 o.y w' h.1 h.2.2.2.1 (by rw [← h.1]; exact hf3)
 have HTF : Hid (∀ w', IsTs lo w' p.2.2.2 o.u → Calls Tryz.prog 71 #[slW p.2.2.2] w' fun e w'' => e = .returned (.int .i64 (tmV o.u)) ∧ Below w'.heap.size w' w'') := fun w' h => termsFault_any p.2.2.2 o.u w' h hf6
 clear hs hT hf1 hf2 hf3 hf6
 generalize tgOk (txB o.t) = tg at *
 generalize bnOk (txB o.n) = bn at *
 generalize rfV o.y = rf at *
 generalize tmV o.u = tv at *
 generalize nbC o = nb at *
 generalize fmC o = fm at *
 generalize cfV o = r at *
 go_enter Tryz.func40, Tryz.ntmps40
 go_wp2_with fail
 refine HTG.mono ?_
 rintro e w1 ⟨rfl, hb1⟩
 have hB1 := hb0.trans (hb1.mono hb0.size)
 have hQ1 := hQ0.below hb1 hQ0.lt
 have hs1 := hK.out.1.below hb1
 have hT1 := hK.out.2.1.below hb1
 clear HTG hK hb1 hQ0 hz0 hb0
 cases tg with
 | false =>
  have HR : Hid (r = 5) := HV.out.trans (by simp)
  clear HV
  go_wp2
  go_ret
  exact ⟨by rw [HR.out]; rfl, hB1⟩
 | true =>
  go_wp2_with fail
  refine wp_region_held_drew (S := fun w' => Qm w' w.heap.size (cmQ o p)) (by kernel_rfl) ?hS1 (fun hHeld => ?_)
  case hS1 => exact hQ1
  refine wpAnyH_take (i := 0) (v := ?_) rfl (by kernel_rfl) (by kernel_rfl) (by kernel_rfl) (fun _ _ _ h => h) (Or.inl ⟨by rfl, ?hy1⟩) (by assumption) ?ty1
  case hy1 => (intro w5 hSw; go_simp; all_goals with_reducible rfl)
  simp only [Act.put, List.getElem_toArray, List.getElem_cons_zero, List.setIfInBounds_toArray, List.set_cons_zero, List.set_cons_succ]
  refine wpAnyH_take (i := 1) (v := ?_) rfl (by kernel_rfl) (by kernel_rfl) (by kernel_rfl) (fun _ _ _ h => h) (Or.inl ⟨by rfl, ?hy2⟩) (by assumption) ?ty2
  case hy2 => (intro w5 hSw; obtain ⟨e0, e1, e2, e3, e4, e5, e6, e7, e8, e9, e10, e11, e12, e13⟩ := hSw; dsimp only at e0 e1 e2 e3 e4 e5 e6 e7 e8 e9 e10 e11 e12 e13; go_simp; all_goals with_reducible rfl)
  simp only [Act.put, List.getElem_toArray, List.getElem_cons_zero, List.getElem_cons_succ, List.setIfInBounds_toArray, List.set_cons_zero, List.set_cons_succ]
  refine wpAnyH_ready (rs := [2]) (by kernel_rfl) (by simp) ?_
  refine AllReadyH.cons rfl (fun K hK => ?_) AllReadyH.nil
  go_simp
  refine (isBetween_bt _ _ _ _).mono ?_
  rintro e w2 ⟨rfl, rfl⟩
  refine hK.out _ _ (hQ1.below (Below.refl _ _).drew hQ1.lt) (fun hHeld => ?_)
  clear hK K
  have hd : Below w1.heap.size w1 w1.drew := (Below.refl _ _).drew
  generalize w1.drew = w2 at *
  have hB2 := hB1.trans (hd.mono hB1.size)
  have hQ2 := hQ1.below hd hQ1.lt
  have hs2 := hs1.below hd
  have hT2 := hT1.below hd
  clear hd hB1 hQ1 hs1 hT1
  cases hbk : bt o.k 1 14 with
  | false =>
   have HR : Hid (r = 1) := HV.out.trans (by rw [HF0.out hbk]; simp)
   clear HV HTO HMB HTC HNB HF0 HNM HRF HTF
   refine wpAnyH_take (i := 3) (v := ?_) rfl (by kernel_rfl) (by kernel_rfl) (by kernel_rfl) (fun _ _ _ h => h) (Or.inl ⟨by rfl, ?hy3⟩) (by assumption) ?ty3
   case hy3 => (intro w5 hSw; go_simp; all_goals with_reducible rfl)
   simp only [Act.put, List.getElem_toArray, List.getElem_cons_zero, List.getElem_cons_succ, List.setIfInBounds_toArray, List.set_cons_zero, List.set_cons_succ]
   refine wpAnyH_take (i := 4) (v := ?_) rfl (by kernel_rfl) (by kernel_rfl) (by kernel_rfl) (fun _ _ _ h => h) (Or.inl ⟨by rfl, ?hy4⟩) (by assumption) ?ty4
   case hy4 => (intro w5 hSw; go_simp; all_goals with_reducible rfl)
   simp only [Act.put, List.getElem_toArray, List.getElem_cons_zero, List.getElem_cons_succ, List.setIfInBounds_toArray, List.set_cons_zero, List.set_cons_succ]
   refine wpAnyH_take (i := 5) (v := undef) rfl (by kernel_rfl) (by kernel_rfl) (by kernel_rfl) (fun _ _ _ h => h) (Or.inr ⟨by rfl, rfl⟩) (by assumption) ?_
   simp only [Act.put, List.getElem_toArray, List.getElem_cons_zero, List.getElem_cons_succ, List.setIfInBounds_toArray, List.set_cons_zero, List.set_cons_succ]
   refine wpAnyH_take (i := 6) (v := undef) rfl (by kernel_rfl) (by kernel_rfl) (by kernel_rfl) (fun _ _ _ h => h) (Or.inr ⟨by rfl, rfl⟩) (by assumption) ?_
   simp only [Act.put, List.getElem_toArray, List.getElem_cons_zero, List.getElem_cons_succ, List.setIfInBounds_toArray, List.set_cons_zero, List.set_cons_succ]
   refine wpAnyH_take (i := 7) (v := undef) rfl (by kernel_rfl) (by kernel_rfl) (by kernel_rfl) (fun _ _ _ h => h) (Or.inr ⟨by rfl, rfl⟩) (by assumption) ?_
   simp only [Act.put, List.getElem_toArray, List.getElem_cons_zero, List.getElem_cons_succ, List.setIfInBounds_toArray, List.set_cons_zero, List.set_cons_succ]
   refine wpAnyH_take (i := 8) (v := undef) rfl (by kernel_rfl) (by kernel_rfl) (by kernel_rfl) (fun _ _ _ h => h) (Or.inr ⟨by rfl, rfl⟩) (by assumption) ?_
   simp only [Act.put, List.getElem_toArray, List.getElem_cons_zero, List.getElem_cons_succ, List.setIfInBounds_toArray, List.set_cons_zero, List.set_cons_succ]
   refine wpAnyH_take (i := 9) (v := undef) rfl (by kernel_rfl) (by kernel_rfl) (by kernel_rfl) (fun _ _ _ h => h) (Or.inr ⟨by rfl, rfl⟩) (by assumption) ?_
   simp only [Act.put, List.getElem_toArray, List.getElem_cons_zero, List.getElem_cons_succ, List.setIfInBounds_toArray, List.set_cons_zero, List.set_cons_succ]
   refine wpAnyH_take (i := 10) (v := undef) rfl (by kernel_rfl) (by kernel_rfl) (by kernel_rfl) (fun _ _ _ h => h) (Or.inr ⟨by rfl, rfl⟩) (by assumption) ?_
   simp only [Act.put, List.getElem_toArray, List.getElem_cons_zero, List.getElem_cons_succ, List.setIfInBounds_toArray, List.set_cons_zero, List.set_cons_succ]
   refine wpAnyH_take (i := 11) (v := .bool true) rfl (by kernel_rfl) (by kernel_rfl) (by kernel_rfl) (fun _ _ _ h => h) (Or.inl ⟨by rfl, ?hy5⟩) (by assumption) ?ty5
   case hy5 => (intro w5 hSw; go_simp; first | (simp; done) | (all_goals with_reducible rfl))
   simp only [Act.put, List.getElem_toArray, List.getElem_cons_zero, List.getElem_cons_succ, List.setIfInBounds_toArray, List.set_cons_zero, List.set_cons_succ]
   refine wpAnyH_done (by kernel_rfl) ?_ _
   clear hHeld
   go_wp2
   go_ret
   exact ⟨by rw [HR.out]; rfl, hB2⟩
  | true =>
   obtain ⟨k, hk⟩ : ∃ k : Nat, o.k = (k : Int) := ⟨o.k.toNat, by have := of_decide_eq_true hbk; omega⟩
   have hbk' : bt (k : Int) 1 14 = true := by rw [← hk]; exact hbk
   have hkk : 1 ≤ (k : Int) ∧ (k : Int) ≤ 14 := of_decide_eq_true hbk'
   have hk15 : k < 15 := by omega
   have hTC := HTC.out k hk hbk'
   clear HTC
   have HMK : Hid (_) := And.intro (fun w' h3 => HMB.out k w' hk hk15 h3) True.intro
   generalize myK k (ptK o.h) = MB at *
   have HT1 := tells_1 k hk15
   have HT2 := tells_2 k hk15
   have HT3 := tells_1024 k hk15
   rw [hk] at HV
   have Hk : Hid (o.k = (k : Int)) := hk
   clear HF0 HMB hbk hbk' hk
   refine wpAnyH_take (i := 3) (v := ?_) rfl (by kernel_rfl) (by kernel_rfl) (by kernel_rfl) (fun _ _ _ h => h) (Or.inl ⟨by rfl, ?hy6⟩) (by assumption) ?ty6
   case hy6 => (intro w5 hSw; go_simp; all_goals with_reducible rfl)
   simp only [Act.put, List.getElem_toArray, List.getElem_cons_zero, List.getElem_cons_succ, List.setIfInBounds_toArray, List.set_cons_zero, List.set_cons_succ]
   refine wpAnyH_take (i := 4) (v := ?_) rfl (by kernel_rfl) (by kernel_rfl) (by kernel_rfl) (fun _ _ _ h => h) (Or.inl ⟨by rfl, ?hy7⟩) (by assumption) ?ty7
   case hy7 => (intro w5 hSw; go_simp; all_goals with_reducible rfl)
   simp only [Act.put, List.getElem_toArray, List.getElem_cons_zero, List.getElem_cons_succ, List.setIfInBounds_toArray, List.set_cons_zero, List.set_cons_succ]
   refine wpAnyH_take (i := 5) (v := ?_) rfl (by kernel_rfl) (by kernel_rfl) (by kernel_rfl) (fun _ _ _ h => h) (Or.inl ⟨by rfl, ?hy8⟩) (by assumption) ?ty8
   case hy8 => (intro w5 hSw; obtain ⟨e0, e1, e2, e3, e4, e5, e6, e7, e8, e9, e10, e11, e12, e13⟩ := hSw; dsimp only at e0 e1 e2 e3 e4 e5 e6 e7 e8 e9 e10 e11 e12 e13; go_simp; all_goals with_reducible rfl)
   simp only [Act.put, List.getElem_toArray, List.getElem_cons_zero, List.getElem_cons_succ, List.setIfInBounds_toArray, List.set_cons_zero, List.set_cons_succ]
   refine wpAnyH_take (i := 7) (v := ?_) rfl (by kernel_rfl) (by kernel_rfl) (by kernel_rfl) (fun _ _ _ h => h) (Or.inl ⟨by rfl, ?hy9⟩) (by assumption) ?ty9
   case hy9 => (intro w5 hSw; obtain ⟨e0, e1, e2, e3, e4, e5, e6, e7, e8, e9, e10, e11, e12, e13⟩ := hSw; dsimp only at e0 e1 e2 e3 e4 e5 e6 e7 e8 e9 e10 e11 e12 e13; go_simp; all_goals with_reducible rfl)
   simp only [Act.put, List.getElem_toArray, List.getElem_cons_zero, List.getElem_cons_succ, List.setIfInBounds_toArray, List.set_cons_zero, List.set_cons_succ]
   refine wpAnyH_ready (rs := [6]) (by kernel_rfl) (by simp) ?_
   refine AllReadyH.cons rfl (fun K hK => ?_) AllReadyH.nil
   go_simp
   refine (HTO.out _ hs2).mono ?_
   rintro e w3 ⟨rfl, hb3⟩
   have hB3 : Below w.heap.size w w3 := hB2.trans (hb3.mono hB2.size)
   have hQ3 := hQ2.below hb3 hQ2.lt
   have hs3 := hs2.below hb3
   have hT3 := hT2.below hb3
   refine hK.out _ _ hQ3 (fun hHeld => ?_)
   clear hK K hb3 hB2 hQ2 hs2 hT2 HTO
   refine wpAnyH_ready (rs := [8]) (by kernel_rfl) (by simp) ?_
   refine AllReadyH.cons rfl (fun K hK => ?_) AllReadyH.nil
   go_simp
   refine (HMK.out.1 _ hT3).mono ?_
   rintro e w4 ⟨rfl, hb4⟩
   have hB4 : Below w.heap.size w w4 := hB3.trans (hb4.mono hB3.size)
   have hQ4 := hQ3.below hb4 hQ3.lt
   have hs4 := hs3.below hb4
   have hT4 := hT3.below hb4
   refine hK.out _ _ hQ4 (fun hHeld => ?_)
   clear hK K hb4 hB3 hQ3 hs3 hT3 HMK
   by_cases hV0 : Go.bits BinOp.andNot IntKind.i64 TB MB = 0
   rotate_left
   ·have hfm : fm = false := by rw [← hTC]; exact decide_eq_false hV0
    subst hfm
    have HR : Hid (r = 1) := HV.out.trans (by simp)
    clear HV hTC HNB HNM HRF HTF HT1 HT2 HT3
    refine wpAnyH_take (i := 9) (v := .int .i64 (Go.bits BinOp.andNot IntKind.i64 TB MB)) rfl (by kernel_rfl) (by kernel_rfl) (by kernel_rfl) (fun _ _ _ h => h) (Or.inl ⟨by rfl, ?hy10⟩) (by assumption) ?ty10
    case hy10 => (intro w5 hSw; go_simp; first | (all_goals with_reducible rfl) | (simp; done))
    simp only [Act.put, List.getElem_toArray, List.getElem_cons_zero, List.getElem_cons_succ, List.setIfInBounds_toArray, List.set_cons_zero, List.set_cons_succ]
    refine wpAnyH_take (i := 10) (v := .bool true) rfl (by kernel_rfl) (by kernel_rfl) (by kernel_rfl) (fun _ _ _ h => h) (Or.inl ⟨by rfl, ?hy11⟩) (by assumption) ?ty11
    case hy11 => (intro w5 hSw; go_simp; first | (simp [hV0]; done) | (all_goals with_reducible rfl))
    simp only [Act.put, List.getElem_toArray, List.getElem_cons_zero, List.getElem_cons_succ, List.setIfInBounds_toArray, List.set_cons_zero, List.set_cons_succ]
    refine wpAnyH_take (i := 11) (v := .bool true) rfl (by kernel_rfl) (by kernel_rfl) (by kernel_rfl) (fun _ _ _ h => h) (Or.inl ⟨by rfl, ?hy12⟩) (by assumption) ?ty12
    case hy12 => (intro w5 hSw; go_simp; first | (simp; done) | (all_goals with_reducible rfl))
    simp only [Act.put, List.getElem_toArray, List.getElem_cons_zero, List.getElem_cons_succ, List.setIfInBounds_toArray, List.set_cons_zero, List.set_cons_succ]
    refine wpAnyH_done (by kernel_rfl) ?_ _
    clear hHeld
    go_wp2
    go_ret
    exact ⟨by rw [HR.out]; rfl, hB4⟩
   have hfm : fm = true := by rw [← hTC]; exact decide_eq_true hV0
   subst hfm
   refine wpAnyH_take (i := 9) (v := .int .i64 (Go.bits BinOp.andNot IntKind.i64 TB MB)) rfl (by kernel_rfl) (by kernel_rfl) (by kernel_rfl) (fun _ _ _ h => h) (Or.inl ⟨by rfl, ?hy13⟩) (by assumption) ?ty13
   case hy13 => (intro w5 hSw; go_simp; first | (all_goals with_reducible rfl) | (simp; done))
   simp only [Act.put, List.getElem_toArray, List.getElem_cons_zero, List.getElem_cons_succ, List.setIfInBounds_toArray, List.set_cons_zero, List.set_cons_succ]
   refine wpAnyH_take (i := 10) (v := .bool false) rfl (by kernel_rfl) (by kernel_rfl) (by kernel_rfl) (fun _ _ _ h => h) (Or.inl ⟨by rfl, ?hy14⟩) (by assumption) ?ty14
   case hy14 => (intro w5 hSw; go_simp; first | (simp [hV0]; done) | (all_goals with_reducible rfl))
   simp only [Act.put, List.getElem_toArray, List.getElem_cons_zero, List.getElem_cons_succ, List.setIfInBounds_toArray, List.set_cons_zero, List.set_cons_succ]
   refine wpAnyH_take (i := 11) (v := .bool false) rfl (by kernel_rfl) (by kernel_rfl) (by kernel_rfl) (fun _ _ _ h => h) (Or.inl ⟨by rfl, ?hy15⟩) (by assumption) ?ty15
   case hy15 => (intro w5 hSw; go_simp; first | (simp; done) | (all_goals with_reducible rfl))
   simp only [Act.put, List.getElem_toArray, List.getElem_cons_zero, List.getElem_cons_succ, List.setIfInBounds_toArray, List.set_cons_zero, List.set_cons_succ]
   refine wpAnyH_done (by kernel_rfl) ?_ _
   clear hHeld hTC hV0
   have hki : (k : Int) < 15 := by omega
   have hk0 : (0 : Int) ≤ (k : Int) := by omega
   have htn : (k : Int).toNat = k := by omega
   have hct := hT4 k hk15
   generalize ktK k = tk at *
   generalize nmK (k : Int) = nm at *
   generalize rgK (k : Int) = rg at *
   generalize tmK (k : Int) = tm' at *
   have HQ : Hid (_) := And.intro hQ4 True.intro
   obtain ⟨c0, c1, c2, c3, c4, c5, c6, c7, c8, c9, c10, c11, c12, c13⟩ := hQ4
   dsimp only at c0 c1 c2 c3 c4 c5 c6 c7 c8 c9 c10 c11 c12 c13
   rw [Hk.out] at c1
   clear hT4
   cases nm with
   | false =>
    rw [if_neg (by simp)] at HT1
    go_wp2_with fail
    refine (HRF.out _ hs4.1).mono ?_
    rintro e w5 ⟨rfl, hb⟩
    have hB5 := hB4.trans (hb.mono hB4.size)
    replace HQ : Hid (Qm _ w.heap.size (cmQ o p) ∧ True) := ⟨HQ.out.1.below hb HQ.out.1.lt, True.intro⟩
    have hs5 := hs4.below hb
    clear c0 c1 c2 c3 c4 c5 c6 c7 c8 c9 c10 c11 c12 c13 hb hB4 hs4 hct
    obtain ⟨c0, c1, c2, c3, c4, c5, c6, c7, c8, c9, c10, c11, c12, c13⟩ := HQ.out.1
    dsimp only at c0 c1 c2 c3 c4 c5 c6 c7 c8 c9 c10 c11 c12 c13
    cases rg with
    | false =>
     rw [if_neg (by simp)] at HT2
     go_wp2_with fail
     refine (HNB.out _ hs5).mono ?_
     rintro e w6 ⟨rfl, hb⟩
     have hB6 := hB5.trans (hb.mono hB5.size)
     replace HQ : Hid (Qm _ w.heap.size (cmQ o p) ∧ True) := ⟨HQ.out.1.below hb HQ.out.1.lt, True.intro⟩
     have hs6 := hs5.below hb
     clear c0 c1 c2 c3 c4 c5 c6 c7 c8 c9 c10 c11 c12 c13 hb hB5 hs5
     obtain ⟨c0, c1, c2, c3, c4, c5, c6, c7, c8, c9, c10, c11, c12, c13⟩ := HQ.out.1
     dsimp only at c0 c1 c2 c3 c4 c5 c6 c7 c8 c9 c10 c11 c12 c13
     cases nb with
     | false =>
      have HR : Hid (r = 3) := HV.out.trans (by simp)
      clear HV
      go_wp2
      go_ret
      exact ⟨by rw [HR.out]; first | rfl | (unfold erV; rw [if_neg (by assumption)]; rfl), hB6⟩
     | true =>
      go_wp2_with fail
      refine (HTF.out _ hs6.2.2.2).mono ?_
      rintro e w7 ⟨rfl, hb⟩
      have hB7 := hB6.trans (hb.mono hB6.size)
      replace HQ : Hid (Qm _ w.heap.size (cmQ o p) ∧ True) := ⟨HQ.out.1.below hb HQ.out.1.lt, True.intro⟩
      have hs7 := hs6.below hb
      clear c0 c1 c2 c3 c4 c5 c6 c7 c8 c9 c10 c11 c12 c13 hb hB6 hs6
      obtain ⟨c0, c1, c2, c3, c4, c5, c6, c7, c8, c9, c10, c11, c12, c13⟩ := HQ.out.1
      dsimp only at c0 c1 c2 c3 c4 c5 c6 c7 c8 c9 c10 c11 c12 c13
      cases tm' with
      | false =>
       rw [if_neg (by simp)] at HT3
       have HR : Hid (r = 0) := HV.out.trans (by simp)
       clear HV
       go_wp2
       go_ret
       exact ⟨by rw [HR.out]; first | rfl | (unfold erV; rw [if_neg (by assumption)]; rfl), hB7⟩
      | true =>
       rw [if_pos rfl] at HT3
       by_cases htv : tv = 0
       ·subst htv
        have HR : Hid (r = 0) := HV.out.trans (by simp)
        clear HV
        go_wp2
        go_ret
        exact ⟨by rw [HR.out]; first | rfl | (unfold erV; rw [if_neg (by assumption)]; rfl), hB7⟩
       have htb : (tv != 0) = true := by simp [htv]
       have HR : Hid (r = tv) := HV.out.trans (by simp)
       clear HV
       go_wp2
       go_ret
       exact ⟨by rw [HR.out]; first | rfl | (unfold erV; rw [if_neg (by assumption)]; rfl), hB7⟩
    | true =>
     rw [if_pos rfl] at HT2
     by_cases hrf : rf = 0
     rotate_left
     ·have hre : (rf != 0) = true := by simp [hrf]
      have HR : Hid (r = rf) := HV.out.trans (by simp [hrf])
      clear HV
      go_wp2
      go_ret
      exact ⟨by rw [HR.out]; first | rfl | (unfold erV; rw [if_neg (by assumption)]; rfl), hB5⟩
     subst hrf
     go_wp2_with fail
     refine (HNB.out _ hs5).mono ?_
     rintro e w6 ⟨rfl, hb⟩
     have hB6 := hB5.trans (hb.mono hB5.size)
     replace HQ : Hid (Qm _ w.heap.size (cmQ o p) ∧ True) := ⟨HQ.out.1.below hb HQ.out.1.lt, True.intro⟩
     have hs6 := hs5.below hb
     clear c0 c1 c2 c3 c4 c5 c6 c7 c8 c9 c10 c11 c12 c13 hb hB5 hs5
     obtain ⟨c0, c1, c2, c3, c4, c5, c6, c7, c8, c9, c10, c11, c12, c13⟩ := HQ.out.1
     dsimp only at c0 c1 c2 c3 c4 c5 c6 c7 c8 c9 c10 c11 c12 c13
     cases nb with
     | false =>
      have HR : Hid (r = 3) := HV.out.trans (by simp)
      clear HV
      go_wp2
      go_ret
      exact ⟨by rw [HR.out]; first | rfl | (unfold erV; rw [if_neg (by assumption)]; rfl), hB6⟩
     | true =>
      go_wp2_with fail
      refine (HTF.out _ hs6.2.2.2).mono ?_
      rintro e w7 ⟨rfl, hb⟩
      have hB7 := hB6.trans (hb.mono hB6.size)
      replace HQ : Hid (Qm _ w.heap.size (cmQ o p) ∧ True) := ⟨HQ.out.1.below hb HQ.out.1.lt, True.intro⟩
      have hs7 := hs6.below hb
      clear c0 c1 c2 c3 c4 c5 c6 c7 c8 c9 c10 c11 c12 c13 hb hB6 hs6
      obtain ⟨c0, c1, c2, c3, c4, c5, c6, c7, c8, c9, c10, c11, c12, c13⟩ := HQ.out.1
      dsimp only at c0 c1 c2 c3 c4 c5 c6 c7 c8 c9 c10 c11 c12 c13
      cases tm' with
      | false =>
       rw [if_neg (by simp)] at HT3
       have HR : Hid (r = 0) := HV.out.trans (by simp)
       clear HV
       go_wp2
       go_ret
       exact ⟨by rw [HR.out]; first | rfl | (unfold erV; rw [if_neg (by assumption)]; rfl), hB7⟩
      | true =>
       rw [if_pos rfl] at HT3
       by_cases htv : tv = 0
       ·subst htv
        have HR : Hid (r = 0) := HV.out.trans (by simp)
        clear HV
        go_wp2
        go_ret
        exact ⟨by rw [HR.out]; first | rfl | (unfold erV; rw [if_neg (by assumption)]; rfl), hB7⟩
       have htb : (tv != 0) = true := by simp [htv]
       have HR : Hid (r = tv) := HV.out.trans (by simp)
       clear HV
       go_wp2
       go_ret
       exact ⟨by rw [HR.out]; first | rfl | (unfold erV; rw [if_neg (by assumption)]; rfl), hB7⟩
   | true =>
    rw [if_pos rfl] at HT1
    go_wp2_with fail
    refine (HNM.out _).mono ?_
    rintro e w5 ⟨rfl, hb⟩
    have hB5 := hB4.trans (hb.mono hB4.size)
    replace HQ : Hid (Qm _ w.heap.size (cmQ o p) ∧ True) := ⟨HQ.out.1.below hb HQ.out.1.lt, True.intro⟩
    have hs5 := hs4.below hb
    clear c0 c1 c2 c3 c4 c5 c6 c7 c8 c9 c10 c11 c12 c13 hb hB4 hs4 hct
    obtain ⟨c0, c1, c2, c3, c4, c5, c6, c7, c8, c9, c10, c11, c12, c13⟩ := HQ.out.1
    dsimp only at c0 c1 c2 c3 c4 c5 c6 c7 c8 c9 c10 c11 c12 c13
    cases bn with
    | false =>
     have HR : Hid (r = 5) := HV.out.trans (by simp)
     clear HV
     go_wp2
     go_ret
     exact ⟨by rw [HR.out]; first | rfl | (unfold erV; rw [if_neg (by assumption)]; rfl), hB5⟩
    | true =>
     go_wp2_with fail
     refine (HRF.out _ hs5.1).mono ?_
     rintro e w6 ⟨rfl, hb⟩
     have hB6 := hB5.trans (hb.mono hB5.size)
     replace HQ : Hid (Qm _ w.heap.size (cmQ o p) ∧ True) := ⟨HQ.out.1.below hb HQ.out.1.lt, True.intro⟩
     have hs6 := hs5.below hb
     clear c0 c1 c2 c3 c4 c5 c6 c7 c8 c9 c10 c11 c12 c13 hb hB5 hs5
     obtain ⟨c0, c1, c2, c3, c4, c5, c6, c7, c8, c9, c10, c11, c12, c13⟩ := HQ.out.1
     dsimp only at c0 c1 c2 c3 c4 c5 c6 c7 c8 c9 c10 c11 c12 c13
     cases rg with
     | false =>
      rw [if_neg (by simp)] at HT2
      go_wp2_with fail
      refine (HNB.out _ hs6).mono ?_
      rintro e w7 ⟨rfl, hb⟩
      have hB7 := hB6.trans (hb.mono hB6.size)
      replace HQ : Hid (Qm _ w.heap.size (cmQ o p) ∧ True) := ⟨HQ.out.1.below hb HQ.out.1.lt, True.intro⟩
      have hs7 := hs6.below hb
      clear c0 c1 c2 c3 c4 c5 c6 c7 c8 c9 c10 c11 c12 c13 hb hB6 hs6
      obtain ⟨c0, c1, c2, c3, c4, c5, c6, c7, c8, c9, c10, c11, c12, c13⟩ := HQ.out.1
      dsimp only at c0 c1 c2 c3 c4 c5 c6 c7 c8 c9 c10 c11 c12 c13
      cases nb with
      | false =>
       have HR : Hid (r = 3) := HV.out.trans (by simp)
       clear HV
       go_wp2
       go_ret
       exact ⟨by rw [HR.out]; first | rfl | (unfold erV; rw [if_neg (by assumption)]; rfl), hB7⟩
      | true =>
       go_wp2_with fail
       refine (HTF.out _ hs7.2.2.2).mono ?_
       rintro e w8 ⟨rfl, hb⟩
       have hB8 := hB7.trans (hb.mono hB7.size)
       replace HQ : Hid (Qm _ w.heap.size (cmQ o p) ∧ True) := ⟨HQ.out.1.below hb HQ.out.1.lt, True.intro⟩
       have hs8 := hs7.below hb
       clear c0 c1 c2 c3 c4 c5 c6 c7 c8 c9 c10 c11 c12 c13 hb hB7 hs7
       obtain ⟨c0, c1, c2, c3, c4, c5, c6, c7, c8, c9, c10, c11, c12, c13⟩ := HQ.out.1
       dsimp only at c0 c1 c2 c3 c4 c5 c6 c7 c8 c9 c10 c11 c12 c13
       cases tm' with
       | false =>
        rw [if_neg (by simp)] at HT3
        have HR : Hid (r = 0) := HV.out.trans (by simp)
        clear HV
        go_wp2
        go_ret
        exact ⟨by rw [HR.out]; first | rfl | (unfold erV; rw [if_neg (by assumption)]; rfl), hB8⟩
       | true =>
        rw [if_pos rfl] at HT3
        by_cases htv : tv = 0
        ·subst htv
         have HR : Hid (r = 0) := HV.out.trans (by simp)
         clear HV
         go_wp2
         go_ret
         exact ⟨by rw [HR.out]; first | rfl | (unfold erV; rw [if_neg (by assumption)]; rfl), hB8⟩
        have htb : (tv != 0) = true := by simp [htv]
        have HR : Hid (r = tv) := HV.out.trans (by simp)
        clear HV
        go_wp2
        go_ret
        exact ⟨by rw [HR.out]; first | rfl | (unfold erV; rw [if_neg (by assumption)]; rfl), hB8⟩
     | true =>
      rw [if_pos rfl] at HT2
      by_cases hrf : rf = 0
      rotate_left
      ·have hre : (rf != 0) = true := by simp [hrf]
       have HR : Hid (r = rf) := HV.out.trans (by simp [hrf])
       clear HV
       go_wp2
       go_ret
       exact ⟨by rw [HR.out]; first | rfl | (unfold erV; rw [if_neg (by assumption)]; rfl), hB6⟩
      subst hrf
      go_wp2_with fail
      refine (HNB.out _ hs6).mono ?_
      rintro e w7 ⟨rfl, hb⟩
      have hB7 := hB6.trans (hb.mono hB6.size)
      replace HQ : Hid (Qm _ w.heap.size (cmQ o p) ∧ True) := ⟨HQ.out.1.below hb HQ.out.1.lt, True.intro⟩
      have hs7 := hs6.below hb
      clear c0 c1 c2 c3 c4 c5 c6 c7 c8 c9 c10 c11 c12 c13 hb hB6 hs6
      obtain ⟨c0, c1, c2, c3, c4, c5, c6, c7, c8, c9, c10, c11, c12, c13⟩ := HQ.out.1
      dsimp only at c0 c1 c2 c3 c4 c5 c6 c7 c8 c9 c10 c11 c12 c13
      cases nb with
      | false =>
       have HR : Hid (r = 3) := HV.out.trans (by simp)
       clear HV
       go_wp2
       go_ret
       exact ⟨by rw [HR.out]; first | rfl | (unfold erV; rw [if_neg (by assumption)]; rfl), hB7⟩
      | true =>
       go_wp2_with fail
       refine (HTF.out _ hs7.2.2.2).mono ?_
       rintro e w8 ⟨rfl, hb⟩
       have hB8 := hB7.trans (hb.mono hB7.size)
       replace HQ : Hid (Qm _ w.heap.size (cmQ o p) ∧ True) := ⟨HQ.out.1.below hb HQ.out.1.lt, True.intro⟩
       have hs8 := hs7.below hb
       clear c0 c1 c2 c3 c4 c5 c6 c7 c8 c9 c10 c11 c12 c13 hb hB7 hs7
       obtain ⟨c0, c1, c2, c3, c4, c5, c6, c7, c8, c9, c10, c11, c12, c13⟩ := HQ.out.1
       dsimp only at c0 c1 c2 c3 c4 c5 c6 c7 c8 c9 c10 c11 c12 c13
       cases tm' with
       | false =>
        rw [if_neg (by simp)] at HT3
        have HR : Hid (r = 0) := HV.out.trans (by simp)
        clear HV
        go_wp2
        go_ret
        exact ⟨by rw [HR.out]; first | rfl | (unfold erV; rw [if_neg (by assumption)]; rfl), hB8⟩
       | true =>
        rw [if_pos rfl] at HT3
        by_cases htv : tv = 0
        ·subst htv
         have HR : Hid (r = 0) := HV.out.trans (by simp)
         clear HV
         go_wp2
         go_ret
         exact ⟨by rw [HR.out]; first | rfl | (unfold erV; rw [if_neg (by assumption)]; rfl), hB8⟩
        have htb : (tv != 0) = true := by simp [htv]
        have HR : Hid (r = tv) := HV.out.trans (by simp)
        clear HV
        go_wp2
        go_ret
        exact ⟨by rw [HR.out]; first | rfl | (unfold erV; rw [if_neg (by assumption)]; rfl), hB8⟩
end Go.Proofs.YtjogclofjollnaaGreatDoor
namespace Go.Proofs.YtjogclofjollnaaGreatDoor
open Go.RowKit
end Go.Proofs.YtjogclofjollnaaGreatDoor
