/- The walk of the law FnNested: it returns true, whatever the input. -/
import Derived.Test.YtaefomiofoakhaaGreatDoorPaqToNst
import Derived.Test.YtaefomiofoakhaaGreatDoorPao
import Derived.Test.YtaefomiofoakhaaGreatDoorTyp5
import Derived.Test.YtaefomiofoakhaaGreatDoorDr5cToLwn
import Derived.Test.YtaefomiofoakhaaGreatDoorPspToDig
import Derived.Test.YtaefomiofoakhaaGreatDoorAppIToMemQ
namespace Go.Proofs.YtaefomiofoakhaaGreatDoor
open Go.RowKit
set_option linter.unusedVariables false

theorem fldU0 (x y : Value) (w : World) : (Instr.field 27 (.agg #[x, y]) 0).run Tryz.prog w = .ok x w := by
  simp [Instr.field, asAgg, go_sem]
theorem fldU1 (x y : Value) (w : World) : (Instr.field 27 (.agg #[x, y]) 1).run Tryz.prog w = .ok y w := by
  simp [Instr.field, asAgg, go_sem]

theorem fldI1 (x y : Value) (w : World) : (Instr.field 36 (.agg #[x, y]) 1).run Tryz.prog w = .ok y w := by
  simp [Instr.field, asAgg, go_sem]

set_option maxHeartbeats 12800000 in
set_option maxRecDepth 100000 in
theorem walkNested (a0 : Option Addr) (len0 cap0 : Nat) (l : List Nat) (w : World) (hl : l.length = len0) (hr : Rd w a0 l) (hBl : IsB l) (htC : TabC w) (hmx : MaxI w) :
    Calls Tryz.prog 3 #[.slice a0 len0 cap0] w fun e w' => e = .returned (.bool true) ∧ Below w.heap.size w w' := by
  by_cases hbig : 1048576 < len0
  · have hb' : (1048576 : Int) < (len0 : Int) := by omega
    go_enter Tryz.func3, Tryz.ntmps3
    go_wp2_with fail
    refine (lwBig_any a0 len0 cap0 _).mono ?_
    rintro e w1 ⟨rfl, rfl⟩
    rw [decide_eq_true (show (1048576 : Int) < (len0 : Int) by omega)]
    go_wp2
    go_ret
    exact ⟨rfl, Below.refl _ _⟩
  have hn : len0 ≤ 1048576 := by omega
  have hb' : ¬ (1048576 : Int) < (len0 : Int) := by omega
  go_enter Tryz.func3, Tryz.ntmps3
  go_wp2_with fail
  refine (lwBig_any a0 len0 cap0 _).mono ?_
  rintro e w1 ⟨rfl, rfl⟩
  rw [decide_eq_false (show ¬ (1048576 : Int) < (len0 : Int) by omega)]
  go_wp2_with fail
  refine (drawParseParts_any a0 len0 cap0 l w hl hr hBl hn).mono ?_
  rintro e z1 ⟨d, g, cp, rfl, ri, hglt, hcp, hd6, hBd, hB1⟩
  obtain ⟨N, hN⟩ : ∃ N, d.length = N := ⟨_, rfl⟩
  rw [hN] at hcp hd6
  have HT : Hid (∀ W, Below z1.heap.size z1 W → TabC W) := fun W hb => htC.below (hB1.trans (hb.mono hB1.size))
  have HPI : Hid (∀ W, Below z1.heap.size z1 W → Calls Tryz.prog 6 #[.slice (some ⟨g, 0, none⟩) N cp] W fun e w' => PsEnd (psV d) W e w') := fun W hb => parseParts_any g N d W (ri.below hb) (HT.out W hb) hBd hN hcp
  have HPS : Hid (∀ W, Below z1.heap.size z1 W → Calls Tryz.prog 7 #[.slice (some ⟨g, 0, none⟩) N cp] W fun e w' => PsEnd (psV d) W e w') := fun W hb => specParseParts_any g N d W (ri.below hb) (Nat.lt_of_lt_of_le hglt hb.size) hBd hN hcp
  have HPO : Hid (∀ (W : World) (k : Int), Below z1.heap.size z1 W → Calls Tryz.prog 8 #[.slice (some ⟨g, 0, none⟩) N cp, .int .i64 k] W (IntsEnd (pahV d k) W)) := fun W k hb => pathOf_any g N d k W (ri.below hb) (HT.out W hb) hBd hN hcp
  have HPA : Hid (∀ (W : World) (ax : Option Addr) (nx cx : Nat) (x : List Int), Below z1.heap.size z1 W → RdI W ax x → x.length = nx → nx ≤ 1048576 → Calls Tryz.prog 9 #[.slice (some ⟨g, 0, none⟩) N cp, .slice ax nx cx] W fun e w' => e = .returned (.agg #[.int .i64 (paR d x).1, .int .i64 (paR d x).2]) ∧ Below W.heap.size W w') := fun W ax nx cx x hb h1 h2 h3 => partAt_any g N d ax nx cx x W (ri.below hb) (HT.out W hb) hBd hN h1 h2 h3 hcp
  have HDT : Hid (∀ W, Below z1.heap.size z1 W → Calls Tryz.prog 10 #[.slice a0 len0 cap0] W fun e w' => TyE W e w') := fun W hb => drawTypeOf_any a0 len0 cap0 l W hl (hr.below (hB1.trans (hb.mono hB1.size))) hBl hn
  have HTI : Hid (∀ (W : World) (t : List Nat), Below z1.heap.size z1 W → IsB t → t.length ≤ 100 → Calls Tryz.prog 11 #[.string (str t)] W fun e w' => e = .returned (ptV (tyV t)) ∧ Below W.heap.size W w') := fun W t hb h1 h2 => typeOf_any t W h1 (by omega) (HT.out W hb)
  have HTS : Hid (∀ (W : World) (t : List Nat), IsB t → t.length ≤ 100 → Calls Tryz.prog 12 #[.string (str t)] W fun e w' => e = .returned (ptV (tyV t)) ∧ Below W.heap.size W w') := fun W t h1 h2 => specTypeOf_any t _ W rfl h1 (by omega)
  have HNA : Hid (_) := @nest_all d
  clear ri hglt hBd htC hmx HT
  rw [hN]
  go_wp2_with fail
  refine (HPI.out z1 (Below.refl _ _)).mono ?_
  rintro e z2 ⟨v2, rfl, ho2, hb2⟩
  obtain ⟨K, hK⟩ : ∃ K, (psV d).2.length = K := ⟨_, rfl⟩
  obtain ⟨a2, cp2, hv2, -, -⟩ := ho2.form
  rw [hK] at hv2
  subst hv2
  obtain ⟨c, hc⟩ : ∃ c, (psV d).1 = c := ⟨_, rfl⟩
  rw [hc]
  obtain ⟨Z3, hZ3⟩ : ∃ W, z2.alloc (.cells #[.int .i64 c, .slice a2 K cp2] 27) = W := ⟨_, rfl⟩
  have hbzZ3 : Below z2.heap.size z2 Z3 := by rw [← hZ3]; exact (Below.refl _ _).alloc (Nat.le_refl _) _
  have hG0 : Z3.cell? ⟨z2.heap.size, 0, none⟩ = some (.int .i64 c) := by rw [← hZ3]; simp
  have hG1 : Z3.cell? ⟨z2.heap.size, 1, none⟩ = some (.slice a2 K cp2) := by rw [← hZ3]; simp
  have hsz3 : Z3.heap.size = z2.heap.size + 1 := by rw [← hZ3]; simp
  have HZ3 : Hid (_ = Z3) := hZ3
  clear hZ3
  have hb13 : Below z1.heap.size z1 Z3 := hb2.trans (hbzZ3.mono hb2.size)
  have hB3 : Below w.heap.size w Z3 := hB1.trans (hb13.mono hB1.size)
  have hr3 : RdP Z3 a2 (psV d).2 := (OwnP.rd ho2).2.below hbzZ3
  clear ho2 hb2 hbzZ3
  have fN0 := fldU0
  have fN1 := fldU1
  have fI1 := fldI1
  by_cases hc0 : c = 0
  case neg =>
    have hcb : (c == 0) = false := beq_eq_false_iff_ne.2 hc0
    obtain ⟨G, hG⟩ : ∃ G, z2.heap.size = G := ⟨_, rfl⟩
    rw [hG] at hG0 hG1
    have hGlt : G < Z3.heap.size := by omega
    have HS6 : Hid (∀ W, Below Z3.heap.size Z3 W → W.cell? ⟨G, 0, none⟩ = some (.int .i64 c) ∧ True) := fun W hb => ⟨(hb.cell (p := ⟨G, 0, none⟩) hGlt).trans hG0, trivial⟩
    clear HNA HDT HTI HTS HPO HPA HPI hr3 hG1
    go_wp2_with (rw [HZ3.out])
    clear HZ3
    (try rw [hG])
    clear hG hsz3 hG0
    refine wp_region_held_drew (S := fun w' => w'.cell? ⟨G, 0, none⟩ = some (.int .i64 c) ∧ True) (by kernel_rfl) ?hS2 (fun hHeld => ?_)
    case hS2 => exact HS6.out _ (Below.refl _ _).drew
    refine wpAnyH_take (i := 0) (v := ?_) rfl (by kernel_rfl) (by kernel_rfl) (by kernel_rfl) (fun _ _ _ h => h) (Or.inl ⟨by rfl, ?hy3⟩) (by assumption) ?ty3
    case hy3 => (intro w5 hSw; obtain ⟨e0, -⟩ := hSw; go_simp; all_goals with_reducible rfl)
    simp only [Act.put, List.getElem_toArray, List.getElem_cons_zero, List.setIfInBounds_toArray, List.set_cons_zero, List.set_cons_succ]
    refine wpAnyH_take (i := 3) (v := ?_) rfl (by kernel_rfl) (by kernel_rfl) (by kernel_rfl) (fun _ _ _ h => h) (Or.inl ⟨by rfl, ?hy4⟩) (by assumption) ?ty4
    case hy4 => (intro w5 hSw; obtain ⟨e0, -⟩ := hSw; go_simp; all_goals with_reducible rfl)
    simp only [Act.put, List.getElem_toArray, List.getElem_cons_zero, List.getElem_cons_succ, List.setIfInBounds_toArray, List.set_cons_zero, List.set_cons_succ]
    refine wpAnyH_take (i := 4) (v := ?_) rfl (by kernel_rfl) (by kernel_rfl) (by kernel_rfl) (fun _ _ _ h => h) (Or.inl ⟨by rfl, ?hy5⟩) (by assumption) ?ty5
    case hy5 => (intro w5 hSw; obtain ⟨e0, -⟩ := hSw; go_simp; all_goals with_reducible rfl)
    simp only [Act.put, List.getElem_toArray, List.getElem_cons_zero, List.getElem_cons_succ, List.setIfInBounds_toArray, List.set_cons_zero, List.set_cons_succ]
    have hy0 : Below Z3.heap.size Z3 Z3.drew := (Below.refl _ _).drew
    generalize Z3.drew = x0 at *
    refine wpAnyH_ready (rs := [1]) (by kernel_rfl) (by simp) ?_
    refine AllReadyH.cons rfl (fun K hK => ?_) AllReadyH.nil
    go_simp
    refine (HPS.out x0 (hb13.trans (hy0.mono hb13.size))).mono ?_
    rintro e x1 ⟨vA, rfl, hoA, hcA⟩
    obtain ⟨aA, cA, hvA, -, -⟩ := hoA.form
    subst hvA
    rw [hc]
    have hy1 := hy0.trans (hcA.mono hy0.size)
    refine hK.out _ _ (HS6.out _ hy1) (fun hHeld => ?_)
    clear hK K
    refine wpAnyH_take (i := 2) (v := ?_) rfl (by kernel_rfl) (by kernel_rfl) (by kernel_rfl) (fun _ _ _ h => h) (Or.inl ⟨by rfl, ?hy6⟩) (by assumption) ?ty6
    case hy6 => (intro w5 hSw; obtain ⟨e0, -⟩ := hSw; go_simp; all_goals with_reducible rfl)
    simp only [Act.put, List.getElem_toArray, List.getElem_cons_zero, List.getElem_cons_succ, List.setIfInBounds_toArray, List.set_cons_zero, List.set_cons_succ]
    refine wpAnyH_take (i := 5) (v := .bool true) rfl (by kernel_rfl) (by kernel_rfl) (by kernel_rfl) (fun _ _ _ h => h) (Or.inl ⟨by rfl, ?hy7⟩) (by assumption) ?ty7
    case hy7 => (intro w5 hSw; obtain ⟨e0, -⟩ := hSw; go_simp; first | (simp; done) | omega | (simp; omega) | (all_goals with_reducible rfl))
    simp only [Act.put, List.getElem_toArray, List.getElem_cons_zero, List.getElem_cons_succ, List.setIfInBounds_toArray, List.set_cons_zero, List.set_cons_succ]
    refine wpAnyH_take (i := 6) (v := ?_) rfl (by kernel_rfl) (by kernel_rfl) (by kernel_rfl) (fun _ _ _ h => h) (Or.inl ⟨by rfl, ?hy8⟩) (by assumption) ?ty8
    case hy8 => (intro w5 hSw; obtain ⟨e0, -⟩ := hSw; go_simp; all_goals with_reducible rfl)
    simp only [Act.put, List.getElem_toArray, List.getElem_cons_zero, List.getElem_cons_succ, List.setIfInBounds_toArray, List.set_cons_zero, List.set_cons_succ]
    refine wpAnyH_done (by kernel_rfl) ?_ _
    have hBe := hB3.trans (hy1.mono hB3.size)
    clear hHeld
    go_wp2
    go_ret
    exact ⟨rfl, hBe⟩
  have hc0' := hc0
  subst hc0'
  clear hc0
  obtain ⟨h4, hK0, hK8, hall⟩ := HNA.out hc
  rw [hK] at hK0 hK8
  have hKK := hK
  have HALL : Hid (_) := hall
  clear hall HNA
  have hKi : (0 : Int) < (K : Int) := by omega
  obtain ⟨G, hG⟩ : ∃ G, z2.heap.size = G := ⟨_, rfl⟩
  rw [hG] at hG0 hG1
  have hGlt : G < Z3.heap.size := by omega
  obtain ⟨g3, rfl, hg3lt, -⟩ := hr3.at_ (by omega)
  have HR3 : Hid (RdP Z3 (some ⟨g3, 0, none⟩) (psV d).2) := hr3
  clear hr3
  go_wp2_with (rw [HZ3.out])
  clear HZ3
  (try rw [hG])
  go_loopw [5] (fun i wr => ∃ k : Nat, k ≤ K ∧ i = .int .i64 k ∧ Below Z3.heap.size Z3 wr) (fun i _ => K - (intOf i).toNat)
  case atStart => exact ⟨0, Nat.zero_le _, rfl, Below.refl _ _⟩
  case round =>
    obtain ⟨k, hk, rfl, hbel⟩ := hrel
    have hz0 := hbel.size
    have q1 : wr.cell? ⟨G, 1, none⟩ = some (.slice (some ⟨g3, 0, none⟩) K cp2) := (hbel.cell (p := ⟨G, 1, none⟩) hGlt).trans hG1
    by_cases hkK : k < K
    case neg =>
      have hkn : ¬ (k : Int) < (K : Int) := by omega
      -- END
      go_wp2_with fail
      refine (HDT.out wr (hb13.trans (hbel.mono hb13.size))).mono ?_
      rintro e e1 ⟨tt, rfl, hBt, htl, hbt⟩
      have hbe1 : Below Z3.heap.size Z3 e1 := hbel.trans (hbt.mono hz0)
      have hb1e : Below z1.heap.size z1 e1 := hb13.trans (hbe1.mono hb13.size)
      have hGe := (hbe1.cell (p := ⟨G, 1, none⟩) hGlt).trans hG1
      have hGE : G < e1.heap.size := by have := hbe1.size; omega
      have hsE : Hid (∀ W, Below e1.heap.size e1 W → W.cell? ⟨G, 1, none⟩ = some (.slice (some ⟨g3, 0, none⟩) K cp2) ∧ True) := fun W hb => ⟨(hb.cell (p := ⟨G, 1, none⟩) hGE).trans hGe, trivial⟩
      obtain ⟨xt, hxt⟩ : ∃ x, str tt = x := ⟨_, rfl⟩
      have HTI2 : Hid (∀ W, Below z1.heap.size z1 W → Calls Tryz.prog 11 #[.string xt] W fun e w' => e = .returned (.agg #[.int .i64 (tyV tt).1, .int .i64 (tyV tt).2, .int .i64 0, .int .i64 0, .int .i64 0, .int .i64 0, .int .i64 0]) ∧ Below W.heap.size W w') := fun W hb => hxt ▸ HTI.out W tt hb hBt htl
      have HTS2 : Hid (∀ W, Calls Tryz.prog 12 #[.string xt] W fun e w' => e = .returned (.agg #[.int .i64 (tyV tt).1, .int .i64 (tyV tt).2, .int .i64 0, .int .i64 0, .int .i64 0, .int .i64 0, .int .i64 0]) ∧ Below W.heap.size W w') := fun W => hxt ▸ HTS.out W tt hBt htl
      rw [hxt]
      clear HTI HTS HDT hxt
      generalize (tyV tt).1 = p1 at *
      generalize (tyV tt).2 = p2 at *
      have hK1' : (1 : Int) ≤ (K : Int) := by omega
      have hK8' : (K : Int) ≤ 8 := by omega
      go_wp2_with fail
      clear HALL HPA HPO hG1 hGe q1
      refine wp_region_held_drew (S := fun w' => w'.cell? ⟨G, 1, none⟩ = some (.slice (some ⟨g3, 0, none⟩) K cp2) ∧ True) (by kernel_rfl) ?hS501 (fun hHeld => ?_)
      case hS501 => exact hsE.out _ (Below.refl _ _).drew
      refine wpAnyH_take (i := 0) (v := ?_) rfl (by kernel_rfl) (by kernel_rfl) (by kernel_rfl) (fun _ _ _ h => h) (Or.inl ⟨by rfl, ?hy502⟩) (by assumption) ?ty502
      case hy502 => (intro w5 hSw; obtain ⟨e0, -⟩ := hSw; go_simp; all_goals with_reducible rfl)
      simp only [Act.put, List.getElem_toArray, List.getElem_cons_zero, List.setIfInBounds_toArray, List.set_cons_zero, List.set_cons_succ]
      refine wpAnyH_take (i := 1) (v := ?_) rfl (by kernel_rfl) (by kernel_rfl) (by kernel_rfl) (fun _ _ _ h => h) (Or.inl ⟨by rfl, ?hy503⟩) (by assumption) ?ty503
      case hy503 => (intro w5 hSw; obtain ⟨e0, -⟩ := hSw; go_simp; all_goals with_reducible rfl)
      simp only [Act.put, List.getElem_toArray, List.getElem_cons_zero, List.getElem_cons_succ, List.setIfInBounds_toArray, List.set_cons_zero, List.set_cons_succ]
      refine wpAnyH_take (i := 2) (v := ?_) rfl (by kernel_rfl) (by kernel_rfl) (by kernel_rfl) (fun _ _ _ h => h) (Or.inl ⟨by rfl, ?hy504⟩) (by assumption) ?ty504
      case hy504 => (intro w5 hSw; obtain ⟨e0, -⟩ := hSw; go_simp; all_goals with_reducible rfl)
      simp only [Act.put, List.getElem_toArray, List.getElem_cons_zero, List.getElem_cons_succ, List.setIfInBounds_toArray, List.set_cons_zero, List.set_cons_succ]
      refine wpAnyH_take (i := 3) (v := .bool true) rfl (by kernel_rfl) (by kernel_rfl) (by kernel_rfl) (fun _ _ _ h => h) (Or.inl ⟨by rfl, ?hy505⟩) (by assumption) ?ty505
      case hy505 => (intro w5 hSw; obtain ⟨e0, -⟩ := hSw; go_simp; first | (simp; done) | omega | (simp; omega) | (all_goals with_reducible rfl))
      simp only [Act.put, List.getElem_toArray, List.getElem_cons_zero, List.getElem_cons_succ, List.setIfInBounds_toArray, List.set_cons_zero, List.set_cons_succ]
      refine wpAnyH_take (i := 4) (v := ?_) rfl (by kernel_rfl) (by kernel_rfl) (by kernel_rfl) (fun _ _ _ h => h) (Or.inl ⟨by rfl, ?hy506⟩) (by assumption) ?ty506
      case hy506 => (intro w5 hSw; obtain ⟨e0, -⟩ := hSw; go_simp; all_goals with_reducible rfl)
      simp only [Act.put, List.getElem_toArray, List.getElem_cons_zero, List.getElem_cons_succ, List.setIfInBounds_toArray, List.set_cons_zero, List.set_cons_succ]
      refine wpAnyH_take (i := 5) (v := ?_) rfl (by kernel_rfl) (by kernel_rfl) (by kernel_rfl) (fun _ _ _ h => h) (Or.inl ⟨by rfl, ?hy507⟩) (by assumption) ?ty507
      case hy507 => (intro w5 hSw; obtain ⟨e0, -⟩ := hSw; go_simp; all_goals with_reducible rfl)
      simp only [Act.put, List.getElem_toArray, List.getElem_cons_zero, List.getElem_cons_succ, List.setIfInBounds_toArray, List.set_cons_zero, List.set_cons_succ]
      refine wpAnyH_take (i := 6) (v := ?_) rfl (by kernel_rfl) (by kernel_rfl) (by kernel_rfl) (fun _ _ _ h => h) (Or.inl ⟨by rfl, ?hy508⟩) (by assumption) ?ty508
      case hy508 => (intro w5 hSw; obtain ⟨e0, -⟩ := hSw; go_simp; all_goals with_reducible rfl)
      simp only [Act.put, List.getElem_toArray, List.getElem_cons_zero, List.getElem_cons_succ, List.setIfInBounds_toArray, List.set_cons_zero, List.set_cons_succ]
      refine wpAnyH_take (i := 7) (v := ?_) rfl (by kernel_rfl) (by kernel_rfl) (by kernel_rfl) (fun _ _ _ h => h) (Or.inl ⟨by rfl, ?hy509⟩) (by assumption) ?ty509
      case hy509 => (intro w5 hSw; obtain ⟨e0, -⟩ := hSw; go_simp; all_goals with_reducible rfl)
      simp only [Act.put, List.getElem_toArray, List.getElem_cons_zero, List.getElem_cons_succ, List.setIfInBounds_toArray, List.set_cons_zero, List.set_cons_succ]
      refine wpAnyH_take (i := 8) (v := .bool true) rfl (by kernel_rfl) (by kernel_rfl) (by kernel_rfl) (fun _ _ _ h => h) (Or.inl ⟨by rfl, ?hy510⟩) (by assumption) ?ty510
      case hy510 => (intro w5 hSw; obtain ⟨e0, -⟩ := hSw; go_simp; first | (simp; done) | omega | (simp; omega) | (all_goals with_reducible rfl))
      simp only [Act.put, List.getElem_toArray, List.getElem_cons_zero, List.getElem_cons_succ, List.setIfInBounds_toArray, List.set_cons_zero, List.set_cons_succ]
      refine wpAnyH_take (i := 9) (v := ?_) rfl (by kernel_rfl) (by kernel_rfl) (by kernel_rfl) (fun _ _ _ h => h) (Or.inl ⟨by rfl, ?hy511⟩) (by assumption) ?ty511
      case hy511 => (intro w5 hSw; obtain ⟨e0, -⟩ := hSw; go_simp; all_goals with_reducible rfl)
      simp only [Act.put, List.getElem_toArray, List.getElem_cons_zero, List.getElem_cons_succ, List.setIfInBounds_toArray, List.set_cons_zero, List.set_cons_succ]
      refine wpAnyH_take (i := 10) (v := ?_) rfl (by kernel_rfl) (by kernel_rfl) (by kernel_rfl) (fun _ _ _ h => h) (Or.inl ⟨by rfl, ?hy512⟩) (by assumption) ?ty512
      case hy512 => (intro w5 hSw; obtain ⟨e0, -⟩ := hSw; go_simp; all_goals with_reducible rfl)
      simp only [Act.put, List.getElem_toArray, List.getElem_cons_zero, List.getElem_cons_succ, List.setIfInBounds_toArray, List.set_cons_zero, List.set_cons_succ]
      refine wpAnyH_take (i := 11) (v := ?_) rfl (by kernel_rfl) (by kernel_rfl) (by kernel_rfl) (fun _ _ _ h => h) (Or.inl ⟨by rfl, ?hy513⟩) (by assumption) ?ty513
      case hy513 => (intro w5 hSw; obtain ⟨e0, -⟩ := hSw; go_simp; all_goals with_reducible rfl)
      simp only [Act.put, List.getElem_toArray, List.getElem_cons_zero, List.getElem_cons_succ, List.setIfInBounds_toArray, List.set_cons_zero, List.set_cons_succ]
      refine wpAnyH_take (i := 13) (v := ?_) rfl (by kernel_rfl) (by kernel_rfl) (by kernel_rfl) (fun _ _ _ h => h) (Or.inl ⟨by rfl, ?hy514⟩) (by assumption) ?ty514
      case hy514 => (intro w5 hSw; obtain ⟨e0, -⟩ := hSw; go_simp; all_goals with_reducible rfl)
      simp only [Act.put, List.getElem_toArray, List.getElem_cons_zero, List.getElem_cons_succ, List.setIfInBounds_toArray, List.set_cons_zero, List.set_cons_succ]
      have hy0 : Below e1.heap.size e1 e1.drew := (Below.refl _ _).drew
      generalize e1.drew = x0 at *
      refine wpAnyH_ready (rs := [12]) (by kernel_rfl) (by simp) ?_
      refine AllReadyH.cons rfl (fun K hK => ?_) AllReadyH.nil
      go_simp
      refine (HTI2.out x0 (hb1e.trans (hy0.mono hb1e.size))).mono ?_
      rintro e x1 ⟨rfl, hcA⟩
      have hy1 := hy0.trans (hcA.mono hy0.size)
      refine hK.out _ _ (hsE.out _ hy1) (fun hHeld => ?_)
      clear hK K
      refine wpAnyH_ready (rs := [14]) (by kernel_rfl) (by simp) ?_
      refine AllReadyH.cons rfl (fun K hK => ?_) AllReadyH.nil
      go_simp
      refine (HTS2.out x1).mono ?_
      rintro e x2 ⟨rfl, hcB⟩
      have hy2 := hy1.trans (hcB.mono hy1.size)
      refine hK.out _ _ (hsE.out _ hy2) (fun hHeld => ?_)
      clear hK K
      refine wpAnyH_take (i := 15) (v := .bool true) rfl (by kernel_rfl) (by kernel_rfl) (by kernel_rfl) (fun _ _ _ h => h) (Or.inl ⟨by rfl, ?hy515⟩) (by assumption) ?ty515
      case hy515 => (intro w5 hSw; obtain ⟨e0, -⟩ := hSw; go_simp; first | (simp; done) | (simp [go_sem]; done) | (all_goals with_reducible rfl) | rfl | kernel_rfl)
      simp only [Act.put, List.getElem_toArray, List.getElem_cons_zero, List.getElem_cons_succ, List.setIfInBounds_toArray, List.set_cons_zero, List.set_cons_succ]
      refine wpAnyH_take (i := 16) (v := ?_) rfl (by kernel_rfl) (by kernel_rfl) (by kernel_rfl) (fun _ _ _ h => h) (Or.inl ⟨by rfl, ?hy516⟩) (by assumption) ?ty516
      case hy516 => (intro w5 hSw; obtain ⟨e0, -⟩ := hSw; go_simp; all_goals with_reducible rfl)
      simp only [Act.put, List.getElem_toArray, List.getElem_cons_zero, List.getElem_cons_succ, List.setIfInBounds_toArray, List.set_cons_zero, List.set_cons_succ]
      refine wpAnyH_take (i := 17) (v := ?_) rfl (by kernel_rfl) (by kernel_rfl) (by kernel_rfl) (fun _ _ _ h => h) (Or.inl ⟨by rfl, ?hy517⟩) (by assumption) ?ty517
      case hy517 => (intro w5 hSw; obtain ⟨e0, -⟩ := hSw; go_simp; all_goals with_reducible rfl)
      simp only [Act.put, List.getElem_toArray, List.getElem_cons_zero, List.getElem_cons_succ, List.setIfInBounds_toArray, List.set_cons_zero, List.set_cons_succ]
      refine wpAnyH_take (i := 18) (v := ?_) rfl (by kernel_rfl) (by kernel_rfl) (by kernel_rfl) (fun _ _ _ h => h) (Or.inl ⟨by rfl, ?hy518⟩) (by assumption) ?ty518
      case hy518 => (intro w5 hSw; obtain ⟨e0, -⟩ := hSw; go_simp; all_goals with_reducible rfl)
      simp only [Act.put, List.getElem_toArray, List.getElem_cons_zero, List.getElem_cons_succ, List.setIfInBounds_toArray, List.set_cons_zero, List.set_cons_succ]
      refine wpAnyH_take (i := 19) (v := ?_) rfl (by kernel_rfl) (by kernel_rfl) (by kernel_rfl) (fun _ _ _ h => h) (Or.inl ⟨by rfl, ?hy519⟩) (by assumption) ?ty519
      case hy519 => (intro w5 hSw; obtain ⟨e0, -⟩ := hSw; go_simp; all_goals with_reducible rfl)
      simp only [Act.put, List.getElem_toArray, List.getElem_cons_zero, List.getElem_cons_succ, List.setIfInBounds_toArray, List.set_cons_zero, List.set_cons_succ]
      refine wpAnyH_take (i := 20) (v := ?_) rfl (by kernel_rfl) (by kernel_rfl) (by kernel_rfl) (fun _ _ _ h => h) (Or.inl ⟨by rfl, ?hy520⟩) (by assumption) ?ty520
      case hy520 => (intro w5 hSw; obtain ⟨e0, -⟩ := hSw; go_simp; all_goals with_reducible rfl)
      simp only [Act.put, List.getElem_toArray, List.getElem_cons_zero, List.getElem_cons_succ, List.setIfInBounds_toArray, List.set_cons_zero, List.set_cons_succ]
      refine wpAnyH_take (i := 21) (v := ?_) rfl (by kernel_rfl) (by kernel_rfl) (by kernel_rfl) (fun _ _ _ h => h) (Or.inl ⟨by rfl, ?hy521⟩) (by assumption) ?ty521
      case hy521 => (intro w5 hSw; obtain ⟨e0, -⟩ := hSw; go_simp; all_goals with_reducible rfl)
      simp only [Act.put, List.getElem_toArray, List.getElem_cons_zero, List.getElem_cons_succ, List.setIfInBounds_toArray, List.set_cons_zero, List.set_cons_succ]
      refine wpAnyH_ready (rs := [22]) (by kernel_rfl) (by simp) ?_
      refine AllReadyH.cons rfl (fun K hK => ?_) AllReadyH.nil
      go_simp
      refine (HPS.out x2 (hb1e.trans (hy2.mono hb1e.size))).mono ?_
      rintro e x3 ⟨vA, rfl, hoA, hcC⟩
      obtain ⟨aA, cA, hvA, -, -⟩ := hoA.form
      rw [hKK] at hvA
      subst hvA
      have hy3 := hy2.trans (hcC.mono hy2.size)
      refine hK.out _ _ (hsE.out _ hy3) (fun hHeld => ?_)
      clear hK K
      refine wpAnyH_take (i := 23) (v := ?_) rfl (by kernel_rfl) (by kernel_rfl) (by kernel_rfl) (fun _ _ _ h => h) (Or.inl ⟨by rfl, ?hy522⟩) (by assumption) ?ty522
      case hy522 => (intro w5 hSw; obtain ⟨e0, -⟩ := hSw; go_simp; all_goals with_reducible rfl)
      simp only [Act.put, List.getElem_toArray, List.getElem_cons_zero, List.getElem_cons_succ, List.setIfInBounds_toArray, List.set_cons_zero, List.set_cons_succ]
      refine wpAnyH_take (i := 24) (v := ?_) rfl (by kernel_rfl) (by kernel_rfl) (by kernel_rfl) (fun _ _ _ h => h) (Or.inl ⟨by rfl, ?hy523⟩) (by assumption) ?ty523
      case hy523 => (intro w5 hSw; obtain ⟨e0, -⟩ := hSw; go_simp; all_goals with_reducible rfl)
      simp only [Act.put, List.getElem_toArray, List.getElem_cons_zero, List.getElem_cons_succ, List.setIfInBounds_toArray, List.set_cons_zero, List.set_cons_succ]
      refine wpAnyH_take (i := 25) (v := .bool true) rfl (by kernel_rfl) (by kernel_rfl) (by kernel_rfl) (fun _ _ _ h => h) (Or.inl ⟨by rfl, ?hy524⟩) (by assumption) ?ty524
      case hy524 => (intro w5 hSw; obtain ⟨e0, -⟩ := hSw; go_simp; first | (simp; done) | omega | (simp; omega) | (all_goals with_reducible rfl))
      simp only [Act.put, List.getElem_toArray, List.getElem_cons_zero, List.getElem_cons_succ, List.setIfInBounds_toArray, List.set_cons_zero, List.set_cons_succ]
      refine wpAnyH_take (i := 26) (v := ?_) rfl (by kernel_rfl) (by kernel_rfl) (by kernel_rfl) (fun _ _ _ h => h) (Or.inl ⟨by rfl, ?hy525⟩) (by assumption) ?ty525
      case hy525 => (intro w5 hSw; obtain ⟨e0, -⟩ := hSw; go_simp; all_goals with_reducible rfl)
      simp only [Act.put, List.getElem_toArray, List.getElem_cons_zero, List.getElem_cons_succ, List.setIfInBounds_toArray, List.set_cons_zero, List.set_cons_succ]
      refine wpAnyH_take (i := 27) (v := ?_) rfl (by kernel_rfl) (by kernel_rfl) (by kernel_rfl) (fun _ _ _ h => h) (Or.inl ⟨by rfl, ?hy526⟩) (by assumption) ?ty526
      case hy526 => (intro w5 hSw; obtain ⟨e0, -⟩ := hSw; go_simp; all_goals with_reducible rfl)
      simp only [Act.put, List.getElem_toArray, List.getElem_cons_zero, List.getElem_cons_succ, List.setIfInBounds_toArray, List.set_cons_zero, List.set_cons_succ]
      refine wpAnyH_done (by kernel_rfl) ?_ _
      have hBe := hB3.trans ((hbe1.trans (hy3.mono hbe1.size)).mono hB3.size)
      clear hHeld
      go_wp2
      go_ret
      exact ⟨rfl, hBe⟩
    have hki : (k : Int) < (K : Int) := by omega
    obtain ⟨⟨f, t, hft, hf1, hf2⟩, hpa, hplen, hpr, hup⟩ := HALL.out k (by omega)
    obtain ⟨g', hg', -, hcell⟩ := (RdP.below HR3.out hbel).at_ (by omega)
    cases hg'
    obtain ⟨x0, x1, x2, x3, x4, x5, x6⟩ := hcell k (by omega)
    rw [hft] at x3 x4
    dsimp only at x3 x4
    have HUP : Hid (_) := hup
    have HFT : Hid (_) := hft
    clear hup hcell hft
    obtain ⟨X, hX⟩ : ∃ W, wr.alloc (.cells #[.int .i64 (nthP (psV d).2 k).1.1, .int .i64 (nthP (psV d).2 k).1.2.1, .int .i64 (nthP (psV d).2 k).1.2.2, .int .i64 f, .int .i64 t, .int .i64 (nthP (psV d).2 k).2.2.1, .int .i64 (nthP (psV d).2 k).2.2.2] 30) = W := ⟨_, rfl⟩
    have hbX : Below wr.heap.size wr X := by rw [← hX]; exact (Below.refl _ _).alloc (Nat.le_refl _) _
    have hX3 : X.cell? ⟨wr.heap.size, 3, none⟩ = some (.int .i64 f) := by rw [← hX]; simp
    have hX4 : X.cell? ⟨wr.heap.size, 4, none⟩ = some (.int .i64 t) := by rw [← hX]; simp
    have hX5 : X.cell? ⟨wr.heap.size, 5, none⟩ = some (.int .i64 (nthP (psV d).2 k).2.2.1) := by rw [← hX]; simp
    have hsX : X.heap.size = wr.heap.size + 1 := by rw [← hX]; simp
    have HX : Hid (_ = X) := hX
    clear hX
    have hb3X : Below Z3.heap.size Z3 X := hbel.trans (hbX.mono hz0)
    have hG1X := (hb3X.cell (p := ⟨G, 1, none⟩) hGlt).trans hG1
    go_wp2_with (rw [HX.out])
    clear HX x0 x1 x2 x3 x4 x5 x6
    refine (HPO.out X (k : Int) (hb13.trans (hb3X.mono hb13.size))).mono ?_
    rintro e z4 ⟨v4, rfl, ho4, hb4⟩
    rw [hpa] at ho4 ⊢
    dsimp only at ho4 ⊢
    obtain ⟨P, hP⟩ : ∃ P, (pthV (psV d).2 k).length = P := ⟨_, rfl⟩
    obtain ⟨aP, cP, hvP, -, -⟩ := ho4.form
    rw [hP] at hvP hplen
    subst hvP
    obtain ⟨Z5, hZ5⟩ : ∃ W, z4.alloc (.cells #[.int .i64 0, .slice aP P cP] 33) = W := ⟨_, rfl⟩
    have hbZ5 : Below z4.heap.size z4 Z5 := by rw [← hZ5]; exact (Below.refl _ _).alloc (Nat.le_refl _) _
    have hY0 : Z5.cell? ⟨z4.heap.size, 0, none⟩ = some (.int .i64 0) := by rw [← hZ5]; simp
    have hY1 : Z5.cell? ⟨z4.heap.size, 1, none⟩ = some (.slice aP P cP) := by rw [← hZ5]; simp
    have hsZ : Z5.heap.size = z4.heap.size + 1 := by rw [← hZ5]; simp
    have HZ5 : Hid (_ = Z5) := hZ5
    clear hZ5
    have hbX5 : Below X.heap.size X Z5 := hb4.trans (hbZ5.mono hb4.size)
    have hb35 : Below Z3.heap.size Z3 Z5 := hb3X.trans (hbX5.mono hb3X.size)
    have hzX : wr.heap.size < X.heap.size := by omega
    have hrd5 : RdI Z5 aP (pthV (psV d).2 k) := (OwnI.rd ho4).2.below hbZ5
    have hZ53 := (hbX5.cell (p := ⟨wr.heap.size, 3, none⟩) hzX).trans hX3
    have hZ54 := (hbX5.cell (p := ⟨wr.heap.size, 4, none⟩) hzX).trans hX4
    have hZ55 := (hbX5.cell (p := ⟨wr.heap.size, 5, none⟩) hzX).trans hX5
    obtain ⟨R, hR⟩ : ∃ R, wr.heap.size = R := ⟨_, rfl⟩
    obtain ⟨Y, hY⟩ : ∃ Y, z4.heap.size = Y := ⟨_, rfl⟩
    rw [hR] at hZ53 hZ54 hZ55
    rw [hY] at hY0 hY1
    have hRlt : R < Z5.heap.size := by have := hbX5.size; omega
    have hYlt : Y < Z5.heap.size := by omega
    have hc1 : ¬ (f : Int) < 0 := by omega
    have hc2 : ¬ (t : Int) < (f : Int) := by omega
    have hc3 : ¬ (N : Int) < (t : Int) := by omega
    have hc4 : ¬ (4 : Int) ≤ (P : Int) := by omega
    have HPK : Hid (Calls Tryz.prog 9 #[.slice (some ⟨g, 0, none⟩) N cp, .slice aP P cP] Z5 fun e w' => e = .returned (.agg #[.int .i64 0, .int .i64 (k : Int)]) ∧ Below Z5.heap.size Z5 w') := by
      have h := HPA.out Z5 aP P cP (pthV (psV d).2 k) (hb13.trans (hb35.mono hb13.size)) hrd5 hP (by omega)
      rw [hpr] at h
      exact h
    clear ho4 hrd5 hpa hpr hX3 hX4 hX5 hG1X hbX hb3X hb4 hbZ5 hbX5 hP
    generalize (nthP (psV d).2 k).2.2.1 = up at *
    go_wp2_with (rw [HZ5.out])
    clear HZ5
    (try rw [hR])
    (try rw [hY])
    refine Calls.mono HPK.out ?_
    clear HPK
    rintro e z6 ⟨rfl, hb6⟩
    have hb36 : Below Z3.heap.size Z3 z6 := hb35.trans (hb6.mono hb35.size)
    have hZ63 := (hb6.cell (p := ⟨R, 3, none⟩) hRlt).trans hZ53
    have hZ64 := (hb6.cell (p := ⟨R, 4, none⟩) hRlt).trans hZ54
    have hZ65 := (hb6.cell (p := ⟨R, 5, none⟩) hRlt).trans hZ55
    have hY61 := (hb6.cell (p := ⟨Y, 1, none⟩) hYlt).trans hY1
    have hG16 := (hb36.cell (p := ⟨G, 1, none⟩) hGlt).trans hG1
    by_cases hk0 : k = 0
    · have hk0' : ((k : Int) == 0) = true := by subst hk0; rfl
      go_wp2
      go_roundw
      case rel => exact ⟨k + 1, by omega, by go_num, hb36⟩
      case measure => simp [intOf]; omega
    have hk0' : ((k : Int) == 0) = false := beq_eq_false_iff_ne.2 (by omega)
    obtain ⟨u, hu1, hu2, hin⟩ := HUP.out.resolve_left hk0
    subst hu1
    obtain ⟨⟨fu, tu, hftu, -, -⟩, -, -, -, -⟩ := HALL.out u (by omega)
    obtain ⟨hi1, hi2, hi3⟩ := hin
    rw [hftu, HFT.out] at hi1
    rw [hftu, HFT.out] at hi2
    dsimp only at hi1 hi2
    obtain ⟨g', hg', hg3z, hcell⟩ := (RdP.below HR3.out hb36).at_ (by omega)
    cases hg'
    obtain ⟨y0, -, -, y3, y4, -, -⟩ := hcell u (by omega)
    rw [hi3] at y0
    rw [hftu] at y3 y4
    dsimp only at y3 y4
    have hR6 : R < z6.heap.size := by have := hb6.size; omega
    have hG6 : G < z6.heap.size := by have := hb36.size; omega
    have HS15 : Hid (∀ W, Below z6.heap.size z6 W → W.cell? ⟨R, 3, none⟩ = some (.int .i64 f) ∧ W.cell? ⟨R, 4, none⟩ = some (.int .i64 t) ∧ W.cell? ⟨R, 5, none⟩ = some (.int .i64 u) ∧ W.cell? ⟨G, 1, none⟩ = some (.slice (some ⟨g3, 0, none⟩) K cp2) ∧ W.cell? ⟨g3, u * 7, none⟩ = some (.int .i64 2) ∧ W.cell? ⟨g3, u * 7 + 3, none⟩ = some (.int .i64 fu) ∧ W.cell? ⟨g3, u * 7 + 4, none⟩ = some (.int .i64 tu)) := fun W hb => ⟨(hb.cell (p := ⟨R, 3, none⟩) hR6).trans hZ63, (hb.cell (p := ⟨R, 4, none⟩) hR6).trans hZ64, (hb.cell (p := ⟨R, 5, none⟩) hR6).trans hZ65, (hb.cell (p := ⟨G, 1, none⟩) hG6).trans hG16, (hb.cell (p := ⟨g3, u * 7, none⟩) hg3z).trans y0, (hb.cell (p := ⟨g3, u * 7 + 3, none⟩) hg3z).trans y3, (hb.cell (p := ⟨g3, u * 7 + 4, none⟩) hg3z).trans y4⟩
    have huK : (u : Int) < (K : Int) := by omega
    clear hcell hftu hi3
    go_wp2_with fail
    clear y0 y3 y4 hZ63 hZ64 hZ65 hG16 hZ53 hZ54 hZ55 hY61 hY0 hY1
    refine wp_region_held_drew (S := fun w' => w'.cell? ⟨R, 3, none⟩ = some (.int .i64 f) ∧ w'.cell? ⟨R, 4, none⟩ = some (.int .i64 t) ∧ w'.cell? ⟨R, 5, none⟩ = some (.int .i64 u) ∧ w'.cell? ⟨G, 1, none⟩ = some (.slice (some ⟨g3, 0, none⟩) K cp2) ∧ w'.cell? ⟨g3, u * 7, none⟩ = some (.int .i64 2) ∧ w'.cell? ⟨g3, u * 7 + 3, none⟩ = some (.int .i64 fu) ∧ w'.cell? ⟨g3, u * 7 + 4, none⟩ = some (.int .i64 tu)) (by kernel_rfl) ?hS9 (fun hHeld => ?_)
    case hS9 => exact HS15.out _ (Below.refl _ _).drew
    refine wpAnyH_take (i := 0) (v := ?_) rfl (by kernel_rfl) (by kernel_rfl) (by kernel_rfl) (fun _ _ _ h => h) (Or.inl ⟨by rfl, ?hy10⟩) (by assumption) ?ty10
    case hy10 => (intro w5 hSw; obtain ⟨e1, e2, e3, e4, e5, e6, e7⟩ := hSw; go_simp; all_goals with_reducible rfl)
    simp only [Act.put, List.getElem_toArray, List.getElem_cons_zero, List.setIfInBounds_toArray, List.set_cons_zero, List.set_cons_succ]
    refine wpAnyH_take (i := 1) (v := ?_) rfl (by kernel_rfl) (by kernel_rfl) (by kernel_rfl) (fun _ _ _ h => h) (Or.inl ⟨by rfl, ?hy11⟩) (by assumption) ?ty11
    case hy11 => (intro w5 hSw; obtain ⟨e1, e2, e3, e4, e5, e6, e7⟩ := hSw; go_simp; all_goals with_reducible rfl)
    simp only [Act.put, List.getElem_toArray, List.getElem_cons_zero, List.getElem_cons_succ, List.setIfInBounds_toArray, List.set_cons_zero, List.set_cons_succ]
    refine wpAnyH_take (i := 2) (v := .bool false) rfl (by kernel_rfl) (by kernel_rfl) (by kernel_rfl) (fun _ _ _ h => h) (Or.inl ⟨by rfl, ?hy12⟩) (by assumption) ?ty12
    case hy12 => (intro w5 hSw; obtain ⟨e1, e2, e3, e4, e5, e6, e7⟩ := hSw; go_simp; first | (simp; done) | omega | (simp; omega) | (all_goals with_reducible rfl))
    simp only [Act.put, List.getElem_toArray, List.getElem_cons_zero, List.getElem_cons_succ, List.setIfInBounds_toArray, List.set_cons_zero, List.set_cons_succ]
    refine wpAnyH_take (i := 3) (v := ?_) rfl (by kernel_rfl) (by kernel_rfl) (by kernel_rfl) (fun _ _ _ h => h) (Or.inl ⟨by rfl, ?hy13⟩) (by assumption) ?ty13
    case hy13 => (intro w5 hSw; obtain ⟨e1, e2, e3, e4, e5, e6, e7⟩ := hSw; go_simp; all_goals with_reducible rfl)
    simp only [Act.put, List.getElem_toArray, List.getElem_cons_zero, List.getElem_cons_succ, List.setIfInBounds_toArray, List.set_cons_zero, List.set_cons_succ]
    refine wpAnyH_take (i := 4) (v := ?_) rfl (by kernel_rfl) (by kernel_rfl) (by kernel_rfl) (fun _ _ _ h => h) (Or.inl ⟨by rfl, ?hy14⟩) (by assumption) ?ty14
    case hy14 => (intro w5 hSw; obtain ⟨e1, e2, e3, e4, e5, e6, e7⟩ := hSw; go_simp; all_goals with_reducible rfl)
    simp only [Act.put, List.getElem_toArray, List.getElem_cons_zero, List.getElem_cons_succ, List.setIfInBounds_toArray, List.set_cons_zero, List.set_cons_succ]
    refine wpAnyH_take (i := 5) (v := ?_) rfl (by kernel_rfl) (by kernel_rfl) (by kernel_rfl) (fun _ _ _ h => h) (Or.inl ⟨by rfl, ?hy15⟩) (by assumption) ?ty15
    case hy15 => (intro w5 hSw; obtain ⟨e1, e2, e3, e4, e5, e6, e7⟩ := hSw; go_simp; all_goals with_reducible rfl)
    simp only [Act.put, List.getElem_toArray, List.getElem_cons_zero, List.getElem_cons_succ, List.setIfInBounds_toArray, List.set_cons_zero, List.set_cons_succ]
    refine wpAnyH_take (i := 6) (v := ?_) rfl (by kernel_rfl) (by kernel_rfl) (by kernel_rfl) (fun _ _ _ h => h) (Or.inl ⟨by rfl, ?hy16⟩) (by assumption) ?ty16
    case hy16 => (intro w5 hSw; obtain ⟨e1, e2, e3, e4, e5, e6, e7⟩ := hSw; go_simp; all_goals with_reducible rfl)
    simp only [Act.put, List.getElem_toArray, List.getElem_cons_zero, List.getElem_cons_succ, List.setIfInBounds_toArray, List.set_cons_zero, List.set_cons_succ]
    refine wpAnyH_take (i := 7) (v := .bool false) rfl (by kernel_rfl) (by kernel_rfl) (by kernel_rfl) (fun _ _ _ h => h) (Or.inl ⟨by rfl, ?hy17⟩) (by assumption) ?ty17
    case hy17 => (intro w5 hSw; obtain ⟨e1, e2, e3, e4, e5, e6, e7⟩ := hSw; go_simp; first | (simp; done) | omega | (simp; omega) | (all_goals with_reducible rfl))
    simp only [Act.put, List.getElem_toArray, List.getElem_cons_zero, List.getElem_cons_succ, List.setIfInBounds_toArray, List.set_cons_zero, List.set_cons_succ]
    refine wpAnyH_take (i := 8) (v := ?_) rfl (by kernel_rfl) (by kernel_rfl) (by kernel_rfl) (fun _ _ _ h => h) (Or.inl ⟨by rfl, ?hy18⟩) (by assumption) ?ty18
    case hy18 => (intro w5 hSw; obtain ⟨e1, e2, e3, e4, e5, e6, e7⟩ := hSw; go_simp; all_goals with_reducible rfl)
    simp only [Act.put, List.getElem_toArray, List.getElem_cons_zero, List.getElem_cons_succ, List.setIfInBounds_toArray, List.set_cons_zero, List.set_cons_succ]
    refine wpAnyH_take (i := 9) (v := ?_) rfl (by kernel_rfl) (by kernel_rfl) (by kernel_rfl) (fun _ _ _ h => h) (Or.inl ⟨by rfl, ?hy19⟩) (by assumption) ?ty19
    case hy19 => (intro w5 hSw; obtain ⟨e1, e2, e3, e4, e5, e6, e7⟩ := hSw; go_simp; all_goals with_reducible rfl)
    simp only [Act.put, List.getElem_toArray, List.getElem_cons_zero, List.getElem_cons_succ, List.setIfInBounds_toArray, List.set_cons_zero, List.set_cons_succ]
    refine wpAnyH_take (i := 10) (v := ?_) rfl (by kernel_rfl) (by kernel_rfl) (by kernel_rfl) (fun _ _ _ h => h) (Or.inl ⟨by rfl, ?hy20⟩) (by assumption) ?ty20
    case hy20 => (intro w5 hSw; obtain ⟨e1, e2, e3, e4, e5, e6, e7⟩ := hSw; go_simp; all_goals with_reducible rfl)
    simp only [Act.put, List.getElem_toArray, List.getElem_cons_zero, List.getElem_cons_succ, List.setIfInBounds_toArray, List.set_cons_zero, List.set_cons_succ]
    refine wpAnyH_take (i := 11) (v := ?_) rfl (by kernel_rfl) (by kernel_rfl) (by kernel_rfl) (fun _ _ _ h => h) (Or.inl ⟨by rfl, ?hy21⟩) (by assumption) ?ty21
    case hy21 => (intro w5 hSw; obtain ⟨e1, e2, e3, e4, e5, e6, e7⟩ := hSw; go_simp; all_goals with_reducible rfl)
    simp only [Act.put, List.getElem_toArray, List.getElem_cons_zero, List.getElem_cons_succ, List.setIfInBounds_toArray, List.set_cons_zero, List.set_cons_succ]
    refine wpAnyH_take (i := 12) (v := ?_) rfl (by kernel_rfl) (by kernel_rfl) (by kernel_rfl) (fun _ _ _ h => h) (Or.inl ⟨by rfl, ?hy22⟩) (by assumption) ?ty22
    case hy22 => (intro w5 hSw; obtain ⟨e1, e2, e3, e4, e5, e6, e7⟩ := hSw; go_simp; all_goals with_reducible rfl)
    simp only [Act.put, List.getElem_toArray, List.getElem_cons_zero, List.getElem_cons_succ, List.setIfInBounds_toArray, List.set_cons_zero, List.set_cons_succ]
    refine wpAnyH_take (i := 13) (v := ?_) rfl (by kernel_rfl) (by kernel_rfl) (by kernel_rfl) (fun _ _ _ h => h) (Or.inl ⟨by rfl, ?hy23⟩) (by assumption) ?ty23
    case hy23 => (intro w5 hSw; obtain ⟨e1, e2, e3, e4, e5, e6, e7⟩ := hSw; go_simp; all_goals with_reducible rfl)
    simp only [Act.put, List.getElem_toArray, List.getElem_cons_zero, List.getElem_cons_succ, List.setIfInBounds_toArray, List.set_cons_zero, List.set_cons_succ]
    refine wpAnyH_take (i := 14) (v := ?_) rfl (by kernel_rfl) (by kernel_rfl) (by kernel_rfl) (fun _ _ _ h => h) (Or.inl ⟨by rfl, ?hy24⟩) (by assumption) ?ty24
    case hy24 => (intro w5 hSw; obtain ⟨e1, e2, e3, e4, e5, e6, e7⟩ := hSw; go_simp; all_goals with_reducible rfl)
    simp only [Act.put, List.getElem_toArray, List.getElem_cons_zero, List.getElem_cons_succ, List.setIfInBounds_toArray, List.set_cons_zero, List.set_cons_succ]
    refine wpAnyH_take (i := 15) (v := ?_) rfl (by kernel_rfl) (by kernel_rfl) (by kernel_rfl) (fun _ _ _ h => h) (Or.inl ⟨by rfl, ?hy25⟩) (by assumption) ?ty25
    case hy25 => (intro w5 hSw; obtain ⟨e1, e2, e3, e4, e5, e6, e7⟩ := hSw; go_simp; all_goals with_reducible rfl)
    simp only [Act.put, List.getElem_toArray, List.getElem_cons_zero, List.getElem_cons_succ, List.setIfInBounds_toArray, List.set_cons_zero, List.set_cons_succ]
    refine wpAnyH_take (i := 16) (v := ?_) rfl (by kernel_rfl) (by kernel_rfl) (by kernel_rfl) (fun _ _ _ h => h) (Or.inl ⟨by rfl, ?hy26⟩) (by assumption) ?ty26
    case hy26 => (intro w5 hSw; obtain ⟨e1, e2, e3, e4, e5, e6, e7⟩ := hSw; go_simp; all_goals with_reducible rfl)
    simp only [Act.put, List.getElem_toArray, List.getElem_cons_zero, List.getElem_cons_succ, List.setIfInBounds_toArray, List.set_cons_zero, List.set_cons_succ]
    refine wpAnyH_take (i := 17) (v := ?_) rfl (by kernel_rfl) (by kernel_rfl) (by kernel_rfl) (fun _ _ _ h => h) (Or.inl ⟨by rfl, ?hy27⟩) (by assumption) ?ty27
    case hy27 => (intro w5 hSw; obtain ⟨e1, e2, e3, e4, e5, e6, e7⟩ := hSw; go_simp; all_goals with_reducible rfl)
    simp only [Act.put, List.getElem_toArray, List.getElem_cons_zero, List.getElem_cons_succ, List.setIfInBounds_toArray, List.set_cons_zero, List.set_cons_succ]
    refine wpAnyH_take (i := 18) (v := ?_) rfl (by kernel_rfl) (by kernel_rfl) (by kernel_rfl) (fun _ _ _ h => h) (Or.inl ⟨by rfl, ?hy28⟩) (by assumption) ?ty28
    case hy28 => (intro w5 hSw; obtain ⟨e1, e2, e3, e4, e5, e6, e7⟩ := hSw; go_simp; all_goals with_reducible rfl)
    simp only [Act.put, List.getElem_toArray, List.getElem_cons_zero, List.getElem_cons_succ, List.setIfInBounds_toArray, List.set_cons_zero, List.set_cons_succ]
    refine wpAnyH_take (i := 19) (v := .bool false) rfl (by kernel_rfl) (by kernel_rfl) (by kernel_rfl) (fun _ _ _ h => h) (Or.inl ⟨by rfl, ?hy29⟩) (by assumption) ?ty29
    case hy29 => (intro w5 hSw; obtain ⟨e1, e2, e3, e4, e5, e6, e7⟩ := hSw; go_simp; first | (simp; done) | omega | (simp; omega) | (all_goals with_reducible rfl))
    simp only [Act.put, List.getElem_toArray, List.getElem_cons_zero, List.getElem_cons_succ, List.setIfInBounds_toArray, List.set_cons_zero, List.set_cons_succ]
    refine wpAnyH_take (i := 20) (v := ?_) rfl (by kernel_rfl) (by kernel_rfl) (by kernel_rfl) (fun _ _ _ h => h) (Or.inl ⟨by rfl, ?hy30⟩) (by assumption) ?ty30
    case hy30 => (intro w5 hSw; obtain ⟨e1, e2, e3, e4, e5, e6, e7⟩ := hSw; go_simp; all_goals with_reducible rfl)
    simp only [Act.put, List.getElem_toArray, List.getElem_cons_zero, List.getElem_cons_succ, List.setIfInBounds_toArray, List.set_cons_zero, List.set_cons_succ]
    refine wpAnyH_take (i := 21) (v := ?_) rfl (by kernel_rfl) (by kernel_rfl) (by kernel_rfl) (fun _ _ _ h => h) (Or.inl ⟨by rfl, ?hy31⟩) (by assumption) ?ty31
    case hy31 => (intro w5 hSw; obtain ⟨e1, e2, e3, e4, e5, e6, e7⟩ := hSw; go_simp; all_goals with_reducible rfl)
    simp only [Act.put, List.getElem_toArray, List.getElem_cons_zero, List.getElem_cons_succ, List.setIfInBounds_toArray, List.set_cons_zero, List.set_cons_succ]
    refine wpAnyH_take (i := 22) (v := ?_) rfl (by kernel_rfl) (by kernel_rfl) (by kernel_rfl) (fun _ _ _ h => h) (Or.inl ⟨by rfl, ?hy32⟩) (by assumption) ?ty32
    case hy32 => (intro w5 hSw; obtain ⟨e1, e2, e3, e4, e5, e6, e7⟩ := hSw; go_simp; all_goals with_reducible rfl)
    simp only [Act.put, List.getElem_toArray, List.getElem_cons_zero, List.getElem_cons_succ, List.setIfInBounds_toArray, List.set_cons_zero, List.set_cons_succ]
    refine wpAnyH_take (i := 23) (v := ?_) rfl (by kernel_rfl) (by kernel_rfl) (by kernel_rfl) (fun _ _ _ h => h) (Or.inl ⟨by rfl, ?hy33⟩) (by assumption) ?ty33
    case hy33 => (intro w5 hSw; obtain ⟨e1, e2, e3, e4, e5, e6, e7⟩ := hSw; go_simp; all_goals with_reducible rfl)
    simp only [Act.put, List.getElem_toArray, List.getElem_cons_zero, List.getElem_cons_succ, List.setIfInBounds_toArray, List.set_cons_zero, List.set_cons_succ]
    refine wpAnyH_take (i := 24) (v := ?_) rfl (by kernel_rfl) (by kernel_rfl) (by kernel_rfl) (fun _ _ _ h => h) (Or.inl ⟨by rfl, ?hy34⟩) (by assumption) ?ty34
    case hy34 => (intro w5 hSw; obtain ⟨e1, e2, e3, e4, e5, e6, e7⟩ := hSw; go_simp; all_goals with_reducible rfl)
    simp only [Act.put, List.getElem_toArray, List.getElem_cons_zero, List.getElem_cons_succ, List.setIfInBounds_toArray, List.set_cons_zero, List.set_cons_succ]
    refine wpAnyH_take (i := 25) (v := ?_) rfl (by kernel_rfl) (by kernel_rfl) (by kernel_rfl) (fun _ _ _ h => h) (Or.inl ⟨by rfl, ?hy35⟩) (by assumption) ?ty35
    case hy35 => (intro w5 hSw; obtain ⟨e1, e2, e3, e4, e5, e6, e7⟩ := hSw; go_simp; all_goals with_reducible rfl)
    simp only [Act.put, List.getElem_toArray, List.getElem_cons_zero, List.getElem_cons_succ, List.setIfInBounds_toArray, List.set_cons_zero, List.set_cons_succ]
    refine wpAnyH_take (i := 26) (v := ?_) rfl (by kernel_rfl) (by kernel_rfl) (by kernel_rfl) (fun _ _ _ h => h) (Or.inl ⟨by rfl, ?hy36⟩) (by assumption) ?ty36
    case hy36 => (intro w5 hSw; obtain ⟨e1, e2, e3, e4, e5, e6, e7⟩ := hSw; go_simp; all_goals with_reducible rfl)
    simp only [Act.put, List.getElem_toArray, List.getElem_cons_zero, List.getElem_cons_succ, List.setIfInBounds_toArray, List.set_cons_zero, List.set_cons_succ]
    refine wpAnyH_take (i := 27) (v := ?_) rfl (by kernel_rfl) (by kernel_rfl) (by kernel_rfl) (fun _ _ _ h => h) (Or.inl ⟨by rfl, ?hy37⟩) (by assumption) ?ty37
    case hy37 => (intro w5 hSw; obtain ⟨e1, e2, e3, e4, e5, e6, e7⟩ := hSw; go_simp; all_goals with_reducible rfl)
    simp only [Act.put, List.getElem_toArray, List.getElem_cons_zero, List.getElem_cons_succ, List.setIfInBounds_toArray, List.set_cons_zero, List.set_cons_succ]
    refine wpAnyH_take (i := 28) (v := ?_) rfl (by kernel_rfl) (by kernel_rfl) (by kernel_rfl) (fun _ _ _ h => h) (Or.inl ⟨by rfl, ?hy38⟩) (by assumption) ?ty38
    case hy38 => (intro w5 hSw; obtain ⟨e1, e2, e3, e4, e5, e6, e7⟩ := hSw; go_simp; all_goals with_reducible rfl)
    simp only [Act.put, List.getElem_toArray, List.getElem_cons_zero, List.getElem_cons_succ, List.setIfInBounds_toArray, List.set_cons_zero, List.set_cons_succ]
    refine wpAnyH_take (i := 29) (v := ?_) rfl (by kernel_rfl) (by kernel_rfl) (by kernel_rfl) (fun _ _ _ h => h) (Or.inl ⟨by rfl, ?hy39⟩) (by assumption) ?ty39
    case hy39 => (intro w5 hSw; obtain ⟨e1, e2, e3, e4, e5, e6, e7⟩ := hSw; go_simp; all_goals with_reducible rfl)
    simp only [Act.put, List.getElem_toArray, List.getElem_cons_zero, List.getElem_cons_succ, List.setIfInBounds_toArray, List.set_cons_zero, List.set_cons_succ]
    refine wpAnyH_take (i := 30) (v := ?_) rfl (by kernel_rfl) (by kernel_rfl) (by kernel_rfl) (fun _ _ _ h => h) (Or.inl ⟨by rfl, ?hy40⟩) (by assumption) ?ty40
    case hy40 => (intro w5 hSw; obtain ⟨e1, e2, e3, e4, e5, e6, e7⟩ := hSw; go_simp; all_goals with_reducible rfl)
    simp only [Act.put, List.getElem_toArray, List.getElem_cons_zero, List.getElem_cons_succ, List.setIfInBounds_toArray, List.set_cons_zero, List.set_cons_succ]
    refine wpAnyH_take (i := 31) (v := .bool false) rfl (by kernel_rfl) (by kernel_rfl) (by kernel_rfl) (fun _ _ _ h => h) (Or.inl ⟨by rfl, ?hy41⟩) (by assumption) ?ty41
    case hy41 => (intro w5 hSw; obtain ⟨e1, e2, e3, e4, e5, e6, e7⟩ := hSw; go_simp; first | (simp; done) | omega | (simp; omega) | (all_goals with_reducible rfl))
    simp only [Act.put, List.getElem_toArray, List.getElem_cons_zero, List.getElem_cons_succ, List.setIfInBounds_toArray, List.set_cons_zero, List.set_cons_succ]
    refine wpAnyH_take (i := 32) (v := ?_) rfl (by kernel_rfl) (by kernel_rfl) (by kernel_rfl) (fun _ _ _ h => h) (Or.inl ⟨by rfl, ?hy42⟩) (by assumption) ?ty42
    case hy42 => (intro w5 hSw; obtain ⟨e1, e2, e3, e4, e5, e6, e7⟩ := hSw; go_simp; all_goals with_reducible rfl)
    simp only [Act.put, List.getElem_toArray, List.getElem_cons_zero, List.getElem_cons_succ, List.setIfInBounds_toArray, List.set_cons_zero, List.set_cons_succ]
    refine wpAnyH_take (i := 33) (v := ?_) rfl (by kernel_rfl) (by kernel_rfl) (by kernel_rfl) (fun _ _ _ h => h) (Or.inl ⟨by rfl, ?hy43⟩) (by assumption) ?ty43
    case hy43 => (intro w5 hSw; obtain ⟨e1, e2, e3, e4, e5, e6, e7⟩ := hSw; go_simp; all_goals with_reducible rfl)
    simp only [Act.put, List.getElem_toArray, List.getElem_cons_zero, List.getElem_cons_succ, List.setIfInBounds_toArray, List.set_cons_zero, List.set_cons_succ]
    refine wpAnyH_take (i := 34) (v := ?_) rfl (by kernel_rfl) (by kernel_rfl) (by kernel_rfl) (fun _ _ _ h => h) (Or.inl ⟨by rfl, ?hy44⟩) (by assumption) ?ty44
    case hy44 => (intro w5 hSw; obtain ⟨e1, e2, e3, e4, e5, e6, e7⟩ := hSw; go_simp; all_goals with_reducible rfl)
    simp only [Act.put, List.getElem_toArray, List.getElem_cons_zero, List.getElem_cons_succ, List.setIfInBounds_toArray, List.set_cons_zero, List.set_cons_succ]
    refine wpAnyH_take (i := 35) (v := ?_) rfl (by kernel_rfl) (by kernel_rfl) (by kernel_rfl) (fun _ _ _ h => h) (Or.inl ⟨by rfl, ?hy45⟩) (by assumption) ?ty45
    case hy45 => (intro w5 hSw; obtain ⟨e1, e2, e3, e4, e5, e6, e7⟩ := hSw; go_simp; all_goals with_reducible rfl)
    simp only [Act.put, List.getElem_toArray, List.getElem_cons_zero, List.getElem_cons_succ, List.setIfInBounds_toArray, List.set_cons_zero, List.set_cons_succ]
    refine wpAnyH_take (i := 36) (v := ?_) rfl (by kernel_rfl) (by kernel_rfl) (by kernel_rfl) (fun _ _ _ h => h) (Or.inl ⟨by rfl, ?hy46⟩) (by assumption) ?ty46
    case hy46 => (intro w5 hSw; obtain ⟨e1, e2, e3, e4, e5, e6, e7⟩ := hSw; go_simp; all_goals with_reducible rfl)
    simp only [Act.put, List.getElem_toArray, List.getElem_cons_zero, List.getElem_cons_succ, List.setIfInBounds_toArray, List.set_cons_zero, List.set_cons_succ]
    refine wpAnyH_take (i := 37) (v := ?_) rfl (by kernel_rfl) (by kernel_rfl) (by kernel_rfl) (fun _ _ _ h => h) (Or.inl ⟨by rfl, ?hy47⟩) (by assumption) ?ty47
    case hy47 => (intro w5 hSw; obtain ⟨e1, e2, e3, e4, e5, e6, e7⟩ := hSw; go_simp; all_goals with_reducible rfl)
    simp only [Act.put, List.getElem_toArray, List.getElem_cons_zero, List.getElem_cons_succ, List.setIfInBounds_toArray, List.set_cons_zero, List.set_cons_succ]
    refine wpAnyH_take (i := 38) (v := ?_) rfl (by kernel_rfl) (by kernel_rfl) (by kernel_rfl) (fun _ _ _ h => h) (Or.inl ⟨by rfl, ?hy48⟩) (by assumption) ?ty48
    case hy48 => (intro w5 hSw; obtain ⟨e1, e2, e3, e4, e5, e6, e7⟩ := hSw; go_simp; all_goals with_reducible rfl)
    simp only [Act.put, List.getElem_toArray, List.getElem_cons_zero, List.getElem_cons_succ, List.setIfInBounds_toArray, List.set_cons_zero, List.set_cons_succ]
    refine wpAnyH_take (i := 39) (v := ?_) rfl (by kernel_rfl) (by kernel_rfl) (by kernel_rfl) (fun _ _ _ h => h) (Or.inl ⟨by rfl, ?hy49⟩) (by assumption) ?ty49
    case hy49 => (intro w5 hSw; obtain ⟨e1, e2, e3, e4, e5, e6, e7⟩ := hSw; go_simp; all_goals with_reducible rfl)
    simp only [Act.put, List.getElem_toArray, List.getElem_cons_zero, List.getElem_cons_succ, List.setIfInBounds_toArray, List.set_cons_zero, List.set_cons_succ]
    refine wpAnyH_take (i := 40) (v := ?_) rfl (by kernel_rfl) (by kernel_rfl) (by kernel_rfl) (fun _ _ _ h => h) (Or.inl ⟨by rfl, ?hy50⟩) (by assumption) ?ty50
    case hy50 => (intro w5 hSw; obtain ⟨e1, e2, e3, e4, e5, e6, e7⟩ := hSw; go_simp; all_goals with_reducible rfl)
    simp only [Act.put, List.getElem_toArray, List.getElem_cons_zero, List.getElem_cons_succ, List.setIfInBounds_toArray, List.set_cons_zero, List.set_cons_succ]
    refine wpAnyH_take (i := 41) (v := .bool false) rfl (by kernel_rfl) (by kernel_rfl) (by kernel_rfl) (fun _ _ _ h => h) (Or.inl ⟨by rfl, ?hy51⟩) (by assumption) ?ty51
    case hy51 => (intro w5 hSw; obtain ⟨e1, e2, e3, e4, e5, e6, e7⟩ := hSw; go_simp; first | (simp; done) | omega | (simp; omega) | (all_goals with_reducible rfl))
    simp only [Act.put, List.getElem_toArray, List.getElem_cons_zero, List.getElem_cons_succ, List.setIfInBounds_toArray, List.set_cons_zero, List.set_cons_succ]
    refine wpAnyH_take (i := 42) (v := ?_) rfl (by kernel_rfl) (by kernel_rfl) (by kernel_rfl) (fun _ _ _ h => h) (Or.inl ⟨by rfl, ?hy52⟩) (by assumption) ?ty52
    case hy52 => (intro w5 hSw; obtain ⟨e1, e2, e3, e4, e5, e6, e7⟩ := hSw; go_simp; all_goals with_reducible rfl)
    simp only [Act.put, List.getElem_toArray, List.getElem_cons_zero, List.getElem_cons_succ, List.setIfInBounds_toArray, List.set_cons_zero, List.set_cons_succ]
    have hy0 : Below z6.heap.size z6 z6.drew := (Below.refl _ _).drew
    generalize z6.drew = x9 at *
    refine wpAnyH_done (by kernel_rfl) ?_ _
    have hbe : Below Z3.heap.size Z3 x9 := hb36.trans (hy0.mono hb36.size)
    clear hHeld
    go_wp2
    go_roundw
    case rel => exact ⟨k + 1, by omega, by go_num, hbe⟩
    case measure => simp [intOf]; omega
end Go.Proofs.YtaefomiofoakhaaGreatDoor
