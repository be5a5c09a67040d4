/- The law FnHeaders returns true at every input, and changes nothing that was there. -/
import Derived.Test.YtpgjichcpnjeoaaHdB
import Derived.Test.YtpgjichcpnjeoaaPkp
import Derived.Test.YtpgjichcpnjeoaaDri
import Derived.Test.YtpgjichcpnjeoaaDrh
import Derived.Test.YtpgjichcpnjeoaaDrw3aToBytI
import Derived.Deep.RegionHeld3
namespace Go.Proofs.Ytpgjichcpnjeoaa
open Go.RowKit

theorem fldH0 (x y z : Value) (w : World) : (Instr.field 27 (.agg #[x, y, z]) 0).run Try.prog w = .ok x w := by
  simp [Instr.field, asAgg, go_sem]
theorem fldH1 (x y z : Value) (w : World) : (Instr.field 27 (.agg #[x, y, z]) 1).run Try.prog w = .ok y w := by
  simp [Instr.field, asAgg, go_sem]
theorem fldY0 (x y : Value) (w : World) : (Instr.field 32 (.agg #[x, y]) 0).run Try.prog w = .ok x w := by
  simp [Instr.field, asAgg, go_sem]
theorem fldX0 (x y : Value) (w : World) : (Instr.field 37 (.agg #[x, y]) 0).run Try.prog w = .ok x w := by
  simp [Instr.field, asAgg, go_sem]
theorem fldX1 (x y : Value) (w : World) : (Instr.field 37 (.agg #[x, y]) 1).run Try.prog w = .ok y w := by
  simp [Instr.field, asAgg, go_sem]

theorem pk_ok (l : List FldP) : (pkV l).1 = 0 → fdF l = 0 ∧ (pkV l).2 = pkH l ++ [10] ∧ (pkV l).2.length ≤ 400 := by
  intro h
  unfold pkV at h ⊢
  split at h
  · rename_i hf
    split at h
    · simp at h
    · rename_i h4
      rw [if_pos hf, if_neg h4]
      exact ⟨hf, rfl, by simpa using h4⟩
  · rename_i hf
    exact absurd h hf
theorem ph_fit (d : List Nat) (h : d.length ≤ 1048576) : Fit (phV d).2.2 := by
  unfold phV
  split
  · intro p hp; simp at hp
  · split
    · intro p hp; simp at hp
    · rename_i fs k e
      split
      · exact (prH_fit _ 0 [] fs k (by simp) ⟨by simp, by simp⟩ e).1.fit h
      · intro p hp; simp at hp
set_option maxHeartbeats 60000000 in
set_option maxRecDepth 100000 in
theorem walkHeaders (a : Option Addr) (n cap : Nat) (l : List Nat) (w : World) (hl : l.length = n) (hr : Rd w a l) (hB : IsB l) :
    Calls Try.prog 3 #[.slice a n cap] w fun e w' => e = .returned (.bool true) ∧ Below w.heap.size w w' := by
  by_cases hbig : 1048576 < n
  · go_enter Try.func3, Try.ntmps3
    go_wp2_with fail
    refine (lwBig_any a n cap w).mono ?_
    rintro e w1 ⟨rfl, rfl⟩
    rw [decide_eq_true (by omega)]
    go_wp2
    go_ret
    exact ⟨rfl, Below.refl _ _⟩
  · have fH0 := fldH0
    have fH1 := fldH1
    have fY0 := fldY0
    have fX0 := fldX0
    have fX1 := fldX1
    go_enter Try.func3, Try.ntmps3
    go_wp2_with fail
    refine (lwBig_any a n cap w).mono ?_
    rintro e w1 ⟨rfl, rfl⟩
    rw [decide_eq_false (by omega)]
    go_wp2_with fail
    refine (drawParseHeader_any a n cap l w hl hr hB (by omega)).mono ?_
    rintro e w1 ⟨a1, n1, c1, d, rfl, hl1, hc1, hn1, hBd, hrd1, hsh1, hb1⟩
    have HPI := parseHeader_any a1 n1 c1 d w1 hl1 hrd1 hBd hc1 hsh1
    have HPS : Hid (∀ w, Rd w a1 d → Calls Try.prog 8 #[.slice a1 n1 c1] w fun e w' => HdrEnd (phV d) w e w') := fun w h => specParseHeader_any a1 n1 c1 d w hl1 h hBd hc1
    have HPF : Hid ((phV d).1 = 0 → fdF (phV d).2.2 = 0) := ph_fault d
    have hplc : (phV d).2.1 ≤ n1 := by rw [← hl1]; exact ph_place d
    have HFN : Hid ((phV d).2.2.length ≤ 1048576) := phV_few d
    have HFT : Hid (Fit (phV d).2.2) := ph_fit d (by omega)
    generalize phV d = P at *
    obtain ⟨pc, k, fs⟩ := P
    simp only at HPF hplc HFN HFT
    clear hBd hsh1 hl1
    obtain ⟨N, hN⟩ : ∃ N, fs.length = N := ⟨_, rfl⟩
    have HN : Hid (fs.length = N) := hN
    rw [hN] at HFN
    clear hN
    go_wp2_with fail
    refine HPI.mono ?_
    rintro e w2 ⟨v2, rfl, hown2, hb2⟩
    simp only at hown2 ⊢
    obtain ⟨b2, c2, hv, -, -⟩ := hown2.form
    rw [HN.out] at hv
    rw [hv] at hown2 ⊢
    clear hv
    have hbA : Below w2.heap.size w2 (w2.alloc (.cells #[.int .i64 pc, .int .i64 (k : Int), .slice b2 N c2] 27)) := (Below.refl _ _).alloc (Nat.le_refl _) _
    have hX2 : Below w1.heap.size w1 (w2.alloc (.cells #[.int .i64 pc, .int .i64 (k : Int), .slice b2 N c2] 27)) := hb2.trans (hbA.mono hb2.size)
    have HB2 : Hid (Below w.heap.size w (w2.alloc (.cells #[.int .i64 pc, .int .i64 (k : Int), .slice b2 N c2] 27))) := hb1.trans (hX2.mono hb1.size)
    have hf2 := hown2.rd.2.below hbA
    have hrW := hrd1.below hX2
    obtain ⟨⟨k0, k1, k2⟩, -, -, -⟩ := res_block3 (w := w2) (wr := w2.alloc (.cells #[.int .i64 pc, .int .i64 (k : Int), .slice b2 N c2] 27)) rfl (Below.refl _ _)
    have hsW : (w2.alloc (.cells #[.int .i64 pc, .int .i64 (k : Int), .slice b2 N c2] 27)).heap.size = w2.heap.size + 1 := by simp
    clear hb1 hb2 hX2 HPI hown2 hbA hrd1
    go_wp2_with fail
    generalize w2.alloc (.cells #[.int .i64 pc, .int .i64 (k : Int), .slice b2 N c2] 27) = W at *
    generalize w2.heap.size = g at *
    have hgg : g < W.heap.size := by omega
    have hk0 : ¬ (k : Int) < 0 := by omega
    have hkn : ¬ (n1 : Int) < (k : Int) := by omega
    have HFF : Hid (pc = 0 → ∀ w, RdF w b2 fs → Calls Try.prog 9 #[.slice b2 N c2] w fun e w' => e = .returned (.int .i64 0) ∧ Below w.heap.size w w') := fun h0 w h1 => by
      have h := fieldsFault_any b2 N c2 fs w HN.out h1 HFN.out HFT.out
      rw [HPF.out h0] at h; exact h
    clear HPF HFT HFN hplc
    by_cases hd0 : pc = 0
    · subst hd0
      refine wp_region_held_drew (S := fun w' => w'.cell? ⟨g, 0, none⟩ = some (.int .i64 0) ∧ w'.cell? ⟨g, 1, none⟩ = some (.int .i64 (k : Int)) ∧ w'.cell? ⟨g, 2, none⟩ = some (.slice b2 N c2)) (by kernel_rfl) ?hS1 (fun hHeld => ?_)
      case hS1 => exact ⟨k0, k1, k2⟩
      refine wpAnyH_take (i := 0) (v := ?_) rfl (by kernel_rfl) (by kernel_rfl) (by kernel_rfl) (fun _ _ _ h => h) (Or.inl ⟨by rfl, ?hy2⟩) (by assumption) ?ty2
      case hy2 => (intro w hSw; (try dsimp only at hSw); go_simp; all_goals with_reducible rfl)
      simp only [Act.put, List.getElem_toArray, List.getElem_cons_zero, List.setIfInBounds_toArray, List.set_cons_zero, List.set_cons_succ]
      refine wpAnyH_take (i := 1) (v := ?_) rfl (by kernel_rfl) (by kernel_rfl) (by kernel_rfl) (fun _ _ _ h => h) (Or.inl ⟨by rfl, ?hy3⟩) (by assumption) ?ty3
      case hy3 => (intro w hSw; (try dsimp only at hSw); go_simp; all_goals with_reducible rfl)
      simp only [Act.put, List.getElem_toArray, List.getElem_cons_zero, List.getElem_cons_succ, List.setIfInBounds_toArray, List.set_cons_zero, List.set_cons_succ]
      refine wpAnyH_take (i := 2) (v := ?_) rfl (by kernel_rfl) (by kernel_rfl) (by kernel_rfl) (fun _ _ _ h => h) (Or.inl ⟨by rfl, ?hy4⟩) (by assumption) ?ty4
      case hy4 => (intro w hSw; (try dsimp only at hSw); go_simp; all_goals with_reducible rfl)
      simp only [Act.put, List.getElem_toArray, List.getElem_cons_zero, List.getElem_cons_succ, List.setIfInBounds_toArray, List.set_cons_zero, List.set_cons_succ]
      refine wpAnyH_ready (rs := [3]) (by kernel_rfl) (by simp) ?_
      refine AllReadyH.cons rfl (fun K hK => ?_) AllReadyH.nil
      go_simp
      refine (HPS.out _ (by exact hrW)).mono ?_
      rintro e y1 ⟨v3, rfl, -, hbx⟩
      simp only
      have HW_y1 : Hid (Below W.heap.size W y1) := (Below.refl _ _).drew.trans hbx
      have hsS : (y1.cell? ⟨g, 0, none⟩ = some (.int .i64 0) ∧ y1.cell? ⟨g, 1, none⟩ = some (.int .i64 (k : Int)) ∧ y1.cell? ⟨g, 2, none⟩ = some (.slice b2 N c2)) := ⟨(HW_y1.out.cell (p := ⟨g, 0, none⟩) hgg).trans k0, (HW_y1.out.cell (p := ⟨g, 1, none⟩) hgg).trans k1, (HW_y1.out.cell (p := ⟨g, 2, none⟩) hgg).trans k2⟩
      refine hK.out _ _ hsS (fun hHeld => ?_)
      clear hK K
      clear hsS
      clear hbx
      refine wpAnyH_take (i := 4) (v := ?_) rfl (by kernel_rfl) (by kernel_rfl) (by kernel_rfl) (fun _ _ _ h => h) (Or.inl ⟨by rfl, ?hy5⟩) (by assumption) ?ty5
      case hy5 => (intro w hSw; (try dsimp only at hSw); go_simp; all_goals with_reducible rfl)
      simp only [Act.put, List.getElem_toArray, List.getElem_cons_zero, List.getElem_cons_succ, List.setIfInBounds_toArray, List.set_cons_zero, List.set_cons_succ]
      refine wpAnyH_take (i := 5) (v := .bool false) rfl (by kernel_rfl) (by kernel_rfl) (by kernel_rfl) (fun _ _ _ h => h) (Or.inl ⟨by rfl, ?hy6⟩) (by assumption) ?ty6
      case hy6 => (intro w hSw; (try dsimp only at hSw); go_simp; first | (simp; done) | (all_goals with_reducible rfl))
      simp only [Act.put, List.getElem_toArray, List.getElem_cons_zero, List.getElem_cons_succ, List.setIfInBounds_toArray, List.set_cons_zero, List.set_cons_succ]
      refine wpAnyH_take (i := 6) (v := ?_) rfl (by kernel_rfl) (by kernel_rfl) (by kernel_rfl) (fun _ _ _ h => h) (Or.inl ⟨by rfl, ?hy7⟩) (by assumption) ?ty7
      case hy7 => (intro w hSw; (try dsimp only at hSw); go_simp; all_goals with_reducible rfl)
      simp only [Act.put, List.getElem_toArray, List.getElem_cons_zero, List.getElem_cons_succ, List.setIfInBounds_toArray, List.set_cons_zero, List.set_cons_succ]
      refine wpAnyH_take (i := 7) (v := ?_) rfl (by kernel_rfl) (by kernel_rfl) (by kernel_rfl) (fun _ _ _ h => h) (Or.inl ⟨by rfl, ?hy8⟩) (by assumption) ?ty8
      case hy8 => (intro w hSw; (try dsimp only at hSw); go_simp; all_goals with_reducible rfl)
      simp only [Act.put, List.getElem_toArray, List.getElem_cons_zero, List.getElem_cons_succ, List.setIfInBounds_toArray, List.set_cons_zero, List.set_cons_succ]
      refine wpAnyH_take (i := 8) (v := ?_) rfl (by kernel_rfl) (by kernel_rfl) (by kernel_rfl) (fun _ _ _ h => h) (Or.inl ⟨by rfl, ?hy9⟩) (by assumption) ?ty9
      case hy9 => (intro w hSw; (try dsimp only at hSw); go_simp; all_goals with_reducible rfl)
      simp only [Act.put, List.getElem_toArray, List.getElem_cons_zero, List.getElem_cons_succ, List.setIfInBounds_toArray, List.set_cons_zero, List.set_cons_succ]
      refine wpAnyH_take (i := 9) (v := ?_) rfl (by kernel_rfl) (by kernel_rfl) (by kernel_rfl) (fun _ _ _ h => h) (Or.inl ⟨by rfl, ?hy10⟩) (by assumption) ?ty10
      case hy10 => (intro w hSw; (try dsimp only at hSw); go_simp; all_goals with_reducible rfl)
      simp only [Act.put, List.getElem_toArray, List.getElem_cons_zero, List.getElem_cons_succ, List.setIfInBounds_toArray, List.set_cons_zero, List.set_cons_succ]
      refine wpAnyH_ready (rs := [10]) (by kernel_rfl) (by simp) ?_
      refine AllReadyH.cons rfl (fun K hK => ?_) AllReadyH.nil
      go_simp
      refine (HPS.out _ (by exact hrW.below HW_y1.out)).mono ?_
      rintro e y2 ⟨v3, rfl, -, hbx⟩
      simp only
      have HW_y2 : Hid (Below W.heap.size W y2) := HW_y1.out.trans (hbx.mono HW_y1.out.size)
      have hsS : (y2.cell? ⟨g, 0, none⟩ = some (.int .i64 0) ∧ y2.cell? ⟨g, 1, none⟩ = some (.int .i64 (k : Int)) ∧ y2.cell? ⟨g, 2, none⟩ = some (.slice b2 N c2)) := ⟨(HW_y2.out.cell (p := ⟨g, 0, none⟩) hgg).trans k0, (HW_y2.out.cell (p := ⟨g, 1, none⟩) hgg).trans k1, (HW_y2.out.cell (p := ⟨g, 2, none⟩) hgg).trans k2⟩
      refine hK.out _ _ hsS (fun hHeld => ?_)
      clear hK K
      clear hsS
      clear hbx
      refine wpAnyH_take (i := 11) (v := ?_) rfl (by kernel_rfl) (by kernel_rfl) (by kernel_rfl) (fun _ _ _ h => h) (Or.inl ⟨by rfl, ?hy11⟩) (by assumption) ?ty11
      case hy11 => (intro w hSw; (try dsimp only at hSw); go_simp; all_goals with_reducible rfl)
      simp only [Act.put, List.getElem_toArray, List.getElem_cons_zero, List.getElem_cons_succ, List.setIfInBounds_toArray, List.set_cons_zero, List.set_cons_succ]
      refine wpAnyH_take (i := 12) (v := .bool false) rfl (by kernel_rfl) (by kernel_rfl) (by kernel_rfl) (fun _ _ _ h => h) (Or.inl ⟨by rfl, ?hy12⟩) (by assumption) ?ty12
      case hy12 => (intro w hSw; (try dsimp only at hSw); go_simp; first | (simp; done) | (all_goals with_reducible rfl))
      simp only [Act.put, List.getElem_toArray, List.getElem_cons_zero, List.getElem_cons_succ, List.setIfInBounds_toArray, List.set_cons_zero, List.set_cons_succ]
      refine wpAnyH_take (i := 13) (v := ?_) rfl (by kernel_rfl) (by kernel_rfl) (by kernel_rfl) (fun _ _ _ h => h) (Or.inl ⟨by rfl, ?hy13⟩) (by assumption) ?ty13
      case hy13 => (intro w hSw; (try dsimp only at hSw); go_simp; all_goals with_reducible rfl)
      simp only [Act.put, List.getElem_toArray, List.getElem_cons_zero, List.getElem_cons_succ, List.setIfInBounds_toArray, List.set_cons_zero, List.set_cons_succ]
      refine wpAnyH_take (i := 14) (v := ?_) rfl (by kernel_rfl) (by kernel_rfl) (by kernel_rfl) (fun _ _ _ h => h) (Or.inl ⟨by rfl, ?hy14⟩) (by assumption) ?ty14
      case hy14 => (intro w hSw; (try dsimp only at hSw); go_simp; all_goals with_reducible rfl)
      simp only [Act.put, List.getElem_toArray, List.getElem_cons_zero, List.getElem_cons_succ, List.setIfInBounds_toArray, List.set_cons_zero, List.set_cons_succ]
      refine wpAnyH_take (i := 15) (v := ?_) rfl (by kernel_rfl) (by kernel_rfl) (by kernel_rfl) (fun _ _ _ h => h) (Or.inl ⟨by rfl, ?hy15⟩) (by assumption) ?ty15
      case hy15 => (intro w hSw; (try dsimp only at hSw); go_simp; all_goals with_reducible rfl)
      simp only [Act.put, List.getElem_toArray, List.getElem_cons_zero, List.getElem_cons_succ, List.setIfInBounds_toArray, List.set_cons_zero, List.set_cons_succ]
      refine wpAnyH_take (i := 16) (v := ?_) rfl (by kernel_rfl) (by kernel_rfl) (by kernel_rfl) (fun _ _ _ h => h) (Or.inl ⟨by rfl, ?hy16⟩) (by assumption) ?ty16
      case hy16 => (intro w hSw; (try dsimp only at hSw); go_simp; all_goals with_reducible rfl)
      simp only [Act.put, List.getElem_toArray, List.getElem_cons_zero, List.getElem_cons_succ, List.setIfInBounds_toArray, List.set_cons_zero, List.set_cons_succ]
      refine wpAnyH_take (i := 17) (v := .bool false) rfl (by kernel_rfl) (by kernel_rfl) (by kernel_rfl) (fun _ _ _ h => h) (Or.inl ⟨by rfl, ?hy17⟩) (by assumption) ?ty17
      case hy17 => (intro w hSw; (try dsimp only at hSw); go_simp; first | (simp [hk0]; done) | (simp; done) | (all_goals with_reducible rfl))
      simp only [Act.put, List.getElem_toArray, List.getElem_cons_zero, List.getElem_cons_succ, List.setIfInBounds_toArray, List.set_cons_zero, List.set_cons_succ]
      refine wpAnyH_take (i := 18) (v := ?_) rfl (by kernel_rfl) (by kernel_rfl) (by kernel_rfl) (fun _ _ _ h => h) (Or.inl ⟨by rfl, ?hy18⟩) (by assumption) ?ty18
      case hy18 => (intro w hSw; (try dsimp only at hSw); go_simp; all_goals with_reducible rfl)
      simp only [Act.put, List.getElem_toArray, List.getElem_cons_zero, List.getElem_cons_succ, List.setIfInBounds_toArray, List.set_cons_zero, List.set_cons_succ]
      refine wpAnyH_take (i := 19) (v := ?_) rfl (by kernel_rfl) (by kernel_rfl) (by kernel_rfl) (fun _ _ _ h => h) (Or.inl ⟨by rfl, ?hy19⟩) (by assumption) ?ty19
      case hy19 => (intro w hSw; (try dsimp only at hSw); go_simp; all_goals with_reducible rfl)
      simp only [Act.put, List.getElem_toArray, List.getElem_cons_zero, List.getElem_cons_succ, List.setIfInBounds_toArray, List.set_cons_zero, List.set_cons_succ]
      refine wpAnyH_take (i := 20) (v := ?_) rfl (by kernel_rfl) (by kernel_rfl) (by kernel_rfl) (fun _ _ _ h => h) (Or.inl ⟨by rfl, ?hy20⟩) (by assumption) ?ty20
      case hy20 => (intro w hSw; (try dsimp only at hSw); go_simp; all_goals with_reducible rfl)
      simp only [Act.put, List.getElem_toArray, List.getElem_cons_zero, List.getElem_cons_succ, List.setIfInBounds_toArray, List.set_cons_zero, List.set_cons_succ]
      refine wpAnyH_take (i := 21) (v := ?_) rfl (by kernel_rfl) (by kernel_rfl) (by kernel_rfl) (fun _ _ _ h => h) (Or.inl ⟨by rfl, ?hy21⟩) (by assumption) ?ty21
      case hy21 => (intro w hSw; (try dsimp only at hSw); go_simp; all_goals with_reducible rfl)
      simp only [Act.put, List.getElem_toArray, List.getElem_cons_zero, List.getElem_cons_succ, List.setIfInBounds_toArray, List.set_cons_zero, List.set_cons_succ]
      refine wpAnyH_take (i := 22) (v := ?_) rfl (by kernel_rfl) (by kernel_rfl) (by kernel_rfl) (fun _ _ _ h => h) (Or.inl ⟨by rfl, ?hy22⟩) (by assumption) ?ty22
      case hy22 => (intro w hSw; (try dsimp only at hSw); go_simp; all_goals with_reducible rfl)
      simp only [Act.put, List.getElem_toArray, List.getElem_cons_zero, List.getElem_cons_succ, List.setIfInBounds_toArray, List.set_cons_zero, List.set_cons_succ]
      refine wpAnyH_take (i := 23) (v := ?_) rfl (by kernel_rfl) (by kernel_rfl) (by kernel_rfl) (fun _ _ _ h => h) (Or.inl ⟨by rfl, ?hy23⟩) (by assumption) ?ty23
      case hy23 => (intro w hSw; (try dsimp only at hSw); go_simp; all_goals with_reducible rfl)
      simp only [Act.put, List.getElem_toArray, List.getElem_cons_zero, List.getElem_cons_succ, List.setIfInBounds_toArray, List.set_cons_zero, List.set_cons_succ]
      refine wpAnyH_take (i := 24) (v := .bool false) rfl (by kernel_rfl) (by kernel_rfl) (by kernel_rfl) (fun _ _ _ h => h) (Or.inl ⟨by rfl, ?hy24⟩) (by assumption) ?ty24
      case hy24 => (intro w hSw; (try dsimp only at hSw); go_simp; first | (simp [hkn]; done) | (simp; done) | (all_goals with_reducible rfl))
      simp only [Act.put, List.getElem_toArray, List.getElem_cons_zero, List.getElem_cons_succ, List.setIfInBounds_toArray, List.set_cons_zero, List.set_cons_succ]
      refine wpAnyH_take (i := 25) (v := ?_) rfl (by kernel_rfl) (by kernel_rfl) (by kernel_rfl) (fun _ _ _ h => h) (Or.inl ⟨by rfl, ?hy25⟩) (by assumption) ?ty25
      case hy25 => (intro w hSw; (try dsimp only at hSw); go_simp; all_goals with_reducible rfl)
      simp only [Act.put, List.getElem_toArray, List.getElem_cons_zero, List.getElem_cons_succ, List.setIfInBounds_toArray, List.set_cons_zero, List.set_cons_succ]
      refine wpAnyH_take (i := 26) (v := ?_) rfl (by kernel_rfl) (by kernel_rfl) (by kernel_rfl) (fun _ _ _ h => h) (Or.inl ⟨by rfl, ?hy26⟩) (by assumption) ?ty26
      case hy26 => (intro w hSw; (try dsimp only at hSw); go_simp; all_goals with_reducible rfl)
      simp only [Act.put, List.getElem_toArray, List.getElem_cons_zero, List.getElem_cons_succ, List.setIfInBounds_toArray, List.set_cons_zero, List.set_cons_succ]
      refine wpAnyH_take (i := 27) (v := ?_) rfl (by kernel_rfl) (by kernel_rfl) (by kernel_rfl) (fun _ _ _ h => h) (Or.inl ⟨by rfl, ?hy27⟩) (by assumption) ?ty27
      case hy27 => (intro w hSw; (try dsimp only at hSw); go_simp; all_goals with_reducible rfl)
      simp only [Act.put, List.getElem_toArray, List.getElem_cons_zero, List.getElem_cons_succ, List.setIfInBounds_toArray, List.set_cons_zero, List.set_cons_succ]
      refine wpAnyH_take (i := 28) (v := ?_) rfl (by kernel_rfl) (by kernel_rfl) (by kernel_rfl) (fun _ _ _ h => h) (Or.inl ⟨by rfl, ?hy28⟩) (by assumption) ?ty28
      case hy28 => (intro w hSw; (try dsimp only at hSw); go_simp; all_goals with_reducible rfl)
      simp only [Act.put, List.getElem_toArray, List.getElem_cons_zero, List.getElem_cons_succ, List.setIfInBounds_toArray, List.set_cons_zero, List.set_cons_succ]
      refine wpAnyH_take (i := 29) (v := .bool true) rfl (by kernel_rfl) (by kernel_rfl) (by kernel_rfl) (fun _ _ _ h => h) (Or.inl ⟨by rfl, ?hy29⟩) (by assumption) ?ty29
      case hy29 => (intro w hSw; (try dsimp only at hSw); go_simp; first | (simp; done) | (all_goals with_reducible rfl))
      simp only [Act.put, List.getElem_toArray, List.getElem_cons_zero, List.getElem_cons_succ, List.setIfInBounds_toArray, List.set_cons_zero, List.set_cons_succ]
      refine wpAnyH_take (i := 30) (v := ?_) rfl (by kernel_rfl) (by kernel_rfl) (by kernel_rfl) (fun _ _ _ h => h) (Or.inl ⟨by rfl, ?hy30⟩) (by assumption) ?ty30
      case hy30 => (intro w hSw; (try dsimp only at hSw); go_simp; all_goals with_reducible rfl)
      simp only [Act.put, List.getElem_toArray, List.getElem_cons_zero, List.getElem_cons_succ, List.setIfInBounds_toArray, List.set_cons_zero, List.set_cons_succ]
      refine wpAnyH_take (i := 31) (v := ?_) rfl (by kernel_rfl) (by kernel_rfl) (by kernel_rfl) (fun _ _ _ h => h) (Or.inl ⟨by rfl, ?hy31⟩) (by assumption) ?ty31
      case hy31 => (intro w hSw; (try dsimp only at hSw); go_simp; all_goals with_reducible rfl)
      simp only [Act.put, List.getElem_toArray, List.getElem_cons_zero, List.getElem_cons_succ, List.setIfInBounds_toArray, List.set_cons_zero, List.set_cons_succ]
      refine wpAnyH_take (i := 32) (v := ?_) rfl (by kernel_rfl) (by kernel_rfl) (by kernel_rfl) (fun _ _ _ h => h) (Or.inl ⟨by rfl, ?hy32⟩) (by assumption) ?ty32
      case hy32 => (intro w hSw; (try dsimp only at hSw); go_simp; all_goals with_reducible rfl)
      simp only [Act.put, List.getElem_toArray, List.getElem_cons_zero, List.getElem_cons_succ, List.setIfInBounds_toArray, List.set_cons_zero, List.set_cons_succ]
      refine wpAnyH_ready (rs := [33]) (by kernel_rfl) (by simp) ?_
      refine AllReadyH.cons rfl (fun K hK => ?_) AllReadyH.nil
      go_simp
      refine (HFF.out rfl _ (by exact hf2.below HW_y2.out)).mono ?_
      rintro e y3 ⟨rfl, hbx⟩
      have HW_y3 : Hid (Below W.heap.size W y3) := HW_y2.out.trans (hbx.mono HW_y2.out.size)
      have hsS : (y3.cell? ⟨g, 0, none⟩ = some (.int .i64 0) ∧ y3.cell? ⟨g, 1, none⟩ = some (.int .i64 (k : Int)) ∧ y3.cell? ⟨g, 2, none⟩ = some (.slice b2 N c2)) := ⟨(HW_y3.out.cell (p := ⟨g, 0, none⟩) hgg).trans k0, (HW_y3.out.cell (p := ⟨g, 1, none⟩) hgg).trans k1, (HW_y3.out.cell (p := ⟨g, 2, none⟩) hgg).trans k2⟩
      refine hK.out _ _ hsS (fun hHeld => ?_)
      clear hK K
      clear hsS
      clear hbx
      refine wpAnyH_take (i := 34) (v := .bool false) rfl (by kernel_rfl) (by kernel_rfl) (by kernel_rfl) (fun _ _ _ h => h) (Or.inl ⟨by rfl, ?hy33⟩) (by assumption) ?ty33
      case hy33 => (intro w hSw; (try dsimp only at hSw); go_simp; first | (simp; done) | (all_goals with_reducible rfl))
      simp only [Act.put, List.getElem_toArray, List.getElem_cons_zero, List.getElem_cons_succ, List.setIfInBounds_toArray, List.set_cons_zero, List.set_cons_succ]
      refine wpAnyH_take (i := 35) (v := ?_) rfl (by kernel_rfl) (by kernel_rfl) (by kernel_rfl) (fun _ _ _ h => h) (Or.inl ⟨by rfl, ?hy34⟩) (by assumption) ?ty34
      case hy34 => (intro w hSw; (try dsimp only at hSw); go_simp; all_goals with_reducible rfl)
      simp only [Act.put, List.getElem_toArray, List.getElem_cons_zero, List.getElem_cons_succ, List.setIfInBounds_toArray, List.set_cons_zero, List.set_cons_succ]
      refine wpAnyH_take (i := 36) (v := ?_) rfl (by kernel_rfl) (by kernel_rfl) (by kernel_rfl) (fun _ _ _ h => h) (Or.inl ⟨by rfl, ?hy35⟩) (by assumption) ?ty35
      case hy35 => (intro w hSw; (try dsimp only at hSw); go_simp; all_goals with_reducible rfl)
      simp only [Act.put, List.getElem_toArray, List.getElem_cons_zero, List.getElem_cons_succ, List.setIfInBounds_toArray, List.set_cons_zero, List.set_cons_succ]
      refine wpAnyH_done (by kernel_rfl) ?_ _
      have HBF : Hid (Below w.heap.size w y3) := HB2.out.trans (HW_y3.out.mono HB2.out.size)
      clear hHeld HW_y1 HW_y2 HW_y3 HB2 HPS HFF hf2 k0 k1 k2 hgg hsW hrW hk0 hkn
      generalize y3 = wE at HBF ⊢
      go_wp2_with fail
      refine (drawPackHeader_any a n cap l _ hl (hr.below HBF.out) hB (by omega)).mono ?_
      rintro e w3 ⟨v3, ls, rfl, ho3, hk9, hD3, hb3⟩
      obtain ⟨ap, mc, hv, hmc, -⟩ := ho3.form
      obtain ⟨m, hm⟩ : ∃ m, ls.length = m := ⟨_, rfl⟩
      have HSL : Hid (ls.length = m) := hm
      rw [hm] at hk9 hv hmc
      subst hv
      clear hm
      have hrs := ho3.rd.2
      have HB3 : Hid (Below w.heap.size w w3) := HBF.out.trans (hb3.mono HBF.out.size)
      clear hb3 HBF ho3
      have HPK := packHeader_any ap m mc ls w3 HSL.out hrs (by omega) hD3.fit
      have HPS2 : Hid (∀ w, RdF w ap ls → Calls Try.prog 12 #[.slice ap m mc] w fun e w' => BytEnd (pkV ls) w e w') := fun w h => specPackHeader_any ap m mc ls w HSL.out h (by omega) hD3.fit
      have HBK : Hid ((pkV ls).1 = 0 → fdF ls = 0 ∧ (pkV ls).2 = pkH ls ++ [10] ∧ (pkV ls).2.length ≤ 400) := pk_ok ls
      generalize pkV ls = E at *
      obtain ⟨e0, et⟩ := E
      simp only at HBK
      obtain ⟨M, hM⟩ : ∃ M, et.length = M := ⟨_, rfl⟩
      have HM : Hid (et.length = M) := hM
      clear hM
      go_wp2_with fail
      refine HPK.mono ?_
      rintro e w4 ⟨v4, rfl, hown4, hb4⟩
      simp only at hown4 ⊢
      obtain ⟨b4, c4, hv, hc4, -⟩ := hown4.form
      rw [HM.out] at hv hc4
      rw [hv] at hown4 ⊢
      clear hv
      have hbA : Below w4.heap.size w4 (w4.alloc (.cells #[.int .i64 e0, .slice b4 M c4] 32)) := (Below.refl _ _).alloc (Nat.le_refl _) _
      have hX4 : Below w3.heap.size w3 (w4.alloc (.cells #[.int .i64 e0, .slice b4 M c4] 32)) := hb4.trans (hbA.mono hb4.size)
      have HB4 : Hid (Below w.heap.size w (w4.alloc (.cells #[.int .i64 e0, .slice b4 M c4] 32))) := HB3.out.trans (hX4.mono HB3.out.size)
      have hs4 := hrs.below hX4
      have hp4 := hown4.rd.2.below hbA
      obtain ⟨q0, q1, -, -⟩ := res_block (w := w4) (wr := w4.alloc (.cells #[.int .i64 e0, .slice b4 M c4] 32)) rfl (Below.refl _ _)
      have hsW4 : (w4.alloc (.cells #[.int .i64 e0, .slice b4 M c4] 32)).heap.size = w4.heap.size + 1 := by simp
      clear hb4 hX4 hrs HPK hbA HB3 hown4
      by_cases he0 : e0 = 0
      · subst he0
        obtain ⟨hfl, het, h400⟩ := HBK.out rfl
        have hM1 : 1 ≤ M := by rw [← HM.out, het]; simp
        have hM4 : M ≤ 400 := by rw [← HM.out]; exact h400
        have hM0 : (0 : Int) < (M : Int) := by omega
        have hBet : IsB et := by
          rw [het]; intro x hx
          rcases List.mem_append.1 hx with hx | hx
          · exact pkH_isB ls x hx
          · simp at hx; omega
        have HP7 : Hid (M < 400 → phV (et ++ [97]) = (0, M, ls)) := fun h => by
          have := ph_back hfl (by rw [← het, HM.out]; exact h)
          rw [← het, HM.out] at this; exact this
        have HFO0 : Hid (∀ i, i < m → ∀ w, RdF w ap ls → Calls Try.prog 13 #[.slice ap m mc, .string (nthF ls i).1] w fun e w' => ∃ tx, e = .returned (.agg #[.int .i64 0, .string tx]) ∧ Below w.heap.size w w') := fun i hi w h => by
          have hmem : nthF ls i ∈ ls := by rw [nthF_get (by rw [HSL.out]; exact hi)]; exact List.getElem_mem _
          refine (fieldOf_any ap m mc ls (nthF ls i).1 w HSL.out h (by omega) hD3.fit (hD3.fit _ hmem).1).mono ?_
          rintro e w' ⟨rfl, hb⟩
          rw [fo_self hfl (by rw [HSL.out]; exact hi)]
          exact ⟨_, rfl, hb⟩
        clear HBK hfl het h400 HPS2
        obtain ⟨g4, o4, rfl, hg4, hc4'⟩ := hp4.at_ (by rw [HM.out]; exact hM1)
        clear hp4
        have hE : Own ((w4.alloc (.cells #[.int .i64 0, .slice (some ⟨g4, o4, none⟩) M c4] 32)).alloc (.cells #[] 5)) (w4.heap.size + 1) (.slice (some ⟨w4.heap.size + 1, 0, none⟩) 0 0) [] := by
          have := Own.lit (w4.alloc (.cells #[.int .i64 0, .slice (some ⟨g4, o4, none⟩) M c4] 32)) (w4.heap.size + 1) (by rw [hsW4]; exact Nat.le_refl _) #[] [] rfl (by decide)
          rw [hsW4] at this; exact this
        have hbE : Below (w4.heap.size + 1) (w4.alloc (.cells #[.int .i64 0, .slice (some ⟨g4, o4, none⟩) M c4] 32)) ((w4.alloc (.cells #[.int .i64 0, .slice (some ⟨g4, o4, none⟩) M c4] 32)).alloc (.cells #[] 5)) := (Below.refl _ _).alloc (by rw [hsW4]; exact Nat.le_refl _) _
        have hnw : ∀ q, q < M → ((w4.alloc (.cells #[.int .i64 0, .slice (some ⟨g4, o4, none⟩) M c4] 32)).alloc (.cells #[] 5)).cell? ((⟨g4, o4, none⟩ : Addr).add q) = some (.int .u8 (nth et q : Int)) := fun q hq => by
          rw [Go.WideShapes.add_plain]
          exact (hbE.cell (p := ⟨g4, o4 + q, none⟩) (by rw [hsW4] at hg4; exact hg4)).trans (hc4' q (by rw [HM.out]; exact hq))
        have hzE : w4.heap.size + 1 ≤ ((w4.alloc (.cells #[.int .i64 0, .slice (some ⟨g4, o4, none⟩) M c4] 32)).alloc (.cells #[] 5)).heap.size := by rw [← hsW4]; exact hbE.size
        clear hc4'
        go_wp2_with (at_builtin; first
          | (refine wpList_app rfl _ _ rfl (w4.heap.size + 1) _ [] rfl hE ⟨g4, o4, none⟩ M c4 et rfl HM.out hnw (by simp; omega) hzE ?_; intro v5 w5 ho5 hb5; clear hE hnw; rw [List.nil_append] at ho5; have hb5' := hbE.trans hb5; clear hb5 hbE)
          | (refine wpList_app_new rfl _ _ rfl (w4.heap.size + 1) _ et rfl ho5 1 1 [97] rfl rfl rfl (by have := HM.out; omega) (by have := hb5'.size; omega) ?_; intro v6 w6 ho6 hb6; have hb6' := hb5'.trans hb6; clear ho5 hb5' hb6))
        generalize w4.alloc (.cells #[.int .i64 0, .slice (some ⟨g4, o4, none⟩) M c4] 32) = V0 at *
        generalize w4.heap.size = g6 at *
        have hg60 : g6 < V0.heap.size := by omega
        rw [← hsW4] at hb6'
        obtain ⟨a6, c6, rfl, hc6, hsh6⟩ := ho6.shape
        have hB6 : IsB (et ++ [97]) := fun x hx => by
          rcases List.mem_append.1 hx with hx | hx
          · exact hBet x hx
          · simp at hx; omega
        obtain ⟨n6, hn6⟩ : ∃ n6, (et ++ [97]).length = n6 := ⟨_, rfl⟩
        have hr6 := ho6.rd.2
        rw [hn6] at hc6 ⊢
        have HP6 := parseHeader_any a6 n6 c6 (et ++ [97]) w6 hn6 hr6 hB6 hc6 hsh6
        clear hn6 hr6
        have hs6 := hs4.below hb6'
        have hq6 := (hb6'.cell (p := ⟨g6, 1, none⟩) hg60).trans q1
        have hz6 := hb6'.size
        have HB6 : Hid (Below w.heap.size w w6) := HB4.out.trans (hb6'.mono HB4.out.size)
        clear ho6 hb6' HB4 hs4 q0 q1 hBet hB6
        by_cases hM400 : M < 400
        · rw [HP7.out hM400] at HP6
          have hMi : (M : Int) < 400 := by omega
          clear HP7
          refine HP6.mono ?_
          rintro e w7 ⟨v7, rfl, ho7, hb7⟩
          simp only at ho7 ⊢
          obtain ⟨b7, c7, hv, -, -⟩ := ho7.form
          rw [HSL.out] at hv
          rw [hv] at ho7 ⊢
          clear hv
          have hbA : Below w7.heap.size w7 ((w7.alloc (.cells #[.int .i64 0, .int .i64 (M : Int), .slice b7 m c7] 27))) := (Below.refl _ _).alloc (Nat.le_refl _) _
          have hX7 : Below w6.heap.size w6 ((w7.alloc (.cells #[.int .i64 0, .int .i64 (M : Int), .slice b7 m c7] 27))) := hb7.trans (hbA.mono hb7.size)
          have HB7 : Hid (Below w.heap.size w ((w7.alloc (.cells #[.int .i64 0, .int .i64 (M : Int), .slice b7 m c7] 27)))) := HB6.out.trans (hX7.mono HB6.out.size)
          have hs7 := hs6.below hX7
          have hf7 := ho7.rd.2.below hbA
          have hq7 := (hX7.cell (p := ⟨g6, 1, none⟩) (by show g6 < w6.heap.size; omega)).trans hq6
          obtain ⟨⟨i0, i1, i2⟩, -, -, -⟩ := res_block3 (w := w7) (wr := (w7.alloc (.cells #[.int .i64 0, .int .i64 (M : Int), .slice b7 m c7] 27))) rfl (Below.refl _ _)
          have hsW7 : ((w7.alloc (.cells #[.int .i64 0, .int .i64 (M : Int), .slice b7 m c7] 27))).heap.size = w7.heap.size + 1 := by simp
          have hz7 := hb7.size
          clear hb7 hX7 hs6 HP6 ho7 hbA HB6 hq6
          go_wp2_with fail
          generalize (w7.alloc (.cells #[.int .i64 0, .int .i64 (M : Int), .slice b7 m c7] 27)) = Y at *
          generalize w7.heap.size = g7 at *
          have m6 : g6 < Y.heap.size := by omega
          have m7 : g7 < Y.heap.size := by omega
          go_wp2
          go_loopw [8] (fun v wr => ∃ i : Nat, i ≤ m ∧ v = .int .i64 i ∧ Below Y.heap.size Y wr) (fun v _ => m - (intOf v).toNat)
          case atStart => exact ⟨0, Nat.zero_le _, rfl, Below.refl _ _⟩
          case round =>
            obtain ⟨i, hi, rfl, hbel⟩ := hrel
            have hq1 := (hbel.cell (p := ⟨g6, 1, none⟩) m6).trans hq7
            by_cases him0 : i < m
            · have him : (i : Int) < (m : Int) := by omega
              obtain ⟨bb, ob, rfl, hbb, hcb⟩ := hf7.at_ (by rw [HSL.out]; omega)
              obtain ⟨ba, oa, rfl, hba, hca⟩ := hs7.at_ (by rw [HSL.out]; omega)
              have s0 := (hbel.cell (p := ⟨g7, 2, none⟩) m7).trans i2
              have s1 := (hbel.cell (p := ⟨bb, ob + i * 2, none⟩) hbb).trans (hcb i (by rw [HSL.out]; exact him0)).1
              have s2 := (hbel.cell (p := ⟨bb, ob + i * 2 + 1, none⟩) hbb).trans (hcb i (by rw [HSL.out]; exact him0)).2
              have s3 := (hbel.cell (p := ⟨ba, oa + i * 2, none⟩) hba).trans (hca i (by rw [HSL.out]; exact him0)).1
              have s4 := (hbel.cell (p := ⟨ba, oa + i * 2 + 1, none⟩) hba).trans (hca i (by rw [HSL.out]; exact him0)).2
              have hlR := hs7.below hbel
              have HFO : Hid (∀ w, RdF w (some ⟨ba, oa, none⟩) ls → Calls Try.prog 13 #[.slice (some ⟨ba, oa, none⟩) m mc, .string (nthF ls i).1] w fun e w' => ∃ tx, e = .returned (.agg #[.int .i64 0, .string tx]) ∧ Below w.heap.size w w') := fun w h => HFO0.out i him0 w h
              have hzr := hbel.size
              have mb : bb < wr.heap.size := by omega
              have ma : ba < wr.heap.size := by omega
              have m7r : g7 < wr.heap.size := by omega
              clear hcb hca HFO0
              generalize nthF ls i = xy at *
              obtain ⟨x, y⟩ := xy
              simp only at s1 s2 s3 s4 HFO
              go_wp2_with fail
              refine wp_region_held_drew (S := fun w' => w'.cell? ⟨g7, 2, none⟩ = some (.slice (some ⟨bb, ob, none⟩) m c7) ∧ w'.cell? ⟨bb, ob + i * 2, none⟩ = some (.string x) ∧ w'.cell? ⟨bb, ob + i * 2 + 1, none⟩ = some (.string y) ∧ w'.cell? ⟨ba, oa + i * 2, none⟩ = some (.string x) ∧ w'.cell? ⟨ba, oa + i * 2 + 1, none⟩ = some (.string y)) (by kernel_rfl) ?hS6001 (fun hHeld => ?_)
              case hS6001 => exact ⟨s0, s1, s2, s3, s4⟩
              refine wpAnyH_take (i := 0) (v := ?_) rfl (by kernel_rfl) (by kernel_rfl) (by kernel_rfl) (fun _ _ _ h => h) (Or.inl ⟨by rfl, ?hy6002⟩) (by assumption) ?ty6002
              case hy6002 => (intro w hSw; (try dsimp only at hSw); go_simp; all_goals with_reducible rfl)
              simp only [Act.put, List.getElem_toArray, List.getElem_cons_zero, List.setIfInBounds_toArray, List.set_cons_zero, List.set_cons_succ]
              refine wpAnyH_take (i := 1) (v := ?_) rfl (by kernel_rfl) (by kernel_rfl) (by kernel_rfl) (fun _ _ _ h => h) (Or.inl ⟨by rfl, ?hy6003⟩) (by assumption) ?ty6003
              case hy6003 => (intro w hSw; (try dsimp only at hSw); go_simp; all_goals with_reducible rfl)
              simp only [Act.put, List.getElem_toArray, List.getElem_cons_zero, List.getElem_cons_succ, List.setIfInBounds_toArray, List.set_cons_zero, List.set_cons_succ]
              refine wpAnyH_take (i := 2) (v := ?_) rfl (by kernel_rfl) (by kernel_rfl) (by kernel_rfl) (fun _ _ _ h => h) (Or.inl ⟨by rfl, ?hy6004⟩) (by assumption) ?ty6004
              case hy6004 => (intro w hSw; (try dsimp only at hSw); go_simp; all_goals with_reducible rfl)
              simp only [Act.put, List.getElem_toArray, List.getElem_cons_zero, List.getElem_cons_succ, List.setIfInBounds_toArray, List.set_cons_zero, List.set_cons_succ]
              refine wpAnyH_take (i := 3) (v := .pointer (some ⟨bb, ob + i * 2, none⟩)) rfl (by kernel_rfl) (by kernel_rfl) (by kernel_rfl) (fun _ _ _ h => h) (Or.inl ⟨by rfl, ?hy6005⟩) (by assumption) ?ty6005
              case hy6005 => (intro w hSw; (try dsimp only at hSw); go_simp; first | (simp [him]; done) | (all_goals first | (with_reducible rfl) | omega))
              simp only [Act.put, List.getElem_toArray, List.getElem_cons_zero, List.getElem_cons_succ, List.setIfInBounds_toArray, List.set_cons_zero, List.set_cons_succ]
              refine wpAnyH_take (i := 4) (v := .agg #[.string x, .string y]) rfl (by kernel_rfl) (by kernel_rfl) (by kernel_rfl) (fun _ _ _ h => h) (Or.inl ⟨by rfl, ?hy6006⟩) (by assumption) ?ty6006
              case hy6006 => (intro w hSw; (try dsimp only at hSw); go_simp; first | (simp [hSw]; done) | (all_goals with_reducible rfl))
              simp only [Act.put, List.getElem_toArray, List.getElem_cons_zero, List.getElem_cons_succ, List.setIfInBounds_toArray, List.set_cons_zero, List.set_cons_succ]
              refine wpAnyH_take (i := 5) (v := ?_) rfl (by kernel_rfl) (by kernel_rfl) (by kernel_rfl) (fun _ _ _ h => h) (Or.inl ⟨by rfl, ?hy6007⟩) (by assumption) ?ty6007
              case hy6007 => (intro w hSw; (try dsimp only at hSw); go_simp; all_goals with_reducible rfl)
              simp only [Act.put, List.getElem_toArray, List.getElem_cons_zero, List.getElem_cons_succ, List.setIfInBounds_toArray, List.set_cons_zero, List.set_cons_succ]
              refine wpAnyH_take (i := 6) (v := ?_) rfl (by kernel_rfl) (by kernel_rfl) (by kernel_rfl) (fun _ _ _ h => h) (Or.inl ⟨by rfl, ?hy6008⟩) (by assumption) ?ty6008
              case hy6008 => (intro w hSw; (try dsimp only at hSw); go_simp; all_goals with_reducible rfl)
              simp only [Act.put, List.getElem_toArray, List.getElem_cons_zero, List.getElem_cons_succ, List.setIfInBounds_toArray, List.set_cons_zero, List.set_cons_succ]
              refine wpAnyH_take (i := 7) (v := .pointer (some ⟨ba, oa + i * 2, none⟩)) rfl (by kernel_rfl) (by kernel_rfl) (by kernel_rfl) (fun _ _ _ h => h) (Or.inl ⟨by rfl, ?hy6009⟩) (by assumption) ?ty6009
              case hy6009 => (intro w hSw; (try dsimp only at hSw); go_simp; first | (simp [him]; done) | (all_goals first | (with_reducible rfl) | omega))
              simp only [Act.put, List.getElem_toArray, List.getElem_cons_zero, List.getElem_cons_succ, List.setIfInBounds_toArray, List.set_cons_zero, List.set_cons_succ]
              refine wpAnyH_take (i := 8) (v := .agg #[.string x, .string y]) rfl (by kernel_rfl) (by kernel_rfl) (by kernel_rfl) (fun _ _ _ h => h) (Or.inl ⟨by rfl, ?hy6010⟩) (by assumption) ?ty6010
              case hy6010 => (intro w hSw; (try dsimp only at hSw); go_simp; first | (simp [hSw]; done) | (all_goals with_reducible rfl))
              simp only [Act.put, List.getElem_toArray, List.getElem_cons_zero, List.getElem_cons_succ, List.setIfInBounds_toArray, List.set_cons_zero, List.set_cons_succ]
              refine wpAnyH_take (i := 9) (v := .bool false) rfl (by kernel_rfl) (by kernel_rfl) (by kernel_rfl) (fun _ _ _ h => h) (Or.inl ⟨by rfl, ?hy6011⟩) (by assumption) ?ty6011
              case hy6011 => (intro w hSw; (try dsimp only at hSw); go_simp; first | (simp; done) | (all_goals with_reducible rfl))
              simp only [Act.put, List.getElem_toArray, List.getElem_cons_zero, List.getElem_cons_succ, List.setIfInBounds_toArray, List.set_cons_zero, List.set_cons_succ]
              refine wpAnyH_take (i := 10) (v := ?_) rfl (by kernel_rfl) (by kernel_rfl) (by kernel_rfl) (fun _ _ _ h => h) (Or.inl ⟨by rfl, ?hy6012⟩) (by assumption) ?ty6012
              case hy6012 => (intro w hSw; (try dsimp only at hSw); go_simp; all_goals with_reducible rfl)
              simp only [Act.put, List.getElem_toArray, List.getElem_cons_zero, List.getElem_cons_succ, List.setIfInBounds_toArray, List.set_cons_zero, List.set_cons_succ]
              refine wpAnyH_take (i := 11) (v := ?_) rfl (by kernel_rfl) (by kernel_rfl) (by kernel_rfl) (fun _ _ _ h => h) (Or.inl ⟨by rfl, ?hy6013⟩) (by assumption) ?ty6013
              case hy6013 => (intro w hSw; (try dsimp only at hSw); go_simp; all_goals with_reducible rfl)
              simp only [Act.put, List.getElem_toArray, List.getElem_cons_zero, List.getElem_cons_succ, List.setIfInBounds_toArray, List.set_cons_zero, List.set_cons_succ]
              refine wpAnyH_take (i := 12) (v := ?_) rfl (by kernel_rfl) (by kernel_rfl) (by kernel_rfl) (fun _ _ _ h => h) (Or.inl ⟨by rfl, ?hy6014⟩) (by assumption) ?ty6014
              case hy6014 => (intro w hSw; (try dsimp only at hSw); go_simp; all_goals with_reducible rfl)
              simp only [Act.put, List.getElem_toArray, List.getElem_cons_zero, List.getElem_cons_succ, List.setIfInBounds_toArray, List.set_cons_zero, List.set_cons_succ]
              refine wpAnyH_take (i := 13) (v := ?_) rfl (by kernel_rfl) (by kernel_rfl) (by kernel_rfl) (fun _ _ _ h => h) (Or.inl ⟨by rfl, ?hy6015⟩) (by assumption) ?ty6015
              case hy6015 => (intro w hSw; (try dsimp only at hSw); go_simp; all_goals with_reducible rfl)
              simp only [Act.put, List.getElem_toArray, List.getElem_cons_zero, List.getElem_cons_succ, List.setIfInBounds_toArray, List.set_cons_zero, List.set_cons_succ]
              refine wpAnyH_take (i := 14) (v := .pointer (some ⟨ba, oa + i * 2, none⟩)) rfl (by kernel_rfl) (by kernel_rfl) (by kernel_rfl) (fun _ _ _ h => h) (Or.inl ⟨by rfl, ?hy6016⟩) (by assumption) ?ty6016
              case hy6016 => (intro w hSw; (try dsimp only at hSw); go_simp; first | (simp [him]; done) | (all_goals first | (with_reducible rfl) | omega))
              simp only [Act.put, List.getElem_toArray, List.getElem_cons_zero, List.getElem_cons_succ, List.setIfInBounds_toArray, List.set_cons_zero, List.set_cons_succ]
              refine wpAnyH_take (i := 15) (v := ?_) rfl (by kernel_rfl) (by kernel_rfl) (by kernel_rfl) (fun _ _ _ h => h) (Or.inl ⟨by rfl, ?hy6017⟩) (by assumption) ?ty6017
              case hy6017 => (intro w hSw; (try dsimp only at hSw); go_simp; all_goals with_reducible rfl)
              simp only [Act.put, List.getElem_toArray, List.getElem_cons_zero, List.getElem_cons_succ, List.setIfInBounds_toArray, List.set_cons_zero, List.set_cons_succ]
              refine wpAnyH_take (i := 16) (v := ?_) rfl (by kernel_rfl) (by kernel_rfl) (by kernel_rfl) (fun _ _ _ h => h) (Or.inl ⟨by rfl, ?hy6018⟩) (by assumption) ?ty6018
              case hy6018 => (intro w hSw; (try dsimp only at hSw); go_simp; all_goals with_reducible rfl)
              simp only [Act.put, List.getElem_toArray, List.getElem_cons_zero, List.getElem_cons_succ, List.setIfInBounds_toArray, List.set_cons_zero, List.set_cons_succ]
              refine wpAnyH_ready (rs := [17]) (by kernel_rfl) (by simp) ?_
              refine AllReadyH.cons rfl (fun K hK => ?_) AllReadyH.nil
              go_simp
              refine (HFO.out _ (by exact hlR)).mono ?_
              rintro e z7 ⟨tx, rfl, hbx⟩
              have HZ17 : Hid (Below wr.heap.size wr z7) := (Below.refl _ _).drew.trans hbx
              refine hK.out _ _ ⟨(HZ17.out.cell (p := ⟨g7, 2, none⟩) (by omega)).trans s0, (HZ17.out.cell (p := ⟨bb, ob + i * 2, none⟩) (by omega)).trans s1, (HZ17.out.cell (p := ⟨bb, ob + i * 2 + 1, none⟩) (by omega)).trans s2, (HZ17.out.cell (p := ⟨ba, oa + i * 2, none⟩) (by omega)).trans s3, (HZ17.out.cell (p := ⟨ba, oa + i * 2 + 1, none⟩) (by omega)).trans s4⟩ (fun hHeld => ?_)
              clear hK K
              clear hbx
              refine wpAnyH_take (i := 18) (v := ?_) rfl (by kernel_rfl) (by kernel_rfl) (by kernel_rfl) (fun _ _ _ h => h) (Or.inl ⟨by rfl, ?hy6019⟩) (by assumption) ?ty6019
              case hy6019 => (intro w hSw; (try dsimp only at hSw); go_simp; all_goals with_reducible rfl)
              simp only [Act.put, List.getElem_toArray, List.getElem_cons_zero, List.getElem_cons_succ, List.setIfInBounds_toArray, List.set_cons_zero, List.set_cons_succ]
              refine wpAnyH_take (i := 19) (v := .bool false) rfl (by kernel_rfl) (by kernel_rfl) (by kernel_rfl) (fun _ _ _ h => h) (Or.inl ⟨by rfl, ?hy6020⟩) (by assumption) ?ty6020
              case hy6020 => (intro w hSw; (try dsimp only at hSw); go_simp; first | (simp; done) | (all_goals with_reducible rfl))
              simp only [Act.put, List.getElem_toArray, List.getElem_cons_zero, List.getElem_cons_succ, List.setIfInBounds_toArray, List.set_cons_zero, List.set_cons_succ]
              refine wpAnyH_take (i := 20) (v := ?_) rfl (by kernel_rfl) (by kernel_rfl) (by kernel_rfl) (fun _ _ _ h => h) (Or.inl ⟨by rfl, ?hy6021⟩) (by assumption) ?ty6021
              case hy6021 => (intro w hSw; (try dsimp only at hSw); go_simp; all_goals with_reducible rfl)
              simp only [Act.put, List.getElem_toArray, List.getElem_cons_zero, List.getElem_cons_succ, List.setIfInBounds_toArray, List.set_cons_zero, List.set_cons_succ]
              refine wpAnyH_done (by kernel_rfl) ?_ _
              have hbY : Below Y.heap.size Y z7 := hbel.trans (HZ17.out.mono hbel.size)
              clear hHeld HZ17 HFO s0 s1 s2 s3 s4 hlR
              go_wp2
              go_roundw
              case rel => exact ⟨i + 1, by omega, by go_num, hbY⟩
              case measure => simp [intOf]; omega
            · have him : ¬ (i : Int) < (m : Int) := by omega
              have HBG : Hid (Below w.heap.size w wr) := HB7.out.trans (hbel.mono HB7.out.size)
              have hg6F : g6 < wr.heap.size := by have := hbel.size; omega
              clear HFO0 HB7 hf7 hs7 hq7 i0 i1 i2 hbel
              generalize wr = wF at *
              go_wp2_with fail
              refine (drawFieldOf_any a n cap l _ hl (hr.below HBG.out) hB (by omega)).mono ?_
              rintro e w8 ⟨v8, l8, t8, rfl, ho8, hk8, hD8, hB8, ht8, hb8⟩
              obtain ⟨a8, c8, hv, -, -⟩ := ho8.form
              obtain ⟨n8, hn8⟩ : ∃ n8, l8.length = n8 := ⟨_, rfl⟩
              have HL8 : Hid (l8.length = n8) := hn8
              rw [hn8] at hv hk8
              subst hv
              clear hn8
              have hr8 := ho8.rd.2
              have hx8 : (str t8).size ≤ 1048576 := by rw [str_size]; omega
              have HFI : Hid (∀ w, RdF w a8 l8 → Calls Try.prog 13 #[.slice a8 n8 c8, .string (str t8)] w fun e w' => e = .returned (.agg #[.int .i64 (foC l8 (str t8)), .string (foT l8 (str t8))]) ∧ Below w.heap.size w w') := fun w h => fieldOf_any a8 n8 c8 l8 (str t8) w HL8.out h (by omega) hD8.fit hx8
              have HFS : Hid (∀ w, RdF w a8 l8 → Calls Try.prog 15 #[.slice a8 n8 c8, .string (str t8)] w fun e w' => e = .returned (.agg #[.int .i64 (foC l8 (str t8)), .string (foT l8 (str t8))]) ∧ Below w.heap.size w w') := fun w h => specFieldOf_any a8 n8 c8 l8 (str t8) w HL8.out h (by omega) hD8.fit hx8
              generalize foC l8 (str t8) = fc at *
              generalize foT l8 (str t8) = ft at *
              generalize str t8 = tx8 at *
              have HBH : Hid (Below w.heap.size w w8) := HBG.out.trans (hb8.mono HBG.out.size)
              have hq8 := (hb8.cell (p := ⟨g6, 1, none⟩) hg6F).trans hq1
              have hg68 : g6 < w8.heap.size := Nat.lt_of_lt_of_le hg6F hb8.size
              clear hb8 ho8 hq1 hg6F HBG hD8 hB8 ht8
              go_wp2_with fail
              refine (HFI.out _ hr8).mono ?_
              rintro e w9 ⟨rfl, hb9⟩
              have hbA : Below w9.heap.size w9 (w9.alloc (.cells #[.int .i64 fc, .string ft] 37)) := (Below.refl _ _).alloc (Nat.le_refl _) _
              have hX9 : Below w8.heap.size w8 (w9.alloc (.cells #[.int .i64 fc, .string ft] 37)) := hb9.trans (hbA.mono hb9.size)
              have HBI : Hid (Below w.heap.size w (w9.alloc (.cells #[.int .i64 fc, .string ft] 37))) := HBH.out.trans (hX9.mono HBH.out.size)
              have hr9 := hr8.below hX9
              have hq9 := (hX9.cell (p := ⟨g6, 1, none⟩) hg68).trans hq8
              obtain ⟨j0, j1, -, -⟩ := res_block (w := w9) (wr := w9.alloc (.cells #[.int .i64 fc, .string ft] 37)) rfl (Below.refl _ _)
              have hsW9 : (w9.alloc (.cells #[.int .i64 fc, .string ft] 37)).heap.size = w9.heap.size + 1 := by simp
              have hz9 := hb9.size
              clear hb9 hX9 HFI hbA HBH hr8 hq8
              go_wp2_with fail
              generalize w9.alloc (.cells #[.int .i64 fc, .string ft] 37) = Z at *
              generalize w9.heap.size = g11 at *
              have m11 : g11 < Z.heap.size := by omega
              have m6Z : g6 < Z.heap.size := by omega
              refine wp_region_held_drew (S := fun w' => w'.cell? ⟨g11, 0, none⟩ = some (.int .i64 fc) ∧ w'.cell? ⟨g11, 1, none⟩ = some (.string ft) ∧ w'.cell? ⟨g6, 1, none⟩ = some (.slice (some ⟨g4, o4, none⟩) M c4)) (by kernel_rfl) ?hS6022 (fun hHeld => ?_)
              case hS6022 => exact ⟨j0, j1, hq9⟩
              refine wpAnyH_take (i := 0) (v := ?_) rfl (by kernel_rfl) (by kernel_rfl) (by kernel_rfl) (fun _ _ _ h => h) (Or.inl ⟨by rfl, ?hy6023⟩) (by assumption) ?ty6023
              case hy6023 => (intro w hSw; (try dsimp only at hSw); go_simp; all_goals with_reducible rfl)
              simp only [Act.put, List.getElem_toArray, List.getElem_cons_zero, List.setIfInBounds_toArray, List.set_cons_zero, List.set_cons_succ]
              refine wpAnyH_take (i := 1) (v := ?_) rfl (by kernel_rfl) (by kernel_rfl) (by kernel_rfl) (fun _ _ _ h => h) (Or.inl ⟨by rfl, ?hy6024⟩) (by assumption) ?ty6024
              case hy6024 => (intro w hSw; (try dsimp only at hSw); go_simp; all_goals with_reducible rfl)
              simp only [Act.put, List.getElem_toArray, List.getElem_cons_zero, List.getElem_cons_succ, List.setIfInBounds_toArray, List.set_cons_zero, List.set_cons_succ]
              refine wpAnyH_take (i := 2) (v := ?_) rfl (by kernel_rfl) (by kernel_rfl) (by kernel_rfl) (fun _ _ _ h => h) (Or.inl ⟨by rfl, ?hy6025⟩) (by assumption) ?ty6025
              case hy6025 => (intro w hSw; (try dsimp only at hSw); go_simp; all_goals with_reducible rfl)
              simp only [Act.put, List.getElem_toArray, List.getElem_cons_zero, List.getElem_cons_succ, List.setIfInBounds_toArray, List.set_cons_zero, List.set_cons_succ]
              refine wpAnyH_take (i := 3) (v := ?_) rfl (by kernel_rfl) (by kernel_rfl) (by kernel_rfl) (fun _ _ _ h => h) (Or.inl ⟨by rfl, ?hy6026⟩) (by assumption) ?ty6026
              case hy6026 => (intro w hSw; (try dsimp only at hSw); go_simp; all_goals with_reducible rfl)
              simp only [Act.put, List.getElem_toArray, List.getElem_cons_zero, List.getElem_cons_succ, List.setIfInBounds_toArray, List.set_cons_zero, List.set_cons_succ]
              refine wpAnyH_ready (rs := [4]) (by kernel_rfl) (by simp) ?_
              refine AllReadyH.cons rfl (fun K hK => ?_) AllReadyH.nil
              go_simp
              refine (HFS.out _ (by exact hr9)).mono ?_
              rintro e z1 ⟨rfl, hbx⟩
              have HZ_z1 : Hid (Below Z.heap.size Z z1) := (Below.refl _ _).drew.trans hbx
              refine hK.out _ _ ⟨(HZ_z1.out.cell (p := ⟨g11, 0, none⟩) m11).trans j0, (HZ_z1.out.cell (p := ⟨g11, 1, none⟩) m11).trans j1, (HZ_z1.out.cell (p := ⟨g6, 1, none⟩) m6Z).trans hq9⟩ (fun hHeld => ?_)
              clear hK K
              clear hbx
              refine wpAnyH_take (i := 5) (v := ?_) rfl (by kernel_rfl) (by kernel_rfl) (by kernel_rfl) (fun _ _ _ h => h) (Or.inl ⟨by rfl, ?hy6027⟩) (by assumption) ?ty6027
              case hy6027 => (intro w hSw; (try dsimp only at hSw); go_simp; all_goals with_reducible rfl)
              simp only [Act.put, List.getElem_toArray, List.getElem_cons_zero, List.getElem_cons_succ, List.setIfInBounds_toArray, List.set_cons_zero, List.set_cons_succ]
              refine wpAnyH_take (i := 6) (v := .bool true) rfl (by kernel_rfl) (by kernel_rfl) (by kernel_rfl) (fun _ _ _ h => h) (Or.inl ⟨by rfl, ?hy6028⟩) (by assumption) ?ty6028
              case hy6028 => (intro w hSw; (try dsimp only at hSw); go_simp; first | (simp; done) | (all_goals with_reducible rfl))
              simp only [Act.put, List.getElem_toArray, List.getElem_cons_zero, List.getElem_cons_succ, List.setIfInBounds_toArray, List.set_cons_zero, List.set_cons_succ]
              refine wpAnyH_take (i := 7) (v := ?_) rfl (by kernel_rfl) (by kernel_rfl) (by kernel_rfl) (fun _ _ _ h => h) (Or.inl ⟨by rfl, ?hy6029⟩) (by assumption) ?ty6029
              case hy6029 => (intro w hSw; (try dsimp only at hSw); go_simp; all_goals with_reducible rfl)
              simp only [Act.put, List.getElem_toArray, List.getElem_cons_zero, List.getElem_cons_succ, List.setIfInBounds_toArray, List.set_cons_zero, List.set_cons_succ]
              refine wpAnyH_take (i := 8) (v := ?_) rfl (by kernel_rfl) (by kernel_rfl) (by kernel_rfl) (fun _ _ _ h => h) (Or.inl ⟨by rfl, ?hy6030⟩) (by assumption) ?ty6030
              case hy6030 => (intro w hSw; (try dsimp only at hSw); go_simp; all_goals with_reducible rfl)
              simp only [Act.put, List.getElem_toArray, List.getElem_cons_zero, List.getElem_cons_succ, List.setIfInBounds_toArray, List.set_cons_zero, List.set_cons_succ]
              refine wpAnyH_take (i := 9) (v := ?_) rfl (by kernel_rfl) (by kernel_rfl) (by kernel_rfl) (fun _ _ _ h => h) (Or.inl ⟨by rfl, ?hy6031⟩) (by assumption) ?ty6031
              case hy6031 => (intro w hSw; (try dsimp only at hSw); go_simp; all_goals with_reducible rfl)
              simp only [Act.put, List.getElem_toArray, List.getElem_cons_zero, List.getElem_cons_succ, List.setIfInBounds_toArray, List.set_cons_zero, List.set_cons_succ]
              refine wpAnyH_take (i := 10) (v := ?_) rfl (by kernel_rfl) (by kernel_rfl) (by kernel_rfl) (fun _ _ _ h => h) (Or.inl ⟨by rfl, ?hy6032⟩) (by assumption) ?ty6032
              case hy6032 => (intro w hSw; (try dsimp only at hSw); go_simp; all_goals with_reducible rfl)
              simp only [Act.put, List.getElem_toArray, List.getElem_cons_zero, List.getElem_cons_succ, List.setIfInBounds_toArray, List.set_cons_zero, List.set_cons_succ]
              refine wpAnyH_take (i := 11) (v := ?_) rfl (by kernel_rfl) (by kernel_rfl) (by kernel_rfl) (fun _ _ _ h => h) (Or.inl ⟨by rfl, ?hy6033⟩) (by assumption) ?ty6033
              case hy6033 => (intro w hSw; (try dsimp only at hSw); go_simp; all_goals with_reducible rfl)
              simp only [Act.put, List.getElem_toArray, List.getElem_cons_zero, List.getElem_cons_succ, List.setIfInBounds_toArray, List.set_cons_zero, List.set_cons_succ]
              refine wpAnyH_ready (rs := [12]) (by kernel_rfl) (by simp) ?_
              refine AllReadyH.cons rfl (fun K hK => ?_) AllReadyH.nil
              go_simp
              refine (HFS.out _ (by exact hr9.below HZ_z1.out)).mono ?_
              rintro e z2 ⟨rfl, hbx⟩
              have HZ_z2 : Hid (Below Z.heap.size Z z2) := HZ_z1.out.trans (hbx.mono HZ_z1.out.size)
              refine hK.out _ _ ⟨(HZ_z2.out.cell (p := ⟨g11, 0, none⟩) m11).trans j0, (HZ_z2.out.cell (p := ⟨g11, 1, none⟩) m11).trans j1, (HZ_z2.out.cell (p := ⟨g6, 1, none⟩) m6Z).trans hq9⟩ (fun hHeld => ?_)
              clear hK K
              clear hbx
              refine wpAnyH_take (i := 13) (v := ?_) rfl (by kernel_rfl) (by kernel_rfl) (by kernel_rfl) (fun _ _ _ h => h) (Or.inl ⟨by rfl, ?hy6034⟩) (by assumption) ?ty6034
              case hy6034 => (intro w hSw; (try dsimp only at hSw); go_simp; all_goals with_reducible rfl)
              simp only [Act.put, List.getElem_toArray, List.getElem_cons_zero, List.getElem_cons_succ, List.setIfInBounds_toArray, List.set_cons_zero, List.set_cons_succ]
              refine wpAnyH_take (i := 14) (v := .bool true) rfl (by kernel_rfl) (by kernel_rfl) (by kernel_rfl) (fun _ _ _ h => h) (Or.inl ⟨by rfl, ?hy6035⟩) (by assumption) ?ty6035
              case hy6035 => (intro w hSw; (try dsimp only at hSw); go_simp; first | (simp; done) | (all_goals with_reducible rfl))
              simp only [Act.put, List.getElem_toArray, List.getElem_cons_zero, List.getElem_cons_succ, List.setIfInBounds_toArray, List.set_cons_zero, List.set_cons_succ]
              refine wpAnyH_take (i := 15) (v := ?_) rfl (by kernel_rfl) (by kernel_rfl) (by kernel_rfl) (fun _ _ _ h => h) (Or.inl ⟨by rfl, ?hy6036⟩) (by assumption) ?ty6036
              case hy6036 => (intro w hSw; (try dsimp only at hSw); go_simp; all_goals with_reducible rfl)
              simp only [Act.put, List.getElem_toArray, List.getElem_cons_zero, List.getElem_cons_succ, List.setIfInBounds_toArray, List.set_cons_zero, List.set_cons_succ]
              refine wpAnyH_take (i := 16) (v := ?_) rfl (by kernel_rfl) (by kernel_rfl) (by kernel_rfl) (fun _ _ _ h => h) (Or.inl ⟨by rfl, ?hy6037⟩) (by assumption) ?ty6037
              case hy6037 => (intro w hSw; (try dsimp only at hSw); go_simp; all_goals with_reducible rfl)
              simp only [Act.put, List.getElem_toArray, List.getElem_cons_zero, List.getElem_cons_succ, List.setIfInBounds_toArray, List.set_cons_zero, List.set_cons_succ]
              refine wpAnyH_take (i := 17) (v := ?_) rfl (by kernel_rfl) (by kernel_rfl) (by kernel_rfl) (fun _ _ _ h => h) (Or.inl ⟨by rfl, ?hy6038⟩) (by assumption) ?ty6038
              case hy6038 => (intro w hSw; (try dsimp only at hSw); go_simp; all_goals with_reducible rfl)
              simp only [Act.put, List.getElem_toArray, List.getElem_cons_zero, List.getElem_cons_succ, List.setIfInBounds_toArray, List.set_cons_zero, List.set_cons_succ]
              refine wpAnyH_take (i := 18) (v := ?_) rfl (by kernel_rfl) (by kernel_rfl) (by kernel_rfl) (fun _ _ _ h => h) (Or.inl ⟨by rfl, ?hy6039⟩) (by assumption) ?ty6039
              case hy6039 => (intro w hSw; (try dsimp only at hSw); go_simp; all_goals with_reducible rfl)
              simp only [Act.put, List.getElem_toArray, List.getElem_cons_zero, List.getElem_cons_succ, List.setIfInBounds_toArray, List.set_cons_zero, List.set_cons_succ]
              refine wpAnyH_take (i := 19) (v := ?_) rfl (by kernel_rfl) (by kernel_rfl) (by kernel_rfl) (fun _ _ _ h => h) (Or.inl ⟨by rfl, ?hy6040⟩) (by assumption) ?ty6040
              case hy6040 => (intro w hSw; (try dsimp only at hSw); go_simp; all_goals with_reducible rfl)
              simp only [Act.put, List.getElem_toArray, List.getElem_cons_zero, List.getElem_cons_succ, List.setIfInBounds_toArray, List.set_cons_zero, List.set_cons_succ]
              refine wpAnyH_take (i := 20) (v := .bool true) rfl (by kernel_rfl) (by kernel_rfl) (by kernel_rfl) (fun _ _ _ h => h) (Or.inl ⟨by rfl, ?hy6041⟩) (by assumption) ?ty6041
              case hy6041 => (intro w hSw; (try dsimp only at hSw); go_simp; first | (simp [hM0]; done) | omega | (simp; omega) | (all_goals with_reducible rfl))
              simp only [Act.put, List.getElem_toArray, List.getElem_cons_zero, List.getElem_cons_succ, List.setIfInBounds_toArray, List.set_cons_zero, List.set_cons_succ]
              refine wpAnyH_take (i := 21) (v := ?_) rfl (by kernel_rfl) (by kernel_rfl) (by kernel_rfl) (fun _ _ _ h => h) (Or.inl ⟨by rfl, ?hy6042⟩) (by assumption) ?ty6042
              case hy6042 => (intro w hSw; (try dsimp only at hSw); go_simp; all_goals with_reducible rfl)
              simp only [Act.put, List.getElem_toArray, List.getElem_cons_zero, List.getElem_cons_succ, List.setIfInBounds_toArray, List.set_cons_zero, List.set_cons_succ]
              refine wpAnyH_take (i := 22) (v := ?_) rfl (by kernel_rfl) (by kernel_rfl) (by kernel_rfl) (fun _ _ _ h => h) (Or.inl ⟨by rfl, ?hy6043⟩) (by assumption) ?ty6043
              case hy6043 => (intro w hSw; (try dsimp only at hSw); go_simp; all_goals with_reducible rfl)
              simp only [Act.put, List.getElem_toArray, List.getElem_cons_zero, List.getElem_cons_succ, List.setIfInBounds_toArray, List.set_cons_zero, List.set_cons_succ]
              refine wpAnyH_done (by kernel_rfl) ?_ _
              have HF : Hid (Below w.heap.size w z2) := HBI.out.trans (HZ_z2.out.mono HBI.out.size)
              clear hHeld HZ_z1 HZ_z2 HFS HBI
              go_wp2
              go_ret
              exact ⟨rfl, HF.out⟩
        · have hMi : ¬ (M : Int) < 400 := by omega
          clear HP7 HFO0
          generalize phV (et ++ [97]) = P7 at *
          obtain ⟨pc7, k7, fs7⟩ := P7
          refine HP6.mono ?_
          rintro e w7 ⟨v7, rfl, ho7, hb7⟩
          simp only at ho7 ⊢
          obtain ⟨b7, c7, hv, -, -⟩ := ho7.form
          generalize fs7.length = N7 at hv
          subst hv
          have hbA : Below w7.heap.size w7 ((w7.alloc (.cells #[.int .i64 pc7, .int .i64 (k7 : Int), .slice b7 N7 c7] 27))) := (Below.refl _ _).alloc (Nat.le_refl _) _
          have hX7 : Below w6.heap.size w6 ((w7.alloc (.cells #[.int .i64 pc7, .int .i64 (k7 : Int), .slice b7 N7 c7] 27))) := hb7.trans (hbA.mono hb7.size)
          have HBG : Hid (Below w.heap.size w ((w7.alloc (.cells #[.int .i64 pc7, .int .i64 (k7 : Int), .slice b7 N7 c7] 27)))) := HB6.out.trans (hX7.mono HB6.out.size)
          have hq1 := (hX7.cell (p := ⟨g6, 1, none⟩) (by show g6 < w6.heap.size; omega)).trans hq6
          have hsW7 : ((w7.alloc (.cells #[.int .i64 pc7, .int .i64 (k7 : Int), .slice b7 N7 c7] 27))).heap.size = w7.heap.size + 1 := by simp
          have hz7 := hb7.size
          have hg6F : g6 < ((w7.alloc (.cells #[.int .i64 pc7, .int .i64 (k7 : Int), .slice b7 N7 c7] 27))).heap.size := by omega
          clear hb7 hX7 hs6 HP6 ho7 hbA HB6 hq6
          go_wp2_with fail
          generalize (w7.alloc (.cells #[.int .i64 pc7, .int .i64 (k7 : Int), .slice b7 N7 c7] 27)) = wF at *
          go_wp2
          go_loopw [8] (fun v wr => v = .int .i64 0 ∧ wr = wF) (fun v _ => 0)
          case atStart => exact ⟨rfl, rfl⟩
          case round =>
            obtain ⟨rfl, rfl⟩ := hrel
            by_cases him : (0 : Int) < (m : Int)
            · skip
              go_wp2_with fail
              refine (drawFieldOf_any a n cap l _ hl (hr.below HBG.out) hB (by omega)).mono ?_
              rintro e w8 ⟨v8, l8, t8, rfl, ho8, hk8, hD8, hB8, ht8, hb8⟩
              obtain ⟨a8, c8, hv, -, -⟩ := ho8.form
              obtain ⟨n8, hn8⟩ : ∃ n8, l8.length = n8 := ⟨_, rfl⟩
              have HL8 : Hid (l8.length = n8) := hn8
              rw [hn8] at hv hk8
              subst hv
              clear hn8
              have hr8 := ho8.rd.2
              have hx8 : (str t8).size ≤ 1048576 := by rw [str_size]; omega
              have HFI : Hid (∀ w, RdF w a8 l8 → Calls Try.prog 13 #[.slice a8 n8 c8, .string (str t8)] w fun e w' => e = .returned (.agg #[.int .i64 (foC l8 (str t8)), .string (foT l8 (str t8))]) ∧ Below w.heap.size w w') := fun w h => fieldOf_any a8 n8 c8 l8 (str t8) w HL8.out h (by omega) hD8.fit hx8
              have HFS : Hid (∀ w, RdF w a8 l8 → Calls Try.prog 15 #[.slice a8 n8 c8, .string (str t8)] w fun e w' => e = .returned (.agg #[.int .i64 (foC l8 (str t8)), .string (foT l8 (str t8))]) ∧ Below w.heap.size w w') := fun w h => specFieldOf_any a8 n8 c8 l8 (str t8) w HL8.out h (by omega) hD8.fit hx8
              generalize foC l8 (str t8) = fc at *
              generalize foT l8 (str t8) = ft at *
              generalize str t8 = tx8 at *
              have HBH : Hid (Below w.heap.size w w8) := HBG.out.trans (hb8.mono HBG.out.size)
              have hq8 := (hb8.cell (p := ⟨g6, 1, none⟩) hg6F).trans hq1
              have hg68 : g6 < w8.heap.size := Nat.lt_of_lt_of_le hg6F hb8.size
              clear hb8 ho8 hq1 hg6F HBG hD8 hB8 ht8
              go_wp2_with fail
              refine (HFI.out _ hr8).mono ?_
              rintro e w9 ⟨rfl, hb9⟩
              have hbA : Below w9.heap.size w9 (w9.alloc (.cells #[.int .i64 fc, .string ft] 37)) := (Below.refl _ _).alloc (Nat.le_refl _) _
              have hX9 : Below w8.heap.size w8 (w9.alloc (.cells #[.int .i64 fc, .string ft] 37)) := hb9.trans (hbA.mono hb9.size)
              have HBI : Hid (Below w.heap.size w (w9.alloc (.cells #[.int .i64 fc, .string ft] 37))) := HBH.out.trans (hX9.mono HBH.out.size)
              have hr9 := hr8.below hX9
              have hq9 := (hX9.cell (p := ⟨g6, 1, none⟩) hg68).trans hq8
              obtain ⟨j0, j1, -, -⟩ := res_block (w := w9) (wr := w9.alloc (.cells #[.int .i64 fc, .string ft] 37)) rfl (Below.refl _ _)
              have hsW9 : (w9.alloc (.cells #[.int .i64 fc, .string ft] 37)).heap.size = w9.heap.size + 1 := by simp
              have hz9 := hb9.size
              clear hb9 hX9 HFI hbA HBH hr8 hq8
              go_wp2_with fail
              generalize w9.alloc (.cells #[.int .i64 fc, .string ft] 37) = Z at *
              generalize w9.heap.size = g11 at *
              have m11 : g11 < Z.heap.size := by omega
              have m6Z : g6 < Z.heap.size := by omega
              refine wp_region_held_drew (S := fun w' => w'.cell? ⟨g11, 0, none⟩ = some (.int .i64 fc) ∧ w'.cell? ⟨g11, 1, none⟩ = some (.string ft) ∧ w'.cell? ⟨g6, 1, none⟩ = some (.slice (some ⟨g4, o4, none⟩) M c4)) (by kernel_rfl) ?hS6044 (fun hHeld => ?_)
              case hS6044 => exact ⟨j0, j1, hq9⟩
              refine wpAnyH_take (i := 0) (v := ?_) rfl (by kernel_rfl) (by kernel_rfl) (by kernel_rfl) (fun _ _ _ h => h) (Or.inl ⟨by rfl, ?hy6045⟩) (by assumption) ?ty6045
              case hy6045 => (intro w hSw; (try dsimp only at hSw); go_simp; all_goals with_reducible rfl)
              simp only [Act.put, List.getElem_toArray, List.getElem_cons_zero, List.setIfInBounds_toArray, List.set_cons_zero, List.set_cons_succ]
              refine wpAnyH_take (i := 1) (v := ?_) rfl (by kernel_rfl) (by kernel_rfl) (by kernel_rfl) (fun _ _ _ h => h) (Or.inl ⟨by rfl, ?hy6046⟩) (by assumption) ?ty6046
              case hy6046 => (intro w hSw; (try dsimp only at hSw); go_simp; all_goals with_reducible rfl)
              simp only [Act.put, List.getElem_toArray, List.getElem_cons_zero, List.getElem_cons_succ, List.setIfInBounds_toArray, List.set_cons_zero, List.set_cons_succ]
              refine wpAnyH_take (i := 2) (v := ?_) rfl (by kernel_rfl) (by kernel_rfl) (by kernel_rfl) (fun _ _ _ h => h) (Or.inl ⟨by rfl, ?hy6047⟩) (by assumption) ?ty6047
              case hy6047 => (intro w hSw; (try dsimp only at hSw); go_simp; all_goals with_reducible rfl)
              simp only [Act.put, List.getElem_toArray, List.getElem_cons_zero, List.getElem_cons_succ, List.setIfInBounds_toArray, List.set_cons_zero, List.set_cons_succ]
              refine wpAnyH_take (i := 3) (v := ?_) rfl (by kernel_rfl) (by kernel_rfl) (by kernel_rfl) (fun _ _ _ h => h) (Or.inl ⟨by rfl, ?hy6048⟩) (by assumption) ?ty6048
              case hy6048 => (intro w hSw; (try dsimp only at hSw); go_simp; all_goals with_reducible rfl)
              simp only [Act.put, List.getElem_toArray, List.getElem_cons_zero, List.getElem_cons_succ, List.setIfInBounds_toArray, List.set_cons_zero, List.set_cons_succ]
              refine wpAnyH_ready (rs := [4]) (by kernel_rfl) (by simp) ?_
              refine AllReadyH.cons rfl (fun K hK => ?_) AllReadyH.nil
              go_simp
              refine (HFS.out _ (by exact hr9)).mono ?_
              rintro e z1 ⟨rfl, hbx⟩
              have HZ_z1 : Hid (Below Z.heap.size Z z1) := (Below.refl _ _).drew.trans hbx
              refine hK.out _ _ ⟨(HZ_z1.out.cell (p := ⟨g11, 0, none⟩) m11).trans j0, (HZ_z1.out.cell (p := ⟨g11, 1, none⟩) m11).trans j1, (HZ_z1.out.cell (p := ⟨g6, 1, none⟩) m6Z).trans hq9⟩ (fun hHeld => ?_)
              clear hK K
              clear hbx
              refine wpAnyH_take (i := 5) (v := ?_) rfl (by kernel_rfl) (by kernel_rfl) (by kernel_rfl) (fun _ _ _ h => h) (Or.inl ⟨by rfl, ?hy6049⟩) (by assumption) ?ty6049
              case hy6049 => (intro w hSw; (try dsimp only at hSw); go_simp; all_goals with_reducible rfl)
              simp only [Act.put, List.getElem_toArray, List.getElem_cons_zero, List.getElem_cons_succ, List.setIfInBounds_toArray, List.set_cons_zero, List.set_cons_succ]
              refine wpAnyH_take (i := 6) (v := .bool true) rfl (by kernel_rfl) (by kernel_rfl) (by kernel_rfl) (fun _ _ _ h => h) (Or.inl ⟨by rfl, ?hy6050⟩) (by assumption) ?ty6050
              case hy6050 => (intro w hSw; (try dsimp only at hSw); go_simp; first | (simp; done) | (all_goals with_reducible rfl))
              simp only [Act.put, List.getElem_toArray, List.getElem_cons_zero, List.getElem_cons_succ, List.setIfInBounds_toArray, List.set_cons_zero, List.set_cons_succ]
              refine wpAnyH_take (i := 7) (v := ?_) rfl (by kernel_rfl) (by kernel_rfl) (by kernel_rfl) (fun _ _ _ h => h) (Or.inl ⟨by rfl, ?hy6051⟩) (by assumption) ?ty6051
              case hy6051 => (intro w hSw; (try dsimp only at hSw); go_simp; all_goals with_reducible rfl)
              simp only [Act.put, List.getElem_toArray, List.getElem_cons_zero, List.getElem_cons_succ, List.setIfInBounds_toArray, List.set_cons_zero, List.set_cons_succ]
              refine wpAnyH_take (i := 8) (v := ?_) rfl (by kernel_rfl) (by kernel_rfl) (by kernel_rfl) (fun _ _ _ h => h) (Or.inl ⟨by rfl, ?hy6052⟩) (by assumption) ?ty6052
              case hy6052 => (intro w hSw; (try dsimp only at hSw); go_simp; all_goals with_reducible rfl)
              simp only [Act.put, List.getElem_toArray, List.getElem_cons_zero, List.getElem_cons_succ, List.setIfInBounds_toArray, List.set_cons_zero, List.set_cons_succ]
              refine wpAnyH_take (i := 9) (v := ?_) rfl (by kernel_rfl) (by kernel_rfl) (by kernel_rfl) (fun _ _ _ h => h) (Or.inl ⟨by rfl, ?hy6053⟩) (by assumption) ?ty6053
              case hy6053 => (intro w hSw; (try dsimp only at hSw); go_simp; all_goals with_reducible rfl)
              simp only [Act.put, List.getElem_toArray, List.getElem_cons_zero, List.getElem_cons_succ, List.setIfInBounds_toArray, List.set_cons_zero, List.set_cons_succ]
              refine wpAnyH_take (i := 10) (v := ?_) rfl (by kernel_rfl) (by kernel_rfl) (by kernel_rfl) (fun _ _ _ h => h) (Or.inl ⟨by rfl, ?hy6054⟩) (by assumption) ?ty6054
              case hy6054 => (intro w hSw; (try dsimp only at hSw); go_simp; all_goals with_reducible rfl)
              simp only [Act.put, List.getElem_toArray, List.getElem_cons_zero, List.getElem_cons_succ, List.setIfInBounds_toArray, List.set_cons_zero, List.set_cons_succ]
              refine wpAnyH_take (i := 11) (v := ?_) rfl (by kernel_rfl) (by kernel_rfl) (by kernel_rfl) (fun _ _ _ h => h) (Or.inl ⟨by rfl, ?hy6055⟩) (by assumption) ?ty6055
              case hy6055 => (intro w hSw; (try dsimp only at hSw); go_simp; all_goals with_reducible rfl)
              simp only [Act.put, List.getElem_toArray, List.getElem_cons_zero, List.getElem_cons_succ, List.setIfInBounds_toArray, List.set_cons_zero, List.set_cons_succ]
              refine wpAnyH_ready (rs := [12]) (by kernel_rfl) (by simp) ?_
              refine AllReadyH.cons rfl (fun K hK => ?_) AllReadyH.nil
              go_simp
              refine (HFS.out _ (by exact hr9.below HZ_z1.out)).mono ?_
              rintro e z2 ⟨rfl, hbx⟩
              have HZ_z2 : Hid (Below Z.heap.size Z z2) := HZ_z1.out.trans (hbx.mono HZ_z1.out.size)
              refine hK.out _ _ ⟨(HZ_z2.out.cell (p := ⟨g11, 0, none⟩) m11).trans j0, (HZ_z2.out.cell (p := ⟨g11, 1, none⟩) m11).trans j1, (HZ_z2.out.cell (p := ⟨g6, 1, none⟩) m6Z).trans hq9⟩ (fun hHeld => ?_)
              clear hK K
              clear hbx
              refine wpAnyH_take (i := 13) (v := ?_) rfl (by kernel_rfl) (by kernel_rfl) (by kernel_rfl) (fun _ _ _ h => h) (Or.inl ⟨by rfl, ?hy6056⟩) (by assumption) ?ty6056
              case hy6056 => (intro w hSw; (try dsimp only at hSw); go_simp; all_goals with_reducible rfl)
              simp only [Act.put, List.getElem_toArray, List.getElem_cons_zero, List.getElem_cons_succ, List.setIfInBounds_toArray, List.set_cons_zero, List.set_cons_succ]
              refine wpAnyH_take (i := 14) (v := .bool true) rfl (by kernel_rfl) (by kernel_rfl) (by kernel_rfl) (fun _ _ _ h => h) (Or.inl ⟨by rfl, ?hy6057⟩) (by assumption) ?ty6057
              case hy6057 => (intro w hSw; (try dsimp only at hSw); go_simp; first | (simp; done) | (all_goals with_reducible rfl))
              simp only [Act.put, List.getElem_toArray, List.getElem_cons_zero, List.getElem_cons_succ, List.setIfInBounds_toArray, List.set_cons_zero, List.set_cons_succ]
              refine wpAnyH_take (i := 15) (v := ?_) rfl (by kernel_rfl) (by kernel_rfl) (by kernel_rfl) (fun _ _ _ h => h) (Or.inl ⟨by rfl, ?hy6058⟩) (by assumption) ?ty6058
              case hy6058 => (intro w hSw; (try dsimp only at hSw); go_simp; all_goals with_reducible rfl)
              simp only [Act.put, List.getElem_toArray, List.getElem_cons_zero, List.getElem_cons_succ, List.setIfInBounds_toArray, List.set_cons_zero, List.set_cons_succ]
              refine wpAnyH_take (i := 16) (v := ?_) rfl (by kernel_rfl) (by kernel_rfl) (by kernel_rfl) (fun _ _ _ h => h) (Or.inl ⟨by rfl, ?hy6059⟩) (by assumption) ?ty6059
              case hy6059 => (intro w hSw; (try dsimp only at hSw); go_simp; all_goals with_reducible rfl)
              simp only [Act.put, List.getElem_toArray, List.getElem_cons_zero, List.getElem_cons_succ, List.setIfInBounds_toArray, List.set_cons_zero, List.set_cons_succ]
              refine wpAnyH_take (i := 17) (v := ?_) rfl (by kernel_rfl) (by kernel_rfl) (by kernel_rfl) (fun _ _ _ h => h) (Or.inl ⟨by rfl, ?hy6060⟩) (by assumption) ?ty6060
              case hy6060 => (intro w hSw; (try dsimp only at hSw); go_simp; all_goals with_reducible rfl)
              simp only [Act.put, List.getElem_toArray, List.getElem_cons_zero, List.getElem_cons_succ, List.setIfInBounds_toArray, List.set_cons_zero, List.set_cons_succ]
              refine wpAnyH_take (i := 18) (v := ?_) rfl (by kernel_rfl) (by kernel_rfl) (by kernel_rfl) (fun _ _ _ h => h) (Or.inl ⟨by rfl, ?hy6061⟩) (by assumption) ?ty6061
              case hy6061 => (intro w hSw; (try dsimp only at hSw); go_simp; all_goals with_reducible rfl)
              simp only [Act.put, List.getElem_toArray, List.getElem_cons_zero, List.getElem_cons_succ, List.setIfInBounds_toArray, List.set_cons_zero, List.set_cons_succ]
              refine wpAnyH_take (i := 19) (v := ?_) rfl (by kernel_rfl) (by kernel_rfl) (by kernel_rfl) (fun _ _ _ h => h) (Or.inl ⟨by rfl, ?hy6062⟩) (by assumption) ?ty6062
              case hy6062 => (intro w hSw; (try dsimp only at hSw); go_simp; all_goals with_reducible rfl)
              simp only [Act.put, List.getElem_toArray, List.getElem_cons_zero, List.getElem_cons_succ, List.setIfInBounds_toArray, List.set_cons_zero, List.set_cons_succ]
              refine wpAnyH_take (i := 20) (v := .bool true) rfl (by kernel_rfl) (by kernel_rfl) (by kernel_rfl) (fun _ _ _ h => h) (Or.inl ⟨by rfl, ?hy6063⟩) (by assumption) ?ty6063
              case hy6063 => (intro w hSw; (try dsimp only at hSw); go_simp; first | (simp [hM0]; done) | omega | (simp; omega) | (all_goals with_reducible rfl))
              simp only [Act.put, List.getElem_toArray, List.getElem_cons_zero, List.getElem_cons_succ, List.setIfInBounds_toArray, List.set_cons_zero, List.set_cons_succ]
              refine wpAnyH_take (i := 21) (v := ?_) rfl (by kernel_rfl) (by kernel_rfl) (by kernel_rfl) (fun _ _ _ h => h) (Or.inl ⟨by rfl, ?hy6064⟩) (by assumption) ?ty6064
              case hy6064 => (intro w hSw; (try dsimp only at hSw); go_simp; all_goals with_reducible rfl)
              simp only [Act.put, List.getElem_toArray, List.getElem_cons_zero, List.getElem_cons_succ, List.setIfInBounds_toArray, List.set_cons_zero, List.set_cons_succ]
              refine wpAnyH_take (i := 22) (v := ?_) rfl (by kernel_rfl) (by kernel_rfl) (by kernel_rfl) (fun _ _ _ h => h) (Or.inl ⟨by rfl, ?hy6065⟩) (by assumption) ?ty6065
              case hy6065 => (intro w hSw; (try dsimp only at hSw); go_simp; all_goals with_reducible rfl)
              simp only [Act.put, List.getElem_toArray, List.getElem_cons_zero, List.getElem_cons_succ, List.setIfInBounds_toArray, List.set_cons_zero, List.set_cons_succ]
              refine wpAnyH_done (by kernel_rfl) ?_ _
              have HF : Hid (Below w.heap.size w z2) := HBI.out.trans (HZ_z2.out.mono HBI.out.size)
              clear hHeld HZ_z1 HZ_z2 HFS HBI
              go_wp2
              go_ret
              exact ⟨rfl, HF.out⟩
            · skip
              go_wp2_with fail
              refine (drawFieldOf_any a n cap l _ hl (hr.below HBG.out) hB (by omega)).mono ?_
              rintro e w8 ⟨v8, l8, t8, rfl, ho8, hk8, hD8, hB8, ht8, hb8⟩
              obtain ⟨a8, c8, hv, -, -⟩ := ho8.form
              obtain ⟨n8, hn8⟩ : ∃ n8, l8.length = n8 := ⟨_, rfl⟩
              have HL8 : Hid (l8.length = n8) := hn8
              rw [hn8] at hv hk8
              subst hv
              clear hn8
              have hr8 := ho8.rd.2
              have hx8 : (str t8).size ≤ 1048576 := by rw [str_size]; omega
              have HFI : Hid (∀ w, RdF w a8 l8 → Calls Try.prog 13 #[.slice a8 n8 c8, .string (str t8)] w fun e w' => e = .returned (.agg #[.int .i64 (foC l8 (str t8)), .string (foT l8 (str t8))]) ∧ Below w.heap.size w w') := fun w h => fieldOf_any a8 n8 c8 l8 (str t8) w HL8.out h (by omega) hD8.fit hx8
              have HFS : Hid (∀ w, RdF w a8 l8 → Calls Try.prog 15 #[.slice a8 n8 c8, .string (str t8)] w fun e w' => e = .returned (.agg #[.int .i64 (foC l8 (str t8)), .string (foT l8 (str t8))]) ∧ Below w.heap.size w w') := fun w h => specFieldOf_any a8 n8 c8 l8 (str t8) w HL8.out h (by omega) hD8.fit hx8
              generalize foC l8 (str t8) = fc at *
              generalize foT l8 (str t8) = ft at *
              generalize str t8 = tx8 at *
              have HBH : Hid (Below w.heap.size w w8) := HBG.out.trans (hb8.mono HBG.out.size)
              have hq8 := (hb8.cell (p := ⟨g6, 1, none⟩) hg6F).trans hq1
              have hg68 : g6 < w8.heap.size := Nat.lt_of_lt_of_le hg6F hb8.size
              clear hb8 ho8 hq1 hg6F HBG hD8 hB8 ht8
              go_wp2_with fail
              refine (HFI.out _ hr8).mono ?_
              rintro e w9 ⟨rfl, hb9⟩
              have hbA : Below w9.heap.size w9 (w9.alloc (.cells #[.int .i64 fc, .string ft] 37)) := (Below.refl _ _).alloc (Nat.le_refl _) _
              have hX9 : Below w8.heap.size w8 (w9.alloc (.cells #[.int .i64 fc, .string ft] 37)) := hb9.trans (hbA.mono hb9.size)
              have HBI : Hid (Below w.heap.size w (w9.alloc (.cells #[.int .i64 fc, .string ft] 37))) := HBH.out.trans (hX9.mono HBH.out.size)
              have hr9 := hr8.below hX9
              have hq9 := (hX9.cell (p := ⟨g6, 1, none⟩) hg68).trans hq8
              obtain ⟨j0, j1, -, -⟩ := res_block (w := w9) (wr := w9.alloc (.cells #[.int .i64 fc, .string ft] 37)) rfl (Below.refl _ _)
              have hsW9 : (w9.alloc (.cells #[.int .i64 fc, .string ft] 37)).heap.size = w9.heap.size + 1 := by simp
              have hz9 := hb9.size
              clear hb9 hX9 HFI hbA HBH hr8 hq8
              go_wp2_with fail
              generalize w9.alloc (.cells #[.int .i64 fc, .string ft] 37) = Z at *
              generalize w9.heap.size = g11 at *
              have m11 : g11 < Z.heap.size := by omega
              have m6Z : g6 < Z.heap.size := by omega
              refine wp_region_held_drew (S := fun w' => w'.cell? ⟨g11, 0, none⟩ = some (.int .i64 fc) ∧ w'.cell? ⟨g11, 1, none⟩ = some (.string ft) ∧ w'.cell? ⟨g6, 1, none⟩ = some (.slice (some ⟨g4, o4, none⟩) M c4)) (by kernel_rfl) ?hS6066 (fun hHeld => ?_)
              case hS6066 => exact ⟨j0, j1, hq9⟩
              refine wpAnyH_take (i := 0) (v := ?_) rfl (by kernel_rfl) (by kernel_rfl) (by kernel_rfl) (fun _ _ _ h => h) (Or.inl ⟨by rfl, ?hy6067⟩) (by assumption) ?ty6067
              case hy6067 => (intro w hSw; (try dsimp only at hSw); go_simp; all_goals with_reducible rfl)
              simp only [Act.put, List.getElem_toArray, List.getElem_cons_zero, List.setIfInBounds_toArray, List.set_cons_zero, List.set_cons_succ]
              refine wpAnyH_take (i := 1) (v := ?_) rfl (by kernel_rfl) (by kernel_rfl) (by kernel_rfl) (fun _ _ _ h => h) (Or.inl ⟨by rfl, ?hy6068⟩) (by assumption) ?ty6068
              case hy6068 => (intro w hSw; (try dsimp only at hSw); go_simp; all_goals with_reducible rfl)
              simp only [Act.put, List.getElem_toArray, List.getElem_cons_zero, List.getElem_cons_succ, List.setIfInBounds_toArray, List.set_cons_zero, List.set_cons_succ]
              refine wpAnyH_take (i := 2) (v := ?_) rfl (by kernel_rfl) (by kernel_rfl) (by kernel_rfl) (fun _ _ _ h => h) (Or.inl ⟨by rfl, ?hy6069⟩) (by assumption) ?ty6069
              case hy6069 => (intro w hSw; (try dsimp only at hSw); go_simp; all_goals with_reducible rfl)
              simp only [Act.put, List.getElem_toArray, List.getElem_cons_zero, List.getElem_cons_succ, List.setIfInBounds_toArray, List.set_cons_zero, List.set_cons_succ]
              refine wpAnyH_take (i := 3) (v := ?_) rfl (by kernel_rfl) (by kernel_rfl) (by kernel_rfl) (fun _ _ _ h => h) (Or.inl ⟨by rfl, ?hy6070⟩) (by assumption) ?ty6070
              case hy6070 => (intro w hSw; (try dsimp only at hSw); go_simp; all_goals with_reducible rfl)
              simp only [Act.put, List.getElem_toArray, List.getElem_cons_zero, List.getElem_cons_succ, List.setIfInBounds_toArray, List.set_cons_zero, List.set_cons_succ]
              refine wpAnyH_ready (rs := [4]) (by kernel_rfl) (by simp) ?_
              refine AllReadyH.cons rfl (fun K hK => ?_) AllReadyH.nil
              go_simp
              refine (HFS.out _ (by exact hr9)).mono ?_
              rintro e z1 ⟨rfl, hbx⟩
              have HZ_z1 : Hid (Below Z.heap.size Z z1) := (Below.refl _ _).drew.trans hbx
              refine hK.out _ _ ⟨(HZ_z1.out.cell (p := ⟨g11, 0, none⟩) m11).trans j0, (HZ_z1.out.cell (p := ⟨g11, 1, none⟩) m11).trans j1, (HZ_z1.out.cell (p := ⟨g6, 1, none⟩) m6Z).trans hq9⟩ (fun hHeld => ?_)
              clear hK K
              clear hbx
              refine wpAnyH_take (i := 5) (v := ?_) rfl (by kernel_rfl) (by kernel_rfl) (by kernel_rfl) (fun _ _ _ h => h) (Or.inl ⟨by rfl, ?hy6071⟩) (by assumption) ?ty6071
              case hy6071 => (intro w hSw; (try dsimp only at hSw); go_simp; all_goals with_reducible rfl)
              simp only [Act.put, List.getElem_toArray, List.getElem_cons_zero, List.getElem_cons_succ, List.setIfInBounds_toArray, List.set_cons_zero, List.set_cons_succ]
              refine wpAnyH_take (i := 6) (v := .bool true) rfl (by kernel_rfl) (by kernel_rfl) (by kernel_rfl) (fun _ _ _ h => h) (Or.inl ⟨by rfl, ?hy6072⟩) (by assumption) ?ty6072
              case hy6072 => (intro w hSw; (try dsimp only at hSw); go_simp; first | (simp; done) | (all_goals with_reducible rfl))
              simp only [Act.put, List.getElem_toArray, List.getElem_cons_zero, List.getElem_cons_succ, List.setIfInBounds_toArray, List.set_cons_zero, List.set_cons_succ]
              refine wpAnyH_take (i := 7) (v := ?_) rfl (by kernel_rfl) (by kernel_rfl) (by kernel_rfl) (fun _ _ _ h => h) (Or.inl ⟨by rfl, ?hy6073⟩) (by assumption) ?ty6073
              case hy6073 => (intro w hSw; (try dsimp only at hSw); go_simp; all_goals with_reducible rfl)
              simp only [Act.put, List.getElem_toArray, List.getElem_cons_zero, List.getElem_cons_succ, List.setIfInBounds_toArray, List.set_cons_zero, List.set_cons_succ]
              refine wpAnyH_take (i := 8) (v := ?_) rfl (by kernel_rfl) (by kernel_rfl) (by kernel_rfl) (fun _ _ _ h => h) (Or.inl ⟨by rfl, ?hy6074⟩) (by assumption) ?ty6074
              case hy6074 => (intro w hSw; (try dsimp only at hSw); go_simp; all_goals with_reducible rfl)
              simp only [Act.put, List.getElem_toArray, List.getElem_cons_zero, List.getElem_cons_succ, List.setIfInBounds_toArray, List.set_cons_zero, List.set_cons_succ]
              refine wpAnyH_take (i := 9) (v := ?_) rfl (by kernel_rfl) (by kernel_rfl) (by kernel_rfl) (fun _ _ _ h => h) (Or.inl ⟨by rfl, ?hy6075⟩) (by assumption) ?ty6075
              case hy6075 => (intro w hSw; (try dsimp only at hSw); go_simp; all_goals with_reducible rfl)
              simp only [Act.put, List.getElem_toArray, List.getElem_cons_zero, List.getElem_cons_succ, List.setIfInBounds_toArray, List.set_cons_zero, List.set_cons_succ]
              refine wpAnyH_take (i := 10) (v := ?_) rfl (by kernel_rfl) (by kernel_rfl) (by kernel_rfl) (fun _ _ _ h => h) (Or.inl ⟨by rfl, ?hy6076⟩) (by assumption) ?ty6076
              case hy6076 => (intro w hSw; (try dsimp only at hSw); go_simp; all_goals with_reducible rfl)
              simp only [Act.put, List.getElem_toArray, List.getElem_cons_zero, List.getElem_cons_succ, List.setIfInBounds_toArray, List.set_cons_zero, List.set_cons_succ]
              refine wpAnyH_take (i := 11) (v := ?_) rfl (by kernel_rfl) (by kernel_rfl) (by kernel_rfl) (fun _ _ _ h => h) (Or.inl ⟨by rfl, ?hy6077⟩) (by assumption) ?ty6077
              case hy6077 => (intro w hSw; (try dsimp only at hSw); go_simp; all_goals with_reducible rfl)
              simp only [Act.put, List.getElem_toArray, List.getElem_cons_zero, List.getElem_cons_succ, List.setIfInBounds_toArray, List.set_cons_zero, List.set_cons_succ]
              refine wpAnyH_ready (rs := [12]) (by kernel_rfl) (by simp) ?_
              refine AllReadyH.cons rfl (fun K hK => ?_) AllReadyH.nil
              go_simp
              refine (HFS.out _ (by exact hr9.below HZ_z1.out)).mono ?_
              rintro e z2 ⟨rfl, hbx⟩
              have HZ_z2 : Hid (Below Z.heap.size Z z2) := HZ_z1.out.trans (hbx.mono HZ_z1.out.size)
              refine hK.out _ _ ⟨(HZ_z2.out.cell (p := ⟨g11, 0, none⟩) m11).trans j0, (HZ_z2.out.cell (p := ⟨g11, 1, none⟩) m11).trans j1, (HZ_z2.out.cell (p := ⟨g6, 1, none⟩) m6Z).trans hq9⟩ (fun hHeld => ?_)
              clear hK K
              clear hbx
              refine wpAnyH_take (i := 13) (v := ?_) rfl (by kernel_rfl) (by kernel_rfl) (by kernel_rfl) (fun _ _ _ h => h) (Or.inl ⟨by rfl, ?hy6078⟩) (by assumption) ?ty6078
              case hy6078 => (intro w hSw; (try dsimp only at hSw); go_simp; all_goals with_reducible rfl)
              simp only [Act.put, List.getElem_toArray, List.getElem_cons_zero, List.getElem_cons_succ, List.setIfInBounds_toArray, List.set_cons_zero, List.set_cons_succ]
              refine wpAnyH_take (i := 14) (v := .bool true) rfl (by kernel_rfl) (by kernel_rfl) (by kernel_rfl) (fun _ _ _ h => h) (Or.inl ⟨by rfl, ?hy6079⟩) (by assumption) ?ty6079
              case hy6079 => (intro w hSw; (try dsimp only at hSw); go_simp; first | (simp; done) | (all_goals with_reducible rfl))
              simp only [Act.put, List.getElem_toArray, List.getElem_cons_zero, List.getElem_cons_succ, List.setIfInBounds_toArray, List.set_cons_zero, List.set_cons_succ]
              refine wpAnyH_take (i := 15) (v := ?_) rfl (by kernel_rfl) (by kernel_rfl) (by kernel_rfl) (fun _ _ _ h => h) (Or.inl ⟨by rfl, ?hy6080⟩) (by assumption) ?ty6080
              case hy6080 => (intro w hSw; (try dsimp only at hSw); go_simp; all_goals with_reducible rfl)
              simp only [Act.put, List.getElem_toArray, List.getElem_cons_zero, List.getElem_cons_succ, List.setIfInBounds_toArray, List.set_cons_zero, List.set_cons_succ]
              refine wpAnyH_take (i := 16) (v := ?_) rfl (by kernel_rfl) (by kernel_rfl) (by kernel_rfl) (fun _ _ _ h => h) (Or.inl ⟨by rfl, ?hy6081⟩) (by assumption) ?ty6081
              case hy6081 => (intro w hSw; (try dsimp only at hSw); go_simp; all_goals with_reducible rfl)
              simp only [Act.put, List.getElem_toArray, List.getElem_cons_zero, List.getElem_cons_succ, List.setIfInBounds_toArray, List.set_cons_zero, List.set_cons_succ]
              refine wpAnyH_take (i := 17) (v := ?_) rfl (by kernel_rfl) (by kernel_rfl) (by kernel_rfl) (fun _ _ _ h => h) (Or.inl ⟨by rfl, ?hy6082⟩) (by assumption) ?ty6082
              case hy6082 => (intro w hSw; (try dsimp only at hSw); go_simp; all_goals with_reducible rfl)
              simp only [Act.put, List.getElem_toArray, List.getElem_cons_zero, List.getElem_cons_succ, List.setIfInBounds_toArray, List.set_cons_zero, List.set_cons_succ]
              refine wpAnyH_take (i := 18) (v := ?_) rfl (by kernel_rfl) (by kernel_rfl) (by kernel_rfl) (fun _ _ _ h => h) (Or.inl ⟨by rfl, ?hy6083⟩) (by assumption) ?ty6083
              case hy6083 => (intro w hSw; (try dsimp only at hSw); go_simp; all_goals with_reducible rfl)
              simp only [Act.put, List.getElem_toArray, List.getElem_cons_zero, List.getElem_cons_succ, List.setIfInBounds_toArray, List.set_cons_zero, List.set_cons_succ]
              refine wpAnyH_take (i := 19) (v := ?_) rfl (by kernel_rfl) (by kernel_rfl) (by kernel_rfl) (fun _ _ _ h => h) (Or.inl ⟨by rfl, ?hy6084⟩) (by assumption) ?ty6084
              case hy6084 => (intro w hSw; (try dsimp only at hSw); go_simp; all_goals with_reducible rfl)
              simp only [Act.put, List.getElem_toArray, List.getElem_cons_zero, List.getElem_cons_succ, List.setIfInBounds_toArray, List.set_cons_zero, List.set_cons_succ]
              refine wpAnyH_take (i := 20) (v := .bool true) rfl (by kernel_rfl) (by kernel_rfl) (by kernel_rfl) (fun _ _ _ h => h) (Or.inl ⟨by rfl, ?hy6085⟩) (by assumption) ?ty6085
              case hy6085 => (intro w hSw; (try dsimp only at hSw); go_simp; first | (simp [hM0]; done) | omega | (simp; omega) | (all_goals with_reducible rfl))
              simp only [Act.put, List.getElem_toArray, List.getElem_cons_zero, List.getElem_cons_succ, List.setIfInBounds_toArray, List.set_cons_zero, List.set_cons_succ]
              refine wpAnyH_take (i := 21) (v := ?_) rfl (by kernel_rfl) (by kernel_rfl) (by kernel_rfl) (fun _ _ _ h => h) (Or.inl ⟨by rfl, ?hy6086⟩) (by assumption) ?ty6086
              case hy6086 => (intro w hSw; (try dsimp only at hSw); go_simp; all_goals with_reducible rfl)
              simp only [Act.put, List.getElem_toArray, List.getElem_cons_zero, List.getElem_cons_succ, List.setIfInBounds_toArray, List.set_cons_zero, List.set_cons_succ]
              refine wpAnyH_take (i := 22) (v := ?_) rfl (by kernel_rfl) (by kernel_rfl) (by kernel_rfl) (fun _ _ _ h => h) (Or.inl ⟨by rfl, ?hy6087⟩) (by assumption) ?ty6087
              case hy6087 => (intro w hSw; (try dsimp only at hSw); go_simp; all_goals with_reducible rfl)
              simp only [Act.put, List.getElem_toArray, List.getElem_cons_zero, List.getElem_cons_succ, List.setIfInBounds_toArray, List.set_cons_zero, List.set_cons_succ]
              refine wpAnyH_done (by kernel_rfl) ?_ _
              have HF : Hid (Below w.heap.size w z2) := HBI.out.trans (HZ_z2.out.mono HBI.out.size)
              clear hHeld HZ_z1 HZ_z2 HFS HBI
              go_wp2
              go_ret
              exact ⟨rfl, HF.out⟩
      · have en : (e0 != 0) = true := by simp; omega
        clear HBK HM
        go_wp2_with fail
        generalize w4.alloc (.cells #[.int .i64 e0, .slice b4 M c4] 32) = V at *
        generalize w4.heap.size = g6 at *
        have hg6 : g6 < V.heap.size := by omega
        refine wp_region_held_drew (S := fun w' => w'.cell? ⟨g6, 0, none⟩ = some (.int .i64 e0)) (by kernel_rfl) ?hS6088 (fun hHeld => ?_)
        case hS6088 => exact q0
        refine wpAnyH_take (i := 0) (v := ?_) rfl (by kernel_rfl) (by kernel_rfl) (by kernel_rfl) (fun _ _ _ h => h) (Or.inl ⟨by rfl, ?hy6089⟩) (by assumption) ?ty6089
        case hy6089 => (intro w hSw; (try dsimp only at hSw); go_simp; all_goals with_reducible rfl)
        simp only [Act.put, List.getElem_toArray, List.getElem_cons_zero, List.setIfInBounds_toArray, List.set_cons_zero, List.set_cons_succ]
        refine wpAnyH_take (i := 3) (v := ?_) rfl (by kernel_rfl) (by kernel_rfl) (by kernel_rfl) (fun _ _ _ h => h) (Or.inl ⟨by rfl, ?hy6090⟩) (by assumption) ?ty6090
        case hy6090 => (intro w hSw; (try dsimp only at hSw); go_simp; all_goals with_reducible rfl)
        simp only [Act.put, List.getElem_toArray, List.getElem_cons_zero, List.getElem_cons_succ, List.setIfInBounds_toArray, List.set_cons_zero, List.set_cons_succ]
        refine wpAnyH_take (i := 4) (v := ?_) rfl (by kernel_rfl) (by kernel_rfl) (by kernel_rfl) (fun _ _ _ h => h) (Or.inl ⟨by rfl, ?hy6091⟩) (by assumption) ?ty6091
        case hy6091 => (intro w hSw; (try dsimp only at hSw); go_simp; all_goals with_reducible rfl)
        simp only [Act.put, List.getElem_toArray, List.getElem_cons_zero, List.getElem_cons_succ, List.setIfInBounds_toArray, List.set_cons_zero, List.set_cons_succ]
        refine wpAnyH_ready (rs := [1]) (by kernel_rfl) (by simp) ?_
        refine AllReadyH.cons rfl (fun K hK => ?_) AllReadyH.nil
        go_simp
        refine (HPS2.out _ (by exact hs4)).mono ?_
        rintro e z1 ⟨v5, rfl, -, hbx⟩
        simp only
        have HZ : Hid (Below V.heap.size V z1) := (Below.refl _ _).drew.trans hbx
        have hsS := (HZ.out.cell (p := ⟨g6, 0, none⟩) hg6).trans q0
        refine hK.out _ _ hsS (fun hHeld => ?_)
        clear hK K
        clear hbx hsS
        refine wpAnyH_take (i := 2) (v := ?_) rfl (by kernel_rfl) (by kernel_rfl) (by kernel_rfl) (fun _ _ _ h => h) (Or.inl ⟨by rfl, ?hy6092⟩) (by assumption) ?ty6092
        case hy6092 => (intro w hSw; (try dsimp only at hSw); go_simp; all_goals with_reducible rfl)
        simp only [Act.put, List.getElem_toArray, List.getElem_cons_zero, List.getElem_cons_succ, List.setIfInBounds_toArray, List.set_cons_zero, List.set_cons_succ]
        refine wpAnyH_take (i := 5) (v := .bool true) rfl (by kernel_rfl) (by kernel_rfl) (by kernel_rfl) (fun _ _ _ h => h) (Or.inl ⟨by rfl, ?hy6093⟩) (by assumption) ?ty6093
        case hy6093 => (intro w hSw; (try dsimp only at hSw); go_simp; first | (simp; done) | (all_goals with_reducible rfl))
        simp only [Act.put, List.getElem_toArray, List.getElem_cons_zero, List.getElem_cons_succ, List.setIfInBounds_toArray, List.set_cons_zero, List.set_cons_succ]
        refine wpAnyH_take (i := 6) (v := ?_) rfl (by kernel_rfl) (by kernel_rfl) (by kernel_rfl) (fun _ _ _ h => h) (Or.inl ⟨by rfl, ?hy6094⟩) (by assumption) ?ty6094
        case hy6094 => (intro w hSw; (try dsimp only at hSw); go_simp; all_goals with_reducible rfl)
        simp only [Act.put, List.getElem_toArray, List.getElem_cons_zero, List.getElem_cons_succ, List.setIfInBounds_toArray, List.set_cons_zero, List.set_cons_succ]
        refine wpAnyH_done (by kernel_rfl) ?_ _
        have HF : Hid (Below w.heap.size w z1) := HB4.out.trans (HZ.out.mono HB4.out.size)
        clear hHeld HZ HPS2 HB4
        go_wp2
        go_ret
        exact ⟨rfl, HF.out⟩
    · have e0 : (pc == 0) = false := beq_eq_false_iff_ne.2 hd0
      refine wp_region_held_drew (S := fun w' => w'.cell? ⟨g, 0, none⟩ = some (.int .i64 pc) ∧ w'.cell? ⟨g, 1, none⟩ = some (.int .i64 (k : Int)) ∧ w'.cell? ⟨g, 2, none⟩ = some (.slice b2 N c2)) (by kernel_rfl) ?hS36 (fun hHeld => ?_)
      case hS36 => exact ⟨k0, k1, k2⟩
      refine wpAnyH_take (i := 0) (v := ?_) rfl (by kernel_rfl) (by kernel_rfl) (by kernel_rfl) (fun _ _ _ h => h) (Or.inl ⟨by rfl, ?hy37⟩) (by assumption) ?ty37
      case hy37 => (intro w hSw; (try dsimp only at hSw); go_simp; all_goals with_reducible rfl)
      simp only [Act.put, List.getElem_toArray, List.getElem_cons_zero, List.setIfInBounds_toArray, List.set_cons_zero, List.set_cons_succ]
      refine wpAnyH_take (i := 1) (v := ?_) rfl (by kernel_rfl) (by kernel_rfl) (by kernel_rfl) (fun _ _ _ h => h) (Or.inl ⟨by rfl, ?hy38⟩) (by assumption) ?ty38
      case hy38 => (intro w hSw; (try dsimp only at hSw); go_simp; all_goals with_reducible rfl)
      simp only [Act.put, List.getElem_toArray, List.getElem_cons_zero, List.getElem_cons_succ, List.setIfInBounds_toArray, List.set_cons_zero, List.set_cons_succ]
      refine wpAnyH_take (i := 2) (v := ?_) rfl (by kernel_rfl) (by kernel_rfl) (by kernel_rfl) (fun _ _ _ h => h) (Or.inl ⟨by rfl, ?hy39⟩) (by assumption) ?ty39
      case hy39 => (intro w hSw; (try dsimp only at hSw); go_simp; all_goals with_reducible rfl)
      simp only [Act.put, List.getElem_toArray, List.getElem_cons_zero, List.getElem_cons_succ, List.setIfInBounds_toArray, List.set_cons_zero, List.set_cons_succ]
      refine wpAnyH_ready (rs := [3]) (by kernel_rfl) (by simp) ?_
      refine AllReadyH.cons rfl (fun K hK => ?_) AllReadyH.nil
      go_simp
      refine (HPS.out _ (by exact hrW)).mono ?_
      rintro e y1 ⟨v3, rfl, -, hbx⟩
      simp only
      have HW_y1 : Hid (Below W.heap.size W y1) := (Below.refl _ _).drew.trans hbx
      have hsS : (y1.cell? ⟨g, 0, none⟩ = some (.int .i64 pc) ∧ y1.cell? ⟨g, 1, none⟩ = some (.int .i64 (k : Int)) ∧ y1.cell? ⟨g, 2, none⟩ = some (.slice b2 N c2)) := ⟨(HW_y1.out.cell (p := ⟨g, 0, none⟩) hgg).trans k0, (HW_y1.out.cell (p := ⟨g, 1, none⟩) hgg).trans k1, (HW_y1.out.cell (p := ⟨g, 2, none⟩) hgg).trans k2⟩
      refine hK.out _ _ hsS (fun hHeld => ?_)
      clear hK K
      clear hsS
      clear hbx
      refine wpAnyH_take (i := 4) (v := ?_) rfl (by kernel_rfl) (by kernel_rfl) (by kernel_rfl) (fun _ _ _ h => h) (Or.inl ⟨by rfl, ?hy40⟩) (by assumption) ?ty40
      case hy40 => (intro w hSw; (try dsimp only at hSw); go_simp; all_goals with_reducible rfl)
      simp only [Act.put, List.getElem_toArray, List.getElem_cons_zero, List.getElem_cons_succ, List.setIfInBounds_toArray, List.set_cons_zero, List.set_cons_succ]
      refine wpAnyH_take (i := 5) (v := .bool false) rfl (by kernel_rfl) (by kernel_rfl) (by kernel_rfl) (fun _ _ _ h => h) (Or.inl ⟨by rfl, ?hy41⟩) (by assumption) ?ty41
      case hy41 => (intro w hSw; (try dsimp only at hSw); go_simp; first | (simp; done) | (all_goals with_reducible rfl))
      simp only [Act.put, List.getElem_toArray, List.getElem_cons_zero, List.getElem_cons_succ, List.setIfInBounds_toArray, List.set_cons_zero, List.set_cons_succ]
      refine wpAnyH_take (i := 6) (v := ?_) rfl (by kernel_rfl) (by kernel_rfl) (by kernel_rfl) (fun _ _ _ h => h) (Or.inl ⟨by rfl, ?hy42⟩) (by assumption) ?ty42
      case hy42 => (intro w hSw; (try dsimp only at hSw); go_simp; all_goals with_reducible rfl)
      simp only [Act.put, List.getElem_toArray, List.getElem_cons_zero, List.getElem_cons_succ, List.setIfInBounds_toArray, List.set_cons_zero, List.set_cons_succ]
      refine wpAnyH_take (i := 7) (v := ?_) rfl (by kernel_rfl) (by kernel_rfl) (by kernel_rfl) (fun _ _ _ h => h) (Or.inl ⟨by rfl, ?hy43⟩) (by assumption) ?ty43
      case hy43 => (intro w hSw; (try dsimp only at hSw); go_simp; all_goals with_reducible rfl)
      simp only [Act.put, List.getElem_toArray, List.getElem_cons_zero, List.getElem_cons_succ, List.setIfInBounds_toArray, List.set_cons_zero, List.set_cons_succ]
      refine wpAnyH_take (i := 8) (v := ?_) rfl (by kernel_rfl) (by kernel_rfl) (by kernel_rfl) (fun _ _ _ h => h) (Or.inl ⟨by rfl, ?hy44⟩) (by assumption) ?ty44
      case hy44 => (intro w hSw; (try dsimp only at hSw); go_simp; all_goals with_reducible rfl)
      simp only [Act.put, List.getElem_toArray, List.getElem_cons_zero, List.getElem_cons_succ, List.setIfInBounds_toArray, List.set_cons_zero, List.set_cons_succ]
      refine wpAnyH_take (i := 9) (v := ?_) rfl (by kernel_rfl) (by kernel_rfl) (by kernel_rfl) (fun _ _ _ h => h) (Or.inl ⟨by rfl, ?hy45⟩) (by assumption) ?ty45
      case hy45 => (intro w hSw; (try dsimp only at hSw); go_simp; all_goals with_reducible rfl)
      simp only [Act.put, List.getElem_toArray, List.getElem_cons_zero, List.getElem_cons_succ, List.setIfInBounds_toArray, List.set_cons_zero, List.set_cons_succ]
      refine wpAnyH_ready (rs := [10]) (by kernel_rfl) (by simp) ?_
      refine AllReadyH.cons rfl (fun K hK => ?_) AllReadyH.nil
      go_simp
      refine (HPS.out _ (by exact hrW.below HW_y1.out)).mono ?_
      rintro e y2 ⟨v3, rfl, -, hbx⟩
      simp only
      have HW_y2 : Hid (Below W.heap.size W y2) := HW_y1.out.trans (hbx.mono HW_y1.out.size)
      have hsS : (y2.cell? ⟨g, 0, none⟩ = some (.int .i64 pc) ∧ y2.cell? ⟨g, 1, none⟩ = some (.int .i64 (k : Int)) ∧ y2.cell? ⟨g, 2, none⟩ = some (.slice b2 N c2)) := ⟨(HW_y2.out.cell (p := ⟨g, 0, none⟩) hgg).trans k0, (HW_y2.out.cell (p := ⟨g, 1, none⟩) hgg).trans k1, (HW_y2.out.cell (p := ⟨g, 2, none⟩) hgg).trans k2⟩
      refine hK.out _ _ hsS (fun hHeld => ?_)
      clear hK K
      clear hsS
      clear hbx
      refine wpAnyH_take (i := 11) (v := ?_) rfl (by kernel_rfl) (by kernel_rfl) (by kernel_rfl) (fun _ _ _ h => h) (Or.inl ⟨by rfl, ?hy46⟩) (by assumption) ?ty46
      case hy46 => (intro w hSw; (try dsimp only at hSw); go_simp; all_goals with_reducible rfl)
      simp only [Act.put, List.getElem_toArray, List.getElem_cons_zero, List.getElem_cons_succ, List.setIfInBounds_toArray, List.set_cons_zero, List.set_cons_succ]
      refine wpAnyH_take (i := 12) (v := .bool false) rfl (by kernel_rfl) (by kernel_rfl) (by kernel_rfl) (fun _ _ _ h => h) (Or.inl ⟨by rfl, ?hy47⟩) (by assumption) ?ty47
      case hy47 => (intro w hSw; (try dsimp only at hSw); go_simp; first | (simp; done) | (all_goals with_reducible rfl))
      simp only [Act.put, List.getElem_toArray, List.getElem_cons_zero, List.getElem_cons_succ, List.setIfInBounds_toArray, List.set_cons_zero, List.set_cons_succ]
      refine wpAnyH_take (i := 13) (v := ?_) rfl (by kernel_rfl) (by kernel_rfl) (by kernel_rfl) (fun _ _ _ h => h) (Or.inl ⟨by rfl, ?hy48⟩) (by assumption) ?ty48
      case hy48 => (intro w hSw; (try dsimp only at hSw); go_simp; all_goals with_reducible rfl)
      simp only [Act.put, List.getElem_toArray, List.getElem_cons_zero, List.getElem_cons_succ, List.setIfInBounds_toArray, List.set_cons_zero, List.set_cons_succ]
      refine wpAnyH_take (i := 14) (v := ?_) rfl (by kernel_rfl) (by kernel_rfl) (by kernel_rfl) (fun _ _ _ h => h) (Or.inl ⟨by rfl, ?hy49⟩) (by assumption) ?ty49
      case hy49 => (intro w hSw; (try dsimp only at hSw); go_simp; all_goals with_reducible rfl)
      simp only [Act.put, List.getElem_toArray, List.getElem_cons_zero, List.getElem_cons_succ, List.setIfInBounds_toArray, List.set_cons_zero, List.set_cons_succ]
      refine wpAnyH_take (i := 15) (v := ?_) rfl (by kernel_rfl) (by kernel_rfl) (by kernel_rfl) (fun _ _ _ h => h) (Or.inl ⟨by rfl, ?hy50⟩) (by assumption) ?ty50
      case hy50 => (intro w hSw; (try dsimp only at hSw); go_simp; all_goals with_reducible rfl)
      simp only [Act.put, List.getElem_toArray, List.getElem_cons_zero, List.getElem_cons_succ, List.setIfInBounds_toArray, List.set_cons_zero, List.set_cons_succ]
      refine wpAnyH_take (i := 16) (v := ?_) rfl (by kernel_rfl) (by kernel_rfl) (by kernel_rfl) (fun _ _ _ h => h) (Or.inl ⟨by rfl, ?hy51⟩) (by assumption) ?ty51
      case hy51 => (intro w hSw; (try dsimp only at hSw); go_simp; all_goals with_reducible rfl)
      simp only [Act.put, List.getElem_toArray, List.getElem_cons_zero, List.getElem_cons_succ, List.setIfInBounds_toArray, List.set_cons_zero, List.set_cons_succ]
      refine wpAnyH_take (i := 17) (v := .bool false) rfl (by kernel_rfl) (by kernel_rfl) (by kernel_rfl) (fun _ _ _ h => h) (Or.inl ⟨by rfl, ?hy52⟩) (by assumption) ?ty52
      case hy52 => (intro w hSw; (try dsimp only at hSw); go_simp; first | (simp [hk0]; done) | (simp; done) | (all_goals with_reducible rfl))
      simp only [Act.put, List.getElem_toArray, List.getElem_cons_zero, List.getElem_cons_succ, List.setIfInBounds_toArray, List.set_cons_zero, List.set_cons_succ]
      refine wpAnyH_take (i := 18) (v := ?_) rfl (by kernel_rfl) (by kernel_rfl) (by kernel_rfl) (fun _ _ _ h => h) (Or.inl ⟨by rfl, ?hy53⟩) (by assumption) ?ty53
      case hy53 => (intro w hSw; (try dsimp only at hSw); go_simp; all_goals with_reducible rfl)
      simp only [Act.put, List.getElem_toArray, List.getElem_cons_zero, List.getElem_cons_succ, List.setIfInBounds_toArray, List.set_cons_zero, List.set_cons_succ]
      refine wpAnyH_take (i := 19) (v := ?_) rfl (by kernel_rfl) (by kernel_rfl) (by kernel_rfl) (fun _ _ _ h => h) (Or.inl ⟨by rfl, ?hy54⟩) (by assumption) ?ty54
      case hy54 => (intro w hSw; (try dsimp only at hSw); go_simp; all_goals with_reducible rfl)
      simp only [Act.put, List.getElem_toArray, List.getElem_cons_zero, List.getElem_cons_succ, List.setIfInBounds_toArray, List.set_cons_zero, List.set_cons_succ]
      refine wpAnyH_take (i := 20) (v := ?_) rfl (by kernel_rfl) (by kernel_rfl) (by kernel_rfl) (fun _ _ _ h => h) (Or.inl ⟨by rfl, ?hy55⟩) (by assumption) ?ty55
      case hy55 => (intro w hSw; (try dsimp only at hSw); go_simp; all_goals with_reducible rfl)
      simp only [Act.put, List.getElem_toArray, List.getElem_cons_zero, List.getElem_cons_succ, List.setIfInBounds_toArray, List.set_cons_zero, List.set_cons_succ]
      refine wpAnyH_take (i := 21) (v := ?_) rfl (by kernel_rfl) (by kernel_rfl) (by kernel_rfl) (fun _ _ _ h => h) (Or.inl ⟨by rfl, ?hy56⟩) (by assumption) ?ty56
      case hy56 => (intro w hSw; (try dsimp only at hSw); go_simp; all_goals with_reducible rfl)
      simp only [Act.put, List.getElem_toArray, List.getElem_cons_zero, List.getElem_cons_succ, List.setIfInBounds_toArray, List.set_cons_zero, List.set_cons_succ]
      refine wpAnyH_take (i := 22) (v := ?_) rfl (by kernel_rfl) (by kernel_rfl) (by kernel_rfl) (fun _ _ _ h => h) (Or.inl ⟨by rfl, ?hy57⟩) (by assumption) ?ty57
      case hy57 => (intro w hSw; (try dsimp only at hSw); go_simp; all_goals with_reducible rfl)
      simp only [Act.put, List.getElem_toArray, List.getElem_cons_zero, List.getElem_cons_succ, List.setIfInBounds_toArray, List.set_cons_zero, List.set_cons_succ]
      refine wpAnyH_take (i := 23) (v := ?_) rfl (by kernel_rfl) (by kernel_rfl) (by kernel_rfl) (fun _ _ _ h => h) (Or.inl ⟨by rfl, ?hy58⟩) (by assumption) ?ty58
      case hy58 => (intro w hSw; (try dsimp only at hSw); go_simp; all_goals with_reducible rfl)
      simp only [Act.put, List.getElem_toArray, List.getElem_cons_zero, List.getElem_cons_succ, List.setIfInBounds_toArray, List.set_cons_zero, List.set_cons_succ]
      refine wpAnyH_take (i := 24) (v := .bool false) rfl (by kernel_rfl) (by kernel_rfl) (by kernel_rfl) (fun _ _ _ h => h) (Or.inl ⟨by rfl, ?hy59⟩) (by assumption) ?ty59
      case hy59 => (intro w hSw; (try dsimp only at hSw); go_simp; first | (simp [hkn]; done) | (simp; done) | (all_goals with_reducible rfl))
      simp only [Act.put, List.getElem_toArray, List.getElem_cons_zero, List.getElem_cons_succ, List.setIfInBounds_toArray, List.set_cons_zero, List.set_cons_succ]
      refine wpAnyH_take (i := 25) (v := ?_) rfl (by kernel_rfl) (by kernel_rfl) (by kernel_rfl) (fun _ _ _ h => h) (Or.inl ⟨by rfl, ?hy60⟩) (by assumption) ?ty60
      case hy60 => (intro w hSw; (try dsimp only at hSw); go_simp; all_goals with_reducible rfl)
      simp only [Act.put, List.getElem_toArray, List.getElem_cons_zero, List.getElem_cons_succ, List.setIfInBounds_toArray, List.set_cons_zero, List.set_cons_succ]
      refine wpAnyH_take (i := 26) (v := ?_) rfl (by kernel_rfl) (by kernel_rfl) (by kernel_rfl) (fun _ _ _ h => h) (Or.inl ⟨by rfl, ?hy61⟩) (by assumption) ?ty61
      case hy61 => (intro w hSw; (try dsimp only at hSw); go_simp; all_goals with_reducible rfl)
      simp only [Act.put, List.getElem_toArray, List.getElem_cons_zero, List.getElem_cons_succ, List.setIfInBounds_toArray, List.set_cons_zero, List.set_cons_succ]
      refine wpAnyH_take (i := 27) (v := ?_) rfl (by kernel_rfl) (by kernel_rfl) (by kernel_rfl) (fun _ _ _ h => h) (Or.inl ⟨by rfl, ?hy62⟩) (by assumption) ?ty62
      case hy62 => (intro w hSw; (try dsimp only at hSw); go_simp; all_goals with_reducible rfl)
      simp only [Act.put, List.getElem_toArray, List.getElem_cons_zero, List.getElem_cons_succ, List.setIfInBounds_toArray, List.set_cons_zero, List.set_cons_succ]
      refine wpAnyH_take (i := 28) (v := ?_) rfl (by kernel_rfl) (by kernel_rfl) (by kernel_rfl) (fun _ _ _ h => h) (Or.inl ⟨by rfl, ?hy63⟩) (by assumption) ?ty63
      case hy63 => (intro w hSw; (try dsimp only at hSw); go_simp; all_goals with_reducible rfl)
      simp only [Act.put, List.getElem_toArray, List.getElem_cons_zero, List.getElem_cons_succ, List.setIfInBounds_toArray, List.set_cons_zero, List.set_cons_succ]
      refine wpAnyH_take (i := 29) (v := .bool false) rfl (by kernel_rfl) (by kernel_rfl) (by kernel_rfl) (fun _ _ _ h => h) (Or.inl ⟨by rfl, ?hy64⟩) (by assumption) ?ty64
      case hy64 => (intro w hSw; (try dsimp only at hSw); go_simp; first | (simp; done) | (all_goals with_reducible rfl))
      simp only [Act.put, List.getElem_toArray, List.getElem_cons_zero, List.getElem_cons_succ, List.setIfInBounds_toArray, List.set_cons_zero, List.set_cons_succ]
      refine wpAnyH_take (i := 30) (v := ?_) rfl (by kernel_rfl) (by kernel_rfl) (by kernel_rfl) (fun _ _ _ h => h) (Or.inl ⟨by rfl, ?hy65⟩) (by assumption) ?ty65
      case hy65 => (intro w hSw; (try dsimp only at hSw); go_simp; all_goals with_reducible rfl)
      simp only [Act.put, List.getElem_toArray, List.getElem_cons_zero, List.getElem_cons_succ, List.setIfInBounds_toArray, List.set_cons_zero, List.set_cons_succ]
      refine wpAnyH_take (i := 31) (v := undef) rfl (by kernel_rfl) (by kernel_rfl) (by kernel_rfl) (fun _ _ _ h => h) (Or.inr ⟨by rfl, rfl⟩) (by assumption) ?_
      simp only [Act.put, List.getElem_toArray, List.getElem_cons_zero, List.getElem_cons_succ, List.setIfInBounds_toArray, List.set_cons_zero, List.set_cons_succ]
      refine wpAnyH_take (i := 32) (v := undef) rfl (by kernel_rfl) (by kernel_rfl) (by kernel_rfl) (fun _ _ _ h => h) (Or.inr ⟨by rfl, rfl⟩) (by assumption) ?_
      simp only [Act.put, List.getElem_toArray, List.getElem_cons_zero, List.getElem_cons_succ, List.setIfInBounds_toArray, List.set_cons_zero, List.set_cons_succ]
      refine wpAnyH_take (i := 33) (v := undef) rfl (by kernel_rfl) (by kernel_rfl) (by kernel_rfl) (fun _ _ _ h => h) (Or.inr ⟨by rfl, rfl⟩) (by assumption) ?_
      simp only [Act.put, List.getElem_toArray, List.getElem_cons_zero, List.getElem_cons_succ, List.setIfInBounds_toArray, List.set_cons_zero, List.set_cons_succ]
      refine wpAnyH_take (i := 34) (v := undef) rfl (by kernel_rfl) (by kernel_rfl) (by kernel_rfl) (fun _ _ _ h => h) (Or.inr ⟨by rfl, rfl⟩) (by assumption) ?_
      simp only [Act.put, List.getElem_toArray, List.getElem_cons_zero, List.getElem_cons_succ, List.setIfInBounds_toArray, List.set_cons_zero, List.set_cons_succ]
      refine wpAnyH_take (i := 35) (v := ?_) rfl (by kernel_rfl) (by kernel_rfl) (by kernel_rfl) (fun _ _ _ h => h) (Or.inl ⟨by rfl, ?hy66⟩) (by assumption) ?ty66
      case hy66 => (intro w hSw; (try dsimp only at hSw); go_simp; all_goals with_reducible rfl)
      simp only [Act.put, List.getElem_toArray, List.getElem_cons_zero, List.getElem_cons_succ, List.setIfInBounds_toArray, List.set_cons_zero, List.set_cons_succ]
      refine wpAnyH_take (i := 36) (v := ?_) rfl (by kernel_rfl) (by kernel_rfl) (by kernel_rfl) (fun _ _ _ h => h) (Or.inl ⟨by rfl, ?hy67⟩) (by assumption) ?ty67
      case hy67 => (intro w hSw; (try dsimp only at hSw); go_simp; all_goals with_reducible rfl)
      simp only [Act.put, List.getElem_toArray, List.getElem_cons_zero, List.getElem_cons_succ, List.setIfInBounds_toArray, List.set_cons_zero, List.set_cons_succ]
      refine wpAnyH_done (by kernel_rfl) ?_ _
      have HBF : Hid (Below w.heap.size w y2) := HB2.out.trans (HW_y2.out.mono HB2.out.size)
      clear hHeld HW_y1 HW_y2  HB2 HPS HFF hf2 k0 k1 k2 hgg hsW hrW hk0 hkn
      generalize y2 = wE at HBF ⊢
      go_wp2_with fail
      refine (drawPackHeader_any a n cap l _ hl (hr.below HBF.out) hB (by omega)).mono ?_
      rintro e w3 ⟨v3, ls, rfl, ho3, hk9, hD3, hb3⟩
      obtain ⟨ap, mc, hv, hmc, -⟩ := ho3.form
      obtain ⟨m, hm⟩ : ∃ m, ls.length = m := ⟨_, rfl⟩
      have HSL : Hid (ls.length = m) := hm
      rw [hm] at hk9 hv hmc
      subst hv
      clear hm
      have hrs := ho3.rd.2
      have HB3 : Hid (Below w.heap.size w w3) := HBF.out.trans (hb3.mono HBF.out.size)
      clear hb3 HBF ho3
      have HPK := packHeader_any ap m mc ls w3 HSL.out hrs (by omega) hD3.fit
      have HPS2 : Hid (∀ w, RdF w ap ls → Calls Try.prog 12 #[.slice ap m mc] w fun e w' => BytEnd (pkV ls) w e w') := fun w h => specPackHeader_any ap m mc ls w HSL.out h (by omega) hD3.fit
      have HBK : Hid ((pkV ls).1 = 0 → fdF ls = 0 ∧ (pkV ls).2 = pkH ls ++ [10] ∧ (pkV ls).2.length ≤ 400) := pk_ok ls
      generalize pkV ls = E at *
      obtain ⟨e0, et⟩ := E
      simp only at HBK
      obtain ⟨M, hM⟩ : ∃ M, et.length = M := ⟨_, rfl⟩
      have HM : Hid (et.length = M) := hM
      clear hM
      go_wp2_with fail
      refine HPK.mono ?_
      rintro e w4 ⟨v4, rfl, hown4, hb4⟩
      simp only at hown4 ⊢
      obtain ⟨b4, c4, hv, hc4, -⟩ := hown4.form
      rw [HM.out] at hv hc4
      rw [hv] at hown4 ⊢
      clear hv
      have hbA : Below w4.heap.size w4 (w4.alloc (.cells #[.int .i64 e0, .slice b4 M c4] 32)) := (Below.refl _ _).alloc (Nat.le_refl _) _
      have hX4 : Below w3.heap.size w3 (w4.alloc (.cells #[.int .i64 e0, .slice b4 M c4] 32)) := hb4.trans (hbA.mono hb4.size)
      have HB4 : Hid (Below w.heap.size w (w4.alloc (.cells #[.int .i64 e0, .slice b4 M c4] 32))) := HB3.out.trans (hX4.mono HB3.out.size)
      have hs4 := hrs.below hX4
      have hp4 := hown4.rd.2.below hbA
      obtain ⟨q0, q1, -, -⟩ := res_block (w := w4) (wr := w4.alloc (.cells #[.int .i64 e0, .slice b4 M c4] 32)) rfl (Below.refl _ _)
      have hsW4 : (w4.alloc (.cells #[.int .i64 e0, .slice b4 M c4] 32)).heap.size = w4.heap.size + 1 := by simp
      clear hb4 hX4 hrs HPK hbA HB3 hown4
      by_cases he0 : e0 = 0
      · subst he0
        obtain ⟨hfl, het, h400⟩ := HBK.out rfl
        have hM1 : 1 ≤ M := by rw [← HM.out, het]; simp
        have hM4 : M ≤ 400 := by rw [← HM.out]; exact h400
        have hM0 : (0 : Int) < (M : Int) := by omega
        have hBet : IsB et := by
          rw [het]; intro x hx
          rcases List.mem_append.1 hx with hx | hx
          · exact pkH_isB ls x hx
          · simp at hx; omega
        have HP7 : Hid (M < 400 → phV (et ++ [97]) = (0, M, ls)) := fun h => by
          have := ph_back hfl (by rw [← het, HM.out]; exact h)
          rw [← het, HM.out] at this; exact this
        have HFO0 : Hid (∀ i, i < m → ∀ w, RdF w ap ls → Calls Try.prog 13 #[.slice ap m mc, .string (nthF ls i).1] w fun e w' => ∃ tx, e = .returned (.agg #[.int .i64 0, .string tx]) ∧ Below w.heap.size w w') := fun i hi w h => by
          have hmem : nthF ls i ∈ ls := by rw [nthF_get (by rw [HSL.out]; exact hi)]; exact List.getElem_mem _
          refine (fieldOf_any ap m mc ls (nthF ls i).1 w HSL.out h (by omega) hD3.fit (hD3.fit _ hmem).1).mono ?_
          rintro e w' ⟨rfl, hb⟩
          rw [fo_self hfl (by rw [HSL.out]; exact hi)]
          exact ⟨_, rfl, hb⟩
        clear HBK hfl het h400 HPS2
        obtain ⟨g4, o4, rfl, hg4, hc4'⟩ := hp4.at_ (by rw [HM.out]; exact hM1)
        clear hp4
        have hE : Own ((w4.alloc (.cells #[.int .i64 0, .slice (some ⟨g4, o4, none⟩) M c4] 32)).alloc (.cells #[] 5)) (w4.heap.size + 1) (.slice (some ⟨w4.heap.size + 1, 0, none⟩) 0 0) [] := by
          have := Own.lit (w4.alloc (.cells #[.int .i64 0, .slice (some ⟨g4, o4, none⟩) M c4] 32)) (w4.heap.size + 1) (by rw [hsW4]; exact Nat.le_refl _) #[] [] rfl (by decide)
          rw [hsW4] at this; exact this
        have hbE : Below (w4.heap.size + 1) (w4.alloc (.cells #[.int .i64 0, .slice (some ⟨g4, o4, none⟩) M c4] 32)) ((w4.alloc (.cells #[.int .i64 0, .slice (some ⟨g4, o4, none⟩) M c4] 32)).alloc (.cells #[] 5)) := (Below.refl _ _).alloc (by rw [hsW4]; exact Nat.le_refl _) _
        have hnw : ∀ q, q < M → ((w4.alloc (.cells #[.int .i64 0, .slice (some ⟨g4, o4, none⟩) M c4] 32)).alloc (.cells #[] 5)).cell? ((⟨g4, o4, none⟩ : Addr).add q) = some (.int .u8 (nth et q : Int)) := fun q hq => by
          rw [Go.WideShapes.add_plain]
          exact (hbE.cell (p := ⟨g4, o4 + q, none⟩) (by rw [hsW4] at hg4; exact hg4)).trans (hc4' q (by rw [HM.out]; exact hq))
        have hzE : w4.heap.size + 1 ≤ ((w4.alloc (.cells #[.int .i64 0, .slice (some ⟨g4, o4, none⟩) M c4] 32)).alloc (.cells #[] 5)).heap.size := by rw [← hsW4]; exact hbE.size
        clear hc4'
        go_wp2_with (at_builtin; first
          | (refine wpList_app rfl _ _ rfl (w4.heap.size + 1) _ [] rfl hE ⟨g4, o4, none⟩ M c4 et rfl HM.out hnw (by simp; omega) hzE ?_; intro v5 w5 ho5 hb5; clear hE hnw; rw [List.nil_append] at ho5; have hb5' := hbE.trans hb5; clear hb5 hbE)
          | (refine wpList_app_new rfl _ _ rfl (w4.heap.size + 1) _ et rfl ho5 1 1 [97] rfl rfl rfl (by have := HM.out; omega) (by have := hb5'.size; omega) ?_; intro v6 w6 ho6 hb6; have hb6' := hb5'.trans hb6; clear ho5 hb5' hb6))
        generalize w4.alloc (.cells #[.int .i64 0, .slice (some ⟨g4, o4, none⟩) M c4] 32) = V0 at *
        generalize w4.heap.size = g6 at *
        have hg60 : g6 < V0.heap.size := by omega
        rw [← hsW4] at hb6'
        obtain ⟨a6, c6, rfl, hc6, hsh6⟩ := ho6.shape
        have hB6 : IsB (et ++ [97]) := fun x hx => by
          rcases List.mem_append.1 hx with hx | hx
          · exact hBet x hx
          · simp at hx; omega
        obtain ⟨n6, hn6⟩ : ∃ n6, (et ++ [97]).length = n6 := ⟨_, rfl⟩
        have hr6 := ho6.rd.2
        rw [hn6] at hc6 ⊢
        have HP6 := parseHeader_any a6 n6 c6 (et ++ [97]) w6 hn6 hr6 hB6 hc6 hsh6
        clear hn6 hr6
        have hs6 := hs4.below hb6'
        have hq6 := (hb6'.cell (p := ⟨g6, 1, none⟩) hg60).trans q1
        have hz6 := hb6'.size
        have HB6 : Hid (Below w.heap.size w w6) := HB4.out.trans (hb6'.mono HB4.out.size)
        clear ho6 hb6' HB4 hs4 q0 q1 hBet hB6
        by_cases hM400 : M < 400
        · rw [HP7.out hM400] at HP6
          have hMi : (M : Int) < 400 := by omega
          clear HP7
          refine HP6.mono ?_
          rintro e w7 ⟨v7, rfl, ho7, hb7⟩
          simp only at ho7 ⊢
          obtain ⟨b7, c7, hv, -, -⟩ := ho7.form
          rw [HSL.out] at hv
          rw [hv] at ho7 ⊢
          clear hv
          have hbA : Below w7.heap.size w7 ((w7.alloc (.cells #[.int .i64 0, .int .i64 (M : Int), .slice b7 m c7] 27))) := (Below.refl _ _).alloc (Nat.le_refl _) _
          have hX7 : Below w6.heap.size w6 ((w7.alloc (.cells #[.int .i64 0, .int .i64 (M : Int), .slice b7 m c7] 27))) := hb7.trans (hbA.mono hb7.size)
          have HB7 : Hid (Below w.heap.size w ((w7.alloc (.cells #[.int .i64 0, .int .i64 (M : Int), .slice b7 m c7] 27)))) := HB6.out.trans (hX7.mono HB6.out.size)
          have hs7 := hs6.below hX7
          have hf7 := ho7.rd.2.below hbA
          have hq7 := (hX7.cell (p := ⟨g6, 1, none⟩) (by show g6 < w6.heap.size; omega)).trans hq6
          obtain ⟨⟨i0, i1, i2⟩, -, -, -⟩ := res_block3 (w := w7) (wr := (w7.alloc (.cells #[.int .i64 0, .int .i64 (M : Int), .slice b7 m c7] 27))) rfl (Below.refl _ _)
          have hsW7 : ((w7.alloc (.cells #[.int .i64 0, .int .i64 (M : Int), .slice b7 m c7] 27))).heap.size = w7.heap.size + 1 := by simp
          have hz7 := hb7.size
          clear hb7 hX7 hs6 HP6 ho7 hbA HB6 hq6
          go_wp2_with fail
          generalize (w7.alloc (.cells #[.int .i64 0, .int .i64 (M : Int), .slice b7 m c7] 27)) = Y at *
          generalize w7.heap.size = g7 at *
          have m6 : g6 < Y.heap.size := by omega
          have m7 : g7 < Y.heap.size := by omega
          go_wp2
          go_loopw [8] (fun v wr => ∃ i : Nat, i ≤ m ∧ v = .int .i64 i ∧ Below Y.heap.size Y wr) (fun v _ => m - (intOf v).toNat)
          case atStart => exact ⟨0, Nat.zero_le _, rfl, Below.refl _ _⟩
          case round =>
            obtain ⟨i, hi, rfl, hbel⟩ := hrel
            have hq1 := (hbel.cell (p := ⟨g6, 1, none⟩) m6).trans hq7
            by_cases him0 : i < m
            · have him : (i : Int) < (m : Int) := by omega
              obtain ⟨bb, ob, rfl, hbb, hcb⟩ := hf7.at_ (by rw [HSL.out]; omega)
              obtain ⟨ba, oa, rfl, hba, hca⟩ := hs7.at_ (by rw [HSL.out]; omega)
              have s0 := (hbel.cell (p := ⟨g7, 2, none⟩) m7).trans i2
              have s1 := (hbel.cell (p := ⟨bb, ob + i * 2, none⟩) hbb).trans (hcb i (by rw [HSL.out]; exact him0)).1
              have s2 := (hbel.cell (p := ⟨bb, ob + i * 2 + 1, none⟩) hbb).trans (hcb i (by rw [HSL.out]; exact him0)).2
              have s3 := (hbel.cell (p := ⟨ba, oa + i * 2, none⟩) hba).trans (hca i (by rw [HSL.out]; exact him0)).1
              have s4 := (hbel.cell (p := ⟨ba, oa + i * 2 + 1, none⟩) hba).trans (hca i (by rw [HSL.out]; exact him0)).2
              have hlR := hs7.below hbel
              have HFO : Hid (∀ w, RdF w (some ⟨ba, oa, none⟩) ls → Calls Try.prog 13 #[.slice (some ⟨ba, oa, none⟩) m mc, .string (nthF ls i).1] w fun e w' => ∃ tx, e = .returned (.agg #[.int .i64 0, .string tx]) ∧ Below w.heap.size w w') := fun w h => HFO0.out i him0 w h
              have hzr := hbel.size
              have mb : bb < wr.heap.size := by omega
              have ma : ba < wr.heap.size := by omega
              have m7r : g7 < wr.heap.size := by omega
              clear hcb hca HFO0
              generalize nthF ls i = xy at *
              obtain ⟨x, y⟩ := xy
              simp only at s1 s2 s3 s4 HFO
              go_wp2_with fail
              refine wp_region_held_drew (S := fun w' => w'.cell? ⟨g7, 2, none⟩ = some (.slice (some ⟨bb, ob, none⟩) m c7) ∧ w'.cell? ⟨bb, ob + i * 2, none⟩ = some (.string x) ∧ w'.cell? ⟨bb, ob + i * 2 + 1, none⟩ = some (.string y) ∧ w'.cell? ⟨ba, oa + i * 2, none⟩ = some (.string x) ∧ w'.cell? ⟨ba, oa + i * 2 + 1, none⟩ = some (.string y)) (by kernel_rfl) ?hS11001 (fun hHeld => ?_)
              case hS11001 => exact ⟨s0, s1, s2, s3, s4⟩
              refine wpAnyH_take (i := 0) (v := ?_) rfl (by kernel_rfl) (by kernel_rfl) (by kernel_rfl) (fun _ _ _ h => h) (Or.inl ⟨by rfl, ?hy11002⟩) (by assumption) ?ty11002
              case hy11002 => (intro w hSw; (try dsimp only at hSw); go_simp; all_goals with_reducible rfl)
              simp only [Act.put, List.getElem_toArray, List.getElem_cons_zero, List.setIfInBounds_toArray, List.set_cons_zero, List.set_cons_succ]
              refine wpAnyH_take (i := 1) (v := ?_) rfl (by kernel_rfl) (by kernel_rfl) (by kernel_rfl) (fun _ _ _ h => h) (Or.inl ⟨by rfl, ?hy11003⟩) (by assumption) ?ty11003
              case hy11003 => (intro w hSw; (try dsimp only at hSw); go_simp; all_goals with_reducible rfl)
              simp only [Act.put, List.getElem_toArray, List.getElem_cons_zero, List.getElem_cons_succ, List.setIfInBounds_toArray, List.set_cons_zero, List.set_cons_succ]
              refine wpAnyH_take (i := 2) (v := ?_) rfl (by kernel_rfl) (by kernel_rfl) (by kernel_rfl) (fun _ _ _ h => h) (Or.inl ⟨by rfl, ?hy11004⟩) (by assumption) ?ty11004
              case hy11004 => (intro w hSw; (try dsimp only at hSw); go_simp; all_goals with_reducible rfl)
              simp only [Act.put, List.getElem_toArray, List.getElem_cons_zero, List.getElem_cons_succ, List.setIfInBounds_toArray, List.set_cons_zero, List.set_cons_succ]
              refine wpAnyH_take (i := 3) (v := .pointer (some ⟨bb, ob + i * 2, none⟩)) rfl (by kernel_rfl) (by kernel_rfl) (by kernel_rfl) (fun _ _ _ h => h) (Or.inl ⟨by rfl, ?hy11005⟩) (by assumption) ?ty11005
              case hy11005 => (intro w hSw; (try dsimp only at hSw); go_simp; first | (simp [him]; done) | (all_goals first | (with_reducible rfl) | omega))
              simp only [Act.put, List.getElem_toArray, List.getElem_cons_zero, List.getElem_cons_succ, List.setIfInBounds_toArray, List.set_cons_zero, List.set_cons_succ]
              refine wpAnyH_take (i := 4) (v := .agg #[.string x, .string y]) rfl (by kernel_rfl) (by kernel_rfl) (by kernel_rfl) (fun _ _ _ h => h) (Or.inl ⟨by rfl, ?hy11006⟩) (by assumption) ?ty11006
              case hy11006 => (intro w hSw; (try dsimp only at hSw); go_simp; first | (simp [hSw]; done) | (all_goals with_reducible rfl))
              simp only [Act.put, List.getElem_toArray, List.getElem_cons_zero, List.getElem_cons_succ, List.setIfInBounds_toArray, List.set_cons_zero, List.set_cons_succ]
              refine wpAnyH_take (i := 5) (v := ?_) rfl (by kernel_rfl) (by kernel_rfl) (by kernel_rfl) (fun _ _ _ h => h) (Or.inl ⟨by rfl, ?hy11007⟩) (by assumption) ?ty11007
              case hy11007 => (intro w hSw; (try dsimp only at hSw); go_simp; all_goals with_reducible rfl)
              simp only [Act.put, List.getElem_toArray, List.getElem_cons_zero, List.getElem_cons_succ, List.setIfInBounds_toArray, List.set_cons_zero, List.set_cons_succ]
              refine wpAnyH_take (i := 6) (v := ?_) rfl (by kernel_rfl) (by kernel_rfl) (by kernel_rfl) (fun _ _ _ h => h) (Or.inl ⟨by rfl, ?hy11008⟩) (by assumption) ?ty11008
              case hy11008 => (intro w hSw; (try dsimp only at hSw); go_simp; all_goals with_reducible rfl)
              simp only [Act.put, List.getElem_toArray, List.getElem_cons_zero, List.getElem_cons_succ, List.setIfInBounds_toArray, List.set_cons_zero, List.set_cons_succ]
              refine wpAnyH_take (i := 7) (v := .pointer (some ⟨ba, oa + i * 2, none⟩)) rfl (by kernel_rfl) (by kernel_rfl) (by kernel_rfl) (fun _ _ _ h => h) (Or.inl ⟨by rfl, ?hy11009⟩) (by assumption) ?ty11009
              case hy11009 => (intro w hSw; (try dsimp only at hSw); go_simp; first | (simp [him]; done) | (all_goals first | (with_reducible rfl) | omega))
              simp only [Act.put, List.getElem_toArray, List.getElem_cons_zero, List.getElem_cons_succ, List.setIfInBounds_toArray, List.set_cons_zero, List.set_cons_succ]
              refine wpAnyH_take (i := 8) (v := .agg #[.string x, .string y]) rfl (by kernel_rfl) (by kernel_rfl) (by kernel_rfl) (fun _ _ _ h => h) (Or.inl ⟨by rfl, ?hy11010⟩) (by assumption) ?ty11010
              case hy11010 => (intro w hSw; (try dsimp only at hSw); go_simp; first | (simp [hSw]; done) | (all_goals with_reducible rfl))
              simp only [Act.put, List.getElem_toArray, List.getElem_cons_zero, List.getElem_cons_succ, List.setIfInBounds_toArray, List.set_cons_zero, List.set_cons_succ]
              refine wpAnyH_take (i := 9) (v := .bool false) rfl (by kernel_rfl) (by kernel_rfl) (by kernel_rfl) (fun _ _ _ h => h) (Or.inl ⟨by rfl, ?hy11011⟩) (by assumption) ?ty11011
              case hy11011 => (intro w hSw; (try dsimp only at hSw); go_simp; first | (simp; done) | (all_goals with_reducible rfl))
              simp only [Act.put, List.getElem_toArray, List.getElem_cons_zero, List.getElem_cons_succ, List.setIfInBounds_toArray, List.set_cons_zero, List.set_cons_succ]
              refine wpAnyH_take (i := 10) (v := ?_) rfl (by kernel_rfl) (by kernel_rfl) (by kernel_rfl) (fun _ _ _ h => h) (Or.inl ⟨by rfl, ?hy11012⟩) (by assumption) ?ty11012
              case hy11012 => (intro w hSw; (try dsimp only at hSw); go_simp; all_goals with_reducible rfl)
              simp only [Act.put, List.getElem_toArray, List.getElem_cons_zero, List.getElem_cons_succ, List.setIfInBounds_toArray, List.set_cons_zero, List.set_cons_succ]
              refine wpAnyH_take (i := 11) (v := ?_) rfl (by kernel_rfl) (by kernel_rfl) (by kernel_rfl) (fun _ _ _ h => h) (Or.inl ⟨by rfl, ?hy11013⟩) (by assumption) ?ty11013
              case hy11013 => (intro w hSw; (try dsimp only at hSw); go_simp; all_goals with_reducible rfl)
              simp only [Act.put, List.getElem_toArray, List.getElem_cons_zero, List.getElem_cons_succ, List.setIfInBounds_toArray, List.set_cons_zero, List.set_cons_succ]
              refine wpAnyH_take (i := 12) (v := ?_) rfl (by kernel_rfl) (by kernel_rfl) (by kernel_rfl) (fun _ _ _ h => h) (Or.inl ⟨by rfl, ?hy11014⟩) (by assumption) ?ty11014
              case hy11014 => (intro w hSw; (try dsimp only at hSw); go_simp; all_goals with_reducible rfl)
              simp only [Act.put, List.getElem_toArray, List.getElem_cons_zero, List.getElem_cons_succ, List.setIfInBounds_toArray, List.set_cons_zero, List.set_cons_succ]
              refine wpAnyH_take (i := 13) (v := ?_) rfl (by kernel_rfl) (by kernel_rfl) (by kernel_rfl) (fun _ _ _ h => h) (Or.inl ⟨by rfl, ?hy11015⟩) (by assumption) ?ty11015
              case hy11015 => (intro w hSw; (try dsimp only at hSw); go_simp; all_goals with_reducible rfl)
              simp only [Act.put, List.getElem_toArray, List.getElem_cons_zero, List.getElem_cons_succ, List.setIfInBounds_toArray, List.set_cons_zero, List.set_cons_succ]
              refine wpAnyH_take (i := 14) (v := .pointer (some ⟨ba, oa + i * 2, none⟩)) rfl (by kernel_rfl) (by kernel_rfl) (by kernel_rfl) (fun _ _ _ h => h) (Or.inl ⟨by rfl, ?hy11016⟩) (by assumption) ?ty11016
              case hy11016 => (intro w hSw; (try dsimp only at hSw); go_simp; first | (simp [him]; done) | (all_goals first | (with_reducible rfl) | omega))
              simp only [Act.put, List.getElem_toArray, List.getElem_cons_zero, List.getElem_cons_succ, List.setIfInBounds_toArray, List.set_cons_zero, List.set_cons_succ]
              refine wpAnyH_take (i := 15) (v := ?_) rfl (by kernel_rfl) (by kernel_rfl) (by kernel_rfl) (fun _ _ _ h => h) (Or.inl ⟨by rfl, ?hy11017⟩) (by assumption) ?ty11017
              case hy11017 => (intro w hSw; (try dsimp only at hSw); go_simp; all_goals with_reducible rfl)
              simp only [Act.put, List.getElem_toArray, List.getElem_cons_zero, List.getElem_cons_succ, List.setIfInBounds_toArray, List.set_cons_zero, List.set_cons_succ]
              refine wpAnyH_take (i := 16) (v := ?_) rfl (by kernel_rfl) (by kernel_rfl) (by kernel_rfl) (fun _ _ _ h => h) (Or.inl ⟨by rfl, ?hy11018⟩) (by assumption) ?ty11018
              case hy11018 => (intro w hSw; (try dsimp only at hSw); go_simp; all_goals with_reducible rfl)
              simp only [Act.put, List.getElem_toArray, List.getElem_cons_zero, List.getElem_cons_succ, List.setIfInBounds_toArray, List.set_cons_zero, List.set_cons_succ]
              refine wpAnyH_ready (rs := [17]) (by kernel_rfl) (by simp) ?_
              refine AllReadyH.cons rfl (fun K hK => ?_) AllReadyH.nil
              go_simp
              refine (HFO.out _ (by exact hlR)).mono ?_
              rintro e z7 ⟨tx, rfl, hbx⟩
              have HZ17 : Hid (Below wr.heap.size wr z7) := (Below.refl _ _).drew.trans hbx
              refine hK.out _ _ ⟨(HZ17.out.cell (p := ⟨g7, 2, none⟩) (by omega)).trans s0, (HZ17.out.cell (p := ⟨bb, ob + i * 2, none⟩) (by omega)).trans s1, (HZ17.out.cell (p := ⟨bb, ob + i * 2 + 1, none⟩) (by omega)).trans s2, (HZ17.out.cell (p := ⟨ba, oa + i * 2, none⟩) (by omega)).trans s3, (HZ17.out.cell (p := ⟨ba, oa + i * 2 + 1, none⟩) (by omega)).trans s4⟩ (fun hHeld => ?_)
              clear hK K
              clear hbx
              refine wpAnyH_take (i := 18) (v := ?_) rfl (by kernel_rfl) (by kernel_rfl) (by kernel_rfl) (fun _ _ _ h => h) (Or.inl ⟨by rfl, ?hy11019⟩) (by assumption) ?ty11019
              case hy11019 => (intro w hSw; (try dsimp only at hSw); go_simp; all_goals with_reducible rfl)
              simp only [Act.put, List.getElem_toArray, List.getElem_cons_zero, List.getElem_cons_succ, List.setIfInBounds_toArray, List.set_cons_zero, List.set_cons_succ]
              refine wpAnyH_take (i := 19) (v := .bool false) rfl (by kernel_rfl) (by kernel_rfl) (by kernel_rfl) (fun _ _ _ h => h) (Or.inl ⟨by rfl, ?hy11020⟩) (by assumption) ?ty11020
              case hy11020 => (intro w hSw; (try dsimp only at hSw); go_simp; first | (simp; done) | (all_goals with_reducible rfl))
              simp only [Act.put, List.getElem_toArray, List.getElem_cons_zero, List.getElem_cons_succ, List.setIfInBounds_toArray, List.set_cons_zero, List.set_cons_succ]
              refine wpAnyH_take (i := 20) (v := ?_) rfl (by kernel_rfl) (by kernel_rfl) (by kernel_rfl) (fun _ _ _ h => h) (Or.inl ⟨by rfl, ?hy11021⟩) (by assumption) ?ty11021
              case hy11021 => (intro w hSw; (try dsimp only at hSw); go_simp; all_goals with_reducible rfl)
              simp only [Act.put, List.getElem_toArray, List.getElem_cons_zero, List.getElem_cons_succ, List.setIfInBounds_toArray, List.set_cons_zero, List.set_cons_succ]
              refine wpAnyH_done (by kernel_rfl) ?_ _
              have hbY : Below Y.heap.size Y z7 := hbel.trans (HZ17.out.mono hbel.size)
              clear hHeld HZ17 HFO s0 s1 s2 s3 s4 hlR
              go_wp2
              go_roundw
              case rel => exact ⟨i + 1, by omega, by go_num, hbY⟩
              case measure => simp [intOf]; omega
            · have him : ¬ (i : Int) < (m : Int) := by omega
              have HBG : Hid (Below w.heap.size w wr) := HB7.out.trans (hbel.mono HB7.out.size)
              have hg6F : g6 < wr.heap.size := by have := hbel.size; omega
              clear HFO0 HB7 hf7 hs7 hq7 i0 i1 i2 hbel
              generalize wr = wF at *
              go_wp2_with fail
              refine (drawFieldOf_any a n cap l _ hl (hr.below HBG.out) hB (by omega)).mono ?_
              rintro e w8 ⟨v8, l8, t8, rfl, ho8, hk8, hD8, hB8, ht8, hb8⟩
              obtain ⟨a8, c8, hv, -, -⟩ := ho8.form
              obtain ⟨n8, hn8⟩ : ∃ n8, l8.length = n8 := ⟨_, rfl⟩
              have HL8 : Hid (l8.length = n8) := hn8
              rw [hn8] at hv hk8
              subst hv
              clear hn8
              have hr8 := ho8.rd.2
              have hx8 : (str t8).size ≤ 1048576 := by rw [str_size]; omega
              have HFI : Hid (∀ w, RdF w a8 l8 → Calls Try.prog 13 #[.slice a8 n8 c8, .string (str t8)] w fun e w' => e = .returned (.agg #[.int .i64 (foC l8 (str t8)), .string (foT l8 (str t8))]) ∧ Below w.heap.size w w') := fun w h => fieldOf_any a8 n8 c8 l8 (str t8) w HL8.out h (by omega) hD8.fit hx8
              have HFS : Hid (∀ w, RdF w a8 l8 → Calls Try.prog 15 #[.slice a8 n8 c8, .string (str t8)] w fun e w' => e = .returned (.agg #[.int .i64 (foC l8 (str t8)), .string (foT l8 (str t8))]) ∧ Below w.heap.size w w') := fun w h => specFieldOf_any a8 n8 c8 l8 (str t8) w HL8.out h (by omega) hD8.fit hx8
              generalize foC l8 (str t8) = fc at *
              generalize foT l8 (str t8) = ft at *
              generalize str t8 = tx8 at *
              have HBH : Hid (Below w.heap.size w w8) := HBG.out.trans (hb8.mono HBG.out.size)
              have hq8 := (hb8.cell (p := ⟨g6, 1, none⟩) hg6F).trans hq1
              have hg68 : g6 < w8.heap.size := Nat.lt_of_lt_of_le hg6F hb8.size
              clear hb8 ho8 hq1 hg6F HBG hD8 hB8 ht8
              go_wp2_with fail
              refine (HFI.out _ hr8).mono ?_
              rintro e w9 ⟨rfl, hb9⟩
              have hbA : Below w9.heap.size w9 (w9.alloc (.cells #[.int .i64 fc, .string ft] 37)) := (Below.refl _ _).alloc (Nat.le_refl _) _
              have hX9 : Below w8.heap.size w8 (w9.alloc (.cells #[.int .i64 fc, .string ft] 37)) := hb9.trans (hbA.mono hb9.size)
              have HBI : Hid (Below w.heap.size w (w9.alloc (.cells #[.int .i64 fc, .string ft] 37))) := HBH.out.trans (hX9.mono HBH.out.size)
              have hr9 := hr8.below hX9
              have hq9 := (hX9.cell (p := ⟨g6, 1, none⟩) hg68).trans hq8
              obtain ⟨j0, j1, -, -⟩ := res_block (w := w9) (wr := w9.alloc (.cells #[.int .i64 fc, .string ft] 37)) rfl (Below.refl _ _)
              have hsW9 : (w9.alloc (.cells #[.int .i64 fc, .string ft] 37)).heap.size = w9.heap.size + 1 := by simp
              have hz9 := hb9.size
              clear hb9 hX9 HFI hbA HBH hr8 hq8
              go_wp2_with fail
              generalize w9.alloc (.cells #[.int .i64 fc, .string ft] 37) = Z at *
              generalize w9.heap.size = g11 at *
              have m11 : g11 < Z.heap.size := by omega
              have m6Z : g6 < Z.heap.size := by omega
              refine wp_region_held_drew (S := fun w' => w'.cell? ⟨g11, 0, none⟩ = some (.int .i64 fc) ∧ w'.cell? ⟨g11, 1, none⟩ = some (.string ft) ∧ w'.cell? ⟨g6, 1, none⟩ = some (.slice (some ⟨g4, o4, none⟩) M c4)) (by kernel_rfl) ?hS11022 (fun hHeld => ?_)
              case hS11022 => exact ⟨j0, j1, hq9⟩
              refine wpAnyH_take (i := 0) (v := ?_) rfl (by kernel_rfl) (by kernel_rfl) (by kernel_rfl) (fun _ _ _ h => h) (Or.inl ⟨by rfl, ?hy11023⟩) (by assumption) ?ty11023
              case hy11023 => (intro w hSw; (try dsimp only at hSw); go_simp; all_goals with_reducible rfl)
              simp only [Act.put, List.getElem_toArray, List.getElem_cons_zero, List.setIfInBounds_toArray, List.set_cons_zero, List.set_cons_succ]
              refine wpAnyH_take (i := 1) (v := ?_) rfl (by kernel_rfl) (by kernel_rfl) (by kernel_rfl) (fun _ _ _ h => h) (Or.inl ⟨by rfl, ?hy11024⟩) (by assumption) ?ty11024
              case hy11024 => (intro w hSw; (try dsimp only at hSw); go_simp; all_goals with_reducible rfl)
              simp only [Act.put, List.getElem_toArray, List.getElem_cons_zero, List.getElem_cons_succ, List.setIfInBounds_toArray, List.set_cons_zero, List.set_cons_succ]
              refine wpAnyH_take (i := 2) (v := ?_) rfl (by kernel_rfl) (by kernel_rfl) (by kernel_rfl) (fun _ _ _ h => h) (Or.inl ⟨by rfl, ?hy11025⟩) (by assumption) ?ty11025
              case hy11025 => (intro w hSw; (try dsimp only at hSw); go_simp; all_goals with_reducible rfl)
              simp only [Act.put, List.getElem_toArray, List.getElem_cons_zero, List.getElem_cons_succ, List.setIfInBounds_toArray, List.set_cons_zero, List.set_cons_succ]
              refine wpAnyH_take (i := 3) (v := ?_) rfl (by kernel_rfl) (by kernel_rfl) (by kernel_rfl) (fun _ _ _ h => h) (Or.inl ⟨by rfl, ?hy11026⟩) (by assumption) ?ty11026
              case hy11026 => (intro w hSw; (try dsimp only at hSw); go_simp; all_goals with_reducible rfl)
              simp only [Act.put, List.getElem_toArray, List.getElem_cons_zero, List.getElem_cons_succ, List.setIfInBounds_toArray, List.set_cons_zero, List.set_cons_succ]
              refine wpAnyH_ready (rs := [4]) (by kernel_rfl) (by simp) ?_
              refine AllReadyH.cons rfl (fun K hK => ?_) AllReadyH.nil
              go_simp
              refine (HFS.out _ (by exact hr9)).mono ?_
              rintro e z1 ⟨rfl, hbx⟩
              have HZ_z1 : Hid (Below Z.heap.size Z z1) := (Below.refl _ _).drew.trans hbx
              refine hK.out _ _ ⟨(HZ_z1.out.cell (p := ⟨g11, 0, none⟩) m11).trans j0, (HZ_z1.out.cell (p := ⟨g11, 1, none⟩) m11).trans j1, (HZ_z1.out.cell (p := ⟨g6, 1, none⟩) m6Z).trans hq9⟩ (fun hHeld => ?_)
              clear hK K
              clear hbx
              refine wpAnyH_take (i := 5) (v := ?_) rfl (by kernel_rfl) (by kernel_rfl) (by kernel_rfl) (fun _ _ _ h => h) (Or.inl ⟨by rfl, ?hy11027⟩) (by assumption) ?ty11027
              case hy11027 => (intro w hSw; (try dsimp only at hSw); go_simp; all_goals with_reducible rfl)
              simp only [Act.put, List.getElem_toArray, List.getElem_cons_zero, List.getElem_cons_succ, List.setIfInBounds_toArray, List.set_cons_zero, List.set_cons_succ]
              refine wpAnyH_take (i := 6) (v := .bool true) rfl (by kernel_rfl) (by kernel_rfl) (by kernel_rfl) (fun _ _ _ h => h) (Or.inl ⟨by rfl, ?hy11028⟩) (by assumption) ?ty11028
              case hy11028 => (intro w hSw; (try dsimp only at hSw); go_simp; first | (simp; done) | (all_goals with_reducible rfl))
              simp only [Act.put, List.getElem_toArray, List.getElem_cons_zero, List.getElem_cons_succ, List.setIfInBounds_toArray, List.set_cons_zero, List.set_cons_succ]
              refine wpAnyH_take (i := 7) (v := ?_) rfl (by kernel_rfl) (by kernel_rfl) (by kernel_rfl) (fun _ _ _ h => h) (Or.inl ⟨by rfl, ?hy11029⟩) (by assumption) ?ty11029
              case hy11029 => (intro w hSw; (try dsimp only at hSw); go_simp; all_goals with_reducible rfl)
              simp only [Act.put, List.getElem_toArray, List.getElem_cons_zero, List.getElem_cons_succ, List.setIfInBounds_toArray, List.set_cons_zero, List.set_cons_succ]
              refine wpAnyH_take (i := 8) (v := ?_) rfl (by kernel_rfl) (by kernel_rfl) (by kernel_rfl) (fun _ _ _ h => h) (Or.inl ⟨by rfl, ?hy11030⟩) (by assumption) ?ty11030
              case hy11030 => (intro w hSw; (try dsimp only at hSw); go_simp; all_goals with_reducible rfl)
              simp only [Act.put, List.getElem_toArray, List.getElem_cons_zero, List.getElem_cons_succ, List.setIfInBounds_toArray, List.set_cons_zero, List.set_cons_succ]
              refine wpAnyH_take (i := 9) (v := ?_) rfl (by kernel_rfl) (by kernel_rfl) (by kernel_rfl) (fun _ _ _ h => h) (Or.inl ⟨by rfl, ?hy11031⟩) (by assumption) ?ty11031
              case hy11031 => (intro w hSw; (try dsimp only at hSw); go_simp; all_goals with_reducible rfl)
              simp only [Act.put, List.getElem_toArray, List.getElem_cons_zero, List.getElem_cons_succ, List.setIfInBounds_toArray, List.set_cons_zero, List.set_cons_succ]
              refine wpAnyH_take (i := 10) (v := ?_) rfl (by kernel_rfl) (by kernel_rfl) (by kernel_rfl) (fun _ _ _ h => h) (Or.inl ⟨by rfl, ?hy11032⟩) (by assumption) ?ty11032
              case hy11032 => (intro w hSw; (try dsimp only at hSw); go_simp; all_goals with_reducible rfl)
              simp only [Act.put, List.getElem_toArray, List.getElem_cons_zero, List.getElem_cons_succ, List.setIfInBounds_toArray, List.set_cons_zero, List.set_cons_succ]
              refine wpAnyH_take (i := 11) (v := ?_) rfl (by kernel_rfl) (by kernel_rfl) (by kernel_rfl) (fun _ _ _ h => h) (Or.inl ⟨by rfl, ?hy11033⟩) (by assumption) ?ty11033
              case hy11033 => (intro w hSw; (try dsimp only at hSw); go_simp; all_goals with_reducible rfl)
              simp only [Act.put, List.getElem_toArray, List.getElem_cons_zero, List.getElem_cons_succ, List.setIfInBounds_toArray, List.set_cons_zero, List.set_cons_succ]
              refine wpAnyH_ready (rs := [12]) (by kernel_rfl) (by simp) ?_
              refine AllReadyH.cons rfl (fun K hK => ?_) AllReadyH.nil
              go_simp
              refine (HFS.out _ (by exact hr9.below HZ_z1.out)).mono ?_
              rintro e z2 ⟨rfl, hbx⟩
              have HZ_z2 : Hid (Below Z.heap.size Z z2) := HZ_z1.out.trans (hbx.mono HZ_z1.out.size)
              refine hK.out _ _ ⟨(HZ_z2.out.cell (p := ⟨g11, 0, none⟩) m11).trans j0, (HZ_z2.out.cell (p := ⟨g11, 1, none⟩) m11).trans j1, (HZ_z2.out.cell (p := ⟨g6, 1, none⟩) m6Z).trans hq9⟩ (fun hHeld => ?_)
              clear hK K
              clear hbx
              refine wpAnyH_take (i := 13) (v := ?_) rfl (by kernel_rfl) (by kernel_rfl) (by kernel_rfl) (fun _ _ _ h => h) (Or.inl ⟨by rfl, ?hy11034⟩) (by assumption) ?ty11034
              case hy11034 => (intro w hSw; (try dsimp only at hSw); go_simp; all_goals with_reducible rfl)
              simp only [Act.put, List.getElem_toArray, List.getElem_cons_zero, List.getElem_cons_succ, List.setIfInBounds_toArray, List.set_cons_zero, List.set_cons_succ]
              refine wpAnyH_take (i := 14) (v := .bool true) rfl (by kernel_rfl) (by kernel_rfl) (by kernel_rfl) (fun _ _ _ h => h) (Or.inl ⟨by rfl, ?hy11035⟩) (by assumption) ?ty11035
              case hy11035 => (intro w hSw; (try dsimp only at hSw); go_simp; first | (simp; done) | (all_goals with_reducible rfl))
              simp only [Act.put, List.getElem_toArray, List.getElem_cons_zero, List.getElem_cons_succ, List.setIfInBounds_toArray, List.set_cons_zero, List.set_cons_succ]
              refine wpAnyH_take (i := 15) (v := ?_) rfl (by kernel_rfl) (by kernel_rfl) (by kernel_rfl) (fun _ _ _ h => h) (Or.inl ⟨by rfl, ?hy11036⟩) (by assumption) ?ty11036
              case hy11036 => (intro w hSw; (try dsimp only at hSw); go_simp; all_goals with_reducible rfl)
              simp only [Act.put, List.getElem_toArray, List.getElem_cons_zero, List.getElem_cons_succ, List.setIfInBounds_toArray, List.set_cons_zero, List.set_cons_succ]
              refine wpAnyH_take (i := 16) (v := ?_) rfl (by kernel_rfl) (by kernel_rfl) (by kernel_rfl) (fun _ _ _ h => h) (Or.inl ⟨by rfl, ?hy11037⟩) (by assumption) ?ty11037
              case hy11037 => (intro w hSw; (try dsimp only at hSw); go_simp; all_goals with_reducible rfl)
              simp only [Act.put, List.getElem_toArray, List.getElem_cons_zero, List.getElem_cons_succ, List.setIfInBounds_toArray, List.set_cons_zero, List.set_cons_succ]
              refine wpAnyH_take (i := 17) (v := ?_) rfl (by kernel_rfl) (by kernel_rfl) (by kernel_rfl) (fun _ _ _ h => h) (Or.inl ⟨by rfl, ?hy11038⟩) (by assumption) ?ty11038
              case hy11038 => (intro w hSw; (try dsimp only at hSw); go_simp; all_goals with_reducible rfl)
              simp only [Act.put, List.getElem_toArray, List.getElem_cons_zero, List.getElem_cons_succ, List.setIfInBounds_toArray, List.set_cons_zero, List.set_cons_succ]
              refine wpAnyH_take (i := 18) (v := ?_) rfl (by kernel_rfl) (by kernel_rfl) (by kernel_rfl) (fun _ _ _ h => h) (Or.inl ⟨by rfl, ?hy11039⟩) (by assumption) ?ty11039
              case hy11039 => (intro w hSw; (try dsimp only at hSw); go_simp; all_goals with_reducible rfl)
              simp only [Act.put, List.getElem_toArray, List.getElem_cons_zero, List.getElem_cons_succ, List.setIfInBounds_toArray, List.set_cons_zero, List.set_cons_succ]
              refine wpAnyH_take (i := 19) (v := ?_) rfl (by kernel_rfl) (by kernel_rfl) (by kernel_rfl) (fun _ _ _ h => h) (Or.inl ⟨by rfl, ?hy11040⟩) (by assumption) ?ty11040
              case hy11040 => (intro w hSw; (try dsimp only at hSw); go_simp; all_goals with_reducible rfl)
              simp only [Act.put, List.getElem_toArray, List.getElem_cons_zero, List.getElem_cons_succ, List.setIfInBounds_toArray, List.set_cons_zero, List.set_cons_succ]
              refine wpAnyH_take (i := 20) (v := .bool true) rfl (by kernel_rfl) (by kernel_rfl) (by kernel_rfl) (fun _ _ _ h => h) (Or.inl ⟨by rfl, ?hy11041⟩) (by assumption) ?ty11041
              case hy11041 => (intro w hSw; (try dsimp only at hSw); go_simp; first | (simp [hM0]; done) | omega | (simp; omega) | (all_goals with_reducible rfl))
              simp only [Act.put, List.getElem_toArray, List.getElem_cons_zero, List.getElem_cons_succ, List.setIfInBounds_toArray, List.set_cons_zero, List.set_cons_succ]
              refine wpAnyH_take (i := 21) (v := ?_) rfl (by kernel_rfl) (by kernel_rfl) (by kernel_rfl) (fun _ _ _ h => h) (Or.inl ⟨by rfl, ?hy11042⟩) (by assumption) ?ty11042
              case hy11042 => (intro w hSw; (try dsimp only at hSw); go_simp; all_goals with_reducible rfl)
              simp only [Act.put, List.getElem_toArray, List.getElem_cons_zero, List.getElem_cons_succ, List.setIfInBounds_toArray, List.set_cons_zero, List.set_cons_succ]
              refine wpAnyH_take (i := 22) (v := ?_) rfl (by kernel_rfl) (by kernel_rfl) (by kernel_rfl) (fun _ _ _ h => h) (Or.inl ⟨by rfl, ?hy11043⟩) (by assumption) ?ty11043
              case hy11043 => (intro w hSw; (try dsimp only at hSw); go_simp; all_goals with_reducible rfl)
              simp only [Act.put, List.getElem_toArray, List.getElem_cons_zero, List.getElem_cons_succ, List.setIfInBounds_toArray, List.set_cons_zero, List.set_cons_succ]
              refine wpAnyH_done (by kernel_rfl) ?_ _
              have HF : Hid (Below w.heap.size w z2) := HBI.out.trans (HZ_z2.out.mono HBI.out.size)
              clear hHeld HZ_z1 HZ_z2 HFS HBI
              go_wp2
              go_ret
              exact ⟨rfl, HF.out⟩
        · have hMi : ¬ (M : Int) < 400 := by omega
          clear HP7 HFO0
          generalize phV (et ++ [97]) = P7 at *
          obtain ⟨pc7, k7, fs7⟩ := P7
          refine HP6.mono ?_
          rintro e w7 ⟨v7, rfl, ho7, hb7⟩
          simp only at ho7 ⊢
          obtain ⟨b7, c7, hv, -, -⟩ := ho7.form
          generalize fs7.length = N7 at hv
          subst hv
          have hbA : Below w7.heap.size w7 ((w7.alloc (.cells #[.int .i64 pc7, .int .i64 (k7 : Int), .slice b7 N7 c7] 27))) := (Below.refl _ _).alloc (Nat.le_refl _) _
          have hX7 : Below w6.heap.size w6 ((w7.alloc (.cells #[.int .i64 pc7, .int .i64 (k7 : Int), .slice b7 N7 c7] 27))) := hb7.trans (hbA.mono hb7.size)
          have HBG : Hid (Below w.heap.size w ((w7.alloc (.cells #[.int .i64 pc7, .int .i64 (k7 : Int), .slice b7 N7 c7] 27)))) := HB6.out.trans (hX7.mono HB6.out.size)
          have hq1 := (hX7.cell (p := ⟨g6, 1, none⟩) (by show g6 < w6.heap.size; omega)).trans hq6
          have hsW7 : ((w7.alloc (.cells #[.int .i64 pc7, .int .i64 (k7 : Int), .slice b7 N7 c7] 27))).heap.size = w7.heap.size + 1 := by simp
          have hz7 := hb7.size
          have hg6F : g6 < ((w7.alloc (.cells #[.int .i64 pc7, .int .i64 (k7 : Int), .slice b7 N7 c7] 27))).heap.size := by omega
          clear hb7 hX7 hs6 HP6 ho7 hbA HB6 hq6
          go_wp2_with fail
          generalize (w7.alloc (.cells #[.int .i64 pc7, .int .i64 (k7 : Int), .slice b7 N7 c7] 27)) = wF at *
          go_wp2
          go_loopw [8] (fun v wr => v = .int .i64 0 ∧ wr = wF) (fun v _ => 0)
          case atStart => exact ⟨rfl, rfl⟩
          case round =>
            obtain ⟨rfl, rfl⟩ := hrel
            by_cases him : (0 : Int) < (m : Int)
            · skip
              go_wp2_with fail
              refine (drawFieldOf_any a n cap l _ hl (hr.below HBG.out) hB (by omega)).mono ?_
              rintro e w8 ⟨v8, l8, t8, rfl, ho8, hk8, hD8, hB8, ht8, hb8⟩
              obtain ⟨a8, c8, hv, -, -⟩ := ho8.form
              obtain ⟨n8, hn8⟩ : ∃ n8, l8.length = n8 := ⟨_, rfl⟩
              have HL8 : Hid (l8.length = n8) := hn8
              rw [hn8] at hv hk8
              subst hv
              clear hn8
              have hr8 := ho8.rd.2
              have hx8 : (str t8).size ≤ 1048576 := by rw [str_size]; omega
              have HFI : Hid (∀ w, RdF w a8 l8 → Calls Try.prog 13 #[.slice a8 n8 c8, .string (str t8)] w fun e w' => e = .returned (.agg #[.int .i64 (foC l8 (str t8)), .string (foT l8 (str t8))]) ∧ Below w.heap.size w w') := fun w h => fieldOf_any a8 n8 c8 l8 (str t8) w HL8.out h (by omega) hD8.fit hx8
              have HFS : Hid (∀ w, RdF w a8 l8 → Calls Try.prog 15 #[.slice a8 n8 c8, .string (str t8)] w fun e w' => e = .returned (.agg #[.int .i64 (foC l8 (str t8)), .string (foT l8 (str t8))]) ∧ Below w.heap.size w w') := fun w h => specFieldOf_any a8 n8 c8 l8 (str t8) w HL8.out h (by omega) hD8.fit hx8
              generalize foC l8 (str t8) = fc at *
              generalize foT l8 (str t8) = ft at *
              generalize str t8 = tx8 at *
              have HBH : Hid (Below w.heap.size w w8) := HBG.out.trans (hb8.mono HBG.out.size)
              have hq8 := (hb8.cell (p := ⟨g6, 1, none⟩) hg6F).trans hq1
              have hg68 : g6 < w8.heap.size := Nat.lt_of_lt_of_le hg6F hb8.size
              clear hb8 ho8 hq1 hg6F HBG hD8 hB8 ht8
              go_wp2_with fail
              refine (HFI.out _ hr8).mono ?_
              rintro e w9 ⟨rfl, hb9⟩
              have hbA : Below w9.heap.size w9 (w9.alloc (.cells #[.int .i64 fc, .string ft] 37)) := (Below.refl _ _).alloc (Nat.le_refl _) _
              have hX9 : Below w8.heap.size w8 (w9.alloc (.cells #[.int .i64 fc, .string ft] 37)) := hb9.trans (hbA.mono hb9.size)
              have HBI : Hid (Below w.heap.size w (w9.alloc (.cells #[.int .i64 fc, .string ft] 37))) := HBH.out.trans (hX9.mono HBH.out.size)
              have hr9 := hr8.below hX9
              have hq9 := (hX9.cell (p := ⟨g6, 1, none⟩) hg68).trans hq8
              obtain ⟨j0, j1, -, -⟩ := res_block (w := w9) (wr := w9.alloc (.cells #[.int .i64 fc, .string ft] 37)) rfl (Below.refl _ _)
              have hsW9 : (w9.alloc (.cells #[.int .i64 fc, .string ft] 37)).heap.size = w9.heap.size + 1 := by simp
              have hz9 := hb9.size
              clear hb9 hX9 HFI hbA HBH hr8 hq8
              go_wp2_with fail
              generalize w9.alloc (.cells #[.int .i64 fc, .string ft] 37) = Z at *
              generalize w9.heap.size = g11 at *
              have m11 : g11 < Z.heap.size := by omega
              have m6Z : g6 < Z.heap.size := by omega
              refine wp_region_held_drew (S := fun w' => w'.cell? ⟨g11, 0, none⟩ = some (.int .i64 fc) ∧ w'.cell? ⟨g11, 1, none⟩ = some (.string ft) ∧ w'.cell? ⟨g6, 1, none⟩ = some (.slice (some ⟨g4, o4, none⟩) M c4)) (by kernel_rfl) ?hS11044 (fun hHeld => ?_)
              case hS11044 => exact ⟨j0, j1, hq9⟩
              refine wpAnyH_take (i := 0) (v := ?_) rfl (by kernel_rfl) (by kernel_rfl) (by kernel_rfl) (fun _ _ _ h => h) (Or.inl ⟨by rfl, ?hy11045⟩) (by assumption) ?ty11045
              case hy11045 => (intro w hSw; (try dsimp only at hSw); go_simp; all_goals with_reducible rfl)
              simp only [Act.put, List.getElem_toArray, List.getElem_cons_zero, List.setIfInBounds_toArray, List.set_cons_zero, List.set_cons_succ]
              refine wpAnyH_take (i := 1) (v := ?_) rfl (by kernel_rfl) (by kernel_rfl) (by kernel_rfl) (fun _ _ _ h => h) (Or.inl ⟨by rfl, ?hy11046⟩) (by assumption) ?ty11046
              case hy11046 => (intro w hSw; (try dsimp only at hSw); go_simp; all_goals with_reducible rfl)
              simp only [Act.put, List.getElem_toArray, List.getElem_cons_zero, List.getElem_cons_succ, List.setIfInBounds_toArray, List.set_cons_zero, List.set_cons_succ]
              refine wpAnyH_take (i := 2) (v := ?_) rfl (by kernel_rfl) (by kernel_rfl) (by kernel_rfl) (fun _ _ _ h => h) (Or.inl ⟨by rfl, ?hy11047⟩) (by assumption) ?ty11047
              case hy11047 => (intro w hSw; (try dsimp only at hSw); go_simp; all_goals with_reducible rfl)
              simp only [Act.put, List.getElem_toArray, List.getElem_cons_zero, List.getElem_cons_succ, List.setIfInBounds_toArray, List.set_cons_zero, List.set_cons_succ]
              refine wpAnyH_take (i := 3) (v := ?_) rfl (by kernel_rfl) (by kernel_rfl) (by kernel_rfl) (fun _ _ _ h => h) (Or.inl ⟨by rfl, ?hy11048⟩) (by assumption) ?ty11048
              case hy11048 => (intro w hSw; (try dsimp only at hSw); go_simp; all_goals with_reducible rfl)
              simp only [Act.put, List.getElem_toArray, List.getElem_cons_zero, List.getElem_cons_succ, List.setIfInBounds_toArray, List.set_cons_zero, List.set_cons_succ]
              refine wpAnyH_ready (rs := [4]) (by kernel_rfl) (by simp) ?_
              refine AllReadyH.cons rfl (fun K hK => ?_) AllReadyH.nil
              go_simp
              refine (HFS.out _ (by exact hr9)).mono ?_
              rintro e z1 ⟨rfl, hbx⟩
              have HZ_z1 : Hid (Below Z.heap.size Z z1) := (Below.refl _ _).drew.trans hbx
              refine hK.out _ _ ⟨(HZ_z1.out.cell (p := ⟨g11, 0, none⟩) m11).trans j0, (HZ_z1.out.cell (p := ⟨g11, 1, none⟩) m11).trans j1, (HZ_z1.out.cell (p := ⟨g6, 1, none⟩) m6Z).trans hq9⟩ (fun hHeld => ?_)
              clear hK K
              clear hbx
              refine wpAnyH_take (i := 5) (v := ?_) rfl (by kernel_rfl) (by kernel_rfl) (by kernel_rfl) (fun _ _ _ h => h) (Or.inl ⟨by rfl, ?hy11049⟩) (by assumption) ?ty11049
              case hy11049 => (intro w hSw; (try dsimp only at hSw); go_simp; all_goals with_reducible rfl)
              simp only [Act.put, List.getElem_toArray, List.getElem_cons_zero, List.getElem_cons_succ, List.setIfInBounds_toArray, List.set_cons_zero, List.set_cons_succ]
              refine wpAnyH_take (i := 6) (v := .bool true) rfl (by kernel_rfl) (by kernel_rfl) (by kernel_rfl) (fun _ _ _ h => h) (Or.inl ⟨by rfl, ?hy11050⟩) (by assumption) ?ty11050
              case hy11050 => (intro w hSw; (try dsimp only at hSw); go_simp; first | (simp; done) | (all_goals with_reducible rfl))
              simp only [Act.put, List.getElem_toArray, List.getElem_cons_zero, List.getElem_cons_succ, List.setIfInBounds_toArray, List.set_cons_zero, List.set_cons_succ]
              refine wpAnyH_take (i := 7) (v := ?_) rfl (by kernel_rfl) (by kernel_rfl) (by kernel_rfl) (fun _ _ _ h => h) (Or.inl ⟨by rfl, ?hy11051⟩) (by assumption) ?ty11051
              case hy11051 => (intro w hSw; (try dsimp only at hSw); go_simp; all_goals with_reducible rfl)
              simp only [Act.put, List.getElem_toArray, List.getElem_cons_zero, List.getElem_cons_succ, List.setIfInBounds_toArray, List.set_cons_zero, List.set_cons_succ]
              refine wpAnyH_take (i := 8) (v := ?_) rfl (by kernel_rfl) (by kernel_rfl) (by kernel_rfl) (fun _ _ _ h => h) (Or.inl ⟨by rfl, ?hy11052⟩) (by assumption) ?ty11052
              case hy11052 => (intro w hSw; (try dsimp only at hSw); go_simp; all_goals with_reducible rfl)
              simp only [Act.put, List.getElem_toArray, List.getElem_cons_zero, List.getElem_cons_succ, List.setIfInBounds_toArray, List.set_cons_zero, List.set_cons_succ]
              refine wpAnyH_take (i := 9) (v := ?_) rfl (by kernel_rfl) (by kernel_rfl) (by kernel_rfl) (fun _ _ _ h => h) (Or.inl ⟨by rfl, ?hy11053⟩) (by assumption) ?ty11053
              case hy11053 => (intro w hSw; (try dsimp only at hSw); go_simp; all_goals with_reducible rfl)
              simp only [Act.put, List.getElem_toArray, List.getElem_cons_zero, List.getElem_cons_succ, List.setIfInBounds_toArray, List.set_cons_zero, List.set_cons_succ]
              refine wpAnyH_take (i := 10) (v := ?_) rfl (by kernel_rfl) (by kernel_rfl) (by kernel_rfl) (fun _ _ _ h => h) (Or.inl ⟨by rfl, ?hy11054⟩) (by assumption) ?ty11054
              case hy11054 => (intro w hSw; (try dsimp only at hSw); go_simp; all_goals with_reducible rfl)
              simp only [Act.put, List.getElem_toArray, List.getElem_cons_zero, List.getElem_cons_succ, List.setIfInBounds_toArray, List.set_cons_zero, List.set_cons_succ]
              refine wpAnyH_take (i := 11) (v := ?_) rfl (by kernel_rfl) (by kernel_rfl) (by kernel_rfl) (fun _ _ _ h => h) (Or.inl ⟨by rfl, ?hy11055⟩) (by assumption) ?ty11055
              case hy11055 => (intro w hSw; (try dsimp only at hSw); go_simp; all_goals with_reducible rfl)
              simp only [Act.put, List.getElem_toArray, List.getElem_cons_zero, List.getElem_cons_succ, List.setIfInBounds_toArray, List.set_cons_zero, List.set_cons_succ]
              refine wpAnyH_ready (rs := [12]) (by kernel_rfl) (by simp) ?_
              refine AllReadyH.cons rfl (fun K hK => ?_) AllReadyH.nil
              go_simp
              refine (HFS.out _ (by exact hr9.below HZ_z1.out)).mono ?_
              rintro e z2 ⟨rfl, hbx⟩
              have HZ_z2 : Hid (Below Z.heap.size Z z2) := HZ_z1.out.trans (hbx.mono HZ_z1.out.size)
              refine hK.out _ _ ⟨(HZ_z2.out.cell (p := ⟨g11, 0, none⟩) m11).trans j0, (HZ_z2.out.cell (p := ⟨g11, 1, none⟩) m11).trans j1, (HZ_z2.out.cell (p := ⟨g6, 1, none⟩) m6Z).trans hq9⟩ (fun hHeld => ?_)
              clear hK K
              clear hbx
              refine wpAnyH_take (i := 13) (v := ?_) rfl (by kernel_rfl) (by kernel_rfl) (by kernel_rfl) (fun _ _ _ h => h) (Or.inl ⟨by rfl, ?hy11056⟩) (by assumption) ?ty11056
              case hy11056 => (intro w hSw; (try dsimp only at hSw); go_simp; all_goals with_reducible rfl)
              simp only [Act.put, List.getElem_toArray, List.getElem_cons_zero, List.getElem_cons_succ, List.setIfInBounds_toArray, List.set_cons_zero, List.set_cons_succ]
              refine wpAnyH_take (i := 14) (v := .bool true) rfl (by kernel_rfl) (by kernel_rfl) (by kernel_rfl) (fun _ _ _ h => h) (Or.inl ⟨by rfl, ?hy11057⟩) (by assumption) ?ty11057
              case hy11057 => (intro w hSw; (try dsimp only at hSw); go_simp; first | (simp; done) | (all_goals with_reducible rfl))
              simp only [Act.put, List.getElem_toArray, List.getElem_cons_zero, List.getElem_cons_succ, List.setIfInBounds_toArray, List.set_cons_zero, List.set_cons_succ]
              refine wpAnyH_take (i := 15) (v := ?_) rfl (by kernel_rfl) (by kernel_rfl) (by kernel_rfl) (fun _ _ _ h => h) (Or.inl ⟨by rfl, ?hy11058⟩) (by assumption) ?ty11058
              case hy11058 => (intro w hSw; (try dsimp only at hSw); go_simp; all_goals with_reducible rfl)
              simp only [Act.put, List.getElem_toArray, List.getElem_cons_zero, List.getElem_cons_succ, List.setIfInBounds_toArray, List.set_cons_zero, List.set_cons_succ]
              refine wpAnyH_take (i := 16) (v := ?_) rfl (by kernel_rfl) (by kernel_rfl) (by kernel_rfl) (fun _ _ _ h => h) (Or.inl ⟨by rfl, ?hy11059⟩) (by assumption) ?ty11059
              case hy11059 => (intro w hSw; (try dsimp only at hSw); go_simp; all_goals with_reducible rfl)
              simp only [Act.put, List.getElem_toArray, List.getElem_cons_zero, List.getElem_cons_succ, List.setIfInBounds_toArray, List.set_cons_zero, List.set_cons_succ]
              refine wpAnyH_take (i := 17) (v := ?_) rfl (by kernel_rfl) (by kernel_rfl) (by kernel_rfl) (fun _ _ _ h => h) (Or.inl ⟨by rfl, ?hy11060⟩) (by assumption) ?ty11060
              case hy11060 => (intro w hSw; (try dsimp only at hSw); go_simp; all_goals with_reducible rfl)
              simp only [Act.put, List.getElem_toArray, List.getElem_cons_zero, List.getElem_cons_succ, List.setIfInBounds_toArray, List.set_cons_zero, List.set_cons_succ]
              refine wpAnyH_take (i := 18) (v := ?_) rfl (by kernel_rfl) (by kernel_rfl) (by kernel_rfl) (fun _ _ _ h => h) (Or.inl ⟨by rfl, ?hy11061⟩) (by assumption) ?ty11061
              case hy11061 => (intro w hSw; (try dsimp only at hSw); go_simp; all_goals with_reducible rfl)
              simp only [Act.put, List.getElem_toArray, List.getElem_cons_zero, List.getElem_cons_succ, List.setIfInBounds_toArray, List.set_cons_zero, List.set_cons_succ]
              refine wpAnyH_take (i := 19) (v := ?_) rfl (by kernel_rfl) (by kernel_rfl) (by kernel_rfl) (fun _ _ _ h => h) (Or.inl ⟨by rfl, ?hy11062⟩) (by assumption) ?ty11062
              case hy11062 => (intro w hSw; (try dsimp only at hSw); go_simp; all_goals with_reducible rfl)
              simp only [Act.put, List.getElem_toArray, List.getElem_cons_zero, List.getElem_cons_succ, List.setIfInBounds_toArray, List.set_cons_zero, List.set_cons_succ]
              refine wpAnyH_take (i := 20) (v := .bool true) rfl (by kernel_rfl) (by kernel_rfl) (by kernel_rfl) (fun _ _ _ h => h) (Or.inl ⟨by rfl, ?hy11063⟩) (by assumption) ?ty11063
              case hy11063 => (intro w hSw; (try dsimp only at hSw); go_simp; first | (simp [hM0]; done) | omega | (simp; omega) | (all_goals with_reducible rfl))
              simp only [Act.put, List.getElem_toArray, List.getElem_cons_zero, List.getElem_cons_succ, List.setIfInBounds_toArray, List.set_cons_zero, List.set_cons_succ]
              refine wpAnyH_take (i := 21) (v := ?_) rfl (by kernel_rfl) (by kernel_rfl) (by kernel_rfl) (fun _ _ _ h => h) (Or.inl ⟨by rfl, ?hy11064⟩) (by assumption) ?ty11064
              case hy11064 => (intro w hSw; (try dsimp only at hSw); go_simp; all_goals with_reducible rfl)
              simp only [Act.put, List.getElem_toArray, List.getElem_cons_zero, List.getElem_cons_succ, List.setIfInBounds_toArray, List.set_cons_zero, List.set_cons_succ]
              refine wpAnyH_take (i := 22) (v := ?_) rfl (by kernel_rfl) (by kernel_rfl) (by kernel_rfl) (fun _ _ _ h => h) (Or.inl ⟨by rfl, ?hy11065⟩) (by assumption) ?ty11065
              case hy11065 => (intro w hSw; (try dsimp only at hSw); go_simp; all_goals with_reducible rfl)
              simp only [Act.put, List.getElem_toArray, List.getElem_cons_zero, List.getElem_cons_succ, List.setIfInBounds_toArray, List.set_cons_zero, List.set_cons_succ]
              refine wpAnyH_done (by kernel_rfl) ?_ _
              have HF : Hid (Below w.heap.size w z2) := HBI.out.trans (HZ_z2.out.mono HBI.out.size)
              clear hHeld HZ_z1 HZ_z2 HFS HBI
              go_wp2
              go_ret
              exact ⟨rfl, HF.out⟩
            · skip
              go_wp2_with fail
              refine (drawFieldOf_any a n cap l _ hl (hr.below HBG.out) hB (by omega)).mono ?_
              rintro e w8 ⟨v8, l8, t8, rfl, ho8, hk8, hD8, hB8, ht8, hb8⟩
              obtain ⟨a8, c8, hv, -, -⟩ := ho8.form
              obtain ⟨n8, hn8⟩ : ∃ n8, l8.length = n8 := ⟨_, rfl⟩
              have HL8 : Hid (l8.length = n8) := hn8
              rw [hn8] at hv hk8
              subst hv
              clear hn8
              have hr8 := ho8.rd.2
              have hx8 : (str t8).size ≤ 1048576 := by rw [str_size]; omega
              have HFI : Hid (∀ w, RdF w a8 l8 → Calls Try.prog 13 #[.slice a8 n8 c8, .string (str t8)] w fun e w' => e = .returned (.agg #[.int .i64 (foC l8 (str t8)), .string (foT l8 (str t8))]) ∧ Below w.heap.size w w') := fun w h => fieldOf_any a8 n8 c8 l8 (str t8) w HL8.out h (by omega) hD8.fit hx8
              have HFS : Hid (∀ w, RdF w a8 l8 → Calls Try.prog 15 #[.slice a8 n8 c8, .string (str t8)] w fun e w' => e = .returned (.agg #[.int .i64 (foC l8 (str t8)), .string (foT l8 (str t8))]) ∧ Below w.heap.size w w') := fun w h => specFieldOf_any a8 n8 c8 l8 (str t8) w HL8.out h (by omega) hD8.fit hx8
              generalize foC l8 (str t8) = fc at *
              generalize foT l8 (str t8) = ft at *
              generalize str t8 = tx8 at *
              have HBH : Hid (Below w.heap.size w w8) := HBG.out.trans (hb8.mono HBG.out.size)
              have hq8 := (hb8.cell (p := ⟨g6, 1, none⟩) hg6F).trans hq1
              have hg68 : g6 < w8.heap.size := Nat.lt_of_lt_of_le hg6F hb8.size
              clear hb8 ho8 hq1 hg6F HBG hD8 hB8 ht8
              go_wp2_with fail
              refine (HFI.out _ hr8).mono ?_
              rintro e w9 ⟨rfl, hb9⟩
              have hbA : Below w9.heap.size w9 (w9.alloc (.cells #[.int .i64 fc, .string ft] 37)) := (Below.refl _ _).alloc (Nat.le_refl _) _
              have hX9 : Below w8.heap.size w8 (w9.alloc (.cells #[.int .i64 fc, .string ft] 37)) := hb9.trans (hbA.mono hb9.size)
              have HBI : Hid (Below w.heap.size w (w9.alloc (.cells #[.int .i64 fc, .string ft] 37))) := HBH.out.trans (hX9.mono HBH.out.size)
              have hr9 := hr8.below hX9
              have hq9 := (hX9.cell (p := ⟨g6, 1, none⟩) hg68).trans hq8
              obtain ⟨j0, j1, -, -⟩ := res_block (w := w9) (wr := w9.alloc (.cells #[.int .i64 fc, .string ft] 37)) rfl (Below.refl _ _)
              have hsW9 : (w9.alloc (.cells #[.int .i64 fc, .string ft] 37)).heap.size = w9.heap.size + 1 := by simp
              have hz9 := hb9.size
              clear hb9 hX9 HFI hbA HBH hr8 hq8
              go_wp2_with fail
              generalize w9.alloc (.cells #[.int .i64 fc, .string ft] 37) = Z at *
              generalize w9.heap.size = g11 at *
              have m11 : g11 < Z.heap.size := by omega
              have m6Z : g6 < Z.heap.size := by omega
              refine wp_region_held_drew (S := fun w' => w'.cell? ⟨g11, 0, none⟩ = some (.int .i64 fc) ∧ w'.cell? ⟨g11, 1, none⟩ = some (.string ft) ∧ w'.cell? ⟨g6, 1, none⟩ = some (.slice (some ⟨g4, o4, none⟩) M c4)) (by kernel_rfl) ?hS11066 (fun hHeld => ?_)
              case hS11066 => exact ⟨j0, j1, hq9⟩
              refine wpAnyH_take (i := 0) (v := ?_) rfl (by kernel_rfl) (by kernel_rfl) (by kernel_rfl) (fun _ _ _ h => h) (Or.inl ⟨by rfl, ?hy11067⟩) (by assumption) ?ty11067
              case hy11067 => (intro w hSw; (try dsimp only at hSw); go_simp; all_goals with_reducible rfl)
              simp only [Act.put, List.getElem_toArray, List.getElem_cons_zero, List.setIfInBounds_toArray, List.set_cons_zero, List.set_cons_succ]
              refine wpAnyH_take (i := 1) (v := ?_) rfl (by kernel_rfl) (by kernel_rfl) (by kernel_rfl) (fun _ _ _ h => h) (Or.inl ⟨by rfl, ?hy11068⟩) (by assumption) ?ty11068
              case hy11068 => (intro w hSw; (try dsimp only at hSw); go_simp; all_goals with_reducible rfl)
              simp only [Act.put, List.getElem_toArray, List.getElem_cons_zero, List.getElem_cons_succ, List.setIfInBounds_toArray, List.set_cons_zero, List.set_cons_succ]
              refine wpAnyH_take (i := 2) (v := ?_) rfl (by kernel_rfl) (by kernel_rfl) (by kernel_rfl) (fun _ _ _ h => h) (Or.inl ⟨by rfl, ?hy11069⟩) (by assumption) ?ty11069
              case hy11069 => (intro w hSw; (try dsimp only at hSw); go_simp; all_goals with_reducible rfl)
              simp only [Act.put, List.getElem_toArray, List.getElem_cons_zero, List.getElem_cons_succ, List.setIfInBounds_toArray, List.set_cons_zero, List.set_cons_succ]
              refine wpAnyH_take (i := 3) (v := ?_) rfl (by kernel_rfl) (by kernel_rfl) (by kernel_rfl) (fun _ _ _ h => h) (Or.inl ⟨by rfl, ?hy11070⟩) (by assumption) ?ty11070
              case hy11070 => (intro w hSw; (try dsimp only at hSw); go_simp; all_goals with_reducible rfl)
              simp only [Act.put, List.getElem_toArray, List.getElem_cons_zero, List.getElem_cons_succ, List.setIfInBounds_toArray, List.set_cons_zero, List.set_cons_succ]
              refine wpAnyH_ready (rs := [4]) (by kernel_rfl) (by simp) ?_
              refine AllReadyH.cons rfl (fun K hK => ?_) AllReadyH.nil
              go_simp
              refine (HFS.out _ (by exact hr9)).mono ?_
              rintro e z1 ⟨rfl, hbx⟩
              have HZ_z1 : Hid (Below Z.heap.size Z z1) := (Below.refl _ _).drew.trans hbx
              refine hK.out _ _ ⟨(HZ_z1.out.cell (p := ⟨g11, 0, none⟩) m11).trans j0, (HZ_z1.out.cell (p := ⟨g11, 1, none⟩) m11).trans j1, (HZ_z1.out.cell (p := ⟨g6, 1, none⟩) m6Z).trans hq9⟩ (fun hHeld => ?_)
              clear hK K
              clear hbx
              refine wpAnyH_take (i := 5) (v := ?_) rfl (by kernel_rfl) (by kernel_rfl) (by kernel_rfl) (fun _ _ _ h => h) (Or.inl ⟨by rfl, ?hy11071⟩) (by assumption) ?ty11071
              case hy11071 => (intro w hSw; (try dsimp only at hSw); go_simp; all_goals with_reducible rfl)
              simp only [Act.put, List.getElem_toArray, List.getElem_cons_zero, List.getElem_cons_succ, List.setIfInBounds_toArray, List.set_cons_zero, List.set_cons_succ]
              refine wpAnyH_take (i := 6) (v := .bool true) rfl (by kernel_rfl) (by kernel_rfl) (by kernel_rfl) (fun _ _ _ h => h) (Or.inl ⟨by rfl, ?hy11072⟩) (by assumption) ?ty11072
              case hy11072 => (intro w hSw; (try dsimp only at hSw); go_simp; first | (simp; done) | (all_goals with_reducible rfl))
              simp only [Act.put, List.getElem_toArray, List.getElem_cons_zero, List.getElem_cons_succ, List.setIfInBounds_toArray, List.set_cons_zero, List.set_cons_succ]
              refine wpAnyH_take (i := 7) (v := ?_) rfl (by kernel_rfl) (by kernel_rfl) (by kernel_rfl) (fun _ _ _ h => h) (Or.inl ⟨by rfl, ?hy11073⟩) (by assumption) ?ty11073
              case hy11073 => (intro w hSw; (try dsimp only at hSw); go_simp; all_goals with_reducible rfl)
              simp only [Act.put, List.getElem_toArray, List.getElem_cons_zero, List.getElem_cons_succ, List.setIfInBounds_toArray, List.set_cons_zero, List.set_cons_succ]
              refine wpAnyH_take (i := 8) (v := ?_) rfl (by kernel_rfl) (by kernel_rfl) (by kernel_rfl) (fun _ _ _ h => h) (Or.inl ⟨by rfl, ?hy11074⟩) (by assumption) ?ty11074
              case hy11074 => (intro w hSw; (try dsimp only at hSw); go_simp; all_goals with_reducible rfl)
              simp only [Act.put, List.getElem_toArray, List.getElem_cons_zero, List.getElem_cons_succ, List.setIfInBounds_toArray, List.set_cons_zero, List.set_cons_succ]
              refine wpAnyH_take (i := 9) (v := ?_) rfl (by kernel_rfl) (by kernel_rfl) (by kernel_rfl) (fun _ _ _ h => h) (Or.inl ⟨by rfl, ?hy11075⟩) (by assumption) ?ty11075
              case hy11075 => (intro w hSw; (try dsimp only at hSw); go_simp; all_goals with_reducible rfl)
              simp only [Act.put, List.getElem_toArray, List.getElem_cons_zero, List.getElem_cons_succ, List.setIfInBounds_toArray, List.set_cons_zero, List.set_cons_succ]
              refine wpAnyH_take (i := 10) (v := ?_) rfl (by kernel_rfl) (by kernel_rfl) (by kernel_rfl) (fun _ _ _ h => h) (Or.inl ⟨by rfl, ?hy11076⟩) (by assumption) ?ty11076
              case hy11076 => (intro w hSw; (try dsimp only at hSw); go_simp; all_goals with_reducible rfl)
              simp only [Act.put, List.getElem_toArray, List.getElem_cons_zero, List.getElem_cons_succ, List.setIfInBounds_toArray, List.set_cons_zero, List.set_cons_succ]
              refine wpAnyH_take (i := 11) (v := ?_) rfl (by kernel_rfl) (by kernel_rfl) (by kernel_rfl) (fun _ _ _ h => h) (Or.inl ⟨by rfl, ?hy11077⟩) (by assumption) ?ty11077
              case hy11077 => (intro w hSw; (try dsimp only at hSw); go_simp; all_goals with_reducible rfl)
              simp only [Act.put, List.getElem_toArray, List.getElem_cons_zero, List.getElem_cons_succ, List.setIfInBounds_toArray, List.set_cons_zero, List.set_cons_succ]
              refine wpAnyH_ready (rs := [12]) (by kernel_rfl) (by simp) ?_
              refine AllReadyH.cons rfl (fun K hK => ?_) AllReadyH.nil
              go_simp
              refine (HFS.out _ (by exact hr9.below HZ_z1.out)).mono ?_
              rintro e z2 ⟨rfl, hbx⟩
              have HZ_z2 : Hid (Below Z.heap.size Z z2) := HZ_z1.out.trans (hbx.mono HZ_z1.out.size)
              refine hK.out _ _ ⟨(HZ_z2.out.cell (p := ⟨g11, 0, none⟩) m11).trans j0, (HZ_z2.out.cell (p := ⟨g11, 1, none⟩) m11).trans j1, (HZ_z2.out.cell (p := ⟨g6, 1, none⟩) m6Z).trans hq9⟩ (fun hHeld => ?_)
              clear hK K
              clear hbx
              refine wpAnyH_take (i := 13) (v := ?_) rfl (by kernel_rfl) (by kernel_rfl) (by kernel_rfl) (fun _ _ _ h => h) (Or.inl ⟨by rfl, ?hy11078⟩) (by assumption) ?ty11078
              case hy11078 => (intro w hSw; (try dsimp only at hSw); go_simp; all_goals with_reducible rfl)
              simp only [Act.put, List.getElem_toArray, List.getElem_cons_zero, List.getElem_cons_succ, List.setIfInBounds_toArray, List.set_cons_zero, List.set_cons_succ]
              refine wpAnyH_take (i := 14) (v := .bool true) rfl (by kernel_rfl) (by kernel_rfl) (by kernel_rfl) (fun _ _ _ h => h) (Or.inl ⟨by rfl, ?hy11079⟩) (by assumption) ?ty11079
              case hy11079 => (intro w hSw; (try dsimp only at hSw); go_simp; first | (simp; done) | (all_goals with_reducible rfl))
              simp only [Act.put, List.getElem_toArray, List.getElem_cons_zero, List.getElem_cons_succ, List.setIfInBounds_toArray, List.set_cons_zero, List.set_cons_succ]
              refine wpAnyH_take (i := 15) (v := ?_) rfl (by kernel_rfl) (by kernel_rfl) (by kernel_rfl) (fun _ _ _ h => h) (Or.inl ⟨by rfl, ?hy11080⟩) (by assumption) ?ty11080
              case hy11080 => (intro w hSw; (try dsimp only at hSw); go_simp; all_goals with_reducible rfl)
              simp only [Act.put, List.getElem_toArray, List.getElem_cons_zero, List.getElem_cons_succ, List.setIfInBounds_toArray, List.set_cons_zero, List.set_cons_succ]
              refine wpAnyH_take (i := 16) (v := ?_) rfl (by kernel_rfl) (by kernel_rfl) (by kernel_rfl) (fun _ _ _ h => h) (Or.inl ⟨by rfl, ?hy11081⟩) (by assumption) ?ty11081
              case hy11081 => (intro w hSw; (try dsimp only at hSw); go_simp; all_goals with_reducible rfl)
              simp only [Act.put, List.getElem_toArray, List.getElem_cons_zero, List.getElem_cons_succ, List.setIfInBounds_toArray, List.set_cons_zero, List.set_cons_succ]
              refine wpAnyH_take (i := 17) (v := ?_) rfl (by kernel_rfl) (by kernel_rfl) (by kernel_rfl) (fun _ _ _ h => h) (Or.inl ⟨by rfl, ?hy11082⟩) (by assumption) ?ty11082
              case hy11082 => (intro w hSw; (try dsimp only at hSw); go_simp; all_goals with_reducible rfl)
              simp only [Act.put, List.getElem_toArray, List.getElem_cons_zero, List.getElem_cons_succ, List.setIfInBounds_toArray, List.set_cons_zero, List.set_cons_succ]
              refine wpAnyH_take (i := 18) (v := ?_) rfl (by kernel_rfl) (by kernel_rfl) (by kernel_rfl) (fun _ _ _ h => h) (Or.inl ⟨by rfl, ?hy11083⟩) (by assumption) ?ty11083
              case hy11083 => (intro w hSw; (try dsimp only at hSw); go_simp; all_goals with_reducible rfl)
              simp only [Act.put, List.getElem_toArray, List.getElem_cons_zero, List.getElem_cons_succ, List.setIfInBounds_toArray, List.set_cons_zero, List.set_cons_succ]
              refine wpAnyH_take (i := 19) (v := ?_) rfl (by kernel_rfl) (by kernel_rfl) (by kernel_rfl) (fun _ _ _ h => h) (Or.inl ⟨by rfl, ?hy11084⟩) (by assumption) ?ty11084
              case hy11084 => (intro w hSw; (try dsimp only at hSw); go_simp; all_goals with_reducible rfl)
              simp only [Act.put, List.getElem_toArray, List.getElem_cons_zero, List.getElem_cons_succ, List.setIfInBounds_toArray, List.set_cons_zero, List.set_cons_succ]
              refine wpAnyH_take (i := 20) (v := .bool true) rfl (by kernel_rfl) (by kernel_rfl) (by kernel_rfl) (fun _ _ _ h => h) (Or.inl ⟨by rfl, ?hy11085⟩) (by assumption) ?ty11085
              case hy11085 => (intro w hSw; (try dsimp only at hSw); go_simp; first | (simp [hM0]; done) | omega | (simp; omega) | (all_goals with_reducible rfl))
              simp only [Act.put, List.getElem_toArray, List.getElem_cons_zero, List.getElem_cons_succ, List.setIfInBounds_toArray, List.set_cons_zero, List.set_cons_succ]
              refine wpAnyH_take (i := 21) (v := ?_) rfl (by kernel_rfl) (by kernel_rfl) (by kernel_rfl) (fun _ _ _ h => h) (Or.inl ⟨by rfl, ?hy11086⟩) (by assumption) ?ty11086
              case hy11086 => (intro w hSw; (try dsimp only at hSw); go_simp; all_goals with_reducible rfl)
              simp only [Act.put, List.getElem_toArray, List.getElem_cons_zero, List.getElem_cons_succ, List.setIfInBounds_toArray, List.set_cons_zero, List.set_cons_succ]
              refine wpAnyH_take (i := 22) (v := ?_) rfl (by kernel_rfl) (by kernel_rfl) (by kernel_rfl) (fun _ _ _ h => h) (Or.inl ⟨by rfl, ?hy11087⟩) (by assumption) ?ty11087
              case hy11087 => (intro w hSw; (try dsimp only at hSw); go_simp; all_goals with_reducible rfl)
              simp only [Act.put, List.getElem_toArray, List.getElem_cons_zero, List.getElem_cons_succ, List.setIfInBounds_toArray, List.set_cons_zero, List.set_cons_succ]
              refine wpAnyH_done (by kernel_rfl) ?_ _
              have HF : Hid (Below w.heap.size w z2) := HBI.out.trans (HZ_z2.out.mono HBI.out.size)
              clear hHeld HZ_z1 HZ_z2 HFS HBI
              go_wp2
              go_ret
              exact ⟨rfl, HF.out⟩
      · have en : (e0 != 0) = true := by simp; omega
        clear HBK HM
        go_wp2_with fail
        generalize w4.alloc (.cells #[.int .i64 e0, .slice b4 M c4] 32) = V at *
        generalize w4.heap.size = g6 at *
        have hg6 : g6 < V.heap.size := by omega
        refine wp_region_held_drew (S := fun w' => w'.cell? ⟨g6, 0, none⟩ = some (.int .i64 e0)) (by kernel_rfl) ?hS11088 (fun hHeld => ?_)
        case hS11088 => exact q0
        refine wpAnyH_take (i := 0) (v := ?_) rfl (by kernel_rfl) (by kernel_rfl) (by kernel_rfl) (fun _ _ _ h => h) (Or.inl ⟨by rfl, ?hy11089⟩) (by assumption) ?ty11089
        case hy11089 => (intro w hSw; (try dsimp only at hSw); go_simp; all_goals with_reducible rfl)
        simp only [Act.put, List.getElem_toArray, List.getElem_cons_zero, List.setIfInBounds_toArray, List.set_cons_zero, List.set_cons_succ]
        refine wpAnyH_take (i := 3) (v := ?_) rfl (by kernel_rfl) (by kernel_rfl) (by kernel_rfl) (fun _ _ _ h => h) (Or.inl ⟨by rfl, ?hy11090⟩) (by assumption) ?ty11090
        case hy11090 => (intro w hSw; (try dsimp only at hSw); go_simp; all_goals with_reducible rfl)
        simp only [Act.put, List.getElem_toArray, List.getElem_cons_zero, List.getElem_cons_succ, List.setIfInBounds_toArray, List.set_cons_zero, List.set_cons_succ]
        refine wpAnyH_take (i := 4) (v := ?_) rfl (by kernel_rfl) (by kernel_rfl) (by kernel_rfl) (fun _ _ _ h => h) (Or.inl ⟨by rfl, ?hy11091⟩) (by assumption) ?ty11091
        case hy11091 => (intro w hSw; (try dsimp only at hSw); go_simp; all_goals with_reducible rfl)
        simp only [Act.put, List.getElem_toArray, List.getElem_cons_zero, List.getElem_cons_succ, List.setIfInBounds_toArray, List.set_cons_zero, List.set_cons_succ]
        refine wpAnyH_ready (rs := [1]) (by kernel_rfl) (by simp) ?_
        refine AllReadyH.cons rfl (fun K hK => ?_) AllReadyH.nil
        go_simp
        refine (HPS2.out _ (by exact hs4)).mono ?_
        rintro e z1 ⟨v5, rfl, -, hbx⟩
        simp only
        have HZ : Hid (Below V.heap.size V z1) := (Below.refl _ _).drew.trans hbx
        have hsS := (HZ.out.cell (p := ⟨g6, 0, none⟩) hg6).trans q0
        refine hK.out _ _ hsS (fun hHeld => ?_)
        clear hK K
        clear hbx hsS
        refine wpAnyH_take (i := 2) (v := ?_) rfl (by kernel_rfl) (by kernel_rfl) (by kernel_rfl) (fun _ _ _ h => h) (Or.inl ⟨by rfl, ?hy11092⟩) (by assumption) ?ty11092
        case hy11092 => (intro w hSw; (try dsimp only at hSw); go_simp; all_goals with_reducible rfl)
        simp only [Act.put, List.getElem_toArray, List.getElem_cons_zero, List.getElem_cons_succ, List.setIfInBounds_toArray, List.set_cons_zero, List.set_cons_succ]
        refine wpAnyH_take (i := 5) (v := .bool true) rfl (by kernel_rfl) (by kernel_rfl) (by kernel_rfl) (fun _ _ _ h => h) (Or.inl ⟨by rfl, ?hy11093⟩) (by assumption) ?ty11093
        case hy11093 => (intro w hSw; (try dsimp only at hSw); go_simp; first | (simp; done) | (all_goals with_reducible rfl))
        simp only [Act.put, List.getElem_toArray, List.getElem_cons_zero, List.getElem_cons_succ, List.setIfInBounds_toArray, List.set_cons_zero, List.set_cons_succ]
        refine wpAnyH_take (i := 6) (v := ?_) rfl (by kernel_rfl) (by kernel_rfl) (by kernel_rfl) (fun _ _ _ h => h) (Or.inl ⟨by rfl, ?hy11094⟩) (by assumption) ?ty11094
        case hy11094 => (intro w hSw; (try dsimp only at hSw); go_simp; all_goals with_reducible rfl)
        simp only [Act.put, List.getElem_toArray, List.getElem_cons_zero, List.getElem_cons_succ, List.setIfInBounds_toArray, List.set_cons_zero, List.set_cons_succ]
        refine wpAnyH_done (by kernel_rfl) ?_ _
        have HF : Hid (Below w.heap.size w z1) := HB4.out.trans (HZ.out.mono HB4.out.size)
        clear hHeld HZ HPS2 HB4
        go_wp2
        go_ret
        exact ⟨rfl, HF.out⟩
end Go.Proofs.Ytpgjichcpnjeoaa
