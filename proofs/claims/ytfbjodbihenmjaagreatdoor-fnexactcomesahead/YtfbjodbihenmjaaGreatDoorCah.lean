/- ComesAhead, the program's and the model's: by one plain function. -/
import Derived.Test.YtfbjodbihenmjaaGreatDoorSbj
import Derived.Test.YtfbjodbihenmjaaGreatDoorCmpToCmp2
import Derived.Test.YtfbjodbihenmjaaGreatDoorMsbToWdR
namespace Go.Proofs.YtfbjodbihenmjaaGreatDoor
open Go.RowKit

/-- How two messages compare by a key: below 0 if the first is ahead. -/
def ahV (k key : Int) (m n : Msg) : Int := if key = 1 then cmp1 m.d n.d else if key = 2 then cmp1 (m.b.length : Int) (n.b.length : Int) else if key = 3 then cmpL ((sbV m.b).2.map (mapC k)) ((sbV n.b).2.map (mapC k)) else cmp1 m.u n.u
/-- Whether the first comes ahead of the second. -/
def caV (k key : Int) (m n : Msg) : Bool := decide (mfV m = 0 ∧ mfV n = 0 ∧ (1 ≤ k ∧ k ≤ 3) ∧ (1 ≤ key ∧ key ≤ 4) ∧ ahV k key m n < 0)
theorem sbV_flt (d : List Nat) : flt (sbV d).2 = 0 := by
  unfold sbV
  split
  · unfold sbF
    cases h : fdOf (phV d).2.2 wsb with
    | none => rfl
    | some v =>
      dsimp only
      by_cases hz : (dwV (bts v)).1 = 0
      · exact dw_fault _ (bts_isB v) hz
      · rw [dwV_zero hz]; rfl
  · rfl
theorem compareNumbers_any (x y : Int) (w : World) : Calls Tryz.prog 39 #[.int .i64 x, .int .i64 y] w fun e w' => e = .returned (.int .i64 (cmp1 x y)) ∧ w = w' := by
  have HC := compare64_any x y
  generalize cmp1 x y = r at *
  go_enter Tryz.func39, Tryz.ntmps39
  go_wp2_with fail
  refine (HC _).mono ?_
  rintro e w' ⟨rfl, rfl⟩
  go_wp2
  go_ret
  exact ⟨rfl, rfl⟩
theorem fldC1 (x y : Value) (w : World) : (Instr.field 70 (.agg #[x, y]) 1).run Tryz.prog w = .ok y w := by
  simp [Instr.field, asAgg, go_sem]
theorem fldI1 (x y : Value) (w : World) : (Instr.field 67 (.agg #[x, y]) 1).run Tryz.prog w = .ok y w := by
  simp [Instr.field, asAgg, go_sem]
theorem keep3 {w w' : World} {B : Nat} {x0 x1 x2 : Option Value} (hb : Below w.heap.size w w') (hB : B + 3 ≤ w.heap.size)
    (h : w.cell? ⟨B, 0, none⟩ = x0 ∧ w.cell? ⟨B + 1, 3, none⟩ = x1 ∧ w.cell? ⟨B + 2, 3, none⟩ = x2) : w'.cell? ⟨B, 0, none⟩ = x0 ∧ w'.cell? ⟨B + 1, 3, none⟩ = x1 ∧ w'.cell? ⟨B + 2, 3, none⟩ = x2 :=
  ⟨(hb.cell (p := ⟨B, 0, none⟩) (by simp; omega)).trans h.1, (hb.cell (p := ⟨B + 1, 3, none⟩) (by simp; omega)).trans h.2.1, (hb.cell (p := ⟨B + 2, 3, none⟩) (by simp; omega)).trans h.2.2⟩

set_option maxHeartbeats 3200000 in
set_option maxRecDepth 100000 in
theorem compare_any (k key : Int) (bk : Bool) (m n : Msg) (g h : Nat) {lo lo' : Nat} (w : World) (hs : IsSl lo w (some ⟨g, 0, none⟩, m.b.length, m.b.length) m.b) (hs' : IsSl lo' w (some ⟨h, 0, none⟩, n.b.length, n.b.length) n.b)
    (hT : TabC w) (hTB : TabB w) (hTH : TabH w) (hMI : MaxI w) (hk : 1 ≤ k ∧ k ≤ 3) :
    Calls Tryz.prog 25 #[.agg #[.int .i64 k, .int .i64 key, .bool bk], msX m (some ⟨g, 0, none⟩, m.b.length, m.b.length), msX n (some ⟨h, 0, none⟩, n.b.length, n.b.length)] w fun e w' => e = .returned (.int .i64 (ahV k key m n)) ∧ Below w.heap.size w w' := by
  have HV : Hid (ahV k key m n = if key = 1 then cmp1 m.d n.d else if key = 2 then cmp1 (m.b.length : Int) (n.b.length : Int) else if key = 3 then cmpL ((sbV m.b).2.map (mapC k)) ((sbV n.b).2.map (mapC k)) else cmp1 m.u n.u) := rfl
  obtain ⟨mu, mf, md, ma⟩ := m
  obtain ⟨nu, nf, nd, mb⟩ := n
  dsimp only [msX, slW] at HV hs hs' ⊢
  have HSa : Hid (∀ W : World, Below w.heap.size w W → Calls Tryz.prog 41 #[.slice (some ⟨g, 0, none⟩) ma.length ma.length] W (CodEnd (sbV ma) W)) := fun W hW => subjectOf_any g ma.length ma W (hs.2.2.2.2.1.below hW) (hT.below hW) (hTB.below hW) (hTH.below hW) (hMI.below hW) hs.2.2.2.1 rfl
  have HSb : Hid (∀ W : World, Below w.heap.size w W → Calls Tryz.prog 41 #[.slice (some ⟨h, 0, none⟩) mb.length mb.length] W (CodEnd (sbV mb) W)) := fun W hW => subjectOf_any h mb.length mb W (hs'.2.2.2.2.1.below hW) (hT.below hW) (hTB.below hW) (hTH.below hW) (hMI.below hW) hs'.2.2.2.1 rfl
  have HC : Hid (cmpT k (sbV ma).2 (sbV mb).2 = (0, cmpL ((sbV ma).2.map (mapC k)) ((sbV mb).2.map (mapC k)))) := cmpT_ok hk (sbV_flt _) (sbV_flt _)
  obtain ⟨Na, hLa⟩ : ∃ N, (sbV ma).2.length = N := ⟨_, rfl⟩
  obtain ⟨Nb, hLb⟩ : ∃ N, (sbV mb).2.length = N := ⟨_, rfl⟩
  have hNa : Na ≤ 400 := by rw [← hLa]; exact sbV_len ma
  have hNb : Nb ≤ 400 := by rw [← hLb]; exact sbV_len mb
  have hm1 : ma.length ≤ maxLen := hs.2.2.1
  have hm2 : mb.length ≤ maxLen := hs'.2.2.1
  generalize hlm : ma.length = lm at *
  generalize hln : mb.length = ln at *
  have hbW : Below w.heap.size w (((w.alloc (.cells #[.int .i64 k, .int .i64 key, .bool bk] 51)).alloc (.cells #[.int .i64 mu, .int .i64 mf, .int .i64 md, .slice (some ⟨g, 0, none⟩) lm lm] 25)).alloc (.cells #[.int .i64 nu, .int .i64 nf, .int .i64 nd, .slice (some ⟨h, 0, none⟩) ln ln] 25)) :=
    (((Below.refl _ _).alloc (Nat.le_refl _) _).alloc (by simp) _).alloc (by simp; omega) _
  have hWs : (((w.alloc (.cells #[.int .i64 k, .int .i64 key, .bool bk] 51)).alloc (.cells #[.int .i64 mu, .int .i64 mf, .int .i64 md, .slice (some ⟨g, 0, none⟩) lm lm] 25)).alloc (.cells #[.int .i64 nu, .int .i64 nf, .int .i64 nd, .slice (some ⟨h, 0, none⟩) ln ln] 25)).heap.size = w.heap.size + 3 := by simp
  clear hs hs' hT hTB hTH hMI
  by_cases k1 : key = 1
  · subst k1
    rw [if_pos rfl] at HV
    rw [HV.out]
    clear HV
    go_enter Tryz.func25, Tryz.ntmps25
    go_wp2_with fail
    refine (compareNumbers_any _ _ _).mono ?_
    rintro e w1 ⟨rfl, rfl⟩
    go_wp2
    go_ret
    exact ⟨rfl, hbW⟩
  by_cases k2 : key = 2
  · subst k2
    rw [if_neg (by omega), if_pos rfl] at HV
    rw [HV.out]
    clear HV
    go_enter Tryz.func25, Tryz.ntmps25
    go_wp2_with fail
    refine (compareNumbers_any _ _ _).mono ?_
    rintro e w1 ⟨rfl, rfl⟩
    go_wp2
    go_ret
    exact ⟨rfl, hbW⟩
  by_cases k3 : key = 3
  · subst k3
    rw [if_neg (by omega), if_neg (by omega), if_pos rfl] at HV
    rw [HV.out]
    clear HV k1 k2
    generalize cmpL ((sbV ma).2.map (mapC k)) ((sbV mb).2.map (mapC k)) = R at *
    go_enter Tryz.func25, Tryz.ntmps25
    go_wp2_with fail
    have b0 : (((w.alloc (.cells #[.int .i64 k, .int .i64 3, .bool bk] 51)).alloc (.cells #[.int .i64 mu, .int .i64 mf, .int .i64 md, .slice (some ⟨g, 0, none⟩) lm lm] 25)).alloc (.cells #[.int .i64 nu, .int .i64 nf, .int .i64 nd, .slice (some ⟨h, 0, none⟩) ln ln] 25)).cell? ⟨w.heap.size, 0, none⟩ = some (.int .i64 k) := by simp [go_sem]
    have b1 : (((w.alloc (.cells #[.int .i64 k, .int .i64 3, .bool bk] 51)).alloc (.cells #[.int .i64 mu, .int .i64 mf, .int .i64 md, .slice (some ⟨g, 0, none⟩) lm lm] 25)).alloc (.cells #[.int .i64 nu, .int .i64 nf, .int .i64 nd, .slice (some ⟨h, 0, none⟩) ln ln] 25)).cell? ⟨w.heap.size + 1, 3, none⟩ = some (.slice (some ⟨g, 0, none⟩) lm lm) := by simp [go_sem]
    have b2 : (((w.alloc (.cells #[.int .i64 k, .int .i64 3, .bool bk] 51)).alloc (.cells #[.int .i64 mu, .int .i64 mf, .int .i64 md, .slice (some ⟨g, 0, none⟩) lm lm] 25)).alloc (.cells #[.int .i64 nu, .int .i64 nf, .int .i64 nd, .slice (some ⟨h, 0, none⟩) ln ln] 25)).cell? ⟨w.heap.size + 2, 3, none⟩ = some (.slice (some ⟨h, 0, none⟩) ln ln) := by simp [go_sem]
    generalize (((w.alloc (.cells #[.int .i64 k, .int .i64 3, .bool bk] 51)).alloc (.cells #[.int .i64 mu, .int .i64 mf, .int .i64 md, .slice (some ⟨g, 0, none⟩) lm lm] 25)).alloc (.cells #[.int .i64 nu, .int .i64 nf, .int .i64 nd, .slice (some ⟨h, 0, none⟩) ln ln] 25)) = W at *
    have hbD : Below w.heap.size w W.drew := hbW.drew
    have fC1 := fldC1
    have fI1 := fldI1
    refine wp_region_held_drew (S := fun w' => w'.cell? ⟨w.heap.size, 0, none⟩ = some (.int .i64 k) ∧ w'.cell? ⟨w.heap.size + 1, 3, none⟩ = some (.slice (some ⟨g, 0, none⟩) lm lm) ∧ w'.cell? ⟨w.heap.size + 2, 3, none⟩ = some (.slice (some ⟨h, 0, none⟩) ln ln)) (by kernel_rfl) ?hS1 (fun hHeld => ?_)
    case hS1 => exact ⟨b0, b1, b2⟩
    refine wpAnyH_take (i := 0) (v := ?_) rfl (by kernel_rfl) (by kernel_rfl) (by kernel_rfl) (fun _ _ _ h => h) (Or.inl ⟨by rfl, ?hy2⟩) (by assumption) ?ty2
    case hy2 => (intro w5 hSw; obtain ⟨p0, p1, p2⟩ := hSw; go_simp; all_goals with_reducible rfl)
    simp only [Act.put, List.getElem_toArray, List.getElem_cons_zero, List.setIfInBounds_toArray, List.set_cons_zero, List.set_cons_succ]
    refine wpAnyH_take (i := 1) (v := ?_) rfl (by kernel_rfl) (by kernel_rfl) (by kernel_rfl) (fun _ _ _ h => h) (Or.inl ⟨by rfl, ?hy3⟩) (by assumption) ?ty3
    case hy3 => (intro w5 hSw; obtain ⟨p0, p1, p2⟩ := hSw; go_simp; all_goals with_reducible rfl)
    simp only [Act.put, List.getElem_toArray, List.getElem_cons_zero, List.getElem_cons_succ, List.setIfInBounds_toArray, List.set_cons_zero, List.set_cons_succ]
    refine wpAnyH_take (i := 2) (v := ?_) rfl (by kernel_rfl) (by kernel_rfl) (by kernel_rfl) (fun _ _ _ h => h) (Or.inl ⟨by rfl, ?hy4⟩) (by assumption) ?ty4
    case hy4 => (intro w5 hSw; obtain ⟨p0, p1, p2⟩ := hSw; go_simp; all_goals with_reducible rfl)
    simp only [Act.put, List.getElem_toArray, List.getElem_cons_zero, List.getElem_cons_succ, List.setIfInBounds_toArray, List.set_cons_zero, List.set_cons_succ]
    refine wpAnyH_take (i := 3) (v := ?_) rfl (by kernel_rfl) (by kernel_rfl) (by kernel_rfl) (fun _ _ _ h => h) (Or.inl ⟨by rfl, ?hy5⟩) (by assumption) ?ty5
    case hy5 => (intro w5 hSw; obtain ⟨p0, p1, p2⟩ := hSw; go_simp; all_goals with_reducible rfl)
    simp only [Act.put, List.getElem_toArray, List.getElem_cons_zero, List.getElem_cons_succ, List.setIfInBounds_toArray, List.set_cons_zero, List.set_cons_succ]
    refine wpAnyH_take (i := 6) (v := ?_) rfl (by kernel_rfl) (by kernel_rfl) (by kernel_rfl) (fun _ _ _ h => h) (Or.inl ⟨by rfl, ?hy6⟩) (by assumption) ?ty6
    case hy6 => (intro w5 hSw; obtain ⟨p0, p1, p2⟩ := hSw; go_simp; all_goals with_reducible rfl)
    simp only [Act.put, List.getElem_toArray, List.getElem_cons_zero, List.getElem_cons_succ, List.setIfInBounds_toArray, List.set_cons_zero, List.set_cons_succ]
    refine wpAnyH_take (i := 7) (v := ?_) rfl (by kernel_rfl) (by kernel_rfl) (by kernel_rfl) (fun _ _ _ h => h) (Or.inl ⟨by rfl, ?hy7⟩) (by assumption) ?ty7
    case hy7 => (intro w5 hSw; obtain ⟨p0, p1, p2⟩ := hSw; go_simp; all_goals with_reducible rfl)
    simp only [Act.put, List.getElem_toArray, List.getElem_cons_zero, List.getElem_cons_succ, List.setIfInBounds_toArray, List.set_cons_zero, List.set_cons_succ]
    refine wpAnyH_ready (rs := [4]) (by kernel_rfl) (by simp) ?_
    refine AllReadyH.cons rfl (fun K hK => ?_) AllReadyH.nil
    go_simp
    refine (HSa.out _ hbD).mono ?_
    rintro e w1 ⟨v1, rfl, ho1, hb1⟩
    have hbE : Below w.heap.size w w1 := hbD.trans (hb1.mono hbD.size)
    obtain ⟨a1, cp1, hv1, -, -⟩ := ho1.form
    rw [hLa] at hv1
    subst hv1
    have hS1 := keep3 hb1 (by simp [hWs]) ⟨b0, b1, b2⟩
    refine hK.out _ _ hS1 (fun hHeld => ?_)
    clear hK K
    refine wpAnyH_take (i := 5) (v := ?_) rfl (by kernel_rfl) (by kernel_rfl) (by kernel_rfl) (fun _ _ _ h => h) (Or.inl ⟨by rfl, ?hy8⟩) (by assumption) ?ty8
    case hy8 => (intro w5 hSw; obtain ⟨p0, p1, p2⟩ := hSw; go_simp; all_goals with_reducible rfl)
    simp only [Act.put, List.getElem_toArray, List.getElem_cons_zero, List.getElem_cons_succ, List.setIfInBounds_toArray, List.set_cons_zero, List.set_cons_succ]
    refine wpAnyH_ready (rs := [8]) (by kernel_rfl) (by simp) ?_
    refine AllReadyH.cons rfl (fun K hK => ?_) AllReadyH.nil
    go_simp
    refine (HSb.out _ hbE).mono ?_
    rintro e w2 ⟨v2, rfl, ho2, hb2⟩
    have hbF : Below w.heap.size w w2 := hbE.trans (hb2.mono hbE.size)
    obtain ⟨a2, cp2, hv2, -, -⟩ := ho2.form
    rw [hLb] at hv2
    subst hv2
    have hS2 := keep3 hb2 (Nat.le_trans (by simp [hWs]) hb1.size) hS1
    have hr1 := (OwnI.rd ho1).2.below hb2
    have hr2 := (OwnI.rd ho2).2
    refine hK.out _ _ hS2 (fun hHeld => ?_)
    clear hK K
    refine wpAnyH_take (i := 9) (v := ?_) rfl (by kernel_rfl) (by kernel_rfl) (by kernel_rfl) (fun _ _ _ h => h) (Or.inl ⟨by rfl, ?hy9⟩) (by assumption) ?ty9
    case hy9 => (intro w5 hSw; obtain ⟨p0, p1, p2⟩ := hSw; go_simp; all_goals with_reducible rfl)
    simp only [Act.put, List.getElem_toArray, List.getElem_cons_zero, List.getElem_cons_succ, List.setIfInBounds_toArray, List.set_cons_zero, List.set_cons_succ]
    refine wpAnyH_ready (rs := [10]) (by kernel_rfl) (by simp) ?_
    refine AllReadyH.cons rfl (fun K hK => ?_) AllReadyH.nil
    go_simp
    refine (compareCodes_any k a1 a2 Na Nb cp1 cp2 (sbV ma).2 (sbV mb).2 w2 hLa hLb hr1 hr2 (by omega) (by omega)).mono ?_
    rintro e w3 ⟨rfl, hb3⟩
    have hbG : Below w.heap.size w w3 := hbF.trans (hb3.mono hbF.size)
    rw [HC.out]
    dsimp only
    have hS3 := keep3 hb3 (Nat.le_trans (Nat.le_trans (by simp [hWs]) hb1.size) hb2.size) hS2
    refine hK.out _ _ hS3 (fun hHeld => ?_)
    clear hK K
    refine wpAnyH_take (i := 11) (v := ?_) rfl (by kernel_rfl) (by kernel_rfl) (by kernel_rfl) (fun _ _ _ h => h) (Or.inl ⟨by rfl, ?hy10⟩) (by assumption) ?ty10
    case hy10 => (intro w5 hSw; obtain ⟨p0, p1, p2⟩ := hSw; go_simp; all_goals with_reducible rfl)
    simp only [Act.put, List.getElem_toArray, List.getElem_cons_zero, List.getElem_cons_succ, List.setIfInBounds_toArray, List.set_cons_zero, List.set_cons_succ]
    refine wpAnyH_take (i := 12) (v := ?_) rfl (by kernel_rfl) (by kernel_rfl) (by kernel_rfl) (fun _ _ _ h => h) (Or.inl ⟨by rfl, ?hy11⟩) (by assumption) ?ty11
    case hy11 => (intro w5 hSw; obtain ⟨p0, p1, p2⟩ := hSw; go_simp; all_goals with_reducible rfl)
    simp only [Act.put, List.getElem_toArray, List.getElem_cons_zero, List.getElem_cons_succ, List.setIfInBounds_toArray, List.set_cons_zero, List.set_cons_succ]
    refine wpAnyH_done (by kernel_rfl) ?_ _
    clear hHeld
    go_wp2
    go_ret
    exact ⟨rfl, hbG⟩
  rw [if_neg k1, if_neg k2, if_neg k3] at HV
  rw [HV.out]
  clear HV
  go_enter Tryz.func25, Tryz.ntmps25
  go_wp2_with fail
  refine (compareNumbers_any _ _ _).mono ?_
  rintro e w1 ⟨rfl, rfl⟩
  go_wp2
  go_ret
  exact ⟨rfl, hbW⟩
end Go.Proofs.YtfbjodbihenmjaaGreatDoor
