/- LegacyOf by plain functions; legacyIn, the program's. -/
import Derived.Test.YtkjnhcnbbojajaaGreatDoorLgm
import Derived.Test.YtkjnhcnbbojajaaGreatDoorEwPToPkB
import Derived.Test.YtkjnhcnbbojajaaGreatDoorHdr3ToHdr5
namespace Go.Proofs.YtkjnhcnbbojajaaGreatDoor
open Go.RowKit

/-- A field with a plain value. -/
def lgN (p : FldP) : FldP := (p.1, str (pnV (bts p.2)).2)
/-- The first code of what cannot be made plain. -/
def lgC : List FldP → Int
  | [] => 0
  | p :: r => if (pnV (bts p.2)).1 = 0 then lgC r else (pnV (bts p.2)).1
/-- What LegacyOf tells of its fields and of what follows them. -/
def lgT (l : List FldP) (x : List Nat) : List Nat := (pkH (l.map lgN) ++ [10]) ++ x
def lgF (l : List FldP) (x : List Nat) : Int × List Nat := if lgC l ≠ 0 then (lgC l, []) else if 400 < (lgT l x).length then (2, []) else (0, lgT l x)
def lgV (d : List Nat) : Int × List Nat := if (phV d).1 = 0 then lgF (phV d).2.2 (d.drop (phV d).2.1) else ((phV d).1, [])
theorem lgF_zero {l : List FldP} {x : List Nat} (h : (lgF l x).1 ≠ 0) : (lgF l x).2 = [] := by
  unfold lgF at h ⊢
  split
  · rfl
  · rename_i h1
    rw [if_neg h1] at h
    split
    · rfl
    · rename_i h2; rw [if_neg h2] at h; exact absurd rfl h
theorem lgV_zero {d : List Nat} (h : (lgV d).1 ≠ 0) : (lgV d).2 = [] := by
  unfold lgV at h ⊢
  split
  · rename_i h1; rw [if_pos h1] at h; exact lgF_zero h
  · rfl
theorem lgV_len (d : List Nat) : (lgV d).2.length ≤ 400 := by
  unfold lgV
  split
  · unfold lgF
    split
    · simp
    · split
      · simp
      · rename_i h; exact Nat.le_of_not_lt h
  · simp
theorem lgC_step {l : List FldP} {k : Nat} (h : k < l.length) : lgC (l.drop k) = if (pnV (bts (nthF l k).2)).1 = 0 then lgC (l.drop (k + 1)) else (pnV (bts (nthF l k).2)).1 := by
  rw [drop_consF l k h]; rfl
theorem fdF_all {l : List FldP} (h : fdF l = 0) : l.length ≤ 8 ∧ ∀ p ∈ l, fdOk p = true := by
  unfold fdF at h
  split at h
  · simp at h
  · split at h
    · rename_i h1 h2; exact ⟨by omega, fun p hp => List.all_eq_true.1 h2 p hp⟩
    · simp at h
theorem fdOk_val {p : FldP} (h : fdOk p = true) : vlOk (bts p.2) = true ∧ (bts p.2).length ≤ 120 ∧ p.1.size ≤ 30 := by
  unfold fdOk at h
  rw [Bool.and_eq_true] at h
  refine ⟨h.2, ?_, ?_⟩
  · have := h.2
    unfold vlOk at this
    rw [Bool.and_eq_true, decide_eq_true_eq] at this
    exact this.2
  · have := h.1
    unfold nmOk at this
    rw [Bool.and_eq_true, decide_eq_true_eq] at this
    rw [← bts_len]; exact this.2.2
theorem bts_str {v : List Nat} (h : IsB v) : bts (str v) = v := by
  apply List.ext_getElem
  · rw [bts_len, str_size]
  · intro i h1 h2
    have := str_get h (i := i) (by rw [str_size]; exact h2)
    rw [nth_get h2] at this
    rw [← this]
    simp [bts]
    rfl
theorem lgN_ok {p : FldP} (h : fdOk p = true) (hz : (pnV (bts p.2)).1 = 0) : fdOk (lgN p) = true := by
  have hv := pnV_val (fdOk_val h).1 hz
  unfold fdOk at h ⊢
  rw [Bool.and_eq_true] at h ⊢
  refine ⟨h.1, ?_⟩
  show vlOk (bts (str (pnV (bts p.2)).2)) = true
  rw [bts_str (pnV_isB (bts_isB _))]
  exact hv
theorem lgC_all : ∀ {l : List FldP}, lgC l = 0 → ∀ p ∈ l, (pnV (bts p.2)).1 = 0
  | [], _, p, hp => by cases hp
  | q :: r, h, p, hp => by
    unfold lgC at h
    split at h
    · rename_i h1
      rcases List.mem_cons.1 hp with rfl | hp
      · exact h1
      · exact lgC_all h p hp
    · rename_i h1; exact absurd h h1
theorem lg_fault {l : List FldP} (h : fdF l = 0) (hz : lgC l = 0) : fdF (l.map lgN) = 0 := by
  obtain ⟨h1, h2⟩ := fdF_all h
  refine fdF_ok (by rw [List.length_map]; omega) (List.all_eq_true.2 fun p hp => ?_)
  obtain ⟨q, hq, rfl⟩ := List.mem_map.1 hp
  exact lgN_ok (h2 q hq) (lgC_all hz q hq)
theorem fit_of_fdF {l : List FldP} (h : fdF l = 0) : Fit l := fun p hp => by
  obtain ⟨h1, h2, h3⟩ := fdOk_val ((fdF_all h).2 p hp)
  rw [bts_len] at h2
  omega

set_option maxHeartbeats 3200000 in
set_option maxRecDepth 100000 in
theorem legacyIn_any (b m : Nat) (d : List Nat) (w : World) (hr : Rd w (some ⟨b, 0, none⟩) d) (hT : TabC w) (hTB : TabB w) (hTH : TabH w) (hMI : MaxI w) (hB : IsB d) (hl : d.length = m) :
    Calls Tryz.prog 122 #[.slice (some ⟨b, 0, none⟩) m m] w (SeeB (lgV d) w) := by
  have HP := headerIn_any b m d w hr hB hl
  have HZ : Hid ((phV d).1 ≠ 0 → lgV d = ((phV d).1, [])) := fun h => if_neg h
  have HV : Hid ((phV d).1 = 0 → lgV d = lgF (phV d).2.2 (d.drop (phV d).2.1)) := fun h => if_pos h
  have HOK : Hid ((phV d).1 = 0 → fdF (phV d).2.2 = 0 ∧ (phV d).2.1 ≤ m ∧ m ≤ 400) := fun h => by
    obtain ⟨h1, h2, h3⟩ := phF_allS _ h
    refine ⟨h1, by omega, ?_⟩
    by_cases h4 : 400 < d.length
    · rw [phV_many h4] at h; simp at h
    · omega
  generalize lgV d = r at *
  generalize phV d = ph at *
  obtain ⟨c, k, l⟩ := ph
  dsimp only at HZ HV HOK
  go_enter Tryz.func122, Tryz.ntmps122
  go_wp2_with fail
  refine HP.mono ?_
  rintro e w1 ⟨⟨h3, v, rfl, ho⟩ | ⟨h3, rfl⟩, hb1⟩
  · dsimp only at h3 ho
    subst h3
    obtain ⟨hf, hkm, hm4⟩ := HOK.out rfl
    have HM : Hid (r = lgF l (d.drop k)) := HV.out rfl
    obtain ⟨h8, hall⟩ := fdF_all hf
    obtain ⟨N, hN⟩ : ∃ N, l.length = N := ⟨_, rfl⟩
    obtain ⟨a, cp, hv, -, -⟩ := ho.form
    rw [hN] at hv
    subst hv
    dsimp only
    have HPV : Hid (∀ (i : Nat) (W : World), i < N → Below w.heap.size w W → Calls Tryz.prog 176 #[.string (nthF l i).2] W (SeeT (pnV (bts (nthF l i).2)) W)) := fun i W hi hb => by
      have hp := hall (nthF l i) (by rw [nthF_get (by omega)]; exact List.getElem_mem _)
      have h := plainValue_any (bts (nthF l i).2) W (bts_isB _) (fdOk_val hp).2.1 (hT.below hb) (hTB.below hb) (hTH.below hb) (hMI.below hb)
      rw [str_bts] at h; exact h
    clear HP HZ HV HOK
    have hbA : Below w1.heap.size w1 (w1.alloc (.cells #[.int .i64 0, .int .i64 (k : Int), .slice a N cp] 68)) := (Below.refl _ _).alloc (Nat.le_refl _) _
    have hsA : (w1.alloc (.cells #[.int .i64 0, .int .i64 (k : Int), .slice a N cp] 68)).heap.size = w1.heap.size + 1 := by simp
    have HH : Hid (∀ wr : World, Below (w1.heap.size + 1) (w1.alloc (.cells #[.int .i64 0, .int .i64 (k : Int), .slice a N cp] 68)) wr → wr.cell? ⟨w1.heap.size, 1, none⟩ = some (.int .i64 (k : Int))) := fun wr hb => (res_block3 rfl hb).1.2.1
    have hrdA : RdF (w1.alloc (.cells #[.int .i64 0, .int .i64 (k : Int), .slice a N cp] 68)) a l := (ho.below hbA (Nat.le_refl _)).rd.2
    have hbwA : Below w.heap.size w (w1.alloc (.cells #[.int .i64 0, .int .i64 (k : Int), .slice a N cp] 68)) := hb1.trans (hbA.mono hb1.size)
    have hw1 := hb1.size
    go_wp2_with fail
    clear hbA ho
    generalize (w1.alloc (.cells #[.int .i64 0, .int .i64 (k : Int), .slice a N cp] 68)) = W at *
    go_loopw [4, 13] (fun v i wr => ∃ j : Nat, j ≤ N ∧ i = .int .i64 j ∧ Hid (lgC l = lgC (l.drop j)) ∧ OwnF wr (w1.heap.size + 1) v ((l.take j).map lgN) ∧ Below (w1.heap.size + 1) W wr) (fun _ i _ => N - (intOf i).toNat)
    case atStart => exact ⟨0, Nat.zero_le _, rfl, rfl, OwnF.nil _ _, Below.refl _ _⟩
    case round =>
      obtain ⟨j, hj, rfl, HF, hown, hbel⟩ := hrel
      have hbwr := hbwA.trans (hbel.mono (by omega))
      have hzr : w1.heap.size + 1 ≤ wr.heap.size := by have := hbel.size; omega
      by_cases hjn : j < N
      · have hji : (j : Int) < (N : Int) := by omega
        obtain ⟨g, off, rfl, hglt, hcell⟩ := (hrdA.below (hsA ▸ hbel)).at_ (by omega)
        obtain ⟨x0, x1⟩ := hcell j (by omega)
        have HF2 : Hid (lgC l = if (pnV (bts (nthF l j).2)).1 = 0 then lgC (l.drop (j + 1)) else (pnV (bts (nthF l j).2)).1) := HF.out.trans (lgC_step (by omega))
        have HT : Hid ((l.take j).map lgN ++ [((nthF l j).1, str (pnV (bts (nthF l j).2)).2)] = (l.take (j + 1)).map lgN) := by
          show _ = _
          rw [List.take_succ_eq_append_getElem (by omega), List.map_append, ← nthF_get (by omega)]
          rfl
        have HPj := fun (W : World) (hb : Below w.heap.size w W) => HPV.out j W (by omega) hb
        have htl : ((l.take j).map lgN).length = j := by rw [List.length_map, List.length_take]; omega
        clear HF hcell
        generalize pnV (bts (nthF l j).2) = q at *
        generalize (l.take j).map lgN = acc at *
        generalize nthF l j = fp at *
        obtain ⟨nm, vl⟩ := fp
        obtain ⟨qc, ql⟩ := q
        dsimp only at HF2 HT HPj x0 x1
        obtain ⟨av, cv, hv, -, -⟩ := hown.form
        rw [htl] at hv
        subst hv
        have hfc : FCell (wr.alloc (.cells #[.string nm, .string vl] 128)) wr.heap.size nm vl := FCell.new wr _ rfl _ _
        have hbF : Below (w1.heap.size + 1) W (wr.alloc (.cells #[.string nm, .string vl] 128)) := hbel.alloc hzr _
        have hbwF : Below w.heap.size w (wr.alloc (.cells #[.string nm, .string vl] 128)) := hbwr.alloc hbwr.size _
        have hownF := hown.alloc (.cells #[.string nm, .string vl] 128)
        go_wp2_with fail
        generalize (wr.alloc (.cells #[.string nm, .string vl] 128)) = wf at *
        have hfs := hfc.1
        refine wp_region_held_drew (S := (fun w' => w'.cell? ⟨wr.heap.size, 0, none⟩ = some (.string nm) ∧ w'.cell? ⟨wr.heap.size, 1, none⟩ = some (.string vl))) (by kernel_rfl) ?hS1 (fun hHeld => ?_)
        case hS1 => exact ⟨hfc.2.1, hfc.2.2⟩
        refine wpAnyH_take (i := 0) (v := ?_) rfl (by kernel_rfl) (by kernel_rfl) (by kernel_rfl) (fun _ _ _ h => h) (Or.inl ⟨by rfl, ?hy1⟩) (by assumption) ?ty1
        case hy1 => (intro w hSw; (try dsimp only at hSw); go_simp; all_goals with_reducible rfl)
        simp only [Act.put, List.getElem_toArray, List.getElem_cons_zero, List.setIfInBounds_toArray, List.set_cons_zero, List.set_cons_succ]
        refine wpAnyH_take (i := 1) (v := ?_) rfl (by kernel_rfl) (by kernel_rfl) (by kernel_rfl) (fun _ _ _ h => h) (Or.inl ⟨by rfl, ?hy2⟩) (by assumption) ?ty2
        case hy2 => (intro w hSw; (try dsimp only at hSw); go_simp; all_goals with_reducible rfl)
        simp only [Act.put, List.getElem_toArray, List.getElem_cons_zero, List.getElem_cons_succ, List.setIfInBounds_toArray, List.set_cons_zero, List.set_cons_succ]
        refine wpAnyH_take (i := 2) (v := ?_) rfl (by kernel_rfl) (by kernel_rfl) (by kernel_rfl) (fun _ _ _ h => h) (Or.inl ⟨by rfl, ?hy3⟩) (by assumption) ?ty3
        case hy3 => (intro w hSw; (try dsimp only at hSw); go_simp; all_goals with_reducible rfl)
        simp only [Act.put, List.getElem_toArray, List.getElem_cons_zero, List.getElem_cons_succ, List.setIfInBounds_toArray, List.set_cons_zero, List.set_cons_succ]
        refine wpAnyH_take (i := 3) (v := ?_) rfl (by kernel_rfl) (by kernel_rfl) (by kernel_rfl) (fun _ _ _ h => h) (Or.inl ⟨by rfl, ?hy4⟩) (by assumption) ?ty4
        case hy4 => (intro w hSw; (try dsimp only at hSw); go_simp; all_goals with_reducible rfl)
        simp only [Act.put, List.getElem_toArray, List.getElem_cons_zero, List.getElem_cons_succ, List.setIfInBounds_toArray, List.set_cons_zero, List.set_cons_succ]
        refine wpAnyH_take (i := 4) (v := ?_) rfl (by kernel_rfl) (by kernel_rfl) (by kernel_rfl) (fun _ _ _ h => h) (Or.inl ⟨by rfl, ?hy5⟩) (by assumption) ?ty5
        case hy5 => (intro w hSw; (try dsimp only at hSw); go_simp; all_goals with_reducible rfl)
        simp only [Act.put, List.getElem_toArray, List.getElem_cons_zero, List.getElem_cons_succ, List.setIfInBounds_toArray, List.set_cons_zero, List.set_cons_succ]
        refine wpAnyH_ready (rs := [5]) (by kernel_rfl) (by simp) ?_
        refine AllReadyH.cons rfl (fun K hK => ?_) AllReadyH.nil
        go_simp
        refine (HPj _ hbwF.drew).mono ?_
        rintro e w3 ⟨⟨h6, rfl⟩ | ⟨h6, rfl⟩, hb3⟩
        · dsimp only at h6
          subst h6
          have HFn : Hid (lgC l = lgC (l.drop (j + 1))) := HF2.out.trans (if_pos rfl)
          have hb3' : Below wf.heap.size wf w3 := (Below.refl _ _).drew.trans hb3
          have u0 : w3.cell? ⟨wr.heap.size, 0, none⟩ = some (.string nm) := (hb3'.cell (p := ⟨wr.heap.size, 0, none⟩) hfs).trans hfc.2.1
          have u1 : w3.cell? ⟨wr.heap.size, 1, none⟩ = some (.string vl) := (hb3'.cell (p := ⟨wr.heap.size, 1, none⟩) hfs).trans hfc.2.2
          have hbel3 := hbF.trans (hb3'.mono (by omega))
          have hown3 := hownF.below hb3' (Nat.le_refl _)
          have hz3 : wf.heap.size ≤ w3.heap.size := hb3'.size
          refine hK.out _ _ ⟨u0, u1⟩ (fun hHeld => ?_)
          clear hK K HF2 HPj hb3 hb3' hownF
          refine wpAnyH_take (i := 6) (v := ?_) rfl (by kernel_rfl) (by kernel_rfl) (by kernel_rfl) (fun _ _ _ h => h) (Or.inl ⟨by rfl, ?hy6⟩) (by assumption) ?ty6
          case hy6 => (intro w hSw; (try dsimp only at hSw); go_simp; all_goals with_reducible rfl)
          simp only [Act.put, List.getElem_toArray, List.getElem_cons_zero, List.getElem_cons_succ, List.setIfInBounds_toArray, List.set_cons_zero, List.set_cons_succ]
          refine wpAnyH_ready (rs := [7]) (by kernel_rfl) (by simp) ?_
          refine AllReadyH.cons rfl (fun K hK => ?_) AllReadyH.nil
          go_simp
          have hfd : FCell (w3.alloc (.cells #[.string nm, .string (str ql)] 128)) w3.heap.size nm (str ql) := FCell.new w3 _ rfl _ _
          have hown4 := hown3.alloc (.cells #[.string nm, .string (str ql)] 128)
          have hbel4 : Below (w1.heap.size + 1) W (w3.alloc (.cells #[.string nm, .string (str ql)] 128)) := hbel3.alloc (by omega) _
          have v0 := cellB (o := .cells #[.string nm, .string (str ql)] 128) u0
          have v1 := cellB (o := .cells #[.string nm, .string (str ql)] 128) u1
          have hz4 : w1.heap.size + 1 ≤ (w3.alloc (.cells #[.string nm, .string (str ql)] 128)).heap.size := by have := hbel4.size; omega
          refine hK.out _ _ ⟨v0, v1⟩ (fun hHeld => ?_)
          clear hK K hown3 hbel3
          generalize hR8 : w3.heap.size = R8 at *
          generalize (w3.alloc (.cells #[.string nm, .string (str ql)] 128)) = w4 at *
          refine wpAnyH_ready (rs := [8]) (by kernel_rfl) (by simp) ?_
          refine AllReadyH.cons rfl (fun K hK => ?_) AllReadyH.nil
          refine step_appF (by rfl) _ _ (by rfl) (w1.heap.size + 1) (.slice av j cv) acc (by rfl) hown4 ⟨R8, 0, none⟩ 1 1 [(nm, str ql)] (by rfl) (by rfl) hfd.nw (by omega) hz4 ?_
          intro v2 w5 ho5 hb5 hg5
          have hbel5 := hbel4.trans hb5
          rw [HT.out] at ho5
          have hlow : wr.heap.size < w4.heap.size := World.block_lt_of_cell? w4 _ v0
          have hf5 : FCell w5 wr.heap.size nm vl := FCell.far ⟨hlow, v0, v1⟩ hg5 (fun e => by have := (hown.lt _ e.symm).2; omega)
          refine hK.out _ _ ⟨hf5.2.1, hf5.2.2⟩ (fun hHeld => ?_)
          clear hK K hb5 hown4 hfd
          refine wpAnyH_take (i := 9) (v := ?_) rfl (by kernel_rfl) (by kernel_rfl) (by kernel_rfl) (fun _ _ _ h => h) (Or.inl ⟨by rfl, ?hy7⟩) (by assumption) ?ty7
          case hy7 => (intro w hSw; (try dsimp only at hSw); go_simp; all_goals with_reducible rfl)
          simp only [Act.put, List.getElem_toArray, List.getElem_cons_zero, List.getElem_cons_succ, List.setIfInBounds_toArray, List.set_cons_zero, List.set_cons_succ]
          refine wpAnyH_done (by kernel_rfl) ?_ _
          obtain ⟨a', c', rfl, -, -⟩ := ho5.form
          clear hHeld HT HPV hall
          go_wp2
          go_roundw
          case rel => exact ⟨j + 1, by omega, by go_num, HFn.out, ho5, hbel5⟩
          case measure => simp [intOf]; omega
        · dsimp only at h6
          have HR : Hid (r = (qc, [])) := by
            show _ = _
            have e : lgC l = qc := HF2.out.trans (if_neg h6)
            rw [HM.out]
            unfold lgF
            rw [e, if_pos h6]
          refine ⟨rfl, ?_⟩
          rw [HR.out]
          exact ⟨.inr ⟨h6, rfl⟩, hbwF.drew.trans (hb3.mono hbwF.drew.size)⟩
      · have hji : ¬ (j : Int) < (N : Int) := by omega
        obtain rfl : j = N := by omega
        have HC0 : lgC l = 0 := by rw [HF.out, List.drop_of_length_le (by omega)]; rfl
        rw [List.take_of_length_le (by omega)] at hown
        have hfm := lg_fault hf HC0
        have hfit := fit_of_fdF hfm
        have hml : (l.map lgN).length = j := by rw [List.length_map]; exact hN
        obtain ⟨av, cv, hv, -, -⟩ := hown.form
        rw [hml] at hv
        subst hv
        have hbwd := hbwr.drew
        have HPK := packHeader_any av j cv (l.map lgN) wr.drew hml (hown.below (Below.refl _ _).drew (Nat.le_refl _)).rd.2 (by omega) hfit
        have HMr : Hid (r = if 400 < (lgT l (d.drop k)).length then (2, []) else (0, lgT l (d.drop k))) := by
          show _ = _
          rw [HM.out]; unfold lgF; rw [HC0, if_neg (by simp)]
        have hLT : lgT l (d.drop k) = (pkH (l.map lgN) ++ [10]) ++ d.drop k := rfl
        have hpk : ((400 < (pkH (l.map lgN) ++ [10]).length ∧ pkV (l.map lgN) = (2, [])) ∨ ((pkH (l.map lgN) ++ [10]).length ≤ 400 ∧ pkV (l.map lgN) = (0, pkH (l.map lgN) ++ [10]))) := by
          by_cases h : 400 < (pkH (l.map lgN) ++ [10]).length
          · exact .inl ⟨h, pkV_many hfm h⟩
          · exact .inr ⟨by omega, pkV_ok hfm h⟩
        have hh1 := HH.out wr hbel
        obtain ⟨o', hoi, hdc⟩ : ∃ o', (if m = k then (some ⟨b, 0, none⟩ : Option Addr) else some ⟨b, k, none⟩) = some ⟨b, o', none⟩ ∧ ∀ wx, Below w.heap.size w wx → ∀ i, i < m - k → wx.cell? ((⟨b, o', none⟩ : Addr).add i) = some (.int .u8 (nth (d.drop k) i : Int)) := by
          by_cases h : m = k
          · exact ⟨0, if_pos h, fun _ _ i hi => absurd hi (by omega)⟩
          · refine ⟨k, if_neg h, fun wx hb i hi => ?_⟩
            have h' := (hr.below hb).drop k
            rw [Nat.zero_add] at h'
            obtain ⟨b', off', e, -, hc⟩ := h'.at_ (by rw [List.length_drop]; omega)
            cases e
            rw [Go.WideShapes.add_plain]
            exact hc i (by rw [List.length_drop]; omega)
        have hdl : (d.drop k).length = m - k := by rw [List.length_drop, hl]
        have hi1 : (k : Int) ≤ (m : Int) := by omega
        clear HM HPV hall HF HH hrdA hown hfm hfit hml HC0 hf
        generalize hpv : pkV (l.map lgN) = pk at *
        generalize hPT : pkH (l.map lgN) ++ [10] = pt at *
        generalize lgT l (d.drop k) = lt at *
        generalize d.drop k = dk at *
        clear hpv hPT
        go_wp2_with fail
        refine wp_region_held_drew (S := (fun w' => w'.cell? ⟨w1.heap.size, 1, none⟩ = some (.int .i64 (k : Int)))) (by kernel_rfl) ?hS2 (fun hHeld => ?_)
        case hS2 => exact hh1
        refine wpAnyH_take (i := 0) (v := ?_) rfl (by kernel_rfl) (by kernel_rfl) (by kernel_rfl) (fun _ _ _ h => h) (Or.inl ⟨by rfl, ?hy8⟩) (by assumption) ?ty8
        case hy8 => (intro w hSw; (try dsimp only at hSw); go_simp; all_goals with_reducible rfl)
        simp only [Act.put, List.getElem_toArray, List.getElem_cons_zero, List.setIfInBounds_toArray, List.set_cons_zero, List.set_cons_succ]
        refine wpAnyH_take (i := 3) (v := ?_) rfl (by kernel_rfl) (by kernel_rfl) (by kernel_rfl) (fun _ _ _ h => h) (Or.inl ⟨by rfl, ?hy9⟩) (by assumption) ?ty9
        case hy9 => (intro w hSw; (try dsimp only at hSw); go_simp; all_goals with_reducible rfl)
        simp only [Act.put, List.getElem_toArray, List.getElem_cons_zero, List.getElem_cons_succ, List.setIfInBounds_toArray, List.set_cons_zero, List.set_cons_succ]
        refine wpAnyH_take (i := 4) (v := ?_) rfl (by kernel_rfl) (by kernel_rfl) (by kernel_rfl) (fun _ _ _ h => h) (Or.inl ⟨by rfl, ?hy10⟩) (by assumption) ?ty10
        case hy10 => (intro w hSw; (try dsimp only at hSw); go_simp; all_goals with_reducible rfl)
        simp only [Act.put, List.getElem_toArray, List.getElem_cons_zero, List.getElem_cons_succ, List.setIfInBounds_toArray, List.set_cons_zero, List.set_cons_succ]
        refine wpAnyH_take (i := 5) (v := ?_) rfl (by kernel_rfl) (by kernel_rfl) (by kernel_rfl) (fun _ _ _ h => h) (Or.inl ⟨by rfl, ?hy11⟩) (by assumption) ?ty11
        case hy11 => (intro w hSw; (try dsimp only at hSw); go_simp; all_goals with_reducible rfl)
        simp only [Act.put, List.getElem_toArray, List.getElem_cons_zero, List.getElem_cons_succ, List.setIfInBounds_toArray, List.set_cons_zero, List.set_cons_succ]
        refine wpAnyH_take (i := 6) (v := (.slice (if m = k then (some ⟨b, 0, none⟩ : Option Addr) else some ⟨b, k, none⟩) (m - k) (m - k))) rfl (by kernel_rfl) (by kernel_rfl) (by kernel_rfl) (fun _ _ _ h => h) (Or.inl ⟨by rfl, ?hy12⟩) (by assumption) ?ty12
        case hy12 => (intro w hSw; (try dsimp only at hSw); go_simp; (first | (simp; done) | (all_goals with_reducible rfl)))
        simp only [Act.put, List.getElem_toArray, List.getElem_cons_zero, List.getElem_cons_succ, List.setIfInBounds_toArray, List.set_cons_zero, List.set_cons_succ]
        rw [hoi]
        refine wpAnyH_ready (rs := [1]) (by kernel_rfl) (by simp) ?_
        refine AllReadyH.cons rfl (fun K hK => ?_) AllReadyH.nil
        go_simp
        refine HPK.mono ?_
        rintro e w3 ⟨v3, rfl, ho3, hb3⟩
        have hb3' : Below wr.heap.size wr w3 := (Below.refl _ _).drew.trans hb3
        have hz3 : wr.heap.size ≤ w3.heap.size := hb3'.size
        have u1 : w3.cell? ⟨w1.heap.size, 1, none⟩ = some (.int .i64 (k : Int)) := (hb3'.cell (p := ⟨w1.heap.size, 1, none⟩) (by show w1.heap.size < _; omega)).trans hh1
        have hbw3 := hbwr.trans (hb3'.mono hbwr.size)
        have ho3' : Own w3 (w1.heap.size + 1) v3 pk.2 := row_low ho3 (by show _ ≤ wr.heap.size; omega)
        obtain ⟨a3, c3, hv3, -, -⟩ := ho3'.form
        subst hv3
        refine hK.out _ _ u1 (fun hHeld => ?_)
        clear hK K HPK hb3 hb3' ho3
        rcases hpk with ⟨hp4, rfl⟩ | ⟨hp4, rfl⟩
        · dsimp only at ho3' ⊢
          have HR : Hid (r = (2, [])) := HMr.out.trans (if_pos (by rw [hLT, List.length_append]; omega))
          refine wpAnyH_ready (rs := [2]) (by kernel_rfl) (by simp) ?_
          refine AllReadyH.cons rfl (fun K hK => ?_) AllReadyH.nil
          go_simp
          refine (bytesIn_bad 2 (by decide) a3 _ c3 _).mono ?_
          rintro e w4 ⟨rfl, hb4⟩
          refine ⟨rfl, ?_⟩
          rw [HR.out]
          exact ⟨.inr ⟨by simp, rfl⟩, hbw3.trans (hb4.mono hbw3.size)⟩
        · dsimp only at ho3' ⊢
          refine wpAnyH_ready (rs := [2]) (by kernel_rfl) (by simp) ?_
          refine AllReadyH.cons rfl (fun K hK => ?_) AllReadyH.nil
          go_simp
          refine (bytesIn_ok a3 _ c3 _).mono ?_
          rintro e w4 ⟨rfl, hb4⟩
          have u2 : w4.cell? ⟨w1.heap.size, 1, none⟩ = some (.int .i64 (k : Int)) := (hb4.cell (p := ⟨w1.heap.size, 1, none⟩) (World.block_lt_of_cell? w3 _ u1)).trans u1
          have hbw4 := hbw3.trans (hb4.mono hbw3.size)
          have ho4 := ho3'.below hb4 (Nat.le_refl _)
          have hz4 : w1.heap.size + 1 ≤ w4.heap.size := by have := hb4.size; omega
          refine hK.out _ _ u2 (fun hHeld => ?_)
          clear hK K
          refine wpAnyH_ready (rs := [7]) (by kernel_rfl) (by simp) ?_
          refine AllReadyH.cons rfl (fun K hK => ?_) AllReadyH.nil
          refine step_app (by rfl) _ _ (by rfl) (w1.heap.size + 1) (.slice a3 pt.length c3) pt (by rfl) ho4 ⟨b, o', none⟩ (m - k) (m - k) dk (by rfl) hdl (hdc _ hbw4) (by omega) hz4 ?_
          intro v5 w5 ho5 hb5
          have u3 : w5.cell? ⟨w1.heap.size, 1, none⟩ = some (.int .i64 (k : Int)) := (hb5.cell (p := ⟨w1.heap.size, 1, none⟩) (by show w1.heap.size < _; omega)).trans u2
          have hbw5 := hbw4.trans (hb5.mono (by omega))
          refine hK.out _ _ u3 (fun hHeld => ?_)
          clear hK K ho4 hdc
          refine wpAnyH_take (i := 8) (v := ?_) rfl (by kernel_rfl) (by kernel_rfl) (by kernel_rfl) (fun _ _ _ h => h) (Or.inl ⟨by rfl, ?hy13⟩) (by assumption) ?ty13
          case hy13 => (intro w hSw; (try dsimp only at hSw); go_simp; all_goals with_reducible rfl)
          simp only [Act.put, List.getElem_toArray, List.getElem_cons_zero, List.getElem_cons_succ, List.setIfInBounds_toArray, List.set_cons_zero, List.set_cons_succ]
          refine wpAnyH_done (by kernel_rfl) ?_ _
          have ho6 : Own w5 w.heap.size v5 lt := by rw [hLT]; exact row_low ho5 (by omega)
          obtain ⟨a6, c6, hv6, -, -⟩ := ho6.form
          obtain ⟨L6, hL6⟩ : ∃ L6, lt.length = L6 := ⟨_, rfl⟩
          rw [hL6] at hv6
          subst hv6
          have HMl : Hid (r = if 400 < L6 then (2, []) else (0, lt)) := by show _ = _; rw [HMr.out, hL6]
          clear hHeld HMr ho5 hb5 hLT ho3' hb4 u1 u2 u3
          by_cases h4 : 400 < L6
          · have h4' : (400 : Int) < (L6 : Int) := by omega
            have HR : Hid (r = (2, [])) := HMl.out.trans (if_pos h4)
            clear HMl
            go_wp2
            refine ⟨rfl, ?_⟩
            rw [HR.out]
            exact ⟨.inr ⟨by simp, rfl⟩, hbw5⟩
          · have h4' : ¬ (400 : Int) < (L6 : Int) := by omega
            have HR : Hid (r = (0, lt)) := HMl.out.trans (if_neg h4)
            clear HMl
            go_wp2
            go_ret
            rw [HR.out]
            exact ⟨.inl ⟨rfl, _, rfl, ho6⟩, hbw5⟩
  · dsimp only at h3
    rw [HZ.out h3]
    exact ⟨rfl, .inr ⟨h3, rfl⟩, hb1⟩
end Go.Proofs.YtkjnhcnbbojajaaGreatDoor
