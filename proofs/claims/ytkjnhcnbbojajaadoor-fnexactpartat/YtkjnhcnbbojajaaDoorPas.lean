/- The place of a part by its path, the model's; PartAt, both sides. -/
import Derived.Test.YtkjnhcnbbojajaaDoorPao
namespace Go.Proofs.YtkjnhcnbbojajaaDoor
open Go.RowKit

/-- What the model's look for one number has found so far. -/
def FndS (l : List PtP) (up nu : Int) (q : Nat) (v : Value) : Prop := (v = .int .i64 (-1) ∧ ∀ i, i < q → mtB up nu (nthP l i) = false) ∨ ∃ z : Nat, z < q ∧ v = .int .i64 (z : Int) ∧ mtB up nu (nthP l z) = true
theorem FndS.zero (l : List PtP) (up nu : Int) : FndS l up nu 0 (.int .i64 (-1)) := .inl ⟨rfl, fun _ hi => absurd hi (Nat.not_lt_zero _)⟩
theorem FndS.no {l : List PtP} {up nu : Int} {q : Nat} {v : Value} (h : FndS l up nu q v) (hm : mtB up nu (nthP l q) = false) : FndS l up nu (q + 1) v := by
  rcases h with ⟨rfl, h⟩ | ⟨z, h1, rfl, h2⟩
  · refine .inl ⟨rfl, fun i hi => ?_⟩
    rcases Nat.lt_or_ge i q with h' | h'
    · exact h i h'
    · obtain rfl : i = q := by omega
      exact hm
  · exact .inr ⟨z, by omega, rfl, h2⟩
theorem FndS.yes {l : List PtP} {up nu : Int} {q : Nat} (hm : mtB up nu (nthP l q) = true) : FndS l up nu (q + 1) (.int .i64 (q : Int)) := .inr ⟨q, by omega, rfl, hm⟩
theorem FndS.end_ {l : List PtP} {up nu : Int} {v : Value} (hd : Dis l) (h : FndS l up nu l.length v) : v = .int .i64 (ixV l up nu) := by
  rcases h with ⟨rfl, h⟩ | ⟨z, h1, rfl, h2⟩
  · rw [ixV_no h]
  · rw [ixV_at h1 h2 (fun i hi => by
      cases hb : mtB up nu (nthP l i) with
      | false => rfl
      | true => have := dis_one hd (by omega) h1 hb h2; omega)]

set_option maxHeartbeats 1600000 in
set_option maxRecDepth 100000 in
theorem l5At_any (a : Option Addr) (n cap : Nat) (l : List PtP) (ax : Option Addr) (nx cx : Nat) (x : List Int) (w : World) (hl : l.length = n) (hr : RdP w a l) (hn : n ≤ 8) (hd : Dis l) (hx : RdI w ax x) (hlx : x.length = nx) (hnx : nx ≤ 1048576) :
    Calls Tryd.prog 44 #[.slice a n cap, .slice ax nx cx] w fun e w' => e = .returned (.int .i64 (paV l x 0)) ∧ Below w.heap.size w w' := by
  have HEND : Hid (∀ (up nu : Int) (v : Value), FndS l up nu n v → v = .int .i64 (ixV l up nu)) := fun up nu v h => (hl ▸ h).end_ hd
  clear hd
  go_enter Tryd.func44, Tryd.ntmps44
  go_wp2
  go_loopw [5, 6] (fun p i wr => ∃ (j : Nat) (at_ : Int), j ≤ nx ∧ i = .int .i64 j ∧ p = .int .i64 at_ ∧ 0 ≤ at_ ∧ at_ ≤ 8 ∧ Hid (paV l x 0 = paV l (x.drop j) at_) ∧ Below w.heap.size w wr) (fun _ i _ => nx - (intOf i).toNat)
  case atStart => exact ⟨0, 0, Nat.zero_le _, rfl, rfl, by omega, by omega, rfl, Below.refl _ _⟩
  case round =>
    obtain ⟨j, at_, hj, rfl, rfl, hat0, hat8, HF, hbel⟩ := hrel
    by_cases hjn : j < nx
    · have hji : (j : Int) < (nx : Int) := by omega
      have HF2 : Hid (paV l x 0 = if ixV l at_ (nthI x j) < 0 then -1 else paV l (x.drop (j + 1)) (ixV l at_ (nthI x j))) := HF.out.trans (paV_step (by omega))
      have hix := ixV_lt l at_ (nthI x j)
      have HEN := fun v h => HEND.out at_ (nthI x j) v h
      have HXC : Hid (∃ g off, ax = some ⟨g, off, none⟩ ∧ g < w.heap.size ∧ w.cell? ⟨g, off + j, none⟩ = some (.int .i64 (nthI x j))) := by
        obtain ⟨g, off, h1, h2, h3⟩ := hx.at_ (by omega)
        exact ⟨g, off, h1, h2, h3 j (by omega)⟩
      clear HF HEND
      generalize ixV l at_ (nthI x j) = ix at *
      generalize nthI x j = nu at *
      obtain ⟨g, off, rfl, hglt, hxc⟩ := HXC.out
      go_wp2
      go_loopw [7, 8] (fun v i wr => ∃ q : Nat, q ≤ n ∧ i = .int .i64 q ∧ Hid (FndS l at_ nu q v) ∧ Below w.heap.size w wr) (fun _ i _ => n - (intOf i).toNat)
      case atStart => exact ⟨0, Nat.zero_le _, rfl, FndS.zero _ _ _, hbel⟩
      case round =>
        obtain ⟨q, hq, rfl, HFS, hbel2⟩ := hrel
        by_cases hqn : q < n
        · have hqi : (q : Int) < (n : Int) := by omega
          obtain ⟨gp, rfl, hgplt, hcell⟩ := (hr.below hbel2).at_ (by omega)
          obtain ⟨x0, x1, x2, x3, x4, x5, x6⟩ := hcell q (by omega)
          have HMT : Hid (mtB at_ nu (nthP l q) = ((nthP l q).2.2.1 == at_ && (nthP l q).2.2.2 == nu)) := rfl
          have HNo : Hid (mtB at_ nu (nthP l q) = false → ∀ v, FndS l at_ nu q v → FndS l at_ nu (q + 1) v) := fun h v hv => hv.no h
          have HYes : Hid (mtB at_ nu (nthP l q) = true → FndS l at_ nu (q + 1) (.int .i64 (q : Int))) := fun h => FndS.yes h
          have xg : wr.cell? ⟨g, off + j, none⟩ = some (.int .i64 nu) := (hbel2.cell (p := ⟨g, off + j, none⟩) hglt).trans hxc
          clear hcell x0 x1 x2 x3 x4
          generalize mtB at_ nu (nthP l q) = mt at *
          generalize (nthP l q).2.2.1 = upv at *
          generalize (nthP l q).2.2.2 = nuv at *
          by_cases h1 : upv = at_
          · subst h1
            by_cases h2 : nuv = nu
            · subst h2
              have HA : Hid (_) := HYes.out (by rw [HMT.out]; simp)
              clear HNo HYes HMT
              go_wp2
              go_quiet (fail)
              go_wp2
              go_roundw
              case rel => exact ⟨q + 1, by omega, by go_num, HA.out, below_drewN hbel2 _⟩
              case measure => simp [intOf]; omega
            · have h2' : (nuv == nu) = false := by simpa using h2
              have HA : Hid (_) := HNo.out (by rw [HMT.out, h2']; simp) _ HFS.out
              have h2d : decide (nuv = nu) = false := decide_eq_false h2
              clear HNo HYes HMT
              go_wp2
              go_quiet (fail)
              go_wp2
              go_roundw
              case rel => exact ⟨q + 1, by omega, by go_num, HA.out, below_drewN hbel2 _⟩
              case measure => simp [intOf]; omega
          · have h1' : (upv == at_) = false := by simpa using h1
            have h1d : decide (upv = at_) = false := decide_eq_false h1
            have HA : Hid (_) := HNo.out (by rw [HMT.out, h1']; simp) _ HFS.out
            clear HNo HYes HMT
            go_wp2
            go_quiet (fail)
            go_wp2
            go_roundw
            case rel => exact ⟨q + 1, by omega, by go_num, HA.out, below_drewN hbel2 _⟩
            case measure => simp [intOf]; omega
        · have hqi : ¬ (q : Int) < (n : Int) := by omega
          obtain rfl : q = n := by omega
          have hv := HEN _ HFS.out
          subst hv
          clear HEN HFS
          by_cases hn0 : ix < 0
          · have HR : Hid (paV l x 0 = -1) := HF2.out.trans (if_pos hn0)
            clear HF2
            go_wp2
            go_ret
            rw [HR.out]
            exact ⟨rfl, hbel2⟩
          · have HF3 : Hid (paV l x 0 = paV l (x.drop (j + 1)) ix) := HF2.out.trans (if_neg hn0)
            clear HF2
            go_wp2
            go_roundw
            case rel => exact ⟨j + 1, ix, by omega, by go_num, rfl, by omega, by omega, HF3.out, hbel2⟩
            case measure => simp [intOf]; omega
    · have hji : ¬ (j : Int) < (nx : Int) := by omega
      have HR : Hid (paV l x 0 = at_) := HF.out.trans (paV_end (by omega))
      clear HF HEND
      go_wp2
      go_ret
      rw [HR.out]
      exact ⟨rfl, hbel⟩

set_option maxHeartbeats 1600000 in
set_option maxRecDepth 100000 in
theorem specPartAt_any (b m : Nat) (d : List Nat) (ax : Option Addr) (nx cx : Nat) (x : List Int) (w : World) (hr : Rd w (some ⟨b, 0, none⟩) d) (hb : b < w.heap.size) (hB : IsB d) (hl : d.length = m) (hx : RdI w ax x) (hlx : x.length = nx) (hnx : nx ≤ 1048576) :
    Calls Tryd.prog 21 #[.slice (some ⟨b, 0, none⟩) m m, .slice ax nx cx] w fun e w' => e = .returned (.agg #[.int .i64 (paR d x).1, .int .i64 (paR d x).2]) ∧ Below w.heap.size w w' := by
  have hb0 : Below w.heap.size w (w.alloc (.cells #[.int .i64 0, .int .i64 0] 37)) := (Below.refl _ _).alloc (Nat.le_refl _) _
  have hsW : (w.alloc (.cells #[.int .i64 0, .int .i64 0] 37)).heap.size = w.heap.size + 1 := by simp
  by_cases h4 : 400 < m
  · have h4' : (400 : Int) < (m : Int) := by omega
    have HM : Hid (paR d x = (2, 0)) := by
      have e : psV d = (2, []) := if_pos (by omega)
      show _ = _
      unfold paR
      rw [e, if_neg (by decide)]
    go_enter Tryd.func21, Tryd.ntmps21
    go_wp2
    go_returns
    rw [HM.out]
    exact ⟨rfl, by go_grown⟩
  · have h4' : ¬ (400 : Int) < (m : Int) := by omega
    have HA := l5Parse_any b m d _ (hr.below hb0) (Nat.lt_of_lt_of_le hb hb0.size) hB hl (by omega)
    have hps : psV d = (0, adV d 2 0 d.length (-1) 0 []) := if_neg (by omega)
    have HV : Hid (paR d x = if paV (adV d 2 0 d.length (-1) 0 []) x 0 < 0 then (4, 0) else (0, paV (adV d 2 0 d.length (-1) 0 []) x 0)) := by show _ = _; unfold paR; rw [hps, if_pos rfl]
    have hle : (adV d 2 0 d.length (-1) 0 []).length ≤ 8 := by have := psV_le d; rw [hps] at this; exact this
    have hdis := parts_dis d
    generalize paR d x = r at *
    generalize adV d 2 0 d.length (-1) 0 [] = l at *
    clear hps
    obtain ⟨N, hN⟩ : ∃ N, l.length = N := ⟨_, rfl⟩
    go_enter Tryd.func21, Tryd.ntmps21
    go_wp2_with fail
    refine HA.mono ?_
    rintro e w1 ⟨v, rfl, ho, hb1⟩
    rw [hsW] at ho hb1
    obtain ⟨a, cp, hv, -, -⟩ := ho.form
    rw [hN] at hv
    subst hv
    have hbw1 := hb0.trans (hb1.mono (by omega))
    have hz1 : w.heap.size + 1 ≤ w1.heap.size := by have := hb1.size; omega
    have HC := l5At_any a N cp l ax nx cx x w1 hN (OwnP.rd ho).2 (by omega) hdis (hx.below hbw1) hlx hnx
    generalize paV l x 0 = pa at *
    clear HA
    go_wp2_with fail
    refine HC.mono ?_
    rintro e w2 ⟨rfl, hb2⟩
    have hbl2 := hb1.trans (hb2.mono hz1)
    obtain ⟨a0, a1, z0, z1⟩ := res_block rfl hbl2
    have hbw2 := hb0.trans (hbl2.mono (by omega))
    clear HC ho hb1 hb2 hbl2 hb0
    by_cases hn0 : pa < 0
    · have HR : Hid (r = (4, 0)) := HV.out.trans (if_pos hn0)
      obtain ⟨k0, k1⟩ := res_cells a0 a1 (.int .i64 4) (.int .i64 0)
      have HE : Hid (_) := (hbw2.setCell (p := ⟨w.heap.size, 0, none⟩) (Nat.le_refl _) (.int .i64 4)).setCell (p := ⟨w.heap.size, 1, none⟩) (Nat.le_refl _) (.int .i64 0)
      clear HV
      go_wp2
      refine bodyPost_ret (v := .agg #[.int .i64 4, .int .i64 0]) (by simp [results, Tryd.results21, go_sem, k0, k1]) rfl ?_
      rw [HR.out]
      exact ⟨rfl, HE.out⟩
    · have HR : Hid (r = (0, pa)) := HV.out.trans (if_neg hn0)
      obtain ⟨k0, k1⟩ := res_cells a0 a1 (.int .i64 0) (.int .i64 pa)
      have HE : Hid (_) := (hbw2.setCell (p := ⟨w.heap.size, 0, none⟩) (Nat.le_refl _) (.int .i64 0)).setCell (p := ⟨w.heap.size, 1, none⟩) (Nat.le_refl _) (.int .i64 pa)
      clear HV
      go_wp2
      refine bodyPost_ret (v := .agg #[.int .i64 0, .int .i64 pa]) (by simp [results, Tryd.results21, go_sem, k0, k1]) rfl ?_
      rw [HR.out]
      exact ⟨rfl, HE.out⟩
end Go.Proofs.YtkjnhcnbbojajaaDoor
