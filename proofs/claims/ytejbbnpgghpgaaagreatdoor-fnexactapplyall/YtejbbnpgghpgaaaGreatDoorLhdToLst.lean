/- What the laws marked is found again: messages, mailboxes, stores; numbers to 4194304; no conditions beyond those that each fact names · The laws' helpers that write marks into an answer's numbers, look for them again, and hold two answers with numbers against each other, do what their texts say; at most 1048576 numbers · The laws' marks over stores and over what an op on a store tells: what is marked is found again; numbers to 4194304; no conditions beyond those that each fact names. -/
import Derived.Test.YtejbbnpgghpgaaaGreatDoorLmkToLmx
import Derived.Test.YtejbbnpgghpgaaaGreatDoorMsbToBxs
import Derived.Test.YtejbbnpgghpgaaaGreatDoorBytIToStw
import Derived.Test.YtejbbnpgghpgaaaGreatDoorJfzToMrk0
import Derived.Handy
namespace Go.Proofs.YtejbbnpgghpgaaaGreatDoor
open Go.RowKit List
set_option linter.unusedVariables false
theorem mkMs_get : ∀ (ms : List Dm) (k j : Nat) (h : j < ms.length) (h' : j < (mkMs ms k).length), (mkMs ms k)[j] = mkD ms[j] (k + mkK (ms.take j))
  | [], _, _, h, _ => by simp at h
  | d :: ms, k, 0, _, _ => by simp [mkMs, mkK]
  | d :: ms, k, j + 1, h, h' => by
    have := mkMs_get ms (k + mkN d) j (by simpa using h) (by rw [mkMs_len]; simpa using h)
    simp only [mkMs, List.getElem_cons_succ, this, List.take_succ_cons]
    rw [show k + mkN d + mkK (ms.take j) = k + mkK (d :: ms.take j) by simp [mkK]; omega]
theorem mkXs_get : ∀ (ms : List Dx) (k j : Nat) (h : j < ms.length) (h' : j < (mkXs ms k).length), (mkXs ms k)[j] = mkE ms[j] (k + mkKx (ms.take j))
  | [], _, _, h, _ => by simp at h
  | d :: ms, k, 0, _, _ => by simp [mkXs, mkKx]
  | d :: ms, k, j + 1, h, h' => by
    have := mkXs_get ms (k + mkNx d) j (by simpa using h) (by rw [mkXs_len]; simpa using h)
    simp only [mkXs, List.getElem_cons_succ, this, List.take_succ_cons]
    rw [show k + mkNx d + mkKx (ms.take j) = k + mkKx (d :: ms.take j) by simp [mkKx]; omega]
set_option maxHeartbeats 3200000 in
set_option maxRecDepth 100000 in
theorem heldMessageS_ow (s : SlQ) (ms : List Dm) (k : Nat) (w : World) (h : HM w s (mkMs ms k)) (hsz : k + mkK ms ≤ 4194304) (hbl : ∀ d ∈ ms, d.m.b.length ≤ 1048576) (hml : ms.length ≤ 1048576) :
    Calls Tryz.prog 167 #[slW s, .int .i64 (k : Int)] w fun e w' => e = .returned (.int .i64 ((k + mkK ms : Nat) : Int)) ∧ w = w' := by
  obtain ⟨s', hs', hsl, hsc, hsm, hsa⟩ := row_form h.1
  obtain rfl : s = s' := by
    obtain ⟨a, n, c⟩ := s
    obtain ⟨a', n', c'⟩ := s'
    simp only [slW, Value.slice.injEq] at hs'
    obtain ⟨rfl, rfl, rfl⟩ := hs'
    rfl
  clear hs'
  obtain ⟨a, n, cap⟩ := s
  rw [mkMs_len] at hsl hsc hsa
  dsimp only at hsl hsc hsm hsa
  subst hsl
  have hcap : cap ≤ 2 ^ 63 - 1 := by unfold maxLen at hsm; exact hsm
  have HT : Hid (∀ j (hj : j < ms.length), mkK (ms.take (j + 1)) = mkK (ms.take j) + mkN ms[j] ∧ k + mkK (ms.take (j + 1)) ≤ 4194304) := fun j hj => ⟨mkK_take hj, by have := mkK_le ms (j + 1); omega⟩
  unfold slW
  go_enter Tryz.func167, Tryz.ntmps167
  go_wp2
  go_loopw [1, 5] (fun q i wr => ∃ j : Nat, j ≤ ms.length ∧ i = .int .i64 j ∧ q = .int .i64 ((k + mkK (ms.take j) : Nat) : Int) ∧ w = wr)
    (fun _ i _ => ms.length - (intOf i).toNat)
  case atStart => exact ⟨0, Nat.zero_le _, rfl, by simp [mkK], rfl⟩
  case round =>
    obtain ⟨j, hj, rfl, rfl, rfl⟩ := hrel
    by_cases hjn : j < ms.length
    · have hji : (j : Int) < (ms.length : Int) := by omega
      obtain ⟨g, rfl⟩ : ∃ g, a = some ⟨g, 0, none⟩ := by
        rcases hsa with ⟨-, h0⟩ | h
        · omega
        · exact h
      have hhl : (mkMs ms k).length = ms.length := mkMs_len _ _
      have hgd := mkMs_get ms k j hjn (by omega)
      have hrow := h.1
      rw [hhl] at hrow
      have hql : j < ((mkMs ms k).map Dm.q).length := by rw [List.length_map]; omega
      have hnq : nthQ ((mkMs ms k).map Dm.q) j = (mkD ms[j] (k + mkK (ms.take j))).q := by rw [map_nthQ (by omega), hgd]
      obtain ⟨hglt, c0, c1, c2, c3⟩ := ownQ_cells hrow j hql
      rw [hnq] at c0 c1 c2 c3
      have hOd : OwB w ms[j].s (marks ms[j].m.b.length (k + mkK (ms.take j) + 3)) := by
        have := h.2 (mkMs ms k)[j] (List.getElem_mem (by omega))
        rw [hgd] at this
        exact this
      have hT := HT.out j hjn
      obtain ⟨kk, hkk⟩ : ∃ kk, k + mkK (ms.take j) = kk := ⟨_, rfl⟩
      have hkk' : (k : Int) + (mkK (ms.take j) : Int) = (kk : Int) := by omega
      rw [hkk] at c0 c1 c2 c3 hOd ⊢
      have hbl' := hbl _ (List.getElem_mem hjn)
      have hmN : mkN ms[j] = 3 + ms[j].m.b.length := rfl
      dsimp only [mkD, Dm.q, msQ] at c0 c1 c2 c3
      generalize ms[j].m.b.length = dn at *
      generalize ms[j].s = sd at *
      obtain ⟨da, dn', dc⟩ := sd
      have hrd := hOd.1.rd
      rw [marks_len] at hrd
      obtain rfl : dn = dn' := hrd.1
      have HC := heldByteS_l da dn dc (kk + 3) w hrd.2 (by omega) (by omega)
      clear hOd hrow h
      go_wp2_with fail
      rw [show (kk : Int) + 1 + 1 + 1 = ((kk + 3 : Nat) : Int) by omega]
      refine HC.mono ?_
      rintro e w4 ⟨rfl, rfl⟩
      have hkn : kk + 3 + dn = k + mkK (ms.take (j + 1)) := by rw [hT.1, hmN]; omega
      have hpos : ¬ ((k + mkK (ms.take (j + 1)) : Nat) : Int) < 0 := by omega
      clear HC
      rw [hkn]
      go_wp2
      go_roundw
      case rel => exact ⟨j + 1, by omega, by go_num, by have h1 := HT.out j hjn; rw [h1.1, hmN]; simp, by trivial⟩
      case measure => simp [intOf]; omega
    · have hji : ¬ (j : Int) < (ms.length : Int) := by omega
      obtain rfl : j = ms.length := by omega
      rw [List.take_length]
      go_wp2
      go_ret
      exact ⟨rfl, rfl⟩
set_option maxHeartbeats 3200000 in
set_option maxRecDepth 100000 in
theorem heldBoxS_ow (s : SlQ) (xs : List Dx) (k : Nat) (w : World) (h : HX w s (mkXs xs k)) (hk1 : 1 ≤ k) (hsz : k + mkKx xs ≤ 4194304) (hbl : ∀ d ∈ xs, (∀ e ∈ d.ms, e.m.b.length ≤ 1048576) ∧ d.ms.length ≤ 1048576) (hml : xs.length ≤ 1048576) :
    Calls Tryz.prog 129 #[slW s, .int .i64 (k : Int)] w fun e w' => e = .returned (.int .i64 ((k + mkKx xs : Nat) : Int)) ∧ Below w.heap.size w w' := by
  obtain ⟨s', hs', hsl, hsc, hsm, hsa⟩ := row_form h.1
  obtain rfl : s = s' := by
    obtain ⟨a, n, c⟩ := s
    obtain ⟨a', n', c'⟩ := s'
    simp only [slW, Value.slice.injEq] at hs'
    obtain ⟨rfl, rfl, rfl⟩ := hs'
    rfl
  clear hs'
  obtain ⟨a, n, cap⟩ := s
  rw [mkXs_len] at hsl hsc hsa
  dsimp only at hsl hsc hsm hsa
  subst hsl
  have hcap : cap ≤ 2 ^ 63 - 1 := by unfold maxLen at hsm; exact hsm
  have HT : Hid (∀ j (hj : j < xs.length), mkKx (xs.take (j + 1)) = mkKx (xs.take j) + mkNx xs[j] ∧ k + mkKx (xs.take (j + 1)) ≤ 4194304) := fun j hj => ⟨mkKx_take hj, by have := mkKx_le xs (j + 1); omega⟩
  unfold slW
  go_enter Tryz.func129, Tryz.ntmps129
  go_wp2
  go_loopw [1, 5] (fun q i wr => ∃ j : Nat, j ≤ xs.length ∧ i = .int .i64 j ∧ q = .int .i64 ((k + mkKx (xs.take j) : Nat) : Int) ∧ Below w.heap.size w wr)
    (fun _ i _ => xs.length - (intOf i).toNat)
  case atStart => exact ⟨0, Nat.zero_le _, rfl, by simp [mkKx], Below.refl _ _⟩
  case round =>
    obtain ⟨j, hj, rfl, rfl, hbel⟩ := hrel
    by_cases hjn : j < xs.length
    · have hji : (j : Int) < (xs.length : Int) := by omega
      obtain ⟨g, rfl⟩ : ∃ g, a = some ⟨g, 0, none⟩ := by
        rcases hsa with ⟨-, h0⟩ | h
        · omega
        · exact h
      have hhl : (mkXs xs k).length = xs.length := mkXs_len _ _
      have hgd := mkXs_get xs k j hjn (by omega)
      have hT := HT.out j hjn
      obtain ⟨kk, hkk⟩ : ∃ kk, k + mkKx (xs.take j) = kk := ⟨_, rfl⟩
      have hkk' : (k : Int) + (mkKx (xs.take j) : Int) = (kk : Int) := by omega
      have hkb : kk + (3 + mkK xs[j].ms) ≤ 4194304 := by have h1 := hT.2; rw [hT.1] at h1; unfold mkNx at h1; omega
      rw [hkk] at hgd ⊢
      have HC1 : Hid (∀ w' : World, Calls Tryz.prog 75 #[.int .i64 (kk : Int)] w' fun e w'' => e = .returned (.string (mtL kk)) ∧ Below w'.heap.size w' w'') := fun w' => markText_l kk w' (by omega) (by omega)
      have hbl' := hbl _ (List.getElem_mem hjn)
      have hmN : mkNx xs[j] = 3 + mkK xs[j].ms := rfl
      have HHX : Hid (HX w (some ⟨g, 0, none⟩, xs.length, cap) (mkXs xs k)) := h
      have hrow := (h.below hbel (Nat.le_refl _)).1
      rw [hhl] at hrow
      have hql : j < ((mkXs xs k).map Dx.q).length := by rw [List.length_map]; omega
      have hnq : nthQ ((mkXs xs k).map Dx.q) j = (mkE xs[j] kk).q := by rw [map_nthQ (by omega), hgd]
      obtain ⟨hglt, c0, c1, c2, c3⟩ := ownQ_cells hrow j hql
      rw [hnq] at c0 c1 c2 c3
      dsimp only [mkE, Dx.q] at c0 c1 c2 c3
      clear hrow
      obtain ⟨tx, htx⟩ : ∃ tx, mtL kk = tx := ⟨_, rfl⟩
      rw [htx] at c0
      go_wp2_with fail
      refine wp_region_held_drew (S := fun w' => w'.cell? ⟨g, j * 4, none⟩ = some (.string tx)) (by kernel_rfl) ?hS1 (fun hHeld => ?_)
      case hS1 => exact c0
      refine tk (i := 0) (v := ?_) rfl (Or.inl ⟨by kernel_rfl, ?hy2⟩) ?ty2
      case hy2 => (intro w hSw; go_simp; all_goals with_reducible rfl)
      simp only [Act.put, J1, J2, J4, J5, J6]
      refine tk (i := 1) (v := ?_) rfl (Or.inl ⟨by kernel_rfl, ?hy3⟩) ?ty3
      case hy3 => (intro w hSw; go_simp; all_goals with_reducible rfl)
      simp only [Act.put, J1, J2, J3, J4, J5, J6]
      refine tk (i := 2) (v := ?_) rfl (Or.inl ⟨by kernel_rfl, ?hy4⟩) ?ty4
      case hy4 => (intro w hSw; go_simp; all_goals with_reducible rfl)
      simp only [Act.put, J1, J2, J3, J4, J5, J6]
      refine tk (i := 3) (v := ?_) rfl (Or.inl ⟨by kernel_rfl, ?hy5⟩) ?ty5
      case hy5 => (intro w hSw; go_simp; all_goals with_reducible rfl)
      simp only [Act.put, J1, J2, J3, J4, J5, J6]
      refine tk (i := 4) (v := ?_) rfl (Or.inl ⟨by kernel_rfl, ?hy6⟩) ?ty6
      case hy6 => (intro w hSw; go_simp; all_goals with_reducible rfl)
      simp only [Act.put, J1, J2, J3, J4, J5, J6]
      refine tk (i := 5) (v := ?_) rfl (Or.inl ⟨by kernel_rfl, ?hy7⟩) ?ty7
      case hy7 => (intro w hSw; go_simp; all_goals with_reducible rfl)
      simp only [Act.put, J1, J2, J3, J4, J5, J6]
      refine wpAnyH_ready (rs := [6]) (by kernel_rfl) (by simp) ?_
      refine AllReadyH.cons rfl (fun K hK => ?_) AllReadyH.nil
      go_simp
      refine (HC1.out _).mono ?_
      rintro e w1 ⟨rfl, hb0⟩
      rw [htx]
      have hb1 : Below wr.heap.size wr w1 := (Below.refl _ _).drew.trans hb0
      have c0' : w1.cell? ⟨g, j * 4, none⟩ = some (.string tx) := (hb1.cell (p := ⟨g, j * 4, none⟩) hglt).trans c0
      refine hK.out _ _ c0' (fun hHeld => ?_)
      clear hK K
      refine tk (i := 7) (v := .bool false) rfl (Or.inl ⟨by kernel_rfl, ?hy8⟩) ?ty8
      case hy8 => (intro w hSw; go_simp; first | (simp; done) | (all_goals with_reducible rfl))
      simp only [Act.put, J1, J2, J3, J4, J5, J6]
      refine wpAnyH_done (by kernel_rfl) ?_ _
      have hbel1 := hbel.trans (hb1.mono hbel.size)
      have d1 := (hb1.cell (p := ⟨g, j * 4 + 1, none⟩) hglt).trans c1
      have d2 := (hb1.cell (p := ⟨g, j * 4 + 2, none⟩) hglt).trans c2
      have d3 := (hb1.cell (p := ⟨g, j * 4 + 3, none⟩) hglt).trans c3
      have hMd : HM w1 xs[j].s (mkMs xs[j].ms (kk + 3)) := by
        have := (HHX.out.below hbel1 (Nat.le_refl _)).2 (mkXs xs k)[j] (List.getElem_mem (by omega))
        rw [hgd] at this
        exact this
      have HC := heldMessageS_ow xs[j].s xs[j].ms (kk + 3) w1 hMd (by omega) hbl'.1 hbl'.2
      have hkn : kk + 3 + mkK xs[j].ms = k + mkKx (xs.take (j + 1)) := by rw [hT.1, hmN]; omega
      have hpos : ¬ ((k + mkKx (xs.take (j + 1)) : Nat) : Int) < 0 := by omega
      clear hHeld hb0 hb1 c0 c1 c2 c3 c0' hMd HC1 HHX
      go_wp2_with fail
      rw [show (kk : Int) + 1 + 1 + 1 = ((kk + 3 : Nat) : Int) by omega]
      refine HC.mono ?_
      rintro e w4 ⟨rfl, rfl⟩
      clear HC
      rw [hkn]
      go_wp2
      go_roundw
      case rel => exact ⟨j + 1, by omega, by go_num, by have h1 := HT.out j hjn; rw [h1.1, hmN]; simp, hbel1⟩
      case measure => simp [intOf]; omega
    · have hji : ¬ (j : Int) < (xs.length : Int) := by omega
      obtain rfl : j = xs.length := by omega
      rw [List.take_length]
      go_wp2
      go_ret
      exact ⟨rfl, hbel⟩
end Go.Proofs.YtejbbnpgghpgaaaGreatDoor
namespace Go.Proofs.YtejbbnpgghpgaaaGreatDoor
open Go.RowKit
def marksI (n k : Nat) : List Int := (List.range n).map fun i => ((k + i : Nat) : Int)
theorem marksI_len (n k : Nat) : (marksI n k).length = n := by simp [marksI]
theorem marksI_nth {n k i : Nat} (h : i < n) : nthI (marksI n k) i = ((k + i : Nat) : Int) := by
  rw [nthI_get (by rw [marksI_len]; exact h)]; simp [marksI]
def mhalfI (l : List Int) (k i : Nat) : List Int := marksI i k ++ l.drop i
theorem mhalfI_zero (l : List Int) (k : Nat) : mhalfI l k 0 = l := by simp [mhalfI, marksI]
theorem mhalfI_all (l : List Int) (k : Nat) : mhalfI l k l.length = marksI l.length k := by simp [mhalfI]
theorem mhalfI_len (l : List Int) (k i : Nat) (h : i ≤ l.length) : (mhalfI l k i).length = l.length := by simp [mhalfI, marksI_len]; omega
theorem mhalfI_set (l : List Int) (k i : Nat) (h : i < l.length) : (ic (mhalfI l k i)).set i (.int .i64 ((k + i : Nat) : Int)) = ic (mhalfI l k (i + 1)) := by
  have hm : (ic (marksI i k)).length = i := by rw [ic_len, marksI_len]
  have e : marksI (i + 1) k = marksI i k ++ [((k + i : Nat) : Int)] := by simp [marksI, List.range_succ]
  unfold mhalfI
  rw [e, ic_app, List.set_append, hm, if_neg (Nat.lt_irrefl i), Nat.sub_self, drop_consI l i h]
  simp [ic]
set_option maxHeartbeats 1600000 in
set_option maxRecDepth 100000 in
theorem markInt64S_any (a : Option Addr) (n cap k B : Nat) (l : List Int) (w : World) (hown : OwnI w B (.slice a n cap) l) (hn : n ≤ 1048576) (hk : k ≤ 1048576) :
    Calls Tryz.prog 70 #[.slice a n cap, .int .i64 (k : Int)] w fun e w' =>
      e = .returned (.int .i64 ((k + n : Nat) : Int)) ∧ OwnI w' B (.slice a n cap) (marksI n k) ∧ w.grownBy w' (Value.slice a n cap).ownBlock := by
  obtain ⟨hl, hr⟩ := hown.rd
  go_enter Tryz.func70, Tryz.ntmps70
  go_wp2
  go_loopw [1, 5] (fun q i wr => ∃ j : Nat, j ≤ n ∧ i = .int .i64 j ∧ q = .int .i64 ((k + j : Nat) : Int) ∧ OwnI wr B (.slice a n cap) (mhalfI l k j) ∧ w.grownBy wr (Value.slice a n cap).ownBlock)
    (fun _ i _ => n - (intOf i).toNat)
  case atStart => exact ⟨0, Nat.zero_le _, rfl, rfl, by rw [mhalfI_zero]; exact hown, World.grownBy.refl _ _⟩
  case round =>
    obtain ⟨j, hj, rfl, rfl, hown', hgr⟩ := hrel
    clear hown
    by_cases hjn : j < n
    · obtain ⟨g, off, ha, _, hcell⟩ := hown'.rd.2.at_ (by rw [mhalfI_len _ _ _ (by omega)]; omega)
      obtain ⟨ad, hform⟩ : ∃ g', a = some ⟨g', 0, none⟩ := by
        rcases hown'.2 with ⟨h0, h1⟩ | ⟨g', cap', cur, h', _⟩
        · rw [mhalfI_len _ _ _ (by omega)] at h1; omega
        · simp at h'; exact ⟨g', h'.1⟩
      rw [ha] at hform
      obtain ⟨rfl, rfl⟩ : g = ad ∧ off = 0 := by simpa using hform
      subst ha
      have hlen : (mhalfI l k j).length = n := by rw [mhalfI_len _ _ _ (by omega)]; exact hl
      have ho2 : wr.ownsRow B 2 1 (.slice (some ⟨g, 0, none⟩) n cap) n (ic (mhalfI l k j)) := by have := hown'; unfold OwnI at this; rw [hlen] at this; exact this
      have hc : wr.cell? ⟨g, j, none⟩ = some (.int .i64 (nthI (mhalfI l k j) j)) := by have := hcell j (by omega); rw [Nat.zero_add] at this; exact this
      have hf := ho2.frozenAt j
      obtain ⟨hst, hgr2⟩ := ho2.stored j (.int .i64 ((k + j : Nat) : Int))
      rw [mhalfI_set l k j (by omega)] at hst
      have HO : Hid (OwnI (wr.setCell ⟨g, j, none⟩ (.int .i64 ((k + j : Nat) : Int))) B (.slice (some ⟨g, 0, none⟩) n cap) (mhalfI l k (j + 1))) := by
        show OwnI _ _ _ _
        unfold OwnI
        rw [mhalfI_len _ _ _ (by omega), hl]; exact hst
      have hgr3 : w.grownBy (wr.setCell ⟨g, j, none⟩ (.int .i64 ((k + j : Nat) : Int))) (some g) := ⟨hgr2.os.trans hgr.os, hgr2.tape.trans hgr.tape, hgr2.output.trans hgr.output, Nat.le_trans hgr.size hgr2.size, fun b hb hne => (hgr2.block b (Nat.lt_of_lt_of_le hb hgr.size) hne).trans (hgr.block b hb hne)⟩
      have e0 : ((k + j : Nat) : Int) = (k : Int) + (j : Int) := by omega
      rw [e0] at HO hgr3
      clear hst hgr2 ho2 hcell hown' hgr hform hr e0
      go_wp2
      go_roundw
      case rel => exact ⟨j + 1, by omega, by go_num, by go_num, HO.out, hgr3⟩
      case measure => simp [intOf]; omega
    · have hjj : j = n := by omega
      subst hjj
      rw [← hl, mhalfI_all, hl] at hown'
      go_wp2
      go_ret
      exact ⟨rfl, hown', hgr⟩
set_option maxHeartbeats 800000 in
set_option maxRecDepth 100000 in
theorem heldInt64S_any (a : Option Addr) (n cap k : Nat) (w : World) (hr : RdI w a (marksI n k)) (hn : n ≤ 1048576) (hk : k ≤ 1048576) :
    Calls Tryz.prog 72 #[.slice a n cap, .int .i64 (k : Int)] w fun e w' => e = .returned (.int .i64 ((k + n : Nat) : Int)) ∧ w = w' := by
  go_enter Tryz.func72, Tryz.ntmps72
  go_wp2
  go_loop [1, 5] (fun q i => ∃ j : Nat, j ≤ n ∧ i = .int .i64 j ∧ q = .int .i64 ((k + j : Nat) : Int)) (fun _ i => n - (intOf i).toNat)
  case atStart => exact ⟨0, Nat.zero_le _, rfl, rfl⟩
  case round =>
    obtain ⟨j, hj, rfl, rfl⟩ := hrel
    by_cases hjn : j < n
    · obtain ⟨b, off, rfl, hblt, hcell⟩ := hr.at_ (by rw [marksI_len]; omega)
      have hc := hcell j (by rw [marksI_len]; exact hjn)
      rw [marksI_nth hjn] at hc
      rw [show ((k + j : Nat) : Int) = (k : Int) + (j : Int) by omega] at hc
      clear hcell hr
      go_wp2
      go_round
      case rel => exact ⟨j + 1, by omega, by go_num, by go_num⟩
      case measure => simp [intOf]; omega
    · have hjj : j = n := by omega
      subst hjj
      go_wp2
      go_ret
      exact ⟨rfl, rfl⟩
end Go.Proofs.YtejbbnpgghpgaaaGreatDoor
namespace Go.Proofs.YtejbbnpgghpgaaaGreatDoor
open Go.RowKit
set_option linter.unusedVariables false
theorem OwZ.keepK {w w' : World} {s : SlQ} {l : List Int} {fp : List Nat} (h : OwZ 2 w s l) (hk : Kx fp w w') (hn : ∀ g ∈ blkS s, g ∉ fp) : OwZ 2 w' s l := h.keep fun g hg => hk.block g (h.lt g hg) (hn g hg)
theorem HX.keepK {w w' : World} {s : SlQ} {l : List Dx} {fp : List Nat} (h : HX w s l) (hk : Kx fp w w') (hn : ∀ g ∈ blkS s ++ fpX l, g ∉ fp) : HX w' s l := h.keep fun g hg => hk.block g (h.lt g hg) (hn g hg)
def FewX (xs : List Dx) : Prop := (∀ d ∈ xs, (∀ e ∈ d.ms, e.m.b.length ≤ 1048576) ∧ d.ms.length ≤ 1048576) ∧ xs.length ≤ 1048576
set_option maxHeartbeats 800000 in
set_option maxRecDepth 100000 in
theorem markStore_ow (v : Int) (s : SlQ) (xs : List Dx) (k : Nat) (w : World) (h : HX w s xs) (hnd : (blkS s ++ fpX xs).Nodup) (hk1 : 1 ≤ k) (hsz : k + mkKx xs ≤ 4194304) (hf : FewX xs) :
    Calls Tryz.prog 21 #[.agg #[.int .i64 v, slW s], .int .i64 (k : Int)] w fun e w' => e = .returned (.int .i64 ((k + mkKx xs : Nat) : Int)) ∧ HX w' s (mkXs xs k) ∧ Kx (blkS s ++ fpX xs) w w' := by
  have hb0 : Below w.heap.size w (w.alloc (.cells #[.int .i64 v, slW s] 33)) := (Below.refl _ _).alloc (Nat.le_refl _) _
  have HC := markBoxS_ow s xs k (w.alloc (.cells #[.int .i64 v, slW s] 33)) (h.below hb0 (Nat.le_refl _)) hnd hk1 hsz hf.1 hf.2
  generalize k + mkKx xs = kk at *
  go_enter Tryz.func21, Tryz.ntmps21
  go_wp2_with fail
  refine HC.mono ?_
  rintro e w1 ⟨rfl, hH, hK⟩
  have hK1 : Kx (blkS s ++ fpX xs) w w1 := (Kx.of_below hb0).trans hK (fun g hg => .inl hg)
  clear HC hK
  go_wp2
  go_ret
  exact ⟨rfl, hH, hK1⟩
set_option maxHeartbeats 800000 in
set_option maxRecDepth 100000 in
theorem heldStore_ow (v : Int) (s : SlQ) (xs : List Dx) (k : Nat) (w : World) (h : HX w s (mkXs xs k)) (hk1 : 1 ≤ k) (hsz : k + mkKx xs ≤ 4194304) (hf : FewX xs) :
    Calls Tryz.prog 73 #[.agg #[.int .i64 v, slW s], .int .i64 (k : Int)] w fun e w' => e = .returned (.int .i64 ((k + mkKx xs : Nat) : Int)) ∧ Below w.heap.size w w' := by
  have hb0 : Below w.heap.size w (w.alloc (.cells #[.int .i64 v, slW s] 33)) := (Below.refl _ _).alloc (Nat.le_refl _) _
  have HC := heldBoxS_ow s xs k (w.alloc (.cells #[.int .i64 v, slW s] 33)) (h.below hb0 (Nat.le_refl _)) hk1 hsz hf.1 hf.2
  generalize k + mkKx xs = kk at *
  have hpos : ¬ (kk : Int) < 0 := by omega
  go_enter Tryz.func73, Tryz.ntmps73
  go_wp2_with fail
  refine HC.mono ?_
  rintro e w1 ⟨rfl, hb1⟩
  have hb2 := hb0.trans (hb1.mono hb0.size)
  clear HC hb1
  go_wp2
  go_ret
  exact ⟨rfl, hb2⟩
set_option maxHeartbeats 1600000 in
set_option maxRecDepth 100000 in
theorem markStoreResult_ow (c v : Int) (su s : SlQ) (u : List Int) (xs : List Dx) (k : Nat) (w : World) (hu : OwZ 2 w su u) (h : HX w s xs) (hnd : (blkS s ++ fpX xs).Nodup) (hun : ∀ g ∈ blkS su, g ∉ blkS s ++ fpX xs) (hk1 : 1 ≤ k) (hul : u.length ≤ 1048576) (hk2 : k ≤ 1048576) (hsz : k + u.length + mkKx xs ≤ 4194304) (hf : FewX xs) :
    Calls Tryz.prog 23 #[.agg #[.int .i64 c, slW su, .int .i64 v, slW s], .int .i64 (k : Int)] w fun e w' => e = .returned (.int .i64 ((k + u.length + mkKx xs : Nat) : Int)) ∧ OwZ 2 w' su (marksI u.length k) ∧ HX w' s (mkXs xs (k + u.length)) ∧ Kx (blkS su ++ (blkS s ++ fpX xs)) w w' := by
  obtain ⟨ua, un, uc⟩ := su
  obtain rfl : un = u.length := by
    have : OwnI w 0 (.slice ua un uc) u := hu
    exact this.rd.1.symm
  obtain ⟨W, hW⟩ : ∃ W, w.alloc (.cells #[.int .i64 c, slW (ua, u.length, uc), .int .i64 v, slW s] 35) = W := ⟨_, rfl⟩
  have hb0 : Below w.heap.size w W := by rw [← hW]; exact (Below.refl _ _).alloc (Nat.le_refl _) _
  have hQ : Qc W w.heap.size (.int .i64 c, slW (ua, u.length, uc), .int .i64 v, slW s) := by rw [← hW]; exact Qc.new w _ _ _ _ _
  have huw := hu.below hb0 (Nat.le_refl _)
  have HC := markInt64S_any ua u.length uc k 0 u W huw (by omega) hk2
  have hne : some w.heap.size ≠ (Value.slice ua u.length uc).ownBlock := fun e => by
    have := hu.lt w.heap.size (mem_blkS.2 e.symm)
    omega
  have hHW := h.below hb0 (Nat.le_refl _)
  have HS : Hid (∀ w1 : World, W.grownBy w1 (Value.slice ua u.length uc).ownBlock → Kx (blkS ((ua, u.length, uc) : SlQ)) W w1 ∧ HX w1 s xs ∧ Qc w1 w.heap.size (.int .i64 c, slW (ua, u.length, uc), .int .i64 v, slW s)) := fun w1 hg => by
    have hk : Kx (blkS ((ua, u.length, uc) : SlQ)) W w1 := (Kx.refl _ _).grown hg fun g hg' => .inl (mem_blkS.2 hg')
    exact ⟨hk, hHW.keepK hk (fun g hg' hc => hun g hc hg'), hg.cell hQ.1 hne, hg.cell hQ.2.1 hne, hg.cell hQ.2.2.1 hne, hg.cell hQ.2.2.2 hne⟩
  have HM2 : Hid (∀ w1 : World, HX w1 s xs → Calls Tryz.prog 21 #[.agg #[.int .i64 v, slW s], .int .i64 ((k + u.length : Nat) : Int)] w1 fun e w' => e = .returned (.int .i64 ((k + u.length + mkKx xs : Nat) : Int)) ∧ HX w' s (mkXs xs (k + u.length)) ∧ Kx (blkS s ++ fpX xs) w1 w') := fun w1 h1 => markStore_ow v s xs (k + u.length) w1 h1 hnd (by omega) hsz hf
  obtain ⟨q0, q1, q2, q3⟩ := hQ
  dsimp only at q0 q1 q2 q3
  clear hHW huw h hu
  go_enter Tryz.func23, Tryz.ntmps23
  go_wp2_with fail
  refine HC.mono ?_
  rintro e w1 ⟨rfl, hO1, hg1⟩
  obtain ⟨hk1', hH1, d0, d1, d2, d3⟩ := HS.out w1 hg1
  dsimp only at d0 d1 d2 d3
  have HC2 := HM2.out w1 hH1
  clear HC HS HM2 q0 q1 q2 q3 hg1
  have hOK : OwZ 2 w1 (ua, u.length, uc) (marksI u.length k) := hO1
  obtain ⟨kk, hkk⟩ : ∃ kk, k + u.length + mkKx xs = kk := ⟨_, rfl⟩
  rw [hkk] at HC2
  go_wp2_with fail
  refine HC2.mono ?_
  rintro e w2 ⟨rfl, hH2, hk2'⟩
  have hO2 := hOK.keepK hk2' hun
  have hK : Kx (blkS ((ua, u.length, uc) : SlQ) ++ (blkS s ++ fpX xs)) w w2 := ((Kx.of_below hb0).trans hk1' (fun g hg => .inl (List.mem_append_left _ hg))).trans hk2' (fun g hg => .inl (List.mem_append_right _ hg))
  clear HC2 hO1 hOK hk1' hk2' d0 d1 d2 d3
  go_wp2
  go_ret
  exact ⟨by rw [hkk]; rfl, hO2, hH2, hK⟩
set_option maxHeartbeats 1600000 in
set_option maxRecDepth 100000 in
theorem heldStoreResult_ow (c v : Int) (su s : SlQ) (n : Nat) (xs : List Dx) (k : Nat) (w : World) (hu : OwZ 2 w su (marksI n k)) (h : HX w s (mkXs xs (k + n))) (hk1 : 1 ≤ k) (hul : n ≤ 1048576) (hk2 : k ≤ 1048576) (hsz : k + n + mkKx xs ≤ 4194304) (hf : FewX xs) :
    Calls Tryz.prog 24 #[.agg #[.int .i64 c, slW su, .int .i64 v, slW s], .int .i64 (k : Int)] w fun e w' => e = .returned (.int .i64 ((k + n + mkKx xs : Nat) : Int)) ∧ Below w.heap.size w w' := by
  obtain ⟨ua, un, uc⟩ := su
  obtain rfl : un = n := by
    have : OwnI w 0 (.slice ua un uc) (marksI n k) := hu
    have := this.rd.1
    rw [marksI_len] at this
    exact this.symm
  obtain ⟨W, hW⟩ : ∃ W, w.alloc (.cells #[.int .i64 c, slW (ua, un, uc), .int .i64 v, slW s] 35) = W := ⟨_, rfl⟩
  have hb0 : Below w.heap.size w W := by rw [← hW]; exact (Below.refl _ _).alloc (Nat.le_refl _) _
  have hQ : Qc W w.heap.size (.int .i64 c, slW (ua, un, uc), .int .i64 v, slW s) := by rw [← hW]; exact Qc.new w _ _ _ _ _
  have huw : OwnI W 0 (.slice ua un uc) (marksI un k) := hu.below hb0 (Nat.le_refl _)
  have HC := heldInt64S_any ua un uc k W huw.rd.2 (by omega) hk2
  have HC2 := heldStore_ow v s xs (k + un) W (h.below hb0 (Nat.le_refl _)) (by omega) hsz hf
  obtain ⟨q0, q1, q2, q3⟩ := hQ
  dsimp only at q0 q1 q2 q3
  clear huw h hu
  have hp1 : ¬ ((k + un : Nat) : Int) < 0 := by omega
  generalize k + un + mkKx xs = kk at *
  have hp2 : ¬ (kk : Int) < 0 := by omega
  go_enter Tryz.func24, Tryz.ntmps24
  go_wp2_with fail
  refine HC.mono ?_
  rintro e w1 ⟨rfl, rfl⟩
  generalize hkn : k + un = kn at *
  go_wp2_with fail
  refine HC2.mono ?_
  rintro e w2 ⟨rfl, hb2⟩
  have hb3 := hb0.trans (hb2.mono hb0.size)
  clear HC HC2 hb2
  go_wp2
  go_ret
  exact ⟨rfl, hb3⟩
end Go.Proofs.YtejbbnpgghpgaaaGreatDoor
