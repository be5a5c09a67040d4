/- What the laws marked is found again: messages, mailboxes, stores; numbers to 4194304; no conditions beyond those that each fact names · Each helper of the laws over slices of whole numbers does what its text says: it copies one, and holds two against each other; slices of at most 1048576 numbers · What an append of numbers to a slice of the call's own leaves: laws for this program's types; at most 1073741824 numbers. -/
import Derived.Test.YtejbbnpgghpgaaaGreatDoorMtjToLmx
import Derived.Test.YtejbbnpgghpgaaaGreatDoorTkwToBxs
import Derived.Test.YtejbbnpgghpgaaaGreatDoorMqrToMemI
import Derived.Test.YtejbbnpgghpgaaaGreatDoorProg
import Derived.BigQuiet
import Derived.Deep.QuietTactic
import Derived.KernelRfl
namespace Go.Proofs.YtejbbnpgghpgaaaGreatDoor
open Go.RowKit List
set_option linter.unusedVariables false

theorem mkMs_get : ∀ (ms : List Dm) (k j : Nat) (h : j < ms.length) (h' : j < (mkMs ms k).length), (mkMs ms k)[j] = mkD ms[j] (k + mkK (ms.take j))
  | [], _, _, h, _ => by simp at h
  | d :: ms, k, 0, _, _ => by simp [mkMs, mkK]
  | d :: ms, k, j + 1, h, h' => by
    have := mkMs_get ms (k + mkN d) j (by simpa using h) (by rw [mkMs_len]; simpa using h)
    simp only [mkMs, List.getElem_cons_succ, this, List.take_succ_cons]
    rw [show k + mkN d + mkK (ms.take j) = k + mkK (d :: ms.take j) by simp [mkK]; omega]
theorem mkXs_get : ∀ (ms : List Dx) (k j : Nat) (h : j < ms.length) (h' : j < (mkXs ms k).length), (mkXs ms k)[j] = mkE ms[j] (k + mkKx (ms.take j))
  | [], _, _, h, _ => by simp at h
  | d :: ms, k, 0, _, _ => by simp [mkXs, mkKx]
  | d :: ms, k, j + 1, h, h' => by
    have := mkXs_get ms (k + mkNx d) j (by simpa using h) (by rw [mkXs_len]; simpa using h)
    simp only [mkXs, List.getElem_cons_succ, this, List.take_succ_cons]
    rw [show k + mkNx d + mkKx (ms.take j) = k + mkKx (d :: ms.take j) by simp [mkKx]; omega]

set_option maxHeartbeats 3200000 in
set_option maxRecDepth 100000 in
theorem heldMessageS_ow (s : SlQ) (ms : List Dm) (k : Nat) (w : World) (h : HM w s (mkMs ms k)) (hsz : k + mkK ms ≤ 4194304) (hbl : ∀ d ∈ ms, d.m.b.length ≤ 1048576) (hml : ms.length ≤ 1048576) :
    Calls Tryz.prog 167 #[slW s, .int .i64 (k : Int)] w fun e w' => e = .returned (.int .i64 ((k + mkK ms : Nat) : Int)) ∧ w = w' := by
  obtain ⟨s', hs', hsl, hsc, hsm, hsa⟩ := row_form h.1
  obtain rfl : s = s' := by
    obtain ⟨a, n, c⟩ := s
    obtain ⟨a', n', c'⟩ := s'
    simp only [slW, Value.slice.injEq] at hs'
    obtain ⟨rfl, rfl, rfl⟩ := hs'
    rfl
  clear hs'
  obtain ⟨a, n, cap⟩ := s
  rw [mkMs_len] at hsl hsc hsa
  dsimp only at hsl hsc hsm hsa
  subst hsl
  have hcap : cap ≤ 2 ^ 63 - 1 := by unfold maxLen at hsm; exact hsm
  have HT : Hid (∀ j (hj : j < ms.length), mkK (ms.take (j + 1)) = mkK (ms.take j) + mkN ms[j] ∧ k + mkK (ms.take (j + 1)) ≤ 4194304) := fun j hj => ⟨mkK_take hj, by have := mkK_le ms (j + 1); omega⟩
  unfold slW
  go_enter Tryz.func167, Tryz.ntmps167
  go_wp2
  go_loopw [1, 5] (fun q i wr => ∃ j : Nat, j ≤ ms.length ∧ i = .int .i64 j ∧ q = .int .i64 ((k + mkK (ms.take j) : Nat) : Int) ∧ w = wr)
    (fun _ i _ => ms.length - (intOf i).toNat)
  case atStart => exact ⟨0, Nat.zero_le _, rfl, by simp [mkK], rfl⟩
  case round =>
    obtain ⟨j, hj, rfl, rfl, rfl⟩ := hrel
    by_cases hjn : j < ms.length
    · have hji : (j : Int) < (ms.length : Int) := by omega
      obtain ⟨g, rfl⟩ : ∃ g, a = some ⟨g, 0, none⟩ := by
        rcases hsa with ⟨-, h0⟩ | h
        · omega
        · exact h
      have hhl : (mkMs ms k).length = ms.length := mkMs_len _ _
      have hgd := mkMs_get ms k j hjn (by omega)
      have hrow := h.1
      rw [hhl] at hrow
      have hql : j < ((mkMs ms k).map Dm.q).length := by rw [List.length_map]; omega
      have hnq : nthQ ((mkMs ms k).map Dm.q) j = (mkD ms[j] (k + mkK (ms.take j))).q := by rw [map_nthQ (by omega), hgd]
      obtain ⟨hglt, c0, c1, c2, c3⟩ := ownQ_cells hrow j hql
      rw [hnq] at c0 c1 c2 c3
      have hOd : OwB w ms[j].s (marks ms[j].m.b.length (k + mkK (ms.take j) + 3)) := by
        have := h.2 (mkMs ms k)[j] (List.getElem_mem (by omega))
        rw [hgd] at this
        exact this
      have hT := HT.out j hjn
      obtain ⟨kk, hkk⟩ : ∃ kk, k + mkK (ms.take j) = kk := ⟨_, rfl⟩
      have hkk' : (k : Int) + (mkK (ms.take j) : Int) = (kk : Int) := by omega
      rw [hkk] at c0 c1 c2 c3 hOd ⊢
      have hbl' := hbl _ (List.getElem_mem hjn)
      have hmN : mkN ms[j] = 3 + ms[j].m.b.length := rfl
      dsimp only [mkD, Dm.q, msQ] at c0 c1 c2 c3
      generalize ms[j].m.b.length = dn at *
      generalize ms[j].s = sd at *
      obtain ⟨da, dn', dc⟩ := sd
      have hrd := hOd.1.rd
      rw [marks_len] at hrd
      obtain rfl : dn = dn' := hrd.1
      have HC := heldByteS_l da dn dc (kk + 3) w hrd.2 (by omega) (by omega)
      clear hOd hrow h
      go_wp2_with fail
      rw [show (kk : Int) + 1 + 1 + 1 = ((kk + 3 : Nat) : Int) by omega]
      refine HC.mono ?_
      rintro e w4 ⟨rfl, rfl⟩
      have hkn : kk + 3 + dn = k + mkK (ms.take (j + 1)) := by rw [hT.1, hmN]; omega
      have hpos : ¬ ((k + mkK (ms.take (j + 1)) : Nat) : Int) < 0 := by omega
      clear HC
      rw [hkn]
      go_wp2
      go_roundw
      case rel => exact ⟨j + 1, by omega, by go_num, by have h1 := HT.out j hjn; rw [h1.1, hmN]; simp, by trivial⟩
      case measure => simp [intOf]; omega
    · have hji : ¬ (j : Int) < (ms.length : Int) := by omega
      obtain rfl : j = ms.length := by omega
      rw [List.take_length]
      go_wp2
      go_ret
      exact ⟨rfl, rfl⟩

set_option maxHeartbeats 3200000 in
set_option maxRecDepth 100000 in
theorem heldBoxS_ow (s : SlQ) (xs : List Dx) (k : Nat) (w : World) (h : HX w s (mkXs xs k)) (hk1 : 1 ≤ k) (hsz : k + mkKx xs ≤ 4194304) (hbl : ∀ d ∈ xs, (∀ e ∈ d.ms, e.m.b.length ≤ 1048576) ∧ d.ms.length ≤ 1048576) (hml : xs.length ≤ 1048576) :
    Calls Tryz.prog 129 #[slW s, .int .i64 (k : Int)] w fun e w' => e = .returned (.int .i64 ((k + mkKx xs : Nat) : Int)) ∧ Below w.heap.size w w' := by
  obtain ⟨s', hs', hsl, hsc, hsm, hsa⟩ := row_form h.1
  obtain rfl : s = s' := by
    obtain ⟨a, n, c⟩ := s
    obtain ⟨a', n', c'⟩ := s'
    simp only [slW, Value.slice.injEq] at hs'
    obtain ⟨rfl, rfl, rfl⟩ := hs'
    rfl
  clear hs'
  obtain ⟨a, n, cap⟩ := s
  rw [mkXs_len] at hsl hsc hsa
  dsimp only at hsl hsc hsm hsa
  subst hsl
  have hcap : cap ≤ 2 ^ 63 - 1 := by unfold maxLen at hsm; exact hsm
  have HT : Hid (∀ j (hj : j < xs.length), mkKx (xs.take (j + 1)) = mkKx (xs.take j) + mkNx xs[j] ∧ k + mkKx (xs.take (j + 1)) ≤ 4194304) := fun j hj => ⟨mkKx_take hj, by have := mkKx_le xs (j + 1); omega⟩
  unfold slW
  go_enter Tryz.func129, Tryz.ntmps129
  go_wp2
  go_loopw [1, 5] (fun q i wr => ∃ j : Nat, j ≤ xs.length ∧ i = .int .i64 j ∧ q = .int .i64 ((k + mkKx (xs.take j) : Nat) : Int) ∧ Below w.heap.size w wr)
    (fun _ i _ => xs.length - (intOf i).toNat)
  case atStart => exact ⟨0, Nat.zero_le _, rfl, by simp [mkKx], Below.refl _ _⟩
  case round =>
    obtain ⟨j, hj, rfl, rfl, hbel⟩ := hrel
    by_cases hjn : j < xs.length
    · have hji : (j : Int) < (xs.length : Int) := by omega
      obtain ⟨g, rfl⟩ : ∃ g, a = some ⟨g, 0, none⟩ := by
        rcases hsa with ⟨-, h0⟩ | h
        · omega
        · exact h
      have hhl : (mkXs xs k).length = xs.length := mkXs_len _ _
      have hgd := mkXs_get xs k j hjn (by omega)
      have hT := HT.out j hjn
      obtain ⟨kk, hkk⟩ : ∃ kk, k + mkKx (xs.take j) = kk := ⟨_, rfl⟩
      have hkk' : (k : Int) + (mkKx (xs.take j) : Int) = (kk : Int) := by omega
      have hkb : kk + (3 + mkK xs[j].ms) ≤ 4194304 := by have h1 := hT.2; rw [hT.1] at h1; unfold mkNx at h1; omega
      rw [hkk] at hgd ⊢
      have HC1 : Hid (∀ w' : World, Calls Tryz.prog 75 #[.int .i64 (kk : Int)] w' fun e w'' => e = .returned (.string (mtL kk)) ∧ Below w'.heap.size w' w'') := fun w' => markText_l kk w' (by omega) (by omega)
      have hbl' := hbl _ (List.getElem_mem hjn)
      have hmN : mkNx xs[j] = 3 + mkK xs[j].ms := rfl
      have HHX : Hid (HX w (some ⟨g, 0, none⟩, xs.length, cap) (mkXs xs k)) := h
      have hrow := (h.below hbel (Nat.le_refl _)).1
      rw [hhl] at hrow
      have hql : j < ((mkXs xs k).map Dx.q).length := by rw [List.length_map]; omega
      have hnq : nthQ ((mkXs xs k).map Dx.q) j = (mkE xs[j] kk).q := by rw [map_nthQ (by omega), hgd]
      obtain ⟨hglt, c0, c1, c2, c3⟩ := ownQ_cells hrow j hql
      rw [hnq] at c0 c1 c2 c3
      dsimp only [mkE, Dx.q] at c0 c1 c2 c3
      clear hrow
      obtain ⟨tx, htx⟩ : ∃ tx, mtL kk = tx := ⟨_, rfl⟩
      rw [htx] at c0
      go_wp2_with fail
      refine wp_region_held_drew (S := fun w' => w'.cell? ⟨g, j * 4, none⟩ = some (.string tx)) (by kernel_rfl) ?hS1 (fun hHeld => ?_)
      case hS1 => exact c0
      refine tk (i := 0) (v := ?_) rfl (Or.inl ⟨by kernel_rfl, ?hy2⟩) ?ty2
      case hy2 => (intro w hSw; go_simp; all_goals with_reducible rfl)
      simp only [Act.put, J1, J2, J4, J5, J6]
      refine tk (i := 1) (v := ?_) rfl (Or.inl ⟨by kernel_rfl, ?hy3⟩) ?ty3
      case hy3 => (intro w hSw; go_simp; all_goals with_reducible rfl)
      simp only [Act.put, J1, J2, J3, J4, J5, J6]
      refine tk (i := 2) (v := ?_) rfl (Or.inl ⟨by kernel_rfl, ?hy4⟩) ?ty4
      case hy4 => (intro w hSw; go_simp; all_goals with_reducible rfl)
      simp only [Act.put, J1, J2, J3, J4, J5, J6]
      refine tk (i := 3) (v := ?_) rfl (Or.inl ⟨by kernel_rfl, ?hy5⟩) ?ty5
      case hy5 => (intro w hSw; go_simp; all_goals with_reducible rfl)
      simp only [Act.put, J1, J2, J3, J4, J5, J6]
      refine tk (i := 4) (v := ?_) rfl (Or.inl ⟨by kernel_rfl, ?hy6⟩) ?ty6
      case hy6 => (intro w hSw; go_simp; all_goals with_reducible rfl)
      simp only [Act.put, J1, J2, J3, J4, J5, J6]
      refine tk (i := 5) (v := ?_) rfl (Or.inl ⟨by kernel_rfl, ?hy7⟩) ?ty7
      case hy7 => (intro w hSw; go_simp; all_goals with_reducible rfl)
      simp only [Act.put, J1, J2, J3, J4, J5, J6]
      refine wpAnyH_ready (rs := [6]) (by kernel_rfl) (by simp) ?_
      refine AllReadyH.cons rfl (fun K hK => ?_) AllReadyH.nil
      go_simp
      refine (HC1.out _).mono ?_
      rintro e w1 ⟨rfl, hb0⟩
      rw [htx]
      have hb1 : Below wr.heap.size wr w1 := (Below.refl _ _).drew.trans hb0
      have c0' : w1.cell? ⟨g, j * 4, none⟩ = some (.string tx) := (hb1.cell (p := ⟨g, j * 4, none⟩) hglt).trans c0
      refine hK.out _ _ c0' (fun hHeld => ?_)
      clear hK K
      refine tk (i := 7) (v := .bool false) rfl (Or.inl ⟨by kernel_rfl, ?hy8⟩) ?ty8
      case hy8 => (intro w hSw; go_simp; first | (simp; done) | (all_goals with_reducible rfl))
      simp only [Act.put, J1, J2, J3, J4, J5, J6]
      refine wpAnyH_done (by kernel_rfl) ?_ _
      have hbel1 := hbel.trans (hb1.mono hbel.size)
      have d1 := (hb1.cell (p := ⟨g, j * 4 + 1, none⟩) hglt).trans c1
      have d2 := (hb1.cell (p := ⟨g, j * 4 + 2, none⟩) hglt).trans c2
      have d3 := (hb1.cell (p := ⟨g, j * 4 + 3, none⟩) hglt).trans c3
      have hMd : HM w1 xs[j].s (mkMs xs[j].ms (kk + 3)) := by
        have := (HHX.out.below hbel1 (Nat.le_refl _)).2 (mkXs xs k)[j] (List.getElem_mem (by omega))
        rw [hgd] at this
        exact this
      have HC := heldMessageS_ow xs[j].s xs[j].ms (kk + 3) w1 hMd (by omega) hbl'.1 hbl'.2
      have hkn : kk + 3 + mkK xs[j].ms = k + mkKx (xs.take (j + 1)) := by rw [hT.1, hmN]; omega
      have hpos : ¬ ((k + mkKx (xs.take (j + 1)) : Nat) : Int) < 0 := by omega
      clear hHeld hb0 hb1 c0 c1 c2 c3 c0' hMd HC1 HHX
      go_wp2_with fail
      rw [show (kk : Int) + 1 + 1 + 1 = ((kk + 3 : Nat) : Int) by omega]
      refine HC.mono ?_
      rintro e w4 ⟨rfl, rfl⟩
      clear HC
      rw [hkn]
      go_wp2
      go_roundw
      case rel => exact ⟨j + 1, by omega, by go_num, by have h1 := HT.out j hjn; rw [h1.1, hmN]; simp, hbel1⟩
      case measure => simp [intOf]; omega
    · have hji : ¬ (j : Int) < (xs.length : Int) := by omega
      obtain rfl : j = xs.length := by omega
      rw [List.take_length]
      go_wp2
      go_ret
      exact ⟨rfl, hbel⟩
end Go.Proofs.YtejbbnpgghpgaaaGreatDoor

namespace Go.Proofs.YtejbbnpgghpgaaaGreatDoor
open Go.RowKit

theorem infoBI : (Tryz.prog.info? 2).map (fun i => (i.zero, i.size, i.bytes)) = some (some (.int .i64 0), 1, 8) := by kernel_rfl

set_option maxHeartbeats 800000 in
set_option maxRecDepth 100000 in
theorem toInt64S_any (a : Option Addr) (n cap : Nat) (l : List Int) (w : World) (hl : l.length = n) (hr : RdI w a l) (hn : n ≤ 1048576) :
    Calls Tryz.prog 60 #[.slice a n cap] w fun e w' =>
      e = .returned (.slice (some ⟨w.heap.size, 0, none⟩) n n) ∧ w'.ownsRow w.heap.size 2 1 (.slice (some ⟨w.heap.size, 0, none⟩) n n) n (ic l) ∧ Below w.heap.size w w' := by
  obtain ⟨i0, hi, hz0, hz1, hz2⟩ := info_parts infoBI
  go_enter Tryz.func60, Tryz.ntmps60
  go_wp2_with (at_make; refine wpList_make_full _ rfl _ _ 25 rfl w.heap.size 2 i0 (.int .i64 0) 1 Tryz.underlying25 hi hz0 hz1 .i64 .i64 _ _ n rfl rfl rfl rfl (by rw [hz2]; omega) (by unfold maxLen; omega) (Nat.le_refl _) ?_; intro w0 hown0 hgrow0)
  rw [made_bytesI, ← hl, ← halfI_zero l, hl] at hown0
  have hbel0 : Below w.heap.size w w0 := (Below.refl _ _).grown hgrow0 (Nat.le_refl _) (by intro k hk; cases hk)
  clear hgrow0
  go_loopw [4] (fun i wr => ∃ k : Nat, k ≤ n ∧ i = .int .i64 k ∧ wr.ownsRow w.heap.size 2 1 (.slice (some ⟨w.heap.size, 0, none⟩) n n) n (ic (halfI l k)) ∧ Below w.heap.size w wr)
    (fun i _ => n - (intOf i).toNat)
  case atStart => exact ⟨0, Nat.zero_le _, rfl, hown0, hbel0⟩
  case round =>
    obtain ⟨k, hk, rfl, hown, hbel⟩ := hrel
    clear hown0 hbel0
    by_cases hkn : k < n
    · obtain ⟨b, off, rfl, hblt, hcell⟩ := hr.at_ (by omega)
      have hc : wr.cell? ⟨b, off + k, none⟩ = some (.int .i64 (nthI l k)) := (hbel.cell (p := ⟨b, off + k, none⟩) hblt).trans (hcell k (by omega))
      have hk' : k < (halfI l k).length := by rw [halfI_len l k (by omega)]; omega
      have hg : wr.cell? ⟨w.heap.size, k, none⟩ = some (.int .i64 (nthI (halfI l k) k)) := by rw [hown.cellAt k (by omega)]; exact ic_get hk'
      have hf := hown.frozenAt k
      obtain ⟨hst, hgr⟩ := hown.stored k (.int .i64 (nthI l k))
      rw [halfI_set l k (by omega)] at hst
      have hbel' : Below w.heap.size w (wr.setCell ⟨w.heap.size, k, none⟩ (.int .i64 (nthI l k))) := hbel.grown hgr hbel.size (by intro j hj; simp at hj; omega)
      clear hgr hcell hown
      go_wp2
      go_roundw
      case rel => exact ⟨k + 1, by omega, by go_num, hst, hbel'⟩
      case measure => simp [intOf]; omega
    · have hkk : k = n := by omega
      subst hkk
      rw [← hl, halfI_all, hl] at hown
      go_wp2
      go_ret
      exact ⟨rfl, hown, hbel⟩

set_option maxHeartbeats 800000 in
set_option maxRecDepth 100000 in
theorem eqInt64S_same (a c : Option Addr) (n cap cap' : Nat) (l : List Int) (w : World) (hl : l.length = n) (hr : RdI w a l) (hs : RdI w c l) (hn : n ≤ 1048576) :
    Calls Tryz.prog 66 #[.slice a n cap, .slice c n cap'] w fun e w' => e = .returned (.bool true) ∧ Below w.heap.size w w' := by
  go_enter Tryz.func66, Tryz.ntmps66
  go_wp2
  go_loopw [5] (fun i wr => ∃ k : Nat, k ≤ n ∧ i = .int .i64 k ∧ Below w.heap.size w wr) (fun i _ => n - (intOf i).toNat)
  case atStart => exact ⟨0, Nat.zero_le _, rfl, Below.refl _ _⟩
  case round =>
    obtain ⟨k, hk, rfl, hbel⟩ := hrel
    by_cases hkn : k < n
    · obtain ⟨b, off, rfl, hblt, hcell⟩ := hr.at_ (by omega)
      obtain ⟨d, off', rfl, hdlt, hdell⟩ := hs.at_ (by omega)
      have hc : wr.cell? ⟨b, off + k, none⟩ = some (.int .i64 (nthI l k)) := (hbel.cell (p := ⟨b, off + k, none⟩) hblt).trans (hcell k (by omega))
      have hd : wr.cell? ⟨d, off' + k, none⟩ = some (.int .i64 (nthI l k)) := (hbel.cell (p := ⟨d, off' + k, none⟩) hdlt).trans (hdell k (by omega))
      have hki : (k : Int) < (n : Int) := by omega
      clear hcell hdell hr hs
      go_wp2
      go_quiet (fail)
      go_wp2
      go_roundw
      case rel => exact ⟨k + 1, by omega, by go_num, below_drewN hbel _⟩
      case measure => simp [intOf]; omega
    · go_wp2
      go_ret
      exact ⟨rfl, hbel⟩
end Go.Proofs.YtejbbnpgghpgaaaGreatDoor

namespace Go.Proofs.YtejbbnpgghpgaaaGreatDoor
open Go.RowKit

/-- THE SLICE v IS THE CALL's OWN AND HOLDS THE BYTES l. -/
def OwnI (w : World) (B : Nat) (v : Value) (l : List Int) : Prop := w.ownsRow B 2 1 v l.length (ic l)

theorem OwnI.nil (w : World) (B : Nat) : OwnI w B (.slice none 0 0) [] := World.ownsRow_nil _ _ _ _
theorem OwnI.lit (w : World) (B : Nat) (hB : B ≤ w.heap.size) (cs : Array Value) (l : List Int) (h : cs.toList = ic l) (hl : l.length ≤ maxLen) : OwnI (w.alloc (.cells cs 2)) B (.slice (some ⟨w.heap.size, 0, none⟩) l.length l.length) l := by
  have := World.ownsRow_lit (base := B) (e := 2) (size := 1) w cs l.length hB hl (by rw [← Array.length_toList, h, ic_len]; omega)
  rw [h] at this
  exact this
theorem OwnI.alloc {w : World} {B : Nat} {v : Value} {l : List Int} (h : OwnI w B v l) (o : Obj) : OwnI (w.alloc o) B v l := World.ownsRow.alloc h o
theorem OwnI.drew {w : World} {B : Nat} {v : Value} {l : List Int} (h : OwnI w B v l) : OwnI w.drew B v l := h
theorem OwnI.below {w w' : World} {B C : Nat} {v : Value} {l : List Int} (h : OwnI w B v l) (hb : Below C w w') (hC : w.heap.size ≤ C) : OwnI w' B v l := by
  refine ⟨h.1, ?_⟩
  rcases h.2 with h' | ⟨g, cap, cur, h1, h2, h3, h4⟩
  · exact .inl h'
  · refine .inr ⟨g, cap, cur, h1, h2, ?_, h4⟩
    have hg : g < w.heap.size := by
      rcases Nat.lt_or_ge g w.heap.size with hlt | hge
      · exact hlt
      · simp [Array.getElem?_eq_none hge] at h3
    rw [hb.block g (by omega)]; exact h3
theorem OwnI.form {w : World} {B : Nat} {v : Value} {l : List Int} (h : OwnI w B v l) : ∃ a cap, v = .slice a l.length cap ∧ l.length ≤ cap ∧ cap ≤ maxLen := by
  rcases h.2 with ⟨h', h0⟩ | ⟨g, cap, cur, h', _, _, h4, h5, _⟩
  · exact ⟨none, 0, by rw [h', h0], by omega, by decide⟩
  · exact ⟨_, cap, h', h4, h5⟩
theorem OwnI.rd {w : World} {B n cap : Nat} {a : Option Addr} {l : List Int} (h : OwnI w B (.slice a n cap) l) : l.length = n ∧ RdI w a l := by
  have hf : l.length = n := by
    obtain ⟨a', c', e, _⟩ := h.form
    simp at e; omega
  subst hf
  exact ⟨rfl, RdI.own h⟩

end Go.Proofs.YtejbbnpgghpgaaaGreatDoor
