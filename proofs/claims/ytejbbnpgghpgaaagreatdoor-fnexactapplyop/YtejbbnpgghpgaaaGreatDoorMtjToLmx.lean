/- The laws' mark of a text; numbers from 1 to 4194304 · The laws' marks over mailboxes in memory of their own; numbers to 4194304; no conditions beyond those that each fact names. -/
import Derived.Test.YtejbbnpgghpgaaaGreatDoorJfzToMrk0
import Derived.Handy
import Derived.Below
import Derived.Test.YtejbbnpgghpgaaaGreatDoorStqToLmk
namespace Go.Proofs.YtejbbnpgghpgaaaGreatDoor
open Go.RowKit
set_option linter.unusedVariables false

theorem strL_plus (a b : List Nat) : str a ++ str b = str (a ++ b) := by
  apply ByteArray.ext
  rw [ByteArray.data_append]
  simp [str]
/-- The digits of a number ahead of a text. -/
def dgL (k : Nat) (out : List Nat) : List Nat := if _h : k = 0 then out else dgL (k / 10) ((48 + k % 10) :: out)
termination_by k
decreasing_by omega
theorem dgL_zero (out : List Nat) : dgL 0 out = out := by rw [dgL, dif_pos rfl]
theorem dgL_step {k : Nat} (h : k ≠ 0) (out : List Nat) : dgL k out = dgL (k / 10) ((48 + k % 10) :: out) := by rw [dgL, dif_neg h]
/-- The mark of a number from 1 on. -/
def mtL (k : Nat) : ByteArray := str (109 :: dgL k [])
set_option maxHeartbeats 800000 in
set_option maxRecDepth 100000 in
theorem markText_l (k : Nat) (w : World) (h1 : 1 ≤ k) (hk : k ≤ 4194304) : Calls Tryz.prog 75 #[.int .i64 (k : Int)] w fun e w' => e = .returned (.string (mtL k)) ∧ Below w.heap.size w w' := by
  have c1 : ¬ (k : Int) ≤ 0 := by omega
  go_enter Tryz.func75, Tryz.ntmps75
  go_wp2
  go_loopw [0, 3] (fun q v wr => ∃ (j : Nat) (out : List Nat), j + out.length ≤ k ∧ q = .int .i64 j ∧ v = .string (str out) ∧ dgL k [] = dgL j out ∧ Below w.heap.size w wr) (fun q _ _ => (intOf q).toNat)
  case atStart => exact ⟨k, [], Nat.le_refl _, rfl, rfl, rfl, Below.refl _ _⟩
  case round =>
    obtain ⟨j, out, hj, rfl, rfl, hd, hbel⟩ := hrel
    have hos : (str out).size = out.length := str_size out
    have hob : out.length ≤ 4194304 := by omega
    by_cases hj0 : j = 0
    · subst hj0
      rw [dgL_zero] at hd
      have HM : Hid (⟨#[109]⟩ ++ str out = mtL k) := by
        show _ = _
        unfold mtL; rw [hd]
        exact strL_plus [109] out
      clear hd
      generalize hL : out.length = L at *
      clear hL
      generalize str out = so at *
      go_wp2
      go_ret
      exact ⟨by rw [← HM.out]; rfl, hbel⟩
    · have hjp : (0 : Int) < (j : Int) := by omega
      obtain ⟨r, hr⟩ : ∃ r, r = j % 10 := ⟨_, rfl⟩
      obtain ⟨p, hp⟩ : ∃ p, p = j / 10 := ⟨_, rfl⟩
      have hr10 : r < 10 := by omega
      have hpj : p < j := by omega
      have HD : Hid (dgL k [] = dgL p ((48 + r) :: out)) := by
        show _ = _
        rw [hd, dgL_step hj0, ← hr, ← hp]
      have hst := fun (c : Nat) => run_str (w := wr.alloc (.cells #[.int .u8 ((48 + r : Nat) : Int)] 5)) (a := some ⟨wr.heap.size, 0, none⟩) (n := 1) (cap := c) (l := [48 + r]) rfl (.inr ⟨wr.heap.size, 0, rfl, by simp, fun i hi => by
        have : i = 0 := by simp at hi; omega
        subst this; simp [nth]⟩)
      rw [show ((48 + r : Nat) : Int) = 48 + (r : Int) by omega] at hst
      have e1 : (j : Int) % 10 = (r : Int) := by omega
      have e2 : (j : Int) / 10 = (p : Int) := by omega
      have HP : Hid (str [48 + r] ++ str out = str ((48 + r) :: out)) := strL_plus [48 + r] out
      have hsr : (str [48 + r]).size = 1 := str_size _
      have HL : Hid (p + ((48 + r) :: out).length ≤ k) := by
        show _ ≤ _
        rw [List.length_cons]; omega
      have hb2 : Below w.heap.size w (wr.alloc (.cells #[.int .u8 (48 + (r : Int))] 5)) := hbel.alloc hbel.size _
      clear hd hr hp
      go_wp2
      go_roundw
      case rel => exact ⟨p, (48 + r) :: out, HL.out, rfl, by rw [HP.out], HD.out, hb2⟩
      case measure => simp [intOf]; omega


end Go.Proofs.YtejbbnpgghpgaaaGreatDoor

namespace Go.Proofs.YtejbbnpgghpgaaaGreatDoor
open Go.RowKit
set_option linter.unusedVariables false

/-- A mailbox, marked from k on. -/
def mkE (d : Dx) (k : Nat) : Dx := ⟨mtL k, (k : Int) + 1, (k : Int) + 1 + 1, d.s, mkMs d.ms (k + 3)⟩
def mkNx (d : Dx) : Nat := 3 + mkK d.ms
def mkXs : List Dx → Nat → List Dx
  | [], _ => []
  | d :: ds, k => mkE d k :: mkXs ds (k + mkNx d)
/-- How far the marks go. -/
def mkKx (ms : List Dx) : Nat := (ms.map mkNx).sum
theorem mkXs_len : ∀ (ms : List Dx) (k : Nat), (mkXs ms k).length = ms.length
  | [], _ => rfl
  | d :: ds, k => by simp [mkXs, mkXs_len ds]
theorem mkXs_app : ∀ (a b : List Dx) (k : Nat), mkXs (a ++ b) k = mkXs a k ++ mkXs b (k + mkKx a)
  | [], b, k => by simp [mkXs, mkKx]
  | d :: a, b, k => by
    have := mkXs_app a b (k + mkNx d)
    simp only [List.cons_append, mkXs, this]
    rw [show k + mkNx d + mkKx a = k + mkKx (d :: a) by simp [mkKx]; omega]
theorem mkKx_app (a b : List Dx) : mkKx (a ++ b) = mkKx a + mkKx b := by simp [mkKx]
theorem mkKx_one (d : Dx) : mkKx [d] = mkNx d := by simp [mkKx]
theorem fp_mkXs : ∀ (ms : List Dx) (k : Nat), fpX (mkXs ms k) = fpX ms
  | [], _ => rfl
  | d :: ds, k => by
    have := fp_mkXs ds (k + mkNx d)
    unfold fpX at this ⊢
    simp only [mkXs, List.flatMap_cons, this]
    rw [show fpD (mkE d k) = fpD d by unfold fpD mkE; dsimp only; rw [fp_mkMs]]
/-- The first j are marked. -/
def mkHx (ms : List Dx) (k j : Nat) : List Dx := mkXs (ms.take j) k ++ ms.drop j
theorem mkHx_zero (ms : List Dx) (k : Nat) : mkHx ms k 0 = ms := by simp [mkHx, mkXs]
theorem mkHx_all (ms : List Dx) (k : Nat) : mkHx ms k ms.length = mkXs ms k := by simp [mkHx]
theorem mkHx_len (ms : List Dx) (k j : Nat) (h : j ≤ ms.length) : (mkHx ms k j).length = ms.length := by simp [mkHx, mkXs_len]; omega
theorem mkHx_fp (ms : List Dx) (k j : Nat) : fpX (mkHx ms k j) = fpX ms := by
  unfold mkHx
  have h1 := fp_mkXs (ms.take j) k
  unfold fpX at h1 ⊢
  rw [List.flatMap_append, h1, ← List.flatMap_append, List.take_append_drop]
theorem mkHx_get {ms : List Dx} {k j : Nat} (h : j < ms.length) (h' : j < (mkHx ms k j).length) : (mkHx ms k j)[j] = ms[j] := by
  have hl : (mkXs (ms.take j) k).length = j := by rw [mkXs_len, List.length_take]; omega
  have e : (mkHx ms k j)[j]? = some ms[j] := by
    unfold mkHx
    rw [List.getElem?_append_right (by omega), hl, Nat.sub_self, List.getElem?_drop]
    simp [h]
  exact (List.getElem?_eq_some_iff.1 e).2
theorem mkHx_set {ms : List Dx} {k j : Nat} (h : j < ms.length) : (mkHx ms k j).set j (mkE ms[j] (k + mkKx (ms.take j))) = mkHx ms k (j + 1) := by
  unfold mkHx
  have hl : (mkXs (ms.take j) k).length = j := by rw [mkXs_len, List.length_take]; omega
  rw [List.set_append, if_neg (by omega), hl, Nat.sub_self, List.drop_eq_getElem_cons h, List.set_cons_zero, List.take_succ_eq_append_getElem h, mkXs_app, List.append_assoc]
  rfl
theorem mkKx_take {ms : List Dx} {j : Nat} (h : j < ms.length) : mkKx (ms.take (j + 1)) = mkKx (ms.take j) + mkNx ms[j] := by
  rw [List.take_succ_eq_append_getElem h, mkKx_app, mkKx_one]
theorem mkKx_le (ms : List Dx) (j : Nat) : mkKx (ms.take j) ≤ mkKx ms := by
  have := mkKx_app (ms.take j) (ms.drop j)
  rw [List.take_append_drop] at this
  omega


set_option maxHeartbeats 3200000 in
set_option maxRecDepth 100000 in
/-- MAILBOXES ARE MARKED. -/
theorem markBoxS_ow (s : SlQ) (xs : List Dx) (k : Nat) (w : World) (h : HX w s xs) (hnd : (blkS s ++ fpX xs).Nodup) (hk1 : 1 ≤ k) (hsz : k + mkKx xs ≤ 4194304) (hbl : ∀ d ∈ xs, (∀ e ∈ d.ms, e.m.b.length ≤ 1048576) ∧ d.ms.length ≤ 1048576) (hml : xs.length ≤ 1048576) :
    Calls Tryz.prog 69 #[slW s, .int .i64 (k : Int)] w fun e w' => e = .returned (.int .i64 ((k + mkKx xs : Nat) : Int)) ∧ HX w' s (mkXs xs k) ∧ Kx (blkS s ++ fpX xs) w w' := by
  obtain ⟨s', hs', hsl, hsc, hsm, hsa⟩ := row_form h.1
  obtain rfl : s = s' := by
    obtain ⟨a, n, c⟩ := s
    obtain ⟨a', n', c'⟩ := s'
    simp only [slW, Value.slice.injEq] at hs'
    obtain ⟨rfl, rfl, rfl⟩ := hs'
    rfl
  clear hs'
  obtain ⟨a, n, cap⟩ := s
  dsimp only at hsl hsc hsm hsa
  subst hsl
  have hcap : cap ≤ 2 ^ 63 - 1 := by unfold maxLen at hsm; exact hsm
  have HT : Hid (∀ j (hj : j < xs.length), mkKx (xs.take (j + 1)) = mkKx (xs.take j) + mkNx xs[j] ∧ k + mkKx (xs.take (j + 1)) ≤ 4194304) := fun j hj => ⟨mkKx_take hj, by have := mkKx_le xs (j + 1); omega⟩
  unfold slW
  go_enter Tryz.func69, Tryz.ntmps69
  go_wp2
  go_loopw [1, 5] (fun q i wr => ∃ j : Nat, j ≤ xs.length ∧ i = .int .i64 j ∧ q = .int .i64 ((k + mkKx (xs.take j) : Nat) : Int) ∧ HX wr (a, xs.length, cap) (mkHx xs k j) ∧ Kx (blkS (a, xs.length, cap) ++ fpX xs) w wr)
    (fun _ i _ => xs.length - (intOf i).toNat)
  case atStart => exact ⟨0, Nat.zero_le _, rfl, by simp [mkKx], by rw [mkHx_zero]; exact h, Kx.refl _ _⟩
  case round =>
    obtain ⟨j, hj, rfl, rfl, hH0, hK0⟩ := hrel
    by_cases hjn : j < xs.length
    · have hji : (j : Int) < (xs.length : Int) := by omega
      obtain ⟨g, rfl⟩ : ∃ g, a = some ⟨g, 0, none⟩ := by
        rcases hsa with ⟨-, h0⟩ | h
        · omega
        · exact h
      have hhl : (mkHx xs k j).length = xs.length := mkHx_len _ _ _ hj
      have hgd := mkHx_get (k := k) hjn (by omega)
      have hT := HT.out j hjn
      obtain ⟨kk, hkk⟩ : ∃ kk, k + mkKx (xs.take j) = kk := ⟨_, rfl⟩
      have hkk' : (k : Int) + (mkKx (xs.take j) : Int) = (kk : Int) := by omega
      have hkb : kk + (3 + mkK xs[j].ms) ≤ 4194304 := by have h1 := hT.2; rw [hT.1] at h1; unfold mkNx at h1; omega
      rw [hkk]
      have HC1 := markText_l kk wr (by omega) (by omega)
      go_wp2_with fail
      refine HC1.mono ?_
      rintro e w1 ⟨rfl, hb1⟩
      have hH := hH0.below hb1 (Nat.le_refl _)
      have hK := hK0.below hb1
      clear hH0 hK0 hb1 HC1
      have hrow := hH.1
      rw [hhl] at hrow
      have hql : j < ((mkHx xs k j).map Dx.q).length := by rw [List.length_map]; omega
      have hnq : nthQ ((mkHx xs k j).map Dx.q) j = xs[j].q := by rw [map_nthQ (by omega), hgd]
      obtain ⟨hglt, c0, c1, c2, c3⟩ := ownQ_cells hrow j hql
      rw [hnq] at c0 c1 c2 c3
      have f0 := hrow.frozenAt (j * 4)
      have f1 := hrow.frozenAt (j * 4 + 1)
      have f2 := hrow.frozenAt (j * 4 + 2)
      obtain ⟨tx, htx⟩ : ∃ tx, mtL kk = tx := ⟨_, rfl⟩
      rw [htx]
      obtain ⟨t0, -⟩ := hrow.stored (j * 4) (.string tx)
      obtain ⟨t1, -⟩ := t0.stored (j * 4 + 1) (.int .i64 ((kk : Int) + 1))
      obtain ⟨t2, -⟩ := t1.stored (j * 4 + 2) (.int .i64 ((kk : Int) + 1 + 1))
      rw [qc_set3s hql, hnq] at t2
      have hdm : xs[j] ∈ xs := List.getElem_mem hjn
      have hMd : HM w1 xs[j].s xs[j].ms := by
        have := hH.2 (mkHx xs k j)[j] (List.getElem_mem (by omega))
        rwa [hgd] at this
      have hgs : g ∈ blkS ((some ⟨g, 0, none⟩, xs.length, cap) : SlQ) := by simp [blkS]
      have hgn : g ∉ fpX xs := nd_off hnd hgs
      have hdfp : ∀ g' ∈ blkS xs[j].s ++ fpM xs[j].ms, g' ∈ fpX xs := fun g' hg' => mem_flat_get (f := fpD) hjn hg'
      obtain ⟨W3, hW3⟩ : ∃ W, ((w1.setCell ⟨g, j * 4, none⟩ (.string tx)).setCell ⟨g, j * 4 + 1, none⟩ (.int .i64 ((kk : Int) + 1))).setCell ⟨g, j * 4 + 2, none⟩ (.int .i64 ((kk : Int) + 1 + 1)) = W := ⟨_, rfl⟩
      have hb3 : ∀ g', g' ≠ g → W3.heap[g']? = w1.heap[g']? := fun g' hne => by
        rw [← hW3, Below.heap_setCell _ _ _ _ hne, Below.heap_setCell _ _ _ _ hne, Below.heap_setCell _ _ _ _ hne]
      have hK3 : Kx (blkS ((some ⟨g, 0, none⟩, xs.length, cap) : SlQ) ++ fpX xs) w W3 := by
        rw [← hW3]
        exact ((hK.set g _ _ (.inl (List.mem_append_left _ hgs))).set g _ _ (.inl (List.mem_append_left _ hgs))).set g _ _ (.inl (List.mem_append_left _ hgs))
      have hM3 : HM W3 xs[j].s xs[j].ms := hMd.keep fun g' hg' => hb3 g' (fun e => hgn (e ▸ hdfp g' hg'))
      have hc3 : W3.cell? ⟨g, j * 4 + 3, none⟩ = some (slW xs[j].s) := by
        rw [← hW3, World.cell?_setCell_other _ _ _ _ (by simp), World.cell?_setCell_other _ _ _ _ (by simp), World.cell?_setCell_other _ _ _ _ (by simp)]
        exact c3
      have hbl' := hbl _ hdm
      have hmnd : (blkS xs[j].s ++ fpM xs[j].ms).Nodup := by
        have := nd_right hnd
        unfold fpX at this
        rw [flat_split fpD xs j hjn] at this
        exact nd_left (nd_right this)
      have HC := markMessageS_ow xs[j].s xs[j].ms (kk + 3) W3 hM3 hmnd (by omega) hbl'.1 hbl'.2
      have HE : Hid (_) := And.intro t2 (And.intro hH (And.intro hb3 hK3))
      rw [hW3] at HE
      clear t0 t1 t2 hH hb3 hK3 hMd hrow hK
      dsimp only [Dx.q] at c0 c1 c2
      go_wp2_with fail
      rw [show (kk : Int) + 1 + 1 + 1 = ((kk + 3 : Nat) : Int) by omega]
      refine HC.mono ?_
      rintro e w4 ⟨rfl, hM4, hk4⟩
      obtain ⟨t2, hH, hb3, hK3⟩ := HE.out
      have hrow4 := row_keep t2 (w' := w4) fun g' hg' => hk4.block g' (t2.lt g' hg').2 (fun e => by
        have e1 : g' = g := by simpa [Value.ownBlock] using hg'.symm
        subst e1
        exact hgn (hdfp g' e))
      have hK4 : Kx (blkS ((some ⟨g, 0, none⟩, xs.length, cap) : SlQ) ++ fpX xs) w w4 := hK3.trans hk4 fun g' hg' => .inl (List.mem_append_right _ (hdfp g' hg'))
      have hfn : ((mkHx xs k j).flatMap fpD).Nodup := by
        have := mkHx_fp xs k j
        unfold fpX at this
        rw [this]
        exact nd_right hnd
      have hH4 : HX w4 (some ⟨g, 0, none⟩, xs.length, cap) (mkHx xs k (j + 1)) := by
        rw [← mkHx_set (k := k) hjn, hkk]
        refine hH.upd j _ (by rw [hhl]; unfold mkE; rw [htx]; exact hrow4) hM4 ?_
        intro i hi hne g' hg'
        have hgf : g' ∈ fpX xs := by
          have := mem_flat_get (f := fpD) hi hg'
          have e := mkHx_fp xs k j
          unfold fpX at e ⊢
          rw [e] at this
          exact this
        have hgne : g' ≠ g := fun e => hgn (e ▸ hgf)
        have hnot := nd_other (f := fpD) hfn (i := j) (j := i) (by omega) hi hne hg'
        rw [hgd] at hnot
        have hlt : g' < W3.heap.size := by
          have h1 := hH.lt g' (List.mem_append_right _ (mem_flat_get (f := fpD) hi hg'))
          have h2 : w1.heap[g']? ≠ none := by simp [Array.getElem?_eq_getElem h1]
          rw [← hb3 g' hgne] at h2
          rcases Nat.lt_or_ge g' W3.heap.size with h3 | h3
          · exact h3
          · exact absurd (Array.getElem?_eq_none h3) h2
        rw [hk4.block g' hlt hnot, hb3 g' hgne]
      have hkn : kk + 3 + mkK xs[j].ms = k + mkKx (xs.take (j + 1)) := by rw [hT.1]; unfold mkNx; omega
      have HF : Hid (_) := And.intro hH4 hK4
      clear hH4 hK4 hK3 hb3 hH t2 hrow4 hk4 hM4 HE HC
      rw [hkn]
      go_wp2
      go_roundw
      case rel => exact ⟨j + 1, by omega, by go_num, by have h1 := HT.out j hjn; rw [h1.1]; rfl, HF.out.1, HF.out.2⟩
      case measure => simp [intOf]; omega
    · have hji : ¬ (j : Int) < (xs.length : Int) := by omega
      obtain rfl : j = xs.length := by omega
      rw [mkHx_all] at hH0
      rw [List.take_length]
      have HF : Hid (_) := And.intro hH0 hK0
      clear hH0 hK0
      go_wp2
      go_ret
      exact ⟨rfl, HF.out.1, HF.out.2⟩
end Go.Proofs.YtejbbnpgghpgaaaGreatDoor
