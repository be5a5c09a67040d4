/- The laws' marks over messages in memory of their own; numbers to 4194304; no conditions beyond those that each fact names · The laws' mark of a text; numbers from 1 to 4194304 · The laws' marks over mailboxes in memory of their own; numbers to 4194304; no conditions beyond those that each fact names. -/
import Derived.Test.YtejbbnpgghpgaaaGreatDoorAlaToMrk
import Derived.Test.YtejbbnpgghpgaaaGreatDoorStqToStu
import Derived.Test.YtejbbnpgghpgaaaGreatDoorJfzToMrk0
import Derived.Handy
import Derived.Below
namespace Go.Proofs.YtejbbnpgghpgaaaGreatDoor
open Go.RowKit
set_option linter.unusedVariables false
set_option maxHeartbeats 1600000 in
set_option maxRecDepth 100000 in
theorem markByteS_l (a : Option Addr) (n cap k B : Nat) (l : List Nat) (w : World) (hown : Own w B (.slice a n cap) l) (hn : n ≤ 1048576) (hk : k ≤ 8388608) :
    Calls Tryz.prog 71 #[.slice a n cap, .int .i64 (k : Int)] w fun e w' =>
      e = .returned (.int .i64 ((k + n : Nat) : Int)) ∧ Own w' B (.slice a n cap) (marks n k) ∧ w.grownBy w' (Value.slice a n cap).ownBlock := by
  obtain ⟨hl, hr⟩ := hown.rd
  go_enter Tryz.func71, Tryz.ntmps71
  go_wp2
  go_loopw [1, 5] (fun q i wr => ∃ j : Nat, j ≤ n ∧ i = .int .i64 j ∧ q = .int .i64 ((k + j : Nat) : Int) ∧ Own wr B (.slice a n cap) (mhalf l k j) ∧ w.grownBy wr (Value.slice a n cap).ownBlock)
    (fun _ i _ => n - (intOf i).toNat)
  case atStart => exact ⟨0, Nat.zero_le _, rfl, rfl, by rw [mhalf_zero]; exact hown, World.grownBy.refl _ _⟩
  case round =>
    obtain ⟨j, hj, rfl, rfl, hown', hgr⟩ := hrel
    clear hown
    by_cases hjn : j < n
    · obtain ⟨g, off, ha, _, hcell⟩ := hown'.rd.2.at_ (by rw [mhalf_len _ _ _ (by omega)]; omega)
      obtain ⟨ad, hform⟩ : ∃ g', a = some ⟨g', 0, none⟩ := by
        rcases hown'.2 with ⟨h0, h1⟩ | ⟨g', cap', cur, h', _⟩
        · rw [mhalf_len _ _ _ (by omega)] at h1; omega
        · simp at h'; exact ⟨g', h'.1⟩
      rw [ha] at hform
      obtain ⟨rfl, rfl⟩ : g = ad ∧ off = 0 := by simpa using hform
      subst ha
      have hlen : (mhalf l k j).length = n := by rw [mhalf_len _ _ _ (by omega)]; exact hl
      have ho2 : wr.ownsRow B 5 1 (.slice (some ⟨g, 0, none⟩) n cap) n (bc (mhalf l k j)) := by have := hown'; unfold Own at this; rw [hlen] at this; exact this
      have hc : wr.cell? ⟨g, j, none⟩ = some (.int .u8 (nth (mhalf l k j) j : Int)) := by have := hcell j (by omega); rw [Nat.zero_add] at this; exact this
      have hf := ho2.frozenAt j
      obtain ⟨hst, hgr2⟩ := ho2.stored j (.int .u8 (((k + j) % 256 : Nat) : Int))
      rw [mhalf_set l k j (by omega)] at hst
      have HO : Hid (Own (wr.setCell ⟨g, j, none⟩ (.int .u8 (((k + j) % 256 : Nat) : Int))) B (.slice (some ⟨g, 0, none⟩) n cap) (mhalf l k (j + 1))) := by
        show Own _ _ _ _
        unfold Own
        rw [mhalf_len _ _ _ (by omega), hl]; exact hst
      have hgr3 : w.grownBy (wr.setCell ⟨g, j, none⟩ (.int .u8 (((k + j) % 256 : Nat) : Int))) (some g) := ⟨hgr2.os.trans hgr.os, hgr2.tape.trans hgr.tape, hgr2.output.trans hgr.output, Nat.le_trans hgr.size hgr2.size, fun b hb hne => (hgr2.block b (Nat.lt_of_lt_of_le hb hgr.size) hne).trans (hgr.block b hb hne)⟩
      obtain ⟨q, hq⟩ : ∃ q, q = (k + j) % 256 := ⟨_, rfl⟩
      rw [← hq] at HO hgr3
      have e1 : ((k : Int) + (j : Int)) % 256 = (q : Int) := by omega
      clear hst hgr2 ho2 hcell hown' hgr hform hq hr
      go_wp2
      go_roundw
      case rel => exact ⟨j + 1, by omega, by go_num, by go_num, HO.out, hgr3⟩
      case measure => simp [intOf]; omega
    · have hjj : j = n := by omega
      subst hjj
      rw [← hl, mhalf_all, hl] at hown'
      go_wp2
      go_ret
      exact ⟨rfl, hown', hgr⟩
set_option maxHeartbeats 800000 in
set_option maxRecDepth 100000 in
theorem heldByteS_l (a : Option Addr) (n cap k : Nat) (w : World) (hr : Rd w a (marks n k)) (hn : n ≤ 1048576) (hk : k ≤ 4194304) :
    Calls Tryz.prog 139 #[.slice a n cap, .int .i64 (k : Int)] w fun e w' => e = .returned (.int .i64 ((k + n : Nat) : Int)) ∧ w = w' := by
  go_enter Tryz.func139, Tryz.ntmps139
  go_wp2
  go_loop [1, 5] (fun q i => ∃ j : Nat, j ≤ n ∧ i = .int .i64 j ∧ q = .int .i64 ((k + j : Nat) : Int)) (fun _ i => n - (intOf i).toNat)
  case atStart => exact ⟨0, Nat.zero_le _, rfl, rfl⟩
  case round =>
    obtain ⟨j, hj, rfl, rfl⟩ := hrel
    by_cases hjn : j < n
    · obtain ⟨b, off, rfl, hblt, hcell⟩ := hr.at_ (by rw [marks_len]; omega)
      have hc := hcell j (by rw [marks_len]; exact hjn)
      rw [marks_nth hjn] at hc
      obtain ⟨q, hq⟩ : ∃ q, q = (k + j) % 256 := ⟨_, rfl⟩
      rw [← hq] at hc
      have e1 : ((k : Int) + (j : Int)) % 256 = (q : Int) := by omega
      clear hcell hq hr
      go_wp2
      go_round
      case rel => exact ⟨j + 1, by omega, by go_num, by go_num⟩
      case measure => simp [intOf]; omega
    · have hjj : j = n := by omega
      subst hjj
      go_wp2
      go_ret
      exact ⟨rfl, rfl⟩
theorem marks_isB (n k : Nat) : IsB (marks n k) := by
  intro x hx
  simp only [marks, List.mem_map] at hx
  obtain ⟨i, -, rfl⟩ := hx
  omega
def mkD (d : Dm) (k : Nat) : Dm := ⟨⟨(k : Int), (k : Int) + 1, (k : Int) + 1 + 1, marks d.m.b.length (k + 3)⟩, d.s⟩
def mkN (d : Dm) : Nat := 3 + d.m.b.length
def mkMs : List Dm → Nat → List Dm
  | [], _ => []
  | d :: ds, k => mkD d k :: mkMs ds (k + mkN d)
def mkK (ms : List Dm) : Nat := (ms.map mkN).sum
theorem mkMs_len : ∀ (ms : List Dm) (k : Nat), (mkMs ms k).length = ms.length
  | [], _ => rfl
  | d :: ds, k => by simp [mkMs, mkMs_len ds]
theorem mkMs_app : ∀ (a b : List Dm) (k : Nat), mkMs (a ++ b) k = mkMs a k ++ mkMs b (k + mkK a)
  | [], b, k => by simp [mkMs, mkK]
  | d :: a, b, k => by
    have := mkMs_app a b (k + mkN d)
    simp only [List.cons_append, mkMs, this]
    rw [show k + mkN d + mkK a = k + mkK (d :: a) by simp [mkK]; omega]
theorem mkK_app (a b : List Dm) : mkK (a ++ b) = mkK a + mkK b := by simp [mkK]
theorem mkK_one (d : Dm) : mkK [d] = mkN d := by simp [mkK]
theorem fp_mkMs : ∀ (ms : List Dm) (k : Nat), fpM (mkMs ms k) = fpM ms
  | [], _ => rfl
  | d :: ds, k => by
    have := fp_mkMs ds (k + mkN d)
    unfold fpM at this ⊢
    simp only [mkMs, List.flatMap_cons, this]
    rfl
def mkH (ms : List Dm) (k j : Nat) : List Dm := mkMs (ms.take j) k ++ ms.drop j
theorem mkH_zero (ms : List Dm) (k : Nat) : mkH ms k 0 = ms := by simp [mkH, mkMs]
theorem mkH_all (ms : List Dm) (k : Nat) : mkH ms k ms.length = mkMs ms k := by simp [mkH]
theorem mkH_len (ms : List Dm) (k j : Nat) (h : j ≤ ms.length) : (mkH ms k j).length = ms.length := by simp [mkH, mkMs_len]; omega
theorem mkH_fp (ms : List Dm) (k j : Nat) : fpM (mkH ms k j) = fpM ms := by
  unfold mkH
  have h1 := fp_mkMs (ms.take j) k
  unfold fpM at h1 ⊢
  rw [List.flatMap_append, h1, ← List.flatMap_append, List.take_append_drop]
theorem mkH_get {ms : List Dm} {k j : Nat} (h : j < ms.length) (h' : j < (mkH ms k j).length) : (mkH ms k j)[j] = ms[j] := by
  have hl : (mkMs (ms.take j) k).length = j := by rw [mkMs_len, List.length_take]; omega
  have e : (mkH ms k j)[j]? = some ms[j] := by
    unfold mkH
    rw [List.getElem?_append_right (by omega), hl, Nat.sub_self, List.getElem?_drop]
    simp [h]
  exact (List.getElem?_eq_some_iff.1 e).2
theorem mkH_set {ms : List Dm} {k j : Nat} (h : j < ms.length) : (mkH ms k j).set j (mkD ms[j] (k + mkK (ms.take j))) = mkH ms k (j + 1) := by
  unfold mkH
  have hl : (mkMs (ms.take j) k).length = j := by rw [mkMs_len, List.length_take]; omega
  rw [List.set_append, if_neg (by omega), hl, Nat.sub_self, List.drop_eq_getElem_cons h, List.set_cons_zero, List.take_succ_eq_append_getElem h, mkMs_app, List.append_assoc]
  rfl
theorem mkK_take {ms : List Dm} {j : Nat} (h : j < ms.length) : mkK (ms.take (j + 1)) = mkK (ms.take j) + mkN ms[j] := by
  rw [List.take_succ_eq_append_getElem h, mkK_app, mkK_one]
theorem mkK_le (ms : List Dm) (j : Nat) : mkK (ms.take j) ≤ mkK ms := by
  have := mkK_app (ms.take j) (ms.drop j)
  rw [List.take_append_drop] at this
  omega
theorem nthQ_set_same {l : List Qd} {k : Nat} (h : k < l.length) (p : Qd) : nthQ (l.set k p) k = p := by
  rw [nthQ_get (by rw [List.length_set]; exact h), List.getElem_set_self]
theorem qc_set3s {l : List Qd} {k : Nat} (h : k < l.length) (a b c : Value) : ((((qc l).set (k * 4) a).set (k * 4 + 1) b).set (k * 4 + 2) c) = qc (l.set k (a, b, c, (nthQ l k).2.2.2)) := by
  rw [qc_set0 l k a h, qc_set1 _ k b (by rw [List.length_set]; exact h), nthQ_set_same h, List.set_set, qc_set2 _ k c (by rw [List.length_set]; exact h), nthQ_set_same h, List.set_set]
set_option maxHeartbeats 3200000 in
set_option maxRecDepth 100000 in
theorem markMessageS_ow (s : SlQ) (ms : List Dm) (k : Nat) (w : World) (h : HM w s ms) (hnd : (blkS s ++ fpM ms).Nodup) (hsz : k + mkK ms ≤ 4194304) (hbl : ∀ d ∈ ms, d.m.b.length ≤ 1048576) (hml : ms.length ≤ 1048576) :
    Calls Tryz.prog 128 #[slW s, .int .i64 (k : Int)] w fun e w' => e = .returned (.int .i64 ((k + mkK ms : Nat) : Int)) ∧ HM w' s (mkMs ms k) ∧ Kx (blkS s ++ fpM ms) w w' := by
  obtain ⟨s', hs', hsl, hsc, hsm, hsa⟩ := row_form h.1
  obtain rfl : s = s' := by
    obtain ⟨a, n, c⟩ := s
    obtain ⟨a', n', c'⟩ := s'
    simp only [slW, Value.slice.injEq] at hs'
    obtain ⟨rfl, rfl, rfl⟩ := hs'
    rfl
  clear hs'
  obtain ⟨a, n, cap⟩ := s
  dsimp only at hsl hsc hsm hsa
  subst hsl
  have hcap : cap ≤ 2 ^ 63 - 1 := by unfold maxLen at hsm; exact hsm
  have HT : Hid (∀ j (hj : j < ms.length), mkK (ms.take (j + 1)) = mkK (ms.take j) + mkN ms[j] ∧ k + mkK (ms.take (j + 1)) ≤ 4194304) := fun j hj => ⟨mkK_take hj, by have := mkK_le ms (j + 1); omega⟩
  unfold slW
  go_enter Tryz.func128, Tryz.ntmps128
  go_wp2
  go_loopw [1, 5] (fun q i wr => ∃ j : Nat, j ≤ ms.length ∧ i = .int .i64 j ∧ q = .int .i64 ((k + mkK (ms.take j) : Nat) : Int) ∧ HM wr (a, ms.length, cap) (mkH ms k j) ∧ Kx (blkS (a, ms.length, cap) ++ fpM ms) w wr)
    (fun _ i _ => ms.length - (intOf i).toNat)
  case atStart => exact ⟨0, Nat.zero_le _, rfl, by simp [mkK], by rw [mkH_zero]; exact h, Kx.refl _ _⟩
  case round =>
    obtain ⟨j, hj, rfl, rfl, hH, hK⟩ := hrel
    by_cases hjn : j < ms.length
    · have hji : (j : Int) < (ms.length : Int) := by omega
      obtain ⟨g, rfl⟩ : ∃ g, a = some ⟨g, 0, none⟩ := by
        rcases hsa with ⟨-, h0⟩ | h
        · omega
        · exact h
      have hhl : (mkH ms k j).length = ms.length := mkH_len _ _ _ hj
      have hgd := mkH_get (k := k) hjn (by omega)
      have hrow := hH.1
      rw [hhl] at hrow
      have hql : j < ((mkH ms k j).map Dm.q).length := by rw [List.length_map]; omega
      have hnq : nthQ ((mkH ms k j).map Dm.q) j = ms[j].q := by rw [map_nthQ (by omega), hgd]
      obtain ⟨hglt, c0, c1, c2, c3⟩ := ownQ_cells hrow j hql
      rw [hnq] at c0 c1 c2 c3
      have f0 := hrow.frozenAt (j * 4)
      have f1 := hrow.frozenAt (j * 4 + 1)
      have f2 := hrow.frozenAt (j * 4 + 2)
      have hT := HT.out j hjn
      obtain ⟨kk, hkk⟩ : ∃ kk, k + mkK (ms.take j) = kk := ⟨_, rfl⟩
      have hkk' : (k : Int) + (mkK (ms.take j) : Int) = (kk : Int) := by omega
      rw [hkk]
      obtain ⟨t0, -⟩ := hrow.stored (j * 4) (.int .i64 (kk : Int))
      obtain ⟨t1, -⟩ := t0.stored (j * 4 + 1) (.int .i64 ((kk : Int) + 1))
      obtain ⟨t2, -⟩ := t1.stored (j * 4 + 2) (.int .i64 ((kk : Int) + 1 + 1))
      rw [qc_set3s hql, hnq] at t2
      have hdm : ms[j] ∈ ms := List.getElem_mem hjn
      have hOd : OwB wr ms[j].s ms[j].m.b := by
        have := hH.2 (mkH ms k j)[j] (List.getElem_mem (by omega))
        rwa [hgd] at this
      have hgs : g ∈ blkS ((some ⟨g, 0, none⟩, ms.length, cap) : SlQ) := by simp [blkS]
      have hgn : g ∉ fpM ms := nd_off hnd hgs
      have hdfp : ∀ g' ∈ blkS ms[j].s, g' ∈ fpM ms := fun g' hg' => mem_flat_get (f := fun d : Dm => blkS d.s) hjn hg'
      obtain ⟨W3, hW3⟩ : ∃ W, ((wr.setCell ⟨g, j * 4, none⟩ (.int .i64 (kk : Int))).setCell ⟨g, j * 4 + 1, none⟩ (.int .i64 ((kk : Int) + 1))).setCell ⟨g, j * 4 + 2, none⟩ (.int .i64 ((kk : Int) + 1 + 1)) = W := ⟨_, rfl⟩
      have hb3 : ∀ g', g' ≠ g → W3.heap[g']? = wr.heap[g']? := fun g' hne => by
        rw [← hW3, Below.heap_setCell _ _ _ _ hne, Below.heap_setCell _ _ _ _ hne, Below.heap_setCell _ _ _ _ hne]
      have hK3 : Kx (blkS ((some ⟨g, 0, none⟩, ms.length, cap) : SlQ) ++ fpM ms) w W3 := by
        rw [← hW3]
        exact ((hK.set g _ _ (.inl (List.mem_append_left _ hgs))).set g _ _ (.inl (List.mem_append_left _ hgs))).set g _ _ (.inl (List.mem_append_left _ hgs))
      have hO3 : OwB W3 ms[j].s ms[j].m.b := hOd.keep fun g' hg' => hb3 g' (fun e => hgn (e ▸ hdfp g' hg'))
      have hc3 : W3.cell? ⟨g, j * 4 + 3, none⟩ = some (slW ms[j].s) := by
        rw [← hW3, World.cell?_setCell_other _ _ _ _ (by simp), World.cell?_setCell_other _ _ _ _ (by simp), World.cell?_setCell_other _ _ _ _ (by simp)]
        exact c3
      have hbl' := hbl _ hdm
      obtain ⟨sd, hsd⟩ : ∃ sd, sd = ms[j].s := ⟨_, rfl⟩
      obtain ⟨db, hdb⟩ : ∃ db, db = ms[j].m.b := ⟨_, rfl⟩
      have hmN : mkN ms[j] = 3 + db.length := by unfold mkN; rw [hdb]
      rw [← hsd, ← hdb] at hO3
      rw [← hsd] at hc3
      rw [← hdb] at hbl'
      obtain ⟨da, dn, dc⟩ := sd
      have hdn : db.length = dn := hO3.1.rd.1
      have HC := markByteS_l da dn dc (kk + 3) 0 db W3 hO3.1 (by omega) (by omega)
      have HE : Hid (_) := And.intro t2 (And.intro hH (And.intro hb3 hK3))
      rw [hW3] at HE
      clear t0 t1 t2 hH hb3 hK3 hOd hrow hK
      have c3' : wr.cell? ⟨g, j * 4 + 3, none⟩ = some (.slice da dn dc) := by rw [c3]; show some (slW ms[j].s) = _; rw [← hsd]
      dsimp only [Dm.q, msQ] at c0 c1 c2
      clear c3
      go_wp2_with fail
      rw [show (kk : Int) + 1 + 1 + 1 = ((kk + 3 : Nat) : Int) by omega, show slW ms[j].s = .slice da dn dc by rw [← hsd]]
      refine HC.mono ?_
      rintro e w4 ⟨rfl, hO4, hg4⟩
      obtain ⟨t2, hH, hb3, hK3⟩ := HE.out
      have hgd4 : ∀ g', (Value.slice da dn dc).ownBlock = some g' → g' ∈ fpM ms := fun g' hg' => hdfp g' (by rw [← hsd]; exact mem_blkS.2 hg')
      have hrow4 := row_keep t2 (w' := w4) fun g' hg' => hg4.block g' (t2.lt g' hg').2 (fun e => by
        have e1 : g' = g := by simpa [Value.ownBlock] using hg'.symm
        subst e1
        exact hgn (hgd4 g' e.symm))
      have hK4 : Kx (blkS ((some ⟨g, 0, none⟩, ms.length, cap) : SlQ) ++ fpM ms) w w4 := hK3.grown hg4 fun g' hg' => .inl (List.mem_append_right _ (hgd4 g' hg'))
      have hfn : ((mkH ms k j).flatMap fun d : Dm => blkS d.s).Nodup := by
        have := mkH_fp ms k j
        unfold fpM at this
        rw [this]
        exact nd_right hnd
      have hH4 : HM w4 (some ⟨g, 0, none⟩, ms.length, cap) (mkH ms k (j + 1)) := by
        rw [← mkH_set (k := k) hjn, hkk]
        refine hH.upd j _ (by rw [hhl]; exact hrow4) ?_ ?_
        · refine ⟨?_, ?_⟩
          · show Own w4 0 (slW ms[j].s) (marks ms[j].m.b.length (kk + 3))
            rw [← hsd, ← hdb, hdn]
            exact hO4
          · exact marks_isB _ _
        · intro i hi hne g' hg'
          have hgf : g' ∈ fpM ms := by
            have := mem_flat_get (f := fun d : Dm => blkS d.s) hi hg'
            have e := mkH_fp ms k j
            unfold fpM at e ⊢
            rw [e] at this
            exact this
          have hgne : g' ≠ g := fun e => hgn (e ▸ hgf)
          have hnot := nd_other (f := fun d : Dm => blkS d.s) hfn (i := j) (j := i) (by omega) hi hne hg'
          rw [hgd] at hnot
          have hlt : g' < W3.heap.size := by
            have h1 := hH.lt g' (List.mem_append_right _ (mem_flat_get (f := fun d : Dm => blkS d.s) hi hg'))
            have h2 : wr.heap[g']? ≠ none := by simp [Array.getElem?_eq_getElem h1]
            rw [← hb3 g' hgne] at h2
            rcases Nat.lt_or_ge g' W3.heap.size with h3 | h3
            · exact h3
            · exact absurd (Array.getElem?_eq_none h3) h2
          rw [hg4.block g' hlt (fun e => hnot (by rw [← hsd]; exact mem_blkS.2 e.symm)), hb3 g' hgne]
      have hkn : kk + 3 + dn = k + mkK (ms.take (j + 1)) := by rw [hT.1, hmN]; omega
      have HF : Hid (_) := And.intro hH4 hK4
      clear hH4 hK4 hK3 hb3 hH t2 hrow4 hg4 hO4 HE HC
      rw [hkn]
      go_wp2
      go_roundw
      case rel => exact ⟨j + 1, by omega, by go_num, by have h1 := HT.out j hjn; rw [h1.1]; rfl, HF.out.1, HF.out.2⟩
      case measure => simp [intOf]; omega
    · have hji : ¬ (j : Int) < (ms.length : Int) := by omega
      obtain rfl : j = ms.length := by omega
      rw [mkH_all] at hH
      rw [List.take_length]
      have HF : Hid (_) := And.intro hH hK
      clear hH hK
      go_wp2
      go_ret
      exact ⟨rfl, HF.out.1, HF.out.2⟩
end Go.Proofs.YtejbbnpgghpgaaaGreatDoor
namespace Go.Proofs.YtejbbnpgghpgaaaGreatDoor
open Go.RowKit
set_option linter.unusedVariables false
theorem strL_plus (a b : List Nat) : str a ++ str b = str (a ++ b) := by
  apply ByteArray.ext
  rw [ByteArray.data_append]
  simp [str]
def dgL (k : Nat) (out : List Nat) : List Nat := if _h : k = 0 then out else dgL (k / 10) ((48 + k % 10) :: out)
termination_by k
decreasing_by omega
theorem dgL_zero (out : List Nat) : dgL 0 out = out := by rw [dgL, dif_pos rfl]
theorem dgL_step {k : Nat} (h : k ≠ 0) (out : List Nat) : dgL k out = dgL (k / 10) ((48 + k % 10) :: out) := by rw [dgL, dif_neg h]
def mtL (k : Nat) : ByteArray := str (109 :: dgL k [])
set_option maxHeartbeats 800000 in
set_option maxRecDepth 100000 in
theorem markText_l (k : Nat) (w : World) (h1 : 1 ≤ k) (hk : k ≤ 4194304) : Calls Tryz.prog 75 #[.int .i64 (k : Int)] w fun e w' => e = .returned (.string (mtL k)) ∧ Below w.heap.size w w' := by
  have c1 : ¬ (k : Int) ≤ 0 := by omega
  go_enter Tryz.func75, Tryz.ntmps75
  go_wp2
  go_loopw [0, 3] (fun q v wr => ∃ (j : Nat) (out : List Nat), j + out.length ≤ k ∧ q = .int .i64 j ∧ v = .string (str out) ∧ dgL k [] = dgL j out ∧ Below w.heap.size w wr) (fun q _ _ => (intOf q).toNat)
  case atStart => exact ⟨k, [], Nat.le_refl _, rfl, rfl, rfl, Below.refl _ _⟩
  case round =>
    obtain ⟨j, out, hj, rfl, rfl, hd, hbel⟩ := hrel
    have hos : (str out).size = out.length := str_size out
    have hob : out.length ≤ 4194304 := by omega
    by_cases hj0 : j = 0
    · subst hj0
      rw [dgL_zero] at hd
      have HM : Hid (⟨#[109]⟩ ++ str out = mtL k) := by
        show _ = _
        unfold mtL; rw [hd]
        exact strL_plus [109] out
      clear hd
      generalize hL : out.length = L at *
      clear hL
      generalize str out = so at *
      go_wp2
      go_ret
      exact ⟨by rw [← HM.out]; rfl, hbel⟩
    · have hjp : (0 : Int) < (j : Int) := by omega
      obtain ⟨r, hr⟩ : ∃ r, r = j % 10 := ⟨_, rfl⟩
      obtain ⟨p, hp⟩ : ∃ p, p = j / 10 := ⟨_, rfl⟩
      have hr10 : r < 10 := by omega
      have hpj : p < j := by omega
      have HD : Hid (dgL k [] = dgL p ((48 + r) :: out)) := by
        show _ = _
        rw [hd, dgL_step hj0, ← hr, ← hp]
      have hst := fun (c : Nat) => run_str (w := wr.alloc (.cells #[.int .u8 ((48 + r : Nat) : Int)] 5)) (a := some ⟨wr.heap.size, 0, none⟩) (n := 1) (cap := c) (l := [48 + r]) rfl (.inr ⟨wr.heap.size, 0, rfl, by simp, fun i hi => by
        have : i = 0 := by simp at hi; omega
        subst this; simp [nth]⟩)
      rw [show ((48 + r : Nat) : Int) = 48 + (r : Int) by omega] at hst
      have e1 : (j : Int) % 10 = (r : Int) := by omega
      have e2 : (j : Int) / 10 = (p : Int) := by omega
      have HP : Hid (str [48 + r] ++ str out = str ((48 + r) :: out)) := strL_plus [48 + r] out
      have hsr : (str [48 + r]).size = 1 := str_size _
      have HL : Hid (p + ((48 + r) :: out).length ≤ k) := by
        show _ ≤ _
        rw [List.length_cons]; omega
      have hb2 : Below w.heap.size w (wr.alloc (.cells #[.int .u8 (48 + (r : Int))] 5)) := hbel.alloc hbel.size _
      clear hd hr hp
      go_wp2
      go_roundw
      case rel => exact ⟨p, (48 + r) :: out, HL.out, rfl, by rw [HP.out], HD.out, hb2⟩
      case measure => simp [intOf]; omega
end Go.Proofs.YtejbbnpgghpgaaaGreatDoor
namespace Go.Proofs.YtejbbnpgghpgaaaGreatDoor
open Go.RowKit
set_option linter.unusedVariables false
def mkE (d : Dx) (k : Nat) : Dx := ⟨mtL k, (k : Int) + 1, (k : Int) + 1 + 1, d.s, mkMs d.ms (k + 3)⟩
def mkNx (d : Dx) : Nat := 3 + mkK d.ms
def mkXs : List Dx → Nat → List Dx
  | [], _ => []
  | d :: ds, k => mkE d k :: mkXs ds (k + mkNx d)
def mkKx (ms : List Dx) : Nat := (ms.map mkNx).sum
theorem mkXs_len : ∀ (ms : List Dx) (k : Nat), (mkXs ms k).length = ms.length
  | [], _ => rfl
  | d :: ds, k => by simp [mkXs, mkXs_len ds]
theorem mkXs_app : ∀ (a b : List Dx) (k : Nat), mkXs (a ++ b) k = mkXs a k ++ mkXs b (k + mkKx a)
  | [], b, k => by simp [mkXs, mkKx]
  | d :: a, b, k => by
    have := mkXs_app a b (k + mkNx d)
    simp only [List.cons_append, mkXs, this]
    rw [show k + mkNx d + mkKx a = k + mkKx (d :: a) by simp [mkKx]; omega]
theorem mkKx_app (a b : List Dx) : mkKx (a ++ b) = mkKx a + mkKx b := by simp [mkKx]
theorem mkKx_one (d : Dx) : mkKx [d] = mkNx d := by simp [mkKx]
theorem fp_mkXs : ∀ (ms : List Dx) (k : Nat), fpX (mkXs ms k) = fpX ms
  | [], _ => rfl
  | d :: ds, k => by
    have := fp_mkXs ds (k + mkNx d)
    unfold fpX at this ⊢
    simp only [mkXs, List.flatMap_cons, this]
    rw [show fpD (mkE d k) = fpD d by unfold fpD mkE; dsimp only; rw [fp_mkMs]]
def mkHx (ms : List Dx) (k j : Nat) : List Dx := mkXs (ms.take j) k ++ ms.drop j
theorem mkHx_zero (ms : List Dx) (k : Nat) : mkHx ms k 0 = ms := by simp [mkHx, mkXs]
theorem mkHx_all (ms : List Dx) (k : Nat) : mkHx ms k ms.length = mkXs ms k := by simp [mkHx]
theorem mkHx_len (ms : List Dx) (k j : Nat) (h : j ≤ ms.length) : (mkHx ms k j).length = ms.length := by simp [mkHx, mkXs_len]; omega
theorem mkHx_fp (ms : List Dx) (k j : Nat) : fpX (mkHx ms k j) = fpX ms := by
  unfold mkHx
  have h1 := fp_mkXs (ms.take j) k
  unfold fpX at h1 ⊢
  rw [List.flatMap_append, h1, ← List.flatMap_append, List.take_append_drop]
theorem mkHx_get {ms : List Dx} {k j : Nat} (h : j < ms.length) (h' : j < (mkHx ms k j).length) : (mkHx ms k j)[j] = ms[j] := by
  have hl : (mkXs (ms.take j) k).length = j := by rw [mkXs_len, List.length_take]; omega
  have e : (mkHx ms k j)[j]? = some ms[j] := by
    unfold mkHx
    rw [List.getElem?_append_right (by omega), hl, Nat.sub_self, List.getElem?_drop]
    simp [h]
  exact (List.getElem?_eq_some_iff.1 e).2
theorem mkHx_set {ms : List Dx} {k j : Nat} (h : j < ms.length) : (mkHx ms k j).set j (mkE ms[j] (k + mkKx (ms.take j))) = mkHx ms k (j + 1) := by
  unfold mkHx
  have hl : (mkXs (ms.take j) k).length = j := by rw [mkXs_len, List.length_take]; omega
  rw [List.set_append, if_neg (by omega), hl, Nat.sub_self, List.drop_eq_getElem_cons h, List.set_cons_zero, List.take_succ_eq_append_getElem h, mkXs_app, List.append_assoc]
  rfl
theorem mkKx_take {ms : List Dx} {j : Nat} (h : j < ms.length) : mkKx (ms.take (j + 1)) = mkKx (ms.take j) + mkNx ms[j] := by
  rw [List.take_succ_eq_append_getElem h, mkKx_app, mkKx_one]
theorem mkKx_le (ms : List Dx) (j : Nat) : mkKx (ms.take j) ≤ mkKx ms := by
  have := mkKx_app (ms.take j) (ms.drop j)
  rw [List.take_append_drop] at this
  omega
set_option maxHeartbeats 3200000 in
set_option maxRecDepth 100000 in
theorem markBoxS_ow (s : SlQ) (xs : List Dx) (k : Nat) (w : World) (h : HX w s xs) (hnd : (blkS s ++ fpX xs).Nodup) (hk1 : 1 ≤ k) (hsz : k + mkKx xs ≤ 4194304) (hbl : ∀ d ∈ xs, (∀ e ∈ d.ms, e.m.b.length ≤ 1048576) ∧ d.ms.length ≤ 1048576) (hml : xs.length ≤ 1048576) :
    Calls Tryz.prog 69 #[slW s, .int .i64 (k : Int)] w fun e w' => e = .returned (.int .i64 ((k + mkKx xs : Nat) : Int)) ∧ HX w' s (mkXs xs k) ∧ Kx (blkS s ++ fpX xs) w w' := by
  obtain ⟨s', hs', hsl, hsc, hsm, hsa⟩ := row_form h.1
  obtain rfl : s = s' := by
    obtain ⟨a, n, c⟩ := s
    obtain ⟨a', n', c'⟩ := s'
    simp only [slW, Value.slice.injEq] at hs'
    obtain ⟨rfl, rfl, rfl⟩ := hs'
    rfl
  clear hs'
  obtain ⟨a, n, cap⟩ := s
  dsimp only at hsl hsc hsm hsa
  subst hsl
  have hcap : cap ≤ 2 ^ 63 - 1 := by unfold maxLen at hsm; exact hsm
  have HT : Hid (∀ j (hj : j < xs.length), mkKx (xs.take (j + 1)) = mkKx (xs.take j) + mkNx xs[j] ∧ k + mkKx (xs.take (j + 1)) ≤ 4194304) := fun j hj => ⟨mkKx_take hj, by have := mkKx_le xs (j + 1); omega⟩
  unfold slW
  go_enter Tryz.func69, Tryz.ntmps69
  go_wp2
  go_loopw [1, 5] (fun q i wr => ∃ j : Nat, j ≤ xs.length ∧ i = .int .i64 j ∧ q = .int .i64 ((k + mkKx (xs.take j) : Nat) : Int) ∧ HX wr (a, xs.length, cap) (mkHx xs k j) ∧ Kx (blkS (a, xs.length, cap) ++ fpX xs) w wr)
    (fun _ i _ => xs.length - (intOf i).toNat)
  case atStart => exact ⟨0, Nat.zero_le _, rfl, by simp [mkKx], by rw [mkHx_zero]; exact h, Kx.refl _ _⟩
  case round =>
    obtain ⟨j, hj, rfl, rfl, hH0, hK0⟩ := hrel
    by_cases hjn : j < xs.length
    · have hji : (j : Int) < (xs.length : Int) := by omega
      obtain ⟨g, rfl⟩ : ∃ g, a = some ⟨g, 0, none⟩ := by
        rcases hsa with ⟨-, h0⟩ | h
        · omega
        · exact h
      have hhl : (mkHx xs k j).length = xs.length := mkHx_len _ _ _ hj
      have hgd := mkHx_get (k := k) hjn (by omega)
      have hT := HT.out j hjn
      obtain ⟨kk, hkk⟩ : ∃ kk, k + mkKx (xs.take j) = kk := ⟨_, rfl⟩
      have hkk' : (k : Int) + (mkKx (xs.take j) : Int) = (kk : Int) := by omega
      have hkb : kk + (3 + mkK xs[j].ms) ≤ 4194304 := by have h1 := hT.2; rw [hT.1] at h1; unfold mkNx at h1; omega
      rw [hkk]
      have HC1 := markText_l kk wr (by omega) (by omega)
      go_wp2_with fail
      refine HC1.mono ?_
      rintro e w1 ⟨rfl, hb1⟩
      have hH := hH0.below hb1 (Nat.le_refl _)
      have hK := hK0.below hb1
      clear hH0 hK0 hb1 HC1
      have hrow := hH.1
      rw [hhl] at hrow
      have hql : j < ((mkHx xs k j).map Dx.q).length := by rw [List.length_map]; omega
      have hnq : nthQ ((mkHx xs k j).map Dx.q) j = xs[j].q := by rw [map_nthQ (by omega), hgd]
      obtain ⟨hglt, c0, c1, c2, c3⟩ := ownQ_cells hrow j hql
      rw [hnq] at c0 c1 c2 c3
      have f0 := hrow.frozenAt (j * 4)
      have f1 := hrow.frozenAt (j * 4 + 1)
      have f2 := hrow.frozenAt (j * 4 + 2)
      obtain ⟨tx, htx⟩ : ∃ tx, mtL kk = tx := ⟨_, rfl⟩
      rw [htx]
      obtain ⟨t0, -⟩ := hrow.stored (j * 4) (.string tx)
      obtain ⟨t1, -⟩ := t0.stored (j * 4 + 1) (.int .i64 ((kk : Int) + 1))
      obtain ⟨t2, -⟩ := t1.stored (j * 4 + 2) (.int .i64 ((kk : Int) + 1 + 1))
      rw [qc_set3s hql, hnq] at t2
      have hdm : xs[j] ∈ xs := List.getElem_mem hjn
      have hMd : HM w1 xs[j].s xs[j].ms := by
        have := hH.2 (mkHx xs k j)[j] (List.getElem_mem (by omega))
        rwa [hgd] at this
      have hgs : g ∈ blkS ((some ⟨g, 0, none⟩, xs.length, cap) : SlQ) := by simp [blkS]
      have hgn : g ∉ fpX xs := nd_off hnd hgs
      have hdfp : ∀ g' ∈ blkS xs[j].s ++ fpM xs[j].ms, g' ∈ fpX xs := fun g' hg' => mem_flat_get (f := fpD) hjn hg'
      obtain ⟨W3, hW3⟩ : ∃ W, ((w1.setCell ⟨g, j * 4, none⟩ (.string tx)).setCell ⟨g, j * 4 + 1, none⟩ (.int .i64 ((kk : Int) + 1))).setCell ⟨g, j * 4 + 2, none⟩ (.int .i64 ((kk : Int) + 1 + 1)) = W := ⟨_, rfl⟩
      have hb3 : ∀ g', g' ≠ g → W3.heap[g']? = w1.heap[g']? := fun g' hne => by
        rw [← hW3, Below.heap_setCell _ _ _ _ hne, Below.heap_setCell _ _ _ _ hne, Below.heap_setCell _ _ _ _ hne]
      have hK3 : Kx (blkS ((some ⟨g, 0, none⟩, xs.length, cap) : SlQ) ++ fpX xs) w W3 := by
        rw [← hW3]
        exact ((hK.set g _ _ (.inl (List.mem_append_left _ hgs))).set g _ _ (.inl (List.mem_append_left _ hgs))).set g _ _ (.inl (List.mem_append_left _ hgs))
      have hM3 : HM W3 xs[j].s xs[j].ms := hMd.keep fun g' hg' => hb3 g' (fun e => hgn (e ▸ hdfp g' hg'))
      have hc3 : W3.cell? ⟨g, j * 4 + 3, none⟩ = some (slW xs[j].s) := by
        rw [← hW3, World.cell?_setCell_other _ _ _ _ (by simp), World.cell?_setCell_other _ _ _ _ (by simp), World.cell?_setCell_other _ _ _ _ (by simp)]
        exact c3
      have hbl' := hbl _ hdm
      have hmnd : (blkS xs[j].s ++ fpM xs[j].ms).Nodup := by
        have := nd_right hnd
        unfold fpX at this
        rw [flat_split fpD xs j hjn] at this
        exact nd_left (nd_right this)
      have HC := markMessageS_ow xs[j].s xs[j].ms (kk + 3) W3 hM3 hmnd (by omega) hbl'.1 hbl'.2
      have HE : Hid (_) := And.intro t2 (And.intro hH (And.intro hb3 hK3))
      rw [hW3] at HE
      clear t0 t1 t2 hH hb3 hK3 hMd hrow hK
      dsimp only [Dx.q] at c0 c1 c2
      go_wp2_with fail
      rw [show (kk : Int) + 1 + 1 + 1 = ((kk + 3 : Nat) : Int) by omega]
      refine HC.mono ?_
      rintro e w4 ⟨rfl, hM4, hk4⟩
      obtain ⟨t2, hH, hb3, hK3⟩ := HE.out
      have hrow4 := row_keep t2 (w' := w4) fun g' hg' => hk4.block g' (t2.lt g' hg').2 (fun e => by
        have e1 : g' = g := by simpa [Value.ownBlock] using hg'.symm
        subst e1
        exact hgn (hdfp g' e))
      have hK4 : Kx (blkS ((some ⟨g, 0, none⟩, xs.length, cap) : SlQ) ++ fpX xs) w w4 := hK3.trans hk4 fun g' hg' => .inl (List.mem_append_right _ (hdfp g' hg'))
      have hfn : ((mkHx xs k j).flatMap fpD).Nodup := by
        have := mkHx_fp xs k j
        unfold fpX at this
        rw [this]
        exact nd_right hnd
      have hH4 : HX w4 (some ⟨g, 0, none⟩, xs.length, cap) (mkHx xs k (j + 1)) := by
        rw [← mkHx_set (k := k) hjn, hkk]
        refine hH.upd j _ (by rw [hhl]; unfold mkE; rw [htx]; exact hrow4) hM4 ?_
        intro i hi hne g' hg'
        have hgf : g' ∈ fpX xs := by
          have := mem_flat_get (f := fpD) hi hg'
          have e := mkHx_fp xs k j
          unfold fpX at e ⊢
          rw [e] at this
          exact this
        have hgne : g' ≠ g := fun e => hgn (e ▸ hgf)
        have hnot := nd_other (f := fpD) hfn (i := j) (j := i) (by omega) hi hne hg'
        rw [hgd] at hnot
        have hlt : g' < W3.heap.size := by
          have h1 := hH.lt g' (List.mem_append_right _ (mem_flat_get (f := fpD) hi hg'))
          have h2 : w1.heap[g']? ≠ none := by simp [Array.getElem?_eq_getElem h1]
          rw [← hb3 g' hgne] at h2
          rcases Nat.lt_or_ge g' W3.heap.size with h3 | h3
          · exact h3
          · exact absurd (Array.getElem?_eq_none h3) h2
        rw [hk4.block g' hlt hnot, hb3 g' hgne]
      have hkn : kk + 3 + mkK xs[j].ms = k + mkKx (xs.take (j + 1)) := by rw [hT.1]; unfold mkNx; omega
      have HF : Hid (_) := And.intro hH4 hK4
      clear hH4 hK4 hK3 hb3 hH t2 hrow4 hk4 hM4 HE HC
      rw [hkn]
      go_wp2
      go_roundw
      case rel => exact ⟨j + 1, by omega, by go_num, by have h1 := HT.out j hjn; rw [h1.1]; rfl, HF.out.1, HF.out.2⟩
      case measure => simp [intOf]; omega
    · have hji : ¬ (j : Int) < (xs.length : Int) := by omega
      obtain rfl : j = xs.length := by omega
      rw [mkHx_all] at hH0
      rw [List.take_length]
      have HF : Hid (_) := And.intro hH0 hK0
      clear hH0 hK0
      go_wp2
      go_ret
      exact ⟨rfl, HF.out.1, HF.out.2⟩
end Go.Proofs.YtejbbnpgghpgaaaGreatDoor
