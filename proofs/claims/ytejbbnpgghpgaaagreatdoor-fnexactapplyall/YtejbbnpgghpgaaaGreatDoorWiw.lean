/- A row without some of its places; no conditions beyond those that each fact names. -/
import Derived.Test.YtejbbnpgghpgaaaGreatDoorWmpToWso
namespace Go.Proofs.YtejbbnpgghpgaaaGreatDoor
open Go.RowKit Go.Maps
set_option linter.unusedVariables false
abbrev intV : Value → Int := _root_.Go.RowKit.intOf
def WoEnd (e0 : TypeId) (q : List Qd) (w : World) (e : Ending) (w' : World) : Prop := ∃ s, e = .returned (slW s) ∧ w'.ownsRow 0 e0 4 (slW s) q.length (qc q) ∧ (∀ g ∈ blkS s, w.heap.size ≤ g) ∧ Below w.heap.size w w'
theorem zeroX (w : World) : (zeroValue 128).run Tryz.prog w = .ok (.agg #[.string ByteArray.empty, .int .i64 0, .int .i64 0, .slice none 0 0]) w := by kernel_rfl
theorem zeroM (w : World) : (zeroValue 136).run Tryz.prog w = .ok (.agg #[.int .i64 0, .int .i64 0, .int .i64 0, .slice none 0 0]) w := by kernel_rfl
set_option maxHeartbeats 3200000 in
set_option maxRecDepth 100000 in
theorem withoutX_any (s ps : SlQ) (xs : List Dx) (pz : List Int) (w : World) (hrow : w.ownsRow 0 128 4 (slW s) xs.length (qc (xs.map Dx.q))) (hn : xs.length ≤ 1000) (hp : OwZ 3 w ps pz) (hpn : pz.length ≤ 1000) (hpz : ∀ z ∈ pz, 0 ≤ z ∧ z ≤ 1000000) :
  Calls Tryz.prog 190 #[slW s, slW ps] w fun e w' => WoEnd 128 ((lfN pz xs.length).map (nthQ (xs.map Dx.q))) w e w' := by
 obtain ⟨n, hl⟩ : ∃ n, xs.length = n := ⟨_, rfl⟩
 obtain ⟨a, n0, cap⟩ := s
 obtain ⟨pa, m0, pcap⟩ := ps
 obtain ⟨hn0, hnc, hcm⟩ : n0 = n ∧ n ≤ cap ∧ cap ≤ maxLen := by
  obtain ⟨⟨a', n', c'⟩, e, h1, h2, h3, -⟩ := row_form hrow
  cases e
  exact ⟨h1.trans hl, by rw [← hl]; exact h2, h3⟩
 obtain ⟨hm0, hmc, hmm⟩ := hp.form
 dsimp only at hm0 hmc hmm
 obtain ⟨m, hml⟩ : ∃ m, pz.length = m := ⟨_, rfl⟩
 rw [hml] at hm0 hmc hpn
 subst hn0 hm0
 unfold maxLen at hcm hmm
 have hz := zeroX
 have hmk := fun w => @run_makeMap_hint Tryz.prog 231 3 128 Tryz.underlying231 (n0 : Int) w
 have HR : Hid (∀ wr, Below w.heap.size w wr → wr.ownsRow 0 128 4 (.slice a n0 cap) n0 (qc (xs.map Dx.q))) := fun wr hb => by rw [← hl]; rw [hl] at hrow ⊢; exact row_keep hrow fun g hg => hb.block g (hrow.lt g hg).2
 have HP : Hid (∀ wr, Below w.heap.size w wr → OwZ 3 wr (pa, m0, pcap) pz) := fun wr hb => hp.below hb (Nat.le_refl _)
 have hn' : n0 ≤ 1000 := by omega
 rw [hl]
 clear hrow hp hn
 dsimp only [slW]
 go_enter Tryz.func190, Tryz.ntmps190
 go_wp2
 clear hmk
 have hb0 : Below w.heap.size w (w.alloc (.map #[] 0)) := (Below.refl _ _).alloc (Nat.le_refl _) _
 have hM0 := World.ownsMap_made w Tryz.prog 3 Rh
 go_loopw [18] (fun i wr => ∃ k : Nat, k ≤ n0 ∧ i = .int .i64 k ∧ wr.ownsMap Tryz.prog 3 Rh w.heap.size k (mapL (xs.map Dx.q) (List.range k)) ∧ Below w.heap.size w wr) (fun i _ => n0 - (intV i).toNat)
 case atStart => exact ⟨0, Nat.zero_le _, rfl, hM0, hb0⟩
 case round =>
  obtain ⟨k, hk, rfl, hM, hbel⟩ := hrel
  clear hM0 hb0
  have hBl := hM.lt
  by_cases hkn : k < n0
  ·have hki : (k : Int) < (n0 : Int) := by omega
   have hkx : k < xs.length := by omega
   have hrk := HR.out wr hbel
   obtain ⟨g, hga⟩ : ∃ g, a = some ⟨g, 0, none⟩ := by
    obtain ⟨⟨a', n', c'⟩, e, h1, h2, h3, h4⟩ := row_form hrk
    cases e
    rcases h4 with ⟨-, h0⟩ | ⟨g, h0⟩
    ·omega
    ·exact ⟨g, h0⟩
   subst hga
   obtain ⟨hglt, c0, c1, c2, c3⟩ := ownQ_cells hrk k (by rw [List.length_map]; exact hkx)
   have HPUT : Hid (∀ v, v = agQ (nthQ (xs.map Dx.q) k) → (mapL (xs.map Dx.q) (List.range k)).put (.int .i64 (k : Int)) (.held v) = mapL (xs.map Dx.q) (List.range (k + 1))) := fun v hv => by
    rw [hv, mapL_put _ _ _ (fun j hj => List.mem_range.1 hj), List.range_succ]
   rw [map_nthQ hkx] at c0 c1 c2 c3 HPUT
   generalize xs[k] = p at *
   obtain ⟨bn, bv, bx, bs, bm⟩ := p
   dsimp only [Dx.q, msQ] at c0 c1 c2 c3 HPUT
   have hkey := keyOf_int_mk (P := Tryz.prog) (k := 3) (q := .i64) Tryz.underlying3 (a := (k : Int)) (WalkArith.wf_i64 (by omega))
   have hM1 := hM.alloc (.cells #[.string bn, .int .i64 bv, .int .i64 bx, slW bs] 128)
   have hbel1 : Below w.heap.size w (wr.alloc (.cells #[.string bn, .int .i64 bv, .int .i64 bx, slW bs] 128)) := hbel.alloc hbel.size _
   clear hM hrk
   go_wp2_with (first
    | (at_mapUpdate; go_loud (refine wpList_mapUpdate_own _ rfl _ _ _ 231 rfl 3 128 (int_keyed Tryz.underlying3) Tryz.underlying231 Rh w.heap.size k _ rfl hM1 (by unfold maxLen; omega) _ _ _ rfl rfl hkey _ [] rfl ?_; intro w2 hM2 hg2))
    | go_in)
   have hbel2 : Below w.heap.size w w2 := hbel1.grown hg2 hbel1.size (fun j hj => by cases hj; exact Nat.le_refl _)
   have HM2 : Hid (w2.ownsMap Tryz.prog 3 Rh w.heap.size (k + 1) (mapL (xs.map Dx.q) (List.range (k + 1)))) := (HPUT.out _ rfl) ▸ hM2
   clear hM2 hg2 hM1 hbel1
   go_wp2
   go_roundw
   case rel => exact ⟨k + 1, by omega, by go_num, HM2.out, hbel2⟩
   case measure => simp [intV, Go.RowKit.intOf]; omega
  ·have hki : ¬ (k : Int) < (n0 : Int) := by omega
   obtain rfl : k = n0 := by omega
   have hM0 : wr.ownsMap Tryz.prog 3 Rh w.heap.size k (mapL (xs.map Dx.q) (lfN (pz.take 0) k)) := by rw [List.take_zero, lfN_nil]; exact hM
   clear hM
   go_wp2
   go_loopw [29] (fun i wr => ∃ j : Nat, j ≤ m0 ∧ i = .int .i64 j ∧ wr.ownsMap Tryz.prog 3 Rh w.heap.size k (mapL (xs.map Dx.q) (lfN (pz.take j) k)) ∧ Below w.heap.size w wr) (fun i _ => m0 - (intV i).toNat)
   case atStart => exact ⟨0, Nat.zero_le _, rfl, hM0, hbel⟩
   case round =>
    obtain ⟨j, hj, rfl, hM, hbj⟩ := hrel
    clear hM0 hbel
    have hBl := hM.lt
    by_cases hjm : j < m0
    ·have hji : (j : Int) < (m0 : Int) := by omega
     obtain ⟨pg, poff, rfl, hpl, hpc⟩ := (HP.out _ hbj).rd.at_ (by omega)
     have c0 := hpc j (by omega)
     have hzz := hpz (nthI pz j) (by rw [nthI_get (by omega)]; exact List.getElem_mem _)
     have HD : Hid ((mapL (xs.map Dx.q) (lfN (pz.take j) k)).del (.int .i64 (nthI pz j)) = mapL (xs.map Dx.q) (lfN (pz.take (j + 1)) k)) := by show _ = _; rw [mapL_del, lfN_snoc, ← take_snocI pz j (by omega)]
     clear hpc
     generalize nthI pz j = z at *
     have hkey := keyOf_int_mk (P := Tryz.prog) (k := 3) (q := .i64) Tryz.underlying3 (a := z) (WalkArith.wf_i64 (by omega))
     go_wp2_with (first
      | (at_delete; go_loud (refine wpList_delete_own _ rfl _ _ 231 3 rfl 128 (int_keyed Tryz.underlying3) Tryz.underlying231 Rh w.heap.size k _ rfl hM _ _ rfl hkey ?_; intro w2 hM2 ht2))
      | go_in)
     have hbel2 : Below w.heap.size w w2 := hbj.grown ht2.grown hbj.size (fun j hj => by cases hj; exact Nat.le_refl _)
     have HM2 : Hid (w2.ownsMap Tryz.prog 3 Rh w.heap.size k (mapL (xs.map Dx.q) (lfN (pz.take (j + 1)) k))) := HD.out ▸ hM2
     clear hM2 ht2 hM
     go_wp2
     go_roundw
     case rel => exact ⟨j + 1, by omega, by go_num, HM2.out, hbel2⟩
     case measure => simp [intV, Go.RowKit.intOf]; omega
    ·have hji : ¬ (j : Int) < (m0 : Int) := by omega
     have hL : lfN (pz.take j) k = lfN pz k := by rw [List.take_of_length_le (by omega)]
     rw [hL] at hM
     have hLl := lfN_len pz k
     have hLp := lfN_pw pz k
     have hLt : ∀ x ∈ lfN pz k, x < k := fun x hx => lfN_lt hx
     clear hL HP HR
     obtain ⟨L, hLe⟩ : ∃ L, lfN pz k = L := ⟨_, rfl⟩
     have HLE : Hid (lfN pz k = L) := hLe
     rw [hLe] at hM hLl hLp hLt
     clear hLe
     have hB0 : Below wr.heap.size wr (wr.alloc (.cells #[.map (some w.heap.size)] 231)) := (Below.refl _ _).alloc (Nat.le_refl _) _
     have hM1 := hM.alloc (.cells #[.map (some w.heap.size)] 231)
     have hbel1 := hbj.trans (hB0.mono hbj.size)
     have HC := sortedB_any w.heap.size k wr.heap.size _ L (wr.alloc (.cells #[.map (some w.heap.size)] 231)) (by simp) hM1 (mapL_keys _ _) hLp (by rw [mapL_size]; omega)
     go_wp2_with fail
     refine (keysB_any w.heap.size wr).mono ?_
     rintro e w3 ⟨rfl, rfl⟩
     go_wp2_with fail
     generalize wr.alloc (.cells #[.map (some w.heap.size)] 231) = W3 at *
     refine HC.mono ?_
     rintro e W4 ⟨sk, rfl, hO4, hge4, hb4⟩
     have hM4 : W4.ownsMap Tryz.prog 3 Rh w.heap.size k (mapL (xs.map Dx.q) L) := by
      obtain ⟨es, clock, hb, Ft, hs, hD⟩ := hM1
      exact ⟨es, clock, (hb4.block _ (Array.getElem?_eq_some_iff.1 hb).1).trans hb, Ft, hs, hD⟩
     have hbel4 := hbel1.trans (hb4.mono hbel1.size)
     obtain ⟨ka, kn, kcap⟩ := sk
     obtain ⟨hk1, hk2, hk3⟩ := hO4.form
     dsimp only at hk1 hk2 hk3
     unfold maxLen at hk3
     rw [List.length_map] at hk1 hk2
     have hkl := hk1.symm
     rw [hkl] at hk2 hLl
     have HKN : Hid (L.length = kn) := hkl
     clear HC hM1 hbel1 hB0 hb4 hM hbj hk1 hkl
     dsimp only [slW]
     go_wp2
     go_loopw [10, 40] (fun v i wr => ∃ (q : Nat) (s' : SlQ), q ≤ kn ∧ i = .int .i64 q ∧ v = slW s' ∧ wr.ownsRow 0 128 4 (slW s') ((L.take q).map (nthQ (xs.map Dx.q))).length (qc ((L.take q).map (nthQ (xs.map Dx.q)))) ∧ (∀ g ∈ blkS s', W4.heap.size ≤ g) ∧ Below W4.heap.size W4 wr) (fun _ i _ => kn - (intV i).toNat)
     case atStart => exact ⟨0, (none, 0, 0), Nat.zero_le _, rfl, rfl, World.ownsRow_nil _ _ _ _, fun g hg => by simp [blkS] at hg, Below.refl _ _⟩
     case round =>
      obtain ⟨q, s', hq, rfl, rfl, hO, hge, hb5⟩ := hrel
      by_cases hqk : q < kn
      ·have hqi : (q : Int) < (kn : Int) := by omega
       have hqL : q < L.length := by have := HKN.out; omega
       obtain ⟨kg, koff, rfl, hkgl, hkc⟩ := (hO4.below hb5 (Nat.le_refl _)).rd.at_ (by rw [List.length_map]; omega)
       have c0 := hkc q (by rw [List.length_map]; exact hqL)
       rw [nthI_get (by rw [List.length_map]; exact hqL), List.getElem_map] at c0
       have hyt := hLt _ (List.getElem_mem hqL)
       have HT : Hid ((L.take (q + 1)).map (nthQ (xs.map Dx.q)) = (L.take q).map (nthQ (xs.map Dx.q)) ++ [nthQ (xs.map Dx.q) L[q]]) := by show _ = _; rw [List.take_succ_eq_append_getElem hqL, List.map_append]; rfl
       have hM5 : wr.ownsMap Tryz.prog 3 Rh w.heap.size k (mapL (xs.map Dx.q) L) := by
        obtain ⟨es, clock, hb, Ft, hs, hD⟩ := hM4
        exact ⟨es, clock, (hb5.block _ (Array.getElem?_eq_some_iff.1 hb).1).trans hb, Ft, hs, hD⟩
       have hat := mapL_at (xs.map Dx.q) L L[q] (List.getElem_mem hqL) (.held (.agg #[.string ByteArray.empty, .int .i64 0, .int .i64 0, .slice none 0 0]))
       have hyx : L[q] < xs.length := by omega
       rw [map_nthQ hyx] at HT hat
       generalize L[q] = y at *
       generalize xs[y] = p at *
       obtain ⟨bn, bv, bx, bs, bm⟩ := p
       dsimp only [Dx.q, msQ, agQ] at HT hat
       have hkey := keyOf_int_mk (P := Tryz.prog) (k := 3) (q := .i64) Tryz.underlying3 (a := (y : Int)) (WalkArith.wf_i64 (by omega))
       have hb6 : Below wr.heap.size wr (wr.alloc (.cells #[.string bn, .int .i64 bv, .int .i64 bx, slW bs] 128)) := (Below.refl _ _).alloc (Nat.le_refl _) _
       have hO6 := row_keep hO (w' := wr.alloc (.cells #[.string bn, .int .i64 bv, .int .i64 bx, slW bs] 128)) (fun g hg => hb6.block g (hO.lt g hg).2)
       have hb7 := hb5.trans (hb6.mono hb5.size)
       have hnew := Qc.new wr (.string bn) (.int .i64 bv) (.int .i64 bx) (slW bs) 128
       have hll : ((L.take q).map (nthQ (xs.map Dx.q))).length + 1 ≤ 1048576 := by rw [List.length_map, List.length_take]; omega
       clear hkc hb6 hO
       go_wp2_with (first
        | (at_lookup; go_loud (refine wpList_lookup_held _ rfl _ _ 231 rfl 3 128 (int_keyed Tryz.underlying3) Tryz.underlying231 (hz _) w.heap.size k _ rfl hM5 _ _ rfl hkey _ hat ?_))
        | (at_builtin; go_loud (refine app4 rfl _ _ 31 128 rfl _ 56 rfl (by decide) Tryz.underlying31 infoBox s' ((L.take q).map (nthQ (xs.map Dx.q))) rfl hO6 wr.heap.size _ rfl hnew ⟨rfl, rfl, rfl, rfl⟩ hll ?_; intro s2 w8 hrow8 hgr8 hloc8)))
       have hb8 : Below W4.heap.size W4 w8 := hb7.grown hgr8 hb7.size (fun g hg => hge g (mem_blkS.2 hg))
       have hge8 : ∀ g ∈ blkS s2, W4.heap.size ≤ g := fun g hg => by
        rcases hloc8 with e | e
        ·exact hge g (e ▸ hg)
        ·rw [e, List.mem_singleton] at hg; rw [hg]; exact hb7.size
       have HO8 : Hid (w8.ownsRow 0 128 4 (slW s2) ((L.take (q + 1)).map (nthQ (xs.map Dx.q))).length (qc ((L.take (q + 1)).map (nthQ (xs.map Dx.q))))) := by rw [HT.out]; exact hrow8
       clear hrow8 hgr8 hloc8 hO6 hb7 hM5
       go_wp2
       go_roundw
       case rel => exact ⟨q + 1, s2, by omega, by go_num, rfl, HO8.out, hge8, hb8⟩
       case measure => simp [intV, Go.RowKit.intOf]; omega
      ·have hqi : ¬ (q : Int) < (kn : Int) := by omega
       have HO9 : Hid (wr.ownsRow 0 128 4 (slW s') (L.map (nthQ (xs.map Dx.q))).length (qc (L.map (nthQ (xs.map Dx.q))))) := by rw [List.take_of_length_le (by have := HKN.out; omega)] at hO; exact hO
       clear hO
       go_wp2
       go_ret
       exact ⟨s', rfl, by rw [HLE.out]; exact HO9.out, fun g hg => Nat.le_trans hbel4.size (hge g hg), hbel4.trans (hb5.mono hbel4.size)⟩
set_option maxHeartbeats 3200000 in
set_option maxRecDepth 100000 in
theorem withoutM_any (s ps : SlQ) (xs : List Dm) (pz : List Int) (w : World) (hrow : w.ownsRow 0 136 4 (slW s) xs.length (qc (xs.map Dm.q))) (hn : xs.length ≤ 1000) (hp : OwZ 3 w ps pz) (hpn : pz.length ≤ 1000) (hpz : ∀ z ∈ pz, 0 ≤ z ∧ z ≤ 1000000) :
  Calls Tryz.prog 196 #[slW s, slW ps] w fun e w' => WoEnd 136 ((lfN pz xs.length).map (nthQ (xs.map Dm.q))) w e w' := by
 obtain ⟨n, hl⟩ : ∃ n, xs.length = n := ⟨_, rfl⟩
 obtain ⟨a, n0, cap⟩ := s
 obtain ⟨pa, m0, pcap⟩ := ps
 obtain ⟨hn0, hnc, hcm⟩ : n0 = n ∧ n ≤ cap ∧ cap ≤ maxLen := by
  obtain ⟨⟨a', n', c'⟩, e, h1, h2, h3, -⟩ := row_form hrow
  cases e
  exact ⟨h1.trans hl, by rw [← hl]; exact h2, h3⟩
 obtain ⟨hm0, hmc, hmm⟩ := hp.form
 dsimp only at hm0 hmc hmm
 obtain ⟨m, hml⟩ : ∃ m, pz.length = m := ⟨_, rfl⟩
 rw [hml] at hm0 hmc hpn
 subst hn0 hm0
 unfold maxLen at hcm hmm
 have hz := zeroM
 have hmk := fun w => @run_makeMap_hint Tryz.prog 236 3 136 Tryz.underlying236 (n0 : Int) w
 have HR : Hid (∀ wr, Below w.heap.size w wr → wr.ownsRow 0 136 4 (.slice a n0 cap) n0 (qc (xs.map Dm.q))) := fun wr hb => by rw [← hl]; rw [hl] at hrow ⊢; exact row_keep hrow fun g hg => hb.block g (hrow.lt g hg).2
 have HP : Hid (∀ wr, Below w.heap.size w wr → OwZ 3 wr (pa, m0, pcap) pz) := fun wr hb => hp.below hb (Nat.le_refl _)
 have hn' : n0 ≤ 1000 := by omega
 rw [hl]
 clear hrow hp hn
 dsimp only [slW]
 go_enter Tryz.func196, Tryz.ntmps196
 go_wp2
 clear hmk
 have hb0 : Below w.heap.size w (w.alloc (.map #[] 0)) := (Below.refl _ _).alloc (Nat.le_refl _) _
 have hM0 := World.ownsMap_made w Tryz.prog 3 Rh
 go_loopw [18] (fun i wr => ∃ k : Nat, k ≤ n0 ∧ i = .int .i64 k ∧ wr.ownsMap Tryz.prog 3 Rh w.heap.size k (mapL (xs.map Dm.q) (List.range k)) ∧ Below w.heap.size w wr) (fun i _ => n0 - (intV i).toNat)
 case atStart => exact ⟨0, Nat.zero_le _, rfl, hM0, hb0⟩
 case round =>
  obtain ⟨k, hk, rfl, hM, hbel⟩ := hrel
  clear hM0 hb0
  have hBl := hM.lt
  by_cases hkn : k < n0
  ·have hki : (k : Int) < (n0 : Int) := by omega
   have hkx : k < xs.length := by omega
   have hrk := HR.out wr hbel
   obtain ⟨g, hga⟩ : ∃ g, a = some ⟨g, 0, none⟩ := by
    obtain ⟨⟨a', n', c'⟩, e, h1, h2, h3, h4⟩ := row_form hrk
    cases e
    rcases h4 with ⟨-, h0⟩ | ⟨g, h0⟩
    ·omega
    ·exact ⟨g, h0⟩
   subst hga
   obtain ⟨hglt, c0, c1, c2, c3⟩ := ownQ_cells hrk k (by rw [List.length_map]; exact hkx)
   have HPUT : Hid (∀ v, v = agQ (nthQ (xs.map Dm.q) k) → (mapL (xs.map Dm.q) (List.range k)).put (.int .i64 (k : Int)) (.held v) = mapL (xs.map Dm.q) (List.range (k + 1))) := fun v hv => by
    rw [hv, mapL_put _ _ _ (fun j hj => List.mem_range.1 hj), List.range_succ]
   rw [map_nthQ hkx] at c0 c1 c2 c3 HPUT
   generalize xs[k] = p at *
   obtain ⟨⟨mu, mf, md, mb⟩, sd⟩ := p
   dsimp only [Dm.q, msQ] at c0 c1 c2 c3 HPUT
   have hkey := keyOf_int_mk (P := Tryz.prog) (k := 3) (q := .i64) Tryz.underlying3 (a := (k : Int)) (WalkArith.wf_i64 (by omega))
   have hM1 := hM.alloc (.cells #[.int .i64 mu, .int .i64 mf, .int .i64 md, slW sd] 136)
   have hbel1 : Below w.heap.size w (wr.alloc (.cells #[.int .i64 mu, .int .i64 mf, .int .i64 md, slW sd] 136)) := hbel.alloc hbel.size _
   clear hM hrk
   go_wp2_with (first
    | (at_mapUpdate; go_loud (refine wpList_mapUpdate_own _ rfl _ _ _ 236 rfl 3 136 (int_keyed Tryz.underlying3) Tryz.underlying236 Rh w.heap.size k _ rfl hM1 (by unfold maxLen; omega) _ _ _ rfl rfl hkey _ [] rfl ?_; intro w2 hM2 hg2))
    | go_in)
   have hbel2 : Below w.heap.size w w2 := hbel1.grown hg2 hbel1.size (fun j hj => by cases hj; exact Nat.le_refl _)
   have HM2 : Hid (w2.ownsMap Tryz.prog 3 Rh w.heap.size (k + 1) (mapL (xs.map Dm.q) (List.range (k + 1)))) := (HPUT.out _ rfl) ▸ hM2
   clear hM2 hg2 hM1 hbel1
   go_wp2
   go_roundw
   case rel => exact ⟨k + 1, by omega, by go_num, HM2.out, hbel2⟩
   case measure => simp [intV, Go.RowKit.intOf]; omega
  ·have hki : ¬ (k : Int) < (n0 : Int) := by omega
   obtain rfl : k = n0 := by omega
   have hM0 : wr.ownsMap Tryz.prog 3 Rh w.heap.size k (mapL (xs.map Dm.q) (lfN (pz.take 0) k)) := by rw [List.take_zero, lfN_nil]; exact hM
   clear hM
   go_wp2
   go_loopw [29] (fun i wr => ∃ j : Nat, j ≤ m0 ∧ i = .int .i64 j ∧ wr.ownsMap Tryz.prog 3 Rh w.heap.size k (mapL (xs.map Dm.q) (lfN (pz.take j) k)) ∧ Below w.heap.size w wr) (fun i _ => m0 - (intV i).toNat)
   case atStart => exact ⟨0, Nat.zero_le _, rfl, hM0, hbel⟩
   case round =>
    obtain ⟨j, hj, rfl, hM, hbj⟩ := hrel
    clear hM0 hbel
    have hBl := hM.lt
    by_cases hjm : j < m0
    ·have hji : (j : Int) < (m0 : Int) := by omega
     obtain ⟨pg, poff, rfl, hpl, hpc⟩ := (HP.out _ hbj).rd.at_ (by omega)
     have c0 := hpc j (by omega)
     have hzz := hpz (nthI pz j) (by rw [nthI_get (by omega)]; exact List.getElem_mem _)
     have HD : Hid ((mapL (xs.map Dm.q) (lfN (pz.take j) k)).del (.int .i64 (nthI pz j)) = mapL (xs.map Dm.q) (lfN (pz.take (j + 1)) k)) := by show _ = _; rw [mapL_del, lfN_snoc, ← take_snocI pz j (by omega)]
     clear hpc
     generalize nthI pz j = z at *
     have hkey := keyOf_int_mk (P := Tryz.prog) (k := 3) (q := .i64) Tryz.underlying3 (a := z) (WalkArith.wf_i64 (by omega))
     go_wp2_with (first
      | (at_delete; go_loud (refine wpList_delete_own _ rfl _ _ 236 3 rfl 136 (int_keyed Tryz.underlying3) Tryz.underlying236 Rh w.heap.size k _ rfl hM _ _ rfl hkey ?_; intro w2 hM2 ht2))
      | go_in)
     have hbel2 : Below w.heap.size w w2 := hbj.grown ht2.grown hbj.size (fun j hj => by cases hj; exact Nat.le_refl _)
     have HM2 : Hid (w2.ownsMap Tryz.prog 3 Rh w.heap.size k (mapL (xs.map Dm.q) (lfN (pz.take (j + 1)) k))) := HD.out ▸ hM2
     clear hM2 ht2 hM
     go_wp2
     go_roundw
     case rel => exact ⟨j + 1, by omega, by go_num, HM2.out, hbel2⟩
     case measure => simp [intV, Go.RowKit.intOf]; omega
    ·have hji : ¬ (j : Int) < (m0 : Int) := by omega
     have hL : lfN (pz.take j) k = lfN pz k := by rw [List.take_of_length_le (by omega)]
     rw [hL] at hM
     have hLl := lfN_len pz k
     have hLp := lfN_pw pz k
     have hLt : ∀ x ∈ lfN pz k, x < k := fun x hx => lfN_lt hx
     clear hL HP HR
     obtain ⟨L, hLe⟩ : ∃ L, lfN pz k = L := ⟨_, rfl⟩
     have HLE : Hid (lfN pz k = L) := hLe
     rw [hLe] at hM hLl hLp hLt
     clear hLe
     have hB0 : Below wr.heap.size wr (wr.alloc (.cells #[.map (some w.heap.size)] 236)) := (Below.refl _ _).alloc (Nat.le_refl _) _
     have hM1 := hM.alloc (.cells #[.map (some w.heap.size)] 236)
     have hbel1 := hbj.trans (hB0.mono hbj.size)
     have HC := sortedM_any w.heap.size k wr.heap.size _ L (wr.alloc (.cells #[.map (some w.heap.size)] 236)) (by simp) hM1 (mapL_keys _ _) hLp (by rw [mapL_size]; omega)
     go_wp2_with fail
     refine (keysM_any w.heap.size wr).mono ?_
     rintro e w3 ⟨rfl, rfl⟩
     go_wp2_with fail
     generalize wr.alloc (.cells #[.map (some w.heap.size)] 236) = W3 at *
     refine HC.mono ?_
     rintro e W4 ⟨sk, rfl, hO4, hge4, hb4⟩
     have hM4 : W4.ownsMap Tryz.prog 3 Rh w.heap.size k (mapL (xs.map Dm.q) L) := by
      obtain ⟨es, clock, hb, Ft, hs, hD⟩ := hM1
      exact ⟨es, clock, (hb4.block _ (Array.getElem?_eq_some_iff.1 hb).1).trans hb, Ft, hs, hD⟩
     have hbel4 := hbel1.trans (hb4.mono hbel1.size)
     obtain ⟨ka, kn, kcap⟩ := sk
     obtain ⟨hk1, hk2, hk3⟩ := hO4.form
     dsimp only at hk1 hk2 hk3
     unfold maxLen at hk3
     rw [List.length_map] at hk1 hk2
     have hkl := hk1.symm
     rw [hkl] at hk2 hLl
     have HKN : Hid (L.length = kn) := hkl
     clear HC hM1 hbel1 hB0 hb4 hM hbj hk1 hkl
     dsimp only [slW]
     go_wp2
     go_loopw [10, 40] (fun v i wr => ∃ (q : Nat) (s' : SlQ), q ≤ kn ∧ i = .int .i64 q ∧ v = slW s' ∧ wr.ownsRow 0 136 4 (slW s') ((L.take q).map (nthQ (xs.map Dm.q))).length (qc ((L.take q).map (nthQ (xs.map Dm.q)))) ∧ (∀ g ∈ blkS s', W4.heap.size ≤ g) ∧ Below W4.heap.size W4 wr) (fun _ i _ => kn - (intV i).toNat)
     case atStart => exact ⟨0, (none, 0, 0), Nat.zero_le _, rfl, rfl, World.ownsRow_nil _ _ _ _, fun g hg => by simp [blkS] at hg, Below.refl _ _⟩
     case round =>
      obtain ⟨q, s', hq, rfl, rfl, hO, hge, hb5⟩ := hrel
      by_cases hqk : q < kn
      ·have hqi : (q : Int) < (kn : Int) := by omega
       have hqL : q < L.length := by have := HKN.out; omega
       obtain ⟨kg, koff, rfl, hkgl, hkc⟩ := (hO4.below hb5 (Nat.le_refl _)).rd.at_ (by rw [List.length_map]; omega)
       have c0 := hkc q (by rw [List.length_map]; exact hqL)
       rw [nthI_get (by rw [List.length_map]; exact hqL), List.getElem_map] at c0
       have hyt := hLt _ (List.getElem_mem hqL)
       have HT : Hid ((L.take (q + 1)).map (nthQ (xs.map Dm.q)) = (L.take q).map (nthQ (xs.map Dm.q)) ++ [nthQ (xs.map Dm.q) L[q]]) := by show _ = _; rw [List.take_succ_eq_append_getElem hqL, List.map_append]; rfl
       have hM5 : wr.ownsMap Tryz.prog 3 Rh w.heap.size k (mapL (xs.map Dm.q) L) := by
        obtain ⟨es, clock, hb, Ft, hs, hD⟩ := hM4
        exact ⟨es, clock, (hb5.block _ (Array.getElem?_eq_some_iff.1 hb).1).trans hb, Ft, hs, hD⟩
       have hat := mapL_at (xs.map Dm.q) L L[q] (List.getElem_mem hqL) (.held (.agg #[.int .i64 0, .int .i64 0, .int .i64 0, .slice none 0 0]))
       have hyx : L[q] < xs.length := by omega
       rw [map_nthQ hyx] at HT hat
       generalize L[q] = y at *
       generalize xs[y] = p at *
       obtain ⟨⟨mu, mf, md, mb⟩, sd⟩ := p
       dsimp only [Dm.q, msQ, agQ] at HT hat
       have hkey := keyOf_int_mk (P := Tryz.prog) (k := 3) (q := .i64) Tryz.underlying3 (a := (y : Int)) (WalkArith.wf_i64 (by omega))
       have hb6 : Below wr.heap.size wr (wr.alloc (.cells #[.int .i64 mu, .int .i64 mf, .int .i64 md, slW sd] 136)) := (Below.refl _ _).alloc (Nat.le_refl _) _
       have hO6 := row_keep hO (w' := wr.alloc (.cells #[.int .i64 mu, .int .i64 mf, .int .i64 md, slW sd] 136)) (fun g hg => hb6.block g (hO.lt g hg).2)
       have hb7 := hb5.trans (hb6.mono hb5.size)
       have hnew := Qc.new wr (.int .i64 mu) (.int .i64 mf) (.int .i64 md) (slW sd) 136
       have hll : ((L.take q).map (nthQ (xs.map Dm.q))).length + 1 ≤ 1048576 := by rw [List.length_map, List.length_take]; omega
       clear hkc hb6 hO
       go_wp2_with (first
        | (at_lookup; go_loud (refine wpList_lookup_held _ rfl _ _ 236 rfl 3 136 (int_keyed Tryz.underlying3) Tryz.underlying236 (hz _) w.heap.size k _ rfl hM5 _ _ rfl hkey _ hat ?_))
        | (at_builtin; go_loud (refine app4 rfl _ _ 126 136 rfl _ 48 rfl (by decide) Tryz.underlying126 infoMessage s' ((L.take q).map (nthQ (xs.map Dm.q))) rfl hO6 wr.heap.size _ rfl hnew ⟨rfl, rfl, rfl, rfl⟩ hll ?_; intro s2 w8 hrow8 hgr8 hloc8)))
       have hb8 : Below W4.heap.size W4 w8 := hb7.grown hgr8 hb7.size (fun g hg => hge g (mem_blkS.2 hg))
       have hge8 : ∀ g ∈ blkS s2, W4.heap.size ≤ g := fun g hg => by
        rcases hloc8 with e | e
        ·exact hge g (e ▸ hg)
        ·rw [e, List.mem_singleton] at hg; rw [hg]; exact hb7.size
       have HO8 : Hid (w8.ownsRow 0 136 4 (slW s2) ((L.take (q + 1)).map (nthQ (xs.map Dm.q))).length (qc ((L.take (q + 1)).map (nthQ (xs.map Dm.q))))) := by rw [HT.out]; exact hrow8
       clear hrow8 hgr8 hloc8 hO6 hb7 hM5
       go_wp2
       go_roundw
       case rel => exact ⟨q + 1, s2, by omega, by go_num, rfl, HO8.out, hge8, hb8⟩
       case measure => simp [intV, Go.RowKit.intOf]; omega
      ·have hqi : ¬ (q : Int) < (kn : Int) := by omega
       have HO9 : Hid (wr.ownsRow 0 136 4 (slW s') (L.map (nthQ (xs.map Dm.q))).length (qc (L.map (nthQ (xs.map Dm.q))))) := by rw [List.take_of_length_le (by have := HKN.out; omega)] at hO; exact hO
       clear hO
       go_wp2
       go_ret
       exact ⟨s', rfl, by rw [HLE.out]; exact HO9.out, fun g hg => Nat.le_trans hbel4.size (hge g hg), hbel4.trans (hb5.mono hbel4.size)⟩
end Go.Proofs.YtejbbnpgghpgaaaGreatDoor
