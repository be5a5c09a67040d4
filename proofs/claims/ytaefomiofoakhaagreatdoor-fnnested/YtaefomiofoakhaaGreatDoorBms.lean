/- What the model builds of parts; no conditions beyond those that each fact names. -/
import Derived.Test.YtaefomiofoakhaaGreatDoorMemBToBmb
namespace Go.Proofs.YtaefomiofoakhaaGreatDoor
open Go.RowKit

theorem rd_ten (w : World) : Rd (w.alloc (.cells #[.int .u8 10] 5)) (some ⟨w.heap.size, 0, none⟩) [10] := .inr ⟨w.heap.size, 0, rfl, by simp, fun i hi => by
    obtain rfl : i = 0 := by simpa using hi
    simp [nth]⟩

set_option maxHeartbeats 3200000 in
set_option maxRecDepth 100000 in
theorem l5Build_any (mk : List Nat) (m : Nat) (a : Option Addr) (n cap : Nat) (l : List SlP) (ls : List (List Nat)) (w : World) (hmk : mk.length = m) (hBm : IsB mk) (hm : m ≤ 1048576) (hl : l.length = n) (hr : RdL w a l) (hrs : RdLs w l ls) (hf : FitB ls) (hn : n ≤ 6) :
    Calls Tryz.prog 45 #[.string (str mk), .slice a n cap] w fun e w' => ∃ v, e = .returned v ∧ Gr w' w.heap.size v (bmA mk ls) ∧ Below w.heap.size w w' := by
  have hlen : ls.length = n := by rw [← hrs.1]; exact hl
  have hsz : (str mk).size = m := by rw [str_size, hmk]
  obtain ⟨tH, tL, -, tE⟩ := bm_texts mk
  obtain ⟨nH, nL, nE⟩ := bm_lens mk
  obtain ⟨bH, bL, bE⟩ := isB_bm mk hBm
  rw [hmk] at nH nL nE
  have s1 : ((⟨#[67, 111, 110, 116, 101, 110, 116, 45, 84, 121, 112, 101, 58, 32, 109, 117, 108, 116, 105, 112, 97, 114, 116, 47, 109, 105, 120, 101, 100, 59, 32, 98, 111, 117, 110, 100, 97, 114, 121, 61]⟩ : ByteArray) ++ str mk).size = 40 + m := by rw [ByteArray.size_append, hsz]; rfl
  have s2 : ((⟨#[45, 45]⟩ : ByteArray) ++ str mk).size = 2 + m := by rw [ByteArray.size_append, hsz]; rfl
  have hcvt := run_bytes_of_string (P := Tryz.prog) w 9 22 5 (str (bmH mk)) Tryz.underlying9 Tryz.underlying22 Tryz.underlying5
  rw [str_size] at hcvt
  have hcp := grownCap_ge w (bmH mk).length 0 5
  have hcm := grownCap_le_maxLen w (bmH mk).length 0 5 (by unfold maxLen; omega)
  have hgr0 := (Gr.conv w (bmH mk) bH w.heap.size _ (Nat.le_refl _) hcp hcm).drew
  have hb2 : Below w.heap.size w (w.alloc (.cells (bytesRow (str (bmH mk)) (grownCap w (bmH mk).length 0 5)) 5 ((bytesRow (str (bmH mk)) (grownCap w (bmH mk).length 0 5)).size, (bytesRow (str (bmH mk)) (grownCap w (bmH mk).length 0 5)).size + 1))).drew := ((Below.refl _ _).alloc (Nat.le_refl _) _).drew
  rw [nH] at hcvt hcp hcm hgr0 hb2
  go_enter Tryz.func45, Tryz.ntmps45
  go_wp2_with fail
  generalize (w.alloc (.cells (bytesRow (str (bmH mk)) (grownCap w (42 + m) 0 5)) 5 ((bytesRow (str (bmH mk)) (grownCap w (42 + m) 0 5)).size, (bytesRow (str (bmH mk)) (grownCap w (42 + m) 0 5)).size + 1))).drew = W2 at *
  have HA0 : Hid (bmH mk ++ bmB mk (ls.take 0) = bmH mk) := by show _ = _; simp [bmB]
  have HLEN : Hid (∀ k, k ≤ n → (bmH mk ++ bmB mk (ls.take k)).length ≤ 42 + m + k * 2097160) := fun k => by
    induction k with
    | zero => intro _; rw [HA0.out, nH]; omega
    | succ k ih =>
      intro hk
      have h := ih (by omega)
      have hfk := (hf k (by omega)).2
      rw [bmB_snoc (by omega)]
      simp only [List.length_append, nL, List.length_singleton] at h ⊢
      omega
  clear hcvt hcp hcm s1 tH
  go_loopw [5, 6] (fun q i wr => ∃ k : Nat, k ≤ n ∧ i = .int .i64 k ∧ Gr wr w.heap.size q (bmH mk ++ bmB mk (ls.take k)) ∧ Below w.heap.size w wr) (fun _ i _ => n - (intOf i).toNat)
  case atStart => exact ⟨0, Nat.zero_le _, rfl, by rw [HA0.out]; exact hgr0, hb2⟩
  case round =>
    obtain ⟨k, hk, rfl, hgr, hbel⟩ := hrel
    clear hgr0 hb2
    have hzr : w.heap.size ≤ wr.heap.size := by have := hbel.size; omega
    have hln := HLEN.out k hk
    by_cases hkn : k < n
    · have hki : (k : Int) < (n : Int) := by omega
      obtain ⟨g, off, hga, hglt, hcell⟩ := hr.at_ (by omega)
      subst hga
      have hck := hcell k (by omega)
      obtain ⟨e1, e2, hrd⟩ := hrs.2 k (by omega)
      have hfk := hf k (by omega)
      have HSN : Hid (bmH mk ++ bmB mk (ls.take (k + 1)) = (((bmH mk ++ bmB mk (ls.take k)) ++ bmL mk) ++ ls.getD k []) ++ [10]) := by
        show _ = _
        rw [bmB_snoc (by omega)]; simp
      have HRD : Hid (∀ w' : World, Below w.heap.size w w' → Rd w' (nthL l k).1 (ls.getD k [])) := fun w' hb => ((hrs.below hb).2 k (by omega)).2.2
      unfold slV at hck
      generalize nthL l k = sl at *
      obtain ⟨sa, sn, scp⟩ := sl
      dsimp only at hck e1 e2 hrd HRD
      generalize ls.getD k [] = d at *
      generalize bmH mk ++ bmB mk (ls.take k) = t at *
      subst e1
      have HSC : Hid (∀ w' : World, Below w.heap.size w w' → w'.cell? ⟨g, off + k, none⟩ = some (.slice sa d.length scp)) := fun w' hb => (hb.cell (p := ⟨g, off + k, none⟩) hglt).trans hck
      have HNA : Hid (sa = none → d.length = 0) := fun h => by
        rcases hrd with h' | ⟨b, o, e, -⟩
        · rw [h']; rfl
        · rw [h] at e; cases e
      have L1 : Hid ((t ++ bmL mk).length = t.length + (3 + m)) := by show _ = _; rw [List.length_append, nL]
      have L2 : Hid (((t ++ bmL mk) ++ d).length = t.length + (3 + m) + d.length) := by show _ = _; rw [List.length_append, L1.out]
      have hsn : d.length ≤ 1048576 := hfk.2
      have hcvt := fun wx => run_bytes_of_string (P := Tryz.prog) wx 9 22 5 (str (bmL mk)) Tryz.underlying9 Tryz.underlying22 Tryz.underlying5
      rw [str_size, nL] at hcvt
      obtain ⟨g5, cp5, rfl, -, -, hgC⟩ := id hgr
      have hgr := hgr.drew
      have hglt5 : g5 < wr.drew.heap.size := hgC.2.2.1
      have HBr : Below w.heap.size w wr.drew := hbel.drew
      have HZr : w.heap.size ≤ wr.drew.heap.size := hzr
      have hck := HSC.out wr hbel
      clear hrd hcell HLEN HA0 hgC
      go_wp2_with fail
      refine wp_region_held_drew (S := fun w' => w'.cell? ⟨g, off + k, none⟩ = some (.slice sa d.length scp)) (by kernel_rfl) ?hS9 (fun hHeld => ?_)
      case hS9 => exact HSC.out wr hbel
      generalize wr.drew = x0 at *
      refine wpAnyH_take (i := 0) (v := ?_) rfl (by kernel_rfl) (by kernel_rfl) (by kernel_rfl) (fun _ _ _ h => h) (Or.inl ⟨by rfl, ?hy1⟩) (by assumption) ?ty1
      case hy1 => (intro w hSw; (try dsimp only at hSw); go_simp; all_goals with_reducible rfl)
      simp only [Act.put, List.getElem_toArray, List.getElem_cons_zero, List.setIfInBounds_toArray, List.set_cons_zero, List.set_cons_succ]
      refine wpAnyH_take (i := 1) (v := ?_) rfl (by kernel_rfl) (by kernel_rfl) (by kernel_rfl) (fun _ _ _ h => h) (Or.inl ⟨by rfl, ?hy2⟩) (by assumption) ?ty2
      case hy2 => (intro w hSw; (try dsimp only at hSw); go_simp; all_goals with_reducible rfl)
      simp only [Act.put, List.getElem_toArray, List.getElem_cons_zero, List.getElem_cons_succ, List.setIfInBounds_toArray, List.set_cons_zero, List.set_cons_succ]
      refine wpAnyH_take (i := 2) (v := .string ((⟨#[45, 45]⟩ : ByteArray) ++ str mk)) rfl (by kernel_rfl) (by kernel_rfl) (by kernel_rfl) (fun _ _ _ h => h) (Or.inl ⟨by rfl, ?hy3⟩) (by assumption) ?ty3
      case hy3 => (intro w hSw; (try dsimp only at hSw); go_simp; all_goals (first | omega | rfl | (simp; done)))
      simp only [Act.put, List.getElem_toArray, List.getElem_cons_zero, List.getElem_cons_succ, List.setIfInBounds_toArray, List.set_cons_zero, List.set_cons_succ]
      refine wpAnyH_take (i := 3) (v := .string (str (bmL mk))) rfl (by kernel_rfl) (by kernel_rfl) (by kernel_rfl) (fun _ _ _ h => h) (Or.inl ⟨by rfl, ?hy4⟩) (by assumption) ?ty4
      case hy4 => (intro w hSw; (try dsimp only at hSw); go_simp; all_goals (first | omega | rfl | (simp [tL]; done) | (simp; done)))
      simp only [Act.put, List.getElem_toArray, List.getElem_cons_zero, List.getElem_cons_succ, List.setIfInBounds_toArray, List.set_cons_zero, List.set_cons_succ]
      refine wpAnyH_take (i := 6) (v := ?_) rfl (by kernel_rfl) (by kernel_rfl) (by kernel_rfl) (fun _ _ _ h => h) (Or.inl ⟨by rfl, ?hy5⟩) (by assumption) ?ty5
      case hy5 => (intro w hSw; (try dsimp only at hSw); go_simp; all_goals with_reducible rfl)
      simp only [Act.put, List.getElem_toArray, List.getElem_cons_zero, List.getElem_cons_succ, List.setIfInBounds_toArray, List.set_cons_zero, List.set_cons_succ]
      refine wpAnyH_take (i := 7) (v := ?_) rfl (by kernel_rfl) (by kernel_rfl) (by kernel_rfl) (fun _ _ _ h => h) (Or.inl ⟨by rfl, ?hy6⟩) (by assumption) ?ty6
      case hy6 => (intro w hSw; (try dsimp only at hSw); go_simp; all_goals with_reducible rfl)
      simp only [Act.put, List.getElem_toArray, List.getElem_cons_zero, List.getElem_cons_succ, List.setIfInBounds_toArray, List.set_cons_zero, List.set_cons_succ]
      refine wpAnyH_take (i := 8) (v := ?_) rfl (by kernel_rfl) (by kernel_rfl) (by kernel_rfl) (fun _ _ _ h => h) (Or.inl ⟨by rfl, ?hy7⟩) (by assumption) ?ty7
      case hy7 => (intro w hSw; (try dsimp only at hSw); go_simp; all_goals with_reducible rfl)
      simp only [Act.put, List.getElem_toArray, List.getElem_cons_zero, List.getElem_cons_succ, List.setIfInBounds_toArray, List.set_cons_zero, List.set_cons_succ]
      refine wpAnyH_take (i := 9) (v := ?_) rfl (by kernel_rfl) (by kernel_rfl) (by kernel_rfl) (fun _ _ _ h => h) (Or.inl ⟨by rfl, ?hy8⟩) (by assumption) ?ty8
      case hy8 => (intro w hSw; (try dsimp only at hSw); go_simp; all_goals with_reducible rfl)
      simp only [Act.put, List.getElem_toArray, List.getElem_cons_zero, List.getElem_cons_succ, List.setIfInBounds_toArray, List.set_cons_zero, List.set_cons_succ]
      refine wpAnyH_ready (rs := [4, 11]) (by kernel_rfl) (by simp) ?_
      refine AllReadyH.cons rfl (fun K hK => ?_) (AllReadyH.cons rfl (fun K hK => ?_) AllReadyH.nil)
      · have hq := hcvt x0
        have hcp := grownCap_ge x0 (3 + m) 0 5
        have hcm := grownCap_le_maxLen x0 (3 + m) 0 5 (by unfold maxLen; omega)
        have hy : Below x0.heap.size x0 (x0.alloc (.cells (bytesRow (str (bmL mk)) (grownCap x0 (3 + m) 0 5)) 5 ((bytesRow (str (bmL mk)) (grownCap x0 (3 + m) 0 5)).size, (bytesRow (str (bmL mk)) (grownCap x0 (3 + m) 0 5)).size + 1))).drew := ((Below.refl _ _).alloc (Nat.le_refl _) _).drew
        have hcv : Rd (x0.alloc (.cells (bytesRow (str (bmL mk)) (grownCap x0 (3 + m) 0 5)) 5 ((bytesRow (str (bmL mk)) (grownCap x0 (3 + m) 0 5)).size, (bytesRow (str (bmL mk)) (grownCap x0 (3 + m) 0 5)).size + 1))).drew (some ⟨x0.heap.size, 0, none⟩) (bmL mk) := (Cv.conv x0 (bmL mk) bL _ (by rw [nL]; exact hcp)).rd
        have hzz : x0.heap.size < (x0.alloc (.cells (bytesRow (str (bmL mk)) (grownCap x0 (3 + m) 0 5)) 5 ((bytesRow (str (bmL mk)) (grownCap x0 (3 + m) 0 5)).size, (bytesRow (str (bmL mk)) (grownCap x0 (3 + m) 0 5)).size + 1))).drew.heap.size := by simp
        go_simp
        generalize hcc : grownCap x0 (3 + m) 0 5 = cpC at *
        generalize (x0.alloc (.cells (bytesRow (str (bmL mk)) cpC) 5 ((bytesRow (str (bmL mk)) cpC).size, (bytesRow (str (bmL mk)) cpC).size + 1))).drew = y1 at *
        have hcv1 := hcv
        have hneC1 : ∀ q, some q = (Value.slice (some ⟨g5, 0, none⟩) t.length cp5).ownBlock → q ≠ x0.heap.size := fun q hq' => by have := hglt5; simp [Value.ownBlock] at hq'; omega
        have HB1 : Below w.heap.size w y1 := HBr.trans (hy.mono HZr)
        have HZ1 : w.heap.size ≤ y1.heap.size := by have := HB1.size; omega
        have hg1 := hgr.below hy (Nat.le_refl _)
        have hglt1 := Nat.lt_of_lt_of_le hglt5 hy.size
        have hneW1 : (Value.slice (some ⟨g5, 0, none⟩) t.length cp5).ownBlock ≠ some x0.heap.size := fun h => by have := hglt5; simp [Value.ownBlock] at h; omega
        have hzz1 := hzz
        clear hq hcp hcm hcv hzz
        refine hK.out _ _ (HSC.out _ HB1) (fun hHeld => ?_)
        clear hK K
        refine wpAnyH_ready (rs := [5, 11]) (by kernel_rfl) (by simp) ?_
        refine AllReadyH.cons rfl (fun K hK => ?_) (AllReadyH.cons rfl (fun K hK => ?_) AllReadyH.nil)
        · refine step_app_grx rfl _ _ 22 rfl w.heap.size _ t (by rfl) hg1 _ _ (bmL mk) (by rfl) (src_slice nL hcv1 (fun h => by cases h)) nL (by omega) HZ1 ?_
          intro v2 y2 hg2 hb2 hk2
          obtain ⟨g2, cp2, rfl, hgB2, -, hgC2⟩ := id hg2
          rw [L1.out] at hg2 hk2 ⊢
          have hglt2 : g2 < y2.heap.size := hgC2.2.2.1
          have HB2 : Below w.heap.size w y2 := HB1.trans hb2
          have HZ2 : w.heap.size ≤ y2.heap.size := by have := HB2.size; omega
          refine hK.out _ _ (HSC.out _ HB2) (fun hHeld => ?_)
          clear hK K
          refine wpAnyH_ready (rs := [10, 11]) (by kernel_rfl) (by simp) ?_
          refine AllReadyH.cons rfl (fun K hK => ?_) (AllReadyH.cons rfl (fun K hK => ?_) AllReadyH.nil)
          · refine step_app_grx rfl _ _ 22 rfl w.heap.size _ (t ++ bmL mk) (by rfl) hg2 _ _ d (by rfl) (src_slice rfl (HRD.out _ HB2) HNA.out) rfl (by have := L1.out; omega) HZ2 ?_
            intro v3 y3 hg3 hb3 hk3
            obtain ⟨g3, cp3, rfl, hgB3, -, hgC3⟩ := id hg3
            rw [L2.out] at hg3 hk3 ⊢
            have hglt3 : g3 < y3.heap.size := hgC3.2.2.1
            have HB3 : Below w.heap.size w y3 := HB2.trans hb3
            have HZ3 : w.heap.size ≤ y3.heap.size := by have := HB3.size; omega
            refine hK.out _ _ (HSC.out _ HB3) (fun hHeld => ?_)
            clear hK K
            refine wpAnyH_ready (rs := [11]) (by kernel_rfl) (by simp) ?_
            refine AllReadyH.cons rfl (fun K hK => ?_) AllReadyH.nil
            · have hy : Below y3.heap.size y3 (y3.alloc (.cells #[.int .u8 10] 5)) := (Below.refl _ _).alloc (Nat.le_refl _) _
              have hten := rd_ten y3
              have hzz : y3.heap.size < (y3.alloc (.cells #[.int .u8 10] 5)).heap.size := by simp
              go_simp
              generalize y3.alloc (.cells #[.int .u8 10] 5) = y4 at *
              have hten4 := hten
              have HB4 : Below w.heap.size w y4 := HB3.trans (hy.mono HZ3)
              have HZ4 : w.heap.size ≤ y4.heap.size := by have := HB4.size; omega
              have hg4 := hg3.below hy (Nat.le_refl _)
              have hglt4 := Nat.lt_of_lt_of_le hglt3 hy.size
              have hneW4 : (Value.slice (some ⟨g3, 0, none⟩) (t.length + (3 + m) + d.length) cp3).ownBlock ≠ some y3.heap.size := fun h => by have := hglt3; simp [Value.ownBlock] at h; omega
              have hzz4 := hzz
              clear hten hzz
              refine hK.out _ _ (HSC.out _ HB4) (fun hHeld => ?_)
              clear hK K
              refine wpAnyH_ready (rs := [12]) (by kernel_rfl) (by simp) ?_
              refine AllReadyH.cons rfl (fun K hK => ?_) AllReadyH.nil
              · refine step_app_grx rfl _ _ 22 rfl w.heap.size _ ((t ++ bmL mk) ++ d) (by rfl) hg4 _ _ [10] (by rfl) (src_slice rfl hten4 (fun h => by cases h)) rfl (by have := L2.out; show _ + 1 ≤ _; omega) HZ4 ?_
                intro v5 y5 hg5 hb5 hk5
                obtain ⟨g5, cp5, rfl, hgB5, -, hgC5⟩ := id hg5
                have hglt5 : g5 < y5.heap.size := hgC5.2.2.1
                have HB5 : Below w.heap.size w y5 := HB4.trans hb5
                have HZ5 : w.heap.size ≤ y5.heap.size := by have := HB5.size; omega
                refine hK.out _ _ (HSC.out _ HB5) (fun hHeld => ?_)
                clear hK K
                refine wpAnyH_take (i := 13) (v := ?_) rfl (by kernel_rfl) (by kernel_rfl) (by kernel_rfl) (fun _ _ _ h => h) (Or.inl ⟨by rfl, ?hy10⟩) (by assumption) ?ty10
                case hy10 => (intro w hSw; (try dsimp only at hSw); go_simp; all_goals with_reducible rfl)
                simp only [Act.put, List.getElem_toArray, List.getElem_cons_zero, List.getElem_cons_succ, List.setIfInBounds_toArray, List.set_cons_zero, List.set_cons_succ]
                refine wpAnyH_done (by kernel_rfl) ?_ _
                clear hHeld
                go_wp2
                go_roundw
                case rel => exact ⟨k + 1, by omega, by go_num, by rw [HSN.out]; simpa [nL] using hg5, HB5⟩
                case measure => simp [intOf]; omega
          · have hy : Below y2.heap.size y2 (y2.alloc (.cells #[.int .u8 10] 5)) := (Below.refl _ _).alloc (Nat.le_refl _) _
            have hten := rd_ten y2
            have hzz : y2.heap.size < (y2.alloc (.cells #[.int .u8 10] 5)).heap.size := by simp
            go_simp
            generalize y2.alloc (.cells #[.int .u8 10] 5) = y6 at *
            have hten6 := hten
            have HB6 : Below w.heap.size w y6 := HB2.trans (hy.mono HZ2)
            have HZ6 : w.heap.size ≤ y6.heap.size := by have := HB6.size; omega
            have hg6 := hg2.below hy (Nat.le_refl _)
            have hglt6 := Nat.lt_of_lt_of_le hglt2 hy.size
            have hneW6 : (Value.slice (some ⟨g2, 0, none⟩) (t.length + (3 + m)) cp2).ownBlock ≠ some y2.heap.size := fun h => by have := hglt2; simp [Value.ownBlock] at h; omega
            have hzz6 := hzz
            clear hten hzz
            refine hK.out _ _ (HSC.out _ HB6) (fun hHeld => ?_)
            clear hK K
            refine wpAnyH_ready (rs := [10]) (by kernel_rfl) (by simp) ?_
            refine AllReadyH.cons rfl (fun K hK => ?_) AllReadyH.nil
            · refine step_app_grx rfl _ _ 22 rfl w.heap.size _ (t ++ bmL mk) (by rfl) hg6 _ _ d (by rfl) (src_slice rfl (HRD.out _ HB6) HNA.out) rfl (by have := L1.out; omega) HZ6 ?_
              intro v7 y7 hg7 hb7 hk7
              obtain ⟨g7, cp7, rfl, hgB7, -, hgC7⟩ := id hg7
              rw [L2.out] at hg7 hk7 ⊢
              have hglt7 : g7 < y7.heap.size := hgC7.2.2.1
              have HB7 : Below w.heap.size w y7 := HB6.trans hb7
              have HZ7 : w.heap.size ≤ y7.heap.size := by have := HB7.size; omega
              have hten7 := hk7.1 _ _ _ hzz6 hneW6 hten6
              have hTne7 := hk7.2 _ hzz6 hneW6
              have hTlt7 := Nat.lt_of_lt_of_le hzz6 (by have := hb7.size; exact this : y6.heap.size ≤ y7.heap.size)
              refine hK.out _ _ (HSC.out _ HB7) (fun hHeld => ?_)
              clear hK K
              refine wpAnyH_ready (rs := [12]) (by kernel_rfl) (by simp) ?_
              refine AllReadyH.cons rfl (fun K hK => ?_) AllReadyH.nil
              · refine step_app_grx rfl _ _ 22 rfl w.heap.size _ ((t ++ bmL mk) ++ d) (by rfl) hg7 _ _ [10] (by rfl) (src_slice rfl hten7 (fun h => by cases h)) rfl (by have := L2.out; show _ + 1 ≤ _; omega) HZ7 ?_
                intro v8 y8 hg8 hb8 hk8
                obtain ⟨g8, cp8, rfl, hgB8, -, hgC8⟩ := id hg8
                have hglt8 : g8 < y8.heap.size := hgC8.2.2.1
                have HB8 : Below w.heap.size w y8 := HB7.trans hb8
                have HZ8 : w.heap.size ≤ y8.heap.size := by have := HB8.size; omega
                refine hK.out _ _ (HSC.out _ HB8) (fun hHeld => ?_)
                clear hK K
                refine wpAnyH_take (i := 13) (v := ?_) rfl (by kernel_rfl) (by kernel_rfl) (by kernel_rfl) (fun _ _ _ h => h) (Or.inl ⟨by rfl, ?hy11⟩) (by assumption) ?ty11
                case hy11 => (intro w hSw; (try dsimp only at hSw); go_simp; all_goals with_reducible rfl)
                simp only [Act.put, List.getElem_toArray, List.getElem_cons_zero, List.getElem_cons_succ, List.setIfInBounds_toArray, List.set_cons_zero, List.set_cons_succ]
                refine wpAnyH_done (by kernel_rfl) ?_ _
                clear hHeld
                go_wp2
                go_roundw
                case rel => exact ⟨k + 1, by omega, by go_num, by rw [HSN.out]; simpa [nL] using hg8, HB8⟩
                case measure => simp [intOf]; omega
        · have hy : Below y1.heap.size y1 (y1.alloc (.cells #[.int .u8 10] 5)) := (Below.refl _ _).alloc (Nat.le_refl _) _
          have hten := rd_ten y1
          have hzz : y1.heap.size < (y1.alloc (.cells #[.int .u8 10] 5)).heap.size := by simp
          go_simp
          generalize y1.alloc (.cells #[.int .u8 10] 5) = y9 at *
          have hten9 := hten
          have HB9 : Below w.heap.size w y9 := HB1.trans (hy.mono HZ1)
          have HZ9 : w.heap.size ≤ y9.heap.size := by have := HB9.size; omega
          have hg9 := hg1.below hy (Nat.le_refl _)
          have hglt9 := Nat.lt_of_lt_of_le hglt1 hy.size
          have hneW9 : (Value.slice (some ⟨g5, 0, none⟩) t.length cp5).ownBlock ≠ some y1.heap.size := fun h => by have := hglt1; simp [Value.ownBlock] at h; omega
          have hcv9 := hcv1.below hy
          have hzz9 := hzz
          clear hten hzz
          refine hK.out _ _ (HSC.out _ HB9) (fun hHeld => ?_)
          clear hK K
          refine wpAnyH_ready (rs := [5]) (by kernel_rfl) (by simp) ?_
          refine AllReadyH.cons rfl (fun K hK => ?_) AllReadyH.nil
          · refine step_app_grx rfl _ _ 22 rfl w.heap.size _ t (by rfl) hg9 _ _ (bmL mk) (by rfl) (src_slice nL hcv9 (fun h => by cases h)) nL (by omega) HZ9 ?_
            intro v10 y10 hg10 hb10 hk10
            obtain ⟨g10, cp10, rfl, hgB10, -, hgC10⟩ := id hg10
            rw [L1.out] at hg10 hk10 ⊢
            have hglt10 : g10 < y10.heap.size := hgC10.2.2.1
            have HB10 : Below w.heap.size w y10 := HB9.trans hb10
            have HZ10 : w.heap.size ≤ y10.heap.size := by have := HB10.size; omega
            have hten10 := hk10.1 _ _ _ hzz9 hneW9 hten9
            have hTne10 := hk10.2 _ hzz9 hneW9
            have hTlt10 := Nat.lt_of_lt_of_le hzz9 (by have := hb10.size; exact this : y9.heap.size ≤ y10.heap.size)
            refine hK.out _ _ (HSC.out _ HB10) (fun hHeld => ?_)
            clear hK K
            refine wpAnyH_ready (rs := [10]) (by kernel_rfl) (by simp) ?_
            refine AllReadyH.cons rfl (fun K hK => ?_) AllReadyH.nil
            · refine step_app_grx rfl _ _ 22 rfl w.heap.size _ (t ++ bmL mk) (by rfl) hg10 _ _ d (by rfl) (src_slice rfl (HRD.out _ HB10) HNA.out) rfl (by have := L1.out; omega) HZ10 ?_
              intro v11 y11 hg11 hb11 hk11
              obtain ⟨g11, cp11, rfl, hgB11, -, hgC11⟩ := id hg11
              rw [L2.out] at hg11 hk11 ⊢
              have hglt11 : g11 < y11.heap.size := hgC11.2.2.1
              have HB11 : Below w.heap.size w y11 := HB10.trans hb11
              have HZ11 : w.heap.size ≤ y11.heap.size := by have := HB11.size; omega
              have hten11 := hk11.1 _ _ _ hTlt10 hTne10 hten10
              have hTne11 := hk11.2 _ hTlt10 hTne10
              have hTlt11 := Nat.lt_of_lt_of_le hTlt10 (by have := hb11.size; exact this : y10.heap.size ≤ y11.heap.size)
              refine hK.out _ _ (HSC.out _ HB11) (fun hHeld => ?_)
              clear hK K
              refine wpAnyH_ready (rs := [12]) (by kernel_rfl) (by simp) ?_
              refine AllReadyH.cons rfl (fun K hK => ?_) AllReadyH.nil
              · refine step_app_grx rfl _ _ 22 rfl w.heap.size _ ((t ++ bmL mk) ++ d) (by rfl) hg11 _ _ [10] (by rfl) (src_slice rfl hten11 (fun h => by cases h)) rfl (by have := L2.out; show _ + 1 ≤ _; omega) HZ11 ?_
                intro v12 y12 hg12 hb12 hk12
                obtain ⟨g12, cp12, rfl, hgB12, -, hgC12⟩ := id hg12
                have hglt12 : g12 < y12.heap.size := hgC12.2.2.1
                have HB12 : Below w.heap.size w y12 := HB11.trans hb12
                have HZ12 : w.heap.size ≤ y12.heap.size := by have := HB12.size; omega
                refine hK.out _ _ (HSC.out _ HB12) (fun hHeld => ?_)
                clear hK K
                refine wpAnyH_take (i := 13) (v := ?_) rfl (by kernel_rfl) (by kernel_rfl) (by kernel_rfl) (fun _ _ _ h => h) (Or.inl ⟨by rfl, ?hy12⟩) (by assumption) ?ty12
                case hy12 => (intro w hSw; (try dsimp only at hSw); go_simp; all_goals with_reducible rfl)
                simp only [Act.put, List.getElem_toArray, List.getElem_cons_zero, List.getElem_cons_succ, List.setIfInBounds_toArray, List.set_cons_zero, List.set_cons_succ]
                refine wpAnyH_done (by kernel_rfl) ?_ _
                clear hHeld
                go_wp2
                go_roundw
                case rel => exact ⟨k + 1, by omega, by go_num, by rw [HSN.out]; simpa [nL] using hg12, HB12⟩
                case measure => simp [intOf]; omega
      · have hy : Below x0.heap.size x0 (x0.alloc (.cells #[.int .u8 10] 5)) := (Below.refl _ _).alloc (Nat.le_refl _) _
        have hten := rd_ten x0
        have hzz : x0.heap.size < (x0.alloc (.cells #[.int .u8 10] 5)).heap.size := by simp
        go_simp
        generalize x0.alloc (.cells #[.int .u8 10] 5) = y13 at *
        have hten13 := hten
        have HB13 : Below w.heap.size w y13 := HBr.trans (hy.mono HZr)
        have HZ13 : w.heap.size ≤ y13.heap.size := by have := HB13.size; omega
        have hg13 := hgr.below hy (Nat.le_refl _)
        have hglt13 := Nat.lt_of_lt_of_le hglt5 hy.size
        have hneW13 : (Value.slice (some ⟨g5, 0, none⟩) t.length cp5).ownBlock ≠ some x0.heap.size := fun h => by have := hglt5; simp [Value.ownBlock] at h; omega
        have hzz13 := hzz
        clear hten hzz
        refine hK.out _ _ (HSC.out _ HB13) (fun hHeld => ?_)
        clear hK K
        refine wpAnyH_ready (rs := [4]) (by kernel_rfl) (by simp) ?_
        refine AllReadyH.cons rfl (fun K hK => ?_) AllReadyH.nil
        · have hq := hcvt y13
          have hcp := grownCap_ge y13 (3 + m) 0 5
          have hcm := grownCap_le_maxLen y13 (3 + m) 0 5 (by unfold maxLen; omega)
          have hy : Below y13.heap.size y13 (y13.alloc (.cells (bytesRow (str (bmL mk)) (grownCap y13 (3 + m) 0 5)) 5 ((bytesRow (str (bmL mk)) (grownCap y13 (3 + m) 0 5)).size, (bytesRow (str (bmL mk)) (grownCap y13 (3 + m) 0 5)).size + 1))).drew := ((Below.refl _ _).alloc (Nat.le_refl _) _).drew
          have hcv : Rd (y13.alloc (.cells (bytesRow (str (bmL mk)) (grownCap y13 (3 + m) 0 5)) 5 ((bytesRow (str (bmL mk)) (grownCap y13 (3 + m) 0 5)).size, (bytesRow (str (bmL mk)) (grownCap y13 (3 + m) 0 5)).size + 1))).drew (some ⟨y13.heap.size, 0, none⟩) (bmL mk) := (Cv.conv y13 (bmL mk) bL _ (by rw [nL]; exact hcp)).rd
          have hzz : y13.heap.size < (y13.alloc (.cells (bytesRow (str (bmL mk)) (grownCap y13 (3 + m) 0 5)) 5 ((bytesRow (str (bmL mk)) (grownCap y13 (3 + m) 0 5)).size, (bytesRow (str (bmL mk)) (grownCap y13 (3 + m) 0 5)).size + 1))).drew.heap.size := by simp
          go_simp
          generalize hcc : grownCap y13 (3 + m) 0 5 = cpC at *
          generalize (y13.alloc (.cells (bytesRow (str (bmL mk)) cpC) 5 ((bytesRow (str (bmL mk)) cpC).size, (bytesRow (str (bmL mk)) cpC).size + 1))).drew = y14 at *
          have hcv14 := hcv
          have hneC14 : ∀ q, some q = (Value.slice (some ⟨g5, 0, none⟩) t.length cp5).ownBlock → q ≠ y13.heap.size := fun q hq' => by have := hglt13; simp [Value.ownBlock] at hq'; omega
          have HB14 : Below w.heap.size w y14 := HB13.trans (hy.mono HZ13)
          have HZ14 : w.heap.size ≤ y14.heap.size := by have := HB14.size; omega
          have hg14 := hg13.below hy (Nat.le_refl _)
          have hglt14 := Nat.lt_of_lt_of_le hglt13 hy.size
          have hneW14 : (Value.slice (some ⟨g5, 0, none⟩) t.length cp5).ownBlock ≠ some y13.heap.size := fun h => by have := hglt13; simp [Value.ownBlock] at h; omega
          have hten14 := hten13.below hy
          have hTlt14 := Nat.lt_of_lt_of_le hzz13 hy.size
          have hzz14 := hzz
          clear hq hcp hcm hcv hzz
          refine hK.out _ _ (HSC.out _ HB14) (fun hHeld => ?_)
          clear hK K
          refine wpAnyH_ready (rs := [5]) (by kernel_rfl) (by simp) ?_
          refine AllReadyH.cons rfl (fun K hK => ?_) AllReadyH.nil
          · refine step_app_grx rfl _ _ 22 rfl w.heap.size _ t (by rfl) hg14 _ _ (bmL mk) (by rfl) (src_slice nL hcv14 (fun h => by cases h)) nL (by omega) HZ14 ?_
            intro v15 y15 hg15 hb15 hk15
            obtain ⟨g15, cp15, rfl, hgB15, -, hgC15⟩ := id hg15
            rw [L1.out] at hg15 hk15 ⊢
            have hglt15 : g15 < y15.heap.size := hgC15.2.2.1
            have HB15 : Below w.heap.size w y15 := HB14.trans hb15
            have HZ15 : w.heap.size ≤ y15.heap.size := by have := HB15.size; omega
            have hten15 := hk15.1 _ _ _ hTlt14 hneW13 hten14
            have hTne15 := hk15.2 _ hTlt14 hneW13
            have hTlt15 := Nat.lt_of_lt_of_le hTlt14 (by have := hb15.size; exact this : y14.heap.size ≤ y15.heap.size)
            refine hK.out _ _ (HSC.out _ HB15) (fun hHeld => ?_)
            clear hK K
            refine wpAnyH_ready (rs := [10]) (by kernel_rfl) (by simp) ?_
            refine AllReadyH.cons rfl (fun K hK => ?_) AllReadyH.nil
            · refine step_app_grx rfl _ _ 22 rfl w.heap.size _ (t ++ bmL mk) (by rfl) hg15 _ _ d (by rfl) (src_slice rfl (HRD.out _ HB15) HNA.out) rfl (by have := L1.out; omega) HZ15 ?_
              intro v16 y16 hg16 hb16 hk16
              obtain ⟨g16, cp16, rfl, hgB16, -, hgC16⟩ := id hg16
              rw [L2.out] at hg16 hk16 ⊢
              have hglt16 : g16 < y16.heap.size := hgC16.2.2.1
              have HB16 : Below w.heap.size w y16 := HB15.trans hb16
              have HZ16 : w.heap.size ≤ y16.heap.size := by have := HB16.size; omega
              have hten16 := hk16.1 _ _ _ hTlt15 hTne15 hten15
              have hTne16 := hk16.2 _ hTlt15 hTne15
              have hTlt16 := Nat.lt_of_lt_of_le hTlt15 (by have := hb16.size; exact this : y15.heap.size ≤ y16.heap.size)
              refine hK.out _ _ (HSC.out _ HB16) (fun hHeld => ?_)
              clear hK K
              refine wpAnyH_ready (rs := [12]) (by kernel_rfl) (by simp) ?_
              refine AllReadyH.cons rfl (fun K hK => ?_) AllReadyH.nil
              · refine step_app_grx rfl _ _ 22 rfl w.heap.size _ ((t ++ bmL mk) ++ d) (by rfl) hg16 _ _ [10] (by rfl) (src_slice rfl hten16 (fun h => by cases h)) rfl (by have := L2.out; show _ + 1 ≤ _; omega) HZ16 ?_
                intro v17 y17 hg17 hb17 hk17
                obtain ⟨g17, cp17, rfl, hgB17, -, hgC17⟩ := id hg17
                have hglt17 : g17 < y17.heap.size := hgC17.2.2.1
                have HB17 : Below w.heap.size w y17 := HB16.trans hb17
                have HZ17 : w.heap.size ≤ y17.heap.size := by have := HB17.size; omega
                refine hK.out _ _ (HSC.out _ HB17) (fun hHeld => ?_)
                clear hK K
                refine wpAnyH_take (i := 13) (v := ?_) rfl (by kernel_rfl) (by kernel_rfl) (by kernel_rfl) (fun _ _ _ h => h) (Or.inl ⟨by rfl, ?hy13⟩) (by assumption) ?ty13
                case hy13 => (intro w hSw; (try dsimp only at hSw); go_simp; all_goals with_reducible rfl)
                simp only [Act.put, List.getElem_toArray, List.getElem_cons_zero, List.getElem_cons_succ, List.setIfInBounds_toArray, List.set_cons_zero, List.set_cons_succ]
                refine wpAnyH_done (by kernel_rfl) ?_ _
                clear hHeld
                go_wp2
                go_roundw
                case rel => exact ⟨k + 1, by omega, by go_num, by rw [HSN.out]; simpa [nL] using hg17, HB17⟩
                case measure => simp [intOf]; omega
    · have hki : ¬ (k : Int) < (n : Int) := by omega
      have HA : Hid (bmA mk ls = (bmH mk ++ bmB mk (ls.take k)) ++ bmE mk) := by
        show _ = _
        unfold bmA; rw [show k = ls.length by omega, List.take_length]
      have hcvt := run_bytes_of_string (P := Tryz.prog) wr 9 22 5 (str (bmE mk)) Tryz.underlying9 Tryz.underlying22 Tryz.underlying5
      rw [str_size, nE] at hcvt
      have hcp := grownCap_ge wr (5 + m) 0 5
      have hcm := grownCap_le_maxLen wr (5 + m) 0 5 (by unfold maxLen; omega)
      have hy : Below wr.heap.size wr (wr.alloc (.cells (bytesRow (str (bmE mk)) (grownCap wr (5 + m) 0 5)) 5 ((bytesRow (str (bmE mk)) (grownCap wr (5 + m) 0 5)).size, (bytesRow (str (bmE mk)) (grownCap wr (5 + m) 0 5)).size + 1))).drew := ((Below.refl _ _).alloc (Nat.le_refl _) _).drew
      have hcv : Rd (wr.alloc (.cells (bytesRow (str (bmE mk)) (grownCap wr (5 + m) 0 5)) 5 ((bytesRow (str (bmE mk)) (grownCap wr (5 + m) 0 5)).size, (bytesRow (str (bmE mk)) (grownCap wr (5 + m) 0 5)).size + 1))).drew (some ⟨wr.heap.size, 0, none⟩) (bmE mk) := (Cv.conv wr (bmE mk) bE _ (by rw [nE]; exact hcp)).rd
      have hg1 := hgr.below hy (Nat.le_refl _)
      have hb1 : Below w.heap.size w (wr.alloc (.cells (bytesRow (str (bmE mk)) (grownCap wr (5 + m) 0 5)) 5 ((bytesRow (str (bmE mk)) (grownCap wr (5 + m) 0 5)).size, (bytesRow (str (bmE mk)) (grownCap wr (5 + m) 0 5)).size + 1))).drew := hbel.trans (hy.mono hzr)
      have hz1 : w.heap.size ≤ (wr.alloc (.cells (bytesRow (str (bmE mk)) (grownCap wr (5 + m) 0 5)) 5 ((bytesRow (str (bmE mk)) (grownCap wr (5 + m) 0 5)).size, (bytesRow (str (bmE mk)) (grownCap wr (5 + m) 0 5)).size + 1))).drew.heap.size := by have := hb1.size; omega
      obtain ⟨g5, cp5, rfl, -⟩ := id hgr
      clear HLEN HA0
      generalize bmH mk ++ bmB mk (ls.take k) = t at *
      go_wp2_with (at_builtin; refine wpList_app_grx rfl _ _ 22 rfl w.heap.size _ t (by rfl) hg1 _ _ (bmE mk) (by rfl) (src_slice nE hcv (fun h => by cases h)) nE (by omega) hz1 ?_; intro v1 w3 hg3 hb3; have hB3 := hb1.trans hb3)
      go_ret
      exact ⟨_, rfl, by rw [HA.out]; exact hg3, hB3⟩
end Go.Proofs.YtaefomiofoakhaaGreatDoor
