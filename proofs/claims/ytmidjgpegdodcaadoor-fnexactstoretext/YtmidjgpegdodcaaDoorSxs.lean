/- What the program says of a store; no conditions beyond those that each fact names. -/
import Derived.Test.YtmidjgpegdodcaaDoorSxq
import Derived.Test.YtmidjgpegdodcaaDoorStc
namespace Go.Proofs.YtmidjgpegdodcaaDoor
open Go.RowKit

/-- What StoreText answers. -/
def zT (v : Int) (l : List Bx) : Int × List Nat := if stV v l = 0 then (0, szT l) else (stV v l, [])
def ZEnd (v : Int) (l : List Bx) (w : World) (e : Ending) (w' : World) : Prop := e = .returned (.agg #[.int .i64 (zT v l).1, .string (str (zT v l).2)]) ∧ Below w.heap.size w w'

set_option maxHeartbeats 3200000 in
set_option maxRecDepth 100000 in
theorem storeText_any (v : Int) (s : SlQ) (l : List Bx) {lo : Nat} (w : World) (hs : IsXs lo w s l) (hf : FtXs l) (hT : TabW w) :
    Calls Tryd.prog 7 #[.agg #[.int .i64 v, slW s]] w fun e w' => ZEnd v l w e w' := by
  unfold ZEnd
  have HV : Hid (zT v l = if stV v l = 0 then (0, szT l) else (stV v l, [])) := rfl
  have HOK : Hid (stV v l = 0 → l.length ≤ 3 ∧ ∀ b ∈ l, bfV b = 0) := stV_okX
  obtain ⟨V0, hV0⟩ : ∃ V0, w.alloc (.cells #[.int .i64 v, slW s] 31) = V0 := ⟨_, rfl⟩
  have hbV : Below w.heap.size w V0 := by rw [← hV0]; exact (Below.refl _ _).alloc (Nat.le_refl _) _
  have hD0 : Dc V0 w.heap.size (.int .i64 v, slW s) := by rw [← hV0]; exact Dc.new w (.int .i64 v) (slW s) 31
  have hVs : V0.heap.size = w.heap.size + 1 := by rw [← hV0]; simp
  obtain ⟨W0, hW0⟩ : ∃ W0, V0.alloc (.cells #[.int .i64 0, .string ⟨#[]⟩] 27) = W0 := ⟨_, rfl⟩
  have hbW : Below V0.heap.size V0 W0 := by rw [← hW0]; exact (Below.refl _ _).alloc (Nat.le_refl _) _
  have hWs : W0.heap.size = w.heap.size + 2 := by rw [← hW0]; simp; omega
  have hb0 : Below w.heap.size w W0 := hbV.trans (hbW.mono hbV.size)
  have hD1 := hD0.below hbW (by omega)
  have hs0 := hs.below hb0
  have hT0 := hT.below hb0
  have HCF := storeFault_any v s l W0 hs0 hf
  have HRB : Hid (∀ wr, Below (w.heap.size + 2) W0 wr → wr.cell? ⟨w.heap.size + 1, 0, none⟩ = some (.int .i64 0) ∧ wr.cell? ⟨w.heap.size + 1, 1, none⟩ = some (.string ⟨#[]⟩) ∧ wr.frozen? ⟨w.heap.size + 1, 0, none⟩ = false ∧ wr.frozen? ⟨w.heap.size + 1, 1, none⟩ = false) := fun wr h => by
    have := res_block hW0 (wr := wr) (by rw [hVs]; exact h)
    rw [hVs] at this; exact this
  clear hs hT hbV hbW hD0
  obtain ⟨a, n, cap⟩ := s
  dsimp only [slW] at *
  obtain ⟨hl, hnc, hcm, hr⟩ := hs0
  dsimp only at hl hnc hcm hr
  obtain ⟨c0, c1⟩ := id hD1
  dsimp only at c0 c1
  generalize hZ : zT v l = Z at *
  generalize stV v l = c at *
  go_enter Tryd.func7, Tryd.ntmps7
  go_wp2_with fail
  try rw [hV0]
  try simp only [hVs, hW0]
  refine HCF.mono ?_
  rintro e w1 ⟨rfl, hb1⟩
  have hB1 : Below (w.heap.size + 2) W0 w1 := by rw [← hWs]; exact hb1
  have hB0 : Below w.heap.size w w1 := hb0.trans (hb1.mono (by omega))
  have hD2 := hD1.below hb1 (by omega)
  have hr1 := hr.below hb1
  have hT1 := hT0.below hb1
  clear c0 c1 hD1 hr hT0 hb1 HCF hb0
  obtain ⟨c0, c1⟩ := id hD2
  dsimp only at c0 c1
  obtain ⟨x0, x1, f0, f1⟩ := HRB.out _ hB1
  by_cases hc : c = 0
  · subst hc
    have HZ : Hid (Z = (0, szT l)) := HV.out.trans (if_pos rfl)
    obtain ⟨h3, hbx⟩ := HOK.out rfl
    clear HOK HV
    by_cases hn : n = 0
    · subst hn
      have HSZ : Hid (szT l = lnW [[110, 111, 110, 101]]) := by
        show _ = _
        unfold szT
        rw [if_pos (by omega)]; rfl
      have hnI : ((0 : Nat) : Int) = 0 := rfl
      have HO : OwnS (w1.alloc (.cells #[.string ⟨#[110, 111, 110, 101]⟩] 9)) w1.heap.size (.slice (some ⟨w1.heap.size, 0, none⟩) 1 1) [[110, 111, 110, 101]] := OwnS.lit w1 _ (Nat.le_refl _) _ _ rfl (show 1 ≤ maxLen by unfold maxLen; omega)
      have hbN : Below w1.heap.size w1 (w1.alloc (.cells #[.string ⟨#[110, 111, 110, 101]⟩] 9)) := (Below.refl _ _).alloc (Nat.le_refl _) _
      clear hr1 hbx
      go_wp2_with fail
      refine (lineOf_any _ _ _ _ _ _ HO (by simp) (by simp) (by simp [jnW])).mono ?_
      rintro e w2 ⟨rfl, hb2⟩
      have hbx2 : Below w1.heap.size w1 w2 := hbN.trans (hb2.mono hbN.size)
      have hB2 : Below (w.heap.size + 2) W0 w2 := hB1.trans (hbx2.mono (by have := hB1.size; omega))
      obtain ⟨y0, y1, z0, z1⟩ := HRB.out _ hB2
      obtain ⟨sx, hsx⟩ : ∃ sx, sx = str (lnW [[110, 111, 110, 101]]) := ⟨_, rfl⟩
      rw [← hsx]
      obtain ⟨k0, k1⟩ := res_cells y0 y1 (.int .i64 0) (.string sx)
      have HY : Hid (Z.1 = 0 ∧ str Z.2 = sx) := ⟨by rw [HZ.out], by rw [HZ.out, hsx, ← HSZ.out]⟩
      have hBE := hB0.trans (hbx2.mono hB0.size)
      clear hsx HZ HSZ x0 x1 f0 f1 hb2 hbx2 hB2 c0 c1 HO hbN
      go_wp2
      refine bodyPost_ret (v := .agg #[.int .i64 0, .string sx]) (by simp [results, Tryd.results7, go_sem, k0, k1]) rfl ?_
      refine ⟨?_, (hBE.setCell (Nat.le_succ _) _).setCell (Nat.le_succ _) _⟩
      rw [HY.out.1, HY.out.2]
    · have hnI : ¬ ((n : Int) = 0) := by omega
      have hnB : ((n : Int) == 0) = false := beq_eq_false_iff_ne.2 hnI
      have HSZ : Hid (szT l = (l.map bzT).flatten) := by
        show _ = _
        unfold szT
        rw [if_neg (by omega)]
      go_wp2
      go_loopw [4, 23] (fun q i wr => ∃ k : Nat, k ≤ n ∧ i = .int .i64 k ∧ q = .string (str ((l.take k).map bzT).flatten) ∧ Below w1.heap.size w1 wr) (fun _ i _ => n - (intOf i).toNat)
      case atStart => exact ⟨0, Nat.zero_le _, rfl, rfl, Below.refl _ _⟩
      case round =>
        obtain ⟨k, hk, rfl, rfl, hbel⟩ := hrel
        by_cases hkn : k < n
        · have hki : (k : Int) < (n : Int) := by omega
          obtain ⟨g, off, rfl, -, hglt, hcell⟩ := (hr1.below hbel).at_ (by omega)
          obtain ⟨⟨ya, yn, yc⟩, ⟨d0, d1, d2, d3⟩, hI⟩ := hcell k (by omega)
          have hmem : nthX l k ∈ l := by rw [nthX_get (by omega)]; exact List.getElem_mem _
          have HST : Hid (((l.take (k + 1)).map bzT).flatten = ((l.take k).map bzT).flatten ++ bzT (nthX l k)) := by
            show _ = _
            rw [nthX_get (by omega), List.take_succ_eq_append_getElem (by omega), List.map_append, List.flatten_append, List.map_cons, List.map_nil, List.flatten_cons, List.flatten_nil, List.append_nil]
          have hok : bfV (nthX l k) = 0 := hbx _ hmem
          have hlb : (bzT (nthX l k)).length ≤ 200 := by
            obtain ⟨q1, _, _, q4, _⟩ := bfV_okX hok
            exact bzT_len _ q1 q4
          have hlen : (((l.take k).map bzT).flatten).length ≤ 600 := by
            have := bzs_len (l.take k) fun b hb => by
              obtain ⟨q1, _, _, q4, _⟩ := bfV_okX (hbx b (List.mem_of_mem_take hb))
              exact bzT_len _ q1 q4
            rw [List.length_take] at this; omega
          have hbA : Below wr.heap.size wr (wr.alloc (.cells #[.string (nthX l k).n, .int .i64 (nthX l k).v, .int .i64 (nthX l k).x, .slice ya yn yc] 45)) := (Below.refl _ _).alloc (Nat.le_refl _) _
          have hbelA := hbel.trans (hbA.mono hbel.size)
          have HCB := boxText_any (nthX l k) (ya, yn, yc) (wr.alloc (.cells #[.string (nthX l k).n, .int .i64 (nthX l k).v, .int .i64 (nthX l k).x, .slice ya yn yc] 45)) (hI.below hbA) hok (hT1.below hbelA)
          have hQA := Qc.new wr (.string (nthX l k).n) (.int .i64 (nthX l k).v) (.int .i64 (nthX l k).x) (.slice ya yn yc) 45
          have hz1 : (str (((l.take k).map bzT).flatten)).size ≤ 600 := by rw [str_size]; exact hlen
          have hz2 : (str (bzT (nthX l k))).size ≤ 200 := by rw [str_size]; exact hlb
          have HR : Hid (str (((l.take k).map bzT).flatten) ++ str (bzT (nthX l k)) = str (((l.take (k + 1)).map bzT).flatten)) := by
            show _ = _
            rw [str_plusX, HST.out]
          clear HST hcell hI hlen hlb hok hmem
          generalize str (bzT (nthX l k)) = s2 at *
          generalize str (((l.take k).map bzT).flatten) = s1 at *
          generalize nthX l k = y at *
          obtain ⟨yn0, yv, yx, ym⟩ := y
          dsimp only [slW] at d0 d1 d2 d3 HCB hQA hbA hbelA
          obtain ⟨e0, e1, e2, e3⟩ := hQA
          dsimp only at e0 e1 e2 e3
          go_wp2_with fail
          refine HCB.mono ?_
          rintro e w2 ⟨rfl, hb2⟩
          have hbel2 := hbelA.trans (hb2.mono hbelA.size)
          clear HCB hb2 hbelA hbA e0 e1 e2 e3 d0 d1 d2 d3
          go_wp2
          go_roundw
          case rel => exact ⟨k + 1, by omega, by go_num, by rw [HR.out], hbel2⟩
          case measure => simp [intOf]; omega
        · have hki : ¬ (k : Int) < (n : Int) := by omega
          have hE : ((l.take k).map bzT).flatten = szT l := by rw [HSZ.out, List.take_of_length_le (by omega)]
          rw [hE]
          have hB2 : Below (w.heap.size + 2) W0 wr := hB1.trans (hbel.mono (by have := hB1.size; omega))
          obtain ⟨y0, y1, z0, z1⟩ := HRB.out _ hB2
          obtain ⟨sx, hsx⟩ : ∃ sx, sx = str (szT l) := ⟨_, rfl⟩
          rw [← hsx]
          obtain ⟨k0, k1⟩ := res_cells y0 y1 (.int .i64 0) (.string sx)
          have HY : Hid (Z.1 = 0 ∧ str Z.2 = sx) := ⟨by rw [HZ.out], by rw [HZ.out, hsx]⟩
          have hBE := hB0.trans (hbel.mono hB0.size)
          clear hsx HZ HSZ x0 x1 f0 f1 hB2 c0 c1 hE hr1 hbx
          go_wp2
          refine bodyPost_ret (v := .agg #[.int .i64 0, .string sx]) (by simp [results, Tryd.results7, go_sem, k0, k1]) rfl ?_
          refine ⟨?_, (hBE.setCell (Nat.le_succ _) _).setCell (Nat.le_succ _) _⟩
          rw [HY.out.1, HY.out.2]
  · have HZ : Hid (Z = (c, [])) := HV.out.trans (if_neg hc)
    have hcB : (c == 0) = false := beq_eq_false_iff_ne.2 hc
    obtain ⟨k0, k1⟩ := res_cells x0 x1 (.int .i64 c) (.string ⟨#[]⟩)
    have HY : Hid (Z.1 = c ∧ str Z.2 = ⟨#[]⟩) := ⟨by rw [HZ.out], by rw [HZ.out]; rfl⟩
    clear HZ HV HOK
    go_wp2
    refine bodyPost_ret (v := .agg #[.int .i64 c, .string ⟨#[]⟩]) (by simp [results, Tryd.results7, go_sem, k0, k1]) rfl ?_
    refine ⟨?_, (hB0.setCell (Nat.le_succ _) _).setCell (Nat.le_succ _) _⟩
    rw [HY.out.1, HY.out.2]
end Go.Proofs.YtmidjgpegdodcaaDoor
