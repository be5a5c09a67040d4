/- What the program says of a store: its digits, its lines, a mailbox; no conditions beyond those that each fact names. -/
import Derived.Test.YtmidjgpegdodcaaDoorSxp
import Derived.Deep.RegionHeld3
import Derived.Lib.AppendIntMem
namespace Go.Proofs.YtmidjgpegdodcaaDoor
open Go.RowKit

theorem digitsOf_any (n : Int) (w : World) (h0 : 0 ≤ n) (h9 : n ≤ 9999) (ht : TabW w) : Calls Tryd.prog 27 #[.int .i64 n] w fun e w' => e = .returned (.string (str (d4 n))) ∧ Below w.heap.size w w' := by
  obtain ⟨m, rfl⟩ : ∃ m : Nat, n = (m : Int) := ⟨n.toNat, by omega⟩
  have HF := Tryd.strconv_FormatInt_10 (m : Int) (by omega) (by omega) w ht
  rw [itoa4_str (by omega)] at HF
  have HV : Hid (d4 (m : Int) = dgF 3 m) := by
    show _ = _
    unfold d4
    rw [Int.toNat_natCast]
  go_enter Tryd.func27, Tryd.ntmps27
  go_wp2_with fail
  refine HF.mono ?_
  rintro e w1 ⟨rfl, k, os, rfl⟩
  have hbw := Lib.below_grow w.heap.size w (Nat.le_refl _) k os
  go_wp2
  go_ret
  exact ⟨by rw [HV.out]; rfl, hbw⟩

theorem str_plusX (a b : List Nat) : str a ++ str b = str (a ++ b) := by
  apply ByteArray.ext
  rw [ByteArray.data_append]
  simp [str]
theorem join_rowX (w : World) (B : Nat) (a : Option Addr) (n c : Nat) (ws : List (List Nat)) (hO : OwnS w B (.slice a n c) ws) (hp : 0 < ws.length) (hl : ws.length ≤ 1000) (hr : (jnW ws).length ≤ 100000000) :
    Calls Tryd.prog 26 #[.slice a n c, .string ⟨#[32]⟩] w fun e w' => e = .returned (.string (str (jnW ws))) ∧ Below w.heap.size w w' := by
  have hj := jnW_join ws
  obtain ⟨aw, cw, hv, hwc, hwm⟩ := hO.form
  cases hv
  obtain ⟨hlen, hrd⟩ := hO.rd
  obtain ⟨g, o, rfl, hglt, hcell⟩ := hrd.at_ hp
  have HC := Tryd.strings_Join g o c (ws.map str) ⟨#[32]⟩ w (fun i x hx => by
    have hi : i < ws.length := by
      rcases Nat.lt_or_ge i ws.length with h | h
      · exact h
      · rw [List.getElem?_eq_none (by rw [List.length_map]; exact h)] at hx; cases hx
    rw [List.getElem?_map, List.getElem?_eq_getElem hi, Option.map_some] at hx
    cases hx
    have := hcell i hi
    rw [nthS_get hi] at this
    exact this) hglt (by rw [List.length_map]; omega) (by rw [List.length_map]; exact hwc) (by
    rw [List.map_map]
    rw [show (List.map ((fun x => x.data.toList) ∘ str) ws) = (ws.map fun x => (str x).data.toList) from rfl, show (ByteArray.mk #[32]).data.toList = [32] from rfl, hj, List.length_map]
    omega)
  rw [List.length_map, List.map_map, show (List.map ((fun x => x.data.toList) ∘ str) ws) = (ws.map fun x => (str x).data.toList) from rfl, show (ByteArray.mk #[32]).data.toList = [32] from rfl, hj] at HC
  exact HC

theorem lineOf_any (w : World) (B : Nat) (a : Option Addr) (n c : Nat) (ws : List (List Nat)) (hO : OwnS w B (.slice a n c) ws) (hp : 0 < ws.length) (hl : ws.length ≤ 1000) (hr : (jnW ws).length ≤ 100000) :
    Calls Tryd.prog 15 #[.slice a n c] w fun e w' => e = .returned (.string (str (lnW ws))) ∧ Below w.heap.size w w' := by
  have HJ := join_rowX w B a n c ws hO hp hl (by omega)
  have HV : Hid (str (jnW ws) ++ ⟨#[10]⟩ = str (lnW ws)) := str_plusX (jnW ws) [10]
  have hz : (str (jnW ws)).size ≤ 100000 := by rw [str_size]; exact hr
  clear hO hp hl hr
  generalize str (jnW ws) = x at *
  go_enter Tryd.func15, Tryd.ntmps15
  go_wp2_with fail
  refine HJ.mono ?_
  rintro e w1 ⟨rfl, hb1⟩
  go_wp2
  go_ret
  exact ⟨by rw [← HV.out]; rfl, hb1⟩


set_option maxHeartbeats 3200000 in
set_option maxRecDepth 100000 in
theorem boxText_any (m : Bx) (s : SlQ) {lo : Nat} (w : World) (hs : IsMs lo w s m.m) (hok : bfV m = 0) (hT : TabW w) :
    Calls Tryd.prog 16 #[bxX m s] w fun e w' => e = .returned (.string (str (bzT m))) ∧ Below w.heap.size w w' := by
  obtain ⟨hnl, hv9, hx9, hm6, hms⟩ := bfV_okX hok
  have hb0 : Below w.heap.size w (w.alloc (.cells #[.string m.n, .int .i64 m.v, .int .i64 m.x, slW s] 45)) := (Below.refl _ _).alloc (Nat.le_refl _) _
  have hQ0 := Qc.new w (.string m.n) (.int .i64 m.v) (.int .i64 m.x) (slW s) 45
  have hs0 := hs.below hb0
  have hT0 := hT.below hb0
  have HZ : Hid (bzT m = lnW [[98, 111, 120], txB m.n, d4 m.v, d4 m.x] ++ (m.m.map mzT).flatten) := rfl
  have HDv : Hid (∀ w, TabW w → Calls Tryd.prog 27 #[.int .i64 m.v] w fun e w' => e = .returned (.string (str (d4 m.v))) ∧ Below w.heap.size w w') := fun w h => digitsOf_any m.v w hv9.1 hv9.2 h
  have HDx : Hid (∀ w, TabW w → Calls Tryd.prog 27 #[.int .i64 m.x] w fun e w' => e = .returned (.string (str (d4 m.x))) ∧ Below w.heap.size w w') := fun w h => digitsOf_any m.x w hx9.1 hx9.2 h
  have HJL : Hid ((jnW [[98, 111, 120], txB m.n, d4 m.v, d4 m.x]).length ≤ 100000) := by
    have h1 := d4_len m.v
    have h2 := d4_len m.x
    show _ ≤ _
    simp [jnW]; omega
  have HLL : Hid ((lnW [[98, 111, 120], txB m.n, d4 m.v, d4 m.x]).length ≤ 40) := by
    have h1 := d4_len m.v
    have h2 := d4_len m.x
    show _ ≤ _
    simp [lnW, jnW]; omega
  clear hs hT hnl hv9 hx9
  obtain ⟨a, n, cap⟩ := s
  obtain ⟨nm, v, x, l⟩ := m
  dsimp only [slW] at *
  obtain ⟨hl, hnc, hcm, hr⟩ := hs0
  dsimp only at hl hnc hcm hr
  generalize bzT ⟨nm, v, x, l⟩ = D at *
  obtain ⟨sv, hsv⟩ : ∃ sv, sv = str (d4 v) := ⟨_, rfl⟩
  obtain ⟨sx, hsx⟩ : ∃ sx, sx = str (d4 x) := ⟨_, rfl⟩
  have HW : Hid ([Value.string ⟨#[98, 111, 120]⟩, .string nm, .string sv, .string sx] = sc [[98, 111, 120], txB nm, d4 v, d4 x]) := by
    show _ = _
    rw [hsv, hsx]
    show _ = [Value.string (str [98, 111, 120]), .string (str (txB nm)), .string (str (d4 v)), .string (str (d4 x))]
    rw [str_txB]; rfl
  rw [← hsv] at HDv
  rw [← hsx] at HDx
  clear hsv hsx
  have hn6 : n ≤ 6 := by omega
  go_enter Tryd.func16, Tryd.ntmps16
  go_wp2_with fail
  obtain ⟨W0, hW0⟩ : ∃ W0, w.alloc (.cells #[.string nm, .int .i64 v, .int .i64 x, .slice a n cap] 45) = W0 := ⟨_, rfl⟩
  rw [hW0] at hb0 hQ0 hr hT0 ⊢
  clear hW0
  refine wp_region_held_drew (S := fun w' => Qc w' w.heap.size (.string nm, .int .i64 v, .int .i64 x, .slice a n cap)) (by kernel_rfl) ?hS2 (fun hHeld => ?_)
  case hS2 => exact hQ0
  refine wpAnyH_take (i := 0) (v := ?_) rfl (by kernel_rfl) (by kernel_rfl) (by kernel_rfl) (fun _ _ _ h => h) (Or.inl ⟨by rfl, ?hy3⟩) (by assumption) ?ty3
  case hy3 => (intro w5 hSw; obtain ⟨p0, p1, p2, p3⟩ := hSw; dsimp only at p0 p1 p2 p3; go_simp; all_goals with_reducible rfl)
  simp only [Act.put, List.getElem_toArray, List.getElem_cons_zero, List.setIfInBounds_toArray, List.set_cons_zero, List.set_cons_succ]
  refine wpAnyH_take (i := 1) (v := ?_) rfl (by kernel_rfl) (by kernel_rfl) (by kernel_rfl) (fun _ _ _ h => h) (Or.inl ⟨by rfl, ?hy4⟩) (by assumption) ?ty4
  case hy4 => (intro w5 hSw; obtain ⟨p0, p1, p2, p3⟩ := hSw; dsimp only at p0 p1 p2 p3; go_simp; all_goals with_reducible rfl)
  simp only [Act.put, List.getElem_toArray, List.getElem_cons_zero, List.getElem_cons_succ, List.setIfInBounds_toArray, List.set_cons_zero, List.set_cons_succ]
  refine wpAnyH_take (i := 2) (v := ?_) rfl (by kernel_rfl) (by kernel_rfl) (by kernel_rfl) (fun _ _ _ h => h) (Or.inl ⟨by rfl, ?hy5⟩) (by assumption) ?ty5
  case hy5 => (intro w5 hSw; obtain ⟨p0, p1, p2, p3⟩ := hSw; dsimp only at p0 p1 p2 p3; go_simp; all_goals with_reducible rfl)
  simp only [Act.put, List.getElem_toArray, List.getElem_cons_zero, List.getElem_cons_succ, List.setIfInBounds_toArray, List.set_cons_zero, List.set_cons_succ]
  refine wpAnyH_take (i := 3) (v := ?_) rfl (by kernel_rfl) (by kernel_rfl) (by kernel_rfl) (fun _ _ _ h => h) (Or.inl ⟨by rfl, ?hy6⟩) (by assumption) ?ty6
  case hy6 => (intro w5 hSw; obtain ⟨p0, p1, p2, p3⟩ := hSw; dsimp only at p0 p1 p2 p3; go_simp; all_goals with_reducible rfl)
  simp only [Act.put, List.getElem_toArray, List.getElem_cons_zero, List.getElem_cons_succ, List.setIfInBounds_toArray, List.set_cons_zero, List.set_cons_succ]
  refine wpAnyH_take (i := 5) (v := ?_) rfl (by kernel_rfl) (by kernel_rfl) (by kernel_rfl) (fun _ _ _ h => h) (Or.inl ⟨by rfl, ?hy7⟩) (by assumption) ?ty7
  case hy7 => (intro w5 hSw; obtain ⟨p0, p1, p2, p3⟩ := hSw; dsimp only at p0 p1 p2 p3; go_simp; all_goals with_reducible rfl)
  simp only [Act.put, List.getElem_toArray, List.getElem_cons_zero, List.getElem_cons_succ, List.setIfInBounds_toArray, List.set_cons_zero, List.set_cons_succ]
  refine wpAnyH_take (i := 6) (v := ?_) rfl (by kernel_rfl) (by kernel_rfl) (by kernel_rfl) (fun _ _ _ h => h) (Or.inl ⟨by rfl, ?hy8⟩) (by assumption) ?ty8
  case hy8 => (intro w5 hSw; obtain ⟨p0, p1, p2, p3⟩ := hSw; dsimp only at p0 p1 p2 p3; go_simp; all_goals with_reducible rfl)
  simp only [Act.put, List.getElem_toArray, List.getElem_cons_zero, List.getElem_cons_succ, List.setIfInBounds_toArray, List.set_cons_zero, List.set_cons_succ]
  refine wpAnyH_ready (rs := [4]) (by kernel_rfl) (by simp) ?_
  refine AllReadyH.cons rfl (fun K hK => ?_) AllReadyH.nil
  go_simp
  refine (HDv.out _ (hT0.below (Below.refl _ _).drew)).mono ?_
  rintro e v1 ⟨rfl, hb1⟩
  have K1 : Below W0.heap.size W0 v1 := (Below.refl _ _).drew.trans hb1
  have Q1 := hQ0.below K1 hQ0.lt
  refine hK.out _ _ Q1 (fun hHeld => ?_)
  clear hK K
  refine wpAnyH_ready (rs := [7]) (by kernel_rfl) (by simp) ?_
  refine AllReadyH.cons rfl (fun K hK => ?_) AllReadyH.nil
  go_simp
  refine (HDx.out _ (hT0.below K1)).mono ?_
  rintro e v2 ⟨rfl, hb2⟩
  have K2 : Below W0.heap.size W0 v2 := K1.trans (hb2.mono K1.size)
  have Q2 := hQ0.below K2 hQ0.lt
  refine hK.out _ _ Q2 (fun hHeld => ?_)
  clear hK K
  refine wpAnyH_ready (rs := [8]) (by kernel_rfl) (by simp) ?_
  refine AllReadyH.cons rfl (fun K hK => ?_) AllReadyH.nil
  go_simp
  have K3 : Below W0.heap.size W0 (v2.alloc (.cells #[.string ⟨#[98, 111, 120]⟩, .string nm, .string sv, .string sx] 9)) := K2.alloc K2.size _
  have HO : OwnS (v2.alloc (.cells #[.string ⟨#[98, 111, 120]⟩, .string nm, .string sv, .string sx] 9)) v2.heap.size (.slice (some ⟨v2.heap.size, 0, none⟩) 4 4) [[98, 111, 120], txB nm, d4 v, d4 x] := OwnS.lit v2 _ (Nat.le_refl _) _ _ HW.out (show 4 ≤ maxLen by unfold maxLen; omega)
  have Q3 := hQ0.below K3 hQ0.lt
  refine hK.out _ _ Q3 (fun hHeld => ?_)
  clear hK K
  refine wpAnyH_ready (rs := [9]) (by kernel_rfl) (by simp) ?_
  refine AllReadyH.cons rfl (fun K hK => ?_) AllReadyH.nil
  go_simp
  refine (lineOf_any _ _ _ _ _ _ HO (by simp) (by simp) HJL.out).mono ?_
  rintro e v4 ⟨rfl, hb4⟩
  have K4 : Below W0.heap.size W0 v4 := K3.trans (hb4.mono K3.size)
  have Q4 := hQ0.below K4 hQ0.lt
  refine hK.out _ _ Q4 (fun hHeld => ?_)
  clear hK K
  refine wpAnyH_take (i := 10) (v := ?_) rfl (by kernel_rfl) (by kernel_rfl) (by kernel_rfl) (fun _ _ _ h => h) (Or.inl ⟨by rfl, ?hy9⟩) (by assumption) ?ty9
  case hy9 => (intro w5 hSw; obtain ⟨p0, p1, p2, p3⟩ := hSw; dsimp only at p0 p1 p2 p3; go_simp; all_goals with_reducible rfl)
  simp only [Act.put, List.getElem_toArray, List.getElem_cons_zero, List.getElem_cons_succ, List.setIfInBounds_toArray, List.set_cons_zero, List.set_cons_succ]
  refine wpAnyH_done (by kernel_rfl) ?_ _
  clear hHeld hb1 hb2 hb4 Q1 Q2 Q3 Q4 HO K1 K2 K3 HDv HDx HW HJL
  have hB4 : Below w.heap.size w v4 := hb0.trans (K4.mono hb0.size)
  have hQ4 := hQ0.below K4 hQ0.lt
  have hr4 := hr.below K4
  have hT4 := hT0.below K4
  clear K4 hQ0 hr hT0 hb0
  generalize lnW [[98, 111, 120], txB nm, d4 v, d4 x] = t0 at *
  obtain ⟨c0, c1, c2, c3⟩ := id hQ4
  dsimp only at c0 c1 c2 c3
  go_wp2
  go_loopw [3, 19] (fun q i wr => ∃ k : Nat, k ≤ n ∧ i = .int .i64 k ∧ q = .string (str (t0 ++ ((l.take k).map mzT).flatten)) ∧ Below v4.heap.size v4 wr) (fun _ i _ => n - (intOf i).toNat)
  case atStart => exact ⟨0, Nat.zero_le _, rfl, by simp, Below.refl _ _⟩
  case round =>
    obtain ⟨k, hk, rfl, rfl, hbel⟩ := hrel
    clear c0 c1 c2 c3
    have hB := hB4.trans (hbel.mono hB4.size)
    by_cases hkn : k < n
    · have hki : (k : Int) < (n : Int) := by omega
      obtain ⟨g, off, rfl, -, hglt, hcell⟩ := (hr4.below hbel).at_ (by omega)
      obtain ⟨⟨ya, yn, yc⟩, ⟨d0, d1, d2, d3⟩, hI⟩ := hcell k (by omega)
      have HST : Hid (((l.take (k + 1)).map mzT).flatten = ((l.take k).map mzT).flatten ++ mzT (nthM l k)) := by
        show _ = _
        rw [nthM_get (by omega), List.take_succ_eq_append_getElem (by omega), List.map_append, List.flatten_append, List.map_cons, List.map_nil, List.flatten_cons, List.flatten_nil, List.append_nil]
      have hy := mfV_okX (hms (nthM l k) (by rw [nthM_get (by omega)]; exact List.getElem_mem _))
      have hlen : (t0 ++ ((l.take k).map mzT).flatten).length ≤ 300 := by
        have := HLL.out
        have h2 := mzs_len (l.take k)
        rw [List.length_take] at h2
        rw [List.length_append]; omega
      have hyn := hI.1
      clear hcell
      generalize ((l.take k).map mzT).flatten = tk at *
      generalize nthM l k = y at *
      obtain ⟨yu, yf, yd, yb⟩ := y
      dsimp only [slW] at d0 d1 d2 d3 hI HST hy hyn
      obtain ⟨⟨hu0, hu9⟩, ⟨hf0, hf9⟩, ⟨hd0, hd9⟩, hb9⟩ := hy
      have HMZ : Hid (mzT ⟨yu, yf, yd, yb⟩ = lnW [[109, 101, 115, 115, 97, 103, 101], d4 yu, d4 yf, d4 yd, d4 (yn : Int)]) := by
        show _ = _
        unfold mzT
        rw [hyn]
      have HDu : Hid (∀ w, TabW w → Calls Tryd.prog 27 #[.int .i64 yu] w fun e w' => e = .returned (.string (str (d4 yu))) ∧ Below w.heap.size w w') := fun w h => digitsOf_any yu w hu0 hu9 h
      have HDf : Hid (∀ w, TabW w → Calls Tryd.prog 27 #[.int .i64 yf] w fun e w' => e = .returned (.string (str (d4 yf))) ∧ Below w.heap.size w w') := fun w h => digitsOf_any yf w hf0 hf9 h
      have HDd : Hid (∀ w, TabW w → Calls Tryd.prog 27 #[.int .i64 yd] w fun e w' => e = .returned (.string (str (d4 yd))) ∧ Below w.heap.size w w') := fun w h => digitsOf_any yd w hd0 hd9 h
      have HDn : Hid (∀ w, TabW w → Calls Tryd.prog 27 #[.int .i64 (yn : Int)] w fun e w' => e = .returned (.string (str (d4 (yn : Int)))) ∧ Below w.heap.size w w') := fun w h => digitsOf_any (yn : Int) w (by omega) (by omega) h
      have HJL : Hid ((jnW [[109, 101, 115, 115, 97, 103, 101], d4 yu, d4 yf, d4 yd, d4 (yn : Int)]).length ≤ 100000) := by
        have h1 := d4_len yu
        have h2 := d4_len yf
        have h3 := d4_len yd
        have h4 := d4_len (yn : Int)
        show _ ≤ _
        simp [jnW]; omega
      have hzl : (str (lnW [[109, 101, 115, 115, 97, 103, 101], d4 yu, d4 yf, d4 yd, d4 (yn : Int)])).size ≤ 28 := by
        rw [str_size, ← HMZ.out]; exact mzT_len _
      obtain ⟨su, hsu⟩ : ∃ z, z = str (d4 yu) := ⟨_, rfl⟩
      obtain ⟨sf, hsf⟩ : ∃ z, z = str (d4 yf) := ⟨_, rfl⟩
      obtain ⟨sd, hsd⟩ : ∃ z, z = str (d4 yd) := ⟨_, rfl⟩
      obtain ⟨sn, hsn⟩ : ∃ z, z = str (d4 (yn : Int)) := ⟨_, rfl⟩
      have HW : Hid ([Value.string ⟨#[109, 101, 115, 115, 97, 103, 101]⟩, .string su, .string sf, .string sd, .string sn] = sc [[109, 101, 115, 115, 97, 103, 101], d4 yu, d4 yf, d4 yd, d4 (yn : Int)]) := by
        show _ = _
        rw [hsu, hsf, hsd, hsn]; rfl
      rw [← hsu] at HDu
      rw [← hsf] at HDf
      rw [← hsd] at HDd
      rw [← hsn] at HDn
      clear hsu hsf hsd hsn hu0 hu9 hf0 hf9 hd0 hd9
      have hzk : (str (t0 ++ tk)).size ≤ 300 := by rw [str_size]; exact hlen
      have HST2 : Hid (t0 ++ ((l.take (k + 1)).map mzT).flatten = (t0 ++ tk) ++ mzT ⟨yu, yf, yd, yb⟩) := by show _ = _; rw [HST.out, List.append_assoc]
      clear HST hlen
      generalize t0 ++ tk = t1 at *
      have hbA : Below wr.heap.size wr (wr.alloc (.cells #[.int .i64 yu, .int .i64 yf, .int .i64 yd, .slice ya yn yc] 60)) := (Below.refl _ _).alloc (Nat.le_refl _) _
      have hQA := Qc.new wr (.int .i64 yu) (.int .i64 yf) (.int .i64 yd) (.slice ya yn yc) 60
      have hbelA := hbel.trans (hbA.mono hbel.size)
      have hgA : wr.heap.size < (wr.alloc (.cells #[.int .i64 yu, .int .i64 yf, .int .i64 yd, .slice ya yn yc] 60)).heap.size := by simp
      have hTA := (hT4.below hbelA)
      go_wp2_with fail
      obtain ⟨WA, hWA⟩ : ∃ WA, wr.alloc (.cells #[.int .i64 yu, .int .i64 yf, .int .i64 yd, .slice ya yn yc] 60) = WA := ⟨_, rfl⟩
      obtain ⟨gA, hgAe⟩ : ∃ gA, wr.heap.size = gA := ⟨_, rfl⟩
      rw [hWA] at hbA hQA hbelA hgA hTA ⊢
      rw [hgAe] at hQA hgA ⊢
      clear hWA d0 d1 d2 d3 hI
      refine wp_region_held_drew (S := fun w' => Qc w' gA (.int .i64 yu, .int .i64 yf, .int .i64 yd, .slice ya yn yc)) (by kernel_rfl) ?hS10 (fun hHeld => ?_)
      case hS10 => exact hQA
      refine wpAnyH_take (i := 0) (v := ?_) rfl (by kernel_rfl) (by kernel_rfl) (by kernel_rfl) (fun _ _ _ h => h) (Or.inl ⟨by rfl, ?hy11⟩) (by assumption) ?ty11
      case hy11 => (intro w5 hSw; obtain ⟨p0, p1, p2, p3⟩ := hSw; dsimp only at p0 p1 p2 p3; go_simp; all_goals with_reducible rfl)
      simp only [Act.put, List.getElem_toArray, List.getElem_cons_zero, List.setIfInBounds_toArray, List.set_cons_zero, List.set_cons_succ]
      refine wpAnyH_take (i := 1) (v := ?_) rfl (by kernel_rfl) (by kernel_rfl) (by kernel_rfl) (fun _ _ _ h => h) (Or.inl ⟨by rfl, ?hy12⟩) (by assumption) ?ty12
      case hy12 => (intro w5 hSw; obtain ⟨p0, p1, p2, p3⟩ := hSw; dsimp only at p0 p1 p2 p3; go_simp; all_goals with_reducible rfl)
      simp only [Act.put, List.getElem_toArray, List.getElem_cons_zero, List.getElem_cons_succ, List.setIfInBounds_toArray, List.set_cons_zero, List.set_cons_succ]
      refine wpAnyH_take (i := 2) (v := ?_) rfl (by kernel_rfl) (by kernel_rfl) (by kernel_rfl) (fun _ _ _ h => h) (Or.inl ⟨by rfl, ?hy13⟩) (by assumption) ?ty13
      case hy13 => (intro w5 hSw; obtain ⟨p0, p1, p2, p3⟩ := hSw; dsimp only at p0 p1 p2 p3; go_simp; all_goals with_reducible rfl)
      simp only [Act.put, List.getElem_toArray, List.getElem_cons_zero, List.getElem_cons_succ, List.setIfInBounds_toArray, List.set_cons_zero, List.set_cons_succ]
      refine wpAnyH_take (i := 4) (v := ?_) rfl (by kernel_rfl) (by kernel_rfl) (by kernel_rfl) (fun _ _ _ h => h) (Or.inl ⟨by rfl, ?hy14⟩) (by assumption) ?ty14
      case hy14 => (intro w5 hSw; obtain ⟨p0, p1, p2, p3⟩ := hSw; dsimp only at p0 p1 p2 p3; go_simp; all_goals with_reducible rfl)
      simp only [Act.put, List.getElem_toArray, List.getElem_cons_zero, List.getElem_cons_succ, List.setIfInBounds_toArray, List.set_cons_zero, List.set_cons_succ]
      refine wpAnyH_take (i := 5) (v := ?_) rfl (by kernel_rfl) (by kernel_rfl) (by kernel_rfl) (fun _ _ _ h => h) (Or.inl ⟨by rfl, ?hy15⟩) (by assumption) ?ty15
      case hy15 => (intro w5 hSw; obtain ⟨p0, p1, p2, p3⟩ := hSw; dsimp only at p0 p1 p2 p3; go_simp; all_goals with_reducible rfl)
      simp only [Act.put, List.getElem_toArray, List.getElem_cons_zero, List.getElem_cons_succ, List.setIfInBounds_toArray, List.set_cons_zero, List.set_cons_succ]
      refine wpAnyH_take (i := 7) (v := ?_) rfl (by kernel_rfl) (by kernel_rfl) (by kernel_rfl) (fun _ _ _ h => h) (Or.inl ⟨by rfl, ?hy16⟩) (by assumption) ?ty16
      case hy16 => (intro w5 hSw; obtain ⟨p0, p1, p2, p3⟩ := hSw; dsimp only at p0 p1 p2 p3; go_simp; all_goals with_reducible rfl)
      simp only [Act.put, List.getElem_toArray, List.getElem_cons_zero, List.getElem_cons_succ, List.setIfInBounds_toArray, List.set_cons_zero, List.set_cons_succ]
      refine wpAnyH_take (i := 8) (v := ?_) rfl (by kernel_rfl) (by kernel_rfl) (by kernel_rfl) (fun _ _ _ h => h) (Or.inl ⟨by rfl, ?hy17⟩) (by assumption) ?ty17
      case hy17 => (intro w5 hSw; obtain ⟨p0, p1, p2, p3⟩ := hSw; dsimp only at p0 p1 p2 p3; go_simp; all_goals with_reducible rfl)
      simp only [Act.put, List.getElem_toArray, List.getElem_cons_zero, List.getElem_cons_succ, List.setIfInBounds_toArray, List.set_cons_zero, List.set_cons_succ]
      refine wpAnyH_take (i := 10) (v := ?_) rfl (by kernel_rfl) (by kernel_rfl) (by kernel_rfl) (fun _ _ _ h => h) (Or.inl ⟨by rfl, ?hy18⟩) (by assumption) ?ty18
      case hy18 => (intro w5 hSw; obtain ⟨p0, p1, p2, p3⟩ := hSw; dsimp only at p0 p1 p2 p3; go_simp; all_goals with_reducible rfl)
      simp only [Act.put, List.getElem_toArray, List.getElem_cons_zero, List.getElem_cons_succ, List.setIfInBounds_toArray, List.set_cons_zero, List.set_cons_succ]
      refine wpAnyH_take (i := 11) (v := ?_) rfl (by kernel_rfl) (by kernel_rfl) (by kernel_rfl) (fun _ _ _ h => h) (Or.inl ⟨by rfl, ?hy19⟩) (by assumption) ?ty19
      case hy19 => (intro w5 hSw; obtain ⟨p0, p1, p2, p3⟩ := hSw; dsimp only at p0 p1 p2 p3; go_simp; all_goals with_reducible rfl)
      simp only [Act.put, List.getElem_toArray, List.getElem_cons_zero, List.getElem_cons_succ, List.setIfInBounds_toArray, List.set_cons_zero, List.set_cons_succ]
      refine wpAnyH_take (i := 12) (v := ?_) rfl (by kernel_rfl) (by kernel_rfl) (by kernel_rfl) (fun _ _ _ h => h) (Or.inl ⟨by rfl, ?hy20⟩) (by assumption) ?ty20
      case hy20 => (intro w5 hSw; obtain ⟨p0, p1, p2, p3⟩ := hSw; dsimp only at p0 p1 p2 p3; go_simp; all_goals with_reducible rfl)
      simp only [Act.put, List.getElem_toArray, List.getElem_cons_zero, List.getElem_cons_succ, List.setIfInBounds_toArray, List.set_cons_zero, List.set_cons_succ]
      refine wpAnyH_ready (rs := [3]) (by kernel_rfl) (by simp) ?_
      refine AllReadyH.cons rfl (fun K hK => ?_) AllReadyH.nil
      go_simp
      refine (HDu.out _ (hTA.below (Below.refl _ _).drew)).mono ?_
      rintro e v1 ⟨rfl, hb1⟩
      have K1 : Below WA.heap.size WA v1 := (Below.refl _ _).drew.trans hb1
      have Q1 := hQA.below K1 hgA
      refine hK.out _ _ Q1 (fun hHeld => ?_)
      clear hK K
      refine wpAnyH_ready (rs := [6]) (by kernel_rfl) (by simp) ?_
      refine AllReadyH.cons rfl (fun K hK => ?_) AllReadyH.nil
      go_simp
      refine (HDf.out _ (hTA.below K1)).mono ?_
      rintro e v2 ⟨rfl, hb2⟩
      have K2 : Below WA.heap.size WA v2 := K1.trans (hb2.mono K1.size)
      have Q2 := hQA.below K2 hgA
      refine hK.out _ _ Q2 (fun hHeld => ?_)
      clear hK K
      refine wpAnyH_ready (rs := [9]) (by kernel_rfl) (by simp) ?_
      refine AllReadyH.cons rfl (fun K hK => ?_) AllReadyH.nil
      go_simp
      refine (HDd.out _ (hTA.below K2)).mono ?_
      rintro e v3 ⟨rfl, hb3⟩
      have K3 : Below WA.heap.size WA v3 := K2.trans (hb3.mono K2.size)
      have Q3 := hQA.below K3 hgA
      refine hK.out _ _ Q3 (fun hHeld => ?_)
      clear hK K
      refine wpAnyH_ready (rs := [13]) (by kernel_rfl) (by simp) ?_
      refine AllReadyH.cons rfl (fun K hK => ?_) AllReadyH.nil
      go_simp
      refine (HDn.out _ (hTA.below K3)).mono ?_
      rintro e v4 ⟨rfl, hb4⟩
      have K4 : Below WA.heap.size WA v4 := K3.trans (hb4.mono K3.size)
      have Q4 := hQA.below K4 hgA
      refine hK.out _ _ Q4 (fun hHeld => ?_)
      clear hK K
      refine wpAnyH_ready (rs := [14]) (by kernel_rfl) (by simp) ?_
      refine AllReadyH.cons rfl (fun K hK => ?_) AllReadyH.nil
      go_simp
      have K5 : Below WA.heap.size WA (v4.alloc (.cells #[.string ⟨#[109, 101, 115, 115, 97, 103, 101]⟩, .string su, .string sf, .string sd, .string sn] 9)) := K4.alloc K4.size _
      have HO : OwnS (v4.alloc (.cells #[.string ⟨#[109, 101, 115, 115, 97, 103, 101]⟩, .string su, .string sf, .string sd, .string sn] 9)) v4.heap.size (.slice (some ⟨v4.heap.size, 0, none⟩) 5 5) [[109, 101, 115, 115, 97, 103, 101], d4 yu, d4 yf, d4 yd, d4 (yn : Int)] := OwnS.lit v4 _ (Nat.le_refl _) _ _ HW.out (show 5 ≤ maxLen by unfold maxLen; omega)
      have Q5 := hQA.below K5 hgA
      refine hK.out _ _ Q5 (fun hHeld => ?_)
      clear hK K
      refine wpAnyH_ready (rs := [15]) (by kernel_rfl) (by simp) ?_
      refine AllReadyH.cons rfl (fun K hK => ?_) AllReadyH.nil
      go_simp
      refine (lineOf_any _ _ _ _ _ _ HO (by simp) (by simp) HJL.out).mono ?_
      rintro e v6 ⟨rfl, hb6⟩
      have K6 : Below WA.heap.size WA v6 := K5.trans (hb6.mono K5.size)
      have Q6 := hQA.below K6 hgA
      refine hK.out _ _ Q6 (fun hHeld => ?_)
      clear hK K
      refine wpAnyH_take (i := 16) (v := ?_) rfl (by kernel_rfl) (by kernel_rfl) (by kernel_rfl) (fun _ _ _ h => h) (Or.inl ⟨by rfl, ?hy21⟩) (by assumption) ?ty21
      case hy21 => (intro w5 hSw; go_simp; all_goals first | (rw [if_neg (by omega)]) | with_reducible rfl)
      simp only [Act.put, List.getElem_toArray, List.getElem_cons_zero, List.getElem_cons_succ, List.setIfInBounds_toArray, List.set_cons_zero, List.set_cons_succ]
      refine wpAnyH_take (i := 17) (v := ?_) rfl (by kernel_rfl) (by kernel_rfl) (by kernel_rfl) (fun _ _ _ h => h) (Or.inl ⟨by rfl, ?hy22⟩) (by assumption) ?ty22
      case hy22 => (intro w5 hSw; obtain ⟨p0, p1, p2, p3⟩ := hSw; dsimp only at p0 p1 p2 p3; go_simp; all_goals with_reducible rfl)
      simp only [Act.put, List.getElem_toArray, List.getElem_cons_zero, List.getElem_cons_succ, List.setIfInBounds_toArray, List.set_cons_zero, List.set_cons_succ]
      refine wpAnyH_done (by kernel_rfl) ?_ _
      clear hHeld hb1 hb2 hb3 hb4 hb6 Q1 Q2 Q3 Q4 Q5 Q6 HO K1 K2 K3 K4 K5 HDu HDf HDd HDn HW HJL
      have HR : Hid (str t1 ++ str (lnW [[109, 101, 115, 115, 97, 103, 101], d4 yu, d4 yf, d4 yd, d4 (yn : Int)]) = str (t0 ++ ((l.take (k + 1)).map mzT).flatten)) := by
        show _ = _
        rw [str_plusX, HST2.out, HMZ.out]
      have hbel6 := hbelA.trans (K6.mono hbelA.size)
      clear HST2 HMZ K6 hbelA
      go_wp2
      go_roundw
      case rel => exact ⟨k + 1, by omega, by go_num, by rw [HR.out], hbel6⟩
      case measure => simp [intOf]; omega
    · have hki : ¬ (k : Int) < (n : Int) := by omega
      have HE : Hid (t0 ++ ((l.take k).map mzT).flatten = D) := by
        show _ = _
        rw [HZ.out, List.take_of_length_le (by omega)]
      rw [HE.out]
      clear HE HZ hr4
      go_wp2
      go_ret
      exact ⟨rfl, hB⟩
end Go.Proofs.YtmidjgpegdodcaaDoor
