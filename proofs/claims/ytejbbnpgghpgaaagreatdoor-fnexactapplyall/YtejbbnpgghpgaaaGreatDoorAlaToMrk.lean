/- Ops done to a store one after the other: the program's ApplyAll; no conditions beyond those that each fact names · The laws' helpers that write marks into an answer's bytes, look for them again, and hold two answers with bytes against each other, do what their texts say; at most 1048576 bytes. -/
import Derived.Test.YtejbbnpgghpgaaaGreatDoorDdiToApk
import Derived.Test.YtejbbnpgghpgaaaGreatDoorJfzToMrk0
import Derived.Test.YtejbbnpgghpgaaaGreatDoorStmToMsa
namespace Go.Proofs.YtejbbnpgghpgaaaGreatDoor
open Go.RowKit List
set_option linter.unusedVariables false
def alR : Int → List Bx → List OpR → Rs
  | v, l, [] => (0, [], v, l)
  | v, l, o :: os => if (apR v l o).1 = 0 then alR (apR v l o).2.2.1 (apR v l o).2.2.2 os else badR (apR v l o).1
def aaR (v : Int) (l : List Bx) (os : List OpR) : Rs := if 60 < os.length then badR 2 else if stV v l = 0 then alR v l os else badR (stV v l)
theorem dropO (l : List OpR) (k : Nat) (h : k < l.length) : l.drop k = nthO l k :: l.drop (k + 1) := by
  have e : nthO l k = l[k] := by unfold nthO; rw [List.getD_eq_getElem?_getD, List.getElem?_eq_getElem h]; rfl
  rw [e]; exact List.drop_eq_getElem_cons h
def IsOz (lo : Nat) (w : World) (s : SlQ) (l : List OpR) : Prop := l.length = s.2.1 ∧ s.2.1 ≤ s.2.2 ∧ s.2.2 ≤ maxLen ∧ (l = [] ∨ ∃ b off, s.1 = some ⟨b, off, none⟩ ∧ b < w.heap.size ∧
  ∀ i, i < l.length → ∃ p : SlO, (w.cell? ⟨b, off + i * 8, none⟩ = some (.int .i64 (nthO l i).k) ∧ w.cell? ⟨b, off + i * 8 + 1, none⟩ = some (.string (nthO l i).x) ∧ w.cell? ⟨b, off + i * 8 + 2, none⟩ = some (.string (nthO l i).t) ∧ w.cell? ⟨b, off + i * 8 + 3, none⟩ = some (slW p.1) ∧ w.cell? ⟨b, off + i * 8 + 4, none⟩ = some (.int .i64 (nthO l i).m) ∧ w.cell? ⟨b, off + i * 8 + 5, none⟩ = some (.int .i64 (nthO l i).f) ∧ w.cell? ⟨b, off + i * 8 + 6, none⟩ = some (.int .i64 (nthO l i).d) ∧ w.cell? ⟨b, off + i * 8 + 7, none⟩ = some (slW p.2)) ∧
    IsOp lo w p (nthO l i) ∧ (∀ x, p.1.1 = some x → x.block < w.heap.size) ∧ OwB w p.2 (nthO l i).b ∧ (nthO l i).x.size ≤ 1048576 ∧ (nthO l i).t.size ≤ 1048576)
theorem IsOz.below {lo : Nat} {w w' : World} {s : SlQ} {l : List OpR} (h : IsOz lo w s l) (hb : Below w.heap.size w w') : IsOz lo w' s l := by
  refine ⟨h.1, h.2.1, h.2.2.1, ?_⟩
  rcases h.2.2.2 with e | ⟨b, off, e, hlt, hc⟩
  · exact .inl e
  · refine .inr ⟨b, off, e, Nat.lt_of_lt_of_le hlt hb.size, fun i hi => ?_⟩
    obtain ⟨p, ⟨c0, c1, c2, c3, c4, c5, c6, c7⟩, ho, hx, hB, h1, h2⟩ := hc i hi
    have kc : ∀ j, w'.cell? ⟨b, j, none⟩ = w.cell? ⟨b, j, none⟩ := fun j => hb.cell (p := ⟨b, j, none⟩) hlt
    exact ⟨p, ⟨(kc _).trans c0, (kc _).trans c1, (kc _).trans c2, (kc _).trans c3, (kc _).trans c4, (kc _).trans c5, (kc _).trans c6, (kc _).trans c7⟩, ho.below hb, fun x hxx => Nat.lt_of_lt_of_le (hx x hxx) hb.size, hB.below hb (Nat.le_refl _), h1, h2⟩
set_option maxHeartbeats 3200000 in
set_option maxRecDepth 100000 in
theorem applyAll_any (v : Int) (s : SlQ) (l : List Bx) (a : Option Addr) (n cap : Nat) (ol : List OpR) {lo : Nat} (w : World) (hs : IsXs lo w s l) (hf : FtXs l) (hO : IsOz lo w (a, n, cap) ol) (hT : TabH8 w) :
    Calls Tryz.prog 28 #[.agg #[.int .i64 v, slW s], .slice a n cap] w fun e w' => SrEnd (aaR v l ol) w e w' := by
  have HL : Hid (ol.length = n) := hO.1
  obtain ⟨W, hW⟩ : ∃ W, (w.alloc (.cells #[.int .i64 v, slW s] 33)).alloc (.cells #[.int .i64 0, .slice none 0 0, .int .i64 0, .slice none 0 0] 35) = W := ⟨_, rfl⟩
  have hbW : Below w.heap.size w W := by rw [← hW]; exact ((Below.refl _ _).alloc (Nat.le_refl _) _).alloc (by simp) _
  have hA : Dw W w.heap.size (.int .i64 v, slW s) := by
    rw [← hW]
    exact (Dw.new w (.int .i64 v) (slW s) 33).below ((Below.refl _ _).alloc (Nat.le_refl _) _) (by simp)
  have hZ : Qw W (w.heap.size + 1) (.int .i64 0, .slice none 0 0, .int .i64 0, .slice none 0 0) := by
    have h := Qw.new (w.alloc (.cells #[.int .i64 v, slW s] 33)) (.int .i64 0) (.slice none 0 0) (.int .i64 0) (.slice none 0 0) 35
    rw [hW] at h
    simpa using h
  have hzW : W.heap.size = w.heap.size + 2 := by rw [← hW]; simp
  have HSF := storeFault_any v s l W (hs.below hbW) hf
  have HOS : Hid (∀ W', Below w.heap.size w W' → Calls Tryz.prog 63 #[.agg #[.int .i64 v, slW s]] W' fun e w' => ShEnd v l W' e w') := fun W' hb => ownShelf_any v s l W' (hs.below hb) hf
  have HOZ : Hid (∀ W', Below w.heap.size w W' → IsOz lo W' (a, n, cap) ol ∧ TabH8 W') := fun W' hb => ⟨hO.below hb, hT.below hb⟩
  have HV2 : Hid (60 < n → aaR v l ol = badR 2) := fun h => if_pos (by rw [HL.out]; exact h)
  have HVF : Hid (¬ 60 < n → stV v l ≠ 0 → aaR v l ol = badR (stV v l)) := fun h h' => (if_neg (by rw [HL.out]; exact h)).trans (if_neg h')
  have HVA : Hid (¬ 60 < n → stV v l = 0 → aaR v l ol = alR v l ol) := fun h h' => (if_neg (by rw [HL.out]; exact h)).trans (if_pos h')
  have HS0 : Hid (stV v l = 0 → StOk v l) := fun h => stV_ok.1 h
  generalize aaR v l ol = rr at *
  generalize stV v l = c at *
  have HW : Hid (_ = W) := hW
  clear hW hO hT hs
  obtain ⟨a0, a1⟩ := id hA.1
  dsimp only at a0 a1
  by_cases hn6 : 60 < n
  · have hn6' : (60 : Int) < (n : Int) := by omega
    have HV : Hid (rr = badR 2) := HV2.out hn6
    have hR := hZ.four (.int .i64 2) (.slice none 0 0) (.int .i64 0) (.slice none 0 0)
    have HB : Hid (_) := below_put (below_put (below_put (below_put hbW (w.heap.size + 1) 0 (.int .i64 2) (by omega)) (w.heap.size + 1) 1 (.slice none 0 0) (by omega)) (w.heap.size + 1) 2 (.int .i64 0) (by omega)) (w.heap.size + 1) 3 (.slice none 0 0) (by omega)
    obtain ⟨r0, r1, r2, r3⟩ := id hR.1
    obtain ⟨z0, z1, z2, z3⟩ := id hZ.1
    have f0 := hZ.2 0
    have f1 := hZ.2 1
    have f2 := hZ.2 2
    have f3 := hZ.2 3
    dsimp only at r0 r1 r2 r3 z0 z1 z2 z3
    clear HVA HVF HOS HOZ HSF
    go_enter Tryz.func28, Tryz.ntmps28
    go_wp2_with (rw [HW.out])
    refine bodyPost_ret (v := .agg #[.int .i64 2, .slice none 0 0, .int .i64 0, .slice none 0 0]) (by simp [results, Tryz.results28, go_sem, r0, r1, r2, r3]) rfl ?_
    rw [HV.out]
    exact .inl ⟨by decide, rfl, HB.out⟩
  have hn6' : ¬ (60 : Int) < (n : Int) := by omega
  go_enter Tryz.func28, Tryz.ntmps28
  go_wp2_with fail
  have hW := HW.out
  skip
  rw [hW]
  refine HSF.mono ?_
  rintro e W1 ⟨rfl, hb1⟩
  have hA1 := hA.below hb1 (by omega)
  have hZ1 := hZ.below hb1 (by omega)
  have hbw1 := hbW.trans (hb1.mono hbW.size)
  have hz1 : w.heap.size + 2 ≤ W1.heap.size := by rw [← hzW]; exact hb1.size
  clear HSF hA hZ hbW hb1 HW hW hzW a0 a1 HV2
  by_cases hc : c = 0
  · subst hc
    have HV : Hid (rr = alR v l ol) := HVA.out hn6 (by trivial)
    have hSt := HS0.out (by trivial)
    obtain ⟨a0, a1⟩ := id hA1.1
    dsimp only at a0 a1
    clear HVA HVF HS0
    go_wp2_with fail
    refine (HOS.out W1 hbw1).mono ?_
    rintro e W2 ⟨g, s2, xs, rfl, hS2, hb2⟩
    clear a0 a1 hA1 HOS
    go_wp2
    go_loopw [25] (fun i wr => ∃ (j : Nat) (v' : Int) (l' : List Bx) (s' : SlQ) (xs' : List Dx), j ≤ n ∧ i = .int .i64 j ∧ StOk v' l' ∧ alR v l ol = alR v' l' (ol.drop j) ∧ Sh W1.heap.size wr g v' l' s' xs' ∧ Below W1.heap.size W1 wr) (fun i _ => n - (intOf i).toNat)
    case atStart => exact ⟨0, v, l, s2, xs, Nat.zero_le _, rfl, hSt, rfl, hS2, hb2⟩
    case round =>
      obtain ⟨j, v', l', s', xs', hj, rfl, hok, hal, hSj, hbj⟩ := hrel
      have hZj := hZ1.below hbj (by omega)
      have hbwj := hbw1.trans (hbj.mono hbw1.size)
      have hzj : W1.heap.size ≤ wr.heap.size := hbj.size
      have HAL : Hid (alR v l ol = alR v' l' (ol.drop j)) := hal
      rw [hal] at HV
      clear hal hSt hS2 hb2
      by_cases hjn : j < n
      · have hji : (j : Int) < (n : Int) := by omega
        have hjl : j < ol.length := by rw [HL.out]; exact hjn
        obtain ⟨hO1, hT1⟩ := HOZ.out W1 hbw1
        rcases hO1.2.2.2 with e | ⟨b, off, ea, hlt, hcell⟩
        · rw [e] at hjl; simp at hjl
        dsimp only at ea
        subst ea
        obtain ⟨p, ⟨c0, c1, c2, c3, c4, c5, c6, c7⟩, hop, hx, -, hxs, hts⟩ := hcell j hjl
        have kc : ∀ j, wr.cell? ⟨b, j, none⟩ = W1.cell? ⟨b, j, none⟩ := fun j => hbj.cell (p := ⟨b, j, none⟩) hlt
        rw [← kc] at c0 c1 c2 c3 c4 c5 c6 c7
        have hblt : b < wr.heap.size := Nat.lt_of_lt_of_le hlt hzj
        have HST : Hid ((apR v' l' (nthO ol j)).1 = 0 → alR v' l' (ol.drop j) = alR (apR v' l' (nthO ol j)).2.2.1 (apR v' l' (nthO ol j)).2.2.2 (ol.drop (j + 1))) := fun h => by
          rw [dropO ol j hjl]; exact if_pos h
        have HBD : Hid ((apR v' l' (nthO ol j)).1 ≠ 0 → alR v' l' (ol.drop j) = badR (apR v' l' (nthO ol j)).1) := fun h => by
          rw [dropO ol j hjl]; exact if_neg h
        have HOK : Hid ((apR v' l' (nthO ol j)).1 = 0 → StOk (apR v' l' (nthO ol j)).2.2.1 (apR v' l' (nthO ol j)).2.2.2) := fun h => apR_ok hok h
        have hG : GdS v' l' := stV_good (stV_ok.2 hok)
        have hop' := hop.below hbj
        have hT' := hT1.below hbj
        clear hcell kc hop hO1 hT1 hok
        generalize nthO ol j = o at *
        obtain ⟨Wa, hWa⟩ : ∃ Wa, wr.alloc (.cells #[.int .i64 o.k, .string o.x, .string o.t, slW p.1, .int .i64 o.m, .int .i64 o.f, .int .i64 o.d, slW p.2] 38) = Wa := ⟨_, rfl⟩
        have ba : Below wr.heap.size wr Wa := by rw [← hWa]; exact (Below.refl _ _).alloc (Nat.le_refl _) _
        have hQa : Qo Wa wr.heap.size (opQ o p) := by rw [← hWa]; exact Qo.new _ _ _ _ _ _ _ _ _ _
        have HAP := apply_any W1.heap.size g v' l' s' xs' o p Wa (hSj.below ba (Nat.le_refl _)) hG (Nat.le_trans hzj ba.size) (hop'.below ba) (hT'.below ba) hxs hts hx
        have hZa := hZj.below ba (by omega)
        have hbwa := hbwj.trans (ba.mono (by omega))
        have hba : Below W1.heap.size W1 Wa := hbj.trans (ba.mono hzj)
        generalize apR v' l' o = ra at *
        obtain ⟨ok, ox, ot, ou, om, of, od, ob⟩ := o
        obtain ⟨d0, d1, d2, d3, d4, d5, d6, d7⟩ := hQa
        dsimp only [opX] at d0 d1 d2 d3 d4 d5 d6 d7 c0 c1 c2 c3 c4 c5 c6 c7 HAP hWa
        have HWa : Hid (_ = Wa) := hWa
        clear hWa hop' hT' hG hSj hZj hbwj hbj
        go_wp2_with (rw [HWa.out])
        refine HAP.mono ?_
        intro e W3 hE
        clear HAP d0 d1 d2 d3 d4 d5 d6 d7 c0 c1 c2 c3 c4 c5 c6 c7 HWa
        rcases hE with ⟨h1, rfl, hb3⟩ | ⟨h1, su, s3, xs3, rfl, hu3, hS3, huo3, hb3⟩
        · obtain ⟨rc, ru, rv, rl⟩ := ra
          dsimp only at h1
          have HV' : Hid (rr = badR rc) := HV.out.trans (HBD.out h1)
          have hZ3 := hZa.below hb3 (by omega)
          have hbw3 := hbwa.trans (hb3.mono (by omega))
          have hR := hZ3.four (.int .i64 rc) (.slice none 0 0) (.int .i64 0) (.slice none 0 0)
          have HB : Hid (_) := below_put (below_put (below_put (below_put hbw3 (w.heap.size + 1) 0 (.int .i64 rc) (by omega)) (w.heap.size + 1) 1 (.slice none 0 0) (by omega)) (w.heap.size + 1) 2 (.int .i64 0) (by omega)) (w.heap.size + 1) 3 (.slice none 0 0) (by omega)
          obtain ⟨z0, z1, z2, z3⟩ := id hZ3.1
          have f0 := hZ3.2 0
          have f1 := hZ3.2 1
          have f2 := hZ3.2 2
          have f3 := hZ3.2 3
          obtain ⟨r0, r1, r2, r3⟩ := id hR.1
          dsimp only at z0 z1 z2 z3 r0 r1 r2 r3
          clear HST HBD HOK HV HOZ
          go_wp2
          refine bodyPost_ret (v := .agg #[.int .i64 rc, .slice none 0 0, .int .i64 0, .slice none 0 0]) (by simp [results, Tryz.results28, go_sem, r0, r1, r2, r3]) rfl ?_
          rw [HV'.out]
          exact .inl ⟨h1, rfl, HB.out⟩
        · have HR : Hid (∃ (j' : Nat) (v'' : Int) (l'' : List Bx) (s'' : SlQ) (xs'' : List Dx), j' ≤ n ∧ ((j : Int) + 1) = (j' : Int) ∧ StOk v'' l'' ∧ alR v l ol = alR v'' l'' (ol.drop j') ∧ Sh W1.heap.size W3 g v'' l'' s'' xs'' ∧ Below W1.heap.size W1 W3) := ⟨j + 1, _, _, s3, xs3, by omega, by omega, HOK.out h1, HAL.out.trans (HST.out h1), hS3, hba.trans hb3⟩
          clear HST HBD HOK HV HOZ HAL hS3 hu3 huo3 hb3 hba hbwa hZa
          go_wp2
          go_roundw
          case rel =>
            obtain ⟨j', v'', l'', s'', xs'', h1', h2', h3', h4', h5', h6'⟩ := HR.out
            exact ⟨j', v'', l'', s'', xs'', h1', by rw [← h2'], h3', h4', h5', h6'⟩
          case measure => simp [intOf]; omega
      · have hji : ¬ (j : Int) < (n : Int) := by omega
        have HV' : Hid (rr = (0, [], v', l')) := HV.out.trans (by rw [List.drop_of_length_le (by rw [HL.out]; omega)]; rfl)
        clear HV HOZ HAL
        go_wp2_with fail
        refine (store_any g v' s' wr hSj.1).mono ?_
        rintro e W4 ⟨rfl, hb4⟩
        have hZ4 := hZj.below hb4 hZj.lt
        have hbw4 := hbwj.trans (hb4.mono hbwj.size)
        have hC4 := hSj.2.1.below hb4 (Nat.le_refl _)
        have hR := hZ4.four (.int .i64 0) (.slice none 0 0) (.int .i64 v') (slW s')
        have HB : Hid (_) := below_put (below_put (below_put (below_put hbw4 (w.heap.size + 1) 0 (.int .i64 0) (by omega)) (w.heap.size + 1) 1 (.slice none 0 0) (by omega)) (w.heap.size + 1) 2 (.int .i64 v') (by omega)) (w.heap.size + 1) 3 (slW s') (by omega)
        have hno : w.heap.size + 1 ∉ blkS s' ++ fpX xs' := fun hc => by have := hC4.2.2.2 _ hc; omega
        have HC : Hid (_) := (((hC4.far (w.heap.size + 1) 0 (.int .i64 0) hno).far (w.heap.size + 1) 1 (.slice none 0 0) hno).far (w.heap.size + 1) 2 (.int .i64 v') hno).far (w.heap.size + 1) 3 (slW s') hno
        obtain ⟨z0, z1, z2, z3⟩ := id hZ4.1
        have f0 := hZ4.2 0
        have f1 := hZ4.2 1
        have f2 := hZ4.2 2
        have f3 := hZ4.2 3
        obtain ⟨r0, r1, r2, r3⟩ := id hR.1
        dsimp only at z0 z1 z2 z3 r0 r1 r2 r3
        go_wp2
        refine bodyPost_ret (v := .agg #[.int .i64 0, .slice none 0 0, .int .i64 v', slW s']) (by simp [results, Tryz.results28, go_sem, r0, r1, r2, r3]) rfl ?_
        rw [HV'.out]
        exact .inr ⟨rfl, (none, 0, 0), s', xs', rfl, OwZ.nil _ _, CX.low HC.out hbw1.size, fun k hk => by simp [blkS] at hk, HB.out⟩
  · have HV : Hid (rr = badR c) := HVF.out hn6 hc
    have hR := hZ1.four (.int .i64 c) (.slice none 0 0) (.int .i64 0) (.slice none 0 0)
    have HB : Hid (_) := below_put (below_put (below_put (below_put hbw1 (w.heap.size + 1) 0 (.int .i64 c) (by omega)) (w.heap.size + 1) 1 (.slice none 0 0) (by omega)) (w.heap.size + 1) 2 (.int .i64 0) (by omega)) (w.heap.size + 1) 3 (.slice none 0 0) (by omega)
    obtain ⟨z0, z1, z2, z3⟩ := id hZ1.1
    have f0 := hZ1.2 0
    have f1 := hZ1.2 1
    have f2 := hZ1.2 2
    have f3 := hZ1.2 3
    obtain ⟨r0, r1, r2, r3⟩ := id hR.1
    dsimp only at r0 r1 r2 r3 z0 z1 z2 z3
    clear HVA HVF HOS HOZ
    go_wp2
    refine bodyPost_ret (v := .agg #[.int .i64 c, .slice none 0 0, .int .i64 0, .slice none 0 0]) (by simp [results, Tryz.results28, go_sem, r0, r1, r2, r3]) rfl ?_
    rw [HV.out]
    exact .inl ⟨hc, rfl, HB.out⟩
end Go.Proofs.YtejbbnpgghpgaaaGreatDoor
namespace Go.Proofs.YtejbbnpgghpgaaaGreatDoor
open Go.RowKit
def marks (n k : Nat) : List Nat := (List.range n).map fun i => (k + i) % 256
theorem marks_len (n k : Nat) : (marks n k).length = n := by simp [marks]
theorem marks_nth {n k i : Nat} (h : i < n) : nth (marks n k) i = (k + i) % 256 := by
  rw [nth_get (by rw [marks_len]; exact h)]; simp [marks]
def mhalf (l : List Nat) (k i : Nat) : List Nat := marks i k ++ l.drop i
theorem mhalf_zero (l : List Nat) (k : Nat) : mhalf l k 0 = l := by simp [mhalf, marks]
theorem mhalf_all (l : List Nat) (k : Nat) : mhalf l k l.length = marks l.length k := by simp [mhalf]
theorem mhalf_len (l : List Nat) (k i : Nat) (h : i ≤ l.length) : (mhalf l k i).length = l.length := by simp [mhalf, marks_len]; omega
theorem mhalf_set (l : List Nat) (k i : Nat) (h : i < l.length) : (bc (mhalf l k i)).set i (.int .u8 (((k + i) % 256 : Nat) : Int)) = bc (mhalf l k (i + 1)) := by
  have hm : (bc (marks i k)).length = i := by rw [bc_len, marks_len]
  have e : marks (i + 1) k = marks i k ++ [(k + i) % 256] := by simp [marks, List.range_succ]
  unfold mhalf
  rw [e, bc_app, List.set_append, hm, if_neg (Nat.lt_irrefl i), Nat.sub_self, drop_cons l i h]
  simp [bc]
end Go.Proofs.YtejbbnpgghpgaaaGreatDoor
