/- The place of a part by its path: innerPlace, the program's; l5At, the model's. -/
import Derived.Test.YtaefomiofoakhaaGreatDoorPaqToNst
import Derived.Test.YtaefomiofoakhaaGreatDoorPsmToEncQ3
import Derived.Test.YtaefomiofoakhaaGreatDoorPspToDig
import Derived.Test.YtaefomiofoakhaaGreatDoorPdlToMus
namespace Go.Proofs.YtaefomiofoakhaaGreatDoor
open Go.RowKit

theorem cellP {W : World} {o : Obj} {p : Addr} {v : Value} (h : W.cell? p = some v) : (W.alloc o).cell? p = some v := (((Below.refl _ W).alloc (Nat.le_refl _) o).cell (World.block_lt_of_cell? W _ h)).trans h
/-- A part as a value. -/
def ptX (p : PtP) : Value := .agg #[.int .i64 p.1.1, .int .i64 p.1.2.1, .int .i64 p.1.2.2, .int .i64 p.2.1.1, .int .i64 p.2.1.2, .int .i64 p.2.2.1, .int .i64 p.2.2.2]

set_option maxHeartbeats 800000 in
set_option maxRecDepth 100000 in
theorem isInner_any (U V : Nat) (up nu : Int) (p : PtP) (w : World) (hU : w.cell? ⟨U, 0, none⟩ = some (.int .i64 up)) (hV : w.cell? ⟨V, 0, none⟩ = some (.int .i64 nu)) :
    Calls Tryz.prog 33 #[ptX p, .pointer (some ⟨U, 0, none⟩), .pointer (some ⟨V, 0, none⟩)] w fun e w' => e = .returned (.bool (mtB up nu p)) ∧ Below w.heap.size w w' := by
  have hb0 : Below w.heap.size w (w.alloc (.cells #[.int .i64 p.1.1, .int .i64 p.1.2.1, .int .i64 p.1.2.2, .int .i64 p.2.1.1, .int .i64 p.2.1.2, .int .i64 p.2.2.1, .int .i64 p.2.2.2] 30)) := (Below.refl _ _).alloc (Nat.le_refl _) _
  have hU' := (hb0.cell (World.block_lt_of_cell? w _ hU)).trans hU
  have hV' := (hb0.cell (World.block_lt_of_cell? w _ hV)).trans hV
  have HM : Hid (mtB up nu p = (p.2.2.1 == up && p.2.2.2 == nu)) := rfl
  generalize mtB up nu p = r at *
  unfold ptX
  obtain ⟨⟨p0, p1, p2⟩, ⟨p3, p4⟩, p5, p6⟩ := p
  dsimp only at HM hU' hV' hb0 ⊢
  by_cases h1 : p5 = up
  · subst h1
    by_cases h2 : p6 = nu
    · subst h2
      have HR : Hid (r = true) := by show _ = _; rw [HM.out]; simp
      clear HM
      go_enter Tryz.func33, Tryz.ntmps33
      go_wp2
      go_ret
      rw [HR.out]
      exact ⟨rfl, hb0⟩
    · have h2' : (p6 == nu) = false := by simpa using h2
      have HR : Hid (r = false) := by show _ = _; rw [HM.out, h2']; simp
      clear HM
      go_enter Tryz.func33, Tryz.ntmps33
      go_wp2
      go_ret
      rw [HR.out]
      exact ⟨rfl, hb0⟩
  · have h1' : (p5 == up) = false := by simpa using h1
    have HR : Hid (r = false) := by show _ = _; rw [HM.out, h1']; rfl
    clear HM
    go_enter Tryz.func33, Tryz.ntmps33
    go_wp2
    go_ret
    rw [HR.out]
    exact ⟨rfl, hb0⟩

set_option maxHeartbeats 1600000 in
set_option maxRecDepth 100000 in
theorem indexPart_any (a : Option Addr) (n cap U V : Nat) (up nu : Int) (l : List PtP) (w : World) (hl : l.length = n) (hr : RdP w a l) (hn : n ≤ 8) (hU : w.cell? ⟨U, 0, none⟩ = some (.int .i64 up)) (hV : w.cell? ⟨V, 0, none⟩ = some (.int .i64 nu)) :
    Calls Tryz.prog 32 #[.slice a n cap, .func (.func 33) #[] #[.pointer (some ⟨U, 0, none⟩), .pointer (some ⟨V, 0, none⟩)]] w fun e w' => e = .returned (.int .i64 (ixV l up nu)) ∧ Below w.heap.size w w' := by
  have hG : ∀ (args : Array Value) (w : World), (callFunc 33 args).run Tryz.prog w = .ok (.enter 33 args) w := fun _ _ => by kernel_rfl
  have hUl := World.block_lt_of_cell? w _ hU
  have hVl := World.block_lt_of_cell? w _ hV
  have HI : Hid (∀ (p : PtP) (w' : World), Below w.heap.size w w' → Calls Tryz.prog 33 #[ptX p, .pointer (some ⟨U, 0, none⟩), .pointer (some ⟨V, 0, none⟩)] w' fun e w'' => e = .returned (.bool (mtB up nu p)) ∧ Below w'.heap.size w' w'') := fun p w' hb => isInner_any U V up nu p w' ((hb.cell hUl).trans hU) ((hb.cell hVl).trans hV)
  unfold ptX at HI
  go_enter Tryz.func32, Tryz.ntmps32
  go_wp2
  go_loopw [8] (fun i wr => ∃ k : Nat, k ≤ n ∧ i = .int .i64 k ∧ (∀ j, j < k → mtB up nu (nthP l j) = false) ∧ Below w.heap.size w wr) (fun i _ => n - (intOf i).toNat)
  case atStart => exact ⟨0, Nat.zero_le _, rfl, fun j hj => absurd hj (Nat.not_lt_zero _), Below.refl _ _⟩
  case round =>
    obtain ⟨k, hk, rfl, hall, hbel⟩ := hrel
    by_cases hkn : k < n
    · have hki : (k : Int) < (n : Int) := by omega
      obtain ⟨g, rfl, hglt, hcell⟩ := (hr.below hbel).at_ (by omega)
      obtain ⟨x0, x1, x2, x3, x4, x5, x6⟩ := hcell k (by omega)
      have HC := HI.out (nthP l k) wr hbel
      have HY : Hid (mtB up nu (nthP l k) = true → ixV l up nu = (k : Int)) := fun h => ixV_at (by omega) h hall
      have HN : Hid (mtB up nu (nthP l k) = false → ∀ j, j < k + 1 → mtB up nu (nthP l j) = false) := fun h j hj => by
        rcases Nat.lt_or_ge j k with h' | h'
        · exact hall j h'
        · obtain rfl : j = k := by omega
          exact h
      clear hall hcell
      generalize mtB up nu (nthP l k) = bv at *
      generalize nthP l k = p at *
      obtain ⟨⟨p0, p1, p2⟩, ⟨p3, p4⟩, p5, p6⟩ := p
      dsimp only at x0 x1 x2 x3 x4 x5 x6 HC
      go_wp2_with fail
      refine HC.mono ?_
      rintro e w2 ⟨rfl, hb2⟩
      have hbel2 := hbel.trans (hb2.mono hbel.size)
      clear HC HI hG
      cases bv with
      | true =>
        have HM : Hid (ixV l up nu = (k : Int)) := HY.out rfl
        clear HY HN
        go_wp2
        go_ret
        rw [HM.out]
        exact ⟨rfl, hbel2⟩
      | false =>
        have HM : Hid (_) := HN.out rfl
        clear HY HN
        go_wp2
        go_roundw
        case rel => exact ⟨k + 1, by omega, by go_num, HM.out, hbel2⟩
        case measure => simp [intOf]; omega
    · have hki : ¬ (k : Int) < (n : Int) := by omega
      have HM : Hid (ixV l up nu = -1) := ixV_no (fun i hi => hall i (by omega))
      clear hall
      go_wp2
      go_ret
      rw [HM.out]
      exact ⟨rfl, hbel⟩

set_option maxHeartbeats 800000 in
set_option maxRecDepth 100000 in
theorem innerPlace_any (a : Option Addr) (n cap : Nat) (up nu : Int) (l : List PtP) (w : World) (hl : l.length = n) (hr : RdP w a l) (hn : n ≤ 8) :
    Calls Tryz.prog 19 #[.slice a n cap, .int .i64 up, .int .i64 nu] w fun e w' => e = .returned (.int .i64 (ixV l up nu)) ∧ Below w.heap.size w w' := by
  have hmf : ∀ (fn : Fn) (first cap : Array Value) (w : World), (Instr.makeFunc fn first cap).run Tryz.prog w = .ok (.func fn first cap) w := fun _ _ _ _ => rfl
  have hb0 : Below w.heap.size w ((w.alloc (.cells #[.int .i64 up] 2)).alloc (.cells #[.int .i64 nu] 2)) := ((Below.refl _ _).alloc (Nat.le_refl _) _).alloc (by simp) _
  have c0 : ((w.alloc (.cells #[.int .i64 up] 2)).alloc (.cells #[.int .i64 nu] 2)).cell? ⟨w.heap.size, 0, none⟩ = some (.int .i64 up) := cellP (by simp)
  have c1 : ((w.alloc (.cells #[.int .i64 up] 2)).alloc (.cells #[.int .i64 nu] 2)).cell? ⟨w.heap.size + 1, 0, none⟩ = some (.int .i64 nu) := by
    have e : (w.alloc (.cells #[.int .i64 up] 2)).heap.size = w.heap.size + 1 := by simp
    rw [← e]; simp
  have HC := indexPart_any a n cap w.heap.size (w.heap.size + 1) up nu l _ hl (hr.below hb0) hn c0 c1
  generalize ixV l up nu = r at *
  go_enter Tryz.func19, Tryz.ntmps19
  go_wp2_with fail
  refine HC.mono ?_
  rintro e w1 ⟨rfl, hb1⟩
  have hbw := hb0.trans (hb1.mono hb0.size)
  clear HC hb0 hb1
  go_wp2
  go_ret
  exact ⟨rfl, hbw⟩

set_option maxHeartbeats 1600000 in
set_option maxRecDepth 100000 in
theorem partAt_any {cpd : Nat} (b m : Nat) (d : List Nat) (ax : Option Addr) (nx cx : Nat) (x : List Int) (w : World) (hr : Rd w (some ⟨b, 0, none⟩) d) (hT : TabC w) (hB : IsB d) (hl : d.length = m) (hx : RdI w ax x) (hlx : x.length = nx) (hnx : nx ≤ 1048576) (hcpd : m ≤ cpd := by omega) :
    Calls Tryz.prog 9 #[.slice (some ⟨b, 0, none⟩) m cpd, .slice ax nx cx] w fun e w' => e = .returned (.agg #[.int .i64 (paR d x).1, .int .i64 (paR d x).2]) ∧ Below w.heap.size w w' := by
  have hb0 : Below w.heap.size w (w.alloc (.cells #[.int .i64 0, .int .i64 0] 36)) := (Below.refl _ _).alloc (Nat.le_refl _) _
  have HP := parseParts_any b m d _ (hr.below hb0) (hT.below hb0) hB hl
  have hsW : (w.alloc (.cells #[.int .i64 0, .int .i64 0] 36)).heap.size = w.heap.size + 1 := by simp
  have HZ : Hid ((psV d).1 ≠ 0 → paR d x = ((psV d).1, 0)) := fun h => if_neg h
  have HV : Hid ((psV d).1 = 0 → paR d x = if paV (psV d).2 x 0 < 0 then (4, 0) else (0, paV (psV d).2 x 0)) := fun h => if_pos h
  have hle : (psV d).2.length ≤ 8 := psV_le d
  generalize paR d x = r at *
  generalize psV d = ps at *
  obtain ⟨c, l⟩ := ps
  dsimp only at HZ HV hle
  go_enter Tryz.func9, Tryz.ntmps9
  go_wp2_with fail
  refine HP.mono ?_
  rintro e w1 ⟨v, rfl, ho, hb1⟩
  rw [hsW] at ho hb1
  dsimp only at ho ⊢
  obtain ⟨N, hN⟩ : ∃ N, l.length = N := ⟨_, rfl⟩
  obtain ⟨a, cp, hv, -, -⟩ := ho.form
  rw [hN] at hv
  subst hv
  have hz1 : w.heap.size + 1 ≤ w1.heap.size := by have := hb1.size; omega
  clear HP
  by_cases hc : c = 0
  · subst hc
    have HM : Hid (r = if paV l x 0 < 0 then (4, 0) else (0, paV l x 0)) := HV.out rfl
    have hbV0 : Below w1.heap.size w1 (w1.alloc (.cells #[.int .i64 0, .slice a N cp] 27)) := (Below.refl _ _).alloc (Nat.le_refl _) _
    have hsV : (w1.alloc (.cells #[.int .i64 0, .slice a N cp] 27)).heap.size = w1.heap.size + 1 := by simp
    have hrdV : RdP (w1.alloc (.cells #[.int .i64 0, .slice a N cp] 27)) a l := (OwnP.rd ho).2.below hbV0
    have HHC : Hid (∀ wr : World, Below (w1.heap.size + 1) (w1.alloc (.cells #[.int .i64 0, .slice a N cp] 27)) wr → wr.cell? ⟨w1.heap.size, 1, none⟩ = some (.slice a N cp)) := fun wr hb => (res_block rfl hb).2.1
    have hbV1 := hb1.trans (hbV0.mono hz1)
    have HBW : Hid (∀ wr : World, Below (w1.heap.size + 1) (w1.alloc (.cells #[.int .i64 0, .slice a N cp] 27)) wr → Below w.heap.size w wr) := fun wr hb => hb0.trans ((hbV1.trans (hb.mono (by omega))).mono (by omega))
    have HRES : Hid (∀ wr : World, Below (w1.heap.size + 1) (w1.alloc (.cells #[.int .i64 0, .slice a N cp] 27)) wr → wr.cell? ⟨w.heap.size, 0, none⟩ = some (.int .i64 0) ∧ wr.cell? ⟨w.heap.size, 1, none⟩ = some (.int .i64 0) ∧ wr.frozen? ⟨w.heap.size, 0, none⟩ = false ∧ wr.frozen? ⟨w.heap.size, 1, none⟩ = false) := fun wr hb => res_block rfl (hbV1.trans (hb.mono (by omega)))
    clear HZ HV hb0 hb1 hbV0 hbV1 ho
    go_wp2_with fail
    generalize (w1.alloc (.cells #[.int .i64 0, .slice a N cp] 27)) = V at *
    go_loopw [6, 19] (fun p i wr => ∃ (j : Nat) (at_ : Int), j ≤ nx ∧ i = .int .i64 j ∧ p = .int .i64 at_ ∧ 0 ≤ at_ ∧ at_ ≤ 8 ∧ Hid (paV l x 0 = paV l (x.drop j) at_) ∧ Below (w1.heap.size + 1) V wr) (fun _ i _ => nx - (intOf i).toNat)
    case atStart => exact ⟨0, 0, Nat.zero_le _, rfl, rfl, by omega, by omega, rfl, Below.refl _ _⟩
    case round =>
      obtain ⟨j, at_, hj, rfl, rfl, hat0, hat8, HF, hbel⟩ := hrel
      have hzr : w1.heap.size + 1 ≤ wr.heap.size := by have := hbel.size; omega
      have hh := HHC.out wr hbel
      have hbw := HBW.out wr hbel
      by_cases hjn : j < nx
      · have hji : (j : Int) < (nx : Int) := by omega
        obtain ⟨g, off, rfl, hglt, hcell⟩ := (hx.below hbw).at_ (by omega)
        have x0 := hcell j (by omega)
        have HC := innerPlace_any a N cp at_ (nthI x j) l wr hN (hrdV.below (hsV ▸ hbel)) (by omega)
        have HF2 : Hid (paV l x 0 = if ixV l at_ (nthI x j) < 0 then -1 else paV l (x.drop (j + 1)) (ixV l at_ (nthI x j))) := HF.out.trans (paV_step (by omega))
        have hix := ixV_lt l at_ (nthI x j)
        clear HF hcell
        generalize ixV l at_ (nthI x j) = ix at *
        generalize nthI x j = nu at *
        go_wp2_with fail
        refine HC.mono ?_
        rintro e w2 ⟨rfl, hb2⟩
        have hbel2 := hbel.trans (hb2.mono hzr)
        clear HC hb2
        by_cases hn0 : ix < 0
        · have HR : Hid (r = (4, 0)) := by
            show _ = _
            rw [HM.out, HF2.out, if_pos hn0]; rfl
          obtain ⟨a0, a1, z0, z1⟩ := HRES.out _ hbel2
          obtain ⟨k0, k1⟩ := res_cells a0 a1 (.int .i64 4) (.int .i64 0)
          have HE : Hid (_) := ((HBW.out _ hbel2).setCell (p := ⟨w.heap.size, 0, none⟩) (Nat.le_refl _) (.int .i64 4)).setCell (p := ⟨w.heap.size, 1, none⟩) (Nat.le_refl _) (.int .i64 0)
          clear HF2 HM HRES HBW
          go_wp2
          refine bodyPost_ret (v := .agg #[.int .i64 4, .int .i64 0]) (by simp [results, Tryz.results9, go_sem, k0, k1]) rfl ?_
          rw [HR.out]
          exact ⟨rfl, HE.out⟩
        · have HF3 : Hid (paV l x 0 = paV l (x.drop (j + 1)) ix) := HF2.out.trans (if_neg hn0)
          clear HF2
          go_wp2
          go_roundw
          case rel => exact ⟨j + 1, ix, by omega, by go_num, rfl, by omega, by omega, HF3.out, hbel2⟩
          case measure => simp [intOf]; omega
      · have hji : ¬ (j : Int) < (nx : Int) := by omega
        have HR : Hid (r = (0, at_)) := by
          show _ = _
          rw [HM.out, HF.out, paV_end (by omega), if_neg (by omega)]
        obtain ⟨a0, a1, z0, z1⟩ := HRES.out _ hbel
        obtain ⟨k0, k1⟩ := res_cells a0 a1 (.int .i64 0) (.int .i64 at_)
        have HE : Hid (_) := (hbw.setCell (p := ⟨w.heap.size, 0, none⟩) (Nat.le_refl _) (.int .i64 0)).setCell (p := ⟨w.heap.size, 1, none⟩) (Nat.le_refl _) (.int .i64 at_)
        clear HF HM HRES HBW
        go_wp2
        refine bodyPost_ret (v := .agg #[.int .i64 0, .int .i64 at_]) (by simp [results, Tryz.results9, go_sem, k0, k1]) rfl ?_
        rw [HR.out]
        exact ⟨rfl, HE.out⟩
  · have hc' : (c != 0) = true := by simpa using hc
    have HR : Hid (r = (c, 0)) := HZ.out hc
    have hbA : Below (w.heap.size + 1) (w.alloc (.cells #[.int .i64 0, .int .i64 0] 36)) (w1.alloc (.cells #[.int .i64 c, .slice a N cp] 27)) := hb1.alloc hz1 _
    obtain ⟨a0, a1, z0, z1⟩ := res_block rfl hbA
    obtain ⟨k0, k1⟩ := res_cells a0 a1 (.int .i64 c) (.int .i64 0)
    have HE : Hid (_) := ((hb0.trans (hbA.mono (by omega))).setCell (p := ⟨w.heap.size, 0, none⟩) (Nat.le_refl _) (.int .i64 c)).setCell (p := ⟨w.heap.size, 1, none⟩) (Nat.le_refl _) (.int .i64 0)
    clear HZ HV ho hb1 hb0 hbA
    go_wp2
    refine bodyPost_ret (v := .agg #[.int .i64 c, .int .i64 0]) (by simp [results, Tryz.results9, go_sem, k0, k1]) rfl ?_
    rw [HR.out]
    exact ⟨rfl, HE.out⟩
end Go.Proofs.YtaefomiofoakhaaGreatDoor
