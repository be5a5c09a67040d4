/- One part by its bytes, the model's: by a plain function. -/
import Derived.Test.YtaefomiofoakhaaGreatDoorRdmToBytI
namespace Go.Proofs.YtaefomiofoakhaaGreatDoor
open Go.RowKit

/-- What the bytes of a part tell, its mark as it stands. -/
def oneM (x : List Nat) : (Int × Int × Int) × Nat × List Nat := if (phV x).1 = 0 then (match fdOf (phV x).2.2 wct with
    | none => ((1, 1, cdV (phV x).2.2), (phV x).2.1, [])
    | some v => (((tyV (bts v)).1, (tyV (bts v)).2, cdV (phV x).2.2), (phV x).2.1, if (tyV (bts v)).1 = 2 then (nmN wMark ((pcs (bts v)).drop 1)).getD [] else []))
  else ((3, 0, 1), 0, [])
theorem oneM_bad {x : List Nat} (h : (phV x).1 ≠ 0) : oneM x = ((3, 0, 1), 0, []) := if_neg h
theorem oneM_none {x : List Nat} (h : (phV x).1 = 0) (h1 : fdOf (phV x).2.2 wct = none) : oneM x = ((1, 1, cdV (phV x).2.2), (phV x).2.1, []) := by
  unfold oneM; rw [if_pos h, h1]
theorem oneM_some {x : List Nat} {v : ByteArray} (h : (phV x).1 = 0) (h1 : fdOf (phV x).2.2 wct = some v) : oneM x = (((tyV (bts v)).1, (tyV (bts v)).2, cdV (phV x).2.2), (phV x).2.1, if (tyV (bts v)).1 = 2 then (nmN wMark ((pcs (bts v)).drop 1)).getD [] else []) := by
  unfold oneM; rw [if_pos h, h1]
/-- How the model's reading of a header ends, told by ParseHeader's answer. -/
def PhEnd (r : Int × Nat × List FldP) (w : World) (e : Ending) (w' : World) : Prop := Below w.heap.size w w' ∧ ∃ a n c k, e = .returned (.tuple #[.slice a n c, .int .i64 ((k : Nat) : Int), .bool (r.1 == 0)]) ∧ (r.1 = 0 → k = r.2.1 ∧ n = r.2.2.length ∧ OwnF w' w.heap.size (.slice a n c) r.2.2)
theorem l4Parse_ph (a : Option Addr) (n cap : Nat) (d : List Nat) (w : World) (hl : d.length = n) (hr : Rd w a d) (hB : IsB d) (hn : n ≤ 400) (hcap : n ≤ cap) : Calls Tryz.prog 74 #[.slice a n cap] w (PhEnd (phV d) w) := by
  refine (l4Parse_any a n cap d w hl hr hB (by omega) hcap).mono ?_
  rintro e w' ⟨hb, h⟩
  refine ⟨hb, ?_⟩
  cases ho : prH d (n + 1) 0 [] with
  | none =>
    rw [ho] at h
    rw [phV_none (by omega) (by rw [hl]; exact ho)]
    exact ⟨none, 0, 0, 0, h, fun e => by simp at e⟩
  | some q =>
    obtain ⟨fs, k⟩ := q
    rw [ho] at h
    obtain ⟨v, h1, h2⟩ := h
    obtain ⟨av, cv, rfl, -, -⟩ := h2.form
    by_cases hz : fdF fs = 0
    · rw [phV_ok (by omega) (by rw [hl]; exact ho) hz]
      rw [hz] at h1
      exact ⟨av, fs.length, cv, k, h1, fun _ => ⟨rfl, rfl, h2⟩⟩
    · rw [phV_bad (by omega) (by rw [hl]; exact ho) hz]
      have hz' : (fdF fs == 0) = false := beq_eq_false_iff_ne.2 hz
      rw [hz'] at h1
      exact ⟨av, fs.length, cv, k, h1, fun e => by simp at e⟩
theorem PtAt.set5 {W : World} {P : Nat} {k c g f t u n : Int} (h : PtAt W P k c g f t u n) (x : Int) : PtAt (W.setCell ⟨P, 5, none⟩ (.int .i64 x)) P k c g f t x n := setCell_block h _
theorem PtAt.set6 {W : World} {P : Nat} {k c g f t u n : Int} (h : PtAt W P k c g f t u n) (x : Int) : PtAt (W.setCell ⟨P, 6, none⟩ (.int .i64 x)) P k c g f t u x := setCell_block h _
/-- What l5One answers. -/
def onP (r : (Int × Int × Int) × Nat × List Nat) (fr tt : Nat) : Value := .tuple #[.agg #[.int .i64 r.1.1, .int .i64 r.1.2.1, .int .i64 r.1.2.2, .int .i64 ((fr : Int) + (r.2.1 : Int)), .int .i64 (tt : Int), .int .i64 0, .int .i64 0], .string (str r.2.2)]

set_option maxHeartbeats 3200000 in
set_option maxRecDepth 100000 in
theorem l5One_any {cp : Nat} (b m : Nat) (d : List Nat) (w : World) (hr : Rd w (some ⟨b, 0, none⟩) d) (hB : IsB d) (hl : d.length = m) (hm : m ≤ 400) (fr tt : Nat) (hft : fr ≤ tt) (htt : tt ≤ m) (hcp : m ≤ cp := by omega) :
    Calls Tryz.prog 51 #[.slice (some ⟨b, 0, none⟩) m cp, .int .i64 (fr : Int), .int .i64 (tt : Int)] w fun e w' => e = .returned (onP (oneM (cutN d fr tt)) fr tt) ∧ Below w.heap.size w w' := by
  have hxl : (cutN d fr tt).length = tt - fr := by unfold cutN; rw [List.length_drop, List.length_take]; omega
  have hBx : IsB (cutN d fr tt) := isB_drop (isB_take hB _) _
  have hb0 : Below w.heap.size w (w.alloc (.cells #[.int .i64 0, .int .i64 0, .int .i64 0, .int .i64 0, .int .i64 0, .int .i64 0, .int .i64 0] 30)) := (Below.refl _ _).alloc (Nat.le_refl _) _
  have hi1 : (fr : Int) ≤ (tt : Int) := by omega
  have hi2 : (tt : Int) ≤ (m : Int) := by omega
  have HPa : Hid (Calls Tryz.prog 74 #[.slice (some ⟨b, fr, none⟩) (tt - fr) (cp - fr)] (w.alloc (.cells #[.int .i64 0, .int .i64 0, .int .i64 0, .int .i64 0, .int .i64 0, .int .i64 0, .int .i64 0] 30)) (PhEnd (phV (cutN d fr tt)) (w.alloc (.cells #[.int .i64 0, .int .i64 0, .int .i64 0, .int .i64 0, .int .i64 0, .int .i64 0, .int .i64 0] 30)))) := l4Parse_ph _ _ _ _ _ hxl (by
      have h := (rd_takeH (hr.below hb0) tt).drop fr
      rw [Nat.zero_add] at h; exact h) hBx (by omega) (by omega)
  have HPb : Hid (cp = fr → Calls Tryz.prog 74 #[.slice (some ⟨b, 0, none⟩) (tt - fr) 0] (w.alloc (.cells #[.int .i64 0, .int .i64 0, .int .i64 0, .int .i64 0, .int .i64 0, .int .i64 0, .int .i64 0] 30)) (PhEnd (phV (cutN d fr tt)) (w.alloc (.cells #[.int .i64 0, .int .i64 0, .int .i64 0, .int .i64 0, .int .i64 0, .int .i64 0, .int .i64 0] 30)))) := fun hmf => l4Parse_ph _ _ _ _ _ hxl (by
      have e0 : cutN d fr tt = [] := List.length_eq_zero_iff.1 (by rw [hxl]; omega)
      rw [e0]; exact .inl rfl) hBx (by omega) (by omega)
  have HOK : Hid ((phV (cutN d fr tt)).1 = 0 → fdF (phV (cutN d fr tt)).2.2 = 0 ∧ (phV (cutN d fr tt)).2.1 ≤ 400 ∧ FitK 400 (phV (cutN d fr tt)).2.2) := fun h => by
    obtain ⟨h1, h2, h3⟩ := phF_all _ h
    rw [hxl] at h2 h3
    exact ⟨h1, by omega, h3.mono (by omega)⟩
  have HO1 : Hid ((phV (cutN d fr tt)).1 ≠ 0 → oneM (cutN d fr tt) = ((3, 0, 1), 0, [])) := oneM_bad
  have HO2 : Hid ((phV (cutN d fr tt)).1 = 0 → fdOf (phV (cutN d fr tt)).2.2 wct = none → oneM (cutN d fr tt) = ((1, 1, cdV (phV (cutN d fr tt)).2.2), (phV (cutN d fr tt)).2.1, [])) := oneM_none
  have HO3 : Hid ((phV (cutN d fr tt)).1 = 0 → ∀ v, fdOf (phV (cutN d fr tt)).2.2 wct = some v → oneM (cutN d fr tt) = (((tyV (bts v)).1, (tyV (bts v)).2, cdV (phV (cutN d fr tt)).2.2), (phV (cutN d fr tt)).2.1, if (tyV (bts v)).1 = 2 then (nmN wMark ((pcs (bts v)).drop 1)).getD [] else [])) := fun h v h1 => oneM_some h h1
  generalize oneM (cutN d fr tt) = ro at *
  generalize phV (cutN d fr tt) = ph at *
  obtain ⟨hc, ha, fs⟩ := ph
  clear hxl hBx hB hl
  have hsW : (w.alloc (.cells #[.int .i64 0, .int .i64 0, .int .i64 0, .int .i64 0, .int .i64 0, .int .i64 0, .int .i64 0] 30)).heap.size = w.heap.size + 1 := by simp
  go_enter Tryz.func51, Tryz.ntmps51
  go_wp2_with fail
  case inr =>
    refine HPa.out.mono ?_
    rintro e w1 ⟨hb1, av, nv, cv, kv, rfl, hend⟩
    clear HPa HPb
    dsimp only at hend ⊢
    have hbl : Below (w.heap.size + 1) (w.alloc (.cells #[.int .i64 0, .int .i64 0, .int .i64 0, .int .i64 0, .int .i64 0, .int .i64 0, .int .i64 0] 30)) w1 := hb1.mono (by simp)
    generalize hW : (w.alloc (.cells #[.int .i64 0, .int .i64 0, .int .i64 0, .int .i64 0, .int .i64 0, .int .i64 0, .int .i64 0] 30)) = W at *
    have hbw := hb0.trans (hbl.mono (by omega))
    by_cases hc0 : hc = 0
    · obtain rfl := hc0
      obtain ⟨rfl, rfl, hown⟩ := hend rfl
      obtain ⟨hfd, hha, hfk⟩ := HOK.out rfl
      clear HO1 HOK hend
      have hfit : Fit fs := hfk.fit (by omega)
      have hnf : fs.length ≤ 1048576 := by have := hfk.1; omega
      have HOf : Hid (∀ W, RdF W av fs → Calls Tryz.prog 75 #[.slice av fs.length cv, .string ⟨#[99, 111, 110, 116, 101, 110, 116, 45, 116, 121, 112, 101]⟩] W fun e w' => e = .returned (ofP (fdOf fs wct)) ∧ Below W.heap.size W w') := fun W h => l4Of_any av fs.length cv fs wct W rfl h hnf hfit (by decide)
      have HC : Hid (∀ W, RdF W av fs → Calls Tryz.prog 76 #[.slice av fs.length cv] W fun e w' => e = .returned (.int .i64 (cdV fs)) ∧ Below W.heap.size W w') := fun W h => l5Coding_any av fs.length cv fs W rfl h hnf hfit
      have hft2 : ∀ v, fdOf fs wct = some v → v.size ≤ 1048576 := fun v h => fdOf_fit hfit h
      generalize cdV fs = cd at *
      generalize fdOf fs wct = fo at *
      have hrw := hown.rd.2
      go_wp2_with fail
      refine (HOf.out _ (hrw.below ((Below.refl _ _).alloc (Nat.le_refl _) _))).mono ?_
      rintro e w2 ⟨rfl, hb2⟩
      have hq2 : Below w1.heap.size w1 w2 := ((Below.refl _ w1).alloc (Nat.le_refl _) _).trans (hb2.mono (by simp))
      have hwQ : w.heap.size + 1 ≤ w1.heap.size := by have := hbl.size; omega
      have hpt2 : PtAt w2 w1.heap.size 1 1 0 0 0 0 0 := (hb2.block w1.heap.size (by simp)).trans (heap_alloc_new w1 _)
      clear hb2 HOf
      cases fo with
      | none =>
        have HO : Hid (ro = _) := HO2.out (by first | rfl | trivial) rfl
        clear HO2 HO3
        simp only [ofP]
        go_wp2_with fail
        refine (HC.out _ (hrw.below hq2)).mono ?_
        rintro e w3 ⟨rfl, hb3⟩
        have hq3 := hq2.trans (hb3.mono hq2.size)
        have hpt3 : PtAt w3 w1.heap.size 1 1 0 0 0 0 0 := hpt2.kept (hb3.block w1.heap.size hpt2.lt)
        have hbl3 : Below (w.heap.size + 1) W w3 := hbl.trans (hq3.mono hwQ)
        obtain ⟨⟨t0, t1, t2, t3, t4, t5, t6⟩, ⟨g0, g1, g2, g3, g4, g5, g6⟩⟩ := res_block7 hW hbl3
        obtain ⟨c0, c1, c2, c3, c4, c5, c6⟩ := hpt3.cells
        have f2 := hpt3.frozen 2
        have f3 := hpt3.frozen 3
        have f4 := hpt3.frozen 4
        have hne : w.heap.size ≠ w1.heap.size := by omega
        have hne2 : w1.heap.size ≠ w.heap.size := by omega
        have hXb : Below w.heap.size w (((w3.setCell ⟨w1.heap.size, 2, none⟩ (.int .i64 cd)).setCell ⟨w1.heap.size, 3, none⟩ (.int .i64 ((fr : Int) + (kv : Int)))).setCell ⟨w1.heap.size, 4, none⟩ (.int .i64 (tt : Int))) := (((hb0.trans (hbl3.mono (by omega))).setCell (p := ⟨w1.heap.size, 2, none⟩) (by simp; omega) _).setCell (p := ⟨w1.heap.size, 3, none⟩) (by simp; omega) _).setCell (p := ⟨w1.heap.size, 4, none⟩) (by simp; omega) _
        have e0 : (((w3.setCell ⟨w1.heap.size, 2, none⟩ (.int .i64 cd)).setCell ⟨w1.heap.size, 3, none⟩ (.int .i64 ((fr : Int) + (kv : Int)))).setCell ⟨w1.heap.size, 4, none⟩ (.int .i64 (tt : Int))).cell? ⟨w.heap.size, 0, none⟩ = some (.int .i64 0) := by go_simp
        have e1 : (((w3.setCell ⟨w1.heap.size, 2, none⟩ (.int .i64 cd)).setCell ⟨w1.heap.size, 3, none⟩ (.int .i64 ((fr : Int) + (kv : Int)))).setCell ⟨w1.heap.size, 4, none⟩ (.int .i64 (tt : Int))).cell? ⟨w.heap.size, 1, none⟩ = some (.int .i64 0) := by go_simp
        have e2 : (((w3.setCell ⟨w1.heap.size, 2, none⟩ (.int .i64 cd)).setCell ⟨w1.heap.size, 3, none⟩ (.int .i64 ((fr : Int) + (kv : Int)))).setCell ⟨w1.heap.size, 4, none⟩ (.int .i64 (tt : Int))).cell? ⟨w.heap.size, 2, none⟩ = some (.int .i64 0) := by go_simp
        have e3 : (((w3.setCell ⟨w1.heap.size, 2, none⟩ (.int .i64 cd)).setCell ⟨w1.heap.size, 3, none⟩ (.int .i64 ((fr : Int) + (kv : Int)))).setCell ⟨w1.heap.size, 4, none⟩ (.int .i64 (tt : Int))).cell? ⟨w.heap.size, 3, none⟩ = some (.int .i64 0) := by go_simp
        have e4 : (((w3.setCell ⟨w1.heap.size, 2, none⟩ (.int .i64 cd)).setCell ⟨w1.heap.size, 3, none⟩ (.int .i64 ((fr : Int) + (kv : Int)))).setCell ⟨w1.heap.size, 4, none⟩ (.int .i64 (tt : Int))).cell? ⟨w.heap.size, 4, none⟩ = some (.int .i64 0) := by go_simp
        have e5 : (((w3.setCell ⟨w1.heap.size, 2, none⟩ (.int .i64 cd)).setCell ⟨w1.heap.size, 3, none⟩ (.int .i64 ((fr : Int) + (kv : Int)))).setCell ⟨w1.heap.size, 4, none⟩ (.int .i64 (tt : Int))).cell? ⟨w.heap.size, 5, none⟩ = some (.int .i64 0) := by go_simp
        have e6 : (((w3.setCell ⟨w1.heap.size, 2, none⟩ (.int .i64 cd)).setCell ⟨w1.heap.size, 3, none⟩ (.int .i64 ((fr : Int) + (kv : Int)))).setCell ⟨w1.heap.size, 4, none⟩ (.int .i64 (tt : Int))).cell? ⟨w.heap.size, 6, none⟩ = some (.int .i64 0) := by go_simp
        obtain ⟨hk0, hk1, hk2, hk3, hk4, hk5, hk6⟩ := res_cells7 ⟨e0, e1, e2, e3, e4, e5, e6⟩ (.int .i64 1) (.int .i64 1) (.int .i64 cd) (.int .i64 ((fr : Int) + (kv : Int))) (.int .i64 (tt : Int)) (.int .i64 0) (.int .i64 0)
        clear HC
        go_wp2
        refine bodyPost_ret (v := onP ((1, 1, cd), kv, []) fr tt) (by simp [onP, str, results, Tryz.results51, go_sem, hk0, hk1, hk2, hk3, hk4, hk5, hk6]) rfl ?_
        exact ⟨by rw [HO.out], below_sets7 hXb _ _ _ _ _ _ _⟩
      | some v =>
        have hvs := hft2 v rfl
        have HO : Hid (ro = _) := HO3.out (by first | rfl | trivial) v rfl
        have HTy : Hid (∀ W, Calls Tryz.prog 25 #[.string v] W fun e w' => e = .returned (ptV (tyV (bts v))) ∧ Below W.heap.size W w') := fun W => by
          have h1 := l5Type_any (bts v) _ W rfl (bts_isB v) (by rw [bts_len]; exact hvs)
          rw [str_bts] at h1; exact h1
        have HPc : Hid (∀ W, Calls Tryz.prog 40 #[.string v] W fun e w' => PcsEnd (pcs (bts v)) W e w') := fun W => by
          have h1 := l5Pieces_any (bts v) _ W rfl (bts_isB v) (by rw [bts_len]; exact hvs)
          rw [str_bts] at h1; exact h1
        have hpl := pcs_len (bts v)
        have hpi := pcs_in (bts_isB v)
        rw [bts_len] at hpl
        have HOKp : Hid (PcOk (pcs (bts v))) := fun p hp => ⟨(hpi p hp).1, by have := (hpi p hp).2; rw [bts_len] at this; omega⟩
        have hpn : (pcs (bts v)).length ≤ 1048576 := by omega
        have HNe : Hid ((tyV (bts v)).1 = 2 → pcs (bts v) ≠ []) := fun h hn => by rw [tyV_nil hn] at h; simp at h
        clear HO2 HO3 hpi hpl hft2
        simp only [ofP]
        generalize tyV (bts v) = ty at *
        generalize pcs (bts v) = ps at *
        obtain ⟨kk, ch⟩ := ty
        dsimp only at HNe
        go_wp2_with fail
        refine (HTy.out _).mono ?_
        rintro e w3 ⟨rfl, hb3⟩
        have hq3 := hq2.trans (hb3.mono hq2.size)
        have hpt3 : PtAt w3 w1.heap.size 1 1 0 0 0 0 0 := hpt2.kept (hb3.block w1.heap.size hpt2.lt)
        clear HTy hpt2 hb3
        simp only [ptV]
        have hpt4 : PtAt (((((((w3.setCell ⟨w1.heap.size, 0, none⟩ (.int .i64 kk)).setCell ⟨w1.heap.size, 1, none⟩ (.int .i64 ch)).setCell ⟨w1.heap.size, 2, none⟩ (.int .i64 0)).setCell ⟨w1.heap.size, 3, none⟩ (.int .i64 0)).setCell ⟨w1.heap.size, 4, none⟩ (.int .i64 0)).setCell ⟨w1.heap.size, 5, none⟩ (.int .i64 0)).setCell ⟨w1.heap.size, 6, none⟩ (.int .i64 0)) w1.heap.size kk ch 0 0 0 0 0 := (((((((hpt3.set0 kk).set1 ch).set2 0).set3 0).set4 0).set5 0).set6 0)
        have hq4 : Below w1.heap.size w1 (((((((w3.setCell ⟨w1.heap.size, 0, none⟩ (.int .i64 kk)).setCell ⟨w1.heap.size, 1, none⟩ (.int .i64 ch)).setCell ⟨w1.heap.size, 2, none⟩ (.int .i64 0)).setCell ⟨w1.heap.size, 3, none⟩ (.int .i64 0)).setCell ⟨w1.heap.size, 4, none⟩ (.int .i64 0)).setCell ⟨w1.heap.size, 5, none⟩ (.int .i64 0)).setCell ⟨w1.heap.size, 6, none⟩ (.int .i64 0)) := (((((((hq3.setCell (p := ⟨w1.heap.size, 0, none⟩) (Nat.le_refl _) _).setCell (p := ⟨w1.heap.size, 1, none⟩) (Nat.le_refl _) _).setCell (p := ⟨w1.heap.size, 2, none⟩) (Nat.le_refl _) _).setCell (p := ⟨w1.heap.size, 3, none⟩) (Nat.le_refl _) _).setCell (p := ⟨w1.heap.size, 4, none⟩) (Nat.le_refl _) _).setCell (p := ⟨w1.heap.size, 5, none⟩) (Nat.le_refl _) _).setCell (p := ⟨w1.heap.size, 6, none⟩) (Nat.le_refl _) _)
        have H4 : Hid (PtAt (((((((w3.setCell ⟨w1.heap.size, 0, none⟩ (.int .i64 kk)).setCell ⟨w1.heap.size, 1, none⟩ (.int .i64 ch)).setCell ⟨w1.heap.size, 2, none⟩ (.int .i64 0)).setCell ⟨w1.heap.size, 3, none⟩ (.int .i64 0)).setCell ⟨w1.heap.size, 4, none⟩ (.int .i64 0)).setCell ⟨w1.heap.size, 5, none⟩ (.int .i64 0)).setCell ⟨w1.heap.size, 6, none⟩ (.int .i64 0)) w1.heap.size kk ch 0 0 0 0 0 ∧ Below w1.heap.size w1 (((((((w3.setCell ⟨w1.heap.size, 0, none⟩ (.int .i64 kk)).setCell ⟨w1.heap.size, 1, none⟩ (.int .i64 ch)).setCell ⟨w1.heap.size, 2, none⟩ (.int .i64 0)).setCell ⟨w1.heap.size, 3, none⟩ (.int .i64 0)).setCell ⟨w1.heap.size, 4, none⟩ (.int .i64 0)).setCell ⟨w1.heap.size, 5, none⟩ (.int .i64 0)).setCell ⟨w1.heap.size, 6, none⟩ (.int .i64 0))) := ⟨hpt4, hq4⟩
        have x0 : (((((((w3.setCell ⟨w1.heap.size, 0, none⟩ (.int .i64 kk)).setCell ⟨w1.heap.size, 1, none⟩ (.int .i64 ch)).setCell ⟨w1.heap.size, 2, none⟩ (.int .i64 0)).setCell ⟨w1.heap.size, 3, none⟩ (.int .i64 0)).setCell ⟨w1.heap.size, 4, none⟩ (.int .i64 0)).setCell ⟨w1.heap.size, 5, none⟩ (.int .i64 0)).setCell ⟨w1.heap.size, 6, none⟩ (.int .i64 0)).cell? ⟨w1.heap.size, 0, none⟩ = some (.int .i64 kk) := hpt4.cells.1
        obtain ⟨c0, c1, c2, c3, c4, c5, c6⟩ := hpt3.cells
        have f0 := hpt3.frozen 0
        have f1 := hpt3.frozen 1
        have f2 := hpt3.frozen 2
        have f3 := hpt3.frozen 3
        have f4 := hpt3.frozen 4
        have f5 := hpt3.frozen 5
        have f6 := hpt3.frozen 6
        clear hpt4 hq4
        by_cases hk : kk = 2
        · obtain rfl := hk
          have hpne : 1 ≤ ps.length := by
            rcases Nat.lt_or_ge 0 ps.length with h | h
            · exact h
            · exact absurd (List.length_eq_zero_iff.1 (by omega)) (HNe.out (by first | rfl | trivial))
          go_wp2_with fail
          obtain ⟨hpt4, hq4⟩ := H4.out
          clear c0 c1 c2 c3 c4 c5 c6 f0 f1 f2 f3 f4 f5 f6 x0
          refine (HPc.out _).mono ?_
          rintro e w5 ⟨v5, rfl, hown5, hb5⟩
          obtain ⟨a5, c5, rfl, -, -⟩ := hown5.form
          have hq5 := hq4.trans (hb5.mono hq4.size)
          have hpt5 : PtAt w5 w1.heap.size 2 ch 0 0 0 0 0 := hpt4.kept (hb5.block w1.heap.size hpt4.lt)
          have HNm : Calls Tryz.prog 42 #[.slice a5 ps.length c5, .string ⟨#[98, 111, 117, 110, 100, 97, 114, 121, 61]⟩] w5 fun e w' => ∃ bb, e = .returned (.tuple #[.string (str ((nmN wMark (ps.drop 1)).getD [])), .bool bb]) ∧ Below w5.heap.size w5 w' := (l5Named_any a5 ps.length c5 ps wMark w5 rfl hpne hown5.rd.2 hpn HOKp.out (by unfold wMark IsB; decide) (by decide)).mono (by
            rintro e w' ⟨rfl, hb⟩
            cases nmN wMark (ps.drop 1) with
            | none => exact ⟨_, rfl, hb⟩
            | some x => exact ⟨_, rfl, hb⟩)
          have HO' : Hid (ro = ((2, ch, cd), kv, (nmN wMark (ps.drop 1)).getD [])) := HO.out.trans (by simp)
          clear HO hown5 HOKp HNe HPc H4 hpt4 hq4
          generalize (nmN wMark (ps.drop 1)).getD [] = mk at *
          go_wp2_with fail
          refine HNm.mono ?_
          rintro e w6 ⟨bb, rfl, hb6⟩
          have hq6 := hq5.trans (hb6.mono hq5.size)
          have hpt6 : PtAt w6 w1.heap.size 2 ch 0 0 0 0 0 := hpt5.kept (hb6.block w1.heap.size hpt5.lt)
          clear HNm hpt5
          go_wp2_with fail
          refine (HC.out _ (hrw.below hq6)).mono ?_
          rintro e w7 ⟨rfl, hb7⟩
          have hq7 := hq6.trans (hb7.mono hq6.size)
          have hpt7 : PtAt w7 w1.heap.size 2 ch 0 0 0 0 0 := hpt6.kept (hb7.block w1.heap.size hpt6.lt)
          have hbl7 : Below (w.heap.size + 1) W w7 := hbl.trans (hq7.mono hwQ)
          obtain ⟨⟨t0, t1, t2, t3, t4, t5, t6⟩, ⟨g0, g1, g2, g3, g4, g5, g6⟩⟩ := res_block7 hW hbl7
          obtain ⟨c0, c1, c2, c3, c4, c5, c6⟩ := hpt7.cells
          have f2 := hpt7.frozen 2
          have f3 := hpt7.frozen 3
          have f4 := hpt7.frozen 4
          have hne : w.heap.size ≠ w1.heap.size := by omega
          have hne2 : w1.heap.size ≠ w.heap.size := by omega
          have hXb : Below w.heap.size w (((w7.setCell ⟨w1.heap.size, 2, none⟩ (.int .i64 cd)).setCell ⟨w1.heap.size, 3, none⟩ (.int .i64 ((fr : Int) + (kv : Int)))).setCell ⟨w1.heap.size, 4, none⟩ (.int .i64 (tt : Int))) := (((hb0.trans (hbl7.mono (by omega))).setCell (p := ⟨w1.heap.size, 2, none⟩) (by simp; omega) _).setCell (p := ⟨w1.heap.size, 3, none⟩) (by simp; omega) _).setCell (p := ⟨w1.heap.size, 4, none⟩) (by simp; omega) _
          have e0 : (((w7.setCell ⟨w1.heap.size, 2, none⟩ (.int .i64 cd)).setCell ⟨w1.heap.size, 3, none⟩ (.int .i64 ((fr : Int) + (kv : Int)))).setCell ⟨w1.heap.size, 4, none⟩ (.int .i64 (tt : Int))).cell? ⟨w.heap.size, 0, none⟩ = some (.int .i64 0) := by go_simp
          have e1 : (((w7.setCell ⟨w1.heap.size, 2, none⟩ (.int .i64 cd)).setCell ⟨w1.heap.size, 3, none⟩ (.int .i64 ((fr : Int) + (kv : Int)))).setCell ⟨w1.heap.size, 4, none⟩ (.int .i64 (tt : Int))).cell? ⟨w.heap.size, 1, none⟩ = some (.int .i64 0) := by go_simp
          have e2 : (((w7.setCell ⟨w1.heap.size, 2, none⟩ (.int .i64 cd)).setCell ⟨w1.heap.size, 3, none⟩ (.int .i64 ((fr : Int) + (kv : Int)))).setCell ⟨w1.heap.size, 4, none⟩ (.int .i64 (tt : Int))).cell? ⟨w.heap.size, 2, none⟩ = some (.int .i64 0) := by go_simp
          have e3 : (((w7.setCell ⟨w1.heap.size, 2, none⟩ (.int .i64 cd)).setCell ⟨w1.heap.size, 3, none⟩ (.int .i64 ((fr : Int) + (kv : Int)))).setCell ⟨w1.heap.size, 4, none⟩ (.int .i64 (tt : Int))).cell? ⟨w.heap.size, 3, none⟩ = some (.int .i64 0) := by go_simp
          have e4 : (((w7.setCell ⟨w1.heap.size, 2, none⟩ (.int .i64 cd)).setCell ⟨w1.heap.size, 3, none⟩ (.int .i64 ((fr : Int) + (kv : Int)))).setCell ⟨w1.heap.size, 4, none⟩ (.int .i64 (tt : Int))).cell? ⟨w.heap.size, 4, none⟩ = some (.int .i64 0) := by go_simp
          have e5 : (((w7.setCell ⟨w1.heap.size, 2, none⟩ (.int .i64 cd)).setCell ⟨w1.heap.size, 3, none⟩ (.int .i64 ((fr : Int) + (kv : Int)))).setCell ⟨w1.heap.size, 4, none⟩ (.int .i64 (tt : Int))).cell? ⟨w.heap.size, 5, none⟩ = some (.int .i64 0) := by go_simp
          have e6 : (((w7.setCell ⟨w1.heap.size, 2, none⟩ (.int .i64 cd)).setCell ⟨w1.heap.size, 3, none⟩ (.int .i64 ((fr : Int) + (kv : Int)))).setCell ⟨w1.heap.size, 4, none⟩ (.int .i64 (tt : Int))).cell? ⟨w.heap.size, 6, none⟩ = some (.int .i64 0) := by go_simp
          obtain ⟨hk0, hk1, hk2, hk3, hk4, hk5, hk6⟩ := res_cells7 ⟨e0, e1, e2, e3, e4, e5, e6⟩ (.int .i64 2) (.int .i64 ch) (.int .i64 cd) (.int .i64 ((fr : Int) + (kv : Int))) (.int .i64 (tt : Int)) (.int .i64 0) (.int .i64 0)
          clear HC
          go_wp2
          refine bodyPost_ret (v := onP ((2, ch, cd), kv, mk) fr tt) (by simp [onP, str, results, Tryz.results51, go_sem, hk0, hk1, hk2, hk3, hk4, hk5, hk6]) rfl ?_
          exact ⟨by rw [HO'.out], below_sets7 hXb _ _ _ _ _ _ _⟩
        · have hk' : (kk == 2) = false := beq_eq_false_iff_ne.2 hk
          have HI : Hid ((if kk = 2 then (nmN wMark (ps.drop 1)).getD [] else []) = []) := if_neg hk
          go_wp2_with fail
          obtain ⟨hpt4, hq4⟩ := H4.out
          clear c0 c1 c2 c3 c4 c5 c6 f0 f1 f2 f3 f4 f5 f6 x0
          refine (HC.out _ (hrw.below hq4)).mono ?_
          rintro e w5 ⟨rfl, hb5⟩
          have hq5 := hq4.trans (hb5.mono hq4.size)
          have hpt5 : PtAt w5 w1.heap.size kk ch 0 0 0 0 0 := hpt4.kept (hb5.block w1.heap.size hpt4.lt)
          have hbl5 : Below (w.heap.size + 1) W w5 := hbl.trans (hq5.mono hwQ)
          obtain ⟨⟨t0, t1, t2, t3, t4, t5, t6⟩, ⟨g0, g1, g2, g3, g4, g5, g6⟩⟩ := res_block7 hW hbl5
          obtain ⟨c0, c1, c2, c3, c4, c5, c6⟩ := hpt5.cells
          have f2 := hpt5.frozen 2
          have f3 := hpt5.frozen 3
          have f4 := hpt5.frozen 4
          have hne : w.heap.size ≠ w1.heap.size := by omega
          have hne2 : w1.heap.size ≠ w.heap.size := by omega
          have hXb : Below w.heap.size w (((w5.setCell ⟨w1.heap.size, 2, none⟩ (.int .i64 cd)).setCell ⟨w1.heap.size, 3, none⟩ (.int .i64 ((fr : Int) + (kv : Int)))).setCell ⟨w1.heap.size, 4, none⟩ (.int .i64 (tt : Int))) := (((hb0.trans (hbl5.mono (by omega))).setCell (p := ⟨w1.heap.size, 2, none⟩) (by simp; omega) _).setCell (p := ⟨w1.heap.size, 3, none⟩) (by simp; omega) _).setCell (p := ⟨w1.heap.size, 4, none⟩) (by simp; omega) _
          have e0 : (((w5.setCell ⟨w1.heap.size, 2, none⟩ (.int .i64 cd)).setCell ⟨w1.heap.size, 3, none⟩ (.int .i64 ((fr : Int) + (kv : Int)))).setCell ⟨w1.heap.size, 4, none⟩ (.int .i64 (tt : Int))).cell? ⟨w.heap.size, 0, none⟩ = some (.int .i64 0) := by go_simp
          have e1 : (((w5.setCell ⟨w1.heap.size, 2, none⟩ (.int .i64 cd)).setCell ⟨w1.heap.size, 3, none⟩ (.int .i64 ((fr : Int) + (kv : Int)))).setCell ⟨w1.heap.size, 4, none⟩ (.int .i64 (tt : Int))).cell? ⟨w.heap.size, 1, none⟩ = some (.int .i64 0) := by go_simp
          have e2 : (((w5.setCell ⟨w1.heap.size, 2, none⟩ (.int .i64 cd)).setCell ⟨w1.heap.size, 3, none⟩ (.int .i64 ((fr : Int) + (kv : Int)))).setCell ⟨w1.heap.size, 4, none⟩ (.int .i64 (tt : Int))).cell? ⟨w.heap.size, 2, none⟩ = some (.int .i64 0) := by go_simp
          have e3 : (((w5.setCell ⟨w1.heap.size, 2, none⟩ (.int .i64 cd)).setCell ⟨w1.heap.size, 3, none⟩ (.int .i64 ((fr : Int) + (kv : Int)))).setCell ⟨w1.heap.size, 4, none⟩ (.int .i64 (tt : Int))).cell? ⟨w.heap.size, 3, none⟩ = some (.int .i64 0) := by go_simp
          have e4 : (((w5.setCell ⟨w1.heap.size, 2, none⟩ (.int .i64 cd)).setCell ⟨w1.heap.size, 3, none⟩ (.int .i64 ((fr : Int) + (kv : Int)))).setCell ⟨w1.heap.size, 4, none⟩ (.int .i64 (tt : Int))).cell? ⟨w.heap.size, 4, none⟩ = some (.int .i64 0) := by go_simp
          have e5 : (((w5.setCell ⟨w1.heap.size, 2, none⟩ (.int .i64 cd)).setCell ⟨w1.heap.size, 3, none⟩ (.int .i64 ((fr : Int) + (kv : Int)))).setCell ⟨w1.heap.size, 4, none⟩ (.int .i64 (tt : Int))).cell? ⟨w.heap.size, 5, none⟩ = some (.int .i64 0) := by go_simp
          have e6 : (((w5.setCell ⟨w1.heap.size, 2, none⟩ (.int .i64 cd)).setCell ⟨w1.heap.size, 3, none⟩ (.int .i64 ((fr : Int) + (kv : Int)))).setCell ⟨w1.heap.size, 4, none⟩ (.int .i64 (tt : Int))).cell? ⟨w.heap.size, 6, none⟩ = some (.int .i64 0) := by go_simp
          obtain ⟨hk0, hk1, hk2, hk3, hk4, hk5, hk6⟩ := res_cells7 ⟨e0, e1, e2, e3, e4, e5, e6⟩ (.int .i64 kk) (.int .i64 ch) (.int .i64 cd) (.int .i64 ((fr : Int) + (kv : Int))) (.int .i64 (tt : Int)) (.int .i64 0) (.int .i64 0)
          clear HC
          go_wp2
          refine bodyPost_ret (v := onP ((kk, ch, cd), kv, []) fr tt) (by simp [onP, str, results, Tryz.results51, go_sem, hk0, hk1, hk2, hk3, hk4, hk5, hk6]) rfl ?_
          exact ⟨by rw [HO.out, HI.out], below_sets7 hXb _ _ _ _ _ _ _⟩
    · obtain rfl := HO1.out hc0
      clear HO1 HO2 HO3 HOK hend
      have hc0' : (hc == 0) = false := beq_eq_false_iff_ne.2 hc0
      rw [hc0']
      obtain ⟨⟨hc0, hc1, hc2, hc3, hc4, hc5, hc6⟩, ⟨hf0, hf1, hf2, hf3, hf4, hf5, hf6⟩⟩ := res_block7 hW hbl
      obtain ⟨hk0, hk1, hk2, hk3, hk4, hk5, hk6⟩ := res_cells7 ⟨hc0, hc1, hc2, hc3, hc4, hc5, hc6⟩ (.int .i64 3) (.int .i64 0) (.int .i64 1) (.int .i64 (fr : Int)) (.int .i64 (tt : Int)) (.int .i64 0) (.int .i64 0)
      go_wp2
      refine bodyPost_ret (v := onP ((3, 0, 1), 0, []) fr tt) (by simp [onP, str, results, Tryz.results51, go_sem, hk0, hk1, hk2, hk3, hk4, hk5, hk6]) rfl ?_
      exact ⟨rfl, below_sets7 hbw _ _ _ _ _ _ _⟩
  case inl =>
    refine (HPb.out (by omega)).mono ?_
    rintro e w1 ⟨hb1, av, nv, cv, kv, rfl, hend⟩
    clear HPa HPb
    dsimp only at hend ⊢
    have hbl : Below (w.heap.size + 1) (w.alloc (.cells #[.int .i64 0, .int .i64 0, .int .i64 0, .int .i64 0, .int .i64 0, .int .i64 0, .int .i64 0] 30)) w1 := hb1.mono (by simp)
    generalize hW : (w.alloc (.cells #[.int .i64 0, .int .i64 0, .int .i64 0, .int .i64 0, .int .i64 0, .int .i64 0, .int .i64 0] 30)) = W at *
    have hbw := hb0.trans (hbl.mono (by omega))
    by_cases hc0 : hc = 0
    · obtain rfl := hc0
      obtain ⟨rfl, rfl, hown⟩ := hend rfl
      obtain ⟨hfd, hha, hfk⟩ := HOK.out rfl
      clear HO1 HOK hend
      have hfit : Fit fs := hfk.fit (by omega)
      have hnf : fs.length ≤ 1048576 := by have := hfk.1; omega
      have HOf : Hid (∀ W, RdF W av fs → Calls Tryz.prog 75 #[.slice av fs.length cv, .string ⟨#[99, 111, 110, 116, 101, 110, 116, 45, 116, 121, 112, 101]⟩] W fun e w' => e = .returned (ofP (fdOf fs wct)) ∧ Below W.heap.size W w') := fun W h => l4Of_any av fs.length cv fs wct W rfl h hnf hfit (by decide)
      have HC : Hid (∀ W, RdF W av fs → Calls Tryz.prog 76 #[.slice av fs.length cv] W fun e w' => e = .returned (.int .i64 (cdV fs)) ∧ Below W.heap.size W w') := fun W h => l5Coding_any av fs.length cv fs W rfl h hnf hfit
      have hft2 : ∀ v, fdOf fs wct = some v → v.size ≤ 1048576 := fun v h => fdOf_fit hfit h
      generalize cdV fs = cd at *
      generalize fdOf fs wct = fo at *
      have hrw := hown.rd.2
      go_wp2_with fail
      refine (HOf.out _ (hrw.below ((Below.refl _ _).alloc (Nat.le_refl _) _))).mono ?_
      rintro e w2 ⟨rfl, hb2⟩
      have hq2 : Below w1.heap.size w1 w2 := ((Below.refl _ w1).alloc (Nat.le_refl _) _).trans (hb2.mono (by simp))
      have hwQ : w.heap.size + 1 ≤ w1.heap.size := by have := hbl.size; omega
      have hpt2 : PtAt w2 w1.heap.size 1 1 0 0 0 0 0 := (hb2.block w1.heap.size (by simp)).trans (heap_alloc_new w1 _)
      clear hb2 HOf
      cases fo with
      | none =>
        have HO : Hid (ro = _) := HO2.out (by first | rfl | trivial) rfl
        clear HO2 HO3
        simp only [ofP]
        go_wp2_with fail
        refine (HC.out _ (hrw.below hq2)).mono ?_
        rintro e w3 ⟨rfl, hb3⟩
        have hq3 := hq2.trans (hb3.mono hq2.size)
        have hpt3 : PtAt w3 w1.heap.size 1 1 0 0 0 0 0 := hpt2.kept (hb3.block w1.heap.size hpt2.lt)
        have hbl3 : Below (w.heap.size + 1) W w3 := hbl.trans (hq3.mono hwQ)
        obtain ⟨⟨t0, t1, t2, t3, t4, t5, t6⟩, ⟨g0, g1, g2, g3, g4, g5, g6⟩⟩ := res_block7 hW hbl3
        obtain ⟨c0, c1, c2, c3, c4, c5, c6⟩ := hpt3.cells
        have f2 := hpt3.frozen 2
        have f3 := hpt3.frozen 3
        have f4 := hpt3.frozen 4
        have hne : w.heap.size ≠ w1.heap.size := by omega
        have hne2 : w1.heap.size ≠ w.heap.size := by omega
        have hXb : Below w.heap.size w (((w3.setCell ⟨w1.heap.size, 2, none⟩ (.int .i64 cd)).setCell ⟨w1.heap.size, 3, none⟩ (.int .i64 ((fr : Int) + (kv : Int)))).setCell ⟨w1.heap.size, 4, none⟩ (.int .i64 (tt : Int))) := (((hb0.trans (hbl3.mono (by omega))).setCell (p := ⟨w1.heap.size, 2, none⟩) (by simp; omega) _).setCell (p := ⟨w1.heap.size, 3, none⟩) (by simp; omega) _).setCell (p := ⟨w1.heap.size, 4, none⟩) (by simp; omega) _
        have e0 : (((w3.setCell ⟨w1.heap.size, 2, none⟩ (.int .i64 cd)).setCell ⟨w1.heap.size, 3, none⟩ (.int .i64 ((fr : Int) + (kv : Int)))).setCell ⟨w1.heap.size, 4, none⟩ (.int .i64 (tt : Int))).cell? ⟨w.heap.size, 0, none⟩ = some (.int .i64 0) := by go_simp
        have e1 : (((w3.setCell ⟨w1.heap.size, 2, none⟩ (.int .i64 cd)).setCell ⟨w1.heap.size, 3, none⟩ (.int .i64 ((fr : Int) + (kv : Int)))).setCell ⟨w1.heap.size, 4, none⟩ (.int .i64 (tt : Int))).cell? ⟨w.heap.size, 1, none⟩ = some (.int .i64 0) := by go_simp
        have e2 : (((w3.setCell ⟨w1.heap.size, 2, none⟩ (.int .i64 cd)).setCell ⟨w1.heap.size, 3, none⟩ (.int .i64 ((fr : Int) + (kv : Int)))).setCell ⟨w1.heap.size, 4, none⟩ (.int .i64 (tt : Int))).cell? ⟨w.heap.size, 2, none⟩ = some (.int .i64 0) := by go_simp
        have e3 : (((w3.setCell ⟨w1.heap.size, 2, none⟩ (.int .i64 cd)).setCell ⟨w1.heap.size, 3, none⟩ (.int .i64 ((fr : Int) + (kv : Int)))).setCell ⟨w1.heap.size, 4, none⟩ (.int .i64 (tt : Int))).cell? ⟨w.heap.size, 3, none⟩ = some (.int .i64 0) := by go_simp
        have e4 : (((w3.setCell ⟨w1.heap.size, 2, none⟩ (.int .i64 cd)).setCell ⟨w1.heap.size, 3, none⟩ (.int .i64 ((fr : Int) + (kv : Int)))).setCell ⟨w1.heap.size, 4, none⟩ (.int .i64 (tt : Int))).cell? ⟨w.heap.size, 4, none⟩ = some (.int .i64 0) := by go_simp
        have e5 : (((w3.setCell ⟨w1.heap.size, 2, none⟩ (.int .i64 cd)).setCell ⟨w1.heap.size, 3, none⟩ (.int .i64 ((fr : Int) + (kv : Int)))).setCell ⟨w1.heap.size, 4, none⟩ (.int .i64 (tt : Int))).cell? ⟨w.heap.size, 5, none⟩ = some (.int .i64 0) := by go_simp
        have e6 : (((w3.setCell ⟨w1.heap.size, 2, none⟩ (.int .i64 cd)).setCell ⟨w1.heap.size, 3, none⟩ (.int .i64 ((fr : Int) + (kv : Int)))).setCell ⟨w1.heap.size, 4, none⟩ (.int .i64 (tt : Int))).cell? ⟨w.heap.size, 6, none⟩ = some (.int .i64 0) := by go_simp
        obtain ⟨hk0, hk1, hk2, hk3, hk4, hk5, hk6⟩ := res_cells7 ⟨e0, e1, e2, e3, e4, e5, e6⟩ (.int .i64 1) (.int .i64 1) (.int .i64 cd) (.int .i64 ((fr : Int) + (kv : Int))) (.int .i64 (tt : Int)) (.int .i64 0) (.int .i64 0)
        clear HC
        go_wp2
        refine bodyPost_ret (v := onP ((1, 1, cd), kv, []) fr tt) (by simp [onP, str, results, Tryz.results51, go_sem, hk0, hk1, hk2, hk3, hk4, hk5, hk6]) rfl ?_
        exact ⟨by rw [HO.out], below_sets7 hXb _ _ _ _ _ _ _⟩
      | some v =>
        have hvs := hft2 v rfl
        have HO : Hid (ro = _) := HO3.out (by first | rfl | trivial) v rfl
        have HTy : Hid (∀ W, Calls Tryz.prog 25 #[.string v] W fun e w' => e = .returned (ptV (tyV (bts v))) ∧ Below W.heap.size W w') := fun W => by
          have h1 := l5Type_any (bts v) _ W rfl (bts_isB v) (by rw [bts_len]; exact hvs)
          rw [str_bts] at h1; exact h1
        have HPc : Hid (∀ W, Calls Tryz.prog 40 #[.string v] W fun e w' => PcsEnd (pcs (bts v)) W e w') := fun W => by
          have h1 := l5Pieces_any (bts v) _ W rfl (bts_isB v) (by rw [bts_len]; exact hvs)
          rw [str_bts] at h1; exact h1
        have hpl := pcs_len (bts v)
        have hpi := pcs_in (bts_isB v)
        rw [bts_len] at hpl
        have HOKp : Hid (PcOk (pcs (bts v))) := fun p hp => ⟨(hpi p hp).1, by have := (hpi p hp).2; rw [bts_len] at this; omega⟩
        have hpn : (pcs (bts v)).length ≤ 1048576 := by omega
        have HNe : Hid ((tyV (bts v)).1 = 2 → pcs (bts v) ≠ []) := fun h hn => by rw [tyV_nil hn] at h; simp at h
        clear HO2 HO3 hpi hpl hft2
        simp only [ofP]
        generalize tyV (bts v) = ty at *
        generalize pcs (bts v) = ps at *
        obtain ⟨kk, ch⟩ := ty
        dsimp only at HNe
        go_wp2_with fail
        refine (HTy.out _).mono ?_
        rintro e w3 ⟨rfl, hb3⟩
        have hq3 := hq2.trans (hb3.mono hq2.size)
        have hpt3 : PtAt w3 w1.heap.size 1 1 0 0 0 0 0 := hpt2.kept (hb3.block w1.heap.size hpt2.lt)
        clear HTy hpt2 hb3
        simp only [ptV]
        have hpt4 : PtAt (((((((w3.setCell ⟨w1.heap.size, 0, none⟩ (.int .i64 kk)).setCell ⟨w1.heap.size, 1, none⟩ (.int .i64 ch)).setCell ⟨w1.heap.size, 2, none⟩ (.int .i64 0)).setCell ⟨w1.heap.size, 3, none⟩ (.int .i64 0)).setCell ⟨w1.heap.size, 4, none⟩ (.int .i64 0)).setCell ⟨w1.heap.size, 5, none⟩ (.int .i64 0)).setCell ⟨w1.heap.size, 6, none⟩ (.int .i64 0)) w1.heap.size kk ch 0 0 0 0 0 := (((((((hpt3.set0 kk).set1 ch).set2 0).set3 0).set4 0).set5 0).set6 0)
        have hq4 : Below w1.heap.size w1 (((((((w3.setCell ⟨w1.heap.size, 0, none⟩ (.int .i64 kk)).setCell ⟨w1.heap.size, 1, none⟩ (.int .i64 ch)).setCell ⟨w1.heap.size, 2, none⟩ (.int .i64 0)).setCell ⟨w1.heap.size, 3, none⟩ (.int .i64 0)).setCell ⟨w1.heap.size, 4, none⟩ (.int .i64 0)).setCell ⟨w1.heap.size, 5, none⟩ (.int .i64 0)).setCell ⟨w1.heap.size, 6, none⟩ (.int .i64 0)) := (((((((hq3.setCell (p := ⟨w1.heap.size, 0, none⟩) (Nat.le_refl _) _).setCell (p := ⟨w1.heap.size, 1, none⟩) (Nat.le_refl _) _).setCell (p := ⟨w1.heap.size, 2, none⟩) (Nat.le_refl _) _).setCell (p := ⟨w1.heap.size, 3, none⟩) (Nat.le_refl _) _).setCell (p := ⟨w1.heap.size, 4, none⟩) (Nat.le_refl _) _).setCell (p := ⟨w1.heap.size, 5, none⟩) (Nat.le_refl _) _).setCell (p := ⟨w1.heap.size, 6, none⟩) (Nat.le_refl _) _)
        have H4 : Hid (PtAt (((((((w3.setCell ⟨w1.heap.size, 0, none⟩ (.int .i64 kk)).setCell ⟨w1.heap.size, 1, none⟩ (.int .i64 ch)).setCell ⟨w1.heap.size, 2, none⟩ (.int .i64 0)).setCell ⟨w1.heap.size, 3, none⟩ (.int .i64 0)).setCell ⟨w1.heap.size, 4, none⟩ (.int .i64 0)).setCell ⟨w1.heap.size, 5, none⟩ (.int .i64 0)).setCell ⟨w1.heap.size, 6, none⟩ (.int .i64 0)) w1.heap.size kk ch 0 0 0 0 0 ∧ Below w1.heap.size w1 (((((((w3.setCell ⟨w1.heap.size, 0, none⟩ (.int .i64 kk)).setCell ⟨w1.heap.size, 1, none⟩ (.int .i64 ch)).setCell ⟨w1.heap.size, 2, none⟩ (.int .i64 0)).setCell ⟨w1.heap.size, 3, none⟩ (.int .i64 0)).setCell ⟨w1.heap.size, 4, none⟩ (.int .i64 0)).setCell ⟨w1.heap.size, 5, none⟩ (.int .i64 0)).setCell ⟨w1.heap.size, 6, none⟩ (.int .i64 0))) := ⟨hpt4, hq4⟩
        have x0 : (((((((w3.setCell ⟨w1.heap.size, 0, none⟩ (.int .i64 kk)).setCell ⟨w1.heap.size, 1, none⟩ (.int .i64 ch)).setCell ⟨w1.heap.size, 2, none⟩ (.int .i64 0)).setCell ⟨w1.heap.size, 3, none⟩ (.int .i64 0)).setCell ⟨w1.heap.size, 4, none⟩ (.int .i64 0)).setCell ⟨w1.heap.size, 5, none⟩ (.int .i64 0)).setCell ⟨w1.heap.size, 6, none⟩ (.int .i64 0)).cell? ⟨w1.heap.size, 0, none⟩ = some (.int .i64 kk) := hpt4.cells.1
        obtain ⟨c0, c1, c2, c3, c4, c5, c6⟩ := hpt3.cells
        have f0 := hpt3.frozen 0
        have f1 := hpt3.frozen 1
        have f2 := hpt3.frozen 2
        have f3 := hpt3.frozen 3
        have f4 := hpt3.frozen 4
        have f5 := hpt3.frozen 5
        have f6 := hpt3.frozen 6
        clear hpt4 hq4
        by_cases hk : kk = 2
        · obtain rfl := hk
          have hpne : 1 ≤ ps.length := by
            rcases Nat.lt_or_ge 0 ps.length with h | h
            · exact h
            · exact absurd (List.length_eq_zero_iff.1 (by omega)) (HNe.out (by first | rfl | trivial))
          go_wp2_with fail
          obtain ⟨hpt4, hq4⟩ := H4.out
          clear c0 c1 c2 c3 c4 c5 c6 f0 f1 f2 f3 f4 f5 f6 x0
          refine (HPc.out _).mono ?_
          rintro e w5 ⟨v5, rfl, hown5, hb5⟩
          obtain ⟨a5, c5, rfl, -, -⟩ := hown5.form
          have hq5 := hq4.trans (hb5.mono hq4.size)
          have hpt5 : PtAt w5 w1.heap.size 2 ch 0 0 0 0 0 := hpt4.kept (hb5.block w1.heap.size hpt4.lt)
          have HNm : Calls Tryz.prog 42 #[.slice a5 ps.length c5, .string ⟨#[98, 111, 117, 110, 100, 97, 114, 121, 61]⟩] w5 fun e w' => ∃ bb, e = .returned (.tuple #[.string (str ((nmN wMark (ps.drop 1)).getD [])), .bool bb]) ∧ Below w5.heap.size w5 w' := (l5Named_any a5 ps.length c5 ps wMark w5 rfl hpne hown5.rd.2 hpn HOKp.out (by unfold wMark IsB; decide) (by decide)).mono (by
            rintro e w' ⟨rfl, hb⟩
            cases nmN wMark (ps.drop 1) with
            | none => exact ⟨_, rfl, hb⟩
            | some x => exact ⟨_, rfl, hb⟩)
          have HO' : Hid (ro = ((2, ch, cd), kv, (nmN wMark (ps.drop 1)).getD [])) := HO.out.trans (by simp)
          clear HO hown5 HOKp HNe HPc H4 hpt4 hq4
          generalize (nmN wMark (ps.drop 1)).getD [] = mk at *
          go_wp2_with fail
          refine HNm.mono ?_
          rintro e w6 ⟨bb, rfl, hb6⟩
          have hq6 := hq5.trans (hb6.mono hq5.size)
          have hpt6 : PtAt w6 w1.heap.size 2 ch 0 0 0 0 0 := hpt5.kept (hb6.block w1.heap.size hpt5.lt)
          clear HNm hpt5
          go_wp2_with fail
          refine (HC.out _ (hrw.below hq6)).mono ?_
          rintro e w7 ⟨rfl, hb7⟩
          have hq7 := hq6.trans (hb7.mono hq6.size)
          have hpt7 : PtAt w7 w1.heap.size 2 ch 0 0 0 0 0 := hpt6.kept (hb7.block w1.heap.size hpt6.lt)
          have hbl7 : Below (w.heap.size + 1) W w7 := hbl.trans (hq7.mono hwQ)
          obtain ⟨⟨t0, t1, t2, t3, t4, t5, t6⟩, ⟨g0, g1, g2, g3, g4, g5, g6⟩⟩ := res_block7 hW hbl7
          obtain ⟨c0, c1, c2, c3, c4, c5, c6⟩ := hpt7.cells
          have f2 := hpt7.frozen 2
          have f3 := hpt7.frozen 3
          have f4 := hpt7.frozen 4
          have hne : w.heap.size ≠ w1.heap.size := by omega
          have hne2 : w1.heap.size ≠ w.heap.size := by omega
          have hXb : Below w.heap.size w (((w7.setCell ⟨w1.heap.size, 2, none⟩ (.int .i64 cd)).setCell ⟨w1.heap.size, 3, none⟩ (.int .i64 ((fr : Int) + (kv : Int)))).setCell ⟨w1.heap.size, 4, none⟩ (.int .i64 (tt : Int))) := (((hb0.trans (hbl7.mono (by omega))).setCell (p := ⟨w1.heap.size, 2, none⟩) (by simp; omega) _).setCell (p := ⟨w1.heap.size, 3, none⟩) (by simp; omega) _).setCell (p := ⟨w1.heap.size, 4, none⟩) (by simp; omega) _
          have e0 : (((w7.setCell ⟨w1.heap.size, 2, none⟩ (.int .i64 cd)).setCell ⟨w1.heap.size, 3, none⟩ (.int .i64 ((fr : Int) + (kv : Int)))).setCell ⟨w1.heap.size, 4, none⟩ (.int .i64 (tt : Int))).cell? ⟨w.heap.size, 0, none⟩ = some (.int .i64 0) := by go_simp
          have e1 : (((w7.setCell ⟨w1.heap.size, 2, none⟩ (.int .i64 cd)).setCell ⟨w1.heap.size, 3, none⟩ (.int .i64 ((fr : Int) + (kv : Int)))).setCell ⟨w1.heap.size, 4, none⟩ (.int .i64 (tt : Int))).cell? ⟨w.heap.size, 1, none⟩ = some (.int .i64 0) := by go_simp
          have e2 : (((w7.setCell ⟨w1.heap.size, 2, none⟩ (.int .i64 cd)).setCell ⟨w1.heap.size, 3, none⟩ (.int .i64 ((fr : Int) + (kv : Int)))).setCell ⟨w1.heap.size, 4, none⟩ (.int .i64 (tt : Int))).cell? ⟨w.heap.size, 2, none⟩ = some (.int .i64 0) := by go_simp
          have e3 : (((w7.setCell ⟨w1.heap.size, 2, none⟩ (.int .i64 cd)).setCell ⟨w1.heap.size, 3, none⟩ (.int .i64 ((fr : Int) + (kv : Int)))).setCell ⟨w1.heap.size, 4, none⟩ (.int .i64 (tt : Int))).cell? ⟨w.heap.size, 3, none⟩ = some (.int .i64 0) := by go_simp
          have e4 : (((w7.setCell ⟨w1.heap.size, 2, none⟩ (.int .i64 cd)).setCell ⟨w1.heap.size, 3, none⟩ (.int .i64 ((fr : Int) + (kv : Int)))).setCell ⟨w1.heap.size, 4, none⟩ (.int .i64 (tt : Int))).cell? ⟨w.heap.size, 4, none⟩ = some (.int .i64 0) := by go_simp
          have e5 : (((w7.setCell ⟨w1.heap.size, 2, none⟩ (.int .i64 cd)).setCell ⟨w1.heap.size, 3, none⟩ (.int .i64 ((fr : Int) + (kv : Int)))).setCell ⟨w1.heap.size, 4, none⟩ (.int .i64 (tt : Int))).cell? ⟨w.heap.size, 5, none⟩ = some (.int .i64 0) := by go_simp
          have e6 : (((w7.setCell ⟨w1.heap.size, 2, none⟩ (.int .i64 cd)).setCell ⟨w1.heap.size, 3, none⟩ (.int .i64 ((fr : Int) + (kv : Int)))).setCell ⟨w1.heap.size, 4, none⟩ (.int .i64 (tt : Int))).cell? ⟨w.heap.size, 6, none⟩ = some (.int .i64 0) := by go_simp
          obtain ⟨hk0, hk1, hk2, hk3, hk4, hk5, hk6⟩ := res_cells7 ⟨e0, e1, e2, e3, e4, e5, e6⟩ (.int .i64 2) (.int .i64 ch) (.int .i64 cd) (.int .i64 ((fr : Int) + (kv : Int))) (.int .i64 (tt : Int)) (.int .i64 0) (.int .i64 0)
          clear HC
          go_wp2
          refine bodyPost_ret (v := onP ((2, ch, cd), kv, mk) fr tt) (by simp [onP, str, results, Tryz.results51, go_sem, hk0, hk1, hk2, hk3, hk4, hk5, hk6]) rfl ?_
          exact ⟨by rw [HO'.out], below_sets7 hXb _ _ _ _ _ _ _⟩
        · have hk' : (kk == 2) = false := beq_eq_false_iff_ne.2 hk
          have HI : Hid ((if kk = 2 then (nmN wMark (ps.drop 1)).getD [] else []) = []) := if_neg hk
          go_wp2_with fail
          obtain ⟨hpt4, hq4⟩ := H4.out
          clear c0 c1 c2 c3 c4 c5 c6 f0 f1 f2 f3 f4 f5 f6 x0
          refine (HC.out _ (hrw.below hq4)).mono ?_
          rintro e w5 ⟨rfl, hb5⟩
          have hq5 := hq4.trans (hb5.mono hq4.size)
          have hpt5 : PtAt w5 w1.heap.size kk ch 0 0 0 0 0 := hpt4.kept (hb5.block w1.heap.size hpt4.lt)
          have hbl5 : Below (w.heap.size + 1) W w5 := hbl.trans (hq5.mono hwQ)
          obtain ⟨⟨t0, t1, t2, t3, t4, t5, t6⟩, ⟨g0, g1, g2, g3, g4, g5, g6⟩⟩ := res_block7 hW hbl5
          obtain ⟨c0, c1, c2, c3, c4, c5, c6⟩ := hpt5.cells
          have f2 := hpt5.frozen 2
          have f3 := hpt5.frozen 3
          have f4 := hpt5.frozen 4
          have hne : w.heap.size ≠ w1.heap.size := by omega
          have hne2 : w1.heap.size ≠ w.heap.size := by omega
          have hXb : Below w.heap.size w (((w5.setCell ⟨w1.heap.size, 2, none⟩ (.int .i64 cd)).setCell ⟨w1.heap.size, 3, none⟩ (.int .i64 ((fr : Int) + (kv : Int)))).setCell ⟨w1.heap.size, 4, none⟩ (.int .i64 (tt : Int))) := (((hb0.trans (hbl5.mono (by omega))).setCell (p := ⟨w1.heap.size, 2, none⟩) (by simp; omega) _).setCell (p := ⟨w1.heap.size, 3, none⟩) (by simp; omega) _).setCell (p := ⟨w1.heap.size, 4, none⟩) (by simp; omega) _
          have e0 : (((w5.setCell ⟨w1.heap.size, 2, none⟩ (.int .i64 cd)).setCell ⟨w1.heap.size, 3, none⟩ (.int .i64 ((fr : Int) + (kv : Int)))).setCell ⟨w1.heap.size, 4, none⟩ (.int .i64 (tt : Int))).cell? ⟨w.heap.size, 0, none⟩ = some (.int .i64 0) := by go_simp
          have e1 : (((w5.setCell ⟨w1.heap.size, 2, none⟩ (.int .i64 cd)).setCell ⟨w1.heap.size, 3, none⟩ (.int .i64 ((fr : Int) + (kv : Int)))).setCell ⟨w1.heap.size, 4, none⟩ (.int .i64 (tt : Int))).cell? ⟨w.heap.size, 1, none⟩ = some (.int .i64 0) := by go_simp
          have e2 : (((w5.setCell ⟨w1.heap.size, 2, none⟩ (.int .i64 cd)).setCell ⟨w1.heap.size, 3, none⟩ (.int .i64 ((fr : Int) + (kv : Int)))).setCell ⟨w1.heap.size, 4, none⟩ (.int .i64 (tt : Int))).cell? ⟨w.heap.size, 2, none⟩ = some (.int .i64 0) := by go_simp
          have e3 : (((w5.setCell ⟨w1.heap.size, 2, none⟩ (.int .i64 cd)).setCell ⟨w1.heap.size, 3, none⟩ (.int .i64 ((fr : Int) + (kv : Int)))).setCell ⟨w1.heap.size, 4, none⟩ (.int .i64 (tt : Int))).cell? ⟨w.heap.size, 3, none⟩ = some (.int .i64 0) := by go_simp
          have e4 : (((w5.setCell ⟨w1.heap.size, 2, none⟩ (.int .i64 cd)).setCell ⟨w1.heap.size, 3, none⟩ (.int .i64 ((fr : Int) + (kv : Int)))).setCell ⟨w1.heap.size, 4, none⟩ (.int .i64 (tt : Int))).cell? ⟨w.heap.size, 4, none⟩ = some (.int .i64 0) := by go_simp
          have e5 : (((w5.setCell ⟨w1.heap.size, 2, none⟩ (.int .i64 cd)).setCell ⟨w1.heap.size, 3, none⟩ (.int .i64 ((fr : Int) + (kv : Int)))).setCell ⟨w1.heap.size, 4, none⟩ (.int .i64 (tt : Int))).cell? ⟨w.heap.size, 5, none⟩ = some (.int .i64 0) := by go_simp
          have e6 : (((w5.setCell ⟨w1.heap.size, 2, none⟩ (.int .i64 cd)).setCell ⟨w1.heap.size, 3, none⟩ (.int .i64 ((fr : Int) + (kv : Int)))).setCell ⟨w1.heap.size, 4, none⟩ (.int .i64 (tt : Int))).cell? ⟨w.heap.size, 6, none⟩ = some (.int .i64 0) := by go_simp
          obtain ⟨hk0, hk1, hk2, hk3, hk4, hk5, hk6⟩ := res_cells7 ⟨e0, e1, e2, e3, e4, e5, e6⟩ (.int .i64 kk) (.int .i64 ch) (.int .i64 cd) (.int .i64 ((fr : Int) + (kv : Int))) (.int .i64 (tt : Int)) (.int .i64 0) (.int .i64 0)
          clear HC
          go_wp2
          refine bodyPost_ret (v := onP ((kk, ch, cd), kv, []) fr tt) (by simp [onP, str, results, Tryz.results51, go_sem, hk0, hk1, hk2, hk3, hk4, hk5, hk6]) rfl ?_
          exact ⟨by rw [HO.out, HI.out], below_sets7 hXb _ _ _ _ _ _ _⟩
    · obtain rfl := HO1.out hc0
      clear HO1 HO2 HO3 HOK hend
      have hc0' : (hc == 0) = false := beq_eq_false_iff_ne.2 hc0
      rw [hc0']
      obtain ⟨⟨hc0, hc1, hc2, hc3, hc4, hc5, hc6⟩, ⟨hf0, hf1, hf2, hf3, hf4, hf5, hf6⟩⟩ := res_block7 hW hbl
      obtain ⟨hk0, hk1, hk2, hk3, hk4, hk5, hk6⟩ := res_cells7 ⟨hc0, hc1, hc2, hc3, hc4, hc5, hc6⟩ (.int .i64 3) (.int .i64 0) (.int .i64 1) (.int .i64 (fr : Int)) (.int .i64 (tt : Int)) (.int .i64 0) (.int .i64 0)
      go_wp2
      refine bodyPost_ret (v := onP ((3, 0, 1), 0, []) fr tt) (by simp [onP, str, results, Tryz.results51, go_sem, hk0, hk1, hk2, hk3, hk4, hk5, hk6]) rfl ?_
      exact ⟨rfl, below_sets7 hbw _ _ _ _ _ _ _⟩
end Go.Proofs.YtaefomiofoakhaaGreatDoor
