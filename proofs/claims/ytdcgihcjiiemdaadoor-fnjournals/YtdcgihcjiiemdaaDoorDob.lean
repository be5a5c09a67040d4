/- The draw of an op, bent; no conditions beyond those that each fact names. -/
import Derived.Test.YtdcgihcjiiemdaaDoorDop
namespace Go.Proofs.YtdcgihcjiiemdaaDoor
open Go.RowKit
set_option linter.unusedVariables false
structure OpV (B b M R : Nat) (w w1 W : World) (q : Oc) : Prop where
 s : Qo W w.heap.size opZc
 sf : Fo W w.heap.size
 src : Src W B b M
 kb : Kb b w W
 o : Qo W R q
 of : Fo W R
 lo : w.heap.size < R
 ge : w1.heap.size ≤ R
 hi : R < W.heap.size
 near : Near (w.heap.size + 1) w1 W
theorem OpV.step {B b M M' R : Nat} {w w1 W W' : World} {q : Oc} (h : OpV B b M R w w1 W q) (hb : b < w.heap.size) (hk : Kb b W W') (hs : Src W' B b M') : OpV B b M' R w w1 W' q where
 s := h.s.kbX hk (by omega)
 sf := h.sf.kbX hk h.s.lt (by omega)
 src := hs
 kb := h.kb.trans hk
 o := h.o.kbX hk (by have := h.lo; omega)
 of := h.of.kbX hk h.hi (by have := h.lo; omega)
 lo := h.lo
 ge := h.ge
 hi := Nat.lt_of_lt_of_le h.hi hk.size
 near := h.near.trans (hk.near (by omega))
theorem OpV.alloc {B b M R : Nat} {w w1 W : World} {q : Oc} (h : OpV B b M R w w1 W q) (hb : b < w.heap.size) (o : Obj) : OpV B b M R w w1 (W.alloc o) q :=
 have hB : Below W.heap.size W (W.alloc o) := (Below.refl _ _).alloc (Nat.le_refl _) o
 h.step hb ((Kb.refl b W).below hB) (h.src.below (hB.mono h.src.2.1))
theorem OpV.put {B b M R j : Nat} {v : Value} {w w1 W : World} {q q' : Oc} (h : OpV B b M R w w1 W q) (hb : b < w.heap.size) (hq : Qo (W.setCell ⟨R, j, none⟩ v) R q') : OpV B b M R w w1 (W.setCell ⟨R, j, none⟩ v) q' :=
 have hlo := h.lo
 have hge := h.ge
 have hB : Below R W (W.setCell ⟨R, j, none⟩ v) := (Below.refl _ _).setCell (by simp) _
 have hN : Near (w.heap.size + 1) w1 (W.setCell ⟨R, j, none⟩ v) := ⟨Nat.le_trans h.near.1 (by simp), fun p hp hlt => (World.cell?_setCell_other _ _ _ _ (fun e => by subst e; simp at hlt; omega)).trans (h.near.2 p hp hlt)⟩
 { s := h.s.below hB hlo, sf := h.sf.set _ _, src := h.src.below (hB.mono (by omega)), kb := h.kb.below' (hB.mono (by omega)), o := hq, of := h.of.set _ _, lo := hlo, ge := hge, hi := by simpa using h.hi, near := hN }
theorem OpV.more {B b M M' R : Nat} {w w1 W : World} {q : Oc} (h : OpV B b M R w w1 W q) (hM : M ≤ M') : OpV B b M' R w w1 W q := { h with src := h.src.more hM }
theorem near_set {W : World} {R lo j : Nat} {v : Value} (h : R < lo) : Near lo W (W.setCell ⟨R, j, none⟩ v) := ⟨by simp, fun p hp _ => World.cell?_setCell_other _ _ _ _ (fun e => by subst e; simp at hp; omega)⟩
theorem OpV.fin {B b M R : Nat} {w w1 W : World} {o : OpR} {p : SlO} (h : OpV B b M R w w1 W (opQ o p)) (hI : IsOp (w.heap.size + 1) W p o) (hb : b < w.heap.size) (hx : o.x.size ≤ 100) (ht : o.t.size ≤ 100) (hu : o.u.length ≤ 7) (hd : o.b.length ≤ 600) :
  Qo (slot8 W w.heap.size (opQ o p)) w.heap.size (opQ o p) ∧ OpEnd B b M w (.returned (opX o p)) (slot8 W w.heap.size (opQ o p)) := by
 have hB : Below w.heap.size W (slot8 W w.heap.size (opQ o p)) := ((((((((Below.refl _ _).setCell (by simp) _).setCell (by simp) _).setCell (by simp) _).setCell (by simp) _).setCell (by simp) _).setCell (by simp) _).setCell (by simp) _).setCell (by simp) _
 have hN : Near (w.heap.size + 1) W (slot8 W w.heap.size (opQ o p)) := by
  unfold slot8
  refine ⟨by simp, fun a ha _ => ?_⟩
  have hne : ∀ j, (⟨w.heap.size, j, none⟩ : Addr) ≠ a := fun j e => by subst e; simp at ha; omega
  simp only [World.cell?_setCell_other _ _ _ _ (hne _)]
 refine ⟨(((((((h.s.put0 _).put1 _).put2 _).put3 _).put4 _).put5 _).put6 _).put7 _, o, p, rfl, hI.near hN, hx, ht, hu, hd, h.src.below (hB.mono hb), h.kb.below' hB⟩
set_option maxHeartbeats 3200000 in
set_option maxRecDepth 100000 in
theorem l8Bent_any (B b M : Nat) (w : World) (hs : Src w B b M) (hM : M ≤ 70000) :
  Calls Tryd.prog 35 #[.pointer (some ⟨b, 0, none⟩)] w fun e w' => OpEnd B b (M + 70) w e w' := by
 have hbR : b < w.heap.size := hs.2.1
 have hbA : Below w.heap.size w (w.alloc (.cells #[.int .i64 0, .string ⟨#[]⟩, .string ⟨#[]⟩, .slice none 0 0, .int .i64 0, .int .i64 0, .int .i64 0, .slice none 0 0] 27)) := (Below.refl _ _).alloc (Nat.le_refl _) _
 have hS0 : OpU B b M w (w.alloc (.cells #[.int .i64 0, .string ⟨#[]⟩, .string ⟨#[]⟩, .slice none 0 0, .int .i64 0, .int .i64 0, .int .i64 0, .slice none 0 0] 27)) := ⟨Qo.new _ _ _ _ _ _ _ _ _ _, Fo.new _ _ _ _ _ _ _ _ _ _, hs.below (hbA.mono hbR), (Kb.refl b w).below hbA⟩
 have hsz : (w.alloc (.cells #[.int .i64 0, .string ⟨#[]⟩, .string ⟨#[]⟩, .slice none 0 0, .int .i64 0, .int .i64 0, .int .i64 0, .slice none 0 0] 27)).heap.size = w.heap.size + 1 := by simp
 go_enter Tryd.func35, Tryd.ntmps35
 go_wp2_with fail
 generalize w.alloc (.cells #[.int .i64 0, .string ⟨#[]⟩, .string ⟨#[]⟩, .slice none 0 0, .int .i64 0, .int .i64 0, .int .i64 0, .slice none 0 0] 27) = W0 at *
 refine (l8Draw_any B b M W0 hS0.src (by omega)).mono ?_
 rintro e w1 ⟨⟨ok, ox, ot, ou, om, of0, od, ob⟩, ⟨⟨pa, pn, pc⟩, qa, qn, qc⟩, rfl, hI, hK, hs1, hk1⟩
 obtain ⟨hx, ht, hu, hd⟩ := hK.lim
 clear hK
 have hS1 := hS0.step hbR hk1 hs1
 have HI : Hid (IsOp (w.heap.size + 1) w1 ((pa, pn, pc), (qa, qn, qc)) ⟨ok, ox, ot, ou, om, of0, od, ob⟩) := hI.low (by omega)
 dsimp only [opX, slW] at hx ht hu hd ⊢
 have hV1 : OpV B b (M + 60) w1.heap.size w w1 (w1.alloc (.cells #[.int .i64 ok, .string ox, .string ot, .slice pa pn pc, .int .i64 om, .int .i64 of0, .int .i64 od, .slice qa qn qc] 27)) ⟨.int .i64 ok, .string ox, .string ot, .slice pa pn pc, .int .i64 om, .int .i64 of0, .int .i64 od, .slice qa qn qc⟩ :=
  have h' := hS1.alloc hbR (.cells #[.int .i64 ok, .string ox, .string ot, .slice pa pn pc, .int .i64 om, .int .i64 of0, .int .i64 od, .slice qa qn qc] 27)
  { s := h'.s, sf := h'.sf, src := h'.src, kb := h'.kb, o := Qo.new _ _ _ _ _ _ _ _ _ _, of := Fo.new _ _ _ _ _ _ _ _ _ _, lo := hS1.s.lt, ge := Nat.le_refl _, hi := by simp, near := .of_below ((Below.refl _ _).alloc (Nat.le_refl _) _) }
 have hge : w.heap.size < w1.heap.size := hS1.s.lt
 clear hS0 hs hbA hsz hI hS1 hs1 hk1
 go_wp2_with fail
 generalize w1.alloc (.cells #[.int .i64 ok, .string ox, .string ot, .slice pa pn pc, .int .i64 om, .int .i64 of0, .int .i64 od, .slice qa qn qc] 27) = W2 at *
 generalize w1.heap.size = R at *
 refine (l1Next_any B b (M + 60) 12 W2 hV1.src (by omega) (by omega) (by omega)).mono ?_
 rintro e w3 ⟨r, rfl, r0, r1, r2, hs3, hg3⟩
 have HV3 : Hid (OpV B b (M + 60 + 1) R w w1 w3 _) := hV1.step hbR hg3 hs3
 clear hV1 hs3 hg3
 by_cases e0 : r = 0
 ·subst e0
  go_wp2_with fail
  have hV4 := OpV.alloc HV3.out hbR (.cells #[.int .i64 0, .int .i64 3, .int .i64 4, .int .i64 8] 2)
  have hnum := nums_new (w := w3) (cs := #[.int .i64 0, .int .i64 3, .int .i64 4, .int .i64 8]) (vs := [0, 3, 4, 8]) (t := 2) rfl
  have hb3 : b < w3.heap.size := (OpV.src HV3.out).2.1
  generalize w3.alloc (.cells #[.int .i64 0, .int .i64 3, .int .i64 4, .int .i64 8] 2) = W4 at *
  refine (l1Pick_any B b (M + 60 + 1) _ 4 4 [0, 3, 4, 8] _ hV4.src (by omega) rfl (by omega) (by omega) hnum hb3).mono ?_
  rintro e w5 ⟨x5, rfl, hr5, hs5, hg5⟩
  have hV5 := hV4.step hbR hg5 hs5
  obtain ⟨k0, k1, k2, k3, k4, k5, k6, k7⟩ := hV5.o
  obtain ⟨f0, f1, f2, f3, f4, f5, f6, f7⟩ := hV5.of
  have HV6 : Hid (OpV B b (M + 60 + 1 + 1) R w w1 (w5.setCell ⟨R, 0, none⟩ (.int .i64 x5)) ⟨.int .i64 x5, .string ox, .string ot, .slice pa pn pc, .int .i64 om, .int .i64 of0, .int .i64 od, .slice qa qn qc⟩) := hV5.put hbR (hV5.o.put0 _)
  clear hV4 hV5 hnum hr5 hs5 hg5 HV3
  obtain ⟨W10, hW10⟩ : ∃ W, w5.setCell ⟨R, 0, none⟩ (.int .i64 x5) = W := ⟨_, rfl⟩
  rw [hW10] at HV6
  obtain ⟨z0, z1, z2, z3, z4, z5, z6, z7⟩ := OpV.o HV6.out
  obtain ⟨y0, y1, y2, y3, y4, y5, y6, y7⟩ := OpV.s HV6.out
  obtain ⟨g0, g1, g2, g3, g4, g5, g6, g7⟩ := OpV.sf HV6.out
  dsimp only [opZc] at y0 y1 y2 y3 y4 y5 y6 y7 z0 z1 z2 z3 z4 z5 z6 z7
  have HF : Hid (_) := OpV.fin (o := ⟨x5, ox, ot, ou, om, of0, od, ob⟩) (p := ((pa, pn, pc), (qa, qn, qc))) (OpV.more HV6.out (show M + 60 + 1 + 1 ≤ M + 70 by omega)) (show IsOp (w.heap.size + 1) W10 ((pa, pn, pc), (qa, qn, qc)) ⟨x5, ox, ot, ou, om, of0, od, ob⟩ from IsOp.near HI.out (OpV.near HV6.out)) hbR hx ht hu hd
  clear HV6 HI
  have HW : Hid (_ = W10) := hW10
  clear hW10
  go_wp2_with (rw [HW.out])
  obtain ⟨⟨d0, d1, d2, d3, d4, d5, d6, d7⟩, HE⟩ := HF.out
  unfold slot8 at d0 d1 d2 d3 d4 d5 d6 d7 HE
  dsimp only [opQ, slW] at d0 d1 d2 d3 d4 d5 d6 d7 HE
  refine bodyPost_ret (v := opX ⟨x5, ox, ot, ou, om, of0, od, ob⟩ ((pa, pn, pc), (qa, qn, qc))) (by simp [results, Tryd.results35, go_sem, d0, d1, d2, d3, d4, d5, d6, d7]) rfl ?_
  exact HE
 by_cases e1 : r = 1
 ·subst e1
  go_wp2_with fail
  have hV4 := OpV.alloc HV3.out hbR (.cells #[.string ⟨#[]⟩, .string ⟨#[65]⟩] 9)
  have hrow := row_wordV (w := w3) (t := 9) (cs := #[.string ⟨#[]⟩, .string ⟨#[65]⟩]) (ss := [⟨#[]⟩, ⟨#[65]⟩]) rfl (by intro s hs; simp only [List.mem_cons, List.not_mem_nil, or_false] at hs; rcases hs with rfl | rfl <;> decide)
  have hs4 : (w3.alloc (.cells #[.string ⟨#[]⟩, .string ⟨#[65]⟩] 9)).heap.size = w3.heap.size + 1 := by simp
  have hb3 : b < w3.heap.size := (OpV.src HV3.out).2.1
  generalize w3.alloc (.cells #[.string ⟨#[]⟩, .string ⟨#[65]⟩] 9) = W4 at *
  refine (l1Next_any B b (M + 60 + 1) 2 W4 hV4.src (by omega) (by omega) (by omega)).mono ?_
  rintro e w5 ⟨r5, rfl, m0, m1, _, hs5, hg5⟩
  obtain ⟨i, rfl⟩ := Int.eq_ofNat_of_zero_le m0
  have hi : i < 2 := by have := m1 (by omega); omega
  have hi' : (i : Int) < 2 := by omega
  obtain ⟨t, hc, hBt, htl⟩ := hrow i hi
  have hc5 : w5.cell? ⟨w3.heap.size, i, none⟩ = some (.string (str t)) := (hg5.cell_far ⟨w3.heap.size, i, none⟩ (by rw [hs4]; simp) (by simp; omega)).trans hc
  have hyz : (str t).size ≤ 100 := by rw [str_size]; exact htl
  have hV5 := hV4.step hbR hg5 hs5
  clear hs4 hrow hc hBt htl m1
  generalize str t = y at *
  obtain ⟨k0, k1, k2, k3, k4, k5, k6, k7⟩ := hV5.o
  obtain ⟨f0, f1, f2, f3, f4, f5, f6, f7⟩ := hV5.of
  have HV6 : Hid (OpV B b (M + 60 + 1 + 1) R w w1 (w5.setCell ⟨R, 1, none⟩ (.string y)) ⟨.int .i64 ok, .string y, .string ot, .slice pa pn pc, .int .i64 om, .int .i64 of0, .int .i64 od, .slice qa qn qc⟩) := hV5.put hbR (hV5.o.put1 _)
  clear hV4 hV5 hs5 hg5 HV3
  obtain ⟨W10, hW10⟩ : ∃ W, w5.setCell ⟨R, 1, none⟩ (.string y) = W := ⟨_, rfl⟩
  rw [hW10] at HV6
  obtain ⟨z0, z1, z2, z3, z4, z5, z6, z7⟩ := OpV.o HV6.out
  obtain ⟨y0, y1, y2, y3, y4, y5, y6, y7⟩ := OpV.s HV6.out
  obtain ⟨g0, g1, g2, g3, g4, g5, g6, g7⟩ := OpV.sf HV6.out
  dsimp only [opZc] at y0 y1 y2 y3 y4 y5 y6 y7 z0 z1 z2 z3 z4 z5 z6 z7
  have HF : Hid (_) := OpV.fin (o := ⟨ok, y, ot, ou, om, of0, od, ob⟩) (p := ((pa, pn, pc), (qa, qn, qc))) (OpV.more HV6.out (show M + 60 + 1 + 1 ≤ M + 70 by omega)) (show IsOp (w.heap.size + 1) W10 ((pa, pn, pc), (qa, qn, qc)) ⟨ok, y, ot, ou, om, of0, od, ob⟩ from IsOp.near HI.out (OpV.near HV6.out)) hbR hyz ht hu hd
  clear HV6 HI
  have HW : Hid (_ = W10) := hW10
  clear hW10
  go_wp2_with (rw [HW.out])
  obtain ⟨⟨d0, d1, d2, d3, d4, d5, d6, d7⟩, HE⟩ := HF.out
  unfold slot8 at d0 d1 d2 d3 d4 d5 d6 d7 HE
  dsimp only [opQ, slW] at d0 d1 d2 d3 d4 d5 d6 d7 HE
  refine bodyPost_ret (v := opX ⟨ok, y, ot, ou, om, of0, od, ob⟩ ((pa, pn, pc), (qa, qn, qc))) (by simp [results, Tryd.results35, go_sem, d0, d1, d2, d3, d4, d5, d6, d7]) rfl ?_
  exact HE
 by_cases e2 : r = 2
 ·subst e2
  go_wp2_with fail
  have hV4 := OpV.alloc HV3.out hbR (.cells #[.int .i64 0, .int .i64 3, .int .i64 1000] 2)
  have hnum := nums_new (w := w3) (cs := #[.int .i64 0, .int .i64 3, .int .i64 1000]) (vs := [0, 3, 1000]) (t := 2) rfl
  have hb3 : b < w3.heap.size := (OpV.src HV3.out).2.1
  generalize w3.alloc (.cells #[.int .i64 0, .int .i64 3, .int .i64 1000] 2) = W4 at *
  refine (l1Pick_any B b (M + 60 + 1) _ 3 3 [0, 3, 1000] _ hV4.src (by omega) rfl (by omega) (by omega) hnum hb3).mono ?_
  rintro e w5 ⟨x5, rfl, hr5, hs5, hg5⟩
  have HV5 : Hid (OpV B b (M + 60 + 1 + 1) R w w1 w5 _) := hV4.step hbR hg5 hs5
  clear hV4 hnum hr5 hs5 hg5 HV3
  have hown := OwnI.lit w5 w5.heap.size (Nat.le_refl _) #[.int .i64 x5, .int .i64 3] [x5, 3] rfl (by simp [maxLen])
  have hV6 := OpV.alloc HV5.out hbR (.cells #[.int .i64 x5, .int .i64 3] 2)
  have hRw : R < w5.heap.size := OpV.hi HV5.out
  generalize hWW : w5.alloc (.cells #[.int .i64 x5, .int .i64 3] 2) = W6 at *
  obtain ⟨k0, k1, k2, k3, k4, k5, k6, k7⟩ := hV6.o
  obtain ⟨f0, f1, f2, f3, f4, f5, f6, f7⟩ := hV6.of
  have hil : IsIl w5.heap.size (W6.setCell ⟨R, 3, none⟩ (.slice (some ⟨w5.heap.size, 0, none⟩) 2 2)) (some ⟨w5.heap.size, 0, none⟩, 2, 2) [x5, 3] := (OwnI.ilD hown).near (near_set hRw)
  have HV7 : Hid (OpV B b (M + 60 + 1 + 1) R w w1 (W6.setCell ⟨R, 3, none⟩ (.slice (some ⟨w5.heap.size, 0, none⟩) 2 2)) ⟨.int .i64 ok, .string ox, .string ot, .slice (some ⟨w5.heap.size, 0, none⟩) 2 2, .int .i64 om, .int .i64 of0, .int .i64 od, .slice qa qn qc⟩) := hV6.put hbR (hV6.o.put3 _)
  obtain ⟨W10, hW10⟩ : ∃ W, W6.setCell ⟨R, 3, none⟩ (.slice (some ⟨w5.heap.size, 0, none⟩) 2 2) = W := ⟨_, rfl⟩
  rw [hW10] at HV7 hil
  have hIO : IsOp (w.heap.size + 1) W10 ((some ⟨w5.heap.size, 0, none⟩, 2, 2), (qa, qn, qc)) ⟨ok, ox, ot, [x5, 3], om, of0, od, ob⟩ := ⟨hil.low (by have := OpV.lo HV7.out; omega), (IsOp.near HI.out (OpV.near HV7.out)).2⟩
  have hWH : Hid (_ = W6) := hWW
  clear hWW hown hV6 hil
  clear HV5
  obtain ⟨z0, z1, z2, z3, z4, z5, z6, z7⟩ := OpV.o HV7.out
  obtain ⟨y0, y1, y2, y3, y4, y5, y6, y7⟩ := OpV.s HV7.out
  obtain ⟨g0, g1, g2, g3, g4, g5, g6, g7⟩ := OpV.sf HV7.out
  dsimp only [opZc] at y0 y1 y2 y3 y4 y5 y6 y7 z0 z1 z2 z3 z4 z5 z6 z7
  have HF : Hid (_) := OpV.fin (o := ⟨ok, ox, ot, [x5, 3], om, of0, od, ob⟩) (p := ((some ⟨w5.heap.size, 0, none⟩, 2, 2), (qa, qn, qc))) (OpV.more HV7.out (show M + 60 + 1 + 1 ≤ M + 70 by omega)) hIO hbR hx ht (show ([x5, 3] : List Int).length ≤ 7 by simp) hd
  clear HV7 HI hIO
  have HW : Hid (_ = W10) := hW10
  clear hW10
  go_wp2_with (first | rw [HW.out] | rw [hWH.out])
  obtain ⟨⟨d0, d1, d2, d3, d4, d5, d6, d7⟩, HE⟩ := HF.out
  unfold slot8 at d0 d1 d2 d3 d4 d5 d6 d7 HE
  dsimp only [opQ, slW] at d0 d1 d2 d3 d4 d5 d6 d7 HE
  refine bodyPost_ret (v := opX ⟨ok, ox, ot, [x5, 3], om, of0, od, ob⟩ ((some ⟨w5.heap.size, 0, none⟩, 2, 2), (qa, qn, qc))) (by simp [results, Tryd.results35, go_sem, d0, d1, d2, d3, d4, d5, d6, d7]) rfl ?_
  exact HE
 by_cases e3 : r = 3
 ·subst e3
  go_wp2_with fail
  have hV4 := OpV.alloc HV3.out hbR (.cells #[.int .i64 16, .int .i64 (-1), .int .i64 1] 2)
  have hnum := nums_new (w := w3) (cs := #[.int .i64 16, .int .i64 (-1), .int .i64 1]) (vs := [16, -1, 1]) (t := 2) rfl
  have hb3 : b < w3.heap.size := (OpV.src HV3.out).2.1
  generalize w3.alloc (.cells #[.int .i64 16, .int .i64 (-1), .int .i64 1] 2) = W4 at *
  refine (l1Pick_any B b (M + 60 + 1) _ 3 3 [16, -1, 1] _ hV4.src (by omega) rfl (by omega) (by omega) hnum hb3).mono ?_
  rintro e w5 ⟨x5, rfl, hr5, hs5, hg5⟩
  have hV5 := hV4.step hbR hg5 hs5
  obtain ⟨k0, k1, k2, k3, k4, k5, k6, k7⟩ := hV5.o
  obtain ⟨f0, f1, f2, f3, f4, f5, f6, f7⟩ := hV5.of
  have HV6 : Hid (OpV B b (M + 60 + 1 + 1) R w w1 (w5.setCell ⟨R, 5, none⟩ (.int .i64 x5)) ⟨.int .i64 ok, .string ox, .string ot, .slice pa pn pc, .int .i64 om, .int .i64 x5, .int .i64 od, .slice qa qn qc⟩) := hV5.put hbR (hV5.o.put5 _)
  clear hV4 hV5 hnum hr5 hs5 hg5 HV3
  obtain ⟨W10, hW10⟩ : ∃ W, w5.setCell ⟨R, 5, none⟩ (.int .i64 x5) = W := ⟨_, rfl⟩
  rw [hW10] at HV6
  obtain ⟨z0, z1, z2, z3, z4, z5, z6, z7⟩ := OpV.o HV6.out
  obtain ⟨y0, y1, y2, y3, y4, y5, y6, y7⟩ := OpV.s HV6.out
  obtain ⟨g0, g1, g2, g3, g4, g5, g6, g7⟩ := OpV.sf HV6.out
  dsimp only [opZc] at y0 y1 y2 y3 y4 y5 y6 y7 z0 z1 z2 z3 z4 z5 z6 z7
  have HF : Hid (_) := OpV.fin (o := ⟨ok, ox, ot, ou, om, x5, od, ob⟩) (p := ((pa, pn, pc), (qa, qn, qc))) (OpV.more HV6.out (show M + 60 + 1 + 1 ≤ M + 70 by omega)) (show IsOp (w.heap.size + 1) W10 ((pa, pn, pc), (qa, qn, qc)) ⟨ok, ox, ot, ou, om, x5, od, ob⟩ from IsOp.near HI.out (OpV.near HV6.out)) hbR hx ht hu hd
  clear HV6 HI
  have HW : Hid (_ = W10) := hW10
  clear hW10
  go_wp2_with (rw [HW.out])
  obtain ⟨⟨d0, d1, d2, d3, d4, d5, d6, d7⟩, HE⟩ := HF.out
  unfold slot8 at d0 d1 d2 d3 d4 d5 d6 d7 HE
  dsimp only [opQ, slW] at d0 d1 d2 d3 d4 d5 d6 d7 HE
  refine bodyPost_ret (v := opX ⟨ok, ox, ot, ou, om, x5, od, ob⟩ ((pa, pn, pc), (qa, qn, qc))) (by simp [results, Tryd.results35, go_sem, d0, d1, d2, d3, d4, d5, d6, d7]) rfl ?_
  exact HE
 by_cases e4 : r = 4
 ·subst e4
  have hown := OwnI.lit w3 w3.heap.size (Nat.le_refl _) #[.int .i64 1, .int .i64 2, .int .i64 3, .int .i64 4, .int .i64 5, .int .i64 6, .int .i64 7] [1, 2, 3, 4, 5, 6, 7] rfl (by simp [maxLen])
  have hV6 := OpV.alloc HV3.out hbR (.cells #[.int .i64 1, .int .i64 2, .int .i64 3, .int .i64 4, .int .i64 5, .int .i64 6, .int .i64 7] 2)
  have hRw : R < w3.heap.size := OpV.hi HV3.out
  generalize hWW : w3.alloc (.cells #[.int .i64 1, .int .i64 2, .int .i64 3, .int .i64 4, .int .i64 5, .int .i64 6, .int .i64 7] 2) = W6 at *
  obtain ⟨k0, k1, k2, k3, k4, k5, k6, k7⟩ := hV6.o
  obtain ⟨f0, f1, f2, f3, f4, f5, f6, f7⟩ := hV6.of
  have hil : IsIl w3.heap.size (W6.setCell ⟨R, 3, none⟩ (.slice (some ⟨w3.heap.size, 0, none⟩) 7 7)) (some ⟨w3.heap.size, 0, none⟩, 7, 7) [1, 2, 3, 4, 5, 6, 7] := (OwnI.ilD hown).near (near_set hRw)
  have HV7 : Hid (OpV B b (M + 60 + 1) R w w1 (W6.setCell ⟨R, 3, none⟩ (.slice (some ⟨w3.heap.size, 0, none⟩) 7 7)) ⟨.int .i64 ok, .string ox, .string ot, .slice (some ⟨w3.heap.size, 0, none⟩) 7 7, .int .i64 om, .int .i64 of0, .int .i64 od, .slice qa qn qc⟩) := hV6.put hbR (hV6.o.put3 _)
  obtain ⟨W10, hW10⟩ : ∃ W, W6.setCell ⟨R, 3, none⟩ (.slice (some ⟨w3.heap.size, 0, none⟩) 7 7) = W := ⟨_, rfl⟩
  rw [hW10] at HV7 hil
  have hIO : IsOp (w.heap.size + 1) W10 ((some ⟨w3.heap.size, 0, none⟩, 7, 7), (qa, qn, qc)) ⟨ok, ox, ot, [1, 2, 3, 4, 5, 6, 7], om, of0, od, ob⟩ := ⟨hil.low (by have := OpV.lo HV7.out; omega), (IsOp.near HI.out (OpV.near HV7.out)).2⟩
  have hWH : Hid (_ = W6) := hWW
  clear hWW hown hV6 hil
  clear HV3
  obtain ⟨z0, z1, z2, z3, z4, z5, z6, z7⟩ := OpV.o HV7.out
  obtain ⟨y0, y1, y2, y3, y4, y5, y6, y7⟩ := OpV.s HV7.out
  obtain ⟨g0, g1, g2, g3, g4, g5, g6, g7⟩ := OpV.sf HV7.out
  dsimp only [opZc] at y0 y1 y2 y3 y4 y5 y6 y7 z0 z1 z2 z3 z4 z5 z6 z7
  have HF : Hid (_) := OpV.fin (o := ⟨ok, ox, ot, [1, 2, 3, 4, 5, 6, 7], om, of0, od, ob⟩) (p := ((some ⟨w3.heap.size, 0, none⟩, 7, 7), (qa, qn, qc))) (OpV.more HV7.out (show M + 60 + 1 ≤ M + 70 by omega)) hIO hbR hx ht (show ([1, 2, 3, 4, 5, 6, 7] : List Int).length ≤ 7 by simp) hd
  clear HV7 HI hIO
  have HW : Hid (_ = W10) := hW10
  clear hW10
  go_wp2_with (first | rw [HW.out] | rw [hWH.out])
  obtain ⟨⟨d0, d1, d2, d3, d4, d5, d6, d7⟩, HE⟩ := HF.out
  unfold slot8 at d0 d1 d2 d3 d4 d5 d6 d7 HE
  dsimp only [opQ, slW] at d0 d1 d2 d3 d4 d5 d6 d7 HE
  refine bodyPost_ret (v := opX ⟨ok, ox, ot, [1, 2, 3, 4, 5, 6, 7], om, of0, od, ob⟩ ((some ⟨w3.heap.size, 0, none⟩, 7, 7), (qa, qn, qc))) (by simp [results, Tryd.results35, go_sem, d0, d1, d2, d3, d4, d5, d6, d7]) rfl ?_
  exact HE
 have b0 : (r == 0) = false := beq_eq_false_iff_ne.2 e0
 have b1 : (r == 1) = false := beq_eq_false_iff_ne.2 e1
 have b2 : (r == 2) = false := beq_eq_false_iff_ne.2 e2
 have b3 : (r == 3) = false := beq_eq_false_iff_ne.2 e3
 have b4 : (r == 4) = false := beq_eq_false_iff_ne.2 e4
 obtain ⟨z0, z1, z2, z3, z4, z5, z6, z7⟩ := OpV.o HV3.out
 obtain ⟨y0, y1, y2, y3, y4, y5, y6, y7⟩ := OpV.s HV3.out
 obtain ⟨g0, g1, g2, g3, g4, g5, g6, g7⟩ := OpV.sf HV3.out
 dsimp only [opZc] at y0 y1 y2 y3 y4 y5 y6 y7 z0 z1 z2 z3 z4 z5 z6 z7
 have HF : Hid (_) := OpV.fin (o := ⟨ok, ox, ot, ou, om, of0, od, ob⟩) (p := ((pa, pn, pc), (qa, qn, qc))) (OpV.more HV3.out (show M + 60 + 1 ≤ M + 70 by omega)) (IsOp.near HI.out (OpV.near HV3.out)) hbR hx ht hu hd
 clear HV3 HI
 go_wp2
 obtain ⟨⟨d0, d1, d2, d3, d4, d5, d6, d7⟩, HE⟩ := HF.out
 unfold slot8 at d0 d1 d2 d3 d4 d5 d6 d7 HE
 dsimp only [opQ, slW] at d0 d1 d2 d3 d4 d5 d6 d7 HE
 refine bodyPost_ret (v := opX ⟨ok, ox, ot, ou, om, of0, od, ob⟩ ((pa, pn, pc), (qa, qn, qc))) (by simp [results, Tryd.results35, go_sem, d0, d1, d2, d3, d4, d5, d6, d7]) rfl ?_
 exact HE
end Go.Proofs.YtdcgihcjiiemdaaDoor
