/- The draw of an op; no conditions beyond those that each fact names. -/
import Derived.Test.YtdcgihcjiiemdaaDoorDotToOsb
import Derived.Test.YtdcgihcjiiemdaaDoorOft
namespace Go.Proofs.YtdcgihcjiiemdaaDoor
open Go.RowKit
set_option linter.unusedVariables false
structure OpU (B b M : Nat) (w W : World) : Prop where
 s : Qo W w.heap.size opZc
 sf : Fo W w.heap.size
 src : Src W B b M
 kb : Kb b w W
theorem OpU.step {B b M M' : Nat} {w W W' : World} (h : OpU B b M w W) (hb : b < w.heap.size) (hk : Kb b W W') (hs : Src W' B b M') : OpU B b M' w W' where
 s := h.s.kbX hk (by omega)
 sf := h.sf.kbX hk h.s.lt (by omega)
 src := hs
 kb := h.kb.trans hk
theorem OpU.alloc {B b M : Nat} {w W : World} (h : OpU B b M w W) (hb : b < w.heap.size) (o : Obj) : OpU B b M w (W.alloc o) :=
 have hB : Below W.heap.size W (W.alloc o) := (Below.refl _ _).alloc (Nat.le_refl _) o
 h.step hb ((Kb.refl b W).below hB) (h.src.below (hB.mono h.src.2.1))
theorem OpU.op {B b M : Nat} {w W : World} (h : OpU B b M w W) (hb : b < w.heap.size) (c0 c1 c2 c4 c5 c6 : Value) : OpT B b M W.heap.size w (W.alloc (.cells #[c0, c1, c2, .slice none 0 0, c4, c5, c6, .slice none 0 0] 27)) ⟨c0, c1, c2, .slice none 0 0, c4, c5, c6, .slice none 0 0⟩ ((none, 0, 0), (none, 0, 0)) [] [] :=
 have h' := h.alloc hb (.cells #[c0, c1, c2, .slice none 0 0, c4, c5, c6, .slice none 0 0] 27)
 { s := h'.s, sf := h'.sf, src := h'.src, kb := h'.kb, o := Qo.new _ _ _ _ _ _ _ _ _ _, of := Fo.new _ _ _ _ _ _ _ _ _ _, lo := h.s.lt, hi := by simp, nu := ⟨rfl, Nat.le_refl _, Nat.zero_le _, .inl rfl, fun x hx => by cases hx⟩, by_ := ⟨rfl, Nat.le_refl _, Nat.zero_le _, (show IsB [] from fun x hx => by cases hx), Or.inl rfl, fun x hx => by cases hx⟩ }
set_option maxHeartbeats 3200000 in
set_option maxRecDepth 100000 in
theorem l8Draw_any (B b M : Nat) (w : World) (hs : Src w B b M) (hM : M ≤ 80000) :
  Calls Tryd.prog 22 #[.pointer (some ⟨b, 0, none⟩)] w fun e w' => OpEnk B b (M + 60) w e w' := by
 have hbR : b < w.heap.size := hs.2.1
 have hbA : Below w.heap.size w (w.alloc (.cells #[.int .i64 0, .string ⟨#[]⟩, .string ⟨#[]⟩, .slice none 0 0, .int .i64 0, .int .i64 0, .int .i64 0, .slice none 0 0] 27)) := (Below.refl _ _).alloc (Nat.le_refl _) _
 have hS0 : OpU B b M w (w.alloc (.cells #[.int .i64 0, .string ⟨#[]⟩, .string ⟨#[]⟩, .slice none 0 0, .int .i64 0, .int .i64 0, .int .i64 0, .slice none 0 0] 27)) := ⟨Qo.new _ _ _ _ _ _ _ _ _ _, Fo.new _ _ _ _ _ _ _ _ _ _, hs.below (hbA.mono hbR), (Kb.refl b w).below hbA⟩
 have hsz : (w.alloc (.cells #[.int .i64 0, .string ⟨#[]⟩, .string ⟨#[]⟩, .slice none 0 0, .int .i64 0, .int .i64 0, .int .i64 0, .slice none 0 0] 27)).heap.size = w.heap.size + 1 := by simp
 go_enter Tryd.func22, Tryd.ntmps22
 go_wp2_with fail
 generalize w.alloc (.cells #[.int .i64 0, .string ⟨#[]⟩, .string ⟨#[]⟩, .slice none 0 0, .int .i64 0, .int .i64 0, .int .i64 0, .slice none 0 0] 27) = W0 at *
 have hS1 := hS0.alloc hbR (.cells #[.int .i64 1, .int .i64 2, .int .i64 3, .int .i64 3, .int .i64 3, .int .i64 4, .int .i64 4, .int .i64 5, .int .i64 6, .int .i64 7] 2)
 have hnum := nums_new (w := W0) (cs := #[.int .i64 1, .int .i64 2, .int .i64 3, .int .i64 3, .int .i64 3, .int .i64 4, .int .i64 4, .int .i64 5, .int .i64 6, .int .i64 7]) (vs := [1, 2, 3, 3, 3, 4, 4, 5, 6, 7]) (t := 2) rfl
 rw [hsz] at hnum
 generalize W0.alloc (.cells #[.int .i64 1, .int .i64 2, .int .i64 3, .int .i64 3, .int .i64 3, .int .i64 4, .int .i64 4, .int .i64 5, .int .i64 6, .int .i64 7] 2) = W1 at *
 refine (l1Pick_any B b M _ 10 10 [1, 2, 3, 3, 3, 4, 4, 5, 6, 7] _ hS1.src (by omega) rfl (by omega) (by omega) hnum (by omega)).mono ?_
 rintro e w2 ⟨r, rfl, hr, hs2, hg2⟩
 have HR2 : Hid (r ∈ [1, 2, 3, 3, 3, 4, 4, 5, 6, 7]) := hr
 have HS2 : Hid (OpU B b (M + 1) w w2) := hS1.step hbR hg2 hs2
 clear hr hS0 hS1 hs2 hg2 hnum hs hbA hsz
 go_wp2_with fail
 have hS3 := OpU.alloc HS2.out hbR (.cells #[.string ⟨#[105, 110]⟩, .string ⟨#[111, 108, 100]⟩, .string ⟨#[98, 111, 120]⟩, .string ⟨#[105, 110]⟩] 9)
 have hrow := row_wordK (K := 8) (w := w2) (t := 9) (cs := #[.string ⟨#[105, 110]⟩, .string ⟨#[111, 108, 100]⟩, .string ⟨#[98, 111, 120]⟩, .string ⟨#[105, 110]⟩]) (ss := [⟨#[105, 110]⟩, ⟨#[111, 108, 100]⟩, ⟨#[98, 111, 120]⟩, ⟨#[105, 110]⟩]) rfl (by intro s hs; simp only [List.mem_cons, List.not_mem_nil, or_false] at hs; rcases hs with rfl | rfl | rfl | rfl <;> decide)
 have hs3 : (w2.alloc (.cells #[.string ⟨#[105, 110]⟩, .string ⟨#[111, 108, 100]⟩, .string ⟨#[98, 111, 120]⟩, .string ⟨#[105, 110]⟩] 9)).heap.size = w2.heap.size + 1 := by simp
 have hb2 : b < w2.heap.size := (OpU.src HS2.out).2.1
 generalize w2.alloc (.cells #[.string ⟨#[105, 110]⟩, .string ⟨#[111, 108, 100]⟩, .string ⟨#[98, 111, 120]⟩, .string ⟨#[105, 110]⟩] 9) = W3 at *
 refine (l1Next_any B b (M + 1) 4 W3 hS3.src (by omega) (by omega) (by omega)).mono ?_
 rintro e w4 ⟨r4, rfl, r0, r1, _, hs4, hg4⟩
 obtain ⟨j, rfl⟩ := Int.eq_ofNat_of_zero_le r0
 have hj : j < 4 := by have := r1 (by omega); omega
 have hj' : (j : Int) < 4 := by omega
 obtain ⟨t, hc, hBt, htl⟩ := hrow j hj
 have hc2 : w4.cell? ⟨w2.heap.size, j, none⟩ = some (.string (str t)) := (hg4.cell_far ⟨w2.heap.size, j, none⟩ (by rw [hs3]; simp) (by simp; omega)).trans hc
 have HS4 : Hid (OpU B b (M + 1 + 1) w w4) := hS3.step hbR hg4 hs4
 have htz : (str t).size ≤ 8 := by rw [str_size]; exact htl
 have q0 := (OpU.s HS4.out).1
 have hlt4 : w.heap.size < w4.heap.size := (OpU.s HS4.out).lt
 clear hs3 hrow hc hBt htl r1 hg4 hs4 hS3 HS2
 generalize str t = x at *
 go_wp2_with fail
 have HT5 : Hid (OpT B b (M + 1 + 1) w4.heap.size w (w4.alloc (.cells #[.int .i64 r, .string x, .string ⟨#[]⟩, .slice none 0 0, .int .i64 0, .int .i64 0, .int .i64 0, .slice none 0 0] 27)) ⟨.int .i64 r, .string x, .string ⟨#[]⟩, .slice none 0 0, .int .i64 0, .int .i64 0, .int .i64 0, .slice none 0 0⟩ ((none, 0, 0), (none, 0, 0)) [] []) := OpU.op HS4.out hbR _ _ _ _ _ _
 generalize w4.alloc (.cells #[.int .i64 r, .string x, .string ⟨#[]⟩, .slice none 0 0, .int .i64 0, .int .i64 0, .int .i64 0, .slice none 0 0] 27) = W5 at *
 clear q0 hc2 HS4
 generalize w4.heap.size = R at *
 refine (l8Copies_any r W5).mono ?_
 rintro e w6 ⟨rfl, rfl⟩
 have hn := OpT.hi HT5.out
 obtain ⟨k0, k1, k2, k3, k4, k5, k6, k7⟩ := OpT.o HT5.out
 cases hcp : cpK r with
 | true =>
  have hr4 : (r == 4) = false := by
   have h := of_decide_eq_true hcp
   exact beq_eq_false_iff_ne.2 (by omega)
  have hr3 : (r == 3) = false := by
   have h := of_decide_eq_true hcp
   exact beq_eq_false_iff_ne.2 (by omega)
  clear k0 k1 k2 k3 k4 k5 k6 k7
  go_wp2_with fail
  have hT6 := OpT.alloc HT5.out hbR (.cells #[.string ⟨#[111, 108, 100]⟩, .string ⟨#[105, 110]⟩, .string ⟨#[98, 111, 120]⟩] 9)
  have hrow := row_wordK (K := 8) (w := W5) (t := 9) (cs := #[.string ⟨#[111, 108, 100]⟩, .string ⟨#[105, 110]⟩, .string ⟨#[98, 111, 120]⟩]) (ss := [⟨#[111, 108, 100]⟩, ⟨#[105, 110]⟩, ⟨#[98, 111, 120]⟩]) rfl (by intro s hs; simp only [List.mem_cons, List.not_mem_nil, or_false] at hs; rcases hs with rfl | rfl | rfl <;> decide)
  have hs6 : (W5.alloc (.cells #[.string ⟨#[111, 108, 100]⟩, .string ⟨#[105, 110]⟩, .string ⟨#[98, 111, 120]⟩] 9)).heap.size = W5.heap.size + 1 := by simp
  have hb5 : b < W5.heap.size := (OpT.src HT5.out).2.1
  generalize W5.alloc (.cells #[.string ⟨#[111, 108, 100]⟩, .string ⟨#[105, 110]⟩, .string ⟨#[98, 111, 120]⟩] 9) = W6 at *
  refine (l1Next_any B b (M + 1 + 1) 3 W6 hT6.src (by omega) (by omega) (by omega)).mono ?_
  rintro e w7 ⟨r7, rfl, r0, r1, _, hs7, hg7⟩
  obtain ⟨i, rfl⟩ := Int.eq_ofNat_of_zero_le r0
  have hi : i < 3 := by have := r1 (by omega); omega
  have hi' : (i : Int) < 3 := by omega
  obtain ⟨t, hc, hBt, htl⟩ := hrow i hi
  have hc7 : w7.cell? ⟨W5.heap.size, i, none⟩ = some (.string (str t)) := (hg7.cell_far ⟨W5.heap.size, i, none⟩ (by rw [hs6]; simp) (by simp; omega)).trans hc
  have hT7 := hT6.step hbR hg7 hs7
  have hyz : (str t).size ≤ 8 := by rw [str_size]; exact htl
  clear hs6 hrow hc hBt htl r1 hg7 hs7 hT6
  generalize str t = y at *
  obtain ⟨k0, -, k2, -, -, -, -, -⟩ := hT7.o
  have f2 := hT7.of.2.2.1
  have HT8 : Hid (OpT B b (M + 1 + 1 + 1) R w (w7.setCell ⟨R, 2, none⟩ (.string y)) ⟨.int .i64 r, .string x, .string y, .slice none 0 0, .int .i64 0, .int .i64 0, .int .i64 0, .slice none 0 0⟩ ((none, 0, 0), (none, 0, 0)) [] []) := hT7.put hbR (hT7.o.put2 _)
  clear hT7 HT5
  go_wp2_with fail
  clear k0 k2 f2 hc7
  generalize w7.setCell ⟨R, 2, none⟩ (.string y) = W8 at *
  refine (l8Copies_any r W8).mono ?_
  rintro e w9 ⟨rfl, rfl⟩
  rw [hcp]
  go_wp2_with fail
  refine (l8DrawUids_any B b (M + 1 + 1 + 1) W8 (OpT.src HT8.out) (by omega)).mono ?_
  rintro e w9 ⟨v9, out, rfl, ho9, hol, hUv, hs9, hg9⟩
  have hh8 := OpT.hi HT8.out
  obtain ⟨a9, c9, hv9, -, -⟩ := ho9.form
  obtain ⟨n9, hn9⟩ : ∃ n, out.length = n := ⟨_, rfl⟩
  rw [hn9] at hv9
  subst hv9
  have hT9 := OpT.uids (OpT.step HT8.out hbR hg9 hs9) (ho9.ilD.low (by omega))
  obtain ⟨k0, -, -, k3, -, -, -, -⟩ := hT9.o
  have f3 := hT9.of.2.2.2.1
  have HT10 : Hid (OpT B b (M + 1 + 1 + 1 + 6) R w (w9.setCell ⟨R, 3, none⟩ (.slice a9 n9 c9)) ⟨.int .i64 r, .string x, .string y, .slice a9 n9 c9, .int .i64 0, .int .i64 0, .int .i64 0, .slice none 0 0⟩ ((a9, n9, c9), (none, 0, 0)) out []) := hT9.put hbR (hT9.o.put3 _)
  clear hT9 HT8 ho9 hg9 hs9
  obtain ⟨W10, hW10⟩ : ∃ W, w9.setCell ⟨R, 3, none⟩ (.slice a9 n9 c9) = W := ⟨_, rfl⟩
  rw [hW10] at HT10
  obtain ⟨z0, z1, z2, z3, z4, z5, z6, z7⟩ := OpT.o HT10.out
  obtain ⟨y0, y1, y2, y3, y4, y5, y6, y7⟩ := OpT.s HT10.out
  obtain ⟨g0, g1, g2, g3, g4, g5, g6, g7⟩ := OpT.sf HT10.out
  dsimp only [opZc] at y0 y1 y2 y3 y4 y5 y6 y7 z0 z1 z2 z3 z4 z5 z6 z7
  have HF : Hid (_) := OpT.fink (o := ⟨r, x, y, out, 0, 0, 0, []⟩) (p := ((a9, n9, c9), (none, 0, 0))) (OpT.more HT10.out (show M + 1 + 1 + 1 + 6 ≤ M + 60 by omega)) hbR ⟨kindR HR2.out, htz, hyz, hol, hUv, zO3, zO15, zO9, Nat.zero_le _⟩
  have HW : Hid (_ = W10) := hW10
  clear hW10 HT10
  go_wp2_with (rw [HW.out])
  obtain ⟨⟨d0, d1, d2, d3, d4, d5, d6, d7⟩, HE⟩ := HF.out
  unfold slot8 at d0 d1 d2 d3 d4 d5 d6 d7 HE
  dsimp only [opQ, slW] at d0 d1 d2 d3 d4 d5 d6 d7 HE
  refine bodyPost_ret (v := opX ⟨r, x, y, out, 0, 0, 0, []⟩ ((a9, n9, c9), (none, 0, 0))) (by simp [results, Tryd.results22, go_sem, d0, d1, d2, d3, d4, d5, d6, d7]) rfl ?_
  exact HE
 | false =>
  clear k0 k1 k2 k3 k4 k5 k6 k7
  by_cases h4 : r = 4
  ·subst h4
   obtain ⟨k0, -, -, k3, -, -, -, -⟩ := OpT.o HT5.out
   go_wp2_with fail
   refine (l8Copies_any 4 W5).mono ?_
   rintro e w9 ⟨rfl, rfl⟩
   rw [hcp]
   go_wp2_with fail
   clear k0 k3
   refine (l8DrawUids_any B b (M + 1 + 1) W5 (OpT.src HT5.out) (by omega)).mono ?_
   rintro e w9 ⟨v9, out, rfl, ho9, hol, hUv, hs9, hg9⟩
   obtain ⟨a9, c9, hv9, -, -⟩ := ho9.form
   obtain ⟨n9, hn9⟩ : ∃ n, out.length = n := ⟨_, rfl⟩
   rw [hn9] at hv9
   subst hv9
   have hT9 := OpT.uids (OpT.step HT5.out hbR hg9 hs9) (ho9.ilD.low (by omega))
   obtain ⟨k0, -, -, k3, -, -, -, -⟩ := hT9.o
   have f3 := hT9.of.2.2.2.1
   have HT6 : Hid (OpT B b (M + 1 + 1 + 6) R w (w9.setCell ⟨R, 3, none⟩ (.slice a9 n9 c9)) ⟨.int .i64 4, .string x, .string ⟨#[]⟩, .slice a9 n9 c9, .int .i64 0, .int .i64 0, .int .i64 0, .slice none 0 0⟩ ((a9, n9, c9), (none, 0, 0)) out []) := hT9.put hbR (hT9.o.put3 _)
   clear hT9 HT5 ho9 hg9 hs9
   go_wp2_with fail
   clear k0 k3 f3
   generalize w9.setCell ⟨R, 3, none⟩ (.slice a9 n9 c9) = W6 at *
   refine (l1Next_any B b (M + 1 + 1 + 6) 3 W6 (OpT.src HT6.out) (by omega) (by omega) (by omega)).mono ?_
   rintro e w7 ⟨m7, rfl, m0, m1, m2, hs7, hg7⟩
   have hT7 := OpT.step HT6.out hbR hg7 hs7
   obtain ⟨k0, -, -, -, k4, -, -, -⟩ := hT7.o
   have f4 := hT7.of.2.2.2.2.1
   have HT8 : Hid (OpT B b (M + 1 + 1 + 6 + 1) R w (w7.setCell ⟨R, 4, none⟩ (.int .i64 (1 + m7))) ⟨.int .i64 4, .string x, .string ⟨#[]⟩, .slice a9 n9 c9, .int .i64 (1 + m7), .int .i64 0, .int .i64 0, .slice none 0 0⟩ ((a9, n9, c9), (none, 0, 0)) out []) := hT7.put hbR (hT7.o.put4 _)
   clear hT7 HT6 hg7 hs7
   go_wp2_with fail
   clear k0 k4 f4
   generalize w7.setCell ⟨R, 4, none⟩ (.int .i64 (1 + m7)) = W8 at *
   refine (l1Next_any B b (M + 1 + 1 + 6 + 1) 16 W8 (OpT.src HT8.out) (by omega) (by omega) (by omega)).mono ?_
   rintro e w10 ⟨m10, rfl, n0, n1, n2, hs7, hg7⟩
   have hT7 := OpT.step HT8.out hbR hg7 hs7
   obtain ⟨k0, -, -, -, -, k5, -, -⟩ := hT7.o
   have f5 := hT7.of.2.2.2.2.2.1
   have HT10 : Hid (OpT B b (M + 1 + 1 + 6 + 1 + 1) R w (w10.setCell ⟨R, 5, none⟩ (.int .i64 m10)) ⟨.int .i64 4, .string x, .string ⟨#[]⟩, .slice a9 n9 c9, .int .i64 (1 + m7), .int .i64 m10, .int .i64 0, .slice none 0 0⟩ ((a9, n9, c9), (none, 0, 0)) out []) := hT7.put hbR (hT7.o.put5 _)
   clear hT7 HT8 hg7 hs7
   obtain ⟨W10, hW10⟩ : ∃ W, w10.setCell ⟨R, 5, none⟩ (.int .i64 m10) = W := ⟨_, rfl⟩
   rw [hW10] at HT10
   obtain ⟨z0, z1, z2, z3, z4, z5, z6, z7⟩ := OpT.o HT10.out
   obtain ⟨y0, y1, y2, y3, y4, y5, y6, y7⟩ := OpT.s HT10.out
   obtain ⟨g0, g1, g2, g3, g4, g5, g6, g7⟩ := OpT.sf HT10.out
   dsimp only [opZc] at y0 y1 y2 y3 y4 y5 y6 y7 z0 z1 z2 z3 z4 z5 z6 z7
   have HF : Hid (_) := OpT.fink (o := ⟨4, x, ⟨#[]⟩, out, 1 + m7, m10, 0, []⟩) (p := ((a9, n9, c9), (none, 0, 0))) (OpT.more HT10.out (show M + 1 + 1 + 6 + 1 + 1 ≤ M + 60 by omega)) hbR ⟨kO4, htz, (show (⟨#[]⟩ : ByteArray).size ≤ 8 by decide), hol, hUv, ⟨by dsimp only; omega, by have := m1 (by omega); dsimp only; omega⟩, ⟨n0, by have := n1 (by omega); dsimp only; omega⟩, zO9, Nat.zero_le _⟩
   have HW : Hid (_ = W10) := hW10
   clear hW10 HT10
   go_wp2_with (rw [HW.out])
   obtain ⟨⟨d0, d1, d2, d3, d4, d5, d6, d7⟩, HE⟩ := HF.out
   unfold slot8 at d0 d1 d2 d3 d4 d5 d6 d7 HE
   dsimp only [opQ, slW] at d0 d1 d2 d3 d4 d5 d6 d7 HE
   refine bodyPost_ret (v := opX ⟨4, x, ⟨#[]⟩, out, 1 + m7, m10, 0, []⟩ ((a9, n9, c9), (none, 0, 0))) (by simp [results, Tryd.results22, go_sem, d0, d1, d2, d3, d4, d5, d6, d7]) rfl ?_
   exact HE
  ·by_cases h3 : r = 3
   ·subst h3
    obtain ⟨k0, -, -, -, -, k5, -, -⟩ := OpT.o HT5.out
    go_wp2_with fail
    refine (l8Copies_any 3 W5).mono ?_
    rintro e w9 ⟨rfl, rfl⟩
    rw [hcp]
    go_wp2_with fail
    clear k0 k5
    refine (l1Next_any B b (M + 1 + 1) 16 W5 (OpT.src HT5.out) (by omega) (by omega) (by omega)).mono ?_
    rintro e w7 ⟨m7, rfl, m0, m1, m2, hs7, hg7⟩
    have hT7 := OpT.step HT5.out hbR hg7 hs7
    obtain ⟨k0, -, -, -, -, k5, -, -⟩ := hT7.o
    have f5 := hT7.of.2.2.2.2.2.1
    have HT8 : Hid (OpT B b (M + 1 + 1 + 1) R w (w7.setCell ⟨R, 5, none⟩ (.int .i64 m7)) ⟨.int .i64 3, .string x, .string ⟨#[]⟩, .slice none 0 0, .int .i64 0, .int .i64 m7, .int .i64 0, .slice none 0 0⟩ ((none, 0, 0), (none, 0, 0)) [] []) := hT7.put hbR (hT7.o.put5 _)
    clear hT7 HT5 hg7 hs7
    go_wp2_with fail
    clear k0 k5 f5
    generalize w7.setCell ⟨R, 5, none⟩ (.int .i64 m7) = W8 at *
    refine (l1Next_any B b (M + 1 + 1 + 1) 50 W8 (OpT.src HT8.out) (by omega) (by omega) (by omega)).mono ?_
    rintro e w10 ⟨m10, rfl, n0, n1, n2, hs7, hg7⟩
    have hT7 := OpT.step HT8.out hbR hg7 hs7
    obtain ⟨k0, -, -, -, -, -, k6, -⟩ := hT7.o
    have f6 := hT7.of.2.2.2.2.2.2.1
    have HT9 : Hid (OpT B b (M + 1 + 1 + 1 + 1) R w (w10.setCell ⟨R, 6, none⟩ (.int .i64 m10)) ⟨.int .i64 3, .string x, .string ⟨#[]⟩, .slice none 0 0, .int .i64 0, .int .i64 m7, .int .i64 m10, .slice none 0 0⟩ ((none, 0, 0), (none, 0, 0)) [] []) := hT7.put hbR (hT7.o.put6 _)
    clear hT7 HT8 hg7 hs7
    go_wp2_with fail
    clear k0 k6 f6
    generalize w10.setCell ⟨R, 6, none⟩ (.int .i64 m10) = W9 at *
    refine (l5Leaf_any B b (M + 1 + 1 + 1 + 1) W9 (OpT.src HT9.out) (by omega)).mono ?_
    rintro e w11 ⟨v11, dt, rfl, hgr, hBd, hdl, hs7, -, hg7⟩
    obtain ⟨⟨a11, n11, c11⟩, rfl, hD⟩ := hgr.d0 hBd
    have hh9 := OpT.hi HT9.out
    have hT7 := OpT.data (OpT.step HT9.out hbR hg7 hs7) (hD.sl.low (by omega))
    dsimp only [slW] at hT7 ⊢
    obtain ⟨k0, -, -, -, -, -, -, k7⟩ := hT7.o
    have f7 := hT7.of.2.2.2.2.2.2.2
    have HT10 : Hid (OpT B b (M + 1 + 1 + 1 + 1 + 40) R w (w11.setCell ⟨R, 7, none⟩ (.slice a11 n11 c11)) ⟨.int .i64 3, .string x, .string ⟨#[]⟩, .slice none 0 0, .int .i64 0, .int .i64 m7, .int .i64 m10, .slice a11 n11 c11⟩ ((none, 0, 0), (a11, n11, c11)) [] dt) := hT7.put hbR (hT7.o.put7 _)
    clear hT7 HT9 hg7 hs7 hgr hD
    obtain ⟨W10, hW10⟩ : ∃ W, w11.setCell ⟨R, 7, none⟩ (.slice a11 n11 c11) = W := ⟨_, rfl⟩
    rw [hW10] at HT10
    obtain ⟨z0, z1, z2, z3, z4, z5, z6, z7⟩ := OpT.o HT10.out
    obtain ⟨y0, y1, y2, y3, y4, y5, y6, y7⟩ := OpT.s HT10.out
    obtain ⟨g0, g1, g2, g3, g4, g5, g6, g7⟩ := OpT.sf HT10.out
    dsimp only [opZc] at y0 y1 y2 y3 y4 y5 y6 y7 z0 z1 z2 z3 z4 z5 z6 z7
    have HF : Hid (_) := OpT.fink (o := ⟨3, x, ⟨#[]⟩, [], 0, m7, m10, dt⟩) (p := ((none, 0, 0), (a11, n11, c11))) (OpT.more HT10.out (show M + 1 + 1 + 1 + 1 + 40 ≤ M + 60 by omega)) hbR ⟨kO3, htz, (show (⟨#[]⟩ : ByteArray).size ≤ 8 by decide), Nat.zero_le _, UidR.nil, zO3, ⟨m0, by have := m1 (by omega); dsimp only; omega⟩, ⟨n0, by have := n1 (by omega); dsimp only; omega⟩, hdl⟩
    have HW : Hid (_ = W10) := hW10
    clear hW10 HT10
    go_wp2_with (rw [HW.out])
    obtain ⟨⟨d0, d1, d2, d3, d4, d5, d6, d7⟩, HE⟩ := HF.out
    unfold slot8 at d0 d1 d2 d3 d4 d5 d6 d7 HE
    dsimp only [opQ, slW] at d0 d1 d2 d3 d4 d5 d6 d7 HE
    refine bodyPost_ret (v := opX ⟨3, x, ⟨#[]⟩, [], 0, m7, m10, dt⟩ ((none, 0, 0), (a11, n11, c11))) (by simp [results, Tryd.results22, go_sem, d0, d1, d2, d3, d4, d5, d6, d7]) rfl ?_
    exact HE
   ·have hr4 : (r == 4) = false := beq_eq_false_iff_ne.2 h4
    have hr3 : (r == 3) = false := beq_eq_false_iff_ne.2 h3
    obtain ⟨W10, hW10⟩ : ∃ W, W5 = W := ⟨_, rfl⟩
    subst hW10
    obtain ⟨z0, z1, z2, z3, z4, z5, z6, z7⟩ := OpT.o HT5.out
    obtain ⟨y0, y1, y2, y3, y4, y5, y6, y7⟩ := OpT.s HT5.out
    obtain ⟨g0, g1, g2, g3, g4, g5, g6, g7⟩ := OpT.sf HT5.out
    dsimp only [opZc] at y0 y1 y2 y3 y4 y5 y6 y7 z0 z1 z2 z3 z4 z5 z6 z7
    go_wp2_with fail
    refine (l8Copies_any r W5).mono ?_
    rintro e w9 ⟨rfl, rfl⟩
    rw [hcp]
    have HF : Hid (_) := OpT.fink (o := ⟨r, x, ⟨#[]⟩, [], 0, 0, 0, []⟩) (p := ((none, 0, 0), (none, 0, 0))) (OpT.more HT5.out (show M + 1 + 1 ≤ M + 60 by omega)) hbR ⟨kindR HR2.out, htz, (show (⟨#[]⟩ : ByteArray).size ≤ 8 by decide), Nat.zero_le _, UidR.nil, zO3, zO15, zO9, Nat.zero_le _⟩
    clear HT5
    go_wp2
    obtain ⟨⟨d0, d1, d2, d3, d4, d5, d6, d7⟩, HE⟩ := HF.out
    unfold slot8 at d0 d1 d2 d3 d4 d5 d6 d7 HE
    dsimp only [opQ, slW] at d0 d1 d2 d3 d4 d5 d6 d7 HE
    refine bodyPost_ret (v := opX ⟨r, x, ⟨#[]⟩, [], 0, 0, 0, []⟩ ((none, 0, 0), (none, 0, 0))) (by simp [results, Tryd.results22, go_sem, d0, d1, d2, d3, d4, d5, d6, d7]) rfl ?_
    exact HE
end Go.Proofs.YtdcgihcjiiemdaaDoor
