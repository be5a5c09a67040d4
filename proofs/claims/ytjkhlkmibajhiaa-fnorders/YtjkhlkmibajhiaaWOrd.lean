/- The law FnOrders returns true at every input, and changes nothing that was there. -/
import Derived.Test.YtjkhlkmibajhiaaDrl3
import Derived.Test.YtjkhlkmibajhiaaHas2
import Derived.Test.YtjkhlkmibajhiaaLwn
import Derived.Test.YtjkhlkmibajhiaaFldC
import Derived.Deep.RegionHeld3
namespace Go.Proofs.Ytjkhlkmibajhiaa
open Go.RowKit

theorem cmpT_bad {k : Int} {l s : List Int} (h : ¬ ((1 ≤ k ∧ k ≤ 3) ∧ flt l = 0 ∧ flt s = 0)) : ∃ c, cmpT k l s = (c, 0) ∧ c ≠ 0 := by
  by_cases hk : 1 ≤ k ∧ k ≤ 3
  · by_cases hf : flt l = 0
    · have hg : flt s ≠ 0 := fun h' => h ⟨hk, hf, h'⟩
      exact ⟨_, cmpT_b hk hf hg, hg⟩
    · exact ⟨_, cmpT_a hk hf, hf⟩
  · exact ⟨4, cmpT_none hk, by decide⟩
theorem cmp_three (a b : List Int) : (cmpL a b = -1 ∧ cmpL b a = 1 ∧ decide (a = b) = false) ∨ (cmpL a b = 0 ∧ cmpL b a = 0 ∧ decide (a = b) = true) ∨ (cmpL a b = 1 ∧ cmpL b a = -1 ∧ decide (a = b) = false) := by
  have hb := cmpL_back a b
  have he := cmpL_eq a b
  rcases cmpL_cases a b with h | h | h
  · exact .inl ⟨h, by omega, decide_eq_false (fun e => by have := he.2 e; omega)⟩
  · exact .inr (.inl ⟨h, by omega, decide_eq_true (he.1 h)⟩)
  · exact .inr (.inr ⟨h, by omega, decide_eq_false (fun e => by have := he.2 e; omega)⟩)
theorem cmpT_trans {k : Int} {a b c : List Int} (hk : 1 ≤ k ∧ k ≤ 3) (ha : flt a = 0) (hb : flt b = 0) (hx : (cmpT k b c).1 = 0) (h1 : cmpL (a.map (mapC k)) (b.map (mapC k)) ≤ 0) (h2 : (cmpT k b c).2 ≤ 0) : ¬ 0 < (cmpT k a c).2 := by
  by_cases hc : flt c = 0
  · rw [cmpT_ok hk hb hc] at h2
    rw [cmpT_ok hk ha hc]
    have := cmpL_trans _ _ _ h1 h2
    simp only
    omega
  · rw [cmpT_b hk hb hc] at hx
    exact absurd hx hc

set_option maxHeartbeats 12800000 in
set_option maxRecDepth 100000 in
theorem walkOrders (a : Option Addr) (n cap : Nat) (l : List Nat) (w : World) (hl : l.length = n) (hr : Rd w a l) (hB : IsB l) :
    Calls Try.prog 5 #[.slice a n cap] w fun e w' => e = .returned (.bool true) ∧ Below w.heap.size w w' := by
  by_cases hbig : 1048576 < n
  · go_enter Try.func5, Try.ntmps5
    go_wp2_with fail
    refine (lwBig_any a n cap w).mono ?_
    rintro e w1 ⟨rfl, rfl⟩
    rw [decide_eq_true (by omega)]
    go_wp2
    go_ret
    exact ⟨rfl, Below.refl _ _⟩
  · have fI0 := fldI0
    have fI1 := fldI1
    have fC0 := fldC0
    have fC1 := fldC1
    go_enter Try.func5, Try.ntmps5
    go_wp2_with fail
    refine (lwBig_any a n cap w).mono ?_
    rintro e w1 ⟨rfl, rfl⟩
    rw [decide_eq_false (by omega)]
    go_wp2_with fail
    refine (drawCompareCodes_any a n cap l w hl hr hB (by omega)).mono ?_
    rintro e w1 ⟨k, v, u, s, t, rfl, ⟨ap, m, mc, rfl, hsl, hmc, hm1, hrs⟩, ⟨aq, p, pc, rfl, htl, hpc, hp1, hrt⟩, hb1⟩
    have HI := fun (w : World) (h1 : RdI w ap s) (h2 : RdI w aq t) => compareCodes_any k ap aq m p mc pc s t w hsl htl h1 h2 (by omega) (by omega)
    have HS := fun (w : World) (h1 : RdI w ap s) (h2 : RdI w aq t) => specCompareCodes_any k ap aq m p mc pc s t w hsl htl h1 h2 (by omega) (by omega)
    by_cases hok : (1 ≤ k ∧ k ≤ 3) ∧ flt s = 0 ∧ flt t = 0
    · obtain ⟨hk, hf, hg⟩ := hok
      rw [cmpT_ok hk hf hg] at HI HS
      have HBK := fun (w : World) (h1 : RdI w ap s) (h2 : RdI w aq t) => compareCodes_any k aq ap p m pc mc t s w htl hsl h2 h1 (by omega) (by omega)
      rw [cmpT_ok hk hg hf] at HBK
      have HAA := fun (w : World) (h1 : RdI w ap s) => compareCodes_any k ap ap m m mc mc s s w hsl hsl h1 h1 (by omega) (by omega)
      rw [cmpT_ok hk hf hf, cmpL_refl] at HAA
      have HMA := fun (w : World) (h1 : RdI w ap s) => mapCodes_any k ap m mc s w hsl h1 (by omega)
      have HMB := fun (w : World) (h1 : RdI w aq t) => mapCodes_any k aq p pc t w htl h1 (by omega)
      rw [mapT_ok hk hf] at HMA
      rw [mapT_ok hk hg] at HMB
      have hAl : (s.map (mapC k)).length = m := by rw [List.length_map]; exact hsl
      have hBl : (t.map (mapC k)).length = p := by rw [List.length_map]; exact htl
      have HN := fun (b d : Option Addr) (bc dc : Nat) (w : World) (h1 : RdI w b (s.map (mapC k))) (h2 : RdI w d (t.map (mapC k))) => lwNums_any b d m p bc dc (s.map (mapC k)) (t.map (mapC k)) w hAl hBl h1 h2 (by omega) (by omega)
      have HTR : Hid (∀ c, (cmpT k t c).1 = 0 → cmpL (s.map (mapC k)) (t.map (mapC k)) ≤ 0 → (cmpT k t c).2 ≤ 0 → ¬ 0 < (cmpT k s c).2) := fun c h1 h2 h3 => cmpT_trans hk hf hg h1 h2 h3
      have HAl : Hid (_) := hAl
      have HBl : Hid (_) := hBl
      have h3 := cmp_three (s.map (mapC k)) (t.map (mapC k))
      have hsm : decide (s.map (mapC k) = t.map (mapC k)) = (cmpL (s.map (mapC k)) (t.map (mapC k)) == 0) := by rcases h3 with ⟨h1, -, h2⟩ | ⟨h1, -, h2⟩ | ⟨h1, -, h2⟩ <;> rw [h1, h2] <;> rfl
      have hbv : cmpL (t.map (mapC k)) (s.map (mapC k)) = - cmpL (s.map (mapC k)) (t.map (mapC k)) := cmpL_back _ _
      have hrb : -1 ≤ cmpL (s.map (mapC k)) (t.map (mapC k)) ∧ cmpL (s.map (mapC k)) (t.map (mapC k)) ≤ 1 := by rcases h3 with ⟨h1, -⟩ | ⟨h1, -⟩ | ⟨h1, -⟩ <;> omega
      rw [hsm] at HN
      clear h3 hsm
      generalize cmpL (s.map (mapC k)) (t.map (mapC k)) = rv at *
      generalize cmpL (t.map (mapC k)) (s.map (mapC k)) = bv at *
      generalize s.map (mapC k) = A at *
      generalize t.map (mapC k) = B at *
      have hnegv : IntKind.i64.wrap (-rv) = bv := by rw [hbv]; simp [IntKind.wrap, IntKind.bits, IntKind.signed]; omega
      obtain ⟨hr1, hr2⟩ := hrb
      clear hbv
      have HI' : Hid (_) := HI
      have HS' : Hid (_) := HS
      have HBK' : Hid (_) := HBK
      have HAA' : Hid (_) := HAA
      have HMA' : Hid (_) := HMA
      have HMB' : Hid (_) := HMB
      have HN' : Hid (_) := HN
      have HCC : Hid (∀ (c : Option Addr) (d dc : Nat) (z : List Int) (w : World), z.length = d → d ≤ 1000 → RdI w aq t → RdI w c z → Calls Try.prog 30 #[.int .i64 k, .slice aq p pc, .slice c d dc] w fun e w' => IntEnd (cmpT k t z) w e w') := fun c d dc z w hz hd h1 h2 => compareCodes_any k aq c p d pc dc t z w htl hz h1 h2 (by omega) (by omega)
      have HCA : Hid (∀ (c : Option Addr) (d dc : Nat) (z : List Int) (w : World), z.length = d → d ≤ 1000 → RdI w ap s → RdI w c z → Calls Try.prog 30 #[.int .i64 k, .slice ap m mc, .slice c d dc] w fun e w' => IntEnd (cmpT k s z) w e w') := fun c d dc z w hz hd h1 h2 => compareCodes_any k ap c m d mc dc s z w hsl hz h1 h2 (by omega) (by omega)
      clear HI HS HBK HAA HMA HMB HN hAl hBl hk hf hg hsl htl
      go_wp2_with fail
      refine (HI'.out _ hrs hrt).mono ?_
      rintro e w2 ⟨rfl, hb2⟩
      simp only
      have hX2 : Below w1.heap.size w1 (w2.alloc (.cells #[.int .i64 0, .int .i64 rv] 42)) := hb2.alloc hb2.size _
      have HB2 : Hid (Below w.heap.size w (w2.alloc (.cells #[.int .i64 0, .int .i64 rv] 42))) := hb1.trans (hX2.mono hb1.size)
      have hs2 := hrs.below hX2
      have ht2 := hrt.below hX2
      obtain ⟨j0, j1, -, -⟩ := res_block (w := w2) (wr := w2.alloc (.cells #[.int .i64 0, .int .i64 rv] 42)) rfl (Below.refl _ _)
      have hsW : (w2.alloc (.cells #[.int .i64 0, .int .i64 rv] 42)).heap.size = w2.heap.size + 1 := by simp
      clear hb1 hb2 hX2 hrs hrt HI'
      go_wp2_with fail
      generalize w2.alloc (.cells #[.int .i64 0, .int .i64 rv] 42) = W2 at *
      generalize w2.heap.size = g6 at *
      have hg6 : g6 < W2.heap.size := by omega
      refine (HBK'.out _ hs2 ht2).mono ?_
      rintro e w3 ⟨rfl, hb3⟩
      simp only
      have hX3 : Below W2.heap.size W2 (w3.alloc (.cells #[.int .i64 0, .int .i64 bv] 42)) := hb3.alloc hb3.size _
      have HB3 : Hid (Below w.heap.size w (w3.alloc (.cells #[.int .i64 0, .int .i64 bv] 42))) := HB2.out.trans (hX3.mono HB2.out.size)
      have hs3 := hs2.below hX3
      have ht3 := ht2.below hX3
      have j0' := (hX3.cell (p := ⟨g6, 0, none⟩) hg6).trans j0
      have j1' := (hX3.cell (p := ⟨g6, 1, none⟩) hg6).trans j1
      obtain ⟨i0, i1, -, -⟩ := res_block (w := w3) (wr := w3.alloc (.cells #[.int .i64 0, .int .i64 bv] 42)) rfl (Below.refl _ _)
      have hsW3 : (w3.alloc (.cells #[.int .i64 0, .int .i64 bv] 42)).heap.size = w3.heap.size + 1 := by simp
      have hz3 := hb3.size
      clear hb3 hX3 hs2 ht2 HBK' j0 j1 HB2
      go_wp2_with fail
      generalize w3.alloc (.cells #[.int .i64 0, .int .i64 bv] 42) = W3 at *
      generalize w3.heap.size = g7 at *
      have hg7 : g7 < W3.heap.size := by omega
      refine (drawHasCodes_any a n cap l _ hl (hr.below HB3.out) hB (by omega)).mono ?_
      rintro e w4 ⟨k2, v2, u2, z, z2, rfl, ⟨az, d, dc, rfl, hzl, hdc, hd1, hrz⟩, ⟨az2, d2, dc2, rfl, -, -, -, -⟩, hb4⟩
      have HB4 : Hid (Below w.heap.size w w4) := HB3.out.trans (hb4.mono HB3.out.size)
      have hs4 := hs3.below hb4
      have ht4 := ht3.below hb4
      have J0 := (hb4.cell (p := ⟨g6, 0, none⟩) (by simp; omega)).trans j0'
      have J1 := (hb4.cell (p := ⟨g6, 1, none⟩) (by simp; omega)).trans j1'
      have I0 := (hb4.cell (p := ⟨g7, 0, none⟩) hg7).trans i0
      have I1 := (hb4.cell (p := ⟨g7, 1, none⟩) hg7).trans i1
      have hz4 := hb4.size
      have HZ : Hid (z.length = d) := hzl
      have HTR2 : Hid (_) := HTR.out z
      have HXX : Hid (_) := fun (w : World) (h1 : RdI w aq t) (h2 : RdI w az z) => HCC.out az d dc z w hzl hd1 h1 h2
      have HYY : Hid (_) := fun (w : World) (h1 : RdI w ap s) (h2 : RdI w az z) => HCA.out az d dc z w hzl hd1 h1 h2
      generalize cmpT k t z = X at *
      generalize cmpT k s z = Y at *
      obtain ⟨xc, xv⟩ := X
      obtain ⟨yc, yv⟩ := Y
      simp only at HTR2
      clear hb4 hs3 ht3 HB3 j0' j1' i0 i1 HTR HCC HCA hzl
      go_wp2_with fail
      refine (HXX.out _ ht4 hrz).mono ?_
      rintro e w5 ⟨rfl, hb5⟩
      simp only
      have hX5 : Below w4.heap.size w4 (w5.alloc (.cells #[.int .i64 xc, .int .i64 xv] 42)) := hb5.alloc hb5.size _
      have HB5 : Hid (Below w.heap.size w (w5.alloc (.cells #[.int .i64 xc, .int .i64 xv] 42))) := HB4.out.trans (hX5.mono HB4.out.size)
      have hs5 := hs4.below hX5
      have ht5 := ht4.below hX5
      have hz5 := hrz.below hX5
      have J0' := (hX5.cell (p := ⟨g6, 0, none⟩) (by simp; omega)).trans J0
      have J1' := (hX5.cell (p := ⟨g6, 1, none⟩) (by simp; omega)).trans J1
      have I0' := (hX5.cell (p := ⟨g7, 0, none⟩) (by simp; omega)).trans I0
      have I1' := (hX5.cell (p := ⟨g7, 1, none⟩) (by simp; omega)).trans I1
      obtain ⟨x0, x1, -, -⟩ := res_block (w := w5) (wr := w5.alloc (.cells #[.int .i64 xc, .int .i64 xv] 42)) rfl (Below.refl _ _)
      have hsW5 : (w5.alloc (.cells #[.int .i64 xc, .int .i64 xv] 42)).heap.size = w5.heap.size + 1 := by simp
      have hzz5 := hb5.size
      clear hb5 hX5 hs4 ht4 hrz J0 J1 I0 I1 HB4 HXX
      go_wp2_with fail
      generalize w5.alloc (.cells #[.int .i64 xc, .int .i64 xv] 42) = W5 at *
      generalize w5.heap.size = g11 at *
      have hg11 : g11 < W5.heap.size := by omega
      refine (HYY.out _ hs5 hz5).mono ?_
      rintro e w6 ⟨rfl, hb6⟩
      simp only
      have hX6 : Below W5.heap.size W5 (w6.alloc (.cells #[.int .i64 yc, .int .i64 yv] 42)) := hb6.alloc hb6.size _
      have HB6 : Hid (Below w.heap.size w (w6.alloc (.cells #[.int .i64 yc, .int .i64 yv] 42))) := HB5.out.trans (hX6.mono HB5.out.size)
      have hs6 : Hid (RdI (w6.alloc (.cells #[.int .i64 yc, .int .i64 yv] 42)) ap s) := hs5.below hX6
      have ht6 : Hid (RdI (w6.alloc (.cells #[.int .i64 yc, .int .i64 yv] 42)) aq t) := ht5.below hX6
      have J0 := (hb6.cell (p := ⟨g6, 0, none⟩) (by simp; omega)).trans J0'
      have J1 := (hb6.cell (p := ⟨g6, 1, none⟩) (by simp; omega)).trans J1'
      have I0 := (hb6.cell (p := ⟨g7, 0, none⟩) (by simp; omega)).trans I0'
      have I1 := (hb6.cell (p := ⟨g7, 1, none⟩) (by simp; omega)).trans I1'
      have X0 := (hb6.cell (p := ⟨g11, 0, none⟩) hg11).trans x0
      have X1 := (hb6.cell (p := ⟨g11, 1, none⟩) hg11).trans x1
      have hzz6 := hb6.size
      have l6 : g6 < w6.heap.size := by omega
      have l7 : g7 < w6.heap.size := by omega
      have l11 : g11 < w6.heap.size := by omega
      have hsW6 : (w6.alloc (.cells #[.int .i64 yc, .int .i64 yv] 42)).heap.size = w6.heap.size + 1 := by simp
      have JJ : Hid ((w6.alloc (.cells #[.int .i64 yc, .int .i64 yv] 42)).cell? ⟨g6, 1, none⟩ = some (.int .i64 rv) ∧ (w6.alloc (.cells #[.int .i64 yc, .int .i64 yv] 42)).cell? ⟨g7, 0, none⟩ = some (.int .i64 0) ∧ (w6.alloc (.cells #[.int .i64 yc, .int .i64 yv] 42)).cell? ⟨g7, 1, none⟩ = some (.int .i64 bv)) := ⟨(hX6.cell (p := ⟨g6, 1, none⟩) (by simp; omega)).trans J1', (hX6.cell (p := ⟨g7, 0, none⟩) (by simp; omega)).trans I0', (hX6.cell (p := ⟨g7, 1, none⟩) (by simp; omega)).trans I1'⟩
      clear hb6 hX6 hs5 ht5 hz5 J0' J1' I0' I1' HB5 HYY x0 x1
      have hcase : Hid ((xc = 0 ∧ rv ≤ 0 ∧ xv ≤ 0 ∧ ¬ 0 < yv) ∨ (xc = 0 ∧ rv ≤ 0 ∧ ¬ xv ≤ 0) ∨ (xc = 0 ∧ ¬ rv ≤ 0) ∨ (xc == 0) = false) := by
        show _ ∨ _
        by_cases q1 : xc = 0
        · by_cases q2 : rv ≤ 0
          · by_cases q3 : xv ≤ 0
            · exact .inl ⟨q1, q2, q3, by have := HTR2.out q1 q2 q3; omega⟩
            · exact .inr (.inl ⟨q1, q2, q3⟩)
          · exact .inr (.inr (.inl ⟨q1, q2⟩))
        · exact .inr (.inr (.inr (by simpa using q1)))
      clear HTR2
      rcases hcase.out with ⟨rfl, q2, q3, q4⟩ | ⟨rfl, q2, q3⟩ | ⟨rfl, q2⟩ | q1
      · clear hcase
        go_wp2_with fail
        clear J0 J1 I0 I1 X0 X1
        generalize w6.alloc (.cells #[.int .i64 yc, .int .i64 yv] 42) = W6 at *
        generalize w6.heap.size = g12 at *
        refine (HMA'.out _ hs6.out).mono ?_
        rintro e u1 ⟨v7, rfl, ho7, hb7⟩
        simp only at ho7 ⊢
        obtain ⟨b7, c7, hv, -, -⟩ := ho7.form
        rw [HAl.out] at hv
        rw [hv] at ho7 ⊢
        clear hv
        have ht7 := RdI.below ht6.out hb7
        go_wp2_with fail
        refine (HMB'.out _ ht7).mono ?_
        rintro e u2 ⟨v8, rfl, ho8, hb8⟩
        simp only at ho8 ⊢
        obtain ⟨b8, c8, hv, -, -⟩ := ho8.form
        rw [HBl.out] at hv
        rw [hv] at ho8 ⊢
        clear hv
        have hr7 := ho7.rd.2.below hb8
        have hr8 := ho8.rd.2
        go_wp2_with fail
        refine (HN'.out _ _ _ _ _ hr7 hr8).mono ?_
        rintro e u3 ⟨rfl, hb9⟩
        have HW3 : Hid (Below W6.heap.size W6 u3) := (hb7.trans (hb8.mono hb7.size)).trans (hb9.mono (by have := hb7.size; have := hb8.size; omega))
        have hs9 := RdI.below hs6.out HW3.out
        have ht9 := RdI.below ht6.out HW3.out
        have j1 := (HW3.out.cell (p := ⟨g6, 1, none⟩) (by simp; omega)).trans JJ.out.1
        have i0 := (HW3.out.cell (p := ⟨g7, 0, none⟩) (by simp; omega)).trans JJ.out.2.1
        have i1 := (HW3.out.cell (p := ⟨g7, 1, none⟩) (by simp; omega)).trans JJ.out.2.2
        have HB9 : Hid (Below w.heap.size w u3) := HB6.out.trans (HW3.out.mono HB6.out.size)
        have m6 : g6 < u3.heap.size := by have := HW3.out.size; omega
        have m7 : g7 < u3.heap.size := by have := HW3.out.size; omega
        clear ho7 ho8 hb7 hb8 hb9 ht7 hr7 hr8 HMA' HMB' HN' JJ hs6 ht6 HB6 HW3
        go_wp2_with fail
        refine wp_region_held_drew (S := fun w' => w'.cell? ⟨g6, 1, none⟩ = some (.int .i64 rv) ∧ w'.cell? ⟨g7, 0, none⟩ = some (.int .i64 0) ∧ w'.cell? ⟨g7, 1, none⟩ = some (.int .i64 bv)) (by kernel_rfl) ?hS1 (fun hHeld => ?_)
        case hS1 => exact ⟨j1, i0, i1⟩
        refine wpAnyH_take (i := 0) (v := ?_) rfl (by kernel_rfl) (by kernel_rfl) (by kernel_rfl) (fun _ _ _ h => h) (Or.inl ⟨by rfl, ?hy2⟩) (by assumption) ?ty2
        case hy2 => (intro w hSw; (try dsimp only at hSw); go_simp; all_goals with_reducible rfl)
        simp only [Act.put, List.getElem_toArray, List.getElem_cons_zero, List.setIfInBounds_toArray, List.set_cons_zero, List.set_cons_succ]
        refine wpAnyH_take (i := 1) (v := ?_) rfl (by kernel_rfl) (by kernel_rfl) (by kernel_rfl) (fun _ _ _ h => h) (Or.inl ⟨by rfl, ?hy3⟩) (by assumption) ?ty3
        case hy3 => (intro w hSw; (try dsimp only at hSw); go_simp; all_goals with_reducible rfl)
        simp only [Act.put, List.getElem_toArray, List.getElem_cons_zero, List.getElem_cons_succ, List.setIfInBounds_toArray, List.set_cons_zero, List.set_cons_succ]
        refine wpAnyH_take (i := 2) (v := .bool true) rfl (by kernel_rfl) (by kernel_rfl) (by kernel_rfl) (fun _ _ _ h => h) (Or.inl ⟨by rfl, ?hy4⟩) (by assumption) ?ty4
        case hy4 => (intro w hSw; (try dsimp only at hSw); go_simp; first | (simp; done) | (all_goals with_reducible rfl))
        simp only [Act.put, List.getElem_toArray, List.getElem_cons_zero, List.getElem_cons_succ, List.setIfInBounds_toArray, List.set_cons_zero, List.set_cons_succ]
        refine wpAnyH_take (i := 3) (v := ?_) rfl (by kernel_rfl) (by kernel_rfl) (by kernel_rfl) (fun _ _ _ h => h) (Or.inl ⟨by rfl, ?hy5⟩) (by assumption) ?ty5
        case hy5 => (intro w hSw; (try dsimp only at hSw); go_simp; all_goals with_reducible rfl)
        simp only [Act.put, List.getElem_toArray, List.getElem_cons_zero, List.getElem_cons_succ, List.setIfInBounds_toArray, List.set_cons_zero, List.set_cons_succ]
        refine wpAnyH_take (i := 4) (v := ?_) rfl (by kernel_rfl) (by kernel_rfl) (by kernel_rfl) (fun _ _ _ h => h) (Or.inl ⟨by rfl, ?hy6⟩) (by assumption) ?ty6
        case hy6 => (intro w hSw; (try dsimp only at hSw); go_simp; all_goals with_reducible rfl)
        simp only [Act.put, List.getElem_toArray, List.getElem_cons_zero, List.getElem_cons_succ, List.setIfInBounds_toArray, List.set_cons_zero, List.set_cons_succ]
        refine wpAnyH_take (i := 5) (v := ?_) rfl (by kernel_rfl) (by kernel_rfl) (by kernel_rfl) (fun _ _ _ h => h) (Or.inl ⟨by rfl, ?hy7⟩) (by assumption) ?ty7
        case hy7 => (intro w hSw; (try dsimp only at hSw); go_simp; all_goals with_reducible rfl)
        simp only [Act.put, List.getElem_toArray, List.getElem_cons_zero, List.getElem_cons_succ, List.setIfInBounds_toArray, List.set_cons_zero, List.set_cons_succ]
        refine wpAnyH_take (i := 6) (v := ?_) rfl (by kernel_rfl) (by kernel_rfl) (by kernel_rfl) (fun _ _ _ h => h) (Or.inl ⟨by rfl, ?hy8⟩) (by assumption) ?ty8
        case hy8 => (intro w hSw; (try dsimp only at hSw); go_simp; all_goals with_reducible rfl)
        simp only [Act.put, List.getElem_toArray, List.getElem_cons_zero, List.getElem_cons_succ, List.setIfInBounds_toArray, List.set_cons_zero, List.set_cons_succ]
        refine wpAnyH_take (i := 7) (v := ?_) rfl (by kernel_rfl) (by kernel_rfl) (by kernel_rfl) (fun _ _ _ h => h) (Or.inl ⟨by rfl, ?hy9⟩) (by assumption) ?ty9
        case hy9 => (intro w hSw; (try dsimp only at hSw); go_simp; all_goals with_reducible rfl)
        simp only [Act.put, List.getElem_toArray, List.getElem_cons_zero, List.getElem_cons_succ, List.setIfInBounds_toArray, List.set_cons_zero, List.set_cons_succ]
        refine wpAnyH_take (i := 8) (v := .int .i64 bv) rfl (by kernel_rfl) (by kernel_rfl) (by kernel_rfl) (fun _ _ _ h => h) (Or.inl ⟨by rfl, ?hy10⟩) (by assumption) ?ty10
        case hy10 => (intro w hSw; (try dsimp only at hSw); go_simp; first | (rw [hnegv]; done) | (simp [hnegv]; done) | (all_goals with_reducible rfl))
        simp only [Act.put, List.getElem_toArray, List.getElem_cons_zero, List.getElem_cons_succ, List.setIfInBounds_toArray, List.set_cons_zero, List.set_cons_succ]
        refine wpAnyH_take (i := 9) (v := .bool true) rfl (by kernel_rfl) (by kernel_rfl) (by kernel_rfl) (fun _ _ _ h => h) (Or.inl ⟨by rfl, ?hy11⟩) (by assumption) ?ty11
        case hy11 => (intro w hSw; (try dsimp only at hSw); go_simp; first | (simp; done) | (all_goals with_reducible rfl))
        simp only [Act.put, List.getElem_toArray, List.getElem_cons_zero, List.getElem_cons_succ, List.setIfInBounds_toArray, List.set_cons_zero, List.set_cons_succ]
        refine wpAnyH_take (i := 10) (v := ?_) rfl (by kernel_rfl) (by kernel_rfl) (by kernel_rfl) (fun _ _ _ h => h) (Or.inl ⟨by rfl, ?hy12⟩) (by assumption) ?ty12
        case hy12 => (intro w hSw; (try dsimp only at hSw); go_simp; all_goals with_reducible rfl)
        simp only [Act.put, List.getElem_toArray, List.getElem_cons_zero, List.getElem_cons_succ, List.setIfInBounds_toArray, List.set_cons_zero, List.set_cons_succ]
        refine wpAnyH_take (i := 11) (v := ?_) rfl (by kernel_rfl) (by kernel_rfl) (by kernel_rfl) (fun _ _ _ h => h) (Or.inl ⟨by rfl, ?hy13⟩) (by assumption) ?ty13
        case hy13 => (intro w hSw; (try dsimp only at hSw); go_simp; all_goals with_reducible rfl)
        simp only [Act.put, List.getElem_toArray, List.getElem_cons_zero, List.getElem_cons_succ, List.setIfInBounds_toArray, List.set_cons_zero, List.set_cons_succ]
        refine wpAnyH_take (i := 12) (v := ?_) rfl (by kernel_rfl) (by kernel_rfl) (by kernel_rfl) (fun _ _ _ h => h) (Or.inl ⟨by rfl, ?hy14⟩) (by assumption) ?ty14
        case hy14 => (intro w hSw; (try dsimp only at hSw); go_simp; all_goals with_reducible rfl)
        simp only [Act.put, List.getElem_toArray, List.getElem_cons_zero, List.getElem_cons_succ, List.setIfInBounds_toArray, List.set_cons_zero, List.set_cons_succ]
        refine wpAnyH_take (i := 13) (v := ?_) rfl (by kernel_rfl) (by kernel_rfl) (by kernel_rfl) (fun _ _ _ h => h) (Or.inl ⟨by rfl, ?hy15⟩) (by assumption) ?ty15
        case hy15 => (intro w hSw; (try dsimp only at hSw); go_simp; all_goals with_reducible rfl)
        simp only [Act.put, List.getElem_toArray, List.getElem_cons_zero, List.getElem_cons_succ, List.setIfInBounds_toArray, List.set_cons_zero, List.set_cons_succ]
        refine wpAnyH_take (i := 14) (v := .bool (rv == 0)) rfl (by kernel_rfl) (by kernel_rfl) (by kernel_rfl) (fun _ _ _ h => h) (Or.inl ⟨by rfl, ?hy16⟩) (by assumption) ?ty16
        case hy16 => (intro w hSw; (try dsimp only at hSw); go_simp; first | (simp; done) | (all_goals with_reducible rfl))
        simp only [Act.put, List.getElem_toArray, List.getElem_cons_zero, List.getElem_cons_succ, List.setIfInBounds_toArray, List.set_cons_zero, List.set_cons_succ]
        refine wpAnyH_take (i := 15) (v := ?_) rfl (by kernel_rfl) (by kernel_rfl) (by kernel_rfl) (fun _ _ _ h => h) (Or.inl ⟨by rfl, ?hy17⟩) (by assumption) ?ty17
        case hy17 => (intro w hSw; (try dsimp only at hSw); go_simp; all_goals with_reducible rfl)
        simp only [Act.put, List.getElem_toArray, List.getElem_cons_zero, List.getElem_cons_succ, List.setIfInBounds_toArray, List.set_cons_zero, List.set_cons_succ]
        refine wpAnyH_take (i := 16) (v := .bool true) rfl (by kernel_rfl) (by kernel_rfl) (by kernel_rfl) (fun _ _ _ h => h) (Or.inl ⟨by rfl, ?hy18⟩) (by assumption) ?ty18
        case hy18 => (intro w hSw; (try dsimp only at hSw); go_simp; first | (simp; done) | (all_goals with_reducible rfl))
        simp only [Act.put, List.getElem_toArray, List.getElem_cons_zero, List.getElem_cons_succ, List.setIfInBounds_toArray, List.set_cons_zero, List.set_cons_succ]
        refine wpAnyH_take (i := 17) (v := ?_) rfl (by kernel_rfl) (by kernel_rfl) (by kernel_rfl) (fun _ _ _ h => h) (Or.inl ⟨by rfl, ?hy19⟩) (by assumption) ?ty19
        case hy19 => (intro w hSw; (try dsimp only at hSw); go_simp; all_goals with_reducible rfl)
        simp only [Act.put, List.getElem_toArray, List.getElem_cons_zero, List.getElem_cons_succ, List.setIfInBounds_toArray, List.set_cons_zero, List.set_cons_succ]
        refine wpAnyH_take (i := 18) (v := ?_) rfl (by kernel_rfl) (by kernel_rfl) (by kernel_rfl) (fun _ _ _ h => h) (Or.inl ⟨by rfl, ?hy20⟩) (by assumption) ?ty20
        case hy20 => (intro w hSw; (try dsimp only at hSw); go_simp; all_goals with_reducible rfl)
        simp only [Act.put, List.getElem_toArray, List.getElem_cons_zero, List.getElem_cons_succ, List.setIfInBounds_toArray, List.set_cons_zero, List.set_cons_succ]
        refine wpAnyH_take (i := 19) (v := ?_) rfl (by kernel_rfl) (by kernel_rfl) (by kernel_rfl) (fun _ _ _ h => h) (Or.inl ⟨by rfl, ?hy21⟩) (by assumption) ?ty21
        case hy21 => (intro w hSw; (try dsimp only at hSw); go_simp; all_goals with_reducible rfl)
        simp only [Act.put, List.getElem_toArray, List.getElem_cons_zero, List.getElem_cons_succ, List.setIfInBounds_toArray, List.set_cons_zero, List.set_cons_succ]
        refine wpAnyH_take (i := 20) (v := ?_) rfl (by kernel_rfl) (by kernel_rfl) (by kernel_rfl) (fun _ _ _ h => h) (Or.inl ⟨by rfl, ?hy22⟩) (by assumption) ?ty22
        case hy22 => (intro w hSw; (try dsimp only at hSw); go_simp; all_goals with_reducible rfl)
        simp only [Act.put, List.getElem_toArray, List.getElem_cons_zero, List.getElem_cons_succ, List.setIfInBounds_toArray, List.set_cons_zero, List.set_cons_succ]
        refine wpAnyH_take (i := 21) (v := ?_) rfl (by kernel_rfl) (by kernel_rfl) (by kernel_rfl) (fun _ _ _ h => h) (Or.inl ⟨by rfl, ?hy23⟩) (by assumption) ?ty23
        case hy23 => (intro w hSw; (try dsimp only at hSw); go_simp; all_goals with_reducible rfl)
        simp only [Act.put, List.getElem_toArray, List.getElem_cons_zero, List.getElem_cons_succ, List.setIfInBounds_toArray, List.set_cons_zero, List.set_cons_succ]
        refine wpAnyH_ready (rs := [22]) (by kernel_rfl) (by simp) ?_
        refine AllReadyH.cons rfl (fun K hK => ?_) AllReadyH.nil
        go_simp
        refine (HAA'.out _ (by exact hs9)).mono ?_
        rintro e u4 ⟨rfl, hbx⟩
        simp only
        have HW_u4 : Hid (Below u3.heap.size u3 u4) := (Below.refl _ _).drew.trans hbx
        have hsS : u4.cell? ⟨g6, 1, none⟩ = some (.int .i64 rv) ∧ u4.cell? ⟨g7, 0, none⟩ = some (.int .i64 0) ∧ u4.cell? ⟨g7, 1, none⟩ = some (.int .i64 bv) := ⟨(HW_u4.out.cell (p := ⟨g6, 1, none⟩) m6).trans j1, (HW_u4.out.cell (p := ⟨g7, 0, none⟩) m7).trans i0, (HW_u4.out.cell (p := ⟨g7, 1, none⟩) m7).trans i1⟩
        refine hK.out _ _ hsS (fun hHeld => ?_)
        clear hK K
        clear hsS hbx
        refine wpAnyH_take (i := 23) (v := ?_) rfl (by kernel_rfl) (by kernel_rfl) (by kernel_rfl) (fun _ _ _ h => h) (Or.inl ⟨by rfl, ?hy24⟩) (by assumption) ?ty24
        case hy24 => (intro w hSw; (try dsimp only at hSw); go_simp; all_goals with_reducible rfl)
        simp only [Act.put, List.getElem_toArray, List.getElem_cons_zero, List.getElem_cons_succ, List.setIfInBounds_toArray, List.set_cons_zero, List.set_cons_succ]
        refine wpAnyH_take (i := 24) (v := .bool true) rfl (by kernel_rfl) (by kernel_rfl) (by kernel_rfl) (fun _ _ _ h => h) (Or.inl ⟨by rfl, ?hy25⟩) (by assumption) ?ty25
        case hy25 => (intro w hSw; (try dsimp only at hSw); go_simp; first | (simp; done) | (all_goals with_reducible rfl))
        simp only [Act.put, List.getElem_toArray, List.getElem_cons_zero, List.getElem_cons_succ, List.setIfInBounds_toArray, List.set_cons_zero, List.set_cons_succ]
        refine wpAnyH_take (i := 25) (v := ?_) rfl (by kernel_rfl) (by kernel_rfl) (by kernel_rfl) (fun _ _ _ h => h) (Or.inl ⟨by rfl, ?hy26⟩) (by assumption) ?ty26
        case hy26 => (intro w hSw; (try dsimp only at hSw); go_simp; all_goals with_reducible rfl)
        simp only [Act.put, List.getElem_toArray, List.getElem_cons_zero, List.getElem_cons_succ, List.setIfInBounds_toArray, List.set_cons_zero, List.set_cons_succ]
        refine wpAnyH_take (i := 26) (v := ?_) rfl (by kernel_rfl) (by kernel_rfl) (by kernel_rfl) (fun _ _ _ h => h) (Or.inl ⟨by rfl, ?hy27⟩) (by assumption) ?ty27
        case hy27 => (intro w hSw; (try dsimp only at hSw); go_simp; all_goals with_reducible rfl)
        simp only [Act.put, List.getElem_toArray, List.getElem_cons_zero, List.getElem_cons_succ, List.setIfInBounds_toArray, List.set_cons_zero, List.set_cons_succ]
        refine wpAnyH_take (i := 27) (v := ?_) rfl (by kernel_rfl) (by kernel_rfl) (by kernel_rfl) (fun _ _ _ h => h) (Or.inl ⟨by rfl, ?hy28⟩) (by assumption) ?ty28
        case hy28 => (intro w hSw; (try dsimp only at hSw); go_simp; all_goals with_reducible rfl)
        simp only [Act.put, List.getElem_toArray, List.getElem_cons_zero, List.getElem_cons_succ, List.setIfInBounds_toArray, List.set_cons_zero, List.set_cons_succ]
        refine wpAnyH_take (i := 28) (v := ?_) rfl (by kernel_rfl) (by kernel_rfl) (by kernel_rfl) (fun _ _ _ h => h) (Or.inl ⟨by rfl, ?hy29⟩) (by assumption) ?ty29
        case hy29 => (intro w hSw; (try dsimp only at hSw); go_simp; all_goals with_reducible rfl)
        simp only [Act.put, List.getElem_toArray, List.getElem_cons_zero, List.getElem_cons_succ, List.setIfInBounds_toArray, List.set_cons_zero, List.set_cons_succ]
        refine wpAnyH_take (i := 29) (v := ?_) rfl (by kernel_rfl) (by kernel_rfl) (by kernel_rfl) (fun _ _ _ h => h) (Or.inl ⟨by rfl, ?hy30⟩) (by assumption) ?ty30
        case hy30 => (intro w hSw; (try dsimp only at hSw); go_simp; all_goals with_reducible rfl)
        simp only [Act.put, List.getElem_toArray, List.getElem_cons_zero, List.getElem_cons_succ, List.setIfInBounds_toArray, List.set_cons_zero, List.set_cons_succ]
        refine wpAnyH_take (i := 30) (v := ?_) rfl (by kernel_rfl) (by kernel_rfl) (by kernel_rfl) (fun _ _ _ h => h) (Or.inl ⟨by rfl, ?hy31⟩) (by assumption) ?ty31
        case hy31 => (intro w hSw; (try dsimp only at hSw); go_simp; all_goals with_reducible rfl)
        simp only [Act.put, List.getElem_toArray, List.getElem_cons_zero, List.getElem_cons_succ, List.setIfInBounds_toArray, List.set_cons_zero, List.set_cons_succ]
        refine wpAnyH_take (i := 31) (v := ?_) rfl (by kernel_rfl) (by kernel_rfl) (by kernel_rfl) (fun _ _ _ h => h) (Or.inl ⟨by rfl, ?hy32⟩) (by assumption) ?ty32
        case hy32 => (intro w hSw; (try dsimp only at hSw); go_simp; all_goals with_reducible rfl)
        simp only [Act.put, List.getElem_toArray, List.getElem_cons_zero, List.getElem_cons_succ, List.setIfInBounds_toArray, List.set_cons_zero, List.set_cons_succ]
        refine wpAnyH_ready (rs := [32]) (by kernel_rfl) (by simp) ?_
        refine AllReadyH.cons rfl (fun K hK => ?_) AllReadyH.nil
        go_simp
        refine (HS'.out _ (by exact hs9.below HW_u4.out) (by exact ht9.below HW_u4.out)).mono ?_
        rintro e u5 ⟨rfl, hbx⟩
        simp only
        have HW_u5 : Hid (Below u3.heap.size u3 u5) := HW_u4.out.trans (hbx.mono HW_u4.out.size)
        have hsS : u5.cell? ⟨g6, 1, none⟩ = some (.int .i64 rv) ∧ u5.cell? ⟨g7, 0, none⟩ = some (.int .i64 0) ∧ u5.cell? ⟨g7, 1, none⟩ = some (.int .i64 bv) := ⟨(HW_u5.out.cell (p := ⟨g6, 1, none⟩) m6).trans j1, (HW_u5.out.cell (p := ⟨g7, 0, none⟩) m7).trans i0, (HW_u5.out.cell (p := ⟨g7, 1, none⟩) m7).trans i1⟩
        refine hK.out _ _ hsS (fun hHeld => ?_)
        clear hK K
        clear hsS hbx
        refine wpAnyH_take (i := 33) (v := ?_) rfl (by kernel_rfl) (by kernel_rfl) (by kernel_rfl) (fun _ _ _ h => h) (Or.inl ⟨by rfl, ?hy33⟩) (by assumption) ?ty33
        case hy33 => (intro w hSw; (try dsimp only at hSw); go_simp; all_goals with_reducible rfl)
        simp only [Act.put, List.getElem_toArray, List.getElem_cons_zero, List.getElem_cons_succ, List.setIfInBounds_toArray, List.set_cons_zero, List.set_cons_succ]
        refine wpAnyH_take (i := 34) (v := .bool true) rfl (by kernel_rfl) (by kernel_rfl) (by kernel_rfl) (fun _ _ _ h => h) (Or.inl ⟨by rfl, ?hy34⟩) (by assumption) ?ty34
        case hy34 => (intro w hSw; (try dsimp only at hSw); go_simp; first | (simp; done) | (all_goals with_reducible rfl))
        simp only [Act.put, List.getElem_toArray, List.getElem_cons_zero, List.getElem_cons_succ, List.setIfInBounds_toArray, List.set_cons_zero, List.set_cons_succ]
        refine wpAnyH_take (i := 35) (v := ?_) rfl (by kernel_rfl) (by kernel_rfl) (by kernel_rfl) (fun _ _ _ h => h) (Or.inl ⟨by rfl, ?hy35⟩) (by assumption) ?ty35
        case hy35 => (intro w hSw; (try dsimp only at hSw); go_simp; all_goals with_reducible rfl)
        simp only [Act.put, List.getElem_toArray, List.getElem_cons_zero, List.getElem_cons_succ, List.setIfInBounds_toArray, List.set_cons_zero, List.set_cons_succ]
        refine wpAnyH_take (i := 36) (v := ?_) rfl (by kernel_rfl) (by kernel_rfl) (by kernel_rfl) (fun _ _ _ h => h) (Or.inl ⟨by rfl, ?hy36⟩) (by assumption) ?ty36
        case hy36 => (intro w hSw; (try dsimp only at hSw); go_simp; all_goals with_reducible rfl)
        simp only [Act.put, List.getElem_toArray, List.getElem_cons_zero, List.getElem_cons_succ, List.setIfInBounds_toArray, List.set_cons_zero, List.set_cons_succ]
        refine wpAnyH_done (by kernel_rfl) ?_ _
        have HF : Hid (Below w.heap.size w u5) := HB9.out.trans (HW_u5.out.mono HB9.out.size)
        clear hHeld HW_u4 HW_u5 HS' HAA' HB9
        go_wp2
        go_ret
        exact ⟨rfl, HF.out⟩
      · clear hcase
        go_wp2_with fail
        clear J0 J1 I0 I1 X0 X1
        generalize w6.alloc (.cells #[.int .i64 yc, .int .i64 yv] 42) = W6 at *
        generalize w6.heap.size = g12 at *
        refine (HMA'.out _ hs6.out).mono ?_
        rintro e u1 ⟨v7, rfl, ho7, hb7⟩
        simp only at ho7 ⊢
        obtain ⟨b7, c7, hv, -, -⟩ := ho7.form
        rw [HAl.out] at hv
        rw [hv] at ho7 ⊢
        clear hv
        have ht7 := RdI.below ht6.out hb7
        go_wp2_with fail
        refine (HMB'.out _ ht7).mono ?_
        rintro e u2 ⟨v8, rfl, ho8, hb8⟩
        simp only at ho8 ⊢
        obtain ⟨b8, c8, hv, -, -⟩ := ho8.form
        rw [HBl.out] at hv
        rw [hv] at ho8 ⊢
        clear hv
        have hr7 := ho7.rd.2.below hb8
        have hr8 := ho8.rd.2
        go_wp2_with fail
        refine (HN'.out _ _ _ _ _ hr7 hr8).mono ?_
        rintro e u3 ⟨rfl, hb9⟩
        have HW3 : Hid (Below W6.heap.size W6 u3) := (hb7.trans (hb8.mono hb7.size)).trans (hb9.mono (by have := hb7.size; have := hb8.size; omega))
        have hs9 := RdI.below hs6.out HW3.out
        have ht9 := RdI.below ht6.out HW3.out
        have j1 := (HW3.out.cell (p := ⟨g6, 1, none⟩) (by simp; omega)).trans JJ.out.1
        have i0 := (HW3.out.cell (p := ⟨g7, 0, none⟩) (by simp; omega)).trans JJ.out.2.1
        have i1 := (HW3.out.cell (p := ⟨g7, 1, none⟩) (by simp; omega)).trans JJ.out.2.2
        have HB9 : Hid (Below w.heap.size w u3) := HB6.out.trans (HW3.out.mono HB6.out.size)
        have m6 : g6 < u3.heap.size := by have := HW3.out.size; omega
        have m7 : g7 < u3.heap.size := by have := HW3.out.size; omega
        clear ho7 ho8 hb7 hb8 hb9 ht7 hr7 hr8 HMA' HMB' HN' JJ hs6 ht6 HB6 HW3
        go_wp2_with fail
        refine wp_region_held_drew (S := fun w' => w'.cell? ⟨g6, 1, none⟩ = some (.int .i64 rv) ∧ w'.cell? ⟨g7, 0, none⟩ = some (.int .i64 0) ∧ w'.cell? ⟨g7, 1, none⟩ = some (.int .i64 bv)) (by kernel_rfl) ?hS37 (fun hHeld => ?_)
        case hS37 => exact ⟨j1, i0, i1⟩
        refine wpAnyH_take (i := 0) (v := ?_) rfl (by kernel_rfl) (by kernel_rfl) (by kernel_rfl) (fun _ _ _ h => h) (Or.inl ⟨by rfl, ?hy38⟩) (by assumption) ?ty38
        case hy38 => (intro w hSw; (try dsimp only at hSw); go_simp; all_goals with_reducible rfl)
        simp only [Act.put, List.getElem_toArray, List.getElem_cons_zero, List.setIfInBounds_toArray, List.set_cons_zero, List.set_cons_succ]
        refine wpAnyH_take (i := 1) (v := ?_) rfl (by kernel_rfl) (by kernel_rfl) (by kernel_rfl) (fun _ _ _ h => h) (Or.inl ⟨by rfl, ?hy39⟩) (by assumption) ?ty39
        case hy39 => (intro w hSw; (try dsimp only at hSw); go_simp; all_goals with_reducible rfl)
        simp only [Act.put, List.getElem_toArray, List.getElem_cons_zero, List.getElem_cons_succ, List.setIfInBounds_toArray, List.set_cons_zero, List.set_cons_succ]
        refine wpAnyH_take (i := 2) (v := .bool true) rfl (by kernel_rfl) (by kernel_rfl) (by kernel_rfl) (fun _ _ _ h => h) (Or.inl ⟨by rfl, ?hy40⟩) (by assumption) ?ty40
        case hy40 => (intro w hSw; (try dsimp only at hSw); go_simp; first | (simp; done) | (all_goals with_reducible rfl))
        simp only [Act.put, List.getElem_toArray, List.getElem_cons_zero, List.getElem_cons_succ, List.setIfInBounds_toArray, List.set_cons_zero, List.set_cons_succ]
        refine wpAnyH_take (i := 3) (v := ?_) rfl (by kernel_rfl) (by kernel_rfl) (by kernel_rfl) (fun _ _ _ h => h) (Or.inl ⟨by rfl, ?hy41⟩) (by assumption) ?ty41
        case hy41 => (intro w hSw; (try dsimp only at hSw); go_simp; all_goals with_reducible rfl)
        simp only [Act.put, List.getElem_toArray, List.getElem_cons_zero, List.getElem_cons_succ, List.setIfInBounds_toArray, List.set_cons_zero, List.set_cons_succ]
        refine wpAnyH_take (i := 4) (v := ?_) rfl (by kernel_rfl) (by kernel_rfl) (by kernel_rfl) (fun _ _ _ h => h) (Or.inl ⟨by rfl, ?hy42⟩) (by assumption) ?ty42
        case hy42 => (intro w hSw; (try dsimp only at hSw); go_simp; all_goals with_reducible rfl)
        simp only [Act.put, List.getElem_toArray, List.getElem_cons_zero, List.getElem_cons_succ, List.setIfInBounds_toArray, List.set_cons_zero, List.set_cons_succ]
        refine wpAnyH_take (i := 5) (v := ?_) rfl (by kernel_rfl) (by kernel_rfl) (by kernel_rfl) (fun _ _ _ h => h) (Or.inl ⟨by rfl, ?hy43⟩) (by assumption) ?ty43
        case hy43 => (intro w hSw; (try dsimp only at hSw); go_simp; all_goals with_reducible rfl)
        simp only [Act.put, List.getElem_toArray, List.getElem_cons_zero, List.getElem_cons_succ, List.setIfInBounds_toArray, List.set_cons_zero, List.set_cons_succ]
        refine wpAnyH_take (i := 6) (v := ?_) rfl (by kernel_rfl) (by kernel_rfl) (by kernel_rfl) (fun _ _ _ h => h) (Or.inl ⟨by rfl, ?hy44⟩) (by assumption) ?ty44
        case hy44 => (intro w hSw; (try dsimp only at hSw); go_simp; all_goals with_reducible rfl)
        simp only [Act.put, List.getElem_toArray, List.getElem_cons_zero, List.getElem_cons_succ, List.setIfInBounds_toArray, List.set_cons_zero, List.set_cons_succ]
        refine wpAnyH_take (i := 7) (v := ?_) rfl (by kernel_rfl) (by kernel_rfl) (by kernel_rfl) (fun _ _ _ h => h) (Or.inl ⟨by rfl, ?hy45⟩) (by assumption) ?ty45
        case hy45 => (intro w hSw; (try dsimp only at hSw); go_simp; all_goals with_reducible rfl)
        simp only [Act.put, List.getElem_toArray, List.getElem_cons_zero, List.getElem_cons_succ, List.setIfInBounds_toArray, List.set_cons_zero, List.set_cons_succ]
        refine wpAnyH_take (i := 8) (v := .int .i64 bv) rfl (by kernel_rfl) (by kernel_rfl) (by kernel_rfl) (fun _ _ _ h => h) (Or.inl ⟨by rfl, ?hy46⟩) (by assumption) ?ty46
        case hy46 => (intro w hSw; (try dsimp only at hSw); go_simp; first | (rw [hnegv]; done) | (simp [hnegv]; done) | (all_goals with_reducible rfl))
        simp only [Act.put, List.getElem_toArray, List.getElem_cons_zero, List.getElem_cons_succ, List.setIfInBounds_toArray, List.set_cons_zero, List.set_cons_succ]
        refine wpAnyH_take (i := 9) (v := .bool true) rfl (by kernel_rfl) (by kernel_rfl) (by kernel_rfl) (fun _ _ _ h => h) (Or.inl ⟨by rfl, ?hy47⟩) (by assumption) ?ty47
        case hy47 => (intro w hSw; (try dsimp only at hSw); go_simp; first | (simp; done) | (all_goals with_reducible rfl))
        simp only [Act.put, List.getElem_toArray, List.getElem_cons_zero, List.getElem_cons_succ, List.setIfInBounds_toArray, List.set_cons_zero, List.set_cons_succ]
        refine wpAnyH_take (i := 10) (v := ?_) rfl (by kernel_rfl) (by kernel_rfl) (by kernel_rfl) (fun _ _ _ h => h) (Or.inl ⟨by rfl, ?hy48⟩) (by assumption) ?ty48
        case hy48 => (intro w hSw; (try dsimp only at hSw); go_simp; all_goals with_reducible rfl)
        simp only [Act.put, List.getElem_toArray, List.getElem_cons_zero, List.getElem_cons_succ, List.setIfInBounds_toArray, List.set_cons_zero, List.set_cons_succ]
        refine wpAnyH_take (i := 11) (v := ?_) rfl (by kernel_rfl) (by kernel_rfl) (by kernel_rfl) (fun _ _ _ h => h) (Or.inl ⟨by rfl, ?hy49⟩) (by assumption) ?ty49
        case hy49 => (intro w hSw; (try dsimp only at hSw); go_simp; all_goals with_reducible rfl)
        simp only [Act.put, List.getElem_toArray, List.getElem_cons_zero, List.getElem_cons_succ, List.setIfInBounds_toArray, List.set_cons_zero, List.set_cons_succ]
        refine wpAnyH_take (i := 12) (v := ?_) rfl (by kernel_rfl) (by kernel_rfl) (by kernel_rfl) (fun _ _ _ h => h) (Or.inl ⟨by rfl, ?hy50⟩) (by assumption) ?ty50
        case hy50 => (intro w hSw; (try dsimp only at hSw); go_simp; all_goals with_reducible rfl)
        simp only [Act.put, List.getElem_toArray, List.getElem_cons_zero, List.getElem_cons_succ, List.setIfInBounds_toArray, List.set_cons_zero, List.set_cons_succ]
        refine wpAnyH_take (i := 13) (v := ?_) rfl (by kernel_rfl) (by kernel_rfl) (by kernel_rfl) (fun _ _ _ h => h) (Or.inl ⟨by rfl, ?hy51⟩) (by assumption) ?ty51
        case hy51 => (intro w hSw; (try dsimp only at hSw); go_simp; all_goals with_reducible rfl)
        simp only [Act.put, List.getElem_toArray, List.getElem_cons_zero, List.getElem_cons_succ, List.setIfInBounds_toArray, List.set_cons_zero, List.set_cons_succ]
        refine wpAnyH_take (i := 14) (v := .bool (rv == 0)) rfl (by kernel_rfl) (by kernel_rfl) (by kernel_rfl) (fun _ _ _ h => h) (Or.inl ⟨by rfl, ?hy52⟩) (by assumption) ?ty52
        case hy52 => (intro w hSw; (try dsimp only at hSw); go_simp; first | (simp; done) | (all_goals with_reducible rfl))
        simp only [Act.put, List.getElem_toArray, List.getElem_cons_zero, List.getElem_cons_succ, List.setIfInBounds_toArray, List.set_cons_zero, List.set_cons_succ]
        refine wpAnyH_take (i := 15) (v := ?_) rfl (by kernel_rfl) (by kernel_rfl) (by kernel_rfl) (fun _ _ _ h => h) (Or.inl ⟨by rfl, ?hy53⟩) (by assumption) ?ty53
        case hy53 => (intro w hSw; (try dsimp only at hSw); go_simp; all_goals with_reducible rfl)
        simp only [Act.put, List.getElem_toArray, List.getElem_cons_zero, List.getElem_cons_succ, List.setIfInBounds_toArray, List.set_cons_zero, List.set_cons_succ]
        refine wpAnyH_take (i := 16) (v := .bool true) rfl (by kernel_rfl) (by kernel_rfl) (by kernel_rfl) (fun _ _ _ h => h) (Or.inl ⟨by rfl, ?hy54⟩) (by assumption) ?ty54
        case hy54 => (intro w hSw; (try dsimp only at hSw); go_simp; first | (simp; done) | (all_goals with_reducible rfl))
        simp only [Act.put, List.getElem_toArray, List.getElem_cons_zero, List.getElem_cons_succ, List.setIfInBounds_toArray, List.set_cons_zero, List.set_cons_succ]
        refine wpAnyH_take (i := 17) (v := ?_) rfl (by kernel_rfl) (by kernel_rfl) (by kernel_rfl) (fun _ _ _ h => h) (Or.inl ⟨by rfl, ?hy55⟩) (by assumption) ?ty55
        case hy55 => (intro w hSw; (try dsimp only at hSw); go_simp; all_goals with_reducible rfl)
        simp only [Act.put, List.getElem_toArray, List.getElem_cons_zero, List.getElem_cons_succ, List.setIfInBounds_toArray, List.set_cons_zero, List.set_cons_succ]
        refine wpAnyH_take (i := 18) (v := ?_) rfl (by kernel_rfl) (by kernel_rfl) (by kernel_rfl) (fun _ _ _ h => h) (Or.inl ⟨by rfl, ?hy56⟩) (by assumption) ?ty56
        case hy56 => (intro w hSw; (try dsimp only at hSw); go_simp; all_goals with_reducible rfl)
        simp only [Act.put, List.getElem_toArray, List.getElem_cons_zero, List.getElem_cons_succ, List.setIfInBounds_toArray, List.set_cons_zero, List.set_cons_succ]
        refine wpAnyH_take (i := 19) (v := ?_) rfl (by kernel_rfl) (by kernel_rfl) (by kernel_rfl) (fun _ _ _ h => h) (Or.inl ⟨by rfl, ?hy57⟩) (by assumption) ?ty57
        case hy57 => (intro w hSw; (try dsimp only at hSw); go_simp; all_goals with_reducible rfl)
        simp only [Act.put, List.getElem_toArray, List.getElem_cons_zero, List.getElem_cons_succ, List.setIfInBounds_toArray, List.set_cons_zero, List.set_cons_succ]
        refine wpAnyH_take (i := 20) (v := ?_) rfl (by kernel_rfl) (by kernel_rfl) (by kernel_rfl) (fun _ _ _ h => h) (Or.inl ⟨by rfl, ?hy58⟩) (by assumption) ?ty58
        case hy58 => (intro w hSw; (try dsimp only at hSw); go_simp; all_goals with_reducible rfl)
        simp only [Act.put, List.getElem_toArray, List.getElem_cons_zero, List.getElem_cons_succ, List.setIfInBounds_toArray, List.set_cons_zero, List.set_cons_succ]
        refine wpAnyH_take (i := 21) (v := ?_) rfl (by kernel_rfl) (by kernel_rfl) (by kernel_rfl) (fun _ _ _ h => h) (Or.inl ⟨by rfl, ?hy59⟩) (by assumption) ?ty59
        case hy59 => (intro w hSw; (try dsimp only at hSw); go_simp; all_goals with_reducible rfl)
        simp only [Act.put, List.getElem_toArray, List.getElem_cons_zero, List.getElem_cons_succ, List.setIfInBounds_toArray, List.set_cons_zero, List.set_cons_succ]
        refine wpAnyH_ready (rs := [22]) (by kernel_rfl) (by simp) ?_
        refine AllReadyH.cons rfl (fun K hK => ?_) AllReadyH.nil
        go_simp
        refine (HAA'.out _ (by exact hs9)).mono ?_
        rintro e u4 ⟨rfl, hbx⟩
        simp only
        have HW_u4 : Hid (Below u3.heap.size u3 u4) := (Below.refl _ _).drew.trans hbx
        have hsS : u4.cell? ⟨g6, 1, none⟩ = some (.int .i64 rv) ∧ u4.cell? ⟨g7, 0, none⟩ = some (.int .i64 0) ∧ u4.cell? ⟨g7, 1, none⟩ = some (.int .i64 bv) := ⟨(HW_u4.out.cell (p := ⟨g6, 1, none⟩) m6).trans j1, (HW_u4.out.cell (p := ⟨g7, 0, none⟩) m7).trans i0, (HW_u4.out.cell (p := ⟨g7, 1, none⟩) m7).trans i1⟩
        refine hK.out _ _ hsS (fun hHeld => ?_)
        clear hK K
        clear hsS hbx
        refine wpAnyH_take (i := 23) (v := ?_) rfl (by kernel_rfl) (by kernel_rfl) (by kernel_rfl) (fun _ _ _ h => h) (Or.inl ⟨by rfl, ?hy60⟩) (by assumption) ?ty60
        case hy60 => (intro w hSw; (try dsimp only at hSw); go_simp; all_goals with_reducible rfl)
        simp only [Act.put, List.getElem_toArray, List.getElem_cons_zero, List.getElem_cons_succ, List.setIfInBounds_toArray, List.set_cons_zero, List.set_cons_succ]
        refine wpAnyH_take (i := 24) (v := .bool true) rfl (by kernel_rfl) (by kernel_rfl) (by kernel_rfl) (fun _ _ _ h => h) (Or.inl ⟨by rfl, ?hy61⟩) (by assumption) ?ty61
        case hy61 => (intro w hSw; (try dsimp only at hSw); go_simp; first | (simp; done) | (all_goals with_reducible rfl))
        simp only [Act.put, List.getElem_toArray, List.getElem_cons_zero, List.getElem_cons_succ, List.setIfInBounds_toArray, List.set_cons_zero, List.set_cons_succ]
        refine wpAnyH_take (i := 25) (v := ?_) rfl (by kernel_rfl) (by kernel_rfl) (by kernel_rfl) (fun _ _ _ h => h) (Or.inl ⟨by rfl, ?hy62⟩) (by assumption) ?ty62
        case hy62 => (intro w hSw; (try dsimp only at hSw); go_simp; all_goals with_reducible rfl)
        simp only [Act.put, List.getElem_toArray, List.getElem_cons_zero, List.getElem_cons_succ, List.setIfInBounds_toArray, List.set_cons_zero, List.set_cons_succ]
        refine wpAnyH_take (i := 26) (v := ?_) rfl (by kernel_rfl) (by kernel_rfl) (by kernel_rfl) (fun _ _ _ h => h) (Or.inl ⟨by rfl, ?hy63⟩) (by assumption) ?ty63
        case hy63 => (intro w hSw; (try dsimp only at hSw); go_simp; all_goals with_reducible rfl)
        simp only [Act.put, List.getElem_toArray, List.getElem_cons_zero, List.getElem_cons_succ, List.setIfInBounds_toArray, List.set_cons_zero, List.set_cons_succ]
        refine wpAnyH_take (i := 27) (v := ?_) rfl (by kernel_rfl) (by kernel_rfl) (by kernel_rfl) (fun _ _ _ h => h) (Or.inl ⟨by rfl, ?hy64⟩) (by assumption) ?ty64
        case hy64 => (intro w hSw; (try dsimp only at hSw); go_simp; all_goals with_reducible rfl)
        simp only [Act.put, List.getElem_toArray, List.getElem_cons_zero, List.getElem_cons_succ, List.setIfInBounds_toArray, List.set_cons_zero, List.set_cons_succ]
        refine wpAnyH_take (i := 28) (v := ?_) rfl (by kernel_rfl) (by kernel_rfl) (by kernel_rfl) (fun _ _ _ h => h) (Or.inl ⟨by rfl, ?hy65⟩) (by assumption) ?ty65
        case hy65 => (intro w hSw; (try dsimp only at hSw); go_simp; all_goals with_reducible rfl)
        simp only [Act.put, List.getElem_toArray, List.getElem_cons_zero, List.getElem_cons_succ, List.setIfInBounds_toArray, List.set_cons_zero, List.set_cons_succ]
        refine wpAnyH_take (i := 29) (v := ?_) rfl (by kernel_rfl) (by kernel_rfl) (by kernel_rfl) (fun _ _ _ h => h) (Or.inl ⟨by rfl, ?hy66⟩) (by assumption) ?ty66
        case hy66 => (intro w hSw; (try dsimp only at hSw); go_simp; all_goals with_reducible rfl)
        simp only [Act.put, List.getElem_toArray, List.getElem_cons_zero, List.getElem_cons_succ, List.setIfInBounds_toArray, List.set_cons_zero, List.set_cons_succ]
        refine wpAnyH_take (i := 30) (v := ?_) rfl (by kernel_rfl) (by kernel_rfl) (by kernel_rfl) (fun _ _ _ h => h) (Or.inl ⟨by rfl, ?hy67⟩) (by assumption) ?ty67
        case hy67 => (intro w hSw; (try dsimp only at hSw); go_simp; all_goals with_reducible rfl)
        simp only [Act.put, List.getElem_toArray, List.getElem_cons_zero, List.getElem_cons_succ, List.setIfInBounds_toArray, List.set_cons_zero, List.set_cons_succ]
        refine wpAnyH_take (i := 31) (v := ?_) rfl (by kernel_rfl) (by kernel_rfl) (by kernel_rfl) (fun _ _ _ h => h) (Or.inl ⟨by rfl, ?hy68⟩) (by assumption) ?ty68
        case hy68 => (intro w hSw; (try dsimp only at hSw); go_simp; all_goals with_reducible rfl)
        simp only [Act.put, List.getElem_toArray, List.getElem_cons_zero, List.getElem_cons_succ, List.setIfInBounds_toArray, List.set_cons_zero, List.set_cons_succ]
        refine wpAnyH_ready (rs := [32]) (by kernel_rfl) (by simp) ?_
        refine AllReadyH.cons rfl (fun K hK => ?_) AllReadyH.nil
        go_simp
        refine (HS'.out _ (by exact hs9.below HW_u4.out) (by exact ht9.below HW_u4.out)).mono ?_
        rintro e u5 ⟨rfl, hbx⟩
        simp only
        have HW_u5 : Hid (Below u3.heap.size u3 u5) := HW_u4.out.trans (hbx.mono HW_u4.out.size)
        have hsS : u5.cell? ⟨g6, 1, none⟩ = some (.int .i64 rv) ∧ u5.cell? ⟨g7, 0, none⟩ = some (.int .i64 0) ∧ u5.cell? ⟨g7, 1, none⟩ = some (.int .i64 bv) := ⟨(HW_u5.out.cell (p := ⟨g6, 1, none⟩) m6).trans j1, (HW_u5.out.cell (p := ⟨g7, 0, none⟩) m7).trans i0, (HW_u5.out.cell (p := ⟨g7, 1, none⟩) m7).trans i1⟩
        refine hK.out _ _ hsS (fun hHeld => ?_)
        clear hK K
        clear hsS hbx
        refine wpAnyH_take (i := 33) (v := ?_) rfl (by kernel_rfl) (by kernel_rfl) (by kernel_rfl) (fun _ _ _ h => h) (Or.inl ⟨by rfl, ?hy69⟩) (by assumption) ?ty69
        case hy69 => (intro w hSw; (try dsimp only at hSw); go_simp; all_goals with_reducible rfl)
        simp only [Act.put, List.getElem_toArray, List.getElem_cons_zero, List.getElem_cons_succ, List.setIfInBounds_toArray, List.set_cons_zero, List.set_cons_succ]
        refine wpAnyH_take (i := 34) (v := .bool true) rfl (by kernel_rfl) (by kernel_rfl) (by kernel_rfl) (fun _ _ _ h => h) (Or.inl ⟨by rfl, ?hy70⟩) (by assumption) ?ty70
        case hy70 => (intro w hSw; (try dsimp only at hSw); go_simp; first | (simp; done) | (all_goals with_reducible rfl))
        simp only [Act.put, List.getElem_toArray, List.getElem_cons_zero, List.getElem_cons_succ, List.setIfInBounds_toArray, List.set_cons_zero, List.set_cons_succ]
        refine wpAnyH_take (i := 35) (v := ?_) rfl (by kernel_rfl) (by kernel_rfl) (by kernel_rfl) (fun _ _ _ h => h) (Or.inl ⟨by rfl, ?hy71⟩) (by assumption) ?ty71
        case hy71 => (intro w hSw; (try dsimp only at hSw); go_simp; all_goals with_reducible rfl)
        simp only [Act.put, List.getElem_toArray, List.getElem_cons_zero, List.getElem_cons_succ, List.setIfInBounds_toArray, List.set_cons_zero, List.set_cons_succ]
        refine wpAnyH_take (i := 36) (v := ?_) rfl (by kernel_rfl) (by kernel_rfl) (by kernel_rfl) (fun _ _ _ h => h) (Or.inl ⟨by rfl, ?hy72⟩) (by assumption) ?ty72
        case hy72 => (intro w hSw; (try dsimp only at hSw); go_simp; all_goals with_reducible rfl)
        simp only [Act.put, List.getElem_toArray, List.getElem_cons_zero, List.getElem_cons_succ, List.setIfInBounds_toArray, List.set_cons_zero, List.set_cons_succ]
        refine wpAnyH_done (by kernel_rfl) ?_ _
        have HF : Hid (Below w.heap.size w u5) := HB9.out.trans (HW_u5.out.mono HB9.out.size)
        clear hHeld HW_u4 HW_u5 HS' HAA' HB9
        go_wp2
        go_ret
        exact ⟨rfl, HF.out⟩
      · clear hcase
        go_wp2_with fail
        clear J0 J1 I0 I1 X0 X1
        generalize w6.alloc (.cells #[.int .i64 yc, .int .i64 yv] 42) = W6 at *
        generalize w6.heap.size = g12 at *
        refine (HMA'.out _ hs6.out).mono ?_
        rintro e u1 ⟨v7, rfl, ho7, hb7⟩
        simp only at ho7 ⊢
        obtain ⟨b7, c7, hv, -, -⟩ := ho7.form
        rw [HAl.out] at hv
        rw [hv] at ho7 ⊢
        clear hv
        have ht7 := RdI.below ht6.out hb7
        go_wp2_with fail
        refine (HMB'.out _ ht7).mono ?_
        rintro e u2 ⟨v8, rfl, ho8, hb8⟩
        simp only at ho8 ⊢
        obtain ⟨b8, c8, hv, -, -⟩ := ho8.form
        rw [HBl.out] at hv
        rw [hv] at ho8 ⊢
        clear hv
        have hr7 := ho7.rd.2.below hb8
        have hr8 := ho8.rd.2
        go_wp2_with fail
        refine (HN'.out _ _ _ _ _ hr7 hr8).mono ?_
        rintro e u3 ⟨rfl, hb9⟩
        have HW3 : Hid (Below W6.heap.size W6 u3) := (hb7.trans (hb8.mono hb7.size)).trans (hb9.mono (by have := hb7.size; have := hb8.size; omega))
        have hs9 := RdI.below hs6.out HW3.out
        have ht9 := RdI.below ht6.out HW3.out
        have j1 := (HW3.out.cell (p := ⟨g6, 1, none⟩) (by simp; omega)).trans JJ.out.1
        have i0 := (HW3.out.cell (p := ⟨g7, 0, none⟩) (by simp; omega)).trans JJ.out.2.1
        have i1 := (HW3.out.cell (p := ⟨g7, 1, none⟩) (by simp; omega)).trans JJ.out.2.2
        have HB9 : Hid (Below w.heap.size w u3) := HB6.out.trans (HW3.out.mono HB6.out.size)
        have m6 : g6 < u3.heap.size := by have := HW3.out.size; omega
        have m7 : g7 < u3.heap.size := by have := HW3.out.size; omega
        clear ho7 ho8 hb7 hb8 hb9 ht7 hr7 hr8 HMA' HMB' HN' JJ hs6 ht6 HB6 HW3
        go_wp2_with fail
        refine wp_region_held_drew (S := fun w' => w'.cell? ⟨g6, 1, none⟩ = some (.int .i64 rv) ∧ w'.cell? ⟨g7, 0, none⟩ = some (.int .i64 0) ∧ w'.cell? ⟨g7, 1, none⟩ = some (.int .i64 bv)) (by kernel_rfl) ?hS73 (fun hHeld => ?_)
        case hS73 => exact ⟨j1, i0, i1⟩
        refine wpAnyH_take (i := 0) (v := ?_) rfl (by kernel_rfl) (by kernel_rfl) (by kernel_rfl) (fun _ _ _ h => h) (Or.inl ⟨by rfl, ?hy74⟩) (by assumption) ?ty74
        case hy74 => (intro w hSw; (try dsimp only at hSw); go_simp; all_goals with_reducible rfl)
        simp only [Act.put, List.getElem_toArray, List.getElem_cons_zero, List.setIfInBounds_toArray, List.set_cons_zero, List.set_cons_succ]
        refine wpAnyH_take (i := 1) (v := ?_) rfl (by kernel_rfl) (by kernel_rfl) (by kernel_rfl) (fun _ _ _ h => h) (Or.inl ⟨by rfl, ?hy75⟩) (by assumption) ?ty75
        case hy75 => (intro w hSw; (try dsimp only at hSw); go_simp; all_goals with_reducible rfl)
        simp only [Act.put, List.getElem_toArray, List.getElem_cons_zero, List.getElem_cons_succ, List.setIfInBounds_toArray, List.set_cons_zero, List.set_cons_succ]
        refine wpAnyH_take (i := 2) (v := .bool true) rfl (by kernel_rfl) (by kernel_rfl) (by kernel_rfl) (fun _ _ _ h => h) (Or.inl ⟨by rfl, ?hy76⟩) (by assumption) ?ty76
        case hy76 => (intro w hSw; (try dsimp only at hSw); go_simp; first | (simp; done) | (all_goals with_reducible rfl))
        simp only [Act.put, List.getElem_toArray, List.getElem_cons_zero, List.getElem_cons_succ, List.setIfInBounds_toArray, List.set_cons_zero, List.set_cons_succ]
        refine wpAnyH_take (i := 3) (v := ?_) rfl (by kernel_rfl) (by kernel_rfl) (by kernel_rfl) (fun _ _ _ h => h) (Or.inl ⟨by rfl, ?hy77⟩) (by assumption) ?ty77
        case hy77 => (intro w hSw; (try dsimp only at hSw); go_simp; all_goals with_reducible rfl)
        simp only [Act.put, List.getElem_toArray, List.getElem_cons_zero, List.getElem_cons_succ, List.setIfInBounds_toArray, List.set_cons_zero, List.set_cons_succ]
        refine wpAnyH_take (i := 4) (v := ?_) rfl (by kernel_rfl) (by kernel_rfl) (by kernel_rfl) (fun _ _ _ h => h) (Or.inl ⟨by rfl, ?hy78⟩) (by assumption) ?ty78
        case hy78 => (intro w hSw; (try dsimp only at hSw); go_simp; all_goals with_reducible rfl)
        simp only [Act.put, List.getElem_toArray, List.getElem_cons_zero, List.getElem_cons_succ, List.setIfInBounds_toArray, List.set_cons_zero, List.set_cons_succ]
        refine wpAnyH_take (i := 5) (v := ?_) rfl (by kernel_rfl) (by kernel_rfl) (by kernel_rfl) (fun _ _ _ h => h) (Or.inl ⟨by rfl, ?hy79⟩) (by assumption) ?ty79
        case hy79 => (intro w hSw; (try dsimp only at hSw); go_simp; all_goals with_reducible rfl)
        simp only [Act.put, List.getElem_toArray, List.getElem_cons_zero, List.getElem_cons_succ, List.setIfInBounds_toArray, List.set_cons_zero, List.set_cons_succ]
        refine wpAnyH_take (i := 6) (v := ?_) rfl (by kernel_rfl) (by kernel_rfl) (by kernel_rfl) (fun _ _ _ h => h) (Or.inl ⟨by rfl, ?hy80⟩) (by assumption) ?ty80
        case hy80 => (intro w hSw; (try dsimp only at hSw); go_simp; all_goals with_reducible rfl)
        simp only [Act.put, List.getElem_toArray, List.getElem_cons_zero, List.getElem_cons_succ, List.setIfInBounds_toArray, List.set_cons_zero, List.set_cons_succ]
        refine wpAnyH_take (i := 7) (v := ?_) rfl (by kernel_rfl) (by kernel_rfl) (by kernel_rfl) (fun _ _ _ h => h) (Or.inl ⟨by rfl, ?hy81⟩) (by assumption) ?ty81
        case hy81 => (intro w hSw; (try dsimp only at hSw); go_simp; all_goals with_reducible rfl)
        simp only [Act.put, List.getElem_toArray, List.getElem_cons_zero, List.getElem_cons_succ, List.setIfInBounds_toArray, List.set_cons_zero, List.set_cons_succ]
        refine wpAnyH_take (i := 8) (v := .int .i64 bv) rfl (by kernel_rfl) (by kernel_rfl) (by kernel_rfl) (fun _ _ _ h => h) (Or.inl ⟨by rfl, ?hy82⟩) (by assumption) ?ty82
        case hy82 => (intro w hSw; (try dsimp only at hSw); go_simp; first | (rw [hnegv]; done) | (simp [hnegv]; done) | (all_goals with_reducible rfl))
        simp only [Act.put, List.getElem_toArray, List.getElem_cons_zero, List.getElem_cons_succ, List.setIfInBounds_toArray, List.set_cons_zero, List.set_cons_succ]
        refine wpAnyH_take (i := 9) (v := .bool true) rfl (by kernel_rfl) (by kernel_rfl) (by kernel_rfl) (fun _ _ _ h => h) (Or.inl ⟨by rfl, ?hy83⟩) (by assumption) ?ty83
        case hy83 => (intro w hSw; (try dsimp only at hSw); go_simp; first | (simp; done) | (all_goals with_reducible rfl))
        simp only [Act.put, List.getElem_toArray, List.getElem_cons_zero, List.getElem_cons_succ, List.setIfInBounds_toArray, List.set_cons_zero, List.set_cons_succ]
        refine wpAnyH_take (i := 10) (v := ?_) rfl (by kernel_rfl) (by kernel_rfl) (by kernel_rfl) (fun _ _ _ h => h) (Or.inl ⟨by rfl, ?hy84⟩) (by assumption) ?ty84
        case hy84 => (intro w hSw; (try dsimp only at hSw); go_simp; all_goals with_reducible rfl)
        simp only [Act.put, List.getElem_toArray, List.getElem_cons_zero, List.getElem_cons_succ, List.setIfInBounds_toArray, List.set_cons_zero, List.set_cons_succ]
        refine wpAnyH_take (i := 11) (v := ?_) rfl (by kernel_rfl) (by kernel_rfl) (by kernel_rfl) (fun _ _ _ h => h) (Or.inl ⟨by rfl, ?hy85⟩) (by assumption) ?ty85
        case hy85 => (intro w hSw; (try dsimp only at hSw); go_simp; all_goals with_reducible rfl)
        simp only [Act.put, List.getElem_toArray, List.getElem_cons_zero, List.getElem_cons_succ, List.setIfInBounds_toArray, List.set_cons_zero, List.set_cons_succ]
        refine wpAnyH_take (i := 12) (v := ?_) rfl (by kernel_rfl) (by kernel_rfl) (by kernel_rfl) (fun _ _ _ h => h) (Or.inl ⟨by rfl, ?hy86⟩) (by assumption) ?ty86
        case hy86 => (intro w hSw; (try dsimp only at hSw); go_simp; all_goals with_reducible rfl)
        simp only [Act.put, List.getElem_toArray, List.getElem_cons_zero, List.getElem_cons_succ, List.setIfInBounds_toArray, List.set_cons_zero, List.set_cons_succ]
        refine wpAnyH_take (i := 13) (v := ?_) rfl (by kernel_rfl) (by kernel_rfl) (by kernel_rfl) (fun _ _ _ h => h) (Or.inl ⟨by rfl, ?hy87⟩) (by assumption) ?ty87
        case hy87 => (intro w hSw; (try dsimp only at hSw); go_simp; all_goals with_reducible rfl)
        simp only [Act.put, List.getElem_toArray, List.getElem_cons_zero, List.getElem_cons_succ, List.setIfInBounds_toArray, List.set_cons_zero, List.set_cons_succ]
        refine wpAnyH_take (i := 14) (v := .bool (rv == 0)) rfl (by kernel_rfl) (by kernel_rfl) (by kernel_rfl) (fun _ _ _ h => h) (Or.inl ⟨by rfl, ?hy88⟩) (by assumption) ?ty88
        case hy88 => (intro w hSw; (try dsimp only at hSw); go_simp; first | (simp; done) | (all_goals with_reducible rfl))
        simp only [Act.put, List.getElem_toArray, List.getElem_cons_zero, List.getElem_cons_succ, List.setIfInBounds_toArray, List.set_cons_zero, List.set_cons_succ]
        refine wpAnyH_take (i := 15) (v := ?_) rfl (by kernel_rfl) (by kernel_rfl) (by kernel_rfl) (fun _ _ _ h => h) (Or.inl ⟨by rfl, ?hy89⟩) (by assumption) ?ty89
        case hy89 => (intro w hSw; (try dsimp only at hSw); go_simp; all_goals with_reducible rfl)
        simp only [Act.put, List.getElem_toArray, List.getElem_cons_zero, List.getElem_cons_succ, List.setIfInBounds_toArray, List.set_cons_zero, List.set_cons_succ]
        refine wpAnyH_take (i := 16) (v := .bool true) rfl (by kernel_rfl) (by kernel_rfl) (by kernel_rfl) (fun _ _ _ h => h) (Or.inl ⟨by rfl, ?hy90⟩) (by assumption) ?ty90
        case hy90 => (intro w hSw; (try dsimp only at hSw); go_simp; first | (simp; done) | (all_goals with_reducible rfl))
        simp only [Act.put, List.getElem_toArray, List.getElem_cons_zero, List.getElem_cons_succ, List.setIfInBounds_toArray, List.set_cons_zero, List.set_cons_succ]
        refine wpAnyH_take (i := 17) (v := ?_) rfl (by kernel_rfl) (by kernel_rfl) (by kernel_rfl) (fun _ _ _ h => h) (Or.inl ⟨by rfl, ?hy91⟩) (by assumption) ?ty91
        case hy91 => (intro w hSw; (try dsimp only at hSw); go_simp; all_goals with_reducible rfl)
        simp only [Act.put, List.getElem_toArray, List.getElem_cons_zero, List.getElem_cons_succ, List.setIfInBounds_toArray, List.set_cons_zero, List.set_cons_succ]
        refine wpAnyH_take (i := 18) (v := ?_) rfl (by kernel_rfl) (by kernel_rfl) (by kernel_rfl) (fun _ _ _ h => h) (Or.inl ⟨by rfl, ?hy92⟩) (by assumption) ?ty92
        case hy92 => (intro w hSw; (try dsimp only at hSw); go_simp; all_goals with_reducible rfl)
        simp only [Act.put, List.getElem_toArray, List.getElem_cons_zero, List.getElem_cons_succ, List.setIfInBounds_toArray, List.set_cons_zero, List.set_cons_succ]
        refine wpAnyH_take (i := 19) (v := ?_) rfl (by kernel_rfl) (by kernel_rfl) (by kernel_rfl) (fun _ _ _ h => h) (Or.inl ⟨by rfl, ?hy93⟩) (by assumption) ?ty93
        case hy93 => (intro w hSw; (try dsimp only at hSw); go_simp; all_goals with_reducible rfl)
        simp only [Act.put, List.getElem_toArray, List.getElem_cons_zero, List.getElem_cons_succ, List.setIfInBounds_toArray, List.set_cons_zero, List.set_cons_succ]
        refine wpAnyH_take (i := 20) (v := ?_) rfl (by kernel_rfl) (by kernel_rfl) (by kernel_rfl) (fun _ _ _ h => h) (Or.inl ⟨by rfl, ?hy94⟩) (by assumption) ?ty94
        case hy94 => (intro w hSw; (try dsimp only at hSw); go_simp; all_goals with_reducible rfl)
        simp only [Act.put, List.getElem_toArray, List.getElem_cons_zero, List.getElem_cons_succ, List.setIfInBounds_toArray, List.set_cons_zero, List.set_cons_succ]
        refine wpAnyH_take (i := 21) (v := ?_) rfl (by kernel_rfl) (by kernel_rfl) (by kernel_rfl) (fun _ _ _ h => h) (Or.inl ⟨by rfl, ?hy95⟩) (by assumption) ?ty95
        case hy95 => (intro w hSw; (try dsimp only at hSw); go_simp; all_goals with_reducible rfl)
        simp only [Act.put, List.getElem_toArray, List.getElem_cons_zero, List.getElem_cons_succ, List.setIfInBounds_toArray, List.set_cons_zero, List.set_cons_succ]
        refine wpAnyH_ready (rs := [22]) (by kernel_rfl) (by simp) ?_
        refine AllReadyH.cons rfl (fun K hK => ?_) AllReadyH.nil
        go_simp
        refine (HAA'.out _ (by exact hs9)).mono ?_
        rintro e u4 ⟨rfl, hbx⟩
        simp only
        have HW_u4 : Hid (Below u3.heap.size u3 u4) := (Below.refl _ _).drew.trans hbx
        have hsS : u4.cell? ⟨g6, 1, none⟩ = some (.int .i64 rv) ∧ u4.cell? ⟨g7, 0, none⟩ = some (.int .i64 0) ∧ u4.cell? ⟨g7, 1, none⟩ = some (.int .i64 bv) := ⟨(HW_u4.out.cell (p := ⟨g6, 1, none⟩) m6).trans j1, (HW_u4.out.cell (p := ⟨g7, 0, none⟩) m7).trans i0, (HW_u4.out.cell (p := ⟨g7, 1, none⟩) m7).trans i1⟩
        refine hK.out _ _ hsS (fun hHeld => ?_)
        clear hK K
        clear hsS hbx
        refine wpAnyH_take (i := 23) (v := ?_) rfl (by kernel_rfl) (by kernel_rfl) (by kernel_rfl) (fun _ _ _ h => h) (Or.inl ⟨by rfl, ?hy96⟩) (by assumption) ?ty96
        case hy96 => (intro w hSw; (try dsimp only at hSw); go_simp; all_goals with_reducible rfl)
        simp only [Act.put, List.getElem_toArray, List.getElem_cons_zero, List.getElem_cons_succ, List.setIfInBounds_toArray, List.set_cons_zero, List.set_cons_succ]
        refine wpAnyH_take (i := 24) (v := .bool true) rfl (by kernel_rfl) (by kernel_rfl) (by kernel_rfl) (fun _ _ _ h => h) (Or.inl ⟨by rfl, ?hy97⟩) (by assumption) ?ty97
        case hy97 => (intro w hSw; (try dsimp only at hSw); go_simp; first | (simp; done) | (all_goals with_reducible rfl))
        simp only [Act.put, List.getElem_toArray, List.getElem_cons_zero, List.getElem_cons_succ, List.setIfInBounds_toArray, List.set_cons_zero, List.set_cons_succ]
        refine wpAnyH_take (i := 25) (v := ?_) rfl (by kernel_rfl) (by kernel_rfl) (by kernel_rfl) (fun _ _ _ h => h) (Or.inl ⟨by rfl, ?hy98⟩) (by assumption) ?ty98
        case hy98 => (intro w hSw; (try dsimp only at hSw); go_simp; all_goals with_reducible rfl)
        simp only [Act.put, List.getElem_toArray, List.getElem_cons_zero, List.getElem_cons_succ, List.setIfInBounds_toArray, List.set_cons_zero, List.set_cons_succ]
        refine wpAnyH_take (i := 26) (v := ?_) rfl (by kernel_rfl) (by kernel_rfl) (by kernel_rfl) (fun _ _ _ h => h) (Or.inl ⟨by rfl, ?hy99⟩) (by assumption) ?ty99
        case hy99 => (intro w hSw; (try dsimp only at hSw); go_simp; all_goals with_reducible rfl)
        simp only [Act.put, List.getElem_toArray, List.getElem_cons_zero, List.getElem_cons_succ, List.setIfInBounds_toArray, List.set_cons_zero, List.set_cons_succ]
        refine wpAnyH_take (i := 27) (v := ?_) rfl (by kernel_rfl) (by kernel_rfl) (by kernel_rfl) (fun _ _ _ h => h) (Or.inl ⟨by rfl, ?hy100⟩) (by assumption) ?ty100
        case hy100 => (intro w hSw; (try dsimp only at hSw); go_simp; all_goals with_reducible rfl)
        simp only [Act.put, List.getElem_toArray, List.getElem_cons_zero, List.getElem_cons_succ, List.setIfInBounds_toArray, List.set_cons_zero, List.set_cons_succ]
        refine wpAnyH_take (i := 28) (v := ?_) rfl (by kernel_rfl) (by kernel_rfl) (by kernel_rfl) (fun _ _ _ h => h) (Or.inl ⟨by rfl, ?hy101⟩) (by assumption) ?ty101
        case hy101 => (intro w hSw; (try dsimp only at hSw); go_simp; all_goals with_reducible rfl)
        simp only [Act.put, List.getElem_toArray, List.getElem_cons_zero, List.getElem_cons_succ, List.setIfInBounds_toArray, List.set_cons_zero, List.set_cons_succ]
        refine wpAnyH_take (i := 29) (v := ?_) rfl (by kernel_rfl) (by kernel_rfl) (by kernel_rfl) (fun _ _ _ h => h) (Or.inl ⟨by rfl, ?hy102⟩) (by assumption) ?ty102
        case hy102 => (intro w hSw; (try dsimp only at hSw); go_simp; all_goals with_reducible rfl)
        simp only [Act.put, List.getElem_toArray, List.getElem_cons_zero, List.getElem_cons_succ, List.setIfInBounds_toArray, List.set_cons_zero, List.set_cons_succ]
        refine wpAnyH_take (i := 30) (v := ?_) rfl (by kernel_rfl) (by kernel_rfl) (by kernel_rfl) (fun _ _ _ h => h) (Or.inl ⟨by rfl, ?hy103⟩) (by assumption) ?ty103
        case hy103 => (intro w hSw; (try dsimp only at hSw); go_simp; all_goals with_reducible rfl)
        simp only [Act.put, List.getElem_toArray, List.getElem_cons_zero, List.getElem_cons_succ, List.setIfInBounds_toArray, List.set_cons_zero, List.set_cons_succ]
        refine wpAnyH_take (i := 31) (v := ?_) rfl (by kernel_rfl) (by kernel_rfl) (by kernel_rfl) (fun _ _ _ h => h) (Or.inl ⟨by rfl, ?hy104⟩) (by assumption) ?ty104
        case hy104 => (intro w hSw; (try dsimp only at hSw); go_simp; all_goals with_reducible rfl)
        simp only [Act.put, List.getElem_toArray, List.getElem_cons_zero, List.getElem_cons_succ, List.setIfInBounds_toArray, List.set_cons_zero, List.set_cons_succ]
        refine wpAnyH_ready (rs := [32]) (by kernel_rfl) (by simp) ?_
        refine AllReadyH.cons rfl (fun K hK => ?_) AllReadyH.nil
        go_simp
        refine (HS'.out _ (by exact hs9.below HW_u4.out) (by exact ht9.below HW_u4.out)).mono ?_
        rintro e u5 ⟨rfl, hbx⟩
        simp only
        have HW_u5 : Hid (Below u3.heap.size u3 u5) := HW_u4.out.trans (hbx.mono HW_u4.out.size)
        have hsS : u5.cell? ⟨g6, 1, none⟩ = some (.int .i64 rv) ∧ u5.cell? ⟨g7, 0, none⟩ = some (.int .i64 0) ∧ u5.cell? ⟨g7, 1, none⟩ = some (.int .i64 bv) := ⟨(HW_u5.out.cell (p := ⟨g6, 1, none⟩) m6).trans j1, (HW_u5.out.cell (p := ⟨g7, 0, none⟩) m7).trans i0, (HW_u5.out.cell (p := ⟨g7, 1, none⟩) m7).trans i1⟩
        refine hK.out _ _ hsS (fun hHeld => ?_)
        clear hK K
        clear hsS hbx
        refine wpAnyH_take (i := 33) (v := ?_) rfl (by kernel_rfl) (by kernel_rfl) (by kernel_rfl) (fun _ _ _ h => h) (Or.inl ⟨by rfl, ?hy105⟩) (by assumption) ?ty105
        case hy105 => (intro w hSw; (try dsimp only at hSw); go_simp; all_goals with_reducible rfl)
        simp only [Act.put, List.getElem_toArray, List.getElem_cons_zero, List.getElem_cons_succ, List.setIfInBounds_toArray, List.set_cons_zero, List.set_cons_succ]
        refine wpAnyH_take (i := 34) (v := .bool true) rfl (by kernel_rfl) (by kernel_rfl) (by kernel_rfl) (fun _ _ _ h => h) (Or.inl ⟨by rfl, ?hy106⟩) (by assumption) ?ty106
        case hy106 => (intro w hSw; (try dsimp only at hSw); go_simp; first | (simp; done) | (all_goals with_reducible rfl))
        simp only [Act.put, List.getElem_toArray, List.getElem_cons_zero, List.getElem_cons_succ, List.setIfInBounds_toArray, List.set_cons_zero, List.set_cons_succ]
        refine wpAnyH_take (i := 35) (v := ?_) rfl (by kernel_rfl) (by kernel_rfl) (by kernel_rfl) (fun _ _ _ h => h) (Or.inl ⟨by rfl, ?hy107⟩) (by assumption) ?ty107
        case hy107 => (intro w hSw; (try dsimp only at hSw); go_simp; all_goals with_reducible rfl)
        simp only [Act.put, List.getElem_toArray, List.getElem_cons_zero, List.getElem_cons_succ, List.setIfInBounds_toArray, List.set_cons_zero, List.set_cons_succ]
        refine wpAnyH_take (i := 36) (v := ?_) rfl (by kernel_rfl) (by kernel_rfl) (by kernel_rfl) (fun _ _ _ h => h) (Or.inl ⟨by rfl, ?hy108⟩) (by assumption) ?ty108
        case hy108 => (intro w hSw; (try dsimp only at hSw); go_simp; all_goals with_reducible rfl)
        simp only [Act.put, List.getElem_toArray, List.getElem_cons_zero, List.getElem_cons_succ, List.setIfInBounds_toArray, List.set_cons_zero, List.set_cons_succ]
        refine wpAnyH_done (by kernel_rfl) ?_ _
        have HF : Hid (Below w.heap.size w u5) := HB9.out.trans (HW_u5.out.mono HB9.out.size)
        clear hHeld HW_u4 HW_u5 HS' HAA' HB9
        go_wp2
        go_ret
        exact ⟨rfl, HF.out⟩
      · clear hcase
        go_wp2_with fail
        clear J0 J1 I0 I1 X0 X1
        generalize w6.alloc (.cells #[.int .i64 yc, .int .i64 yv] 42) = W6 at *
        generalize w6.heap.size = g12 at *
        refine (HMA'.out _ hs6.out).mono ?_
        rintro e u1 ⟨v7, rfl, ho7, hb7⟩
        simp only at ho7 ⊢
        obtain ⟨b7, c7, hv, -, -⟩ := ho7.form
        rw [HAl.out] at hv
        rw [hv] at ho7 ⊢
        clear hv
        have ht7 := RdI.below ht6.out hb7
        go_wp2_with fail
        refine (HMB'.out _ ht7).mono ?_
        rintro e u2 ⟨v8, rfl, ho8, hb8⟩
        simp only at ho8 ⊢
        obtain ⟨b8, c8, hv, -, -⟩ := ho8.form
        rw [HBl.out] at hv
        rw [hv] at ho8 ⊢
        clear hv
        have hr7 := ho7.rd.2.below hb8
        have hr8 := ho8.rd.2
        go_wp2_with fail
        refine (HN'.out _ _ _ _ _ hr7 hr8).mono ?_
        rintro e u3 ⟨rfl, hb9⟩
        have HW3 : Hid (Below W6.heap.size W6 u3) := (hb7.trans (hb8.mono hb7.size)).trans (hb9.mono (by have := hb7.size; have := hb8.size; omega))
        have hs9 := RdI.below hs6.out HW3.out
        have ht9 := RdI.below ht6.out HW3.out
        have j1 := (HW3.out.cell (p := ⟨g6, 1, none⟩) (by simp; omega)).trans JJ.out.1
        have i0 := (HW3.out.cell (p := ⟨g7, 0, none⟩) (by simp; omega)).trans JJ.out.2.1
        have i1 := (HW3.out.cell (p := ⟨g7, 1, none⟩) (by simp; omega)).trans JJ.out.2.2
        have HB9 : Hid (Below w.heap.size w u3) := HB6.out.trans (HW3.out.mono HB6.out.size)
        have m6 : g6 < u3.heap.size := by have := HW3.out.size; omega
        have m7 : g7 < u3.heap.size := by have := HW3.out.size; omega
        clear ho7 ho8 hb7 hb8 hb9 ht7 hr7 hr8 HMA' HMB' HN' JJ hs6 ht6 HB6 HW3
        go_wp2_with fail
        refine wp_region_held_drew (S := fun w' => w'.cell? ⟨g6, 1, none⟩ = some (.int .i64 rv) ∧ w'.cell? ⟨g7, 0, none⟩ = some (.int .i64 0) ∧ w'.cell? ⟨g7, 1, none⟩ = some (.int .i64 bv)) (by kernel_rfl) ?hS109 (fun hHeld => ?_)
        case hS109 => exact ⟨j1, i0, i1⟩
        refine wpAnyH_take (i := 0) (v := ?_) rfl (by kernel_rfl) (by kernel_rfl) (by kernel_rfl) (fun _ _ _ h => h) (Or.inl ⟨by rfl, ?hy110⟩) (by assumption) ?ty110
        case hy110 => (intro w hSw; (try dsimp only at hSw); go_simp; all_goals with_reducible rfl)
        simp only [Act.put, List.getElem_toArray, List.getElem_cons_zero, List.setIfInBounds_toArray, List.set_cons_zero, List.set_cons_succ]
        refine wpAnyH_take (i := 1) (v := ?_) rfl (by kernel_rfl) (by kernel_rfl) (by kernel_rfl) (fun _ _ _ h => h) (Or.inl ⟨by rfl, ?hy111⟩) (by assumption) ?ty111
        case hy111 => (intro w hSw; (try dsimp only at hSw); go_simp; all_goals with_reducible rfl)
        simp only [Act.put, List.getElem_toArray, List.getElem_cons_zero, List.getElem_cons_succ, List.setIfInBounds_toArray, List.set_cons_zero, List.set_cons_succ]
        refine wpAnyH_take (i := 2) (v := .bool true) rfl (by kernel_rfl) (by kernel_rfl) (by kernel_rfl) (fun _ _ _ h => h) (Or.inl ⟨by rfl, ?hy112⟩) (by assumption) ?ty112
        case hy112 => (intro w hSw; (try dsimp only at hSw); go_simp; first | (simp; done) | (all_goals with_reducible rfl))
        simp only [Act.put, List.getElem_toArray, List.getElem_cons_zero, List.getElem_cons_succ, List.setIfInBounds_toArray, List.set_cons_zero, List.set_cons_succ]
        refine wpAnyH_take (i := 3) (v := ?_) rfl (by kernel_rfl) (by kernel_rfl) (by kernel_rfl) (fun _ _ _ h => h) (Or.inl ⟨by rfl, ?hy113⟩) (by assumption) ?ty113
        case hy113 => (intro w hSw; (try dsimp only at hSw); go_simp; all_goals with_reducible rfl)
        simp only [Act.put, List.getElem_toArray, List.getElem_cons_zero, List.getElem_cons_succ, List.setIfInBounds_toArray, List.set_cons_zero, List.set_cons_succ]
        refine wpAnyH_take (i := 4) (v := ?_) rfl (by kernel_rfl) (by kernel_rfl) (by kernel_rfl) (fun _ _ _ h => h) (Or.inl ⟨by rfl, ?hy114⟩) (by assumption) ?ty114
        case hy114 => (intro w hSw; (try dsimp only at hSw); go_simp; all_goals with_reducible rfl)
        simp only [Act.put, List.getElem_toArray, List.getElem_cons_zero, List.getElem_cons_succ, List.setIfInBounds_toArray, List.set_cons_zero, List.set_cons_succ]
        refine wpAnyH_take (i := 5) (v := ?_) rfl (by kernel_rfl) (by kernel_rfl) (by kernel_rfl) (fun _ _ _ h => h) (Or.inl ⟨by rfl, ?hy115⟩) (by assumption) ?ty115
        case hy115 => (intro w hSw; (try dsimp only at hSw); go_simp; all_goals with_reducible rfl)
        simp only [Act.put, List.getElem_toArray, List.getElem_cons_zero, List.getElem_cons_succ, List.setIfInBounds_toArray, List.set_cons_zero, List.set_cons_succ]
        refine wpAnyH_take (i := 6) (v := ?_) rfl (by kernel_rfl) (by kernel_rfl) (by kernel_rfl) (fun _ _ _ h => h) (Or.inl ⟨by rfl, ?hy116⟩) (by assumption) ?ty116
        case hy116 => (intro w hSw; (try dsimp only at hSw); go_simp; all_goals with_reducible rfl)
        simp only [Act.put, List.getElem_toArray, List.getElem_cons_zero, List.getElem_cons_succ, List.setIfInBounds_toArray, List.set_cons_zero, List.set_cons_succ]
        refine wpAnyH_take (i := 7) (v := ?_) rfl (by kernel_rfl) (by kernel_rfl) (by kernel_rfl) (fun _ _ _ h => h) (Or.inl ⟨by rfl, ?hy117⟩) (by assumption) ?ty117
        case hy117 => (intro w hSw; (try dsimp only at hSw); go_simp; all_goals with_reducible rfl)
        simp only [Act.put, List.getElem_toArray, List.getElem_cons_zero, List.getElem_cons_succ, List.setIfInBounds_toArray, List.set_cons_zero, List.set_cons_succ]
        refine wpAnyH_take (i := 8) (v := .int .i64 bv) rfl (by kernel_rfl) (by kernel_rfl) (by kernel_rfl) (fun _ _ _ h => h) (Or.inl ⟨by rfl, ?hy118⟩) (by assumption) ?ty118
        case hy118 => (intro w hSw; (try dsimp only at hSw); go_simp; first | (rw [hnegv]; done) | (simp [hnegv]; done) | (all_goals with_reducible rfl))
        simp only [Act.put, List.getElem_toArray, List.getElem_cons_zero, List.getElem_cons_succ, List.setIfInBounds_toArray, List.set_cons_zero, List.set_cons_succ]
        refine wpAnyH_take (i := 9) (v := .bool true) rfl (by kernel_rfl) (by kernel_rfl) (by kernel_rfl) (fun _ _ _ h => h) (Or.inl ⟨by rfl, ?hy119⟩) (by assumption) ?ty119
        case hy119 => (intro w hSw; (try dsimp only at hSw); go_simp; first | (simp; done) | (all_goals with_reducible rfl))
        simp only [Act.put, List.getElem_toArray, List.getElem_cons_zero, List.getElem_cons_succ, List.setIfInBounds_toArray, List.set_cons_zero, List.set_cons_succ]
        refine wpAnyH_take (i := 10) (v := ?_) rfl (by kernel_rfl) (by kernel_rfl) (by kernel_rfl) (fun _ _ _ h => h) (Or.inl ⟨by rfl, ?hy120⟩) (by assumption) ?ty120
        case hy120 => (intro w hSw; (try dsimp only at hSw); go_simp; all_goals with_reducible rfl)
        simp only [Act.put, List.getElem_toArray, List.getElem_cons_zero, List.getElem_cons_succ, List.setIfInBounds_toArray, List.set_cons_zero, List.set_cons_succ]
        refine wpAnyH_take (i := 11) (v := ?_) rfl (by kernel_rfl) (by kernel_rfl) (by kernel_rfl) (fun _ _ _ h => h) (Or.inl ⟨by rfl, ?hy121⟩) (by assumption) ?ty121
        case hy121 => (intro w hSw; (try dsimp only at hSw); go_simp; all_goals with_reducible rfl)
        simp only [Act.put, List.getElem_toArray, List.getElem_cons_zero, List.getElem_cons_succ, List.setIfInBounds_toArray, List.set_cons_zero, List.set_cons_succ]
        refine wpAnyH_take (i := 12) (v := ?_) rfl (by kernel_rfl) (by kernel_rfl) (by kernel_rfl) (fun _ _ _ h => h) (Or.inl ⟨by rfl, ?hy122⟩) (by assumption) ?ty122
        case hy122 => (intro w hSw; (try dsimp only at hSw); go_simp; all_goals with_reducible rfl)
        simp only [Act.put, List.getElem_toArray, List.getElem_cons_zero, List.getElem_cons_succ, List.setIfInBounds_toArray, List.set_cons_zero, List.set_cons_succ]
        refine wpAnyH_take (i := 13) (v := ?_) rfl (by kernel_rfl) (by kernel_rfl) (by kernel_rfl) (fun _ _ _ h => h) (Or.inl ⟨by rfl, ?hy123⟩) (by assumption) ?ty123
        case hy123 => (intro w hSw; (try dsimp only at hSw); go_simp; all_goals with_reducible rfl)
        simp only [Act.put, List.getElem_toArray, List.getElem_cons_zero, List.getElem_cons_succ, List.setIfInBounds_toArray, List.set_cons_zero, List.set_cons_succ]
        refine wpAnyH_take (i := 14) (v := .bool (rv == 0)) rfl (by kernel_rfl) (by kernel_rfl) (by kernel_rfl) (fun _ _ _ h => h) (Or.inl ⟨by rfl, ?hy124⟩) (by assumption) ?ty124
        case hy124 => (intro w hSw; (try dsimp only at hSw); go_simp; first | (simp; done) | (all_goals with_reducible rfl))
        simp only [Act.put, List.getElem_toArray, List.getElem_cons_zero, List.getElem_cons_succ, List.setIfInBounds_toArray, List.set_cons_zero, List.set_cons_succ]
        refine wpAnyH_take (i := 15) (v := ?_) rfl (by kernel_rfl) (by kernel_rfl) (by kernel_rfl) (fun _ _ _ h => h) (Or.inl ⟨by rfl, ?hy125⟩) (by assumption) ?ty125
        case hy125 => (intro w hSw; (try dsimp only at hSw); go_simp; all_goals with_reducible rfl)
        simp only [Act.put, List.getElem_toArray, List.getElem_cons_zero, List.getElem_cons_succ, List.setIfInBounds_toArray, List.set_cons_zero, List.set_cons_succ]
        refine wpAnyH_take (i := 16) (v := .bool true) rfl (by kernel_rfl) (by kernel_rfl) (by kernel_rfl) (fun _ _ _ h => h) (Or.inl ⟨by rfl, ?hy126⟩) (by assumption) ?ty126
        case hy126 => (intro w hSw; (try dsimp only at hSw); go_simp; first | (simp; done) | (all_goals with_reducible rfl))
        simp only [Act.put, List.getElem_toArray, List.getElem_cons_zero, List.getElem_cons_succ, List.setIfInBounds_toArray, List.set_cons_zero, List.set_cons_succ]
        refine wpAnyH_take (i := 17) (v := ?_) rfl (by kernel_rfl) (by kernel_rfl) (by kernel_rfl) (fun _ _ _ h => h) (Or.inl ⟨by rfl, ?hy127⟩) (by assumption) ?ty127
        case hy127 => (intro w hSw; (try dsimp only at hSw); go_simp; all_goals with_reducible rfl)
        simp only [Act.put, List.getElem_toArray, List.getElem_cons_zero, List.getElem_cons_succ, List.setIfInBounds_toArray, List.set_cons_zero, List.set_cons_succ]
        refine wpAnyH_take (i := 18) (v := ?_) rfl (by kernel_rfl) (by kernel_rfl) (by kernel_rfl) (fun _ _ _ h => h) (Or.inl ⟨by rfl, ?hy128⟩) (by assumption) ?ty128
        case hy128 => (intro w hSw; (try dsimp only at hSw); go_simp; all_goals with_reducible rfl)
        simp only [Act.put, List.getElem_toArray, List.getElem_cons_zero, List.getElem_cons_succ, List.setIfInBounds_toArray, List.set_cons_zero, List.set_cons_succ]
        refine wpAnyH_take (i := 19) (v := ?_) rfl (by kernel_rfl) (by kernel_rfl) (by kernel_rfl) (fun _ _ _ h => h) (Or.inl ⟨by rfl, ?hy129⟩) (by assumption) ?ty129
        case hy129 => (intro w hSw; (try dsimp only at hSw); go_simp; all_goals with_reducible rfl)
        simp only [Act.put, List.getElem_toArray, List.getElem_cons_zero, List.getElem_cons_succ, List.setIfInBounds_toArray, List.set_cons_zero, List.set_cons_succ]
        refine wpAnyH_take (i := 20) (v := ?_) rfl (by kernel_rfl) (by kernel_rfl) (by kernel_rfl) (fun _ _ _ h => h) (Or.inl ⟨by rfl, ?hy130⟩) (by assumption) ?ty130
        case hy130 => (intro w hSw; (try dsimp only at hSw); go_simp; all_goals with_reducible rfl)
        simp only [Act.put, List.getElem_toArray, List.getElem_cons_zero, List.getElem_cons_succ, List.setIfInBounds_toArray, List.set_cons_zero, List.set_cons_succ]
        refine wpAnyH_take (i := 21) (v := ?_) rfl (by kernel_rfl) (by kernel_rfl) (by kernel_rfl) (fun _ _ _ h => h) (Or.inl ⟨by rfl, ?hy131⟩) (by assumption) ?ty131
        case hy131 => (intro w hSw; (try dsimp only at hSw); go_simp; all_goals with_reducible rfl)
        simp only [Act.put, List.getElem_toArray, List.getElem_cons_zero, List.getElem_cons_succ, List.setIfInBounds_toArray, List.set_cons_zero, List.set_cons_succ]
        refine wpAnyH_ready (rs := [22]) (by kernel_rfl) (by simp) ?_
        refine AllReadyH.cons rfl (fun K hK => ?_) AllReadyH.nil
        go_simp
        refine (HAA'.out _ (by exact hs9)).mono ?_
        rintro e u4 ⟨rfl, hbx⟩
        simp only
        have HW_u4 : Hid (Below u3.heap.size u3 u4) := (Below.refl _ _).drew.trans hbx
        have hsS : u4.cell? ⟨g6, 1, none⟩ = some (.int .i64 rv) ∧ u4.cell? ⟨g7, 0, none⟩ = some (.int .i64 0) ∧ u4.cell? ⟨g7, 1, none⟩ = some (.int .i64 bv) := ⟨(HW_u4.out.cell (p := ⟨g6, 1, none⟩) m6).trans j1, (HW_u4.out.cell (p := ⟨g7, 0, none⟩) m7).trans i0, (HW_u4.out.cell (p := ⟨g7, 1, none⟩) m7).trans i1⟩
        refine hK.out _ _ hsS (fun hHeld => ?_)
        clear hK K
        clear hsS hbx
        refine wpAnyH_take (i := 23) (v := ?_) rfl (by kernel_rfl) (by kernel_rfl) (by kernel_rfl) (fun _ _ _ h => h) (Or.inl ⟨by rfl, ?hy132⟩) (by assumption) ?ty132
        case hy132 => (intro w hSw; (try dsimp only at hSw); go_simp; all_goals with_reducible rfl)
        simp only [Act.put, List.getElem_toArray, List.getElem_cons_zero, List.getElem_cons_succ, List.setIfInBounds_toArray, List.set_cons_zero, List.set_cons_succ]
        refine wpAnyH_take (i := 24) (v := .bool true) rfl (by kernel_rfl) (by kernel_rfl) (by kernel_rfl) (fun _ _ _ h => h) (Or.inl ⟨by rfl, ?hy133⟩) (by assumption) ?ty133
        case hy133 => (intro w hSw; (try dsimp only at hSw); go_simp; first | (simp; done) | (all_goals with_reducible rfl))
        simp only [Act.put, List.getElem_toArray, List.getElem_cons_zero, List.getElem_cons_succ, List.setIfInBounds_toArray, List.set_cons_zero, List.set_cons_succ]
        refine wpAnyH_take (i := 25) (v := ?_) rfl (by kernel_rfl) (by kernel_rfl) (by kernel_rfl) (fun _ _ _ h => h) (Or.inl ⟨by rfl, ?hy134⟩) (by assumption) ?ty134
        case hy134 => (intro w hSw; (try dsimp only at hSw); go_simp; all_goals with_reducible rfl)
        simp only [Act.put, List.getElem_toArray, List.getElem_cons_zero, List.getElem_cons_succ, List.setIfInBounds_toArray, List.set_cons_zero, List.set_cons_succ]
        refine wpAnyH_take (i := 26) (v := ?_) rfl (by kernel_rfl) (by kernel_rfl) (by kernel_rfl) (fun _ _ _ h => h) (Or.inl ⟨by rfl, ?hy135⟩) (by assumption) ?ty135
        case hy135 => (intro w hSw; (try dsimp only at hSw); go_simp; all_goals with_reducible rfl)
        simp only [Act.put, List.getElem_toArray, List.getElem_cons_zero, List.getElem_cons_succ, List.setIfInBounds_toArray, List.set_cons_zero, List.set_cons_succ]
        refine wpAnyH_take (i := 27) (v := ?_) rfl (by kernel_rfl) (by kernel_rfl) (by kernel_rfl) (fun _ _ _ h => h) (Or.inl ⟨by rfl, ?hy136⟩) (by assumption) ?ty136
        case hy136 => (intro w hSw; (try dsimp only at hSw); go_simp; all_goals with_reducible rfl)
        simp only [Act.put, List.getElem_toArray, List.getElem_cons_zero, List.getElem_cons_succ, List.setIfInBounds_toArray, List.set_cons_zero, List.set_cons_succ]
        refine wpAnyH_take (i := 28) (v := ?_) rfl (by kernel_rfl) (by kernel_rfl) (by kernel_rfl) (fun _ _ _ h => h) (Or.inl ⟨by rfl, ?hy137⟩) (by assumption) ?ty137
        case hy137 => (intro w hSw; (try dsimp only at hSw); go_simp; all_goals with_reducible rfl)
        simp only [Act.put, List.getElem_toArray, List.getElem_cons_zero, List.getElem_cons_succ, List.setIfInBounds_toArray, List.set_cons_zero, List.set_cons_succ]
        refine wpAnyH_take (i := 29) (v := ?_) rfl (by kernel_rfl) (by kernel_rfl) (by kernel_rfl) (fun _ _ _ h => h) (Or.inl ⟨by rfl, ?hy138⟩) (by assumption) ?ty138
        case hy138 => (intro w hSw; (try dsimp only at hSw); go_simp; all_goals with_reducible rfl)
        simp only [Act.put, List.getElem_toArray, List.getElem_cons_zero, List.getElem_cons_succ, List.setIfInBounds_toArray, List.set_cons_zero, List.set_cons_succ]
        refine wpAnyH_take (i := 30) (v := ?_) rfl (by kernel_rfl) (by kernel_rfl) (by kernel_rfl) (fun _ _ _ h => h) (Or.inl ⟨by rfl, ?hy139⟩) (by assumption) ?ty139
        case hy139 => (intro w hSw; (try dsimp only at hSw); go_simp; all_goals with_reducible rfl)
        simp only [Act.put, List.getElem_toArray, List.getElem_cons_zero, List.getElem_cons_succ, List.setIfInBounds_toArray, List.set_cons_zero, List.set_cons_succ]
        refine wpAnyH_take (i := 31) (v := ?_) rfl (by kernel_rfl) (by kernel_rfl) (by kernel_rfl) (fun _ _ _ h => h) (Or.inl ⟨by rfl, ?hy140⟩) (by assumption) ?ty140
        case hy140 => (intro w hSw; (try dsimp only at hSw); go_simp; all_goals with_reducible rfl)
        simp only [Act.put, List.getElem_toArray, List.getElem_cons_zero, List.getElem_cons_succ, List.setIfInBounds_toArray, List.set_cons_zero, List.set_cons_succ]
        refine wpAnyH_ready (rs := [32]) (by kernel_rfl) (by simp) ?_
        refine AllReadyH.cons rfl (fun K hK => ?_) AllReadyH.nil
        go_simp
        refine (HS'.out _ (by exact hs9.below HW_u4.out) (by exact ht9.below HW_u4.out)).mono ?_
        rintro e u5 ⟨rfl, hbx⟩
        simp only
        have HW_u5 : Hid (Below u3.heap.size u3 u5) := HW_u4.out.trans (hbx.mono HW_u4.out.size)
        have hsS : u5.cell? ⟨g6, 1, none⟩ = some (.int .i64 rv) ∧ u5.cell? ⟨g7, 0, none⟩ = some (.int .i64 0) ∧ u5.cell? ⟨g7, 1, none⟩ = some (.int .i64 bv) := ⟨(HW_u5.out.cell (p := ⟨g6, 1, none⟩) m6).trans j1, (HW_u5.out.cell (p := ⟨g7, 0, none⟩) m7).trans i0, (HW_u5.out.cell (p := ⟨g7, 1, none⟩) m7).trans i1⟩
        refine hK.out _ _ hsS (fun hHeld => ?_)
        clear hK K
        clear hsS hbx
        refine wpAnyH_take (i := 33) (v := ?_) rfl (by kernel_rfl) (by kernel_rfl) (by kernel_rfl) (fun _ _ _ h => h) (Or.inl ⟨by rfl, ?hy141⟩) (by assumption) ?ty141
        case hy141 => (intro w hSw; (try dsimp only at hSw); go_simp; all_goals with_reducible rfl)
        simp only [Act.put, List.getElem_toArray, List.getElem_cons_zero, List.getElem_cons_succ, List.setIfInBounds_toArray, List.set_cons_zero, List.set_cons_succ]
        refine wpAnyH_take (i := 34) (v := .bool true) rfl (by kernel_rfl) (by kernel_rfl) (by kernel_rfl) (fun _ _ _ h => h) (Or.inl ⟨by rfl, ?hy142⟩) (by assumption) ?ty142
        case hy142 => (intro w hSw; (try dsimp only at hSw); go_simp; first | (simp; done) | (all_goals with_reducible rfl))
        simp only [Act.put, List.getElem_toArray, List.getElem_cons_zero, List.getElem_cons_succ, List.setIfInBounds_toArray, List.set_cons_zero, List.set_cons_succ]
        refine wpAnyH_take (i := 35) (v := ?_) rfl (by kernel_rfl) (by kernel_rfl) (by kernel_rfl) (fun _ _ _ h => h) (Or.inl ⟨by rfl, ?hy143⟩) (by assumption) ?ty143
        case hy143 => (intro w hSw; (try dsimp only at hSw); go_simp; all_goals with_reducible rfl)
        simp only [Act.put, List.getElem_toArray, List.getElem_cons_zero, List.getElem_cons_succ, List.setIfInBounds_toArray, List.set_cons_zero, List.set_cons_succ]
        refine wpAnyH_take (i := 36) (v := ?_) rfl (by kernel_rfl) (by kernel_rfl) (by kernel_rfl) (fun _ _ _ h => h) (Or.inl ⟨by rfl, ?hy144⟩) (by assumption) ?ty144
        case hy144 => (intro w hSw; (try dsimp only at hSw); go_simp; all_goals with_reducible rfl)
        simp only [Act.put, List.getElem_toArray, List.getElem_cons_zero, List.getElem_cons_succ, List.setIfInBounds_toArray, List.set_cons_zero, List.set_cons_succ]
        refine wpAnyH_done (by kernel_rfl) ?_ _
        have HF : Hid (Below w.heap.size w u5) := HB9.out.trans (HW_u5.out.mono HB9.out.size)
        clear hHeld HW_u4 HW_u5 HS' HAA' HB9
        go_wp2
        go_ret
        exact ⟨rfl, HF.out⟩
    · obtain ⟨c0, hc0, hne⟩ := cmpT_bad hok
      rw [hc0] at HI HS
      have e0 : (c0 != 0) = true := by simp; omega
      have HS' : Hid (_) := HS
      clear hok hc0 HS
      go_wp2_with fail
      refine (HI _ hrs hrt).mono ?_
      rintro e w2 ⟨rfl, hb2⟩
      simp only
      have hX2 : Below w1.heap.size w1 (w2.alloc (.cells #[.int .i64 c0, .int .i64 0] 42)) := hb2.alloc hb2.size _
      have HB2 : Hid (Below w.heap.size w (w2.alloc (.cells #[.int .i64 c0, .int .i64 0] 42))) := hb1.trans (hX2.mono hb1.size)
      have hs2 := hrs.below hX2
      have ht2 := hrt.below hX2
      obtain ⟨k0, -, -, -⟩ := res_block (w := w2) (wr := w2.alloc (.cells #[.int .i64 c0, .int .i64 0] 42)) rfl (Below.refl _ _)
      have hsW : (w2.alloc (.cells #[.int .i64 c0, .int .i64 0] 42)).heap.size = w2.heap.size + 1 := by simp
      clear hb1 hb2 hX2 hrs hrt HI
      go_wp2_with fail
      generalize w2.alloc (.cells #[.int .i64 c0, .int .i64 0] 42) = W at *
      generalize w2.heap.size = g6 at *
      have hg6 : g6 < W.heap.size := by omega
      refine wp_region_held_drew (S := fun w' => w'.cell? ⟨g6, 0, none⟩ = some (.int .i64 c0)) (by kernel_rfl) ?hS145 (fun hHeld => ?_)
      case hS145 => exact k0
      refine wpAnyH_take (i := 0) (v := ?_) rfl (by kernel_rfl) (by kernel_rfl) (by kernel_rfl) (fun _ _ _ h => h) (Or.inl ⟨by rfl, ?hy146⟩) (by assumption) ?ty146
      case hy146 => (intro w hSw; (try dsimp only at hSw); go_simp; all_goals with_reducible rfl)
      simp only [Act.put, List.getElem_toArray, List.getElem_cons_zero, List.setIfInBounds_toArray, List.set_cons_zero, List.set_cons_succ]
      refine wpAnyH_take (i := 1) (v := ?_) rfl (by kernel_rfl) (by kernel_rfl) (by kernel_rfl) (fun _ _ _ h => h) (Or.inl ⟨by rfl, ?hy147⟩) (by assumption) ?ty147
      case hy147 => (intro w hSw; (try dsimp only at hSw); go_simp; all_goals with_reducible rfl)
      simp only [Act.put, List.getElem_toArray, List.getElem_cons_zero, List.getElem_cons_succ, List.setIfInBounds_toArray, List.set_cons_zero, List.set_cons_succ]
      refine wpAnyH_take (i := 2) (v := ?_) rfl (by kernel_rfl) (by kernel_rfl) (by kernel_rfl) (fun _ _ _ h => h) (Or.inl ⟨by rfl, ?hy148⟩) (by assumption) ?ty148
      case hy148 => (intro w hSw; (try dsimp only at hSw); go_simp; all_goals with_reducible rfl)
      simp only [Act.put, List.getElem_toArray, List.getElem_cons_zero, List.getElem_cons_succ, List.setIfInBounds_toArray, List.set_cons_zero, List.set_cons_succ]
      refine wpAnyH_take (i := 5) (v := ?_) rfl (by kernel_rfl) (by kernel_rfl) (by kernel_rfl) (fun _ _ _ h => h) (Or.inl ⟨by rfl, ?hy149⟩) (by assumption) ?ty149
      case hy149 => (intro w hSw; (try dsimp only at hSw); go_simp; all_goals with_reducible rfl)
      simp only [Act.put, List.getElem_toArray, List.getElem_cons_zero, List.getElem_cons_succ, List.setIfInBounds_toArray, List.set_cons_zero, List.set_cons_succ]
      refine wpAnyH_take (i := 6) (v := ?_) rfl (by kernel_rfl) (by kernel_rfl) (by kernel_rfl) (fun _ _ _ h => h) (Or.inl ⟨by rfl, ?hy150⟩) (by assumption) ?ty150
      case hy150 => (intro w hSw; (try dsimp only at hSw); go_simp; all_goals with_reducible rfl)
      simp only [Act.put, List.getElem_toArray, List.getElem_cons_zero, List.getElem_cons_succ, List.setIfInBounds_toArray, List.set_cons_zero, List.set_cons_succ]
      refine wpAnyH_ready (rs := [3]) (by kernel_rfl) (by simp) ?_
      refine AllReadyH.cons rfl (fun K hK => ?_) AllReadyH.nil
      go_simp
      refine (HS'.out _ (by exact hs2) (by exact ht2)).mono ?_
      rintro e u1 ⟨rfl, hbx⟩
      simp only
      have HW : Hid (Below W.heap.size W u1) := (Below.refl _ _).drew.trans hbx
      have hsS : u1.cell? ⟨g6, 0, none⟩ = some (.int .i64 c0) := (HW.out.cell (p := ⟨g6, 0, none⟩) hg6).trans k0
      refine hK.out _ _ hsS (fun hHeld => ?_)
      clear hK K
      clear hsS hbx
      refine wpAnyH_take (i := 4) (v := ?_) rfl (by kernel_rfl) (by kernel_rfl) (by kernel_rfl) (fun _ _ _ h => h) (Or.inl ⟨by rfl, ?hy151⟩) (by assumption) ?ty151
      case hy151 => (intro w hSw; (try dsimp only at hSw); go_simp; all_goals with_reducible rfl)
      simp only [Act.put, List.getElem_toArray, List.getElem_cons_zero, List.getElem_cons_succ, List.setIfInBounds_toArray, List.set_cons_zero, List.set_cons_succ]
      refine wpAnyH_take (i := 7) (v := .bool true) rfl (by kernel_rfl) (by kernel_rfl) (by kernel_rfl) (fun _ _ _ h => h) (Or.inl ⟨by rfl, ?hy152⟩) (by assumption) ?ty152
      case hy152 => (intro w hSw; (try dsimp only at hSw); go_simp; first | (simp; done) | (all_goals with_reducible rfl))
      simp only [Act.put, List.getElem_toArray, List.getElem_cons_zero, List.getElem_cons_succ, List.setIfInBounds_toArray, List.set_cons_zero, List.set_cons_succ]
      refine wpAnyH_take (i := 8) (v := ?_) rfl (by kernel_rfl) (by kernel_rfl) (by kernel_rfl) (fun _ _ _ h => h) (Or.inl ⟨by rfl, ?hy153⟩) (by assumption) ?ty153
      case hy153 => (intro w hSw; (try dsimp only at hSw); go_simp; all_goals with_reducible rfl)
      simp only [Act.put, List.getElem_toArray, List.getElem_cons_zero, List.getElem_cons_succ, List.setIfInBounds_toArray, List.set_cons_zero, List.set_cons_succ]
      refine wpAnyH_done (by kernel_rfl) ?_ _
      have HF : Hid (Below w.heap.size w u1) := HB2.out.trans (HW.out.mono HB2.out.size)
      clear hHeld HW HS' HB2
      go_wp2
      go_ret
      exact ⟨rfl, HF.out⟩
end Go.Proofs.Ytjkhlkmibajhiaa
