/- The law FnCharsets returns true at every input, and changes nothing that was there. -/
import Derived.Test.YtjkhlkmibajhiaaChn
import Derived.Test.YtjkhlkmibajhiaaEncT2
import Derived.Test.YtjkhlkmibajhiaaLwn
import Derived.Test.YtjkhlkmibajhiaaFldB
import Derived.Deep.RegionHeld3
namespace Go.Proofs.Ytjkhlkmibajhiaa
open Go.RowKit

set_option maxHeartbeats 12800000 in
set_option maxRecDepth 100000 in
theorem walkCharsets (a : Option Addr) (n cap : Nat) (l : List Nat) (w : World) (hl : l.length = n) (hr : Rd w a l) (hB : IsB l) :
    Calls Try.prog 3 #[.slice a n cap] w fun e w' => e = .returned (.bool true) ∧ Below w.heap.size w w' := by
  by_cases hbig : 1048576 < n
  · go_enter Try.func3, Try.ntmps3
    go_wp2_with fail
    refine (lwBig_any a n cap w).mono ?_
    rintro e w1 ⟨rfl, rfl⟩
    rw [decide_eq_true (by omega)]
    go_wp2
    go_ret
    exact ⟨rfl, Below.refl _ _⟩
  · have fC0 := fldC0
    have fC1 := fldC1
    have fB0 := fldB0
    have fB1 := fldB1
    go_enter Try.func3, Try.ntmps3
    go_wp2_with fail
    refine (lwBig_any a n cap w).mono ?_
    rintro e w1 ⟨rfl, rfl⟩
    rw [decide_eq_false (by omega)]
    go_wp2_with fail
    refine (drawDecodeText_any a n cap l w hl hr hB (by omega)).mono ?_
    rintro e w1 ⟨cs, v, dt, rfl, ⟨ad, dn, dc, rfl, hdl, hdc, hd1, hrd⟩, hBd, hb1⟩
    have HDI : Hid (∀ w, Rd w ad dt → Calls Try.prog 13 #[.int .i64 cs, .slice ad dn dc] w fun e w' => CodEnd (decT cs dt) w e w') := fun w h1 => decodeText_any cs ad dn dc dt w hdl h1 hBd hdc
    have HDS : Hid (∀ w, Rd w ad dt → Calls Try.prog 14 #[.int .i64 cs, .slice ad dn dc] w fun e w' => CodEnd (decT cs dt) w e w') := fun w h1 => specDecodeText_any cs ad dn dc dt w hdl h1 hBd
    have hcod := decT_codes cs dt
    have HED : Hid (∀ u, decT cs dt = (0, u) → encT cs u = (0, dt)) := fun u h => enc_dec h
    have hfew := decT_few cs dt
    have HDL : Hid (dt.length = dn) := hdl
    generalize decT cs dt = D at *
    obtain ⟨d0, u⟩ := D
    simp only at hcod hfew
    clear hdl hBd
    obtain ⟨N, hN⟩ : ∃ N, u.length = N := ⟨_, rfl⟩
    have HN : Hid (u.length = N) := hN
    rw [hN] at hfew
    clear hN
    go_wp2_with fail
    refine (HDI.out _ hrd).mono ?_
    rintro e w2 ⟨v2, rfl, hown2, hb2⟩
    simp only at hown2 ⊢
    obtain ⟨b2, c2, hv, -, -⟩ := hown2.form
    rw [HN.out] at hv
    rw [hv] at hown2 ⊢
    clear hv
    have hbA : Below w2.heap.size w2 (w2.alloc (.cells #[.int .i64 d0, .slice b2 N c2] 28)) := (Below.refl _ _).alloc (Nat.le_refl _) _
    have hX2 : Below w1.heap.size w1 (w2.alloc (.cells #[.int .i64 d0, .slice b2 N c2] 28)) := hb2.trans (hbA.mono hb2.size)
    have HB2 : Hid (Below w.heap.size w (w2.alloc (.cells #[.int .i64 d0, .slice b2 N c2] 28))) := hb1.trans (hX2.mono hb1.size)
    have hd2 := hrd.below hX2
    have hu2 := hown2.rd.2.below hbA
    obtain ⟨k0, k1, -, -⟩ := res_block (w := w2) (wr := w2.alloc (.cells #[.int .i64 d0, .slice b2 N c2] 28)) rfl (Below.refl _ _)
    have hsW : (w2.alloc (.cells #[.int .i64 d0, .slice b2 N c2] 28)).heap.size = w2.heap.size + 1 := by simp
    clear hb1 hb2 hX2 hrd HDI hown2 hbA
    go_wp2_with fail
    generalize w2.alloc (.cells #[.int .i64 d0, .slice b2 N c2] 28) = W at *
    generalize w2.heap.size = g at *
    have hgg : g < W.heap.size := by omega
    rcases hcod with rfl | ⟨hne, hu0⟩
    · have HEI0 : Hid (∀ (b : Option Addr) (bc : Nat) w, RdI w b u → Calls Try.prog 16 #[.int .i64 cs, .slice b N bc] w fun e w' => BytEnd (0, dt) w e w') := fun b bc w h1 => by
        have h := encodeText_any cs b N bc u w HN.out h1 (by omega)
        rw [HED.out u rfl] at h; exact h
      have HLS0 : Hid (∀ (b d : Option Addr) (bc dc : Nat) w, Rd w b dt → Rd w d dt → Calls Try.prog 15 #[.slice b dn bc, .slice d dn dc] w fun e w' => e = .returned (.bool true) ∧ w = w') := fun b d bc dc w h1 h2 => lwSame_any b d dn bc dc dt w HDL.out h1 h2
      clear HED
      refine wp_region_held_drew (S := fun w' => w'.cell? ⟨g, 0, none⟩ = some (.int .i64 0) ∧ w'.cell? ⟨g, 1, none⟩ = some (.slice b2 N c2)) (by kernel_rfl) ?hS1 (fun hHeld => ?_)
      case hS1 => exact ⟨k0, k1⟩
      refine wpAnyH_take (i := 0) (v := ?_) rfl (by kernel_rfl) (by kernel_rfl) (by kernel_rfl) (fun _ _ _ h => h) (Or.inl ⟨by rfl, ?hy2⟩) (by assumption) ?ty2
      case hy2 => (intro w hSw; (try dsimp only at hSw); go_simp; all_goals with_reducible rfl)
      simp only [Act.put, List.getElem_toArray, List.getElem_cons_zero, List.setIfInBounds_toArray, List.set_cons_zero, List.set_cons_succ]
      refine wpAnyH_take (i := 1) (v := ?_) rfl (by kernel_rfl) (by kernel_rfl) (by kernel_rfl) (fun _ _ _ h => h) (Or.inl ⟨by rfl, ?hy3⟩) (by assumption) ?ty3
      case hy3 => (intro w hSw; (try dsimp only at hSw); go_simp; all_goals with_reducible rfl)
      simp only [Act.put, List.getElem_toArray, List.getElem_cons_zero, List.getElem_cons_succ, List.setIfInBounds_toArray, List.set_cons_zero, List.set_cons_succ]
      refine wpAnyH_take (i := 2) (v := ?_) rfl (by kernel_rfl) (by kernel_rfl) (by kernel_rfl) (fun _ _ _ h => h) (Or.inl ⟨by rfl, ?hy4⟩) (by assumption) ?ty4
      case hy4 => (intro w hSw; (try dsimp only at hSw); go_simp; all_goals with_reducible rfl)
      simp only [Act.put, List.getElem_toArray, List.getElem_cons_zero, List.getElem_cons_succ, List.setIfInBounds_toArray, List.set_cons_zero, List.set_cons_succ]
      refine wpAnyH_take (i := 3) (v := ?_) rfl (by kernel_rfl) (by kernel_rfl) (by kernel_rfl) (fun _ _ _ h => h) (Or.inl ⟨by rfl, ?hy5⟩) (by assumption) ?ty5
      case hy5 => (intro w hSw; (try dsimp only at hSw); go_simp; all_goals with_reducible rfl)
      simp only [Act.put, List.getElem_toArray, List.getElem_cons_zero, List.getElem_cons_succ, List.setIfInBounds_toArray, List.set_cons_zero, List.set_cons_succ]
      refine wpAnyH_ready (rs := [4]) (by kernel_rfl) (by simp) ?_
      refine AllReadyH.cons rfl (fun K hK => ?_) AllReadyH.nil
      go_simp
      refine (HDS.out _ (by exact hd2)).mono ?_
      rintro e y1 ⟨v3, rfl, hown3, hbx⟩
      simp only
      obtain ⟨b3, c3, rfl, -, -⟩ := hown3.form
      clear hown3
      have HW_y1 : Hid (Below W.heap.size W y1) := (Below.refl _ _).drew.trans hbx
      have hsS : y1.cell? ⟨g, 0, none⟩ = some (.int .i64 0) ∧ y1.cell? ⟨g, 1, none⟩ = some (.slice b2 N c2) := ⟨(HW_y1.out.cell (p := ⟨g, 0, none⟩) hgg).trans k0, (HW_y1.out.cell (p := ⟨g, 1, none⟩) hgg).trans k1⟩
      refine hK.out _ _ hsS (fun hHeld => ?_)
      clear hK K
      have hsP := hsS
      clear hsS hbx
      refine wpAnyH_take (i := 5) (v := ?_) rfl (by kernel_rfl) (by kernel_rfl) (by kernel_rfl) (fun _ _ _ h => h) (Or.inl ⟨by rfl, ?hy6⟩) (by assumption) ?ty6
      case hy6 => (intro w hSw; (try dsimp only at hSw); go_simp; all_goals with_reducible rfl)
      simp only [Act.put, List.getElem_toArray, List.getElem_cons_zero, List.getElem_cons_succ, List.setIfInBounds_toArray, List.set_cons_zero, List.set_cons_succ]
      refine wpAnyH_take (i := 6) (v := .bool false) rfl (by kernel_rfl) (by kernel_rfl) (by kernel_rfl) (fun _ _ _ h => h) (Or.inl ⟨by rfl, ?hy7⟩) (by assumption) ?ty7
      case hy7 => (intro w hSw; (try dsimp only at hSw); go_simp; first | (simp; done) | (all_goals with_reducible rfl))
      simp only [Act.put, List.getElem_toArray, List.getElem_cons_zero, List.getElem_cons_succ, List.setIfInBounds_toArray, List.set_cons_zero, List.set_cons_succ]
      refine wpAnyH_take (i := 7) (v := ?_) rfl (by kernel_rfl) (by kernel_rfl) (by kernel_rfl) (fun _ _ _ h => h) (Or.inl ⟨by rfl, ?hy8⟩) (by assumption) ?ty8
      case hy8 => (intro w hSw; (try dsimp only at hSw); go_simp; all_goals with_reducible rfl)
      simp only [Act.put, List.getElem_toArray, List.getElem_cons_zero, List.getElem_cons_succ, List.setIfInBounds_toArray, List.set_cons_zero, List.set_cons_succ]
      refine wpAnyH_take (i := 8) (v := ?_) rfl (by kernel_rfl) (by kernel_rfl) (by kernel_rfl) (fun _ _ _ h => h) (Or.inl ⟨by rfl, ?hy9⟩) (by assumption) ?ty9
      case hy9 => (intro w hSw; (try dsimp only at hSw); go_simp; all_goals with_reducible rfl)
      simp only [Act.put, List.getElem_toArray, List.getElem_cons_zero, List.getElem_cons_succ, List.setIfInBounds_toArray, List.set_cons_zero, List.set_cons_succ]
      refine wpAnyH_take (i := 9) (v := ?_) rfl (by kernel_rfl) (by kernel_rfl) (by kernel_rfl) (fun _ _ _ h => h) (Or.inl ⟨by rfl, ?hy10⟩) (by assumption) ?ty10
      case hy10 => (intro w hSw; (try dsimp only at hSw); go_simp; all_goals with_reducible rfl)
      simp only [Act.put, List.getElem_toArray, List.getElem_cons_zero, List.getElem_cons_succ, List.setIfInBounds_toArray, List.set_cons_zero, List.set_cons_succ]
      refine wpAnyH_take (i := 10) (v := .bool true) rfl (by kernel_rfl) (by kernel_rfl) (by kernel_rfl) (fun _ _ _ h => h) (Or.inl ⟨by rfl, ?hy11⟩) (by assumption) ?ty11
      case hy11 => (intro w hSw; (try dsimp only at hSw); go_simp; first | (simp; done) | (all_goals with_reducible rfl))
      simp only [Act.put, List.getElem_toArray, List.getElem_cons_zero, List.getElem_cons_succ, List.setIfInBounds_toArray, List.set_cons_zero, List.set_cons_succ]
      refine wpAnyH_take (i := 11) (v := ?_) rfl (by kernel_rfl) (by kernel_rfl) (by kernel_rfl) (fun _ _ _ h => h) (Or.inl ⟨by rfl, ?hy12⟩) (by assumption) ?ty12
      case hy12 => (intro w hSw; (try dsimp only at hSw); go_simp; all_goals with_reducible rfl)
      simp only [Act.put, List.getElem_toArray, List.getElem_cons_zero, List.getElem_cons_succ, List.setIfInBounds_toArray, List.set_cons_zero, List.set_cons_succ]
      refine wpAnyH_take (i := 12) (v := ?_) rfl (by kernel_rfl) (by kernel_rfl) (by kernel_rfl) (fun _ _ _ h => h) (Or.inl ⟨by rfl, ?hy13⟩) (by assumption) ?ty13
      case hy13 => (intro w hSw; (try dsimp only at hSw); go_simp; all_goals with_reducible rfl)
      simp only [Act.put, List.getElem_toArray, List.getElem_cons_zero, List.getElem_cons_succ, List.setIfInBounds_toArray, List.set_cons_zero, List.set_cons_succ]
      refine wpAnyH_take (i := 13) (v := ?_) rfl (by kernel_rfl) (by kernel_rfl) (by kernel_rfl) (fun _ _ _ h => h) (Or.inl ⟨by rfl, ?hy14⟩) (by assumption) ?ty14
      case hy14 => (intro w hSw; (try dsimp only at hSw); go_simp; all_goals with_reducible rfl)
      simp only [Act.put, List.getElem_toArray, List.getElem_cons_zero, List.getElem_cons_succ, List.setIfInBounds_toArray, List.set_cons_zero, List.set_cons_succ]
      refine wpAnyH_take (i := 14) (v := ?_) rfl (by kernel_rfl) (by kernel_rfl) (by kernel_rfl) (fun _ _ _ h => h) (Or.inl ⟨by rfl, ?hy15⟩) (by assumption) ?ty15
      case hy15 => (intro w hSw; (try dsimp only at hSw); go_simp; all_goals with_reducible rfl)
      simp only [Act.put, List.getElem_toArray, List.getElem_cons_zero, List.getElem_cons_succ, List.setIfInBounds_toArray, List.set_cons_zero, List.set_cons_succ]
      refine wpAnyH_take (i := 17) (v := ?_) rfl (by kernel_rfl) (by kernel_rfl) (by kernel_rfl) (fun _ _ _ h => h) (Or.inl ⟨by rfl, ?hy16⟩) (by assumption) ?ty16
      case hy16 => (intro w hSw; (try dsimp only at hSw); go_simp; all_goals with_reducible rfl)
      simp only [Act.put, List.getElem_toArray, List.getElem_cons_zero, List.getElem_cons_succ, List.setIfInBounds_toArray, List.set_cons_zero, List.set_cons_succ]
      clear hsP
      refine wpAnyH_ready (rs := [15]) (by kernel_rfl) (by simp) ?_
      refine AllReadyH.cons rfl (fun K hK => ?_) AllReadyH.nil
      go_simp
      refine (HEI0.out _ _ _ (by exact hu2.below HW_y1.out)).mono ?_
      rintro e y2 ⟨v3, rfl, hown3, hbx⟩
      simp only at hown3 ⊢
      obtain ⟨b3, c3, hv, -, -⟩ := hown3.form
      rw [HDL.out] at hv
      rw [hv] at hown3 ⊢
      clear hv
      have HW_y2 : Hid (Below W.heap.size W y2) := HW_y1.out.trans (hbx.mono HW_y1.out.size)
      have hsS : y2.cell? ⟨g, 0, none⟩ = some (.int .i64 0) ∧ y2.cell? ⟨g, 1, none⟩ = some (.slice b2 N c2) := ⟨(HW_y2.out.cell (p := ⟨g, 0, none⟩) hgg).trans k0, (HW_y2.out.cell (p := ⟨g, 1, none⟩) hgg).trans k1⟩
      refine hK.out _ _ hsS (fun hHeld => ?_)
      clear hK K
      have hsP := hsS
      clear hsS hbx
      refine wpAnyH_take (i := 16) (v := ?_) rfl (by kernel_rfl) (by kernel_rfl) (by kernel_rfl) (fun _ _ _ h => h) (Or.inl ⟨by rfl, ?hy17⟩) (by assumption) ?ty17
      case hy17 => (intro w hSw; (try dsimp only at hSw); go_simp; all_goals with_reducible rfl)
      simp only [Act.put, List.getElem_toArray, List.getElem_cons_zero, List.getElem_cons_succ, List.setIfInBounds_toArray, List.set_cons_zero, List.set_cons_succ]
      refine wpAnyH_ready (rs := [18]) (by kernel_rfl) (by simp) ?_
      refine AllReadyH.cons rfl (fun K hK => ?_) AllReadyH.nil
      go_simp
      refine (HLS0.out _ _ _ _ _ (by exact hown3.rd.2) (by exact hd2.below HW_y2.out)).mono ?_
      rintro e y3 ⟨rfl, rfl⟩
      have hsS := hsP
      refine hK.out _ _ hsS (fun hHeld => ?_)
      clear hK K
      clear hsS
      refine wpAnyH_take (i := 19) (v := ?_) rfl (by kernel_rfl) (by kernel_rfl) (by kernel_rfl) (fun _ _ _ h => h) (Or.inl ⟨by rfl, ?hy18⟩) (by assumption) ?ty18
      case hy18 => (intro w hSw; (try dsimp only at hSw); go_simp; all_goals with_reducible rfl)
      simp only [Act.put, List.getElem_toArray, List.getElem_cons_zero, List.getElem_cons_succ, List.setIfInBounds_toArray, List.set_cons_zero, List.set_cons_succ]
      refine wpAnyH_take (i := 20) (v := ?_) rfl (by kernel_rfl) (by kernel_rfl) (by kernel_rfl) (fun _ _ _ h => h) (Or.inl ⟨by rfl, ?hy19⟩) (by assumption) ?ty19
      case hy19 => (intro w hSw; (try dsimp only at hSw); go_simp; all_goals with_reducible rfl)
      simp only [Act.put, List.getElem_toArray, List.getElem_cons_zero, List.getElem_cons_succ, List.setIfInBounds_toArray, List.set_cons_zero, List.set_cons_succ]
      refine wpAnyH_take (i := 21) (v := ?_) rfl (by kernel_rfl) (by kernel_rfl) (by kernel_rfl) (fun _ _ _ h => h) (Or.inl ⟨by rfl, ?hy20⟩) (by assumption) ?ty20
      case hy20 => (intro w hSw; (try dsimp only at hSw); go_simp; all_goals with_reducible rfl)
      simp only [Act.put, List.getElem_toArray, List.getElem_cons_zero, List.getElem_cons_succ, List.setIfInBounds_toArray, List.set_cons_zero, List.set_cons_succ]
      refine wpAnyH_done (by kernel_rfl) ?_ _
      have HBF : Hid (Below w.heap.size w y2) := HB2.out.trans (HW_y2.out.mono HB2.out.size)
      clear hHeld hsP HW_y1 HW_y2 hown3 HB2 HDS HEI0 HLS0 hd2 hu2 k0 k1 hgg hsW
      generalize y2 = wE at HBF ⊢
      have HBE : Hid (Below w.heap.size w wE) := HBF.out
      clear HBF
      go_wp2_with fail
      refine (drawEncodeText_any a n cap l _ hl (hr.below HBE.out) hB (by omega)).mono ?_
      rintro e w3 ⟨c, v3, s, rfl, ⟨ap, m, mc, rfl, hsl, hmc, hm1, hrs⟩, hb3⟩
      have HB3 : Hid (Below w.heap.size w w3) := HBE.out.trans (hb3.mono HBE.out.size)
      clear hb3 HBE
      have HEI : Hid (∀ w, RdI w ap s → Calls Try.prog 16 #[.int .i64 c, .slice ap m mc] w fun e w' => BytEnd (encT c s) w e w') := fun w h1 => encodeText_any c ap m mc s w hsl h1 (by omega)
      have HES : Hid (∀ w, RdI w ap s → Calls Try.prog 19 #[.int .i64 c, .slice ap m mc] w fun e w' => BytEnd (encT c s) w e w') := fun w h1 => specEncodeText_any c ap m mc s w hsl h1 (by omega)
      have HDE : Hid (∀ b, encT c s = (0, b) → decT c b = (0, s) ∧ flt s = 0 ∧ s.all (hasV c) = true ∧ IsB b) := fun b h => dec_enc h
      have HLK : Hid (∀ b, encT c s = (8, b) → s.all (hasV c) = false) := fun b h => enc_lacks h
      have hcod := encT_codes c s
      have hfewE := encT_few c s
      have HSL : Hid (s.length = m) := hsl
      generalize encT c s = E at *
      obtain ⟨e0, eb⟩ := E
      simp only at hcod hfewE
      clear hsl
      obtain ⟨X, hX⟩ : ∃ X, eb.length = X := ⟨_, rfl⟩
      have HX : Hid (eb.length = X) := hX
      rw [hX] at hfewE
      clear hX
      go_wp2_with fail
      refine (HEI.out _ hrs).mono ?_
      rintro e w4 ⟨v4, rfl, hown4, hb4⟩
      simp only at hown4 ⊢
      obtain ⟨b4, c4, hv, hc4, -⟩ := hown4.form
      rw [HX.out] at hv hc4
      rw [hv] at hown4 ⊢
      clear hv
      have hbA : Below w4.heap.size w4 (w4.alloc (.cells #[.int .i64 e0, .slice b4 X c4] 32)) := (Below.refl _ _).alloc (Nat.le_refl _) _
      have hX4 : Below w3.heap.size w3 (w4.alloc (.cells #[.int .i64 e0, .slice b4 X c4] 32)) := hb4.trans (hbA.mono hb4.size)
      have HB4 : Hid (Below w.heap.size w (w4.alloc (.cells #[.int .i64 e0, .slice b4 X c4] 32))) := HB3.out.trans (hX4.mono HB3.out.size)
      have hs4 : Hid (RdI (w4.alloc (.cells #[.int .i64 e0, .slice b4 X c4] 32)) ap s) := hrs.below hX4
      have he4 : Hid (Rd (w4.alloc (.cells #[.int .i64 e0, .slice b4 X c4] 32)) b4 eb) := hown4.rd.2.below hbA
      have hq4 := res_block (w := w4) (wr := w4.alloc (.cells #[.int .i64 e0, .slice b4 X c4] 32)) rfl (Below.refl _ _)
      have Q0 : Hid ((w4.alloc (.cells #[.int .i64 e0, .slice b4 X c4] 32)).cell? ⟨w4.heap.size, 0, none⟩ = some (.int .i64 e0)) := hq4.1
      have Q1 : Hid ((w4.alloc (.cells #[.int .i64 e0, .slice b4 X c4] 32)).cell? ⟨w4.heap.size, 1, none⟩ = some (.slice b4 X c4)) := hq4.2.1
      have hsW4 : (w4.alloc (.cells #[.int .i64 e0, .slice b4 X c4] 32)).heap.size = w4.heap.size + 1 := by simp
      clear hb4 hX4 hrs HEI hown4 hbA HB3 hq4
      go_wp2_with fail
      generalize w4.alloc (.cells #[.int .i64 e0, .slice b4 X c4] 32) = V at *
      generalize w4.heap.size = g8 at *
      have hg8 : g8 < V.heap.size := by omega
      go_loopw [9, 10] (fun al i wr => ∃ j : Nat, j ≤ m ∧ i = .int .i64 j ∧ al = .bool ((s.take j).all (hasV c)) ∧ Below V.heap.size V wr) (fun _ i _ => m - (intOf i).toNat)
      case atStart => exact ⟨0, Nat.zero_le _, rfl, by simp, Below.refl _ _⟩
      case round =>
        obtain ⟨j, hj, rfl, rfl, hbel⟩ := hrel
        by_cases hjm : j < m
        · obtain ⟨b, off, rfl, hblt, hcell⟩ := RdI.at_ hs4.out (by have := HSL.out; omega)
          have hc : wr.cell? ⟨b, off + j, none⟩ = some (.int .i64 (nthI s j)) := (hbel.cell (p := ⟨b, off + j, none⟩) hblt).trans (hcell j (by have := HSL.out; omega))
          have hji : (j : Int) < (m : Int) := by omega
          have HT : Hid ((s.take (j + 1)).all (hasV c) = ((s.take j).all (hasV c) && hasV c (nthI s j))) := by
            show _ = _
            rw [take_snocI s j (by have := HSL.out; omega), List.all_append]; simp
          have HH : Hid (∀ w, Calls Try.prog 18 #[.int .i64 c, .int .i64 (nthI s j)] w fun e w' => e = .returned (.bool (hasV c (nthI s j))) ∧ Below w.heap.size w w') := hasChar_any c (nthI s j)
          generalize hasV c (nthI s j) = hv at *
          generalize nthI s j = x at *
          generalize (s.take j).all (hasV c) = al at *
          clear hcell
          cases al with
          | true =>
            go_wp2_with fail
            refine (HH.out _).mono ?_
            rintro e w5 ⟨rfl, hb5⟩
            have hbel5 := hbel.trans (hb5.mono hbel.size)
            clear hb5 HH
            go_wp2
            go_roundw
            case rel => exact ⟨j + 1, by omega, by go_num, by rw [HT.out]; simp, hbel5⟩
            case measure => simp [intOf]; omega
          | false =>
            go_wp2
            go_roundw
            case rel => exact ⟨j + 1, by omega, by go_num, by rw [HT.out]; simp, hbel⟩
            case measure => simp [intOf]; omega
        · have hji : ¬ (j : Int) < (m : Int) := by omega
          have hall : (s.take j).all (hasV c) = s.all (hasV c) := by rw [show j = s.length by have := HSL.out; omega, List.take_length]
          rw [hall]
          clear hall
          have q0 := (hbel.cell (p := ⟨g8, 0, none⟩) hg8).trans Q0.out
          have q1 := (hbel.cell (p := ⟨g8, 1, none⟩) hg8).trans Q1.out
          have hs5 : RdI wr ap s := RdI.below hs4.out hbel
          have he5 : Rd wr b4 eb := Rd.below he4.out hbel
          have HB5 : Hid (Below w.heap.size w wr) := HB4.out.trans (hbel.mono HB4.out.size)
          have hg5 : g8 < wr.heap.size := Nat.lt_of_lt_of_le hg8 hbel.size
          clear hs4 he4 Q0 Q1 HB4 hbel hsW4 hg8
          rcases hcod with rfl | ⟨hneE, hb0⟩
          · obtain ⟨p1, p2, p3, p4⟩ := HDE.out _ rfl
            rw [p3]
            have HDB : Hid (∀ w, Rd w b4 eb → Calls Try.prog 13 #[.int .i64 c, .slice b4 X c4] w fun e w' => CodEnd (0, s) w e w') := fun w h1 => by
              have h := decodeText_any c b4 X c4 eb w HX.out h1 p4 hc4
              rw [p1] at h; exact h
            have HCF : Hid (∀ w, RdI w ap s → Calls Try.prog 22 #[.slice ap m mc] w fun e w' => e = .returned (.int .i64 0) ∧ Below w.heap.size w w') := fun w h1 => by
              have h := codesFault_any ap m mc s w HSL.out h1 (by omega)
              rw [p2] at h; exact h
            have HLN : Hid (∀ (b : Option Addr) (bc : Nat) w, RdI w b s → RdI w ap s → Calls Try.prog 21 #[.slice b m bc, .slice ap m mc] w fun e w' => e = .returned (.bool true) ∧ Below w.heap.size w w') := fun b bc w h1 h2 => by
              have h := lwNums_any b ap m m bc mc s s w HSL.out HSL.out h1 h2 (by omega) (by omega)
              rw [decide_eq_true rfl] at h; exact h
            have HLS : Hid (∀ (b d : Option Addr) (bc dc : Nat) w, Rd w b eb → Rd w d eb → Calls Try.prog 15 #[.slice b X bc, .slice d X dc] w fun e w' => e = .returned (.bool true) ∧ w = w') := fun b d bc dc w h1 h2 => lwSame_any b d X bc dc eb w HX.out h1 h2
            clear p1 p2 p3 p4 HDE HLK
            go_wp2_with fail
            refine (HDB.out _ he5).mono ?_
            rintro e w6 ⟨v6, rfl, hown6, hb6⟩
            simp only at hown6 ⊢
            obtain ⟨b6, c6, hv, -, -⟩ := hown6.form
            rw [HSL.out] at hv
            rw [hv] at hown6 ⊢
            clear hv
            have hbA : Below w6.heap.size w6 (w6.alloc (.cells #[.int .i64 0, .slice b6 m c6] 28)) := (Below.refl _ _).alloc (Nat.le_refl _) _
            have hX6 : Below wr.heap.size wr (w6.alloc (.cells #[.int .i64 0, .slice b6 m c6] 28)) := hb6.trans (hbA.mono hb6.size)
            have HB6 : Hid (Below w.heap.size w (w6.alloc (.cells #[.int .i64 0, .slice b6 m c6] 28))) := HB5.out.trans (hX6.mono HB5.out.size)
            have hs6 := hs5.below hX6
            have he6 := he5.below hX6
            have hd6 := hown6.rd.2.below hbA
            have r0 := (hX6.cell (p := ⟨g8, 0, none⟩) hg5).trans q0
            have r1 := (hX6.cell (p := ⟨g8, 1, none⟩) hg5).trans q1
            obtain ⟨i0, i1, -, -⟩ := res_block (w := w6) (wr := w6.alloc (.cells #[.int .i64 0, .slice b6 m c6] 28)) rfl (Below.refl _ _)
            have hsW6 : (w6.alloc (.cells #[.int .i64 0, .slice b6 m c6] 28)).heap.size = w6.heap.size + 1 := by simp
            have hz6 := hb6.size
            clear hb6 hX6 hs5 he5 HDB hown6 hbA HB5 q0 q1
            go_wp2_with fail
            generalize w6.alloc (.cells #[.int .i64 0, .slice b6 m c6] 28) = Y at *
            generalize w6.heap.size = g11 at *
            refine (drawHasChar_any a n cap l _ hl (hr.below HB6.out) hB (by omega)).mono ?_
            rintro e w7 ⟨x, y, rfl, hb7⟩
            have HB7 : Hid (Below w.heap.size w w7) := HB6.out.trans (hb7.mono HB6.out.size)
            have hs7 := hs6.below hb7
            have he7 := he6.below hb7
            have hd7 := hd6.below hb7
            have R1 := (hb7.cell (p := ⟨g8, 1, none⟩) (by simp; omega)).trans r1
            have I0 := (hb7.cell (p := ⟨g11, 0, none⟩) (by simp; omega)).trans i0
            have I1 := (hb7.cell (p := ⟨g11, 1, none⟩) (by simp; omega)).trans i1
            have hz7 := hb7.size
            have m8 : g8 < w7.heap.size := by omega
            have m11 : g11 < w7.heap.size := by omega
            have HHI : Hid (_) := hasChar_any x y
            have HHS : Hid (_) := specHasChar_any x y
            generalize hasV x y = hh at *
            clear hb7 hs6 he6 hd6 HB6 r0 r1 i0 i1
            go_wp2_with fail
            refine wp_region_held_drew (S := fun w' => w'.cell? ⟨g8, 1, none⟩ = some (.slice b4 X c4) ∧ w'.cell? ⟨g11, 0, none⟩ = some (.int .i64 0) ∧ w'.cell? ⟨g11, 1, none⟩ = some (.slice b6 m c6)) (by kernel_rfl) ?hS21 (fun hHeld => ?_)
            case hS21 => exact ⟨R1, I0, I1⟩
            refine wpAnyH_take (i := 0) (v := ?_) rfl (by kernel_rfl) (by kernel_rfl) (by kernel_rfl) (fun _ _ _ h => h) (Or.inl ⟨by rfl, ?hy22⟩) (by assumption) ?ty22
            case hy22 => (intro w hSw; (try dsimp only at hSw); go_simp; all_goals with_reducible rfl)
            simp only [Act.put, List.getElem_toArray, List.getElem_cons_zero, List.setIfInBounds_toArray, List.set_cons_zero, List.set_cons_succ]
            refine wpAnyH_take (i := 1) (v := ?_) rfl (by kernel_rfl) (by kernel_rfl) (by kernel_rfl) (fun _ _ _ h => h) (Or.inl ⟨by rfl, ?hy23⟩) (by assumption) ?ty23
            case hy23 => (intro w hSw; (try dsimp only at hSw); go_simp; all_goals with_reducible rfl)
            simp only [Act.put, List.getElem_toArray, List.getElem_cons_zero, List.getElem_cons_succ, List.setIfInBounds_toArray, List.set_cons_zero, List.set_cons_succ]
            refine wpAnyH_take (i := 2) (v := ?_) rfl (by kernel_rfl) (by kernel_rfl) (by kernel_rfl) (fun _ _ _ h => h) (Or.inl ⟨by rfl, ?hy24⟩) (by assumption) ?ty24
            case hy24 => (intro w hSw; (try dsimp only at hSw); go_simp; all_goals with_reducible rfl)
            simp only [Act.put, List.getElem_toArray, List.getElem_cons_zero, List.getElem_cons_succ, List.setIfInBounds_toArray, List.set_cons_zero, List.set_cons_succ]
            refine wpAnyH_take (i := 3) (v := ?_) rfl (by kernel_rfl) (by kernel_rfl) (by kernel_rfl) (fun _ _ _ h => h) (Or.inl ⟨by rfl, ?hy25⟩) (by assumption) ?ty25
            case hy25 => (intro w hSw; (try dsimp only at hSw); go_simp; all_goals with_reducible rfl)
            simp only [Act.put, List.getElem_toArray, List.getElem_cons_zero, List.getElem_cons_succ, List.setIfInBounds_toArray, List.set_cons_zero, List.set_cons_succ]
            refine wpAnyH_take (i := 4) (v := .bool true) rfl (by kernel_rfl) (by kernel_rfl) (by kernel_rfl) (fun _ _ _ h => h) (Or.inl ⟨by rfl, ?hy26⟩) (by assumption) ?ty26
            case hy26 => (intro w hSw; (try dsimp only at hSw); go_simp; first | (simp; done) | (all_goals with_reducible rfl))
            simp only [Act.put, List.getElem_toArray, List.getElem_cons_zero, List.getElem_cons_succ, List.setIfInBounds_toArray, List.set_cons_zero, List.set_cons_succ]
            refine wpAnyH_take (i := 5) (v := ?_) rfl (by kernel_rfl) (by kernel_rfl) (by kernel_rfl) (fun _ _ _ h => h) (Or.inl ⟨by rfl, ?hy27⟩) (by assumption) ?ty27
            case hy27 => (intro w hSw; (try dsimp only at hSw); go_simp; all_goals with_reducible rfl)
            simp only [Act.put, List.getElem_toArray, List.getElem_cons_zero, List.getElem_cons_succ, List.setIfInBounds_toArray, List.set_cons_zero, List.set_cons_succ]
            refine wpAnyH_take (i := 6) (v := ?_) rfl (by kernel_rfl) (by kernel_rfl) (by kernel_rfl) (fun _ _ _ h => h) (Or.inl ⟨by rfl, ?hy28⟩) (by assumption) ?ty28
            case hy28 => (intro w hSw; (try dsimp only at hSw); go_simp; all_goals with_reducible rfl)
            simp only [Act.put, List.getElem_toArray, List.getElem_cons_zero, List.getElem_cons_succ, List.setIfInBounds_toArray, List.set_cons_zero, List.set_cons_succ]
            refine wpAnyH_take (i := 7) (v := ?_) rfl (by kernel_rfl) (by kernel_rfl) (by kernel_rfl) (fun _ _ _ h => h) (Or.inl ⟨by rfl, ?hy29⟩) (by assumption) ?ty29
            case hy29 => (intro w hSw; (try dsimp only at hSw); go_simp; all_goals with_reducible rfl)
            simp only [Act.put, List.getElem_toArray, List.getElem_cons_zero, List.getElem_cons_succ, List.setIfInBounds_toArray, List.set_cons_zero, List.set_cons_succ]
            refine wpAnyH_take (i := 8) (v := ?_) rfl (by kernel_rfl) (by kernel_rfl) (by kernel_rfl) (fun _ _ _ h => h) (Or.inl ⟨by rfl, ?hy30⟩) (by assumption) ?ty30
            case hy30 => (intro w hSw; (try dsimp only at hSw); go_simp; all_goals with_reducible rfl)
            simp only [Act.put, List.getElem_toArray, List.getElem_cons_zero, List.getElem_cons_succ, List.setIfInBounds_toArray, List.set_cons_zero, List.set_cons_succ]
            refine wpAnyH_take (i := 9) (v := ?_) rfl (by kernel_rfl) (by kernel_rfl) (by kernel_rfl) (fun _ _ _ h => h) (Or.inl ⟨by rfl, ?hy31⟩) (by assumption) ?ty31
            case hy31 => (intro w hSw; (try dsimp only at hSw); go_simp; all_goals with_reducible rfl)
            simp only [Act.put, List.getElem_toArray, List.getElem_cons_zero, List.getElem_cons_succ, List.setIfInBounds_toArray, List.set_cons_zero, List.set_cons_succ]
            refine wpAnyH_ready (rs := [10]) (by kernel_rfl) (by simp) ?_
            refine AllReadyH.cons rfl (fun K hK => ?_) AllReadyH.nil
            go_simp
            refine (HLN.out _ _ _ (by exact hd7) (by exact hs7)).mono ?_
            rintro e z1 ⟨rfl, hbx⟩
            have HZ_z1 : Hid (Below w7.heap.size w7 z1) := (Below.refl _ _).drew.trans hbx
            have hsS : z1.cell? ⟨g8, 1, none⟩ = some (.slice b4 X c4) ∧ z1.cell? ⟨g11, 0, none⟩ = some (.int .i64 0) ∧ z1.cell? ⟨g11, 1, none⟩ = some (.slice b6 m c6) := ⟨(HZ_z1.out.cell (p := ⟨g8, 1, none⟩) m8).trans R1, (HZ_z1.out.cell (p := ⟨g11, 0, none⟩) m11).trans I0, (HZ_z1.out.cell (p := ⟨g11, 1, none⟩) m11).trans I1⟩
            refine hK.out _ _ hsS (fun hHeld => ?_)
            clear hK K
            have hsP := hsS
            clear hsS hbx
            refine wpAnyH_take (i := 11) (v := ?_) rfl (by kernel_rfl) (by kernel_rfl) (by kernel_rfl) (fun _ _ _ h => h) (Or.inl ⟨by rfl, ?hy32⟩) (by assumption) ?ty32
            case hy32 => (intro w hSw; (try dsimp only at hSw); go_simp; all_goals with_reducible rfl)
            simp only [Act.put, List.getElem_toArray, List.getElem_cons_zero, List.getElem_cons_succ, List.setIfInBounds_toArray, List.set_cons_zero, List.set_cons_succ]
            refine wpAnyH_take (i := 12) (v := ?_) rfl (by kernel_rfl) (by kernel_rfl) (by kernel_rfl) (fun _ _ _ h => h) (Or.inl ⟨by rfl, ?hy33⟩) (by assumption) ?ty33
            case hy33 => (intro w hSw; (try dsimp only at hSw); go_simp; all_goals with_reducible rfl)
            simp only [Act.put, List.getElem_toArray, List.getElem_cons_zero, List.getElem_cons_succ, List.setIfInBounds_toArray, List.set_cons_zero, List.set_cons_succ]
            refine wpAnyH_take (i := 13) (v := ?_) rfl (by kernel_rfl) (by kernel_rfl) (by kernel_rfl) (fun _ _ _ h => h) (Or.inl ⟨by rfl, ?hy34⟩) (by assumption) ?ty34
            case hy34 => (intro w hSw; (try dsimp only at hSw); go_simp; all_goals with_reducible rfl)
            simp only [Act.put, List.getElem_toArray, List.getElem_cons_zero, List.getElem_cons_succ, List.setIfInBounds_toArray, List.set_cons_zero, List.set_cons_succ]
            refine wpAnyH_ready (rs := [14]) (by kernel_rfl) (by simp) ?_
            refine AllReadyH.cons rfl (fun K hK => ?_) AllReadyH.nil
            go_simp
            refine (HCF.out _ (by exact hs7.below HZ_z1.out)).mono ?_
            rintro e z2 ⟨rfl, hbx⟩
            have HZ_z2 : Hid (Below w7.heap.size w7 z2) := HZ_z1.out.trans (hbx.mono HZ_z1.out.size)
            have hsS : z2.cell? ⟨g8, 1, none⟩ = some (.slice b4 X c4) ∧ z2.cell? ⟨g11, 0, none⟩ = some (.int .i64 0) ∧ z2.cell? ⟨g11, 1, none⟩ = some (.slice b6 m c6) := ⟨(HZ_z2.out.cell (p := ⟨g8, 1, none⟩) m8).trans R1, (HZ_z2.out.cell (p := ⟨g11, 0, none⟩) m11).trans I0, (HZ_z2.out.cell (p := ⟨g11, 1, none⟩) m11).trans I1⟩
            refine hK.out _ _ hsS (fun hHeld => ?_)
            clear hK K
            have hsP := hsS
            clear hsS hbx
            refine wpAnyH_take (i := 15) (v := .bool true) rfl (by kernel_rfl) (by kernel_rfl) (by kernel_rfl) (fun _ _ _ h => h) (Or.inl ⟨by rfl, ?hy35⟩) (by assumption) ?ty35
            case hy35 => (intro w hSw; (try dsimp only at hSw); go_simp; first | (simp; done) | (all_goals with_reducible rfl))
            simp only [Act.put, List.getElem_toArray, List.getElem_cons_zero, List.getElem_cons_succ, List.setIfInBounds_toArray, List.set_cons_zero, List.set_cons_succ]
            refine wpAnyH_take (i := 16) (v := ?_) rfl (by kernel_rfl) (by kernel_rfl) (by kernel_rfl) (fun _ _ _ h => h) (Or.inl ⟨by rfl, ?hy36⟩) (by assumption) ?ty36
            case hy36 => (intro w hSw; (try dsimp only at hSw); go_simp; all_goals with_reducible rfl)
            simp only [Act.put, List.getElem_toArray, List.getElem_cons_zero, List.getElem_cons_succ, List.setIfInBounds_toArray, List.set_cons_zero, List.set_cons_succ]
            refine wpAnyH_take (i := 17) (v := ?_) rfl (by kernel_rfl) (by kernel_rfl) (by kernel_rfl) (fun _ _ _ h => h) (Or.inl ⟨by rfl, ?hy37⟩) (by assumption) ?ty37
            case hy37 => (intro w hSw; (try dsimp only at hSw); go_simp; all_goals with_reducible rfl)
            simp only [Act.put, List.getElem_toArray, List.getElem_cons_zero, List.getElem_cons_succ, List.setIfInBounds_toArray, List.set_cons_zero, List.set_cons_succ]
            refine wpAnyH_take (i := 18) (v := ?_) rfl (by kernel_rfl) (by kernel_rfl) (by kernel_rfl) (fun _ _ _ h => h) (Or.inl ⟨by rfl, ?hy38⟩) (by assumption) ?ty38
            case hy38 => (intro w hSw; (try dsimp only at hSw); go_simp; all_goals with_reducible rfl)
            simp only [Act.put, List.getElem_toArray, List.getElem_cons_zero, List.getElem_cons_succ, List.setIfInBounds_toArray, List.set_cons_zero, List.set_cons_succ]
            refine wpAnyH_take (i := 19) (v := ?_) rfl (by kernel_rfl) (by kernel_rfl) (by kernel_rfl) (fun _ _ _ h => h) (Or.inl ⟨by rfl, ?hy39⟩) (by assumption) ?ty39
            case hy39 => (intro w hSw; (try dsimp only at hSw); go_simp; all_goals with_reducible rfl)
            simp only [Act.put, List.getElem_toArray, List.getElem_cons_zero, List.getElem_cons_succ, List.setIfInBounds_toArray, List.set_cons_zero, List.set_cons_succ]
            refine wpAnyH_take (i := 21) (v := ?_) rfl (by kernel_rfl) (by kernel_rfl) (by kernel_rfl) (fun _ _ _ h => h) (Or.inl ⟨by rfl, ?hy40⟩) (by assumption) ?ty40
            case hy40 => (intro w hSw; (try dsimp only at hSw); go_simp; all_goals with_reducible rfl)
            simp only [Act.put, List.getElem_toArray, List.getElem_cons_zero, List.getElem_cons_succ, List.setIfInBounds_toArray, List.set_cons_zero, List.set_cons_succ]
            refine wpAnyH_take (i := 22) (v := ?_) rfl (by kernel_rfl) (by kernel_rfl) (by kernel_rfl) (fun _ _ _ h => h) (Or.inl ⟨by rfl, ?hy41⟩) (by assumption) ?ty41
            case hy41 => (intro w hSw; (try dsimp only at hSw); go_simp; all_goals with_reducible rfl)
            simp only [Act.put, List.getElem_toArray, List.getElem_cons_zero, List.getElem_cons_succ, List.setIfInBounds_toArray, List.set_cons_zero, List.set_cons_succ]
            refine wpAnyH_ready (rs := [20]) (by kernel_rfl) (by simp) ?_
            refine AllReadyH.cons rfl (fun K hK => ?_) AllReadyH.nil
            go_simp
            refine (HHI.out _).mono ?_
            rintro e z3 ⟨rfl, hbx⟩
            have HZ_z3 : Hid (Below w7.heap.size w7 z3) := HZ_z2.out.trans (hbx.mono HZ_z2.out.size)
            have hsS : z3.cell? ⟨g8, 1, none⟩ = some (.slice b4 X c4) ∧ z3.cell? ⟨g11, 0, none⟩ = some (.int .i64 0) ∧ z3.cell? ⟨g11, 1, none⟩ = some (.slice b6 m c6) := ⟨(HZ_z3.out.cell (p := ⟨g8, 1, none⟩) m8).trans R1, (HZ_z3.out.cell (p := ⟨g11, 0, none⟩) m11).trans I0, (HZ_z3.out.cell (p := ⟨g11, 1, none⟩) m11).trans I1⟩
            refine hK.out _ _ hsS (fun hHeld => ?_)
            clear hK K
            have hsP := hsS
            clear hsS hbx
            refine wpAnyH_ready (rs := [23]) (by kernel_rfl) (by simp) ?_
            refine AllReadyH.cons rfl (fun K hK => ?_) AllReadyH.nil
            go_simp
            refine (HHS.out _).mono ?_
            rintro e z4 ⟨rfl, hb0'⟩
            have hbx : Below z3.heap.size z3 z4 := by (try subst hb0'); first | exact Below.refl _ _ | exact hb0'
            have HZ_z4 : Hid (Below w7.heap.size w7 z4) := HZ_z3.out.trans (hbx.mono HZ_z3.out.size)
            have hsS : z4.cell? ⟨g8, 1, none⟩ = some (.slice b4 X c4) ∧ z4.cell? ⟨g11, 0, none⟩ = some (.int .i64 0) ∧ z4.cell? ⟨g11, 1, none⟩ = some (.slice b6 m c6) := ⟨(HZ_z4.out.cell (p := ⟨g8, 1, none⟩) m8).trans R1, (HZ_z4.out.cell (p := ⟨g11, 0, none⟩) m11).trans I0, (HZ_z4.out.cell (p := ⟨g11, 1, none⟩) m11).trans I1⟩
            refine hK.out _ _ hsS (fun hHeld => ?_)
            clear hK K
            have hsP := hsS
            clear hsS hbx
            refine wpAnyH_take (i := 24) (v := .bool true) rfl (by kernel_rfl) (by kernel_rfl) (by kernel_rfl) (fun _ _ _ h => h) (Or.inl ⟨by rfl, ?hy42⟩) (by assumption) ?ty42
            case hy42 => (intro w hSw; (try dsimp only at hSw); go_simp; first | (simp; done) | (all_goals with_reducible rfl))
            simp only [Act.put, List.getElem_toArray, List.getElem_cons_zero, List.getElem_cons_succ, List.setIfInBounds_toArray, List.set_cons_zero, List.set_cons_succ]
            refine wpAnyH_take (i := 25) (v := ?_) rfl (by kernel_rfl) (by kernel_rfl) (by kernel_rfl) (fun _ _ _ h => h) (Or.inl ⟨by rfl, ?hy43⟩) (by assumption) ?ty43
            case hy43 => (intro w hSw; (try dsimp only at hSw); go_simp; all_goals with_reducible rfl)
            simp only [Act.put, List.getElem_toArray, List.getElem_cons_zero, List.getElem_cons_succ, List.setIfInBounds_toArray, List.set_cons_zero, List.set_cons_succ]
            refine wpAnyH_take (i := 26) (v := ?_) rfl (by kernel_rfl) (by kernel_rfl) (by kernel_rfl) (fun _ _ _ h => h) (Or.inl ⟨by rfl, ?hy44⟩) (by assumption) ?ty44
            case hy44 => (intro w hSw; (try dsimp only at hSw); go_simp; all_goals with_reducible rfl)
            simp only [Act.put, List.getElem_toArray, List.getElem_cons_zero, List.getElem_cons_succ, List.setIfInBounds_toArray, List.set_cons_zero, List.set_cons_succ]
            refine wpAnyH_take (i := 27) (v := ?_) rfl (by kernel_rfl) (by kernel_rfl) (by kernel_rfl) (fun _ _ _ h => h) (Or.inl ⟨by rfl, ?hy45⟩) (by assumption) ?ty45
            case hy45 => (intro w hSw; (try dsimp only at hSw); go_simp; all_goals with_reducible rfl)
            simp only [Act.put, List.getElem_toArray, List.getElem_cons_zero, List.getElem_cons_succ, List.setIfInBounds_toArray, List.set_cons_zero, List.set_cons_succ]
            refine wpAnyH_take (i := 28) (v := ?_) rfl (by kernel_rfl) (by kernel_rfl) (by kernel_rfl) (fun _ _ _ h => h) (Or.inl ⟨by rfl, ?hy46⟩) (by assumption) ?ty46
            case hy46 => (intro w hSw; (try dsimp only at hSw); go_simp; all_goals with_reducible rfl)
            simp only [Act.put, List.getElem_toArray, List.getElem_cons_zero, List.getElem_cons_succ, List.setIfInBounds_toArray, List.set_cons_zero, List.set_cons_succ]
            refine wpAnyH_take (i := 29) (v := ?_) rfl (by kernel_rfl) (by kernel_rfl) (by kernel_rfl) (fun _ _ _ h => h) (Or.inl ⟨by rfl, ?hy47⟩) (by assumption) ?ty47
            case hy47 => (intro w hSw; (try dsimp only at hSw); go_simp; all_goals with_reducible rfl)
            simp only [Act.put, List.getElem_toArray, List.getElem_cons_zero, List.getElem_cons_succ, List.setIfInBounds_toArray, List.set_cons_zero, List.set_cons_succ]
            refine wpAnyH_take (i := 30) (v := ?_) rfl (by kernel_rfl) (by kernel_rfl) (by kernel_rfl) (fun _ _ _ h => h) (Or.inl ⟨by rfl, ?hy48⟩) (by assumption) ?ty48
            case hy48 => (intro w hSw; (try dsimp only at hSw); go_simp; all_goals with_reducible rfl)
            simp only [Act.put, List.getElem_toArray, List.getElem_cons_zero, List.getElem_cons_succ, List.setIfInBounds_toArray, List.set_cons_zero, List.set_cons_succ]
            refine wpAnyH_ready (rs := [31]) (by kernel_rfl) (by simp) ?_
            refine AllReadyH.cons rfl (fun K hK => ?_) AllReadyH.nil
            go_simp
            refine (HES.out _ (by exact hs7.below HZ_z4.out)).mono ?_
            rintro e z5 ⟨v8, rfl, hown8, hbx⟩
            simp only at hown8 ⊢
            obtain ⟨b8, c8, hv, -, -⟩ := hown8.form
            rw [HX.out] at hv
            rw [hv] at hown8 ⊢
            clear hv
            have HZ_z5 : Hid (Below w7.heap.size w7 z5) := HZ_z4.out.trans (hbx.mono HZ_z4.out.size)
            have hsS : z5.cell? ⟨g8, 1, none⟩ = some (.slice b4 X c4) ∧ z5.cell? ⟨g11, 0, none⟩ = some (.int .i64 0) ∧ z5.cell? ⟨g11, 1, none⟩ = some (.slice b6 m c6) := ⟨(HZ_z5.out.cell (p := ⟨g8, 1, none⟩) m8).trans R1, (HZ_z5.out.cell (p := ⟨g11, 0, none⟩) m11).trans I0, (HZ_z5.out.cell (p := ⟨g11, 1, none⟩) m11).trans I1⟩
            refine hK.out _ _ hsS (fun hHeld => ?_)
            clear hK K
            have hsP := hsS
            clear hsS hbx
            refine wpAnyH_take (i := 32) (v := ?_) rfl (by kernel_rfl) (by kernel_rfl) (by kernel_rfl) (fun _ _ _ h => h) (Or.inl ⟨by rfl, ?hy49⟩) (by assumption) ?ty49
            case hy49 => (intro w hSw; (try dsimp only at hSw); go_simp; all_goals with_reducible rfl)
            simp only [Act.put, List.getElem_toArray, List.getElem_cons_zero, List.getElem_cons_succ, List.setIfInBounds_toArray, List.set_cons_zero, List.set_cons_succ]
            refine wpAnyH_ready (rs := [33]) (by kernel_rfl) (by simp) ?_
            refine AllReadyH.cons rfl (fun K hK => ?_) AllReadyH.nil
            go_simp
            refine (HLS.out _ _ _ _ _ (by exact he7.below HZ_z5.out) (by exact hown8.rd.2)).mono ?_
            rintro e z6 ⟨rfl, rfl⟩
            refine hK.out _ _ hsP (fun hHeld => ?_)
            clear hK K
            refine wpAnyH_take (i := 34) (v := ?_) rfl (by kernel_rfl) (by kernel_rfl) (by kernel_rfl) (fun _ _ _ h => h) (Or.inl ⟨by rfl, ?hy50⟩) (by assumption) ?ty50
            case hy50 => (intro w hSw; (try dsimp only at hSw); go_simp; all_goals with_reducible rfl)
            simp only [Act.put, List.getElem_toArray, List.getElem_cons_zero, List.getElem_cons_succ, List.setIfInBounds_toArray, List.set_cons_zero, List.set_cons_succ]
            refine wpAnyH_take (i := 35) (v := ?_) rfl (by kernel_rfl) (by kernel_rfl) (by kernel_rfl) (fun _ _ _ h => h) (Or.inl ⟨by rfl, ?hy51⟩) (by assumption) ?ty51
            case hy51 => (intro w hSw; (try dsimp only at hSw); go_simp; all_goals with_reducible rfl)
            simp only [Act.put, List.getElem_toArray, List.getElem_cons_zero, List.getElem_cons_succ, List.setIfInBounds_toArray, List.set_cons_zero, List.set_cons_succ]
            refine wpAnyH_done (by kernel_rfl) ?_ _
            have HF : Hid (Below w.heap.size w z5) := HB7.out.trans (HZ_z5.out.mono HB7.out.size)
            clear hHeld HZ_z1 HZ_z2 HZ_z3 HZ_z4 HZ_z5 HB7 HES HHI HHS HLN HLS HCF
            go_wp2
            go_ret
            exact ⟨rfl, HF.out⟩
          · have en : (e0 != 0) = true := by simp; omega
            subst hb0
            by_cases h8 : e0 = 8
            · have hlk := HLK.out [] (by rw [h8])
              rw [hlk]
              subst h8
              clear HLK HDE hlk
              go_wp2_with fail
              refine wp_region_held_drew (S := fun w' => w'.cell? ⟨g8, 0, none⟩ = some (.int .i64 8)) (by kernel_rfl) ?hS52 (fun hHeld => ?_)
              case hS52 => exact q0
              refine wpAnyH_take (i := 0) (v := ?_) rfl (by kernel_rfl) (by kernel_rfl) (by kernel_rfl) (fun _ _ _ h => h) (Or.inl ⟨by rfl, ?hy53⟩) (by assumption) ?ty53
              case hy53 => (intro w hSw; (try dsimp only at hSw); go_simp; all_goals with_reducible rfl)
              simp only [Act.put, List.getElem_toArray, List.getElem_cons_zero, List.setIfInBounds_toArray, List.set_cons_zero, List.set_cons_succ]
              refine wpAnyH_take (i := 1) (v := ?_) rfl (by kernel_rfl) (by kernel_rfl) (by kernel_rfl) (fun _ _ _ h => h) (Or.inl ⟨by rfl, ?hy54⟩) (by assumption) ?ty54
              case hy54 => (intro w hSw; (try dsimp only at hSw); go_simp; all_goals with_reducible rfl)
              simp only [Act.put, List.getElem_toArray, List.getElem_cons_zero, List.getElem_cons_succ, List.setIfInBounds_toArray, List.set_cons_zero, List.set_cons_succ]
              refine wpAnyH_take (i := 4) (v := ?_) rfl (by kernel_rfl) (by kernel_rfl) (by kernel_rfl) (fun _ _ _ h => h) (Or.inl ⟨by rfl, ?hy55⟩) (by assumption) ?ty55
              case hy55 => (intro w hSw; (try dsimp only at hSw); go_simp; all_goals with_reducible rfl)
              simp only [Act.put, List.getElem_toArray, List.getElem_cons_zero, List.getElem_cons_succ, List.setIfInBounds_toArray, List.set_cons_zero, List.set_cons_succ]
              refine wpAnyH_take (i := 5) (v := ?_) rfl (by kernel_rfl) (by kernel_rfl) (by kernel_rfl) (fun _ _ _ h => h) (Or.inl ⟨by rfl, ?hy56⟩) (by assumption) ?ty56
              case hy56 => (intro w hSw; (try dsimp only at hSw); go_simp; all_goals with_reducible rfl)
              simp only [Act.put, List.getElem_toArray, List.getElem_cons_zero, List.getElem_cons_succ, List.setIfInBounds_toArray, List.set_cons_zero, List.set_cons_succ]
              refine wpAnyH_ready (rs := [2]) (by kernel_rfl) (by simp) ?_
              refine AllReadyH.cons rfl (fun K hK => ?_) AllReadyH.nil
              go_simp
              refine (HES.out _ (by exact hs5)).mono ?_
              rintro e z1 ⟨v7, rfl, hown7, hbx⟩
              simp only
              obtain ⟨b7, c7, rfl, -, -⟩ := hown7.form
              clear hown7
              have HZ : Hid (Below wr.heap.size wr z1) := (Below.refl _ _).drew.trans hbx
              have hsS := (HZ.out.cell (p := ⟨g8, 0, none⟩) hg5).trans q0
              refine hK.out _ _ hsS (fun hHeld => ?_)
              clear hK K
              clear hbx
              refine wpAnyH_take (i := 3) (v := ?_) rfl (by kernel_rfl) (by kernel_rfl) (by kernel_rfl) (fun _ _ _ h => h) (Or.inl ⟨by rfl, ?hy57⟩) (by assumption) ?ty57
              case hy57 => (intro w hSw; (try dsimp only at hSw); go_simp; all_goals with_reducible rfl)
              simp only [Act.put, List.getElem_toArray, List.getElem_cons_zero, List.getElem_cons_succ, List.setIfInBounds_toArray, List.set_cons_zero, List.set_cons_succ]
              refine wpAnyH_take (i := 6) (v := .bool true) rfl (by kernel_rfl) (by kernel_rfl) (by kernel_rfl) (fun _ _ _ h => h) (Or.inl ⟨by rfl, ?hy58⟩) (by assumption) ?ty58
              case hy58 => (intro w hSw; (try dsimp only at hSw); go_simp; first | (simp; done) | (all_goals with_reducible rfl))
              simp only [Act.put, List.getElem_toArray, List.getElem_cons_zero, List.getElem_cons_succ, List.setIfInBounds_toArray, List.set_cons_zero, List.set_cons_succ]
              refine wpAnyH_take (i := 7) (v := ?_) rfl (by kernel_rfl) (by kernel_rfl) (by kernel_rfl) (fun _ _ _ h => h) (Or.inl ⟨by rfl, ?hy59⟩) (by assumption) ?ty59
              case hy59 => (intro w hSw; (try dsimp only at hSw); go_simp; all_goals with_reducible rfl)
              simp only [Act.put, List.getElem_toArray, List.getElem_cons_zero, List.getElem_cons_succ, List.setIfInBounds_toArray, List.set_cons_zero, List.set_cons_succ]
              refine wpAnyH_take (i := 8) (v := ?_) rfl (by kernel_rfl) (by kernel_rfl) (by kernel_rfl) (fun _ _ _ h => h) (Or.inl ⟨by rfl, ?hy60⟩) (by assumption) ?ty60
              case hy60 => (intro w hSw; (try dsimp only at hSw); go_simp; all_goals with_reducible rfl)
              simp only [Act.put, List.getElem_toArray, List.getElem_cons_zero, List.getElem_cons_succ, List.setIfInBounds_toArray, List.set_cons_zero, List.set_cons_succ]
              refine wpAnyH_take (i := 9) (v := ?_) rfl (by kernel_rfl) (by kernel_rfl) (by kernel_rfl) (fun _ _ _ h => h) (Or.inl ⟨by rfl, ?hy61⟩) (by assumption) ?ty61
              case hy61 => (intro w hSw; (try dsimp only at hSw); go_simp; all_goals with_reducible rfl)
              simp only [Act.put, List.getElem_toArray, List.getElem_cons_zero, List.getElem_cons_succ, List.setIfInBounds_toArray, List.set_cons_zero, List.set_cons_succ]
              refine wpAnyH_take (i := 10) (v := .bool false) rfl (by kernel_rfl) (by kernel_rfl) (by kernel_rfl) (fun _ _ _ h => h) (Or.inl ⟨by rfl, ?hy62⟩) (by assumption) ?ty62
              case hy62 => (intro w hSw; (try dsimp only at hSw); go_simp; first | (simp; done) | (all_goals with_reducible rfl))
              simp only [Act.put, List.getElem_toArray, List.getElem_cons_zero, List.getElem_cons_succ, List.setIfInBounds_toArray, List.set_cons_zero, List.set_cons_succ]
              refine wpAnyH_take (i := 11) (v := ?_) rfl (by kernel_rfl) (by kernel_rfl) (by kernel_rfl) (fun _ _ _ h => h) (Or.inl ⟨by rfl, ?hy63⟩) (by assumption) ?ty63
              case hy63 => (intro w hSw; (try dsimp only at hSw); go_simp; all_goals with_reducible rfl)
              simp only [Act.put, List.getElem_toArray, List.getElem_cons_zero, List.getElem_cons_succ, List.setIfInBounds_toArray, List.set_cons_zero, List.set_cons_succ]
              refine wpAnyH_take (i := 12) (v := ?_) rfl (by kernel_rfl) (by kernel_rfl) (by kernel_rfl) (fun _ _ _ h => h) (Or.inl ⟨by rfl, ?hy64⟩) (by assumption) ?ty64
              case hy64 => (intro w hSw; (try dsimp only at hSw); go_simp; all_goals with_reducible rfl)
              simp only [Act.put, List.getElem_toArray, List.getElem_cons_zero, List.getElem_cons_succ, List.setIfInBounds_toArray, List.set_cons_zero, List.set_cons_succ]
              refine wpAnyH_take (i := 13) (v := ?_) rfl (by kernel_rfl) (by kernel_rfl) (by kernel_rfl) (fun _ _ _ h => h) (Or.inl ⟨by rfl, ?hy65⟩) (by assumption) ?ty65
              case hy65 => (intro w hSw; (try dsimp only at hSw); go_simp; all_goals with_reducible rfl)
              simp only [Act.put, List.getElem_toArray, List.getElem_cons_zero, List.getElem_cons_succ, List.setIfInBounds_toArray, List.set_cons_zero, List.set_cons_succ]
              refine wpAnyH_take (i := 14) (v := ?_) rfl (by kernel_rfl) (by kernel_rfl) (by kernel_rfl) (fun _ _ _ h => h) (Or.inl ⟨by rfl, ?hy66⟩) (by assumption) ?ty66
              case hy66 => (intro w hSw; (try dsimp only at hSw); go_simp; all_goals with_reducible rfl)
              simp only [Act.put, List.getElem_toArray, List.getElem_cons_zero, List.getElem_cons_succ, List.setIfInBounds_toArray, List.set_cons_zero, List.set_cons_succ]
              refine wpAnyH_take (i := 15) (v := ?_) rfl (by kernel_rfl) (by kernel_rfl) (by kernel_rfl) (fun _ _ _ h => h) (Or.inl ⟨by rfl, ?hy67⟩) (by assumption) ?ty67
              case hy67 => (intro w hSw; (try dsimp only at hSw); go_simp; all_goals with_reducible rfl)
              simp only [Act.put, List.getElem_toArray, List.getElem_cons_zero, List.getElem_cons_succ, List.setIfInBounds_toArray, List.set_cons_zero, List.set_cons_succ]
              refine wpAnyH_take (i := 16) (v := ?_) rfl (by kernel_rfl) (by kernel_rfl) (by kernel_rfl) (fun _ _ _ h => h) (Or.inl ⟨by rfl, ?hy68⟩) (by assumption) ?ty68
              case hy68 => (intro w hSw; (try dsimp only at hSw); go_simp; all_goals with_reducible rfl)
              simp only [Act.put, List.getElem_toArray, List.getElem_cons_zero, List.getElem_cons_succ, List.setIfInBounds_toArray, List.set_cons_zero, List.set_cons_succ]
              refine wpAnyH_done (by kernel_rfl) ?_ _
              clear hsS
              have HF : Hid (Below w.heap.size w z1) := HB5.out.trans (HZ.out.mono HB5.out.size)
              clear hHeld HZ HES HB5
              go_wp2
              go_ret
              exact ⟨rfl, HF.out⟩
            · have e8 : (e0 != 8) = true := by simpa using h8
              clear HLK HDE
              generalize s.all (hasV c) = al at *
              go_wp2_with fail
              refine wp_region_held_drew (S := fun w' => w'.cell? ⟨g8, 0, none⟩ = some (.int .i64 e0)) (by kernel_rfl) ?hS69 (fun hHeld => ?_)
              case hS69 => exact q0
              refine wpAnyH_take (i := 0) (v := ?_) rfl (by kernel_rfl) (by kernel_rfl) (by kernel_rfl) (fun _ _ _ h => h) (Or.inl ⟨by rfl, ?hy70⟩) (by assumption) ?ty70
              case hy70 => (intro w hSw; (try dsimp only at hSw); go_simp; all_goals with_reducible rfl)
              simp only [Act.put, List.getElem_toArray, List.getElem_cons_zero, List.setIfInBounds_toArray, List.set_cons_zero, List.set_cons_succ]
              refine wpAnyH_take (i := 1) (v := ?_) rfl (by kernel_rfl) (by kernel_rfl) (by kernel_rfl) (fun _ _ _ h => h) (Or.inl ⟨by rfl, ?hy71⟩) (by assumption) ?ty71
              case hy71 => (intro w hSw; (try dsimp only at hSw); go_simp; all_goals with_reducible rfl)
              simp only [Act.put, List.getElem_toArray, List.getElem_cons_zero, List.getElem_cons_succ, List.setIfInBounds_toArray, List.set_cons_zero, List.set_cons_succ]
              refine wpAnyH_take (i := 4) (v := ?_) rfl (by kernel_rfl) (by kernel_rfl) (by kernel_rfl) (fun _ _ _ h => h) (Or.inl ⟨by rfl, ?hy72⟩) (by assumption) ?ty72
              case hy72 => (intro w hSw; (try dsimp only at hSw); go_simp; all_goals with_reducible rfl)
              simp only [Act.put, List.getElem_toArray, List.getElem_cons_zero, List.getElem_cons_succ, List.setIfInBounds_toArray, List.set_cons_zero, List.set_cons_succ]
              refine wpAnyH_take (i := 5) (v := ?_) rfl (by kernel_rfl) (by kernel_rfl) (by kernel_rfl) (fun _ _ _ h => h) (Or.inl ⟨by rfl, ?hy73⟩) (by assumption) ?ty73
              case hy73 => (intro w hSw; (try dsimp only at hSw); go_simp; all_goals with_reducible rfl)
              simp only [Act.put, List.getElem_toArray, List.getElem_cons_zero, List.getElem_cons_succ, List.setIfInBounds_toArray, List.set_cons_zero, List.set_cons_succ]
              refine wpAnyH_ready (rs := [2]) (by kernel_rfl) (by simp) ?_
              refine AllReadyH.cons rfl (fun K hK => ?_) AllReadyH.nil
              go_simp
              refine (HES.out _ (by exact hs5)).mono ?_
              rintro e z1 ⟨v7, rfl, hown7, hbx⟩
              simp only
              obtain ⟨b7, c7, rfl, -, -⟩ := hown7.form
              clear hown7
              have HZ : Hid (Below wr.heap.size wr z1) := (Below.refl _ _).drew.trans hbx
              have hsS := (HZ.out.cell (p := ⟨g8, 0, none⟩) hg5).trans q0
              refine hK.out _ _ hsS (fun hHeld => ?_)
              clear hK K
              clear hbx
              refine wpAnyH_take (i := 3) (v := ?_) rfl (by kernel_rfl) (by kernel_rfl) (by kernel_rfl) (fun _ _ _ h => h) (Or.inl ⟨by rfl, ?hy74⟩) (by assumption) ?ty74
              case hy74 => (intro w hSw; (try dsimp only at hSw); go_simp; all_goals with_reducible rfl)
              simp only [Act.put, List.getElem_toArray, List.getElem_cons_zero, List.getElem_cons_succ, List.setIfInBounds_toArray, List.set_cons_zero, List.set_cons_succ]
              refine wpAnyH_take (i := 6) (v := .bool true) rfl (by kernel_rfl) (by kernel_rfl) (by kernel_rfl) (fun _ _ _ h => h) (Or.inl ⟨by rfl, ?hy75⟩) (by assumption) ?ty75
              case hy75 => (intro w hSw; (try dsimp only at hSw); go_simp; first | (simp; done) | (all_goals with_reducible rfl))
              simp only [Act.put, List.getElem_toArray, List.getElem_cons_zero, List.getElem_cons_succ, List.setIfInBounds_toArray, List.set_cons_zero, List.set_cons_succ]
              refine wpAnyH_take (i := 7) (v := ?_) rfl (by kernel_rfl) (by kernel_rfl) (by kernel_rfl) (fun _ _ _ h => h) (Or.inl ⟨by rfl, ?hy76⟩) (by assumption) ?ty76
              case hy76 => (intro w hSw; (try dsimp only at hSw); go_simp; all_goals with_reducible rfl)
              simp only [Act.put, List.getElem_toArray, List.getElem_cons_zero, List.getElem_cons_succ, List.setIfInBounds_toArray, List.set_cons_zero, List.set_cons_succ]
              refine wpAnyH_take (i := 8) (v := ?_) rfl (by kernel_rfl) (by kernel_rfl) (by kernel_rfl) (fun _ _ _ h => h) (Or.inl ⟨by rfl, ?hy77⟩) (by assumption) ?ty77
              case hy77 => (intro w hSw; (try dsimp only at hSw); go_simp; all_goals with_reducible rfl)
              simp only [Act.put, List.getElem_toArray, List.getElem_cons_zero, List.getElem_cons_succ, List.setIfInBounds_toArray, List.set_cons_zero, List.set_cons_succ]
              refine wpAnyH_take (i := 9) (v := ?_) rfl (by kernel_rfl) (by kernel_rfl) (by kernel_rfl) (fun _ _ _ h => h) (Or.inl ⟨by rfl, ?hy78⟩) (by assumption) ?ty78
              case hy78 => (intro w hSw; (try dsimp only at hSw); go_simp; all_goals with_reducible rfl)
              simp only [Act.put, List.getElem_toArray, List.getElem_cons_zero, List.getElem_cons_succ, List.setIfInBounds_toArray, List.set_cons_zero, List.set_cons_succ]
              refine wpAnyH_take (i := 10) (v := .bool true) rfl (by kernel_rfl) (by kernel_rfl) (by kernel_rfl) (fun _ _ _ h => h) (Or.inl ⟨by rfl, ?hy79⟩) (by assumption) ?ty79
              case hy79 => (intro w hSw; (try dsimp only at hSw); go_simp; first | (simp; done) | (all_goals with_reducible rfl))
              simp only [Act.put, List.getElem_toArray, List.getElem_cons_zero, List.getElem_cons_succ, List.setIfInBounds_toArray, List.set_cons_zero, List.set_cons_succ]
              refine wpAnyH_take (i := 11) (v := ?_) rfl (by kernel_rfl) (by kernel_rfl) (by kernel_rfl) (fun _ _ _ h => h) (Or.inl ⟨by rfl, ?hy80⟩) (by assumption) ?ty80
              case hy80 => (intro w hSw; (try dsimp only at hSw); go_simp; all_goals with_reducible rfl)
              simp only [Act.put, List.getElem_toArray, List.getElem_cons_zero, List.getElem_cons_succ, List.setIfInBounds_toArray, List.set_cons_zero, List.set_cons_succ]
              refine wpAnyH_take (i := 12) (v := undef) rfl (by kernel_rfl) (by kernel_rfl) (by kernel_rfl) (fun _ _ _ h => h) (Or.inr ⟨by rfl, rfl⟩) (by assumption) ?_
              simp only [Act.put, List.getElem_toArray, List.getElem_cons_zero, List.getElem_cons_succ, List.setIfInBounds_toArray, List.set_cons_zero, List.set_cons_succ]
              refine wpAnyH_take (i := 13) (v := undef) rfl (by kernel_rfl) (by kernel_rfl) (by kernel_rfl) (fun _ _ _ h => h) (Or.inr ⟨by rfl, rfl⟩) (by assumption) ?_
              simp only [Act.put, List.getElem_toArray, List.getElem_cons_zero, List.getElem_cons_succ, List.setIfInBounds_toArray, List.set_cons_zero, List.set_cons_succ]
              refine wpAnyH_take (i := 14) (v := ?_) rfl (by kernel_rfl) (by kernel_rfl) (by kernel_rfl) (fun _ _ _ h => h) (Or.inl ⟨by rfl, ?hy81⟩) (by assumption) ?ty81
              case hy81 => (intro w hSw; (try dsimp only at hSw); go_simp; all_goals with_reducible rfl)
              simp only [Act.put, List.getElem_toArray, List.getElem_cons_zero, List.getElem_cons_succ, List.setIfInBounds_toArray, List.set_cons_zero, List.set_cons_succ]
              refine wpAnyH_take (i := 15) (v := ?_) rfl (by kernel_rfl) (by kernel_rfl) (by kernel_rfl) (fun _ _ _ h => h) (Or.inl ⟨by rfl, ?hy82⟩) (by assumption) ?ty82
              case hy82 => (intro w hSw; (try dsimp only at hSw); go_simp; all_goals with_reducible rfl)
              simp only [Act.put, List.getElem_toArray, List.getElem_cons_zero, List.getElem_cons_succ, List.setIfInBounds_toArray, List.set_cons_zero, List.set_cons_succ]
              refine wpAnyH_take (i := 16) (v := ?_) rfl (by kernel_rfl) (by kernel_rfl) (by kernel_rfl) (fun _ _ _ h => h) (Or.inl ⟨by rfl, ?hy83⟩) (by assumption) ?ty83
              case hy83 => (intro w hSw; (try dsimp only at hSw); go_simp; all_goals with_reducible rfl)
              simp only [Act.put, List.getElem_toArray, List.getElem_cons_zero, List.getElem_cons_succ, List.setIfInBounds_toArray, List.set_cons_zero, List.set_cons_succ]
              refine wpAnyH_done (by kernel_rfl) ?_ _
              clear hsS
              have HF : Hid (Below w.heap.size w z1) := HB5.out.trans (HZ.out.mono HB5.out.size)
              clear hHeld HZ HES HB5
              go_wp2
              go_ret
              exact ⟨rfl, HF.out⟩
    · subst hu0
      clear HED
      have en0 : (d0 != 0) = true := by simp; omega
      have ee0 : (d0 == 0) = false := by simp; omega
      refine wp_region_held_drew (S := fun w' => w'.cell? ⟨g, 0, none⟩ = some (.int .i64 d0) ∧ w'.cell? ⟨g, 1, none⟩ = some (.slice b2 N c2)) (by kernel_rfl) ?hS84 (fun hHeld => ?_)
      case hS84 => exact ⟨k0, k1⟩
      refine wpAnyH_take (i := 0) (v := ?_) rfl (by kernel_rfl) (by kernel_rfl) (by kernel_rfl) (fun _ _ _ h => h) (Or.inl ⟨by rfl, ?hy85⟩) (by assumption) ?ty85
      case hy85 => (intro w hSw; (try dsimp only at hSw); go_simp; all_goals with_reducible rfl)
      simp only [Act.put, List.getElem_toArray, List.getElem_cons_zero, List.setIfInBounds_toArray, List.set_cons_zero, List.set_cons_succ]
      refine wpAnyH_take (i := 1) (v := ?_) rfl (by kernel_rfl) (by kernel_rfl) (by kernel_rfl) (fun _ _ _ h => h) (Or.inl ⟨by rfl, ?hy86⟩) (by assumption) ?ty86
      case hy86 => (intro w hSw; (try dsimp only at hSw); go_simp; all_goals with_reducible rfl)
      simp only [Act.put, List.getElem_toArray, List.getElem_cons_zero, List.getElem_cons_succ, List.setIfInBounds_toArray, List.set_cons_zero, List.set_cons_succ]
      refine wpAnyH_take (i := 2) (v := ?_) rfl (by kernel_rfl) (by kernel_rfl) (by kernel_rfl) (fun _ _ _ h => h) (Or.inl ⟨by rfl, ?hy87⟩) (by assumption) ?ty87
      case hy87 => (intro w hSw; (try dsimp only at hSw); go_simp; all_goals with_reducible rfl)
      simp only [Act.put, List.getElem_toArray, List.getElem_cons_zero, List.getElem_cons_succ, List.setIfInBounds_toArray, List.set_cons_zero, List.set_cons_succ]
      refine wpAnyH_take (i := 3) (v := ?_) rfl (by kernel_rfl) (by kernel_rfl) (by kernel_rfl) (fun _ _ _ h => h) (Or.inl ⟨by rfl, ?hy88⟩) (by assumption) ?ty88
      case hy88 => (intro w hSw; (try dsimp only at hSw); go_simp; all_goals with_reducible rfl)
      simp only [Act.put, List.getElem_toArray, List.getElem_cons_zero, List.getElem_cons_succ, List.setIfInBounds_toArray, List.set_cons_zero, List.set_cons_succ]
      refine wpAnyH_ready (rs := [4]) (by kernel_rfl) (by simp) ?_
      refine AllReadyH.cons rfl (fun K hK => ?_) AllReadyH.nil
      go_simp
      refine (HDS.out _ (by exact hd2)).mono ?_
      rintro e y1 ⟨v3, rfl, hown3, hbx⟩
      simp only
      obtain ⟨b3, c3, rfl, -, -⟩ := hown3.form
      clear hown3
      have HW_y1 : Hid (Below W.heap.size W y1) := (Below.refl _ _).drew.trans hbx
      have hsS : y1.cell? ⟨g, 0, none⟩ = some (.int .i64 d0) ∧ y1.cell? ⟨g, 1, none⟩ = some (.slice b2 N c2) := ⟨(HW_y1.out.cell (p := ⟨g, 0, none⟩) hgg).trans k0, (HW_y1.out.cell (p := ⟨g, 1, none⟩) hgg).trans k1⟩
      refine hK.out _ _ hsS (fun hHeld => ?_)
      clear hK K
      have hsP := hsS
      clear hsS hbx
      refine wpAnyH_take (i := 5) (v := ?_) rfl (by kernel_rfl) (by kernel_rfl) (by kernel_rfl) (fun _ _ _ h => h) (Or.inl ⟨by rfl, ?hy89⟩) (by assumption) ?ty89
      case hy89 => (intro w hSw; (try dsimp only at hSw); go_simp; all_goals with_reducible rfl)
      simp only [Act.put, List.getElem_toArray, List.getElem_cons_zero, List.getElem_cons_succ, List.setIfInBounds_toArray, List.set_cons_zero, List.set_cons_succ]
      refine wpAnyH_take (i := 6) (v := .bool false) rfl (by kernel_rfl) (by kernel_rfl) (by kernel_rfl) (fun _ _ _ h => h) (Or.inl ⟨by rfl, ?hy90⟩) (by assumption) ?ty90
      case hy90 => (intro w hSw; (try dsimp only at hSw); go_simp; first | (simp; done) | (all_goals with_reducible rfl))
      simp only [Act.put, List.getElem_toArray, List.getElem_cons_zero, List.getElem_cons_succ, List.setIfInBounds_toArray, List.set_cons_zero, List.set_cons_succ]
      refine wpAnyH_take (i := 7) (v := ?_) rfl (by kernel_rfl) (by kernel_rfl) (by kernel_rfl) (fun _ _ _ h => h) (Or.inl ⟨by rfl, ?hy91⟩) (by assumption) ?ty91
      case hy91 => (intro w hSw; (try dsimp only at hSw); go_simp; all_goals with_reducible rfl)
      simp only [Act.put, List.getElem_toArray, List.getElem_cons_zero, List.getElem_cons_succ, List.setIfInBounds_toArray, List.set_cons_zero, List.set_cons_succ]
      refine wpAnyH_take (i := 8) (v := ?_) rfl (by kernel_rfl) (by kernel_rfl) (by kernel_rfl) (fun _ _ _ h => h) (Or.inl ⟨by rfl, ?hy92⟩) (by assumption) ?ty92
      case hy92 => (intro w hSw; (try dsimp only at hSw); go_simp; all_goals with_reducible rfl)
      simp only [Act.put, List.getElem_toArray, List.getElem_cons_zero, List.getElem_cons_succ, List.setIfInBounds_toArray, List.set_cons_zero, List.set_cons_succ]
      refine wpAnyH_take (i := 9) (v := ?_) rfl (by kernel_rfl) (by kernel_rfl) (by kernel_rfl) (fun _ _ _ h => h) (Or.inl ⟨by rfl, ?hy93⟩) (by assumption) ?ty93
      case hy93 => (intro w hSw; (try dsimp only at hSw); go_simp; all_goals with_reducible rfl)
      simp only [Act.put, List.getElem_toArray, List.getElem_cons_zero, List.getElem_cons_succ, List.setIfInBounds_toArray, List.set_cons_zero, List.set_cons_succ]
      refine wpAnyH_take (i := 10) (v := .bool false) rfl (by kernel_rfl) (by kernel_rfl) (by kernel_rfl) (fun _ _ _ h => h) (Or.inl ⟨by rfl, ?hy94⟩) (by assumption) ?ty94
      case hy94 => (intro w hSw; (try dsimp only at hSw); go_simp; first | (simp; done) | (all_goals with_reducible rfl))
      simp only [Act.put, List.getElem_toArray, List.getElem_cons_zero, List.getElem_cons_succ, List.setIfInBounds_toArray, List.set_cons_zero, List.set_cons_succ]
      refine wpAnyH_take (i := 11) (v := ?_) rfl (by kernel_rfl) (by kernel_rfl) (by kernel_rfl) (fun _ _ _ h => h) (Or.inl ⟨by rfl, ?hy95⟩) (by assumption) ?ty95
      case hy95 => (intro w hSw; (try dsimp only at hSw); go_simp; all_goals with_reducible rfl)
      simp only [Act.put, List.getElem_toArray, List.getElem_cons_zero, List.getElem_cons_succ, List.setIfInBounds_toArray, List.set_cons_zero, List.set_cons_succ]
      refine wpAnyH_take (i := 12) (v := undef) rfl (by kernel_rfl) (by kernel_rfl) (by kernel_rfl) (fun _ _ _ h => h) (Or.inr ⟨by rfl, rfl⟩) (by assumption) ?_
      simp only [Act.put, List.getElem_toArray, List.getElem_cons_zero, List.getElem_cons_succ, List.setIfInBounds_toArray, List.set_cons_zero, List.set_cons_succ]
      refine wpAnyH_take (i := 13) (v := undef) rfl (by kernel_rfl) (by kernel_rfl) (by kernel_rfl) (fun _ _ _ h => h) (Or.inr ⟨by rfl, rfl⟩) (by assumption) ?_
      simp only [Act.put, List.getElem_toArray, List.getElem_cons_zero, List.getElem_cons_succ, List.setIfInBounds_toArray, List.set_cons_zero, List.set_cons_succ]
      refine wpAnyH_take (i := 14) (v := undef) rfl (by kernel_rfl) (by kernel_rfl) (by kernel_rfl) (fun _ _ _ h => h) (Or.inr ⟨by rfl, rfl⟩) (by assumption) ?_
      simp only [Act.put, List.getElem_toArray, List.getElem_cons_zero, List.getElem_cons_succ, List.setIfInBounds_toArray, List.set_cons_zero, List.set_cons_succ]
      refine wpAnyH_take (i := 15) (v := undef) rfl (by kernel_rfl) (by kernel_rfl) (by kernel_rfl) (fun _ _ _ h => h) (Or.inr ⟨by rfl, rfl⟩) (by assumption) ?_
      simp only [Act.put, List.getElem_toArray, List.getElem_cons_zero, List.getElem_cons_succ, List.setIfInBounds_toArray, List.set_cons_zero, List.set_cons_succ]
      refine wpAnyH_take (i := 16) (v := undef) rfl (by kernel_rfl) (by kernel_rfl) (by kernel_rfl) (fun _ _ _ h => h) (Or.inr ⟨by rfl, rfl⟩) (by assumption) ?_
      simp only [Act.put, List.getElem_toArray, List.getElem_cons_zero, List.getElem_cons_succ, List.setIfInBounds_toArray, List.set_cons_zero, List.set_cons_succ]
      refine wpAnyH_take (i := 17) (v := undef) rfl (by kernel_rfl) (by kernel_rfl) (by kernel_rfl) (fun _ _ _ h => h) (Or.inr ⟨by rfl, rfl⟩) (by assumption) ?_
      simp only [Act.put, List.getElem_toArray, List.getElem_cons_zero, List.getElem_cons_succ, List.setIfInBounds_toArray, List.set_cons_zero, List.set_cons_succ]
      refine wpAnyH_take (i := 18) (v := undef) rfl (by kernel_rfl) (by kernel_rfl) (by kernel_rfl) (fun _ _ _ h => h) (Or.inr ⟨by rfl, rfl⟩) (by assumption) ?_
      simp only [Act.put, List.getElem_toArray, List.getElem_cons_zero, List.getElem_cons_succ, List.setIfInBounds_toArray, List.set_cons_zero, List.set_cons_succ]
      refine wpAnyH_take (i := 19) (v := undef) rfl (by kernel_rfl) (by kernel_rfl) (by kernel_rfl) (fun _ _ _ h => h) (Or.inr ⟨by rfl, rfl⟩) (by assumption) ?_
      simp only [Act.put, List.getElem_toArray, List.getElem_cons_zero, List.getElem_cons_succ, List.setIfInBounds_toArray, List.set_cons_zero, List.set_cons_succ]
      refine wpAnyH_take (i := 20) (v := ?_) rfl (by kernel_rfl) (by kernel_rfl) (by kernel_rfl) (fun _ _ _ h => h) (Or.inl ⟨by rfl, ?hy96⟩) (by assumption) ?ty96
      case hy96 => (intro w hSw; (try dsimp only at hSw); go_simp; all_goals with_reducible rfl)
      simp only [Act.put, List.getElem_toArray, List.getElem_cons_zero, List.getElem_cons_succ, List.setIfInBounds_toArray, List.set_cons_zero, List.set_cons_succ]
      refine wpAnyH_take (i := 21) (v := ?_) rfl (by kernel_rfl) (by kernel_rfl) (by kernel_rfl) (fun _ _ _ h => h) (Or.inl ⟨by rfl, ?hy97⟩) (by assumption) ?ty97
      case hy97 => (intro w hSw; (try dsimp only at hSw); go_simp; all_goals with_reducible rfl)
      simp only [Act.put, List.getElem_toArray, List.getElem_cons_zero, List.getElem_cons_succ, List.setIfInBounds_toArray, List.set_cons_zero, List.set_cons_succ]
      refine wpAnyH_done (by kernel_rfl) ?_ _
      have HBF : Hid (Below w.heap.size w y1) := HB2.out.trans (HW_y1.out.mono HB2.out.size)
      clear hHeld hsP HW_y1 HB2 HDS hd2 hu2 k0 k1 hgg hsW
      generalize y1 = wE at HBF ⊢
      have HBE : Hid (Below w.heap.size w wE) := HBF.out
      clear HBF
      go_wp2_with fail
      refine (drawEncodeText_any a n cap l _ hl (hr.below HBE.out) hB (by omega)).mono ?_
      rintro e w3 ⟨c, v3, s, rfl, ⟨ap, m, mc, rfl, hsl, hmc, hm1, hrs⟩, hb3⟩
      have HB3 : Hid (Below w.heap.size w w3) := HBE.out.trans (hb3.mono HBE.out.size)
      clear hb3 HBE
      have HEI : Hid (∀ w, RdI w ap s → Calls Try.prog 16 #[.int .i64 c, .slice ap m mc] w fun e w' => BytEnd (encT c s) w e w') := fun w h1 => encodeText_any c ap m mc s w hsl h1 (by omega)
      have HES : Hid (∀ w, RdI w ap s → Calls Try.prog 19 #[.int .i64 c, .slice ap m mc] w fun e w' => BytEnd (encT c s) w e w') := fun w h1 => specEncodeText_any c ap m mc s w hsl h1 (by omega)
      have HDE : Hid (∀ b, encT c s = (0, b) → decT c b = (0, s) ∧ flt s = 0 ∧ s.all (hasV c) = true ∧ IsB b) := fun b h => dec_enc h
      have HLK : Hid (∀ b, encT c s = (8, b) → s.all (hasV c) = false) := fun b h => enc_lacks h
      have hcod := encT_codes c s
      have hfewE := encT_few c s
      have HSL : Hid (s.length = m) := hsl
      generalize encT c s = E at *
      obtain ⟨e0, eb⟩ := E
      simp only at hcod hfewE
      clear hsl
      obtain ⟨X, hX⟩ : ∃ X, eb.length = X := ⟨_, rfl⟩
      have HX : Hid (eb.length = X) := hX
      rw [hX] at hfewE
      clear hX
      go_wp2_with fail
      refine (HEI.out _ hrs).mono ?_
      rintro e w4 ⟨v4, rfl, hown4, hb4⟩
      simp only at hown4 ⊢
      obtain ⟨b4, c4, hv, hc4, -⟩ := hown4.form
      rw [HX.out] at hv hc4
      rw [hv] at hown4 ⊢
      clear hv
      have hbA : Below w4.heap.size w4 (w4.alloc (.cells #[.int .i64 e0, .slice b4 X c4] 32)) := (Below.refl _ _).alloc (Nat.le_refl _) _
      have hX4 : Below w3.heap.size w3 (w4.alloc (.cells #[.int .i64 e0, .slice b4 X c4] 32)) := hb4.trans (hbA.mono hb4.size)
      have HB4 : Hid (Below w.heap.size w (w4.alloc (.cells #[.int .i64 e0, .slice b4 X c4] 32))) := HB3.out.trans (hX4.mono HB3.out.size)
      have hs4 : Hid (RdI (w4.alloc (.cells #[.int .i64 e0, .slice b4 X c4] 32)) ap s) := hrs.below hX4
      have he4 : Hid (Rd (w4.alloc (.cells #[.int .i64 e0, .slice b4 X c4] 32)) b4 eb) := hown4.rd.2.below hbA
      have hq4 := res_block (w := w4) (wr := w4.alloc (.cells #[.int .i64 e0, .slice b4 X c4] 32)) rfl (Below.refl _ _)
      have Q0 : Hid ((w4.alloc (.cells #[.int .i64 e0, .slice b4 X c4] 32)).cell? ⟨w4.heap.size, 0, none⟩ = some (.int .i64 e0)) := hq4.1
      have Q1 : Hid ((w4.alloc (.cells #[.int .i64 e0, .slice b4 X c4] 32)).cell? ⟨w4.heap.size, 1, none⟩ = some (.slice b4 X c4)) := hq4.2.1
      have hsW4 : (w4.alloc (.cells #[.int .i64 e0, .slice b4 X c4] 32)).heap.size = w4.heap.size + 1 := by simp
      clear hb4 hX4 hrs HEI hown4 hbA HB3 hq4
      go_wp2_with fail
      generalize w4.alloc (.cells #[.int .i64 e0, .slice b4 X c4] 32) = V at *
      generalize w4.heap.size = g8 at *
      have hg8 : g8 < V.heap.size := by omega
      go_loopw [9, 10] (fun al i wr => ∃ j : Nat, j ≤ m ∧ i = .int .i64 j ∧ al = .bool ((s.take j).all (hasV c)) ∧ Below V.heap.size V wr) (fun _ i _ => m - (intOf i).toNat)
      case atStart => exact ⟨0, Nat.zero_le _, rfl, by simp, Below.refl _ _⟩
      case round =>
        obtain ⟨j, hj, rfl, rfl, hbel⟩ := hrel
        by_cases hjm : j < m
        · obtain ⟨b, off, rfl, hblt, hcell⟩ := RdI.at_ hs4.out (by have := HSL.out; omega)
          have hc : wr.cell? ⟨b, off + j, none⟩ = some (.int .i64 (nthI s j)) := (hbel.cell (p := ⟨b, off + j, none⟩) hblt).trans (hcell j (by have := HSL.out; omega))
          have hji : (j : Int) < (m : Int) := by omega
          have HT : Hid ((s.take (j + 1)).all (hasV c) = ((s.take j).all (hasV c) && hasV c (nthI s j))) := by
            show _ = _
            rw [take_snocI s j (by have := HSL.out; omega), List.all_append]; simp
          have HH : Hid (∀ w, Calls Try.prog 18 #[.int .i64 c, .int .i64 (nthI s j)] w fun e w' => e = .returned (.bool (hasV c (nthI s j))) ∧ Below w.heap.size w w') := hasChar_any c (nthI s j)
          generalize hasV c (nthI s j) = hv at *
          generalize nthI s j = x at *
          generalize (s.take j).all (hasV c) = al at *
          clear hcell
          cases al with
          | true =>
            go_wp2_with fail
            refine (HH.out _).mono ?_
            rintro e w5 ⟨rfl, hb5⟩
            have hbel5 := hbel.trans (hb5.mono hbel.size)
            clear hb5 HH
            go_wp2
            go_roundw
            case rel => exact ⟨j + 1, by omega, by go_num, by rw [HT.out]; simp, hbel5⟩
            case measure => simp [intOf]; omega
          | false =>
            go_wp2
            go_roundw
            case rel => exact ⟨j + 1, by omega, by go_num, by rw [HT.out]; simp, hbel⟩
            case measure => simp [intOf]; omega
        · have hji : ¬ (j : Int) < (m : Int) := by omega
          have hall : (s.take j).all (hasV c) = s.all (hasV c) := by rw [show j = s.length by have := HSL.out; omega, List.take_length]
          rw [hall]
          clear hall
          have q0 := (hbel.cell (p := ⟨g8, 0, none⟩) hg8).trans Q0.out
          have q1 := (hbel.cell (p := ⟨g8, 1, none⟩) hg8).trans Q1.out
          have hs5 : RdI wr ap s := RdI.below hs4.out hbel
          have he5 : Rd wr b4 eb := Rd.below he4.out hbel
          have HB5 : Hid (Below w.heap.size w wr) := HB4.out.trans (hbel.mono HB4.out.size)
          have hg5 : g8 < wr.heap.size := Nat.lt_of_lt_of_le hg8 hbel.size
          clear hs4 he4 Q0 Q1 HB4 hbel hsW4 hg8
          rcases hcod with rfl | ⟨hneE, hb0⟩
          · obtain ⟨p1, p2, p3, p4⟩ := HDE.out _ rfl
            rw [p3]
            have HDB : Hid (∀ w, Rd w b4 eb → Calls Try.prog 13 #[.int .i64 c, .slice b4 X c4] w fun e w' => CodEnd (0, s) w e w') := fun w h1 => by
              have h := decodeText_any c b4 X c4 eb w HX.out h1 p4 hc4
              rw [p1] at h; exact h
            have HCF : Hid (∀ w, RdI w ap s → Calls Try.prog 22 #[.slice ap m mc] w fun e w' => e = .returned (.int .i64 0) ∧ Below w.heap.size w w') := fun w h1 => by
              have h := codesFault_any ap m mc s w HSL.out h1 (by omega)
              rw [p2] at h; exact h
            have HLN : Hid (∀ (b : Option Addr) (bc : Nat) w, RdI w b s → RdI w ap s → Calls Try.prog 21 #[.slice b m bc, .slice ap m mc] w fun e w' => e = .returned (.bool true) ∧ Below w.heap.size w w') := fun b bc w h1 h2 => by
              have h := lwNums_any b ap m m bc mc s s w HSL.out HSL.out h1 h2 (by omega) (by omega)
              rw [decide_eq_true rfl] at h; exact h
            have HLS : Hid (∀ (b d : Option Addr) (bc dc : Nat) w, Rd w b eb → Rd w d eb → Calls Try.prog 15 #[.slice b X bc, .slice d X dc] w fun e w' => e = .returned (.bool true) ∧ w = w') := fun b d bc dc w h1 h2 => lwSame_any b d X bc dc eb w HX.out h1 h2
            clear p1 p2 p3 p4 HDE HLK
            go_wp2_with fail
            refine (HDB.out _ he5).mono ?_
            rintro e w6 ⟨v6, rfl, hown6, hb6⟩
            simp only at hown6 ⊢
            obtain ⟨b6, c6, hv, -, -⟩ := hown6.form
            rw [HSL.out] at hv
            rw [hv] at hown6 ⊢
            clear hv
            have hbA : Below w6.heap.size w6 (w6.alloc (.cells #[.int .i64 0, .slice b6 m c6] 28)) := (Below.refl _ _).alloc (Nat.le_refl _) _
            have hX6 : Below wr.heap.size wr (w6.alloc (.cells #[.int .i64 0, .slice b6 m c6] 28)) := hb6.trans (hbA.mono hb6.size)
            have HB6 : Hid (Below w.heap.size w (w6.alloc (.cells #[.int .i64 0, .slice b6 m c6] 28))) := HB5.out.trans (hX6.mono HB5.out.size)
            have hs6 := hs5.below hX6
            have he6 := he5.below hX6
            have hd6 := hown6.rd.2.below hbA
            have r0 := (hX6.cell (p := ⟨g8, 0, none⟩) hg5).trans q0
            have r1 := (hX6.cell (p := ⟨g8, 1, none⟩) hg5).trans q1
            obtain ⟨i0, i1, -, -⟩ := res_block (w := w6) (wr := w6.alloc (.cells #[.int .i64 0, .slice b6 m c6] 28)) rfl (Below.refl _ _)
            have hsW6 : (w6.alloc (.cells #[.int .i64 0, .slice b6 m c6] 28)).heap.size = w6.heap.size + 1 := by simp
            have hz6 := hb6.size
            clear hb6 hX6 hs5 he5 HDB hown6 hbA HB5 q0 q1
            go_wp2_with fail
            generalize w6.alloc (.cells #[.int .i64 0, .slice b6 m c6] 28) = Y at *
            generalize w6.heap.size = g11 at *
            refine (drawHasChar_any a n cap l _ hl (hr.below HB6.out) hB (by omega)).mono ?_
            rintro e w7 ⟨x, y, rfl, hb7⟩
            have HB7 : Hid (Below w.heap.size w w7) := HB6.out.trans (hb7.mono HB6.out.size)
            have hs7 := hs6.below hb7
            have he7 := he6.below hb7
            have hd7 := hd6.below hb7
            have R1 := (hb7.cell (p := ⟨g8, 1, none⟩) (by simp; omega)).trans r1
            have I0 := (hb7.cell (p := ⟨g11, 0, none⟩) (by simp; omega)).trans i0
            have I1 := (hb7.cell (p := ⟨g11, 1, none⟩) (by simp; omega)).trans i1
            have hz7 := hb7.size
            have m8 : g8 < w7.heap.size := by omega
            have m11 : g11 < w7.heap.size := by omega
            have HHI : Hid (_) := hasChar_any x y
            have HHS : Hid (_) := specHasChar_any x y
            generalize hasV x y = hh at *
            clear hb7 hs6 he6 hd6 HB6 r0 r1 i0 i1
            go_wp2_with fail
            refine wp_region_held_drew (S := fun w' => w'.cell? ⟨g8, 1, none⟩ = some (.slice b4 X c4) ∧ w'.cell? ⟨g11, 0, none⟩ = some (.int .i64 0) ∧ w'.cell? ⟨g11, 1, none⟩ = some (.slice b6 m c6)) (by kernel_rfl) ?hS98 (fun hHeld => ?_)
            case hS98 => exact ⟨R1, I0, I1⟩
            refine wpAnyH_take (i := 0) (v := ?_) rfl (by kernel_rfl) (by kernel_rfl) (by kernel_rfl) (fun _ _ _ h => h) (Or.inl ⟨by rfl, ?hy99⟩) (by assumption) ?ty99
            case hy99 => (intro w hSw; (try dsimp only at hSw); go_simp; all_goals with_reducible rfl)
            simp only [Act.put, List.getElem_toArray, List.getElem_cons_zero, List.setIfInBounds_toArray, List.set_cons_zero, List.set_cons_succ]
            refine wpAnyH_take (i := 1) (v := ?_) rfl (by kernel_rfl) (by kernel_rfl) (by kernel_rfl) (fun _ _ _ h => h) (Or.inl ⟨by rfl, ?hy100⟩) (by assumption) ?ty100
            case hy100 => (intro w hSw; (try dsimp only at hSw); go_simp; all_goals with_reducible rfl)
            simp only [Act.put, List.getElem_toArray, List.getElem_cons_zero, List.getElem_cons_succ, List.setIfInBounds_toArray, List.set_cons_zero, List.set_cons_succ]
            refine wpAnyH_take (i := 2) (v := ?_) rfl (by kernel_rfl) (by kernel_rfl) (by kernel_rfl) (fun _ _ _ h => h) (Or.inl ⟨by rfl, ?hy101⟩) (by assumption) ?ty101
            case hy101 => (intro w hSw; (try dsimp only at hSw); go_simp; all_goals with_reducible rfl)
            simp only [Act.put, List.getElem_toArray, List.getElem_cons_zero, List.getElem_cons_succ, List.setIfInBounds_toArray, List.set_cons_zero, List.set_cons_succ]
            refine wpAnyH_take (i := 3) (v := ?_) rfl (by kernel_rfl) (by kernel_rfl) (by kernel_rfl) (fun _ _ _ h => h) (Or.inl ⟨by rfl, ?hy102⟩) (by assumption) ?ty102
            case hy102 => (intro w hSw; (try dsimp only at hSw); go_simp; all_goals with_reducible rfl)
            simp only [Act.put, List.getElem_toArray, List.getElem_cons_zero, List.getElem_cons_succ, List.setIfInBounds_toArray, List.set_cons_zero, List.set_cons_succ]
            refine wpAnyH_take (i := 4) (v := .bool true) rfl (by kernel_rfl) (by kernel_rfl) (by kernel_rfl) (fun _ _ _ h => h) (Or.inl ⟨by rfl, ?hy103⟩) (by assumption) ?ty103
            case hy103 => (intro w hSw; (try dsimp only at hSw); go_simp; first | (simp; done) | (all_goals with_reducible rfl))
            simp only [Act.put, List.getElem_toArray, List.getElem_cons_zero, List.getElem_cons_succ, List.setIfInBounds_toArray, List.set_cons_zero, List.set_cons_succ]
            refine wpAnyH_take (i := 5) (v := ?_) rfl (by kernel_rfl) (by kernel_rfl) (by kernel_rfl) (fun _ _ _ h => h) (Or.inl ⟨by rfl, ?hy104⟩) (by assumption) ?ty104
            case hy104 => (intro w hSw; (try dsimp only at hSw); go_simp; all_goals with_reducible rfl)
            simp only [Act.put, List.getElem_toArray, List.getElem_cons_zero, List.getElem_cons_succ, List.setIfInBounds_toArray, List.set_cons_zero, List.set_cons_succ]
            refine wpAnyH_take (i := 6) (v := ?_) rfl (by kernel_rfl) (by kernel_rfl) (by kernel_rfl) (fun _ _ _ h => h) (Or.inl ⟨by rfl, ?hy105⟩) (by assumption) ?ty105
            case hy105 => (intro w hSw; (try dsimp only at hSw); go_simp; all_goals with_reducible rfl)
            simp only [Act.put, List.getElem_toArray, List.getElem_cons_zero, List.getElem_cons_succ, List.setIfInBounds_toArray, List.set_cons_zero, List.set_cons_succ]
            refine wpAnyH_take (i := 7) (v := ?_) rfl (by kernel_rfl) (by kernel_rfl) (by kernel_rfl) (fun _ _ _ h => h) (Or.inl ⟨by rfl, ?hy106⟩) (by assumption) ?ty106
            case hy106 => (intro w hSw; (try dsimp only at hSw); go_simp; all_goals with_reducible rfl)
            simp only [Act.put, List.getElem_toArray, List.getElem_cons_zero, List.getElem_cons_succ, List.setIfInBounds_toArray, List.set_cons_zero, List.set_cons_succ]
            refine wpAnyH_take (i := 8) (v := ?_) rfl (by kernel_rfl) (by kernel_rfl) (by kernel_rfl) (fun _ _ _ h => h) (Or.inl ⟨by rfl, ?hy107⟩) (by assumption) ?ty107
            case hy107 => (intro w hSw; (try dsimp only at hSw); go_simp; all_goals with_reducible rfl)
            simp only [Act.put, List.getElem_toArray, List.getElem_cons_zero, List.getElem_cons_succ, List.setIfInBounds_toArray, List.set_cons_zero, List.set_cons_succ]
            refine wpAnyH_take (i := 9) (v := ?_) rfl (by kernel_rfl) (by kernel_rfl) (by kernel_rfl) (fun _ _ _ h => h) (Or.inl ⟨by rfl, ?hy108⟩) (by assumption) ?ty108
            case hy108 => (intro w hSw; (try dsimp only at hSw); go_simp; all_goals with_reducible rfl)
            simp only [Act.put, List.getElem_toArray, List.getElem_cons_zero, List.getElem_cons_succ, List.setIfInBounds_toArray, List.set_cons_zero, List.set_cons_succ]
            refine wpAnyH_ready (rs := [10]) (by kernel_rfl) (by simp) ?_
            refine AllReadyH.cons rfl (fun K hK => ?_) AllReadyH.nil
            go_simp
            refine (HLN.out _ _ _ (by exact hd7) (by exact hs7)).mono ?_
            rintro e z1 ⟨rfl, hbx⟩
            have HZ_z1 : Hid (Below w7.heap.size w7 z1) := (Below.refl _ _).drew.trans hbx
            have hsS : z1.cell? ⟨g8, 1, none⟩ = some (.slice b4 X c4) ∧ z1.cell? ⟨g11, 0, none⟩ = some (.int .i64 0) ∧ z1.cell? ⟨g11, 1, none⟩ = some (.slice b6 m c6) := ⟨(HZ_z1.out.cell (p := ⟨g8, 1, none⟩) m8).trans R1, (HZ_z1.out.cell (p := ⟨g11, 0, none⟩) m11).trans I0, (HZ_z1.out.cell (p := ⟨g11, 1, none⟩) m11).trans I1⟩
            refine hK.out _ _ hsS (fun hHeld => ?_)
            clear hK K
            have hsP := hsS
            clear hsS hbx
            refine wpAnyH_take (i := 11) (v := ?_) rfl (by kernel_rfl) (by kernel_rfl) (by kernel_rfl) (fun _ _ _ h => h) (Or.inl ⟨by rfl, ?hy109⟩) (by assumption) ?ty109
            case hy109 => (intro w hSw; (try dsimp only at hSw); go_simp; all_goals with_reducible rfl)
            simp only [Act.put, List.getElem_toArray, List.getElem_cons_zero, List.getElem_cons_succ, List.setIfInBounds_toArray, List.set_cons_zero, List.set_cons_succ]
            refine wpAnyH_take (i := 12) (v := ?_) rfl (by kernel_rfl) (by kernel_rfl) (by kernel_rfl) (fun _ _ _ h => h) (Or.inl ⟨by rfl, ?hy110⟩) (by assumption) ?ty110
            case hy110 => (intro w hSw; (try dsimp only at hSw); go_simp; all_goals with_reducible rfl)
            simp only [Act.put, List.getElem_toArray, List.getElem_cons_zero, List.getElem_cons_succ, List.setIfInBounds_toArray, List.set_cons_zero, List.set_cons_succ]
            refine wpAnyH_take (i := 13) (v := ?_) rfl (by kernel_rfl) (by kernel_rfl) (by kernel_rfl) (fun _ _ _ h => h) (Or.inl ⟨by rfl, ?hy111⟩) (by assumption) ?ty111
            case hy111 => (intro w hSw; (try dsimp only at hSw); go_simp; all_goals with_reducible rfl)
            simp only [Act.put, List.getElem_toArray, List.getElem_cons_zero, List.getElem_cons_succ, List.setIfInBounds_toArray, List.set_cons_zero, List.set_cons_succ]
            refine wpAnyH_ready (rs := [14]) (by kernel_rfl) (by simp) ?_
            refine AllReadyH.cons rfl (fun K hK => ?_) AllReadyH.nil
            go_simp
            refine (HCF.out _ (by exact hs7.below HZ_z1.out)).mono ?_
            rintro e z2 ⟨rfl, hbx⟩
            have HZ_z2 : Hid (Below w7.heap.size w7 z2) := HZ_z1.out.trans (hbx.mono HZ_z1.out.size)
            have hsS : z2.cell? ⟨g8, 1, none⟩ = some (.slice b4 X c4) ∧ z2.cell? ⟨g11, 0, none⟩ = some (.int .i64 0) ∧ z2.cell? ⟨g11, 1, none⟩ = some (.slice b6 m c6) := ⟨(HZ_z2.out.cell (p := ⟨g8, 1, none⟩) m8).trans R1, (HZ_z2.out.cell (p := ⟨g11, 0, none⟩) m11).trans I0, (HZ_z2.out.cell (p := ⟨g11, 1, none⟩) m11).trans I1⟩
            refine hK.out _ _ hsS (fun hHeld => ?_)
            clear hK K
            have hsP := hsS
            clear hsS hbx
            refine wpAnyH_take (i := 15) (v := .bool true) rfl (by kernel_rfl) (by kernel_rfl) (by kernel_rfl) (fun _ _ _ h => h) (Or.inl ⟨by rfl, ?hy112⟩) (by assumption) ?ty112
            case hy112 => (intro w hSw; (try dsimp only at hSw); go_simp; first | (simp; done) | (all_goals with_reducible rfl))
            simp only [Act.put, List.getElem_toArray, List.getElem_cons_zero, List.getElem_cons_succ, List.setIfInBounds_toArray, List.set_cons_zero, List.set_cons_succ]
            refine wpAnyH_take (i := 16) (v := ?_) rfl (by kernel_rfl) (by kernel_rfl) (by kernel_rfl) (fun _ _ _ h => h) (Or.inl ⟨by rfl, ?hy113⟩) (by assumption) ?ty113
            case hy113 => (intro w hSw; (try dsimp only at hSw); go_simp; all_goals with_reducible rfl)
            simp only [Act.put, List.getElem_toArray, List.getElem_cons_zero, List.getElem_cons_succ, List.setIfInBounds_toArray, List.set_cons_zero, List.set_cons_succ]
            refine wpAnyH_take (i := 17) (v := ?_) rfl (by kernel_rfl) (by kernel_rfl) (by kernel_rfl) (fun _ _ _ h => h) (Or.inl ⟨by rfl, ?hy114⟩) (by assumption) ?ty114
            case hy114 => (intro w hSw; (try dsimp only at hSw); go_simp; all_goals with_reducible rfl)
            simp only [Act.put, List.getElem_toArray, List.getElem_cons_zero, List.getElem_cons_succ, List.setIfInBounds_toArray, List.set_cons_zero, List.set_cons_succ]
            refine wpAnyH_take (i := 18) (v := ?_) rfl (by kernel_rfl) (by kernel_rfl) (by kernel_rfl) (fun _ _ _ h => h) (Or.inl ⟨by rfl, ?hy115⟩) (by assumption) ?ty115
            case hy115 => (intro w hSw; (try dsimp only at hSw); go_simp; all_goals with_reducible rfl)
            simp only [Act.put, List.getElem_toArray, List.getElem_cons_zero, List.getElem_cons_succ, List.setIfInBounds_toArray, List.set_cons_zero, List.set_cons_succ]
            refine wpAnyH_take (i := 19) (v := ?_) rfl (by kernel_rfl) (by kernel_rfl) (by kernel_rfl) (fun _ _ _ h => h) (Or.inl ⟨by rfl, ?hy116⟩) (by assumption) ?ty116
            case hy116 => (intro w hSw; (try dsimp only at hSw); go_simp; all_goals with_reducible rfl)
            simp only [Act.put, List.getElem_toArray, List.getElem_cons_zero, List.getElem_cons_succ, List.setIfInBounds_toArray, List.set_cons_zero, List.set_cons_succ]
            refine wpAnyH_take (i := 21) (v := ?_) rfl (by kernel_rfl) (by kernel_rfl) (by kernel_rfl) (fun _ _ _ h => h) (Or.inl ⟨by rfl, ?hy117⟩) (by assumption) ?ty117
            case hy117 => (intro w hSw; (try dsimp only at hSw); go_simp; all_goals with_reducible rfl)
            simp only [Act.put, List.getElem_toArray, List.getElem_cons_zero, List.getElem_cons_succ, List.setIfInBounds_toArray, List.set_cons_zero, List.set_cons_succ]
            refine wpAnyH_take (i := 22) (v := ?_) rfl (by kernel_rfl) (by kernel_rfl) (by kernel_rfl) (fun _ _ _ h => h) (Or.inl ⟨by rfl, ?hy118⟩) (by assumption) ?ty118
            case hy118 => (intro w hSw; (try dsimp only at hSw); go_simp; all_goals with_reducible rfl)
            simp only [Act.put, List.getElem_toArray, List.getElem_cons_zero, List.getElem_cons_succ, List.setIfInBounds_toArray, List.set_cons_zero, List.set_cons_succ]
            refine wpAnyH_ready (rs := [20]) (by kernel_rfl) (by simp) ?_
            refine AllReadyH.cons rfl (fun K hK => ?_) AllReadyH.nil
            go_simp
            refine (HHI.out _).mono ?_
            rintro e z3 ⟨rfl, hbx⟩
            have HZ_z3 : Hid (Below w7.heap.size w7 z3) := HZ_z2.out.trans (hbx.mono HZ_z2.out.size)
            have hsS : z3.cell? ⟨g8, 1, none⟩ = some (.slice b4 X c4) ∧ z3.cell? ⟨g11, 0, none⟩ = some (.int .i64 0) ∧ z3.cell? ⟨g11, 1, none⟩ = some (.slice b6 m c6) := ⟨(HZ_z3.out.cell (p := ⟨g8, 1, none⟩) m8).trans R1, (HZ_z3.out.cell (p := ⟨g11, 0, none⟩) m11).trans I0, (HZ_z3.out.cell (p := ⟨g11, 1, none⟩) m11).trans I1⟩
            refine hK.out _ _ hsS (fun hHeld => ?_)
            clear hK K
            have hsP := hsS
            clear hsS hbx
            refine wpAnyH_ready (rs := [23]) (by kernel_rfl) (by simp) ?_
            refine AllReadyH.cons rfl (fun K hK => ?_) AllReadyH.nil
            go_simp
            refine (HHS.out _).mono ?_
            rintro e z4 ⟨rfl, hb0'⟩
            have hbx : Below z3.heap.size z3 z4 := by (try subst hb0'); first | exact Below.refl _ _ | exact hb0'
            have HZ_z4 : Hid (Below w7.heap.size w7 z4) := HZ_z3.out.trans (hbx.mono HZ_z3.out.size)
            have hsS : z4.cell? ⟨g8, 1, none⟩ = some (.slice b4 X c4) ∧ z4.cell? ⟨g11, 0, none⟩ = some (.int .i64 0) ∧ z4.cell? ⟨g11, 1, none⟩ = some (.slice b6 m c6) := ⟨(HZ_z4.out.cell (p := ⟨g8, 1, none⟩) m8).trans R1, (HZ_z4.out.cell (p := ⟨g11, 0, none⟩) m11).trans I0, (HZ_z4.out.cell (p := ⟨g11, 1, none⟩) m11).trans I1⟩
            refine hK.out _ _ hsS (fun hHeld => ?_)
            clear hK K
            have hsP := hsS
            clear hsS hbx
            refine wpAnyH_take (i := 24) (v := .bool true) rfl (by kernel_rfl) (by kernel_rfl) (by kernel_rfl) (fun _ _ _ h => h) (Or.inl ⟨by rfl, ?hy119⟩) (by assumption) ?ty119
            case hy119 => (intro w hSw; (try dsimp only at hSw); go_simp; first | (simp; done) | (all_goals with_reducible rfl))
            simp only [Act.put, List.getElem_toArray, List.getElem_cons_zero, List.getElem_cons_succ, List.setIfInBounds_toArray, List.set_cons_zero, List.set_cons_succ]
            refine wpAnyH_take (i := 25) (v := ?_) rfl (by kernel_rfl) (by kernel_rfl) (by kernel_rfl) (fun _ _ _ h => h) (Or.inl ⟨by rfl, ?hy120⟩) (by assumption) ?ty120
            case hy120 => (intro w hSw; (try dsimp only at hSw); go_simp; all_goals with_reducible rfl)
            simp only [Act.put, List.getElem_toArray, List.getElem_cons_zero, List.getElem_cons_succ, List.setIfInBounds_toArray, List.set_cons_zero, List.set_cons_succ]
            refine wpAnyH_take (i := 26) (v := ?_) rfl (by kernel_rfl) (by kernel_rfl) (by kernel_rfl) (fun _ _ _ h => h) (Or.inl ⟨by rfl, ?hy121⟩) (by assumption) ?ty121
            case hy121 => (intro w hSw; (try dsimp only at hSw); go_simp; all_goals with_reducible rfl)
            simp only [Act.put, List.getElem_toArray, List.getElem_cons_zero, List.getElem_cons_succ, List.setIfInBounds_toArray, List.set_cons_zero, List.set_cons_succ]
            refine wpAnyH_take (i := 27) (v := ?_) rfl (by kernel_rfl) (by kernel_rfl) (by kernel_rfl) (fun _ _ _ h => h) (Or.inl ⟨by rfl, ?hy122⟩) (by assumption) ?ty122
            case hy122 => (intro w hSw; (try dsimp only at hSw); go_simp; all_goals with_reducible rfl)
            simp only [Act.put, List.getElem_toArray, List.getElem_cons_zero, List.getElem_cons_succ, List.setIfInBounds_toArray, List.set_cons_zero, List.set_cons_succ]
            refine wpAnyH_take (i := 28) (v := ?_) rfl (by kernel_rfl) (by kernel_rfl) (by kernel_rfl) (fun _ _ _ h => h) (Or.inl ⟨by rfl, ?hy123⟩) (by assumption) ?ty123
            case hy123 => (intro w hSw; (try dsimp only at hSw); go_simp; all_goals with_reducible rfl)
            simp only [Act.put, List.getElem_toArray, List.getElem_cons_zero, List.getElem_cons_succ, List.setIfInBounds_toArray, List.set_cons_zero, List.set_cons_succ]
            refine wpAnyH_take (i := 29) (v := ?_) rfl (by kernel_rfl) (by kernel_rfl) (by kernel_rfl) (fun _ _ _ h => h) (Or.inl ⟨by rfl, ?hy124⟩) (by assumption) ?ty124
            case hy124 => (intro w hSw; (try dsimp only at hSw); go_simp; all_goals with_reducible rfl)
            simp only [Act.put, List.getElem_toArray, List.getElem_cons_zero, List.getElem_cons_succ, List.setIfInBounds_toArray, List.set_cons_zero, List.set_cons_succ]
            refine wpAnyH_take (i := 30) (v := ?_) rfl (by kernel_rfl) (by kernel_rfl) (by kernel_rfl) (fun _ _ _ h => h) (Or.inl ⟨by rfl, ?hy125⟩) (by assumption) ?ty125
            case hy125 => (intro w hSw; (try dsimp only at hSw); go_simp; all_goals with_reducible rfl)
            simp only [Act.put, List.getElem_toArray, List.getElem_cons_zero, List.getElem_cons_succ, List.setIfInBounds_toArray, List.set_cons_zero, List.set_cons_succ]
            refine wpAnyH_ready (rs := [31]) (by kernel_rfl) (by simp) ?_
            refine AllReadyH.cons rfl (fun K hK => ?_) AllReadyH.nil
            go_simp
            refine (HES.out _ (by exact hs7.below HZ_z4.out)).mono ?_
            rintro e z5 ⟨v8, rfl, hown8, hbx⟩
            simp only at hown8 ⊢
            obtain ⟨b8, c8, hv, -, -⟩ := hown8.form
            rw [HX.out] at hv
            rw [hv] at hown8 ⊢
            clear hv
            have HZ_z5 : Hid (Below w7.heap.size w7 z5) := HZ_z4.out.trans (hbx.mono HZ_z4.out.size)
            have hsS : z5.cell? ⟨g8, 1, none⟩ = some (.slice b4 X c4) ∧ z5.cell? ⟨g11, 0, none⟩ = some (.int .i64 0) ∧ z5.cell? ⟨g11, 1, none⟩ = some (.slice b6 m c6) := ⟨(HZ_z5.out.cell (p := ⟨g8, 1, none⟩) m8).trans R1, (HZ_z5.out.cell (p := ⟨g11, 0, none⟩) m11).trans I0, (HZ_z5.out.cell (p := ⟨g11, 1, none⟩) m11).trans I1⟩
            refine hK.out _ _ hsS (fun hHeld => ?_)
            clear hK K
            have hsP := hsS
            clear hsS hbx
            refine wpAnyH_take (i := 32) (v := ?_) rfl (by kernel_rfl) (by kernel_rfl) (by kernel_rfl) (fun _ _ _ h => h) (Or.inl ⟨by rfl, ?hy126⟩) (by assumption) ?ty126
            case hy126 => (intro w hSw; (try dsimp only at hSw); go_simp; all_goals with_reducible rfl)
            simp only [Act.put, List.getElem_toArray, List.getElem_cons_zero, List.getElem_cons_succ, List.setIfInBounds_toArray, List.set_cons_zero, List.set_cons_succ]
            refine wpAnyH_ready (rs := [33]) (by kernel_rfl) (by simp) ?_
            refine AllReadyH.cons rfl (fun K hK => ?_) AllReadyH.nil
            go_simp
            refine (HLS.out _ _ _ _ _ (by exact he7.below HZ_z5.out) (by exact hown8.rd.2)).mono ?_
            rintro e z6 ⟨rfl, rfl⟩
            refine hK.out _ _ hsP (fun hHeld => ?_)
            clear hK K
            refine wpAnyH_take (i := 34) (v := ?_) rfl (by kernel_rfl) (by kernel_rfl) (by kernel_rfl) (fun _ _ _ h => h) (Or.inl ⟨by rfl, ?hy127⟩) (by assumption) ?ty127
            case hy127 => (intro w hSw; (try dsimp only at hSw); go_simp; all_goals with_reducible rfl)
            simp only [Act.put, List.getElem_toArray, List.getElem_cons_zero, List.getElem_cons_succ, List.setIfInBounds_toArray, List.set_cons_zero, List.set_cons_succ]
            refine wpAnyH_take (i := 35) (v := ?_) rfl (by kernel_rfl) (by kernel_rfl) (by kernel_rfl) (fun _ _ _ h => h) (Or.inl ⟨by rfl, ?hy128⟩) (by assumption) ?ty128
            case hy128 => (intro w hSw; (try dsimp only at hSw); go_simp; all_goals with_reducible rfl)
            simp only [Act.put, List.getElem_toArray, List.getElem_cons_zero, List.getElem_cons_succ, List.setIfInBounds_toArray, List.set_cons_zero, List.set_cons_succ]
            refine wpAnyH_done (by kernel_rfl) ?_ _
            have HF : Hid (Below w.heap.size w z5) := HB7.out.trans (HZ_z5.out.mono HB7.out.size)
            clear hHeld HZ_z1 HZ_z2 HZ_z3 HZ_z4 HZ_z5 HB7 HES HHI HHS HLN HLS HCF
            go_wp2
            go_ret
            exact ⟨rfl, HF.out⟩
          · have en : (e0 != 0) = true := by simp; omega
            subst hb0
            by_cases h8 : e0 = 8
            · have hlk := HLK.out [] (by rw [h8])
              rw [hlk]
              subst h8
              clear HLK HDE hlk
              go_wp2_with fail
              refine wp_region_held_drew (S := fun w' => w'.cell? ⟨g8, 0, none⟩ = some (.int .i64 8)) (by kernel_rfl) ?hS129 (fun hHeld => ?_)
              case hS129 => exact q0
              refine wpAnyH_take (i := 0) (v := ?_) rfl (by kernel_rfl) (by kernel_rfl) (by kernel_rfl) (fun _ _ _ h => h) (Or.inl ⟨by rfl, ?hy130⟩) (by assumption) ?ty130
              case hy130 => (intro w hSw; (try dsimp only at hSw); go_simp; all_goals with_reducible rfl)
              simp only [Act.put, List.getElem_toArray, List.getElem_cons_zero, List.setIfInBounds_toArray, List.set_cons_zero, List.set_cons_succ]
              refine wpAnyH_take (i := 1) (v := ?_) rfl (by kernel_rfl) (by kernel_rfl) (by kernel_rfl) (fun _ _ _ h => h) (Or.inl ⟨by rfl, ?hy131⟩) (by assumption) ?ty131
              case hy131 => (intro w hSw; (try dsimp only at hSw); go_simp; all_goals with_reducible rfl)
              simp only [Act.put, List.getElem_toArray, List.getElem_cons_zero, List.getElem_cons_succ, List.setIfInBounds_toArray, List.set_cons_zero, List.set_cons_succ]
              refine wpAnyH_take (i := 4) (v := ?_) rfl (by kernel_rfl) (by kernel_rfl) (by kernel_rfl) (fun _ _ _ h => h) (Or.inl ⟨by rfl, ?hy132⟩) (by assumption) ?ty132
              case hy132 => (intro w hSw; (try dsimp only at hSw); go_simp; all_goals with_reducible rfl)
              simp only [Act.put, List.getElem_toArray, List.getElem_cons_zero, List.getElem_cons_succ, List.setIfInBounds_toArray, List.set_cons_zero, List.set_cons_succ]
              refine wpAnyH_take (i := 5) (v := ?_) rfl (by kernel_rfl) (by kernel_rfl) (by kernel_rfl) (fun _ _ _ h => h) (Or.inl ⟨by rfl, ?hy133⟩) (by assumption) ?ty133
              case hy133 => (intro w hSw; (try dsimp only at hSw); go_simp; all_goals with_reducible rfl)
              simp only [Act.put, List.getElem_toArray, List.getElem_cons_zero, List.getElem_cons_succ, List.setIfInBounds_toArray, List.set_cons_zero, List.set_cons_succ]
              refine wpAnyH_ready (rs := [2]) (by kernel_rfl) (by simp) ?_
              refine AllReadyH.cons rfl (fun K hK => ?_) AllReadyH.nil
              go_simp
              refine (HES.out _ (by exact hs5)).mono ?_
              rintro e z1 ⟨v7, rfl, hown7, hbx⟩
              simp only
              obtain ⟨b7, c7, rfl, -, -⟩ := hown7.form
              clear hown7
              have HZ : Hid (Below wr.heap.size wr z1) := (Below.refl _ _).drew.trans hbx
              have hsS := (HZ.out.cell (p := ⟨g8, 0, none⟩) hg5).trans q0
              refine hK.out _ _ hsS (fun hHeld => ?_)
              clear hK K
              clear hbx
              refine wpAnyH_take (i := 3) (v := ?_) rfl (by kernel_rfl) (by kernel_rfl) (by kernel_rfl) (fun _ _ _ h => h) (Or.inl ⟨by rfl, ?hy134⟩) (by assumption) ?ty134
              case hy134 => (intro w hSw; (try dsimp only at hSw); go_simp; all_goals with_reducible rfl)
              simp only [Act.put, List.getElem_toArray, List.getElem_cons_zero, List.getElem_cons_succ, List.setIfInBounds_toArray, List.set_cons_zero, List.set_cons_succ]
              refine wpAnyH_take (i := 6) (v := .bool true) rfl (by kernel_rfl) (by kernel_rfl) (by kernel_rfl) (fun _ _ _ h => h) (Or.inl ⟨by rfl, ?hy135⟩) (by assumption) ?ty135
              case hy135 => (intro w hSw; (try dsimp only at hSw); go_simp; first | (simp; done) | (all_goals with_reducible rfl))
              simp only [Act.put, List.getElem_toArray, List.getElem_cons_zero, List.getElem_cons_succ, List.setIfInBounds_toArray, List.set_cons_zero, List.set_cons_succ]
              refine wpAnyH_take (i := 7) (v := ?_) rfl (by kernel_rfl) (by kernel_rfl) (by kernel_rfl) (fun _ _ _ h => h) (Or.inl ⟨by rfl, ?hy136⟩) (by assumption) ?ty136
              case hy136 => (intro w hSw; (try dsimp only at hSw); go_simp; all_goals with_reducible rfl)
              simp only [Act.put, List.getElem_toArray, List.getElem_cons_zero, List.getElem_cons_succ, List.setIfInBounds_toArray, List.set_cons_zero, List.set_cons_succ]
              refine wpAnyH_take (i := 8) (v := ?_) rfl (by kernel_rfl) (by kernel_rfl) (by kernel_rfl) (fun _ _ _ h => h) (Or.inl ⟨by rfl, ?hy137⟩) (by assumption) ?ty137
              case hy137 => (intro w hSw; (try dsimp only at hSw); go_simp; all_goals with_reducible rfl)
              simp only [Act.put, List.getElem_toArray, List.getElem_cons_zero, List.getElem_cons_succ, List.setIfInBounds_toArray, List.set_cons_zero, List.set_cons_succ]
              refine wpAnyH_take (i := 9) (v := ?_) rfl (by kernel_rfl) (by kernel_rfl) (by kernel_rfl) (fun _ _ _ h => h) (Or.inl ⟨by rfl, ?hy138⟩) (by assumption) ?ty138
              case hy138 => (intro w hSw; (try dsimp only at hSw); go_simp; all_goals with_reducible rfl)
              simp only [Act.put, List.getElem_toArray, List.getElem_cons_zero, List.getElem_cons_succ, List.setIfInBounds_toArray, List.set_cons_zero, List.set_cons_succ]
              refine wpAnyH_take (i := 10) (v := .bool false) rfl (by kernel_rfl) (by kernel_rfl) (by kernel_rfl) (fun _ _ _ h => h) (Or.inl ⟨by rfl, ?hy139⟩) (by assumption) ?ty139
              case hy139 => (intro w hSw; (try dsimp only at hSw); go_simp; first | (simp; done) | (all_goals with_reducible rfl))
              simp only [Act.put, List.getElem_toArray, List.getElem_cons_zero, List.getElem_cons_succ, List.setIfInBounds_toArray, List.set_cons_zero, List.set_cons_succ]
              refine wpAnyH_take (i := 11) (v := ?_) rfl (by kernel_rfl) (by kernel_rfl) (by kernel_rfl) (fun _ _ _ h => h) (Or.inl ⟨by rfl, ?hy140⟩) (by assumption) ?ty140
              case hy140 => (intro w hSw; (try dsimp only at hSw); go_simp; all_goals with_reducible rfl)
              simp only [Act.put, List.getElem_toArray, List.getElem_cons_zero, List.getElem_cons_succ, List.setIfInBounds_toArray, List.set_cons_zero, List.set_cons_succ]
              refine wpAnyH_take (i := 12) (v := ?_) rfl (by kernel_rfl) (by kernel_rfl) (by kernel_rfl) (fun _ _ _ h => h) (Or.inl ⟨by rfl, ?hy141⟩) (by assumption) ?ty141
              case hy141 => (intro w hSw; (try dsimp only at hSw); go_simp; all_goals with_reducible rfl)
              simp only [Act.put, List.getElem_toArray, List.getElem_cons_zero, List.getElem_cons_succ, List.setIfInBounds_toArray, List.set_cons_zero, List.set_cons_succ]
              refine wpAnyH_take (i := 13) (v := ?_) rfl (by kernel_rfl) (by kernel_rfl) (by kernel_rfl) (fun _ _ _ h => h) (Or.inl ⟨by rfl, ?hy142⟩) (by assumption) ?ty142
              case hy142 => (intro w hSw; (try dsimp only at hSw); go_simp; all_goals with_reducible rfl)
              simp only [Act.put, List.getElem_toArray, List.getElem_cons_zero, List.getElem_cons_succ, List.setIfInBounds_toArray, List.set_cons_zero, List.set_cons_succ]
              refine wpAnyH_take (i := 14) (v := ?_) rfl (by kernel_rfl) (by kernel_rfl) (by kernel_rfl) (fun _ _ _ h => h) (Or.inl ⟨by rfl, ?hy143⟩) (by assumption) ?ty143
              case hy143 => (intro w hSw; (try dsimp only at hSw); go_simp; all_goals with_reducible rfl)
              simp only [Act.put, List.getElem_toArray, List.getElem_cons_zero, List.getElem_cons_succ, List.setIfInBounds_toArray, List.set_cons_zero, List.set_cons_succ]
              refine wpAnyH_take (i := 15) (v := ?_) rfl (by kernel_rfl) (by kernel_rfl) (by kernel_rfl) (fun _ _ _ h => h) (Or.inl ⟨by rfl, ?hy144⟩) (by assumption) ?ty144
              case hy144 => (intro w hSw; (try dsimp only at hSw); go_simp; all_goals with_reducible rfl)
              simp only [Act.put, List.getElem_toArray, List.getElem_cons_zero, List.getElem_cons_succ, List.setIfInBounds_toArray, List.set_cons_zero, List.set_cons_succ]
              refine wpAnyH_take (i := 16) (v := ?_) rfl (by kernel_rfl) (by kernel_rfl) (by kernel_rfl) (fun _ _ _ h => h) (Or.inl ⟨by rfl, ?hy145⟩) (by assumption) ?ty145
              case hy145 => (intro w hSw; (try dsimp only at hSw); go_simp; all_goals with_reducible rfl)
              simp only [Act.put, List.getElem_toArray, List.getElem_cons_zero, List.getElem_cons_succ, List.setIfInBounds_toArray, List.set_cons_zero, List.set_cons_succ]
              refine wpAnyH_done (by kernel_rfl) ?_ _
              clear hsS
              have HF : Hid (Below w.heap.size w z1) := HB5.out.trans (HZ.out.mono HB5.out.size)
              clear hHeld HZ HES HB5
              go_wp2
              go_ret
              exact ⟨rfl, HF.out⟩
            · have e8 : (e0 != 8) = true := by simpa using h8
              clear HLK HDE
              generalize s.all (hasV c) = al at *
              go_wp2_with fail
              refine wp_region_held_drew (S := fun w' => w'.cell? ⟨g8, 0, none⟩ = some (.int .i64 e0)) (by kernel_rfl) ?hS146 (fun hHeld => ?_)
              case hS146 => exact q0
              refine wpAnyH_take (i := 0) (v := ?_) rfl (by kernel_rfl) (by kernel_rfl) (by kernel_rfl) (fun _ _ _ h => h) (Or.inl ⟨by rfl, ?hy147⟩) (by assumption) ?ty147
              case hy147 => (intro w hSw; (try dsimp only at hSw); go_simp; all_goals with_reducible rfl)
              simp only [Act.put, List.getElem_toArray, List.getElem_cons_zero, List.setIfInBounds_toArray, List.set_cons_zero, List.set_cons_succ]
              refine wpAnyH_take (i := 1) (v := ?_) rfl (by kernel_rfl) (by kernel_rfl) (by kernel_rfl) (fun _ _ _ h => h) (Or.inl ⟨by rfl, ?hy148⟩) (by assumption) ?ty148
              case hy148 => (intro w hSw; (try dsimp only at hSw); go_simp; all_goals with_reducible rfl)
              simp only [Act.put, List.getElem_toArray, List.getElem_cons_zero, List.getElem_cons_succ, List.setIfInBounds_toArray, List.set_cons_zero, List.set_cons_succ]
              refine wpAnyH_take (i := 4) (v := ?_) rfl (by kernel_rfl) (by kernel_rfl) (by kernel_rfl) (fun _ _ _ h => h) (Or.inl ⟨by rfl, ?hy149⟩) (by assumption) ?ty149
              case hy149 => (intro w hSw; (try dsimp only at hSw); go_simp; all_goals with_reducible rfl)
              simp only [Act.put, List.getElem_toArray, List.getElem_cons_zero, List.getElem_cons_succ, List.setIfInBounds_toArray, List.set_cons_zero, List.set_cons_succ]
              refine wpAnyH_take (i := 5) (v := ?_) rfl (by kernel_rfl) (by kernel_rfl) (by kernel_rfl) (fun _ _ _ h => h) (Or.inl ⟨by rfl, ?hy150⟩) (by assumption) ?ty150
              case hy150 => (intro w hSw; (try dsimp only at hSw); go_simp; all_goals with_reducible rfl)
              simp only [Act.put, List.getElem_toArray, List.getElem_cons_zero, List.getElem_cons_succ, List.setIfInBounds_toArray, List.set_cons_zero, List.set_cons_succ]
              refine wpAnyH_ready (rs := [2]) (by kernel_rfl) (by simp) ?_
              refine AllReadyH.cons rfl (fun K hK => ?_) AllReadyH.nil
              go_simp
              refine (HES.out _ (by exact hs5)).mono ?_
              rintro e z1 ⟨v7, rfl, hown7, hbx⟩
              simp only
              obtain ⟨b7, c7, rfl, -, -⟩ := hown7.form
              clear hown7
              have HZ : Hid (Below wr.heap.size wr z1) := (Below.refl _ _).drew.trans hbx
              have hsS := (HZ.out.cell (p := ⟨g8, 0, none⟩) hg5).trans q0
              refine hK.out _ _ hsS (fun hHeld => ?_)
              clear hK K
              clear hbx
              refine wpAnyH_take (i := 3) (v := ?_) rfl (by kernel_rfl) (by kernel_rfl) (by kernel_rfl) (fun _ _ _ h => h) (Or.inl ⟨by rfl, ?hy151⟩) (by assumption) ?ty151
              case hy151 => (intro w hSw; (try dsimp only at hSw); go_simp; all_goals with_reducible rfl)
              simp only [Act.put, List.getElem_toArray, List.getElem_cons_zero, List.getElem_cons_succ, List.setIfInBounds_toArray, List.set_cons_zero, List.set_cons_succ]
              refine wpAnyH_take (i := 6) (v := .bool true) rfl (by kernel_rfl) (by kernel_rfl) (by kernel_rfl) (fun _ _ _ h => h) (Or.inl ⟨by rfl, ?hy152⟩) (by assumption) ?ty152
              case hy152 => (intro w hSw; (try dsimp only at hSw); go_simp; first | (simp; done) | (all_goals with_reducible rfl))
              simp only [Act.put, List.getElem_toArray, List.getElem_cons_zero, List.getElem_cons_succ, List.setIfInBounds_toArray, List.set_cons_zero, List.set_cons_succ]
              refine wpAnyH_take (i := 7) (v := ?_) rfl (by kernel_rfl) (by kernel_rfl) (by kernel_rfl) (fun _ _ _ h => h) (Or.inl ⟨by rfl, ?hy153⟩) (by assumption) ?ty153
              case hy153 => (intro w hSw; (try dsimp only at hSw); go_simp; all_goals with_reducible rfl)
              simp only [Act.put, List.getElem_toArray, List.getElem_cons_zero, List.getElem_cons_succ, List.setIfInBounds_toArray, List.set_cons_zero, List.set_cons_succ]
              refine wpAnyH_take (i := 8) (v := ?_) rfl (by kernel_rfl) (by kernel_rfl) (by kernel_rfl) (fun _ _ _ h => h) (Or.inl ⟨by rfl, ?hy154⟩) (by assumption) ?ty154
              case hy154 => (intro w hSw; (try dsimp only at hSw); go_simp; all_goals with_reducible rfl)
              simp only [Act.put, List.getElem_toArray, List.getElem_cons_zero, List.getElem_cons_succ, List.setIfInBounds_toArray, List.set_cons_zero, List.set_cons_succ]
              refine wpAnyH_take (i := 9) (v := ?_) rfl (by kernel_rfl) (by kernel_rfl) (by kernel_rfl) (fun _ _ _ h => h) (Or.inl ⟨by rfl, ?hy155⟩) (by assumption) ?ty155
              case hy155 => (intro w hSw; (try dsimp only at hSw); go_simp; all_goals with_reducible rfl)
              simp only [Act.put, List.getElem_toArray, List.getElem_cons_zero, List.getElem_cons_succ, List.setIfInBounds_toArray, List.set_cons_zero, List.set_cons_succ]
              refine wpAnyH_take (i := 10) (v := .bool true) rfl (by kernel_rfl) (by kernel_rfl) (by kernel_rfl) (fun _ _ _ h => h) (Or.inl ⟨by rfl, ?hy156⟩) (by assumption) ?ty156
              case hy156 => (intro w hSw; (try dsimp only at hSw); go_simp; first | (simp; done) | (all_goals with_reducible rfl))
              simp only [Act.put, List.getElem_toArray, List.getElem_cons_zero, List.getElem_cons_succ, List.setIfInBounds_toArray, List.set_cons_zero, List.set_cons_succ]
              refine wpAnyH_take (i := 11) (v := ?_) rfl (by kernel_rfl) (by kernel_rfl) (by kernel_rfl) (fun _ _ _ h => h) (Or.inl ⟨by rfl, ?hy157⟩) (by assumption) ?ty157
              case hy157 => (intro w hSw; (try dsimp only at hSw); go_simp; all_goals with_reducible rfl)
              simp only [Act.put, List.getElem_toArray, List.getElem_cons_zero, List.getElem_cons_succ, List.setIfInBounds_toArray, List.set_cons_zero, List.set_cons_succ]
              refine wpAnyH_take (i := 12) (v := undef) rfl (by kernel_rfl) (by kernel_rfl) (by kernel_rfl) (fun _ _ _ h => h) (Or.inr ⟨by rfl, rfl⟩) (by assumption) ?_
              simp only [Act.put, List.getElem_toArray, List.getElem_cons_zero, List.getElem_cons_succ, List.setIfInBounds_toArray, List.set_cons_zero, List.set_cons_succ]
              refine wpAnyH_take (i := 13) (v := undef) rfl (by kernel_rfl) (by kernel_rfl) (by kernel_rfl) (fun _ _ _ h => h) (Or.inr ⟨by rfl, rfl⟩) (by assumption) ?_
              simp only [Act.put, List.getElem_toArray, List.getElem_cons_zero, List.getElem_cons_succ, List.setIfInBounds_toArray, List.set_cons_zero, List.set_cons_succ]
              refine wpAnyH_take (i := 14) (v := ?_) rfl (by kernel_rfl) (by kernel_rfl) (by kernel_rfl) (fun _ _ _ h => h) (Or.inl ⟨by rfl, ?hy158⟩) (by assumption) ?ty158
              case hy158 => (intro w hSw; (try dsimp only at hSw); go_simp; all_goals with_reducible rfl)
              simp only [Act.put, List.getElem_toArray, List.getElem_cons_zero, List.getElem_cons_succ, List.setIfInBounds_toArray, List.set_cons_zero, List.set_cons_succ]
              refine wpAnyH_take (i := 15) (v := ?_) rfl (by kernel_rfl) (by kernel_rfl) (by kernel_rfl) (fun _ _ _ h => h) (Or.inl ⟨by rfl, ?hy159⟩) (by assumption) ?ty159
              case hy159 => (intro w hSw; (try dsimp only at hSw); go_simp; all_goals with_reducible rfl)
              simp only [Act.put, List.getElem_toArray, List.getElem_cons_zero, List.getElem_cons_succ, List.setIfInBounds_toArray, List.set_cons_zero, List.set_cons_succ]
              refine wpAnyH_take (i := 16) (v := ?_) rfl (by kernel_rfl) (by kernel_rfl) (by kernel_rfl) (fun _ _ _ h => h) (Or.inl ⟨by rfl, ?hy160⟩) (by assumption) ?ty160
              case hy160 => (intro w hSw; (try dsimp only at hSw); go_simp; all_goals with_reducible rfl)
              simp only [Act.put, List.getElem_toArray, List.getElem_cons_zero, List.getElem_cons_succ, List.setIfInBounds_toArray, List.set_cons_zero, List.set_cons_succ]
              refine wpAnyH_done (by kernel_rfl) ?_ _
              clear hsS
              have HF : Hid (Below w.heap.size w z1) := HB5.out.trans (HZ.out.mono HB5.out.size)
              clear hHeld HZ HES HB5
              go_wp2
              go_ret
              exact ⟨rfl, HF.out⟩
end Go.Proofs.Ytjkhlkmibajhiaa
