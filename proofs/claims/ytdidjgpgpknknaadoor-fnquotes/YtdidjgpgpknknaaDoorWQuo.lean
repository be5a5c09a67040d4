/- The law FnQuotes returns true at every input, and changes nothing that was there. -/
import Derived.Test.YtdidjgpgpknknaaDoorDrw6
import Derived.Test.YtdidjgpgpknknaaDoorDecQ4
import Derived.Test.YtdidjgpgpknknaaDoorMrk
import Derived.Test.YtdidjgpgpknknaaDoorFld
import Derived.Test.YtdidjgpgpknknaaDoorPln
namespace Go.Proofs.YtdidjgpgpknknaaDoor
open Go.RowKit

theorem decQ_enc {l : List Nat} (hB : IsB l) (hl : l.length ≤ 400) : decQ (Xq.quo l) = (0, l) :=
  decQ_some (by have := Xq.quo_len_le l; omega) (Xq.unq_quo l hB) (by omega)

set_option maxHeartbeats 12800000 in
set_option maxRecDepth 100000 in
theorem walkQuotes (a : Option Addr) (n cap : Nat) (l : List Nat) (w : World) (hl : l.length = n) (hr : Rd w a l) (hB : IsB l) (ht : TabH w) :
    Calls Tryd.prog 4 #[.slice a n cap] w fun e w' => e = .returned (.bool true) ∧ Below w.heap.size w w' := by
  by_cases hbig : 1048576 < n
  · go_enter Tryd.func4, Tryd.ntmps4
    go_wp2_with fail
    refine (lwBig_any a n cap w).mono ?_
    rintro e w1 ⟨rfl, rfl⟩
    rw [decide_eq_true (by omega)]
    go_wp2
    go_ret
    exact ⟨rfl, Below.refl _ _⟩
  · go_enter Tryd.func4, Tryd.ntmps4
    go_wp2_with fail
    refine (lwBig_any a n cap w).mono ?_
    rintro e w1 ⟨rfl, rfl⟩
    rw [decide_eq_false (by omega)]
    go_wp2_with fail
    refine (drawDecodeQuoted_any a n cap l w hl hr hB (by omega)).mono ?_
    rintro e w1 ⟨t, rfl, hBt, htl, hb1⟩
    have Hi : Hid (_) := fun w ht => implDecodeQuoted_any t _ w rfl hBt ht
    have Hs : Hid (_) := fun w => specDecodeQuoted_any t _ w rfl hBt
    generalize decQ t = d at *
    obtain ⟨c, u⟩ := d
    simp only at Hi Hs
    obtain ⟨N, hlN⟩ : ∃ N, u.length = N := ⟨_, rfl⟩
    go_wp2_with fail
    refine (Hi.out _ (ht.below (hb1))).mono ?_
    rintro e w2 ⟨v, rfl, ho2, hb2⟩
    obtain ⟨a2, c2, hv2, hc2, -⟩ := ho2.form
    rw [hlN] at hv2 hc2
    rw [hv2] at ho2 ⊢
    have hs1 := hb1.size
    have HBw2 : Hid (Below w.heap.size w (w2.alloc (.cells #[.int .i64 c, .slice a2 N c2] 26))) := (hb1.trans (hb2.mono hs1)).alloc (by have := hb2.size; omega) _
    have HR2 : Hid (Rd (w2.alloc (.cells #[.int .i64 c, .slice a2 N c2] 26)) a2 u) := (Own.rd ho2).2.below ((Below.refl _ _).alloc (Nat.le_refl _) _)
    obtain ⟨k0, k1, -, -⟩ := res_block (w := w2) (wr := w2.alloc (.cells #[.int .i64 c, .slice a2 N c2] 26)) rfl (Below.refl _ _)
    have hsW : (w2.alloc (.cells #[.int .i64 c, .slice a2 N c2] 26)).heap.size = w2.heap.size + 1 := by simp
    have hgw : w.heap.size ≤ w2.heap.size := by have := hb2.size; omega
    clear ho2 hv2 hb2
    go_wp2_with fail
    generalize hW2 : w2.alloc (.cells #[.int .i64 c, .slice a2 N c2] 26) = W2 at *
    clear hW2
    generalize w2.heap.size = g at *
    have hgg : g < W2.heap.size := by omega
    have hgW : w.heap.size ≤ W2.heap.size := by omega
    have fB0 := fldB0
    have fB1 := fldB1
    have fT0 := fldT0
    have fT1 := fldT1
    have hcc : (c != c) = false := by simp
    refine wp_region_held_drew (S := fun w' => w'.cell? ⟨g, 0, none⟩ = some (.int .i64 c) ∧ w'.cell? ⟨g, 1, none⟩ = some (.slice a2 N c2)) (by kernel_rfl) ?hSr (fun hHeld => ?_)
    case hSr => exact ⟨k0, k1⟩
    refine wpAnyH_take (i := 0) (v := ?_) rfl (by kernel_rfl) (by kernel_rfl) (by kernel_rfl) (fun _ _ _ h => h) (Or.inl ⟨by rfl, ?hy0⟩) (by assumption) ?ty0
    case hy0 => (intro w hSw; (try dsimp only at hSw); go_simp; all_goals with_reducible rfl)
    simp only [Act.put, List.getElem_toArray, List.getElem_cons_zero, List.setIfInBounds_toArray, List.set_cons_zero, List.set_cons_succ]
    refine wpAnyH_take (i := 1) (v := ?_) rfl (by kernel_rfl) (by kernel_rfl) (by kernel_rfl) (fun _ _ _ h => h) (Or.inl ⟨by rfl, ?hy1⟩) (by assumption) ?ty1
    case hy1 => (intro w hSw; (try dsimp only at hSw); go_simp; all_goals with_reducible rfl)
    simp only [Act.put, List.getElem_toArray, List.getElem_cons_zero, List.getElem_cons_succ, List.setIfInBounds_toArray, List.set_cons_zero, List.set_cons_succ]
    refine wpAnyH_take (i := 2) (v := ?_) rfl (by kernel_rfl) (by kernel_rfl) (by kernel_rfl) (fun _ _ _ h => h) (Or.inl ⟨by rfl, ?hy2⟩) (by assumption) ?ty2
    case hy2 => (intro w hSw; (try dsimp only at hSw); go_simp; all_goals with_reducible rfl)
    simp only [Act.put, List.getElem_toArray, List.getElem_cons_zero, List.getElem_cons_succ, List.setIfInBounds_toArray, List.set_cons_zero, List.set_cons_succ]
    refine wpAnyH_ready (rs := [3]) (by kernel_rfl) (by simp) ?_
    refine AllReadyH.cons rfl (fun K hK => ?_) AllReadyH.nil
    go_simp
    refine (Hs.out _).mono ?_
    rintro e w3 ⟨v3, rfl, ho3, hb3⟩
    obtain ⟨a3, c3, rfl, -, -⟩ := ho3.form
    clear ho3
    have n0 : w3.cell? ⟨g, 0, none⟩ = some (.int .i64 c) := by rw [hb3.cell (by exact hgg)]; exact k0
    have n1 : w3.cell? ⟨g, 1, none⟩ = some (.slice a2 N c2) := by rw [hb3.cell (by exact hgg)]; exact k1
    have HB3 : Hid (Below W2.heap.size W2 w3) := (Below.refl _ _).drew.trans hb3
    clear hb3 k0 k1
    refine hK.out _ _ ⟨n0, n1⟩ (fun hHeld => ?_)
    clear hK K
    refine wpAnyH_take (i := 4) (v := ?_) rfl (by kernel_rfl) (by kernel_rfl) (by kernel_rfl) (fun _ _ _ h => h) (Or.inl ⟨by rfl, ?hy4⟩) (by assumption) ?ty4
    case hy4 => (intro w hSw; (try dsimp only at hSw); go_simp; all_goals with_reducible rfl)
    simp only [Act.put, List.getElem_toArray, List.getElem_cons_zero, List.getElem_cons_succ, List.setIfInBounds_toArray, List.set_cons_zero, List.set_cons_succ]
    refine wpAnyH_take (i := 5) (v := .bool false) rfl (by kernel_rfl) (by kernel_rfl) (by kernel_rfl) (fun _ _ _ h => h) (Or.inl ⟨by rfl, ?hy5⟩) (by assumption) ?ty5
    case hy5 => (intro w hSw; (try dsimp only at hSw); go_simp; first | (simp; done) | (all_goals with_reducible rfl))
    simp only [Act.put, List.getElem_toArray, List.getElem_cons_zero, List.getElem_cons_succ, List.setIfInBounds_toArray, List.set_cons_zero, List.set_cons_succ]
    refine wpAnyH_take (i := 6) (v := ?_) rfl (by kernel_rfl) (by kernel_rfl) (by kernel_rfl) (fun _ _ _ h => h) (Or.inl ⟨by rfl, ?hy6⟩) (by assumption) ?ty6
    case hy6 => (intro w hSw; (try dsimp only at hSw); go_simp; all_goals with_reducible rfl)
    simp only [Act.put, List.getElem_toArray, List.getElem_cons_zero, List.getElem_cons_succ, List.setIfInBounds_toArray, List.set_cons_zero, List.set_cons_succ]
    refine wpAnyH_take (i := 7) (v := ?_) rfl (by kernel_rfl) (by kernel_rfl) (by kernel_rfl) (fun _ _ _ h => h) (Or.inl ⟨by rfl, ?hy7⟩) (by assumption) ?ty7
    case hy7 => (intro w hSw; (try dsimp only at hSw); go_simp; all_goals with_reducible rfl)
    simp only [Act.put, List.getElem_toArray, List.getElem_cons_zero, List.getElem_cons_succ, List.setIfInBounds_toArray, List.set_cons_zero, List.set_cons_succ]
    refine wpAnyH_take (i := 8) (v := ?_) rfl (by kernel_rfl) (by kernel_rfl) (by kernel_rfl) (fun _ _ _ h => h) (Or.inl ⟨by rfl, ?hy8⟩) (by assumption) ?ty8
    case hy8 => (intro w hSw; (try dsimp only at hSw); go_simp; all_goals with_reducible rfl)
    simp only [Act.put, List.getElem_toArray, List.getElem_cons_zero, List.getElem_cons_succ, List.setIfInBounds_toArray, List.set_cons_zero, List.set_cons_succ]
    refine wpAnyH_take (i := 9) (v := ?_) rfl (by kernel_rfl) (by kernel_rfl) (by kernel_rfl) (fun _ _ _ h => h) (Or.inl ⟨by rfl, ?hy9⟩) (by assumption) ?ty9
    case hy9 => (intro w hSw; (try dsimp only at hSw); go_simp; all_goals with_reducible rfl)
    simp only [Act.put, List.getElem_toArray, List.getElem_cons_zero, List.getElem_cons_succ, List.setIfInBounds_toArray, List.set_cons_zero, List.set_cons_succ]
    refine wpAnyH_ready (rs := [10]) (by kernel_rfl) (by simp) ?_
    refine AllReadyH.cons rfl (fun K hK => ?_) AllReadyH.nil
    go_simp
    have hs3 := HB3.out.size
    refine (Hs.out _).mono ?_
    rintro e w4 ⟨v4, rfl, ho4, hb4⟩
    obtain ⟨a4, c4, hv4, -, -⟩ := ho4.form
    rw [hlN] at hv4
    rw [hv4] at ho4 ⊢
    clear hv4
    have HR4 : Hid (Rd w4 a4 u) := (Own.rd ho4).2
    have HR24 : Hid (Rd w4 a2 u) := (HR2.out.below HB3.out).below hb4
    have HBE : Hid (Below w.heap.size w w4) := HBw2.out.trans ((HB3.out.mono (by exact hgW)).trans (hb4.mono (by omega)))
    refine hK.out _ _ ⟨(hb4.cell (p := ⟨g, 0, none⟩) (show g < w3.heap.size by omega)).trans n0, (hb4.cell (p := ⟨g, 1, none⟩) (show g < w3.heap.size by omega)).trans n1⟩ (fun hHeld => ?_)
    have k0 : w4.cell? ⟨g, 0, none⟩ = some (.int .i64 c) := (hb4.cell (p := ⟨g, 0, none⟩) (show g < w3.heap.size by omega)).trans n0
    have k1 : w4.cell? ⟨g, 1, none⟩ = some (.slice a2 N c2) := (hb4.cell (p := ⟨g, 1, none⟩) (show g < w3.heap.size by omega)).trans n1
    clear hK K ho4 hb4 n0 n1
    refine wpAnyH_take (i := 11) (v := ?_) rfl (by kernel_rfl) (by kernel_rfl) (by kernel_rfl) (fun _ _ _ h => h) (Or.inl ⟨by rfl, ?hy11⟩) (by assumption) ?ty11
    case hy11 => (intro w hSw; (try dsimp only at hSw); go_simp; all_goals with_reducible rfl)
    simp only [Act.put, List.getElem_toArray, List.getElem_cons_zero, List.getElem_cons_succ, List.setIfInBounds_toArray, List.set_cons_zero, List.set_cons_succ]
    refine wpAnyH_ready (rs := [12]) (by kernel_rfl) (by simp) ?_
    refine AllReadyH.cons rfl (fun K hK => ?_) AllReadyH.nil
    go_simp
    refine (lwSame_any a2 a4 N c2 c4 u _ hlN (by exact HR24.out) (by exact HR4.out)).mono ?_
    rintro e w5 ⟨rfl, rfl⟩
    refine hK.out _ _ ⟨k0, k1⟩ (fun hHeld => ?_)
    clear hK K
    refine wpAnyH_take (i := 13) (v := ?_) rfl (by kernel_rfl) (by kernel_rfl) (by kernel_rfl) (fun _ _ _ h => h) (Or.inl ⟨by rfl, ?hy13⟩) (by assumption) ?ty13
    case hy13 => (intro w hSw; (try dsimp only at hSw); go_simp; all_goals with_reducible rfl)
    simp only [Act.put, List.getElem_toArray, List.getElem_cons_zero, List.getElem_cons_succ, List.setIfInBounds_toArray, List.set_cons_zero, List.set_cons_succ]
    refine wpAnyH_take (i := 14) (v := ?_) rfl (by kernel_rfl) (by kernel_rfl) (by kernel_rfl) (fun _ _ _ h => h) (Or.inl ⟨by rfl, ?hy14⟩) (by assumption) ?ty14
    case hy14 => (intro w hSw; (try dsimp only at hSw); go_simp; all_goals with_reducible rfl)
    simp only [Act.put, List.getElem_toArray, List.getElem_cons_zero, List.getElem_cons_succ, List.setIfInBounds_toArray, List.set_cons_zero, List.set_cons_succ]
    refine wpAnyH_done (by kernel_rfl) ?_ _
    have HB4 : Hid (Below w.heap.size w w4) := HBE.out
    clear hHeld k0 k1 Hi Hs HR4 HR24 HB3 hs3 HBE
    generalize w4 = wE at HB4 ⊢
    clear HBw2 HR2 hsW hgg hgW hc2 hs1 hb1 hBt htl fB0 fB1 hlN hgw hcc
    go_wp2_with fail
    refine (drawLong_any a n cap l _ hl (hr.below HB4.out) hB (by omega)).2.1.mono ?_
    rintro e w8 ⟨v8, out, rfl, ho8, hBo, hol, hb8⟩
    obtain ⟨a8, c8, hv8, hc8, -⟩ := ho8.form
    obtain ⟨m, hm⟩ : ∃ m, out.length = m := ⟨_, rfl⟩
    rw [hm] at hv8 hc8 hol
    rw [hv8] at ho8 ⊢
    have HR8 : Hid (Rd w8 a8 out) := (Own.rd ho8).2
    have HB8 : Hid (Below w.heap.size w w8) := HB4.out.trans (hb8.mono HB4.out.size)
    clear ho8 hv8 hb8 HB4
    by_cases h4 : m ≤ 400
    · go_wp2_with fail
      refine (implEncodeQuoted_few a8 m c8 out _ hm HR8.out hBo hc8 h4 (ht.below HB8.out)).mono ?_
      rintro e w9 ⟨rfl, hb9⟩
      have Hd : Hid (∀ w, TabH w → Calls Tryd.prog 23 #[.string (str (Xq.quo out))] w fun e w' => ∃ v, e = .returned (.agg #[.int .i64 0, v]) ∧ Own w' w.heap.size v out ∧ Below w.heap.size w w') := fun w ht => by
        have := implDecodeQuoted_any (Xq.quo out) _ w rfl (quo_isB hBo) ht
        rw [decQ_enc hBo (by omega)] at this
        exact this
      have Hse : Hid (∀ (a : Option Addr) (cap : Nat) (w : World), Rd w a out → Calls Tryd.prog 27 #[.slice a m cap] w fun e w' => e = .returned (.agg #[.int .i64 0, .string (str (Xq.quo out))]) ∧ Below w.heap.size w w') := fun a cap w hr => specEncodeQuoted_few a m cap out w hm hr hBo h4
      have HP : Hid (∀ x ∈ Xq.quo out, 1 ≤ x ∧ x < 128) := Xq.quo_plain out hBo
      have HBx : Hid (IsB (Xq.quo out)) := quo_isB hBo
      have hxl : m ≤ (Xq.quo out).length ∧ (Xq.quo out).length ≤ 3 * m := by have := Xq.quo_len_ge out; have := Xq.quo_len_le out; omega
      have HB9 : Hid (Below w.heap.size w (w9.alloc (.cells #[.int .i64 0, .string (str (Xq.quo out))] 29))) := (HB8.out.trans (hb9.mono HB8.out.size)).alloc (by have := HB8.out.size; have := hb9.size; omega) _
      have HR9 : Hid (Rd (w9.alloc (.cells #[.int .i64 0, .string (str (Xq.quo out))] 29)) a8 out) := (HR8.out.below hb9).below ((Below.refl _ _).alloc (Nat.le_refl _) _)
      obtain ⟨k0, k1, -, -⟩ := res_block (w := w9) (wr := w9.alloc (.cells #[.int .i64 0, .string (str (Xq.quo out))] 29)) rfl (Below.refl _ _)
      have hsW : (w9.alloc (.cells #[.int .i64 0, .string (str (Xq.quo out))] 29)).heap.size = w9.heap.size + 1 := by simp
      clear HB8 HR8 hb9
      go_wp2_with fail
      generalize Xq.quo out = x at *
      generalize hW9 : w9.alloc (.cells #[.int .i64 0, .string (str x)] 29) = W9 at *
      clear hW9
      generalize w9.heap.size = g9 at *
      refine (Hd.out _ (ht.below HB9.out)).mono ?_
      rintro e wA ⟨vA, rfl, hoA, hbA⟩
      obtain ⟨aA, cA, hvA, hcA, -⟩ := hoA.form
      rw [hm] at hvA hcA
      rw [hvA] at hoA ⊢
      rw [hsW] at hbA hoA
      have hzA := hbA.size
      have HBA : Hid (Below w.heap.size w (wA.alloc (.cells #[.int .i64 0, .slice aA m cA] 26))) := (HB9.out.trans (hbA.mono (by have := HB9.out.size; omega))).alloc (by have := HB9.out.size; omega) _
      have HRA : Hid (Rd (wA.alloc (.cells #[.int .i64 0, .slice aA m cA] 26)) aA out) := (Own.rd hoA).2.below ((Below.refl _ _).alloc (Nat.le_refl _) _)
      have HRB : Hid (Rd (wA.alloc (.cells #[.int .i64 0, .slice aA m cA] 26)) a8 out) := (HR9.out.below (by rw [hsW]; exact hbA)).below ((Below.refl _ _).alloc (Nat.le_refl _) _)
      obtain ⟨m0, m1, -, -⟩ := res_block (w := wA) (wr := wA.alloc (.cells #[.int .i64 0, .slice aA m cA] 26)) rfl (Below.refl _ _)
      have j1 : (wA.alloc (.cells #[.int .i64 0, .slice aA m cA] 26)).cell? ⟨g9, 1, none⟩ = some (.string (str x)) := (((Below.refl wA.heap.size wA).alloc (Nat.le_refl _) _).cell (p := ⟨g9, 1, none⟩) (show g9 < wA.heap.size by omega)).trans ((hbA.cell (p := ⟨g9, 1, none⟩) (show g9 < g9 + 1 by omega)).trans k1)
      have hsA : (wA.alloc (.cells #[.int .i64 0, .slice aA m cA] 26)).heap.size = wA.heap.size + 1 := by simp
      have hgA : g9 < wA.heap.size := by omega
      clear hoA hvA hbA HR9 HB9 k0 k1 hsW hzA
      obtain ⟨X, hX⟩ : ∃ X, x.length = X := ⟨_, rfl⟩
      rw [hX] at hxl
      have hpl : plain x = true := by
        unfold plain
        rw [List.all_eq_true]
        intro y hy
        have := HP.out y hy
        exact decide_eq_true (by omega)
      have Hip : Hid (∀ (a : Option Addr) (cap : Nat) (w : World), Rd w a x → Calls Tryd.prog 21 #[.slice a X cap] w fun e w' => e = .returned (.bool true) ∧ w' = w) := fun a cap w hr => by
        have := isPlain_any a X cap x w hX hr (by omega)
        rw [hpl] at this
        exact this
      have hsz : (str x).size = X := by rw [str_size, hX]
      have hcvt := fun wx => run_bytes_of_string (P := Tryd.prog) wx 9 22 5 (str x) Tryd.underlying9 Tryd.underlying22 Tryd.underlying5
      rw [hsz] at hcvt
      have hge : (m : Int) ≤ (X : Int) := by omega
      clear hpl HP hxl
      go_wp2_with fail
      generalize hWA : wA.alloc (.cells #[.int .i64 0, .slice aA m cA] 26) = WB at *
      clear hWA
      generalize wA.heap.size = gA at *
      refine (drawLong_any a n cap l _ hl (hr.below HBA.out) hB (by omega)).2.2.mono ?_
      rintro e WA ⟨vP, sm, rfl, hoP, hBsm, hsml, hbP⟩
      obtain ⟨aP, cP, hvP, hcP, -⟩ := hoP.form
      obtain ⟨M, hM⟩ : ∃ M, sm.length = M := ⟨_, rfl⟩
      rw [hM] at hvP hcP hsml
      rw [hvP] at hoP ⊢
      have HRP : Hid (Rd WA aP sm) := (Own.rd hoP).2
      have hzP := hbP.size
      have HBP : Hid (Below w.heap.size w WA) := HBA.out.trans (hbP.mono HBA.out.size)
      have HRA' : Hid (Rd WA aA out) := HRA.out.below hbP
      have HRB' : Hid (Rd WA a8 out) := HRB.out.below hbP
      have M0 : WA.cell? ⟨gA, 0, none⟩ = some (.int .i64 0) := (hbP.cell (p := ⟨gA, 0, none⟩) (show gA < WB.heap.size by omega)).trans m0
      have M1 : WA.cell? ⟨gA, 1, none⟩ = some (.slice aA m cA) := (hbP.cell (p := ⟨gA, 1, none⟩) (show gA < WB.heap.size by omega)).trans m1
      have J1 : WA.cell? ⟨g9, 1, none⟩ = some (.string (str x)) := (hbP.cell (p := ⟨g9, 1, none⟩) (show g9 < WB.heap.size by omega)).trans j1
      have hgW : gA < WA.heap.size := by omega
      have hg9 : g9 < WA.heap.size := by omega
      have HI1 : Hid (_) := fun (w : World) (hr : Rd w aP sm) => isPlain_any aP M cP sm w hM hr (by omega)
      have HI2 : Hid (_) := fun (w : World) (hr : Rd w aP sm) => specIsPlain_any aP M cP sm w hM hr (by omega)
      generalize plain sm = pb at *
      clear hoP hvP hbP m0 m1 j1 HRA HRB HBA hBsm hsml hcP hzP
      go_wp2_with fail
      refine wp_region_held_drew (S := fun w' => w'.cell? ⟨gA, 0, none⟩ = some (.int .i64 0) ∧ w'.cell? ⟨gA, 1, none⟩ = some (.slice aA m cA) ∧ w'.cell? ⟨g9, 1, none⟩ = some (.string (str x))) (by kernel_rfl) ?hSz (fun hHeld => ?_)
      case hSz => exact ⟨M0, M1, J1⟩
      refine wpAnyH_take (i := 0) (v := ?_) rfl (by kernel_rfl) (by kernel_rfl) (by kernel_rfl) (fun _ _ _ h => h) (Or.inl ⟨by rfl, ?hz0⟩) (by assumption) ?tz0
      case hz0 => (intro w hSw; (try dsimp only at hSw); go_simp; all_goals with_reducible rfl)
      simp only [Act.put, List.getElem_toArray, List.getElem_cons_zero, List.setIfInBounds_toArray, List.set_cons_zero, List.set_cons_succ]
      refine wpAnyH_take (i := 1) (v := ?_) rfl (by kernel_rfl) (by kernel_rfl) (by kernel_rfl) (fun _ _ _ h => h) (Or.inl ⟨by rfl, ?hz1⟩) (by assumption) ?tz1
      case hz1 => (intro w hSw; (try dsimp only at hSw); go_simp; all_goals with_reducible rfl)
      simp only [Act.put, List.getElem_toArray, List.getElem_cons_zero, List.getElem_cons_succ, List.setIfInBounds_toArray, List.set_cons_zero, List.set_cons_succ]
      refine wpAnyH_take (i := 2) (v := ?_) rfl (by kernel_rfl) (by kernel_rfl) (by kernel_rfl) (fun _ _ _ h => h) (Or.inl ⟨by rfl, ?hz2⟩) (by assumption) ?tz2
      case hz2 => (intro w hSw; (try dsimp only at hSw); go_simp; all_goals with_reducible rfl)
      simp only [Act.put, List.getElem_toArray, List.getElem_cons_zero, List.getElem_cons_succ, List.setIfInBounds_toArray, List.set_cons_zero, List.set_cons_succ]
      refine wpAnyH_take (i := 3) (v := ?_) rfl (by kernel_rfl) (by kernel_rfl) (by kernel_rfl) (fun _ _ _ h => h) (Or.inl ⟨by rfl, ?hz3⟩) (by assumption) ?tz3
      case hz3 => (intro w hSw; (try dsimp only at hSw); go_simp; all_goals with_reducible rfl)
      simp only [Act.put, List.getElem_toArray, List.getElem_cons_zero, List.getElem_cons_succ, List.setIfInBounds_toArray, List.set_cons_zero, List.set_cons_succ]
      refine wpAnyH_take (i := 4) (v := ?_) rfl (by kernel_rfl) (by kernel_rfl) (by kernel_rfl) (fun _ _ _ h => h) (Or.inl ⟨by rfl, ?hz4⟩) (by assumption) ?tz4
      case hz4 => (intro w hSw; (try dsimp only at hSw); go_simp; all_goals with_reducible rfl)
      simp only [Act.put, List.getElem_toArray, List.getElem_cons_zero, List.getElem_cons_succ, List.setIfInBounds_toArray, List.set_cons_zero, List.set_cons_succ]
      refine wpAnyH_take (i := 5) (v := ?_) rfl (by kernel_rfl) (by kernel_rfl) (by kernel_rfl) (fun _ _ _ h => h) (Or.inl ⟨by rfl, ?hz5⟩) (by assumption) ?tz5
      case hz5 => (intro w hSw; (try dsimp only at hSw); go_simp; all_goals with_reducible rfl)
      simp only [Act.put, List.getElem_toArray, List.getElem_cons_zero, List.getElem_cons_succ, List.setIfInBounds_toArray, List.set_cons_zero, List.set_cons_succ]
      refine wpAnyH_take (i := 6) (v := ?_) rfl (by kernel_rfl) (by kernel_rfl) (by kernel_rfl) (fun _ _ _ h => h) (Or.inl ⟨by rfl, ?hz6⟩) (by assumption) ?tz6
      case hz6 => (intro w hSw; (try dsimp only at hSw); go_simp; all_goals with_reducible rfl)
      simp only [Act.put, List.getElem_toArray, List.getElem_cons_zero, List.getElem_cons_succ, List.setIfInBounds_toArray, List.set_cons_zero, List.set_cons_succ]
      refine wpAnyH_ready (rs := [7]) (by kernel_rfl) (by simp) ?_
      refine AllReadyH.cons rfl (fun K hK => ?_) AllReadyH.nil
      go_simp
      refine (lwSame_any aA a8 m cA c8 out _ hm (by exact HRA'.out) (by exact HRB'.out)).mono ?_
      rintro e wY ⟨rfl, rfl⟩
      refine hK.out _ _ ⟨M0, M1, J1⟩ (fun hHeld => ?_)
      clear hK K
      refine wpAnyH_take (i := 8) (v := ?_) rfl (by kernel_rfl) (by kernel_rfl) (by kernel_rfl) (fun _ _ _ h => h) (Or.inl ⟨by rfl, ?hz8⟩) (by assumption) ?tz8
      case hz8 => (intro w hSw; (try dsimp only at hSw); go_simp; all_goals with_reducible rfl)
      simp only [Act.put, List.getElem_toArray, List.getElem_cons_zero, List.getElem_cons_succ, List.setIfInBounds_toArray, List.set_cons_zero, List.set_cons_succ]
      refine wpAnyH_take (i := 9) (v := ?_) rfl (by kernel_rfl) (by kernel_rfl) (by kernel_rfl) (fun _ _ _ h => h) (Or.inl ⟨by rfl, ?hz9⟩) (by assumption) ?tz9
      case hz9 => (intro w hSw; (try dsimp only at hSw); go_simp; all_goals with_reducible rfl)
      simp only [Act.put, List.getElem_toArray, List.getElem_cons_zero, List.getElem_cons_succ, List.setIfInBounds_toArray, List.set_cons_zero, List.set_cons_succ]
      refine wpAnyH_take (i := 10) (v := ?_) rfl (by kernel_rfl) (by kernel_rfl) (by kernel_rfl) (fun _ _ _ h => h) (Or.inl ⟨by rfl, ?hz10⟩) (by assumption) ?tz10
      case hz10 => (intro w hSw; (try dsimp only at hSw); go_simp; all_goals with_reducible rfl)
      simp only [Act.put, List.getElem_toArray, List.getElem_cons_zero, List.getElem_cons_succ, List.setIfInBounds_toArray, List.set_cons_zero, List.set_cons_succ]
      refine wpAnyH_take (i := 11) (v := ?_) rfl (by kernel_rfl) (by kernel_rfl) (by kernel_rfl) (fun _ _ _ h => h) (Or.inl ⟨by rfl, ?hz11⟩) (by assumption) ?tz11
      case hz11 => (intro w hSw; (try dsimp only at hSw); go_simp; all_goals with_reducible rfl)
      simp only [Act.put, List.getElem_toArray, List.getElem_cons_zero, List.getElem_cons_succ, List.setIfInBounds_toArray, List.set_cons_zero, List.set_cons_succ]
      refine wpAnyH_ready (rs := [12]) (by kernel_rfl) (by simp) ?_
      refine AllReadyH.cons rfl (fun K hK => ?_) AllReadyH.nil
      go_simp
      clear hcvt
      generalize grownCap WA.drew X 0 5 = cp
      have HRC : Hid (Rd (WA.alloc (.cells (bytesRow (str x) cp) 5 ((bytesRow (str x) cp).size, (bytesRow (str x) cp).size + 1))).drew.drew (some ⟨WA.heap.size, 0, none⟩) x) := bytesRow_rd WA x HBx.out _ _
      have HBC : Hid (Below WA.heap.size WA (WA.alloc (.cells (bytesRow (str x) cp) 5 ((bytesRow (str x) cp).size, (bytesRow (str x) cp).size + 1))).drew.drew) := ((Below.refl _ _).alloc (Nat.le_refl _) _).drew.drew
      generalize (WA.alloc (.cells (bytesRow (str x) cp) 5 ((bytesRow (str x) cp).size, (bytesRow (str x) cp).size + 1))).drew.drew = WC at HRC HBC ⊢
      have n0 : WC.cell? ⟨gA, 0, none⟩ = some (.int .i64 0) := (HBC.out.cell (p := ⟨gA, 0, none⟩) hgW).trans M0
      have n1 : WC.cell? ⟨gA, 1, none⟩ = some (.slice aA m cA) := (HBC.out.cell (p := ⟨gA, 1, none⟩) hgW).trans M1
      have n2 : WC.cell? ⟨g9, 1, none⟩ = some (.string (str x)) := (HBC.out.cell (p := ⟨g9, 1, none⟩) hg9).trans J1
      have HRPC : Hid (Rd WC aP sm) := HRP.out.below HBC.out
      refine hK.out _ _ ⟨n0, n1, n2⟩ (fun hHeld => ?_)
      clear hK K M0 M1 J1
      refine wpAnyH_ready (rs := [13]) (by kernel_rfl) (by simp) ?_
      refine AllReadyH.cons rfl (fun K hK => ?_) AllReadyH.nil
      go_simp
      refine (Hip.out _ _ _ HRC.out).mono ?_
      rintro e wZ ⟨rfl, hwz⟩
      rw [hwz]
      clear hwz
      refine hK.out _ _ ⟨n0, n1, n2⟩ (fun hHeld => ?_)
      clear hK K
      refine wpAnyH_take (i := 14) (v := ?_) rfl (by kernel_rfl) (by kernel_rfl) (by kernel_rfl) (fun _ _ _ h => h) (Or.inl ⟨by rfl, ?hz14⟩) (by assumption) ?tz14
      case hz14 => (intro w hSw; (try dsimp only at hSw); go_simp; all_goals with_reducible rfl)
      simp only [Act.put, List.getElem_toArray, List.getElem_cons_zero, List.getElem_cons_succ, List.setIfInBounds_toArray, List.set_cons_zero, List.set_cons_succ]
      refine wpAnyH_take (i := 15) (v := ?_) rfl (by kernel_rfl) (by kernel_rfl) (by kernel_rfl) (fun _ _ _ h => h) (Or.inl ⟨by rfl, ?hz15⟩) (by assumption) ?tz15
      case hz15 => (intro w hSw; (try dsimp only at hSw); go_simp; all_goals with_reducible rfl)
      simp only [Act.put, List.getElem_toArray, List.getElem_cons_zero, List.getElem_cons_succ, List.setIfInBounds_toArray, List.set_cons_zero, List.set_cons_succ]
      refine wpAnyH_take (i := 16) (v := ?_) rfl (by kernel_rfl) (by kernel_rfl) (by kernel_rfl) (fun _ _ _ h => h) (Or.inl ⟨by rfl, ?hz16⟩) (by assumption) ?tz16
      case hz16 => (intro w hSw; (try dsimp only at hSw); go_simp; all_goals with_reducible rfl)
      simp only [Act.put, List.getElem_toArray, List.getElem_cons_zero, List.getElem_cons_succ, List.setIfInBounds_toArray, List.set_cons_zero, List.set_cons_succ]
      refine wpAnyH_take (i := 17) (v := ?_) rfl (by kernel_rfl) (by kernel_rfl) (by kernel_rfl) (fun _ _ _ h => h) (Or.inl ⟨by rfl, ?hz17⟩) (by assumption) ?tz17
      case hz17 => (intro w hSw; (try dsimp only at hSw); go_simp; all_goals with_reducible rfl)
      simp only [Act.put, List.getElem_toArray, List.getElem_cons_zero, List.getElem_cons_succ, List.setIfInBounds_toArray, List.set_cons_zero, List.set_cons_succ]
      refine wpAnyH_take (i := 18) (v := ?_) rfl (by kernel_rfl) (by kernel_rfl) (by kernel_rfl) (fun _ _ _ h => h) (Or.inl ⟨by rfl, ?hz18⟩) (by assumption) ?tz18
      case hz18 => (intro w hSw; (try dsimp only at hSw); go_simp; all_goals with_reducible rfl)
      simp only [Act.put, List.getElem_toArray, List.getElem_cons_zero, List.getElem_cons_succ, List.setIfInBounds_toArray, List.set_cons_zero, List.set_cons_succ]
      refine wpAnyH_take (i := 19) (v := ?_) rfl (by kernel_rfl) (by kernel_rfl) (by kernel_rfl) (fun _ _ _ h => h) (Or.inl ⟨by rfl, ?hz19⟩) (by assumption) ?tz19
      case hz19 => (intro w hSw; (try dsimp only at hSw); go_simp; all_goals with_reducible rfl)
      simp only [Act.put, List.getElem_toArray, List.getElem_cons_zero, List.getElem_cons_succ, List.setIfInBounds_toArray, List.set_cons_zero, List.set_cons_succ]
      refine wpAnyH_take (i := 20) (v := ?_) rfl (by kernel_rfl) (by kernel_rfl) (by kernel_rfl) (fun _ _ _ h => h) (Or.inl ⟨by rfl, ?hz20⟩) (by assumption) ?tz20
      case hz20 => (intro w hSw; (try dsimp only at hSw); go_simp; all_goals with_reducible rfl)
      simp only [Act.put, List.getElem_toArray, List.getElem_cons_zero, List.getElem_cons_succ, List.setIfInBounds_toArray, List.set_cons_zero, List.set_cons_succ]
      refine wpAnyH_take (i := 21) (v := .bool true) rfl (by kernel_rfl) (by kernel_rfl) (by kernel_rfl) (fun _ _ _ h => h) (Or.inl ⟨by rfl, ?hz21⟩) (by assumption) ?tz21
      case hz21 => (intro w hSw; (try dsimp only at hSw); go_simp; all_goals with_reducible rfl)
      simp only [Act.put, List.getElem_toArray, List.getElem_cons_zero, List.getElem_cons_succ, List.setIfInBounds_toArray, List.set_cons_zero, List.set_cons_succ]
      refine wpAnyH_take (i := 22) (v := ?_) rfl (by kernel_rfl) (by kernel_rfl) (by kernel_rfl) (fun _ _ _ h => h) (Or.inl ⟨by rfl, ?hz22⟩) (by assumption) ?tz22
      case hz22 => (intro w hSw; (try dsimp only at hSw); go_simp; all_goals with_reducible rfl)
      simp only [Act.put, List.getElem_toArray, List.getElem_cons_zero, List.getElem_cons_succ, List.setIfInBounds_toArray, List.set_cons_zero, List.set_cons_succ]
      refine wpAnyH_take (i := 23) (v := ?_) rfl (by kernel_rfl) (by kernel_rfl) (by kernel_rfl) (fun _ _ _ h => h) (Or.inl ⟨by rfl, ?hz23⟩) (by assumption) ?tz23
      case hz23 => (intro w hSw; (try dsimp only at hSw); go_simp; all_goals with_reducible rfl)
      simp only [Act.put, List.getElem_toArray, List.getElem_cons_zero, List.getElem_cons_succ, List.setIfInBounds_toArray, List.set_cons_zero, List.set_cons_succ]
      refine wpAnyH_take (i := 24) (v := ?_) rfl (by kernel_rfl) (by kernel_rfl) (by kernel_rfl) (fun _ _ _ h => h) (Or.inl ⟨by rfl, ?hz24⟩) (by assumption) ?tz24
      case hz24 => (intro w hSw; (try dsimp only at hSw); go_simp; all_goals with_reducible rfl)
      simp only [Act.put, List.getElem_toArray, List.getElem_cons_zero, List.getElem_cons_succ, List.setIfInBounds_toArray, List.set_cons_zero, List.set_cons_succ]
      refine wpAnyH_take (i := 26) (v := ?_) rfl (by kernel_rfl) (by kernel_rfl) (by kernel_rfl) (fun _ _ _ h => h) (Or.inl ⟨by rfl, ?hz26⟩) (by assumption) ?tz26
      case hz26 => (intro w hSw; (try dsimp only at hSw); go_simp; all_goals with_reducible rfl)
      simp only [Act.put, List.getElem_toArray, List.getElem_cons_zero, List.getElem_cons_succ, List.setIfInBounds_toArray, List.set_cons_zero, List.set_cons_succ]
      refine wpAnyH_ready (rs := [25]) (by kernel_rfl) (by simp) ?_
      refine AllReadyH.cons rfl (fun K hK => ?_) AllReadyH.nil
      go_simp
      refine (HI1.out _ HRPC.out).mono ?_
      rintro e wZ ⟨rfl, hwz⟩
      rw [hwz]
      clear hwz
      refine hK.out _ _ ⟨n0, n1, n2⟩ (fun hHeld => ?_)
      clear hK K
      refine wpAnyH_ready (rs := [27]) (by kernel_rfl) (by simp) ?_
      refine AllReadyH.cons rfl (fun K hK => ?_) AllReadyH.nil
      go_simp
      refine (HI2.out _ HRPC.out).mono ?_
      rintro e wZ ⟨rfl, hwz⟩
      rw [hwz]
      clear hwz
      refine hK.out _ _ ⟨n0, n1, n2⟩ (fun hHeld => ?_)
      clear hK K
      refine wpAnyH_take (i := 28) (v := .bool true) rfl (by kernel_rfl) (by kernel_rfl) (by kernel_rfl) (fun _ _ _ h => h) (Or.inl ⟨by rfl, ?hz28⟩) (by assumption) ?tz28
      case hz28 => (intro w hSw; (try dsimp only at hSw); go_simp; first | (simp; done) | (all_goals with_reducible rfl))
      simp only [Act.put, List.getElem_toArray, List.getElem_cons_zero, List.getElem_cons_succ, List.setIfInBounds_toArray, List.set_cons_zero, List.set_cons_succ]
      refine wpAnyH_take (i := 29) (v := ?_) rfl (by kernel_rfl) (by kernel_rfl) (by kernel_rfl) (fun _ _ _ h => h) (Or.inl ⟨by rfl, ?hz29⟩) (by assumption) ?tz29
      case hz29 => (intro w hSw; (try dsimp only at hSw); go_simp; all_goals with_reducible rfl)
      simp only [Act.put, List.getElem_toArray, List.getElem_cons_zero, List.getElem_cons_succ, List.setIfInBounds_toArray, List.set_cons_zero, List.set_cons_succ]
      refine wpAnyH_take (i := 30) (v := ?_) rfl (by kernel_rfl) (by kernel_rfl) (by kernel_rfl) (fun _ _ _ h => h) (Or.inl ⟨by rfl, ?hz30⟩) (by assumption) ?tz30
      case hz30 => (intro w hSw; (try dsimp only at hSw); go_simp; all_goals with_reducible rfl)
      simp only [Act.put, List.getElem_toArray, List.getElem_cons_zero, List.getElem_cons_succ, List.setIfInBounds_toArray, List.set_cons_zero, List.set_cons_succ]
      refine wpAnyH_take (i := 31) (v := ?_) rfl (by kernel_rfl) (by kernel_rfl) (by kernel_rfl) (fun _ _ _ h => h) (Or.inl ⟨by rfl, ?hz31⟩) (by assumption) ?tz31
      case hz31 => (intro w hSw; (try dsimp only at hSw); go_simp; all_goals with_reducible rfl)
      simp only [Act.put, List.getElem_toArray, List.getElem_cons_zero, List.getElem_cons_succ, List.setIfInBounds_toArray, List.set_cons_zero, List.set_cons_succ]
      refine wpAnyH_take (i := 32) (v := ?_) rfl (by kernel_rfl) (by kernel_rfl) (by kernel_rfl) (fun _ _ _ h => h) (Or.inl ⟨by rfl, ?hz32⟩) (by assumption) ?tz32
      case hz32 => (intro w hSw; (try dsimp only at hSw); go_simp; all_goals with_reducible rfl)
      simp only [Act.put, List.getElem_toArray, List.getElem_cons_zero, List.getElem_cons_succ, List.setIfInBounds_toArray, List.set_cons_zero, List.set_cons_succ]
      refine wpAnyH_take (i := 33) (v := ?_) rfl (by kernel_rfl) (by kernel_rfl) (by kernel_rfl) (fun _ _ _ h => h) (Or.inl ⟨by rfl, ?hz33⟩) (by assumption) ?tz33
      case hz33 => (intro w hSw; (try dsimp only at hSw); go_simp; all_goals with_reducible rfl)
      simp only [Act.put, List.getElem_toArray, List.getElem_cons_zero, List.getElem_cons_succ, List.setIfInBounds_toArray, List.set_cons_zero, List.set_cons_succ]
      refine wpAnyH_ready (rs := [34]) (by kernel_rfl) (by simp) ?_
      refine AllReadyH.cons rfl (fun K hK => ?_) AllReadyH.nil
      go_simp
      refine (Hse.out a8 c8 _ (HRB'.out.below HBC.out)).mono ?_
      rintro e wX ⟨rfl, hbX⟩
      have hzC := HBC.out.size
      have HBX : Hid (Below w.heap.size w wX) := HBP.out.trans ((HBC.out.mono HBP.out.size).trans (hbX.mono (Nat.le_trans HBP.out.size hzC)))
      refine hK.out _ _ ⟨(hbX.cell (p := ⟨gA, 0, none⟩) (show gA < WC.heap.size by omega)).trans n0, (hbX.cell (p := ⟨gA, 1, none⟩) (show gA < WC.heap.size by omega)).trans n1, (hbX.cell (p := ⟨g9, 1, none⟩) (show g9 < WC.heap.size by omega)).trans n2⟩ (fun hHeld => ?_)
      clear hK K hbX n0 n1 n2
      refine wpAnyH_take (i := 35) (v := ?_) rfl (by kernel_rfl) (by kernel_rfl) (by kernel_rfl) (fun _ _ _ h => h) (Or.inl ⟨by rfl, ?hz35⟩) (by assumption) ?tz35
      case hz35 => (intro w hSw; (try dsimp only at hSw); go_simp; all_goals with_reducible rfl)
      simp only [Act.put, List.getElem_toArray, List.getElem_cons_zero, List.getElem_cons_succ, List.setIfInBounds_toArray, List.set_cons_zero, List.set_cons_succ]
      refine wpAnyH_take (i := 36) (v := ?_) rfl (by kernel_rfl) (by kernel_rfl) (by kernel_rfl) (fun _ _ _ h => h) (Or.inl ⟨by rfl, ?hz36⟩) (by assumption) ?tz36
      case hz36 => (intro w hSw; (try dsimp only at hSw); go_simp; all_goals with_reducible rfl)
      simp only [Act.put, List.getElem_toArray, List.getElem_cons_zero, List.getElem_cons_succ, List.setIfInBounds_toArray, List.set_cons_zero, List.set_cons_succ]
      refine wpAnyH_take (i := 37) (v := ?_) rfl (by kernel_rfl) (by kernel_rfl) (by kernel_rfl) (fun _ _ _ h => h) (Or.inl ⟨by rfl, ?hz37⟩) (by assumption) ?tz37
      case hz37 => (intro w hSw; (try dsimp only at hSw); go_simp; all_goals with_reducible rfl)
      simp only [Act.put, List.getElem_toArray, List.getElem_cons_zero, List.getElem_cons_succ, List.setIfInBounds_toArray, List.set_cons_zero, List.set_cons_succ]
      refine wpAnyH_take (i := 38) (v := ?_) rfl (by kernel_rfl) (by kernel_rfl) (by kernel_rfl) (fun _ _ _ h => h) (Or.inl ⟨by rfl, ?hz38⟩) (by assumption) ?tz38
      case hz38 => (intro w hSw; (try dsimp only at hSw); go_simp; all_goals with_reducible rfl)
      simp only [Act.put, List.getElem_toArray, List.getElem_cons_zero, List.getElem_cons_succ, List.setIfInBounds_toArray, List.set_cons_zero, List.set_cons_succ]
      refine wpAnyH_done (by kernel_rfl) ?_ _
      go_wp2
      go_ret
      exact ⟨rfl, HBX.out⟩
    · go_wp2_with fail
      refine (encodeQuoted_many a8 m c8 _ (by omega)).2.mono ?_
      rintro e w9 ⟨rfl, hb9⟩
      have HB9 : Hid (Below w.heap.size w (w9.alloc (.cells #[.int .i64 2, .string ⟨#[]⟩] 29))) := (HB8.out.trans (hb9.mono HB8.out.size)).alloc (by have := HB8.out.size; have := hb9.size; omega) _
      obtain ⟨k0, k1, -, -⟩ := res_block (w := w9) (wr := w9.alloc (.cells #[.int .i64 2, .string ⟨#[]⟩] 29)) rfl (Below.refl _ _)
      have hgg : w9.heap.size < (w9.alloc (.cells #[.int .i64 2, .string ⟨#[]⟩] 29)).heap.size := by simp
      have h4' : 400 < m := by omega
      clear HB8 HR8 hb9 k1
      go_wp2_with fail
      generalize hW9 : w9.alloc (.cells #[.int .i64 2, .string ⟨#[]⟩] 29) = W9 at *
      clear hW9
      generalize w9.heap.size = g9 at *
      first
        | (
          go_region_held3 (fun w' => w'.cell? ⟨g9, 0, none⟩ = some (.int .i64 2))
            (first
              | go_keep
              | (rw [hbX.cell (by exact hgg)]; assumption))
            ((go_at_call 27; refine (encodeQuoted_many a8 m c8 _ h4').1.mono ?_; rintro e wX ⟨rfl, hbX⟩)))
        | fail
      have HBX : Hid (Below w.heap.size w wX) := HB9.out.trans ((Below.refl _ _).drew.trans (hbX.mono (by exact HB9.out.size)))
      go_wp2
      go_ret
      exact ⟨rfl, HBX.out⟩
end Go.Proofs.YtdidjgpgpknknaaDoor
