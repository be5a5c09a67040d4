/- PathOf, both sides. -/
import Derived.Test.YtkjnhcnbbojajaaGreatDoorPto
import Derived.Test.YtkjnhcnbbojajaaGreatDoorRvs
import Derived.Test.YtkjnhcnbbojajaaGreatDoorMrkPToPwi
import Derived.Test.YtkjnhcnbbojajaaGreatDoorPbyToDecQ4
import Derived.Test.YtkjnhcnbbojajaaGreatDoorVwnToVwo
import Derived.Test.YtkjnhcnbbojajaaGreatDoorEncQ3ToSeo
import Derived.BigQuiet
namespace Go.Proofs.YtkjnhcnbbojajaaGreatDoor
open Go.RowKit

/-- A pointer's place in its block. -/
def ptrOff : Value → Nat
  | .pointer (some a) => a.off
  | _ => 0
/-- How an answer of numbers ends. -/
def IntsEnd (r : Int × List Int) (w : World) (e : Ending) (w' : World) : Prop := ∃ v, e = .returned (.agg #[.int .i64 r.1, v]) ∧ OwnI w' w.heap.size v r.2 ∧ Below w.heap.size w w'
theorem IntsEnd.at_ {c : Int} {w w1 : World} {v : Value} {l : List Int} {R : Nat} (hbel : Below w.heap.size w w1) (hR : w.heap.size ≤ R) (hown : OwnI w1 (R + 1) v l) (x y : Value) : IntsEnd (c, l) w (.returned (.agg #[.int .i64 c, v])) ((w1.setCell ⟨R, 0, none⟩ x).setCell ⟨R, 1, none⟩ y) :=
  ⟨v, rfl, row_low (ownsRow_setCell_below (ownsRow_setCell_below hown (by simp) _) (by simp) _) (by omega), (hbel.setCell (p := ⟨R, 0, none⟩) hR _).setCell (p := ⟨R, 1, none⟩) hR _⟩
/-- What PathOf answers. -/
def paV (d : List Nat) (k : Int) : Int × List Int := if (pwV d k).1 = 0 then (0, pthV (pwV d k).2 k.toNat) else ((pwV d k).1, [])
theorem psV_few {d : List Nat} (h : (psV d).1 = 0) : Few (psV d).2 := by
  unfold psV at h ⊢
  split at h
  · cases h
  · rename_i h4
    rw [if_neg h4]
    exact parts_few d (by omega)
theorem paV_len (d : List Nat) (k : Int) : (paV d k).2.length ≤ 8 := by
  unfold paV
  split
  · rename_i h
    obtain ⟨e, n, rfl, hn, h0⟩ := pwV_in h
    rw [e, Int.toNat_natCast]
    have := psV_few h0 n hn
    dsimp only; omega
  · simp

set_option maxHeartbeats 3200000 in
set_option maxRecDepth 100000 in
theorem pathOf_any (b m : Nat) (d : List Nat) (k : Int) (w : World) (hr : Rd w (some ⟨b, 0, none⟩) d) (hT : TabC w) (hB : IsB d) (hl : d.length = m) :
    Calls Tryz.prog 20 #[.slice (some ⟨b, 0, none⟩) m m, .int .i64 k] w (IntsEnd (paV d k) w) := by
  have hb0 : Below w.heap.size w (w.alloc (.cells #[.int .i64 0, .slice none 0 0] 33)) := (Below.refl _ _).alloc (Nat.le_refl _) _
  have HP := partsWith_any b m d k _ (hr.below hb0) (hT.below hb0) hB hl
  have HZ : Hid ((pwV d k).1 ≠ 0 → paV d k = ((pwV d k).1, [])) := fun h => if_neg h
  have HI : Hid ((pwV d k).1 = 0 → ∃ n : Nat, k = (n : Int) ∧ n < (pwV d k).2.length ∧ OkP d (pwV d k).2 ∧ Few (pwV d k).2 ∧ paV d k = (0, pthV (pwV d k).2 n)) := fun h => by
    obtain ⟨e, n, h1, h2, h3⟩ := pwV_in h
    refine ⟨n, h1, by rw [e]; exact h2, by rw [e]; exact (psV_ok h3).2, by rw [e]; exact psV_few h3, ?_⟩
    unfold paV
    rw [if_pos h, h1, Int.toNat_natCast]
  have hle : (pwV d k).2.length ≤ 8 := by
    unfold pwV
    split
    · simp
    · exact psV_le d
  generalize paV d k = r at *
  generalize pwV d k = pw at *
  obtain ⟨c, l⟩ := pw
  obtain ⟨N, hN⟩ : ∃ N, l.length = N := ⟨_, rfl⟩
  dsimp only at HI HZ hle
  go_enter Tryz.func20, Tryz.ntmps20
  go_wp2_with fail
  refine HP.mono ?_
  rintro e w1 ⟨v, rfl, ho, hb1⟩
  dsimp only at ho
  obtain ⟨a, cp, hv, -, -⟩ := ho.form
  rw [hN] at hv
  subst hv
  have hbl : Below (w.heap.size + 1) (w.alloc (.cells #[.int .i64 0, .slice none 0 0] 33)) w1 := hb1.mono (by simp)
  have hbw := hb0.trans (hbl.mono (by omega))
  have hlt : w.heap.size < w1.heap.size := by have hz := hbl.size; rw [World.size_alloc] at hz; omega
  have hrd := ho.rd.2
  clear HP hb1 ho
  by_cases hc : c = 0
  · subst hc
    obtain ⟨n, rfl, hnl, hok, hfew, rfl⟩ := HI.out rfl
    obtain ⟨g, rfl, hglt, -⟩ := hrd.at_ (by omega)
    have hnN : (n : Int) < (N : Int) := by omega
    have hbA : Below w1.heap.size w1 (w1.alloc (.cells #[.int .i64 0, .slice (some ⟨g, 0, none⟩) N cp] 27)) := (Below.refl _ _).alloc (Nat.le_refl _) _
    have hblA := hbl.trans (hbA.mono (by omega))
    have hrdA := hrd.below hbA
    have hsA : (w1.alloc (.cells #[.int .i64 0, .slice (some ⟨g, 0, none⟩) N cp] 27)).heap.size = w1.heap.size + 1 := by simp
    have q1 : (w1.alloc (.cells #[.int .i64 0, .slice (some ⟨g, 0, none⟩) N cp] 27)).cell? ⟨w1.heap.size, 1, none⟩ = some (.slice (some ⟨g, 0, none⟩) N cp) := by simp
    have hfn := hfew n hnl
    have HR : Hid (RdP (w1.alloc (.cells #[.int .i64 0, .slice (some ⟨g, 0, none⟩) N cp] 27)) (some ⟨g, 0, none⟩) l) := hrdA
    clear HI HZ hbA hrd hrdA
    go_wp2
    generalize hWA : w1.alloc (.cells #[.int .i64 0, .slice (some ⟨g, 0, none⟩) N cp] 27) = WA at *
    go_loopw [6, 7] (fun v p wr => ∃ (j : Nat) (acc : List Int), j < N ∧ p = .pointer (some ⟨g, j * 7, none⟩) ∧ OwnI wr WA.heap.size v acc ∧ Hid (pthV l n = pthV l j ++ acc.reverse) ∧ Below WA.heap.size WA wr) (fun _ p _ => ptrOff p)
    case atStart => exact ⟨n, [], by omega, rfl, OwnI.nil _ _, by show _ = _; simp, Below.refl _ _⟩
    case round =>
      obtain ⟨j, acc, hj, rfl, hown, HV, hbel⟩ := hrel
      obtain ⟨g', hg', -, hcell⟩ := (RdP.below HR.out hbel).at_ (by omega)
      cases hg'
      obtain ⟨-, -, -, -, -, x5, x6⟩ := hcell j (by omega)
      obtain ⟨av, cv, hv, -, -⟩ := hown.form
      obtain ⟨A, hA⟩ : ∃ A, acc.length = A := ⟨_, rfl⟩
      rw [hA] at hv
      subst hv
      have hq1 : wr.cell? ⟨w1.heap.size, 1, none⟩ = some (.slice (some ⟨g, 0, none⟩) N cp) := (hbel.cell (p := ⟨w1.heap.size, 1, none⟩) (by show w1.heap.size < WA.heap.size; omega)).trans q1
      clear hcell
      rcases (hok j (by omega)).2 with ⟨hup, -⟩ | ⟨u, hup, hu⟩
      · have hv : pthV l j = [] := pthV_top (by omega)
        rw [hup] at x5
        have hrev : acc.reverse = pthV l n := by rw [HV.out, hv]; rfl
        have hal : acc.length ≤ 2 := by rw [← List.length_reverse, hrev]; exact hfn
        have HRv := reverse_any _ _ acc wr hown hal
        rw [hrev] at HRv
        clear HV hv hup
        go_wp2_with fail
        refine HRv.mono ?_
        rintro e w3 ⟨rfl, ho3, hgr⟩
        have hbg : Below WA.heap.size wr w3 := (Below.refl _ _).grown hgr hbel.size (fun q hq => (hown.lt q hq).1)
        have hbl3 := hblA.trans ((hbel.trans hbg).mono (by omega))
        have hbw3 := hb0.trans (hbl3.mono (by omega))
        obtain ⟨r0, r1, s0, s1⟩ := res_block rfl hbl3
        obtain ⟨k0, k1⟩ := res_at r0 r1 (.int .i64 0) (.slice av A cv)
        have ho4 : OwnI w3 (w.heap.size + 1) (.slice av A cv) (pthV l n) := row_low ho3 (by omega)
        have HE : Hid (_) := IntsEnd.at_ (c := 0) hbw3 (R := w.heap.size) (Nat.le_refl _) ho4 (.int .i64 0) (.slice av A cv)
        clear ho3 ho4 hgr HRv
        go_wp2
        refine bodyPost_ret (v := .agg #[.int .i64 0, .slice av A cv]) (by simp [results, Tryz.results20, go_sem, k0, k1]) rfl ?_
        exact HE.out
      · rw [hup] at x5
        have HS : Hid (pthV l n = pthV l u ++ (acc ++ [(nthP l j).2.2.2]).reverse) := by
          show _ = _
          rw [HV.out, pthV_step hok (by omega) hup hu, List.reverse_append, List.reverse_singleton, List.append_assoc]
        have hune : ((u : Int) != -1) = true := by simp
        have huN : (u : Int) < (N : Int) := by omega
        have hlen : acc.length ≤ 2 := by
          have h := congrArg List.length HV.out
          rw [List.length_append, List.length_reverse] at h
          omega
        generalize (nthP l j).2.2.2 = nu at *
        clear HV hup
        go_wp2_with (at_builtin; refine wpList_app_newI rfl _ _ rfl WA.heap.size _ acc rfl hown 1 1 [nu] rfl rfl rfl (by omega) hbel.size ?_; intro v' w3 hown' hb')
        have hbel3 := hbel.trans hb'
        have hgW : g < wr.heap.size := World.block_lt_of_cell? wr ⟨g, j * 7 + 5, none⟩ x5
        have y5 : w3.cell? ⟨g, j * 7 + 5, none⟩ = some (.int .i64 (u : Int)) := by
          obtain ⟨g', hg', -, hcell⟩ := (RdP.below HR.out hbel3).at_ (by omega)
          cases hg'
          obtain ⟨-, -, -, -, -, z5, -⟩ := hcell j (by omega)
          have z0 := (RdP.below HR.out hbel).at_ (by omega)
          obtain ⟨g', hg', -, hcell⟩ := z0
          cases hg'
          obtain ⟨-, -, -, -, -, t5, -⟩ := hcell j (by omega)
          rw [z5]; rw [t5] at x5; exact x5
        have y1 : w3.cell? ⟨w1.heap.size, 1, none⟩ = some (.slice (some ⟨g, 0, none⟩) N cp) := (hbel3.cell (p := ⟨w1.heap.size, 1, none⟩) (by show w1.heap.size < WA.heap.size; omega)).trans q1
        go_wp2_with fail
        go_quiet (fail)
        go_wp2
        go_roundw
        case rel => exact ⟨u, acc ++ [nu], by omega, rfl, hown', HS.out, hbel3.trans ⟨rfl, rfl, rfl, Nat.le_refl _, fun _ _ => rfl⟩⟩
        case measure => simp [ptrOff]; try omega
  · have hM : r = (c, []) := HZ.out hc
    subst hM
    have hc' : (c != 0) = true := by simpa using hc
    obtain ⟨a0, a1, z0, z1⟩ := res_block rfl hbl
    obtain ⟨k0', k1'⟩ := res_at a0 a1 (.int .i64 c) (.slice none 0 0)
    have HK : Hid (∀ ob : Obj, (((w1.setCell ⟨w.heap.size, 0, none⟩ (.int .i64 c)).setCell ⟨w.heap.size, 1, none⟩ (.slice none 0 0)).alloc ob).cell? ⟨w.heap.size, 0, none⟩ = some (.int .i64 c) ∧ (((w1.setCell ⟨w.heap.size, 0, none⟩ (.int .i64 c)).setCell ⟨w.heap.size, 1, none⟩ (.slice none 0 0)).alloc ob).cell? ⟨w.heap.size, 1, none⟩ = some (.slice none 0 0)) := fun ob => ⟨cellB k0', cellB k1'⟩
    obtain ⟨k0, k1⟩ := HK.out (.cells #[.int .i64 c, .slice a N cp] 27)
    have HE : Hid (∀ ob : Obj, IntsEnd (c, []) w (.returned (.agg #[.int .i64 c, .slice none 0 0])) (((w1.setCell ⟨w.heap.size, 0, none⟩ (.int .i64 c)).setCell ⟨w.heap.size, 1, none⟩ (.slice none 0 0)).alloc ob)) := fun ob =>
      ⟨_, rfl, OwnI.nil _ _, ((hbw.setCell (p := ⟨w.heap.size, 0, none⟩) (Nat.le_refl _) _).setCell (p := ⟨w.heap.size, 1, none⟩) (Nat.le_refl _) _).alloc (by simp; omega) _⟩
    clear HI HZ HK k0' k1'
    go_wp2
    refine bodyPost_ret (v := .agg #[.int .i64 c, .slice none 0 0]) (by simp [results, Tryz.results20, go_sem, k0, k1]) rfl ?_
    exact HE.out _

set_option maxHeartbeats 1600000 in
set_option maxRecDepth 100000 in
theorem specPathOf_any (b m : Nat) (d : List Nat) (k : Int) (w : World) (hr : Rd w (some ⟨b, 0, none⟩) d) (hb : b < w.heap.size) (hB : IsB d) (hl : d.length = m) :
    Calls Tryz.prog 25 #[.slice (some ⟨b, 0, none⟩) m m, .int .i64 k] w (IntsEnd (paV d k) w) := by
  have hb0 : Below w.heap.size w (w.alloc (.cells #[.int .i64 0, .slice none 0 0] 33)) := (Below.refl _ _).alloc (Nat.le_refl _) _
  by_cases h4 : 400 < m
  · have h4' : (400 : Int) < (m : Int) := by omega
    have HM : Hid (paV d k = (2, [])) := by
      have e : psV d = (2, []) := if_pos (by omega)
      have e2 : pwV d k = (2, []) := by unfold pwV; rw [e, if_neg (fun h => by cases h.1)]
      show _ = _
      unfold paV
      rw [e2, if_neg (by decide)]
    go_enter Tryz.func25, Tryz.ntmps25
    go_wp2
    go_returns
    rw [HM.out]
    exact ⟨_, rfl, OwnI.nil _ _, by go_grown⟩
  · have h4' : ¬ (400 : Int) < (m : Int) := by omega
    have HA := l5Parse_any b m d _ (hr.below hb0) (Nat.lt_of_lt_of_le hb hb0.size) hB hl (by omega)
    have hps : psV d = (0, adV d 2 0 d.length (-1) 0 []) := if_neg (by omega)
    have h8 := parts_le d
    have HOK := parts_ok d (by omega)
    have HV3 : Hid ((k < 0 ∨ ((adV d 2 0 d.length (-1) 0 []).length : Int) ≤ k) → paV d k = (3, [])) := fun h => by
      have e2 : pwV d k = (3, []) := by unfold pwV; rw [hps, if_pos ⟨rfl, h⟩]
      unfold paV
      rw [e2, if_neg (by decide)]
    have HV0 : Hid (∀ n : Nat, k = (n : Int) → n < (adV d 2 0 d.length (-1) 0 []).length → paV d k = (0, pthV (adV d 2 0 d.length (-1) 0 []) n)) := fun n hk hn => by
      have e2 : pwV d k = psV d := by
        unfold pwV
        rw [hps, if_neg (fun h => by
          obtain ⟨_, h' | h'⟩ := h
          · omega
          · dsimp only at h'; omega)]
      unfold paV
      rw [e2, hps, if_pos rfl, hk, Int.toNat_natCast]
    generalize adV d 2 0 d.length (-1) 0 [] = l at *
    generalize paV d k = r at *
    obtain ⟨N, hN⟩ : ∃ N, l.length = N := ⟨_, rfl⟩
    clear hps
    go_enter Tryz.func25, Tryz.ntmps25
    go_wp2_with fail
    refine HA.mono ?_
    rintro e w1 ⟨v, rfl, ho, hb1⟩
    obtain ⟨a, cp, hv, -, -⟩ := ho.form
    rw [hN] at hv
    subst hv
    have hbl : Below (w.heap.size + 1) (w.alloc (.cells #[.int .i64 0, .slice none 0 0] 33)) w1 := hb1.mono (by simp)
    have hbw := hb0.trans (hbl.mono (by omega))
    have hz1 : w.heap.size + 1 ≤ w1.heap.size := by have hz := hbl.size; rw [World.size_alloc] at hz; exact hz
    have hrd := ho.rd.2
    clear HA hb1 ho
    go_wp2_with fail
    refine (l1In_any k 0 _ _).mono ?_
    rintro e w2 ⟨rfl, rfl⟩
    by_cases hk : k < 0 ∨ (N : Int) ≤ k
    · have hd : decide (0 ≤ k ∧ k ≤ (N : Int) - 1) = false := by simp; omega
      have HM : Hid (r = (3, [])) := HV3.out (by rw [hN]; exact hk)
      obtain ⟨a0, a1, z0, z1⟩ := res_block rfl hbl
      obtain ⟨k0, k1⟩ := res_at a0 a1 (.int .i64 3) (.slice none 0 0)
      have HE : Hid (_) := IntsEnd.at_ (c := 3) (l := []) hbw (R := w.heap.size) (Nat.le_refl _) (OwnI.nil _ _) (.int .i64 3) (.slice none 0 0)
      rw [hd]
      clear HV3 HV0 hd hk
      go_wp2
      refine bodyPost_ret (v := .agg #[.int .i64 3, .slice none 0 0]) (by simp [results, Tryz.results25, go_sem, k0, k1]) rfl ?_
      rw [HM.out]
      exact HE.out
    · obtain ⟨n, hkn⟩ : ∃ n : Nat, k = (n : Int) := ⟨k.toNat, by omega⟩
      subst hkn
      have hnl : n < N := by omega
      have hd : decide (0 ≤ (n : Int) ∧ (n : Int) ≤ (N : Int) - 1) = true := by simp; omega
      have HM : Hid (r = (0, pthV l n)) := HV0.out n rfl (by omega)
      obtain ⟨g, rfl, hglt, -⟩ := hrd.at_ (by omega)
      have HL := l5Path_any g N cp d l HOK hN (by omega) n w1 hnl hrd
      generalize pthV l n = pl at *
      rw [hd]
      clear HV3 HV0 hd hk HOK
      go_wp2_with fail
      refine HL.mono ?_
      rintro e w3 ⟨v3, rfl, ho3, hb3⟩
      have hbl3 := hbl.trans (hb3.mono hz1)
      have hbw3 := hb0.trans (hbl3.mono (by omega))
      have ho4 : OwnI w3 (w.heap.size + 1) v3 pl := row_low ho3 hz1
      obtain ⟨a3, c3, hv3, -, -⟩ := ho4.form
      subst hv3
      obtain ⟨a0, a1, z0, z1⟩ := res_block rfl hbl3
      obtain ⟨k0, k1⟩ := res_at a0 a1 (.int .i64 0) (.slice a3 pl.length c3)
      have HE : Hid (_) := IntsEnd.at_ (c := 0) hbw3 (R := w.heap.size) (Nat.le_refl _) ho4 (.int .i64 0) (.slice a3 pl.length c3)
      clear ho3 ho4 hb3 HL
      go_wp2
      refine bodyPost_ret (v := .agg #[.int .i64 0, .slice a3 pl.length c3]) (by simp [results, Tryz.results25, go_sem, k0, k1]) rfl ?_
      rw [HM.out]
      exact HE.out

/-- PathOf, both sides. -/
theorem bothPath (w : World) (hT : TabC w) (k : Int) (_hk : (Lit.int .i64 k).wf = true) (m : Nat) (s : List Nat) (hl : s.length = m) (hB : IsB s) (_hm : m ≤ 1048576) : ∃ (c : Int) (l : List Int), l.length ≤ 8 ∧
    (∀ (b : Nat) (wx : World), Below w.heap.size w wx → b < wx.heap.size → Rd wx (some ⟨b, 0, none⟩) s → Calls Tryz.prog 25 #[.slice (some ⟨b, 0, none⟩) m m, .int .i64 k] wx fun e w' => ∃ v, e = .returned (.agg #[.int .i64 c, v]) ∧ OwnI w' wx.heap.size v l ∧ Below wx.heap.size wx w') ∧
    (∀ (b : Nat) (wx : World), Below w.heap.size w wx → b < wx.heap.size → Rd wx (some ⟨b, 0, none⟩) s → Calls Tryz.prog 20 #[.slice (some ⟨b, 0, none⟩) m m, .int .i64 k] wx fun e w' => ∃ v, e = .returned (.agg #[.int .i64 c, v]) ∧ OwnI w' wx.heap.size v l ∧ Below wx.heap.size wx w') :=
  ⟨(paV s k).1, (paV s k).2, paV_len s k, fun b wx _ hlt hr => specPathOf_any b m s k wx hr hlt hB hl, fun b wx hb _ hr => pathOf_any b m s k wx hr (hT.below hb) hB hl⟩
end Go.Proofs.YtkjnhcnbbojajaaGreatDoor
