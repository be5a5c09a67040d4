/- The tree of all terms, and their fault: the program's side; no conditions beyond those that each fact names · The text of terms, the program's TermsText: at every terms; no conditions beyond those that each fact names. -/
import Derived.Test.YtjogclofjollnaaGreatDoorTpgToTbs
import Derived.Test.YtjogclofjollnaaGreatDoorTxq
namespace Go.Proofs.YtjogclofjollnaaGreatDoor
open Go.RowKit
set_option linter.unusedVariables false
def PsT (lo : Nat) (w : World) (a : Option Addr) (l : List TmR) (ps : Nat → SlT) : Prop := l = [] ∨ ∃ b off, a = some ⟨b, off, none⟩ ∧ b < w.heap.size ∧ ∀ i, i < l.length → Tc6 w b (off + i * 6) (ps i) (nthTm l i) ∧ IsTm lo w (ps i) (nthTm l i)
theorem RdTm.ps {lo : Nat} {w : World} {a : Option Addr} {l : List TmR} (h : RdTm lo w a l) : ∃ ps, PsT lo w a l ps := by
 rcases h with h | ⟨b, off, e, h2, h3, h4⟩
 ·exact ⟨fun _ => ((none, 0, 0), (none, 0, 0)), .inl h⟩
 ·refine ⟨fun i => if hi : i < l.length then Classical.choose (h4 i hi) else ((none, 0, 0), (none, 0, 0)), .inr ⟨b, off, e, h3, fun i hi => ?_⟩⟩
  have := Classical.choose_spec (h4 i hi)
  dsimp only
  rw [dif_pos hi]
  exact this
theorem Tc6.below {w w' : World} {g o : Nat} {p : SlT} {t : TmR} (h : Tc6 w g o p t) (hb : Below w.heap.size w w') (hg : g < w.heap.size) : Tc6 w' g o p t := by
 obtain ⟨h0, h1, h2, h3, h4, h5⟩ := h
 exact ⟨(hb.cell (p := ⟨g, o, none⟩) hg).trans h0, (hb.cell (p := ⟨g, o + 1, none⟩) hg).trans h1, (hb.cell (p := ⟨g, o + 2, none⟩) hg).trans h2, (hb.cell (p := ⟨g, o + 3, none⟩) hg).trans h3, (hb.cell (p := ⟨g, o + 4, none⟩) hg).trans h4, (hb.cell (p := ⟨g, o + 5, none⟩) hg).trans h5⟩
set_option maxHeartbeats 6400000 in
set_option maxRecDepth 100000 in
theorem treeOf_any (s : SlQ) (l : List TmR) (ps : Nat → SlT) {lo : Nat} (w : World) (hs : IsTs lo w s l) (hf : FtUs l) (hps : PsT lo w s.1 l ps) :
  Calls Tryz.prog 102 #[slW s] w fun e w' => e = .returned (.tuple #[(trV l ps).1, .int .i64 (trV l ps).2]) ∧ Below w.heap.size w w' := by
 obtain ⟨ad, n, cap⟩ := s
 obtain ⟨hl, hnc, hcm, hr⟩ := hs
 obtain ⟨hfn, hft⟩ := hf
 dsimp only [slW] at *
 unfold maxLen at hcm
 cases HB : bty (n : Int) 1 12 with
 | false =>
  have hn : ¬ (1 ≤ l.length ∧ l.length ≤ 12) := by have := of_decide_eq_false HB; omega
  have HR : Hid (trV l ps = (.nilIface, 2)) := if_neg hn
  generalize trV l ps = rv at *
  go_enter Tryz.func102, Tryz.ntmps102
  go_wp2_with (first | (go_at_call 65; refine (isBetween_y _ _ _ _).mono ?_; rintro e w1 ⟨rfl, rfl⟩; rw [HB]))
  refine bodyPost_ret (v := .tuple #[.nilIface, .int .i64 2]) (by simp [results, Tryz.results102, go_sem]) rfl ?_
  exact ⟨by rw [HR.out], Below.refl _ _⟩
 | true =>
  have hn : 1 ≤ n ∧ n ≤ 12 := by have := of_decide_eq_true HB; omega
  have HV : Hid (trV l ps = stG l ps n 0 []) := by show _ = _; unfold trV; rw [hl, if_pos hn]
  generalize trV l ps = rv at *
  go_enter Tryz.func102, Tryz.ntmps102
  go_wp2_with (first | (go_at_call 65; refine (isBetween_y _ _ _ _).mono ?_; rintro e w1 ⟨rfl, rfl⟩; rw [HB]))
  go_loopw [4, 17] (fun v i wr => ∃ (k : Nat) (st : List SdP), k ≤ n ∧ i = .int .i64 k ∧ OwnSd wr w.heap.size v st ∧ IfS st ∧ st.length ≤ k ∧ rv = stG l ps (n - k) k st ∧ Below w.heap.size w wr) (fun _ i _ => n - (intOf i).toNat)
  case atStart => exact ⟨0, [], Nat.zero_le _, rfl, OwnSd.nil _ _, fun i hi => by simp at hi, Nat.le_refl _, HV.out, Below.refl _ _⟩
  case round =>
   obtain ⟨k, st, hk, rfl, hO, hI, hsl, hrv, hbel⟩ := hrel
   by_cases hkn : k < n
   ·have hki : (k : Int) < (n : Int) := by omega
    obtain ⟨b, off, rfl, hblt, hpp⟩ : ∃ b off, ad = some ⟨b, off, none⟩ ∧ b < w.heap.size ∧ ∀ i, i < l.length → Tc6 w b (off + i * 6) (ps i) (nthTm l i) ∧ IsTm lo w (ps i) (nthTm l i) := by
     rcases hps with h | h
     ·rw [h] at hl; simp at hl; omega
     ·exact h
    obtain ⟨hc, hT⟩ := hpp k (by omega)
    have hc' := hc.below hbel hblt
    have hT' := hT.below hbel
    have hF := hft k (by omega)
    have HN : Hid (rv = if owF (nthTm l k) = 0 then (if okN st (nthTm l k) then stG l ps (n - (k + 1)) (k + 1) (st.take (ctN st (nthTm l k)) ++ [((k : Int), growV (nthTm l k) (ps k) ((st.drop (ctN st (nthTm l k))).map Prod.snd))]) else (.nilIface, 1)) else (.nilIface, owF (nthTm l k))) := by
     show _ = _
     rw [hrv, show n - k = (n - (k + 1)) + 1 by omega]
     rfl
    clear hrv HV hc hT hpp hps
    generalize ps k = p at *
    generalize hto : nthTm l k = o at *
    clear hto
    have hbA : Below wr.heap.size wr (wr.alloc (.cells #[.int .i64 o.k, .int .i64 o.n, slW p.1, slW p.2, .int .i64 o.l, .int .i64 o.r] 74)) := (Below.refl _ _).alloc (Nat.le_refl _) _
    have hQ := Qu.new wr (.int .i64 o.k) (.int .i64 o.n) (slW p.1) (slW p.2) (.int .i64 o.l) (.int .i64 o.r) 74
    have hOA := hO.below hbA (Nat.le_refl _)
    have hTA := hT'.below hbA
    have hbW := hbel.trans (hbA.mono hbel.size)
    have HC := ownFault_any o p _ hTA hF
    obtain ⟨c0, c1, c2, c3, c4, c5⟩ := hc'
    go_wp2_with fail
    refine HC.mono ?_
    rintro e w1 ⟨rfl, hb1⟩
    have hQ1 := hQ.below hb1 hQ.lt
    have hO1 := hOA.below hb1 (Nat.le_refl _)
    have hB1 := hbW.trans (hb1.mono hbW.size)
    have hz1 : wr.heap.size < w1.heap.size := hQ1.lt
    clear HC hbA hQ hOA hTA hb1 hbW c0 c1 c2 c3 c4 c5 hO hT'
    by_cases ho : owF o = 0
    ·rw [ho]
     have HN2 : Hid (rv = if okN st o then stG l ps (n - (k + 1)) (k + 1) (st.take (ctN st o) ++ [((k : Int), growV o p ((st.drop (ctN st o)).map Prod.snd))]) else (.nilIface, 1)) := HN.out.trans (if_pos ho)
     clear HN
     have HQ1 : Hid (Qu w1 wr.heap.size ⟨.int .i64 o.k, .int .i64 o.n, slW p.1, slW p.2, .int .i64 o.l, .int .i64 o.r⟩) := hQ1
     obtain ⟨c0, c1, c2, c3, c4, c5⟩ := hQ1
     dsimp only at c0 c1 c2 c3 c4 c5
     go_wp2_with fail
     refine (placesOfTerm_any o p w1).mono ?_
     rintro e w2 ⟨s2, rfl, hs2, hb2⟩
     have hQ2 := Qu.below HQ1.out hb2 hz1
     have hO2 := hO1.below hb2 (Nat.le_refl _)
     have hB2 := hB1.trans (hb2.mono hB1.size)
     have hz2 : wr.heap.size < w2.heap.size := Nat.lt_of_lt_of_le hz1 hb2.size
     clear c0 c1 c2 c3 c4 c5 HQ1 hb2 hO1 hB1 hz1
     go_wp2_with fail
     refine (cutLast_any _ st o s2 w2 hO2 hI hs2).mono ?_
     rintro e w3 ⟨hce, hb3⟩
     have hQ3 := hQ2.below hb3 hz2
     have hB3 := hB2.trans (hb3.mono hB2.size)
     have hz3 : wr.heap.size < w3.heap.size := Nat.lt_of_lt_of_le hz2 hb3.size
     clear hQ2 hO2 hB2 hz2 hb3 hs2
     unfold CutEnd at hce
     cases hok : okN st o with
     | false =>
      rw [hok, if_neg (by simp)] at hce
      subst hce
      have HR : Hid (rv = (.nilIface, 1)) := HN2.out.trans (by rw [hok]; rfl)
      clear HN2 hQ3
      go_wp2
      refine bodyPost_ret (v := .tuple #[.nilIface, .int .i64 1]) (by simp [results, Tryz.results102, go_sem]) rfl ?_
      exact ⟨by rw [HR.out], hB3⟩
     | true =>
      rw [hok, if_pos rfl] at hce
      obtain ⟨v1, a2, c2', rfl, hO3, hm2, hc2, hr2⟩ := hce
      have hle : (plT o).length ≤ st.length := by
       unfold okN at hok
       simp only [Bool.and_eq_true] at hok
       exact of_decide_eq_true hok.1
      have hdl : (st.drop (ctN st o)).length = (plT o).length := by rw [List.length_drop]; unfold ctN; omega
      have HR : Hid (rv = stG l ps (n - (k + 1)) (k + 1) (st.take (ctN st o) ++ [((k : Int), growV o p ((st.drop (ctN st o)).map Prod.snd))])) := HN2.out.trans (by rw [hok]; rfl)
      clear HN2 hok
      have HG := grow_any o p a2 (plT o).length c2' (st.drop (ctN st o)) w3 hdl hm2 hc2 hr2 (hI.drop _) hdl
      obtain ⟨gt, gu, hgv⟩ := growV_if o p ((st.drop (ctN st o)).map Prod.snd)
      rw [hgv] at HG HR
      have hI4 : IfS (st.take (ctN st o) ++ [((k : Int), .iface gt gu)]) := hI.next _ _ _ ⟨_, _, rfl⟩
      have hl4 : (st.take (ctN st o) ++ [((k : Int), Value.iface gt gu)]).length ≤ k + 1 := by rw [List.length_append, List.length_take, List.length_singleton]; omega
      have hl3 : (st.take (ctN st o)).length ≤ k := by rw [List.length_take]; omega
      obtain ⟨a1, cap1, rfl, -, -⟩ := hO3.form
      obtain ⟨c0, c1, c2, c3, c4, c5⟩ := hQ3
      dsimp only at c0 c1 c2 c3 c4 c5
      generalize st.take (ctN st o) = st1 at *
      go_wp2_with fail
      refine HG.mono ?_
      rintro e w4 ⟨rfl, hb4⟩
      have hO4 := hO3.below hb4 (Nat.le_refl _)
      have hB4 := hB3.trans (hb4.mono hB3.size)
      clear HG hb4 hO3 hB3 c0 c1 c2 c3 c4 c5 hr2
      go_wp2_with (at_builtin; refine wpList_app_newSd rfl _ _ rfl w.heap.size _ st1 rfl hO4 (k : Int) (.iface gt gu) rfl rfl (by omega) hB4.size ?_; intro v5 w5 hO5 hb5)
      have hB5 : Below w.heap.size w w5 := hB4.trans hb5
      refine ⟨⟨k + 1, st1 ++ [((k : Int), .iface gt gu)], by omega, by go_num, hO5, hI4, hl4, HR.out, hB5⟩, ?_⟩
      simp [intOf]
      omega
    ·have HR : Hid (rv = (.nilIface, owF o)) := HN.out.trans (if_neg ho)
     clear HN hQ1 hO1
     generalize owF o = ov at *
     go_wp2
     refine bodyPost_ret (v := .tuple #[.nilIface, .int .i64 ov]) (by simp [results, Tryz.results102, go_sem]) rfl ?_
     exact ⟨by rw [HR.out], hB1⟩
   ·have hki : ¬ (k : Int) < (n : Int) := by omega
    obtain rfl : k = n := by omega
    have HR : Hid (rv = if st.length = 1 then ((nthSd st 0).2, 0) else (.nilIface, 1)) := by
     show _ = _
     rw [hrv, Nat.sub_self]; rfl
    clear hrv HV
    obtain ⟨a1, cap1, rfl, h4, h5⟩ := hO.form
    have hrd := hO.rd.2
    unfold maxLen at h5
    by_cases h1 : st.length = 1
    ·have HR2 : Hid (rv = ((nthSd st 0).2, 0)) := HR.out.trans (if_pos h1)
     obtain ⟨b1, off1, rfl, hlt1, hcl⟩ := hrd.at_ (by omega)
     have hc1 := (hcl 0 (by omega)).2
     obtain ⟨t1, u1, e1⟩ := hI 0 (by omega)
     rw [e1] at hc1 HR2
     rw [h1]
     clear HR hcl hrd hO
     simp only [Nat.zero_mul, Nat.add_zero] at hc1
     go_wp2
     refine bodyPost_ret (v := .tuple #[.iface t1 u1, .int .i64 0]) (by simp [results, Tryz.results102, go_sem]) rfl ?_
     exact ⟨by rw [HR2.out], hbel⟩
    ·have HR2 : Hid (rv = (.nilIface, 1)) := HR.out.trans (if_neg h1)
     have h1i : ¬ (st.length : Int) = 1 := by omega
     clear HR hrd hO
     go_wp2
     refine bodyPost_ret (v := .tuple #[.nilIface, .int .i64 1]) (by simp [results, Tryz.results102, go_sem]) rfl ?_
     exact ⟨by rw [HR2.out], hbel⟩
set_option maxHeartbeats 800000 in
set_option maxRecDepth 100000 in
theorem termsFault_any (s : SlQ) (l : List TmR) {lo : Nat} (w : World) (hs : IsTs lo w s l) (hf : FtUs l) :
  Calls Tryz.prog 71 #[slW s] w fun e w' => e = .returned (.int .i64 (tmV l)) ∧ Below w.heap.size w w' := by
 obtain ⟨ps, hps⟩ := hs.2.2.2.ps
 have HC := treeOf_any s l ps w hs hf hps
 rw [← trV_tm l ps]
 generalize trV l ps = rv at *
 obtain ⟨r1, r2⟩ := rv
 dsimp only at *
 go_enter Tryz.func71, Tryz.ntmps71
 go_wp2_with fail
 refine HC.mono ?_
 rintro e w1 ⟨rfl, hb1⟩
 go_wp2
 go_ret
 exact ⟨rfl, hb1⟩
end Go.Proofs.YtjogclofjollnaaGreatDoor
namespace Go.Proofs.YtjogclofjollnaaGreatDoor
open Go.RowKit
set_option linter.unusedVariables false
theorem growV_at {o : TmR} {p : SlT} {cs : List Value} : (o.k = 2 → growV o p cs = .iface 174 (.agg #[.int .i64 o.n])) ∧ (o.k = 3 → growV o p cs = .iface 177 (.agg #[.int .i64 o.n])) ∧ (o.k = 4 → growV o p cs = .iface 178 (.agg #[.int .i64 o.n]))
  ∧ (o.k = 5 → growV o p cs = .iface 180 (.agg #[.int .i64 o.n])) ∧ (o.k = 6 → growV o p cs = .iface 182 (.agg #[slW p.1])) ∧ (o.k = 7 → growV o p cs = .iface 183 (.agg #[slW p.1])) ∧ (o.k = 8 → growV o p cs = .iface 185 (.agg #[slW p.2]))
  ∧ (o.k = 9 → growV o p cs = .iface 187 (.agg #[cs.getD 0 .nilIface])) ∧ (o.k = 10 → growV o p cs = .iface 189 (.agg #[cs.getD 0 .nilIface, cs.getD 1 .nilIface])) ∧ (o.k = 11 → growV o p cs = .iface 190 (.agg #[cs.getD 0 .nilIface, cs.getD 1 .nilIface]))
  ∧ (o.k = 1 → growV o p cs = .iface 200 (.agg #[])) := by
 unfold growV
 refine ⟨fun h => ?_, fun h => ?_, fun h => ?_, fun h => ?_, fun h => ?_, fun h => ?_, fun h => ?_, fun h => ?_, fun h => ?_, fun h => ?_, fun h => ?_⟩ <;> (rw [h]; rfl)
theorem TrT.if_ {l : List TmR} {ps : Nat → SlT} {f i : Nat} {v : Value} (h : TrT l ps f i v) : i < l.length ∧ ∃ t u, v = .iface t u := by
 cases f with
 | zero => exact h.elim
 | succ f =>
  obtain ⟨hi, cs, rfl, -⟩ := h
  exact ⟨hi, growV_if _ _ _⟩
theorem twK_k {k : Int} (h : k = 10 ∨ k = 11) : twK k = true := by rcases h with rfl | rfl <;> rfl
theorem tx_leaf {l : List TmR} {f i : Nat} (h : 2 ≤ (nthTm l i).k ∧ (nthTm l i).k ≤ 8) : txT l (f + 1) i = twN (nthTm l i).k.toNat ++ [32] ++ leT (nthTm l i) := by
 have h2 : twK (nthTm l i).k = false := by unfold twK; simp; omega
 unfold txT
 rw [if_neg (by omega), if_neg (by omega), h2]
 simp
theorem tx_all {l : List TmR} {f i : Nat} (h : (nthTm l i).k = 1) : txT l (f + 1) i = twN 1 := by
 unfold txT
 rw [if_pos h, h]
 simp
theorem tx_not {l : List TmR} {f i : Nat} (h : (nthTm l i).k = 9) : txT l (f + 1) i = twN 9 ++ [32] ++ txT l f (nthTm l i).l.toNat := by
 have hx : txT l (f + 1) i = twN (nthTm l i).k.toNat ++ (if (nthTm l i).k = 1 then [] else if (nthTm l i).k = 9 then [32] ++ txT l f (nthTm l i).l.toNat else if twK (nthTm l i).k then [32] ++ txT l f (nthTm l i).l.toNat ++ [32] ++ txT l f (nthTm l i).r.toNat else [32] ++ leT (nthTm l i)) := rfl
 rw [hx, if_neg (by omega), if_pos h, h]
 simp
theorem tx_two {l : List TmR} {f i : Nat} (h : twK (nthTm l i).k = true) : txT l (f + 1) i = twN (nthTm l i).k.toNat ++ [32] ++ txT l f (nthTm l i).l.toNat ++ [32] ++ txT l f (nthTm l i).r.toNat := by
 have hk : (nthTm l i).k = 10 ∨ (nthTm l i).k = 11 := by unfold twK at h; simpa using h
 have hx : txT l (f + 1) i = twN (nthTm l i).k.toNat ++ (if (nthTm l i).k = 1 then [] else if (nthTm l i).k = 9 then [32] ++ txT l f (nthTm l i).l.toNat else if twK (nthTm l i).k then [32] ++ txT l f (nthTm l i).l.toNat ++ [32] ++ txT l f (nthTm l i).r.toNat else [32] ++ leT (nthTm l i)) := rfl
 rw [hx, if_neg (by omega), if_neg (by omega), if_pos h]
 simp
set_option maxRecDepth 100000 in
theorem treeText_any (l : List TmR) (ps : Nat → SlT) {lo : Nat} (w : World) (hps : ∀ i, i < l.length → IsTm lo w (ps i) (nthTm l i)) (hG : ∀ j, j < l.length → GoodT l j) (hT : TabT w) (hF : TabF w) (hW : TabW w) :
  ∀ f, f ≤ 12 → ∀ i v, TrT l ps f i v → ∀ W, Below w.heap.size w W → Calls Tryz.prog 107 #[v] W fun e w' => e = .returned (.string (str (txT l f i))) ∧ Below W.heap.size W w' := by
 intro f
 induction f with
 | zero => intro _ i v h; exact h.elim
 | succ f ih =>
  intro hf i v h W hb
  have ih := ih (by omega)
  obtain ⟨hi, cs, rfl, h9, h2⟩ := h
  obtain ⟨g1, g2, g3⟩ := hG i hi
  obtain ⟨hk, hy8, hbd⟩ := ow_bd g1
  have hI := (hps i hi).below hb
  obtain ⟨v2, v3, v4, v5, v6, v7, v8, v9, v10, v11, v1⟩ := @growV_at (nthTm l i) (ps i) cs
  have hTW := hT.below hb
  have hFW := hF.below hb
  have hWW := hW.below hb
  have hle : leT (nthTm l i) = if (nthTm l i).k = 2 then fxL (nthTm l i).n.toNat else if (nthTm l i).k = 6 ∨ (nthTm l i).k = 7 then (encT 4 (nthTm l i).c).2 else if (nthTm l i).k = 8 then txY (nthTm l i).y else dgF 3 (nthTm l i).n.toNat := rfl
  by_cases k2 : (nthTm l i).k = 2
  ·obtain ⟨j, hj, e⟩ := bdT_2 g1 k2
   rw [v2 k2, tx_leaf (by omega), hle, if_pos k2, k2, e, Int.toNat_natCast]
   exact treeText_2 j hj W hTW hFW
  by_cases k3 : (nthTm l i).k = 3
  ·obtain ⟨j, hj, e⟩ := bdT_345 g1 (by omega)
   rw [v3 k3, tx_leaf (by omega), hle, if_neg (by omega), if_neg (by omega), if_neg (by omega), k3, e, Int.toNat_natCast]
   exact treeText_3 j hj W hTW hWW
  by_cases k4 : (nthTm l i).k = 4
  ·obtain ⟨j, hj, e⟩ := bdT_345 g1 (by omega)
   rw [v4 k4, tx_leaf (by omega), hle, if_neg (by omega), if_neg (by omega), if_neg (by omega), k4, e, Int.toNat_natCast]
   exact treeText_4 j hj W hTW hWW
  by_cases k5 : (nthTm l i).k = 5
  ·obtain ⟨j, hj, e⟩ := bdT_345 g1 (by omega)
   rw [v5 k5, tx_leaf (by omega), hle, if_neg (by omega), if_neg (by omega), if_neg (by omega), k5, e, Int.toNat_natCast]
   exact treeText_5 j hj W hTW hWW
  by_cases k6 : (nthTm l i).k = 6
  ·have hc := (bdT_67 g1 (by omega)).1
   have hx := hI.1
   rw [v6 k6, tx_leaf (by omega), hle, if_neg (by omega), if_pos (by omega), k6]
   generalize (ps i).1 = q at *
   obtain ⟨a, n, c⟩ := q
   exact treeText_6 a n c _ hx.1 (by have := hx.1; dsimp only at this; omega) W hTW hx.2.2.2.1
  by_cases k7 : (nthTm l i).k = 7
  ·have hc := (bdT_67 g1 (by omega)).1
   have hx := hI.1
   rw [v7 k7, tx_leaf (by omega), hle, if_neg (by omega), if_pos (by omega), k7]
   generalize (ps i).1 = q at *
   obtain ⟨a, n, c⟩ := q
   exact treeText_7 a n c _ hx.1 (by have := hx.1; dsimp only at this; omega) W hTW hx.2.2.2.1
  by_cases k8 : (nthTm l i).k = 8
  ·have hc := rfV_A (hy8 k8)
   have hx := hI.2
   rw [v8 k8, tx_leaf (by omega), hle, if_neg (by omega), if_neg (by omega), if_pos k8, k8]
   generalize (ps i).2 = q at *
   obtain ⟨a, n, c⟩ := q
   exact treeText_8 a n c _ hx.1 (by have := hx.1; dsimp only at this; omega) (hy8 k8) W hTW hx.2.2.2.1 hWW
  by_cases k9 : (nthTm l i).k = 9
  ·obtain ⟨c, rfl, hc⟩ := h9 k9
   obtain ⟨hci, t, u, rfl⟩ := hc.if_
   rw [v9 k9, tx_not k9]
   exact treeText_9 t u _ (txT_lt hG (by omega) hci) W hTW (show Hid _ from fun W' h' => ih _ _ hc W' (hb.trans (h'.mono hb.size)))
  by_cases k10 : (nthTm l i).k = 10
  ·obtain ⟨c, d, rfl, hc, hd⟩ := h2 (twK_k (by omega))
   obtain ⟨hci, t, u, rfl⟩ := hc.if_
   obtain ⟨hdi, t2, u2, rfl⟩ := hd.if_
   rw [v10 k10, tx_two (twK_k (by omega)), k10]
   exact treeText_10 t t2 u u2 _ _ (txT_lt hG (by omega) hci) (txT_lt hG (by omega) hdi) W hTW (show Hid _ from fun W' h' => ih _ _ hc W' (hb.trans (h'.mono hb.size))) (show Hid _ from fun W' h' => ih _ _ hd W' (hb.trans (h'.mono hb.size)))
  by_cases k11 : (nthTm l i).k = 11
  ·obtain ⟨c, d, rfl, hc, hd⟩ := h2 (twK_k (by omega))
   obtain ⟨hci, t, u, rfl⟩ := hc.if_
   obtain ⟨hdi, t2, u2, rfl⟩ := hd.if_
   rw [v11 k11, tx_two (twK_k (by omega)), k11]
   exact treeText_11 t t2 u u2 _ _ (txT_lt hG (by omega) hci) (txT_lt hG (by omega) hdi) W hTW (show Hid _ from fun W' h' => ih _ _ hc W' (hb.trans (h'.mono hb.size))) (show Hid _ from fun W' h' => ih _ _ hd W' (hb.trans (h'.mono hb.size)))
  have k1 : (nthTm l i).k = 1 := by omega
  rw [v1 k1, tx_all k1]
  exact treeText_1 W hTW
def ttV (l : List TmR) : Int × List Nat := if tmV l = 0 then (0, txT l l.length (l.length - 1)) else (tmV l, [])
theorem ps_tm {lo : Nat} {w : World} {a : Option Addr} {l : List TmR} {ps : Nat → SlT} (h : PsT lo w a l ps) : ∀ i, i < l.length → IsTm lo w (ps i) (nthTm l i) := fun i hi => by
 rcases h with rfl | ⟨b, off, -, -, hc⟩
 ·cases hi
 ·exact (hc i hi).2
set_option maxHeartbeats 1600000 in
set_option maxRecDepth 100000 in
theorem termsText_any (s : SlQ) (l : List TmR) {lo : Nat} (w : World) (hs : IsTs lo w s l) (hf : FtUs l) (hT : TabT w) (hF : TabF w) (hW : TabW w) :
  Calls Tryz.prog 76 #[slW s] w fun e w' => e = .returned (.agg #[.int .i64 (ttV l).1, .string (str (ttV l).2)]) ∧ Below w.heap.size w w' := by
 have hb0 : Below w.heap.size w (w.alloc (.cells #[.int .i64 0, .string ⟨#[]⟩] 30)) := (Below.refl _ _).alloc (Nat.le_refl _) _
 have hWs : (w.alloc (.cells #[.int .i64 0, .string ⟨#[]⟩] 30)).heap.size = w.heap.size + 1 := by simp
 obtain ⟨ps, hps⟩ := (hs.below hb0).2.2.2.ps
 have HC := treeOf_any s l ps _ (hs.below hb0) hf hps
 have HX : Hid (∀ W, (trV l ps).2 = 0 → Below (w.heap.size + 1) (w.alloc (.cells #[.int .i64 0, .string ⟨#[]⟩] 30)) W → Calls Tryz.prog 107 #[(trV l ps).1] W fun e w' => e = .returned (.string (str (txT l l.length (l.length - 1)))) ∧ Below W.heap.size W w') := fun W h hb => by
  obtain ⟨hn, hG, hTr⟩ := trV_tr h
  rw [← hWs] at hb
  exact treeText_any l ps _ (ps_tm hps) hG (hT.below hb0) (hF.below hb0) (hW.below hb0) l.length hn.2 _ _ hTr W hb
 have hv : ttV l = if (trV l ps).2 = 0 then (0, txT l l.length (l.length - 1)) else ((trV l ps).2, []) := by unfold ttV; rw [trV_tm]
 obtain ⟨sa, sn, sc⟩ := s
 dsimp only [slW] at *
 generalize trV l ps = rv at *
 obtain ⟨v, c⟩ := rv
 dsimp only at *
 generalize ttV l = r at *
 generalize txT l l.length (l.length - 1) = x at *
 clear hps hs hf hT hF hW
 by_cases h0 : c = 0
 ·subst h0
  rw [if_pos rfl] at hv
  subst hv
  go_enter Tryz.func76, Tryz.ntmps76
  go_wp2_with fail
  refine HC.mono ?_
  rintro e w1 ⟨rfl, hb1⟩
  rw [hWs] at hb1
  have hbel : Below w.heap.size w w1 := hb0.trans (hb1.mono (by omega))
  go_wp2_with fail
  refine (HX.out w1 (by first | rfl | trivial) hb1).mono ?_
  rintro e w2 ⟨rfl, hb2⟩
  have hbl : Below (w.heap.size + 1) (w.alloc (.cells #[.int .i64 0, .string ⟨#[]⟩] 30)) w2 := hb1.trans (hb2.mono (by have := hb1.size; omega))
  have hbel2 : Below w.heap.size w w2 := hbel.trans (hb2.mono hbel.size)
  obtain ⟨hcw, hcw1, hfw, hfw1⟩ := res_block rfl hbl
  obtain ⟨hk0, hk1⟩ := res_cells hcw hcw1 (.int .i64 0) (.string (str x))
  clear hb1 hb2 hbl HC HX
  go_wp2
  refine bodyPost_ret (v := .agg #[.int .i64 0, .string (str x)]) (by simp [results, Tryz.results76, go_sem, hk0, hk1]) rfl ?_
  exact ⟨rfl, (hbel2.setCell (Nat.le_refl _) _).setCell (Nat.le_refl _) _⟩
 ·rw [if_neg h0] at hv
  subst hv
  have HS : Hid (str [] = ⟨#[]⟩) := rfl
  go_enter Tryz.func76, Tryz.ntmps76
  go_wp2_with fail
  refine HC.mono ?_
  rintro e w1 ⟨rfl, hb1⟩
  rw [hWs] at hb1
  have hbel : Below w.heap.size w w1 := hb0.trans (hb1.mono (by omega))
  obtain ⟨hcw, hcw1, hfw, hfw1⟩ := res_block rfl hb1
  obtain ⟨hk0, hk1⟩ := res_cells hcw hcw1 (.int .i64 c) (.string ⟨#[]⟩)
  clear hb1 HC HX
  go_wp2
  refine bodyPost_ret (v := .agg #[.int .i64 c, .string ⟨#[]⟩]) (by simp [results, Tryz.results76, go_sem, hk0, hk1]) rfl ?_
  exact ⟨by rw [HS.out], (hbel.setCell (Nat.le_refl _) _).setCell (Nat.le_refl _) _⟩
end Go.Proofs.YtjogclofjollnaaGreatDoor
