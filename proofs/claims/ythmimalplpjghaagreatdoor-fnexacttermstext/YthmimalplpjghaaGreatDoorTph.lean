/- The tree of all terms, and their fault: the program's side; no conditions beyond those that each fact names. -/
import Derived.Test.YthmimalplpjghaaGreatDoorTpg
namespace Go.Proofs.YthmimalplpjghaaGreatDoor
open Go.RowKit
set_option linter.unusedVariables false

/-- The slices of the terms of a row. -/
def PsT (lo : Nat) (w : World) (a : Option Addr) (l : List TmR) (ps : Nat → SlT) : Prop := l = [] ∨ ∃ b off, a = some ⟨b, off, none⟩ ∧ b < w.heap.size ∧ ∀ i, i < l.length → Tc6 w b (off + i * 6) (ps i) (nthTm l i) ∧ IsTm lo w (ps i) (nthTm l i)
theorem RdTm.ps {lo : Nat} {w : World} {a : Option Addr} {l : List TmR} (h : RdTm lo w a l) : ∃ ps, PsT lo w a l ps := by
  rcases h with h | ⟨b, off, e, h2, h3, h4⟩
  · exact ⟨fun _ => ((none, 0, 0), (none, 0, 0)), .inl h⟩
  · refine ⟨fun i => if hi : i < l.length then Classical.choose (h4 i hi) else ((none, 0, 0), (none, 0, 0)), .inr ⟨b, off, e, h3, fun i hi => ?_⟩⟩
    have := Classical.choose_spec (h4 i hi)
    dsimp only
    rw [dif_pos hi]
    exact this
theorem Tc6.below {w w' : World} {g o : Nat} {p : SlT} {t : TmR} (h : Tc6 w g o p t) (hb : Below w.heap.size w w') (hg : g < w.heap.size) : Tc6 w' g o p t := by
  obtain ⟨h0, h1, h2, h3, h4, h5⟩ := h
  exact ⟨(hb.cell (p := ⟨g, o, none⟩) hg).trans h0, (hb.cell (p := ⟨g, o + 1, none⟩) hg).trans h1, (hb.cell (p := ⟨g, o + 2, none⟩) hg).trans h2, (hb.cell (p := ⟨g, o + 3, none⟩) hg).trans h3, (hb.cell (p := ⟨g, o + 4, none⟩) hg).trans h4, (hb.cell (p := ⟨g, o + 5, none⟩) hg).trans h5⟩

set_option maxHeartbeats 6400000 in
set_option maxRecDepth 100000 in
theorem treeOf_any (s : SlQ) (l : List TmR) (ps : Nat → SlT) {lo : Nat} (w : World) (hs : IsTs lo w s l) (hf : FtUs l) (hps : PsT lo w s.1 l ps) :
    Calls Tryz.prog 56 #[slW s] w fun e w' => e = .returned (.tuple #[(trV l ps).1, .int .i64 (trV l ps).2]) ∧ Below w.heap.size w w' := by
  obtain ⟨ad, n, cap⟩ := s
  obtain ⟨hl, hnc, hcm, hr⟩ := hs
  obtain ⟨hfn, hft⟩ := hf
  dsimp only [slW] at *
  unfold maxLen at hcm
  cases HB : bty (n : Int) 1 12 with
  | false =>
    have hn : ¬ (1 ≤ l.length ∧ l.length ≤ 12) := by have := of_decide_eq_false HB; omega
    have HR : Hid (trV l ps = (.nilIface, 2)) := if_neg hn
    generalize trV l ps = rv at *
    go_enter Tryz.func56, Tryz.ntmps56
    go_wp2_with (first | (go_at_call 65; refine (isBetween_y _ _ _ _).mono ?_; rintro e w1 ⟨rfl, rfl⟩; rw [HB]))
    refine bodyPost_ret (v := .tuple #[.nilIface, .int .i64 2]) (by simp [results, Tryz.results56, go_sem]) rfl ?_
    exact ⟨by rw [HR.out], Below.refl _ _⟩
  | true =>
    have hn : 1 ≤ n ∧ n ≤ 12 := by have := of_decide_eq_true HB; omega
    have HV : Hid (trV l ps = stG l ps n 0 []) := by show _ = _; unfold trV; rw [hl, if_pos hn]
    generalize trV l ps = rv at *
    go_enter Tryz.func56, Tryz.ntmps56
    go_wp2_with (first | (go_at_call 65; refine (isBetween_y _ _ _ _).mono ?_; rintro e w1 ⟨rfl, rfl⟩; rw [HB]))
    go_loopw [4, 17] (fun v i wr => ∃ (k : Nat) (st : List SdP), k ≤ n ∧ i = .int .i64 k ∧ OwnSd wr w.heap.size v st ∧ IfS st ∧ st.length ≤ k ∧ rv = stG l ps (n - k) k st ∧ Below w.heap.size w wr) (fun _ i _ => n - (intOf i).toNat)
    case atStart => exact ⟨0, [], Nat.zero_le _, rfl, OwnSd.nil _ _, fun i hi => by simp at hi, Nat.le_refl _, HV.out, Below.refl _ _⟩
    case round =>
      obtain ⟨k, st, hk, rfl, hO, hI, hsl, hrv, hbel⟩ := hrel
      by_cases hkn : k < n
      · have hki : (k : Int) < (n : Int) := by omega
        obtain ⟨b, off, rfl, hblt, hpp⟩ : ∃ b off, ad = some ⟨b, off, none⟩ ∧ b < w.heap.size ∧ ∀ i, i < l.length → Tc6 w b (off + i * 6) (ps i) (nthTm l i) ∧ IsTm lo w (ps i) (nthTm l i) := by
          rcases hps with h | h
          · rw [h] at hl; simp at hl; omega
          · exact h
        obtain ⟨hc, hT⟩ := hpp k (by omega)
        have hc' := hc.below hbel hblt
        have hT' := hT.below hbel
        have hF := hft k (by omega)
        have HN : Hid (rv = if owF (nthTm l k) = 0 then (if okN st (nthTm l k) then stG l ps (n - (k + 1)) (k + 1) (st.take (ctN st (nthTm l k)) ++ [((k : Int), growV (nthTm l k) (ps k) ((st.drop (ctN st (nthTm l k))).map Prod.snd))]) else (.nilIface, 1)) else (.nilIface, owF (nthTm l k))) := by
          show _ = _
          rw [hrv, show n - k = (n - (k + 1)) + 1 by omega]
          rfl
        clear hrv HV hc hT hpp hps
        generalize ps k = p at *
        generalize hto : nthTm l k = o at *
        clear hto
        have hbA : Below wr.heap.size wr (wr.alloc (.cells #[.int .i64 o.k, .int .i64 o.n, slW p.1, slW p.2, .int .i64 o.l, .int .i64 o.r] 47)) := (Below.refl _ _).alloc (Nat.le_refl _) _
        have hQ := Qu.new wr (.int .i64 o.k) (.int .i64 o.n) (slW p.1) (slW p.2) (.int .i64 o.l) (.int .i64 o.r) 47
        have hOA := hO.below hbA (Nat.le_refl _)
        have hTA := hT'.below hbA
        have hbW := hbel.trans (hbA.mono hbel.size)
        have HC := ownFault_any o p _ hTA hF
        obtain ⟨c0, c1, c2, c3, c4, c5⟩ := hc'
        go_wp2_with fail
        refine HC.mono ?_
        rintro e w1 ⟨rfl, hb1⟩
        have hQ1 := hQ.below hb1 hQ.lt
        have hO1 := hOA.below hb1 (Nat.le_refl _)
        have hB1 := hbW.trans (hb1.mono hbW.size)
        have hz1 : wr.heap.size < w1.heap.size := hQ1.lt
        clear HC hbA hQ hOA hTA hb1 hbW c0 c1 c2 c3 c4 c5 hO hT'
        by_cases ho : owF o = 0
        · rw [ho]
          have HN2 : Hid (rv = if okN st o then stG l ps (n - (k + 1)) (k + 1) (st.take (ctN st o) ++ [((k : Int), growV o p ((st.drop (ctN st o)).map Prod.snd))]) else (.nilIface, 1)) := HN.out.trans (if_pos ho)
          clear HN
          have HQ1 : Hid (Qu w1 wr.heap.size ⟨.int .i64 o.k, .int .i64 o.n, slW p.1, slW p.2, .int .i64 o.l, .int .i64 o.r⟩) := hQ1
          obtain ⟨c0, c1, c2, c3, c4, c5⟩ := hQ1
          dsimp only at c0 c1 c2 c3 c4 c5
          go_wp2_with fail
          refine (placesOfTerm_any o p w1).mono ?_
          rintro e w2 ⟨s2, rfl, hs2, hb2⟩
          have hQ2 := Qu.below HQ1.out hb2 hz1
          have hO2 := hO1.below hb2 (Nat.le_refl _)
          have hB2 := hB1.trans (hb2.mono hB1.size)
          have hz2 : wr.heap.size < w2.heap.size := Nat.lt_of_lt_of_le hz1 hb2.size
          clear c0 c1 c2 c3 c4 c5 HQ1 hb2 hO1 hB1 hz1
          go_wp2_with fail
          refine (cutLast_any _ st o s2 w2 hO2 hI hs2).mono ?_
          rintro e w3 ⟨hce, hb3⟩
          have hQ3 := hQ2.below hb3 hz2
          have hB3 := hB2.trans (hb3.mono hB2.size)
          have hz3 : wr.heap.size < w3.heap.size := Nat.lt_of_lt_of_le hz2 hb3.size
          clear hQ2 hO2 hB2 hz2 hb3 hs2
          unfold CutEnd at hce
          cases hok : okN st o with
          | false =>
            rw [hok, if_neg (by simp)] at hce
            subst hce
            have HR : Hid (rv = (.nilIface, 1)) := HN2.out.trans (by rw [hok]; rfl)
            clear HN2 hQ3
            go_wp2
            refine bodyPost_ret (v := .tuple #[.nilIface, .int .i64 1]) (by simp [results, Tryz.results56, go_sem]) rfl ?_
            exact ⟨by rw [HR.out], hB3⟩
          | true =>
            rw [hok, if_pos rfl] at hce
            obtain ⟨v1, a2, c2', rfl, hO3, hm2, hc2, hr2⟩ := hce
            have hle : (plT o).length ≤ st.length := by
              unfold okN at hok
              simp only [Bool.and_eq_true] at hok
              exact of_decide_eq_true hok.1
            have hdl : (st.drop (ctN st o)).length = (plT o).length := by rw [List.length_drop]; unfold ctN; omega
            have HR : Hid (rv = stG l ps (n - (k + 1)) (k + 1) (st.take (ctN st o) ++ [((k : Int), growV o p ((st.drop (ctN st o)).map Prod.snd))])) := HN2.out.trans (by rw [hok]; rfl)
            clear HN2 hok
            have HG := grow_any o p a2 (plT o).length c2' (st.drop (ctN st o)) w3 hdl hm2 hc2 hr2 (hI.drop _) hdl
            obtain ⟨gt, gu, hgv⟩ := growV_if o p ((st.drop (ctN st o)).map Prod.snd)
            rw [hgv] at HG HR
            have hI4 : IfS (st.take (ctN st o) ++ [((k : Int), .iface gt gu)]) := hI.next _ _ _ ⟨_, _, rfl⟩
            have hl4 : (st.take (ctN st o) ++ [((k : Int), Value.iface gt gu)]).length ≤ k + 1 := by rw [List.length_append, List.length_take, List.length_singleton]; omega
            have hl3 : (st.take (ctN st o)).length ≤ k := by rw [List.length_take]; omega
            obtain ⟨a1, cap1, rfl, -, -⟩ := hO3.form
            obtain ⟨c0, c1, c2, c3, c4, c5⟩ := hQ3
            dsimp only at c0 c1 c2 c3 c4 c5
            generalize st.take (ctN st o) = st1 at *
            go_wp2_with fail
            refine HG.mono ?_
            rintro e w4 ⟨rfl, hb4⟩
            have hO4 := hO3.below hb4 (Nat.le_refl _)
            have hB4 := hB3.trans (hb4.mono hB3.size)
            clear HG hb4 hO3 hB3 c0 c1 c2 c3 c4 c5 hr2
            go_wp2_with (at_builtin; refine wpList_app_newSd rfl _ _ rfl w.heap.size _ st1 rfl hO4 (k : Int) (.iface gt gu) rfl rfl (by omega) hB4.size ?_; intro v5 w5 hO5 hb5)
            have hB5 : Below w.heap.size w w5 := hB4.trans hb5
            refine ⟨⟨k + 1, st1 ++ [((k : Int), .iface gt gu)], by omega, by go_num, hO5, hI4, hl4, HR.out, hB5⟩, ?_⟩
            simp [intOf]
            omega
        · have HR : Hid (rv = (.nilIface, owF o)) := HN.out.trans (if_neg ho)
          clear HN hQ1 hO1
          generalize owF o = ov at *
          go_wp2
          refine bodyPost_ret (v := .tuple #[.nilIface, .int .i64 ov]) (by simp [results, Tryz.results56, go_sem]) rfl ?_
          exact ⟨by rw [HR.out], hB1⟩
      · have hki : ¬ (k : Int) < (n : Int) := by omega
        obtain rfl : k = n := by omega
        have HR : Hid (rv = if st.length = 1 then ((nthSd st 0).2, 0) else (.nilIface, 1)) := by
          show _ = _
          rw [hrv, Nat.sub_self]; rfl
        clear hrv HV
        obtain ⟨a1, cap1, rfl, h4, h5⟩ := hO.form
        have hrd := hO.rd.2
        unfold maxLen at h5
        by_cases h1 : st.length = 1
        · have HR2 : Hid (rv = ((nthSd st 0).2, 0)) := HR.out.trans (if_pos h1)
          obtain ⟨b1, off1, rfl, hlt1, hcl⟩ := hrd.at_ (by omega)
          have hc1 := (hcl 0 (by omega)).2
          obtain ⟨t1, u1, e1⟩ := hI 0 (by omega)
          rw [e1] at hc1 HR2
          rw [h1]
          clear HR hcl hrd hO
          simp only [Nat.zero_mul, Nat.add_zero] at hc1
          go_wp2
          refine bodyPost_ret (v := .tuple #[.iface t1 u1, .int .i64 0]) (by simp [results, Tryz.results56, go_sem]) rfl ?_
          exact ⟨by rw [HR2.out], hbel⟩
        · have HR2 : Hid (rv = (.nilIface, 1)) := HR.out.trans (if_neg h1)
          have h1i : ¬ (st.length : Int) = 1 := by omega
          clear HR hrd hO
          go_wp2
          refine bodyPost_ret (v := .tuple #[.nilIface, .int .i64 1]) (by simp [results, Tryz.results56, go_sem]) rfl ?_
          exact ⟨by rw [HR2.out], hbel⟩

end Go.Proofs.YthmimalplpjghaaGreatDoor
