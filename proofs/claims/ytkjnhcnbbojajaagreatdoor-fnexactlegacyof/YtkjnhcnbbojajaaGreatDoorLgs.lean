/- LegacyOf, the program's face and the model's. -/
import Derived.Test.YtkjnhcnbbojajaaGreatDoorLgi
import Derived.Test.YtkjnhcnbbojajaaGreatDoorEws
namespace Go.Proofs.YtkjnhcnbbojajaaGreatDoor
open Go.RowKit

theorem grownBy_setCellO (W : World) (b o : Nat) (v : Value) : W.grownBy (W.setCell ⟨b, o, none⟩ v) (some b) :=
  ⟨rfl, rfl, rfl, by simp, fun k _ hk => Below.heap_setCell _ _ _ k (fun e => hk (by rw [e]))⟩

set_option maxHeartbeats 800000 in
set_option maxRecDepth 100000 in
theorem legacyOf1_any (b m B0 : Nat) (d : List Nat) (w : World) (hr : Rd w (some ⟨b, 0, none⟩) d) (hT : TabC w) (hTB : TabB w) (hTH : TabH w) (hMI : MaxI w) (hB : IsB d) (hl : d.length = m)
    (h0 : w.cell? ⟨B0, 0, none⟩ = some (.slice (some ⟨b, 0, none⟩) m m)) :
    Calls Tryz.prog 121 #[.pointer (some ⟨B0, 0, none⟩)] w (SeeB (lgV d) w) := by
  have HP := legacyIn_any b m d w hr hT hTB hTH hMI hB hl
  generalize lgV d = r at *
  go_enter Tryz.func121, Tryz.ntmps121
  go_wp2_with fail
  refine HP.mono ?_
  rintro e w1 ⟨⟨h3, v, rfl, ho⟩ | ⟨h3, rfl⟩, hb⟩
  · obtain ⟨a, cp, hv, -, -⟩ := ho.form
    subst hv
    go_wp2
    go_ret
    exact ⟨.inl ⟨h3, _, rfl, ho⟩, hb⟩
  · exact ⟨rfl, .inr ⟨h3, rfl⟩, hb⟩

set_option maxHeartbeats 1600000 in
set_option maxRecDepth 100000 in
theorem legacyOf_any (b m : Nat) (d : List Nat) (w : World) (hr : Rd w (some ⟨b, 0, none⟩) d) (hT : TabC w) (hTB : TabB w) (hTH : TabH w) (hMI : MaxI w) (hB : IsB d) (hl : d.length = m) :
    Calls Tryz.prog 60 #[.slice (some ⟨b, 0, none⟩) m m] w (BytEnd (lgV d) w) := by
  have hmf : ∀ (fn : Fn) (first cap : Array Value) (w : World), (Instr.makeFunc fn first cap).run Tryz.prog w = .ok (.func fn first cap) w := fun _ _ _ _ => rfl
  have hG : ∀ (args : Array Value) (w : World), (callFunc 121 args).run Tryz.prog w = .ok (.enter 121 args) w := fun _ _ => by kernel_rfl
  have hb0 : Below w.heap.size w ((w.alloc (.cells #[.slice (some ⟨b, 0, none⟩) m m] 22)).alloc (.cells #[.int .i64 0, .slice none 0 0] 46)) := ((Below.refl _ _).alloc (Nat.le_refl _) _).alloc (by simp) _
  have HS : Hid (∀ W : World, Below w.heap.size w W → W.cell? ⟨w.heap.size, 0, none⟩ = some (.slice (some ⟨b, 0, none⟩) m m) → Calls Tryz.prog 94 #[.func (.func 121) #[] #[.pointer (some ⟨w.heap.size, 0, none⟩)]] W fun e w' => ∃ v, e = .returned (.tuple #[v, .int .i64 (lgV d).1]) ∧ Own w' W.heap.size v (lgV d).2 ∧ Below W.heap.size W w') := fun W hW c0 => by
    have hbC := hW.alloc hW.size (.cells #[.int .i64 0] 2)
    exact seeB_of _ _ (lgV d) W hG (fun h => lgV_zero h) (legacyOf1_any b m _ d _ (hr.below hbC) (hT.below hbC) (hTB.below hbC) (hTH.below hbC) (hMI.below hbC) hB hl (cellB c0))
  generalize lgV d = r at *
  obtain ⟨rc, rl⟩ := r
  dsimp only at HS
  have x0 : ((w.alloc (.cells #[.slice (some ⟨b, 0, none⟩) m m] 22)).alloc (.cells #[.int .i64 0, .slice none 0 0] 46)).cell? ⟨w.heap.size, 0, none⟩ = some (.slice (some ⟨b, 0, none⟩) m m) := cellB (by simp)
  have hsz : ((w.alloc (.cells #[.slice (some ⟨b, 0, none⟩) m m] 22)).alloc (.cells #[.int .i64 0, .slice none 0 0] 46)).heap.size = w.heap.size + 1 + 1 := by simp
  have HRB := fun (wx : World) (hx : Below (w.heap.size + 1 + 1) ((w.alloc (.cells #[.slice (some ⟨b, 0, none⟩) m m] 22)).alloc (.cells #[.int .i64 0, .slice none 0 0] 46)) wx) => res_block (w := (w.alloc (.cells #[.slice (some ⟨b, 0, none⟩) m m] 22))) (wr := wx) rfl (by simpa using hx)
  have hs3 : (w.alloc (.cells #[.slice (some ⟨b, 0, none⟩) m m] 22)).heap.size = w.heap.size + 1 := by simp
  rw [hs3] at HRB
  go_enter Tryz.func60, Tryz.ntmps60
  go_wp2_with fail
  refine (HS.out _ hb0 x0).mono ?_
  rintro e w1 ⟨v, rfl, ho, hb1⟩
  rw [hsz] at ho hb1
  obtain ⟨a0, a1, z0, z1⟩ := HRB w1 hb1
  have hbw := hb0.trans (hb1.mono (by omega))
  obtain ⟨a, cp, hv, -, -⟩ := ho.form
  subst hv
  obtain ⟨k0, k1⟩ := res_at a0 a1 (.int .i64 rc) (.slice a rl.length cp)
  have HE : Hid (_) := BytEnd.at_ (c := rc) hbw (R := w.heap.size + 1) (by omega) ho (.int .i64 rc) (.slice a rl.length cp)
  clear HRB x0 HS hb0 hsz hs3 hb1 ho
  go_wp2
  refine bodyPost_ret (v := .agg #[.int .i64 rc, .slice a rl.length cp]) (by simp [results, Tryz.results60, go_sem, k0, k1]) rfl ?_
  exact HE.out

set_option maxHeartbeats 3200000 in
set_option maxRecDepth 100000 in
theorem specLegacyOf_any (b m : Nat) (d : List Nat) (w : World) (hr : Rd w (some ⟨b, 0, none⟩) d) (_hb : b < w.heap.size) (hB : IsB d) (hl : d.length = m) :
    Calls Tryz.prog 61 #[.slice (some ⟨b, 0, none⟩) m m] w (BytEnd (lgV d) w) := by
  have hb0 : Below w.heap.size w (w.alloc (.cells #[.int .i64 0, .slice none 0 0] 46)) := (Below.refl _ _).alloc (Nat.le_refl _) _
  have HP := specParseHeader_any (some ⟨b, 0, none⟩) m m d _ hl (hr.below hb0) hB (Nat.le_refl _)
  have hsW : (w.alloc (.cells #[.int .i64 0, .slice none 0 0] 46)).heap.size = w.heap.size + 1 := by simp
  have HZ : Hid ((phV d).1 ≠ 0 → lgV d = ((phV d).1, [])) := fun h => if_neg h
  have HV : Hid ((phV d).1 = 0 → lgV d = lgF (phV d).2.2 (d.drop (phV d).2.1)) := fun h => if_pos h
  have HOK : Hid ((phV d).1 = 0 → fdF (phV d).2.2 = 0 ∧ (phV d).2.1 ≤ m ∧ m ≤ 400) := fun h => by
    obtain ⟨h1, h2, h3⟩ := phF_allS _ h
    refine ⟨h1, by omega, ?_⟩
    by_cases h4 : 400 < d.length
    · rw [phV_many h4] at h; simp at h
    · omega
  generalize lgV d = r at *
  generalize phV d = ph at *
  obtain ⟨c, k, l⟩ := ph
  dsimp only at HZ HV HOK
  go_enter Tryz.func61, Tryz.ntmps61
  go_wp2_with fail
  refine HP.mono ?_
  rintro e w1 ⟨v, rfl, ho, hb1⟩
  rw [hsW] at ho hb1
  dsimp only at ho ⊢
  obtain ⟨N, hN⟩ : ∃ N, l.length = N := ⟨_, rfl⟩
  obtain ⟨a, cp, hv, -, -⟩ := ho.form
  rw [hN] at hv
  subst hv
  have hz1 : w.heap.size + 1 ≤ w1.heap.size := by have := hb1.size; omega
  have hbw := hb0.trans (hb1.mono (by omega))
  clear HP
  by_cases hc : c = 0
  · subst hc
    obtain ⟨hf, hkm, hm4⟩ := HOK.out rfl
    have HM : Hid (r = lgF l (d.drop k)) := HV.out rfl
    obtain ⟨h8, hall⟩ := fdF_all hf
    clear HZ HV HOK
    have HHC : Hid (∀ wr : World, Below (w1.heap.size + 1) (w1.alloc (.cells #[.int .i64 0, .int .i64 (k : Int), .slice a N cp] 68)) wr → wr.cell? ⟨w1.heap.size, 1, none⟩ = some (.int .i64 (k : Int)) ∧ wr.cell? ⟨w1.heap.size, 2, none⟩ = some (.slice a N cp)) := fun wr hb => ⟨(res_block3 rfl hb).1.2.1, (res_block3 rfl hb).1.2.2⟩
    have hbV0 : Below w1.heap.size w1 (w1.alloc (.cells #[.int .i64 0, .int .i64 (k : Int), .slice a N cp] 68)) := (Below.refl _ _).alloc (Nat.le_refl _) _
    have hsV : (w1.alloc (.cells #[.int .i64 0, .int .i64 (k : Int), .slice a N cp] 68)).heap.size = w1.heap.size + 1 := by simp
    have hrdV : RdF (w1.alloc (.cells #[.int .i64 0, .int .i64 (k : Int), .slice a N cp] 68)) a l := (ho.below hbV0 (Nat.le_refl _)).rd.2
    have hbV1 := hb1.trans (hbV0.mono hz1)
    have HBW : Hid (∀ wr : World, Below (w1.heap.size + 1) (w1.alloc (.cells #[.int .i64 0, .int .i64 (k : Int), .slice a N cp] 68)) wr → Below w.heap.size w wr) := fun wr hb => hb0.trans ((hbV1.trans (hb.mono (by omega))).mono (by omega))
    have HRES : Hid (∀ wr : World, Below (w1.heap.size + 1) (w1.alloc (.cells #[.int .i64 0, .int .i64 (k : Int), .slice a N cp] 68)) wr → wr.cell? ⟨w.heap.size, 0, none⟩ = some (.int .i64 0) ∧ wr.cell? ⟨w.heap.size, 1, none⟩ = some (.slice none 0 0) ∧ wr.frozen? ⟨w.heap.size, 0, none⟩ = false ∧ wr.frozen? ⟨w.heap.size, 1, none⟩ = false) := fun wr hb => res_block rfl (hbV1.trans (hb.mono (by omega)))
    have hown0 : OwnF ((w1.alloc (.cells #[.int .i64 0, .int .i64 (k : Int), .slice a N cp] 68)).alloc (.cells #[] 128)) (w1.heap.size + 1) (.slice (some ⟨w1.heap.size + 1, 0, none⟩) 0 0) [] := OwnF.lit0g _ _ _ hsV (Nat.le_refl _)
    have hbel0 : Below (w1.heap.size + 1) (w1.alloc (.cells #[.int .i64 0, .int .i64 (k : Int), .slice a N cp] 68)) ((w1.alloc (.cells #[.int .i64 0, .int .i64 (k : Int), .slice a N cp] 68)).alloc (.cells #[] 128)) := (Below.refl _ _).alloc (by omega) _
    clear hb1 hbw hbV0 hbV1 hb0 ho
    go_wp2_with fail
    generalize (w1.alloc (.cells #[.int .i64 0, .int .i64 (k : Int), .slice a N cp] 68)) = V at *
    go_loopw [4, 5] (fun v i wr => ∃ j : Nat, j ≤ N ∧ i = .int .i64 j ∧ Hid (lgC l = lgC (l.drop j)) ∧ OwnF wr (w1.heap.size + 1) v ((l.take j).map lgN) ∧ Below (w1.heap.size + 1) V wr) (fun _ i _ => N - (intOf i).toNat)
    case atStart => exact ⟨0, Nat.zero_le _, rfl, rfl, hown0, hbel0⟩
    case round =>
      clear hown0 hbel0
      obtain ⟨j, hj, rfl, HF, hown, hbel⟩ := hrel
      have hzr : w1.heap.size + 1 ≤ wr.heap.size := by have := hbel.size; omega
      obtain ⟨hh1, hh2⟩ := HHC.out wr hbel
      by_cases hjn : j < N
      · have hji : (j : Int) < (N : Int) := by omega
        obtain ⟨g, off, rfl, hglt, hcell⟩ := (hrdV.below (hsV ▸ hbel)).at_ (by omega)
        obtain ⟨x0, x1⟩ := hcell j (by omega)
        have hok := hall (nthF l j) (by rw [nthF_get (by omega)]; exact List.getElem_mem _)
        obtain ⟨hvl, hv12, -⟩ := fdOk_val hok
        have hhi := vl_high hvl
        have HF2 : Hid (lgC l = if (pnV (bts (nthF l j).2)).1 = 0 then lgC (l.drop (j + 1)) else (pnV (bts (nthF l j).2)).1) := HF.out.trans (lgC_step (by omega))
        have HT0 : Hid ((l.take j).map lgN ++ [((nthF l j).1, str (pnV (bts (nthF l j).2)).2)] = (l.take (j + 1)).map lgN) := by
          show _ = _
          rw [List.take_succ_eq_append_getElem (by omega), List.map_append, ← nthF_get (by omega)]
          rfl
        have htl : ((l.take j).map lgN).length = j := by rw [List.length_map, List.length_take]; omega
        have htl7 : ((l.take (j + 1)).map lgN).length = j + 1 := by rw [List.length_map, List.length_take]; omega
        clear HF hcell hok hvl
        generalize (l.take j).map lgN = acc at *
        generalize hacc7 : (l.take (j + 1)).map lgN = acc7 at *
        generalize nthF l j = fp at *
        obtain ⟨nm, vl⟩ := fp
        dsimp only at HF2 HT0 hhi hv12 x0 x1
        obtain ⟨av, cv, hv, -, -⟩ := hown.form
        rw [htl] at hv
        subst hv
        have HLH := fun (W : World) => l6High_any (bts vl) _ W rfl (bts_isB vl) (by omega)
        rw [← hhi, str_bts] at HLH
        have HLW := fun (W : World) => l4Words_any (bts vl) _ W rfl (bts_isB vl) (by omega)
        have hdw : (dwV (bts vl)).2 = wdsM wdV cuV (bts vl).length false (bts vl) := by rw [dwV_ok (by omega)]
        rw [← hdw, str_bts] at HLW
        have hdl := dwV_len (bts vl) (bts_isB vl)
        have HPp : Hid (plain (bts vl) = true → pnV (bts vl) = (0, bts vl)) := fun h => if_pos h
        have HPq : Hid (plain (bts vl) = false → pnV (bts vl) = if (ewV (dwV (bts vl)).2).1 ≠ 0 then ((ewV (dwV (bts vl)).2).1, []) else if 120 < (ewV (dwV (bts vl)).2).2.length then (2, []) else (0, (ewV (dwV (bts vl)).2).2)) := fun h => if_neg (by rw [h]; decide)
        have hsb : str (bts vl) = vl := str_bts vl
        have hvz : vl.size ≤ 120 := by rw [← bts_len]; exact hv12
        clear hdw hhi hv12
        generalize (dwV (bts vl)).2 = ls at *
        generalize pnV (bts vl) = q at *
        generalize plain (bts vl) = pl at *
        generalize bts vl = bv at *
        have hfc : FCell (wr.alloc (.cells #[.string nm, .string vl] 128)) wr.heap.size nm vl := FCell.new wr _ rfl _ _
        have hbF : Below (w1.heap.size + 1) V (wr.alloc (.cells #[.string nm, .string vl] 128)) := hbel.alloc hzr _
        have hownF := hown.alloc (.cells #[.string nm, .string vl] 128)
        have zf : (wr.alloc (.cells #[.string nm, .string vl] 128)).frozen? ⟨wr.heap.size, 1, none⟩ = false := by simp
        go_wp2_with fail
        generalize (wr.alloc (.cells #[.string nm, .string vl] 128)) = wf at *
        refine (HLH _).mono ?_
        rintro e w2 ⟨rfl, hb2⟩
        have hzf : w1.heap.size + 1 ≤ wf.heap.size := by have := hbF.size; omega
        have hbel2 := hbF.trans (hb2.mono hzf)
        have hown2 := hownF.below hb2 (Nat.le_refl _)
        have hfc2 : FCell w2 wr.heap.size nm vl := ⟨Nat.lt_of_lt_of_le hfc.1 hb2.size, (hb2.cell (p := ⟨wr.heap.size, 0, none⟩) hfc.1).trans hfc.2.1, (hb2.cell (p := ⟨wr.heap.size, 1, none⟩) hfc.1).trans hfc.2.2⟩
        have zf2 := (hb2.frozen (p := ⟨wr.heap.size, 1, none⟩) hfc.1).trans zf
        obtain ⟨hfl, y0, y1⟩ := hfc2
        clear zf hb2 hfc hbF hownF HLH x0 x1
        cases pl with
        | true =>
          have hq := HPp.out rfl
          subst hq
          have HFn : Hid (lgC l = lgC (l.drop (j + 1))) := HF2.out.trans (if_pos rfl)
          have HT : Hid (acc ++ [(nm, vl)] = acc7) := by show _ = _; rw [← HT0.out, hsb]
          have hvz' : ¬ (120 : Int) < (vl.size : Int) := by omega
          have hownX := hown2
          have hbelX := hbel2
          clear HPp HPq HF2 HT0 HLW
          have hfd : FCell (w2.alloc (.cells #[.string nm, .string vl] 128)) w2.heap.size nm vl := FCell.new w2 _ (by rfl) _ _
          have hnew := hfd.nw
          have hownA := hownX.alloc (.cells #[.string nm, .string vl] 128)
          have hbelA : Below (w1.heap.size + 1) V (w2.alloc (.cells #[.string nm, .string vl] 128)) := hbelX.alloc (by have := hbelX.size; omega) _
          have hzA : w1.heap.size + 1 ≤ (w2.alloc (.cells #[.string nm, .string vl] 128)).heap.size := by have := hbelA.size; omega
          clear hownX hbelX hfd
          go_wp2_with (at_builtin; refine wpList_appF rfl _ _ rfl (w1.heap.size + 1) _ acc rfl hownA ⟨w2.heap.size, 0, none⟩ 1 1 [(nm, vl)] rfl rfl hnew (by omega) hzA ?_; intro v7 w7 hown7 hb7)
          have hbel7 := hbelA.trans hb7
          rw [HT.out] at hown7
          obtain ⟨a7, c7, hv7, -, -⟩ := hown7.form
          rw [htl7] at hv7
          subst hv7
          clear hownA hnew hbelA hb7 HT
          go_wp2
          go_roundw
          case rel => exact ⟨j + 1, by omega, by go_num, HFn.out, by rw [hacc7]; exact hown7, hbel7⟩
          case measure => simp [intOf]; omega
        | false =>
          have HQ : Hid (_) := HPq.out rfl
          clear HPp HPq
          go_wp2_with fail
          refine (HLW _).mono ?_
          rintro e w3 ⟨v3, rfl, ho3, hb3⟩
          obtain ⟨a3, c3, hv3, -, -⟩ := ho3.form
          subst hv3
          have HEW := specEncodeWords_any a3 ls.length c3 ls w3 rfl (OwnI.rd ho3).2 (by omega)
          generalize ewV ls = ew at *
          obtain ⟨ec, el⟩ := ew
          have hbel3 := hbel2.trans (hb3.mono (by have := hbel2.size; omega))
          have hown3 := hown2.below hb3 (Nat.le_refl _)
          have hfl3 : wr.heap.size < w3.heap.size := Nat.lt_of_lt_of_le hfl hb3.size
          have y0' := (hb3.cell (p := ⟨wr.heap.size, 0, none⟩) hfl).trans y0
          have y1' := (hb3.cell (p := ⟨wr.heap.size, 1, none⟩) hfl).trans y1
          have zf3 := (hb3.frozen (p := ⟨wr.heap.size, 1, none⟩) hfl).trans zf2
          clear HLW ho3
          go_wp2_with fail
          refine HEW.mono ?_
          rintro e w4 ⟨rfl, hb4⟩
          try dsimp only at HQ
          have hbel4 := hbel3.trans (hb4.mono (by have := hbel3.size; omega))
          have hown4 := hown3.below hb4 (Nat.le_refl _)
          have hfl4 : wr.heap.size < w4.heap.size := Nat.lt_of_lt_of_le hfl3 hb4.size
          have p0 := (hb4.cell (p := ⟨wr.heap.size, 0, none⟩) hfl3).trans y0'
          have p1 := (hb4.cell (p := ⟨wr.heap.size, 1, none⟩) hfl3).trans y1'
          have t0 := cellB (o := .cells #[.int .i64 ec, .string (str el)] 51) p0
          have t1 := cellB (o := .cells #[.int .i64 ec, .string (str el)] 51) p1
          have e0 : (w4.alloc (.cells #[.int .i64 ec, .string (str el)] 51)).cell? ⟨w4.heap.size, 0, none⟩ = some (.int .i64 ec) := by simp
          have e1 : (w4.alloc (.cells #[.int .i64 ec, .string (str el)] 51)).cell? ⟨w4.heap.size, 1, none⟩ = some (.string (str el)) := by simp
          have hbel5 : Below (w1.heap.size + 1) V (w4.alloc (.cells #[.int .i64 ec, .string (str el)] 51)) := hbel4.alloc (by have := hbel4.size; omega) _
          have hown5 := hown4.alloc (.cells #[.int .i64 ec, .string (str el)] 51)
          have zf4 := (hb4.frozen (p := ⟨wr.heap.size, 1, none⟩) hfl3).trans zf3
          have hfz5 : (w4.alloc (.cells #[.int .i64 ec, .string (str el)] 51)).frozen? ⟨wr.heap.size, 1, none⟩ = false := (((Below.refl _ w4).alloc (Nat.le_refl _) _).frozen (p := ⟨wr.heap.size, 1, none⟩) hfl4).trans zf4
          clear zf2 zf3 zf4 HEW hb3 hb4 hbel3 hbel4 hown3 hown4 p0 p1 y0' y1' y0 y1
          generalize hw5 : (w4.alloc (.cells #[.int .i64 ec, .string (str el)] 51)) = w5 at *
          by_cases hec : ec = 0
          · subst hec
            have HQ2 : Hid (q = if 120 < el.length then (2, []) else (0, el)) := HQ.out.trans (if_neg (by simp))
            have hel : (str el).size = el.length := str_size el
            have hg6 : w5.grownBy (w5.setCell ⟨wr.heap.size, 1, none⟩ (.string (str el))) (some wr.heap.size) := grownBy_setCellO w5 _ _ _
            have hown6 := hown5.far hg6 (fun b' e' h' => by have := (hown.lt _ e').2; cases h'; omega)
            have hbel6 : Below (w1.heap.size + 1) V (w5.setCell ⟨wr.heap.size, 1, none⟩ (.string (str el))) := hbel5.setCell (p := ⟨wr.heap.size, 1, none⟩) hzr _
            have s0 : (w5.setCell ⟨wr.heap.size, 1, none⟩ (.string (str el))).cell? ⟨wr.heap.size, 0, none⟩ = some (.string nm) := by simp [go_sem, t0]
            have s1 : (w5.setCell ⟨wr.heap.size, 1, none⟩ (.string (str el))).cell? ⟨wr.heap.size, 1, none⟩ = some (.string (str el)) := World.cell?_setCell_same _ _ _ t1
            clear HQ hown5
            by_cases h12 : 120 < el.length
            · have h12' : (120 : Int) < (el.length : Int) := by omega
              have hq : q = (2, []) := HQ2.out.trans (if_pos h12)
              subst hq
              have HR : Hid (r = (2, [])) := by
                have e : lgC l = 2 := HF2.out.trans (if_neg (by decide))
                show _ = _
                rw [HM.out]; unfold lgF; rw [e]; exact if_pos (by decide)
              obtain ⟨a0, a1, z0, z1⟩ := HRES.out _ hbel6
              obtain ⟨k0, k1⟩ := res_at a0 a1 (.int .i64 2) (.slice none 0 0)
              have HE : Hid (_) := BytEnd.at_ (c := 2) (l := []) (HBW.out _ hbel6) (R := w.heap.size) (Nat.le_refl _) (Own.nil _ _) (.int .i64 2) (.slice none 0 0)
              clear HQ2 HF2 HT0 HM
              go_wp2
              refine bodyPost_ret (v := .agg #[.int .i64 2, .slice none 0 0]) (by simp [results, Tryz.results61, go_sem, k0, k1]) rfl ?_
              rw [HR.out]
              exact HE.out
            · have h12' : ¬ (120 : Int) < (el.length : Int) := by omega
              have hq : q = (0, el) := HQ2.out.trans (if_neg h12)
              subst hq
              have HFn : Hid (lgC l = lgC (l.drop (j + 1))) := HF2.out.trans (if_pos rfl)
              have HT : Hid (acc ++ [(nm, str el)] = acc7) := HT0.out
              have hownX := hown6
              have hbelX := hbel6
              have hg7 := hfz5
              clear HQ2 HF2 HT0 hown6 hbel6
              have hfd : FCell ((w5.setCell ⟨wr.heap.size, 1, none⟩ (.string (str el))).alloc (.cells #[.string nm, .string (str el)] 128)) w5.heap.size nm (str el) := FCell.new (w5.setCell ⟨wr.heap.size, 1, none⟩ (.string (str el))) _ (by simp) _ _
              have hnew := hfd.nw
              have hownA := hownX.alloc (.cells #[.string nm, .string (str el)] 128)
              have hbelA : Below (w1.heap.size + 1) V ((w5.setCell ⟨wr.heap.size, 1, none⟩ (.string (str el))).alloc (.cells #[.string nm, .string (str el)] 128)) := hbelX.alloc (by have := hbelX.size; omega) _
              have hzA : w1.heap.size + 1 ≤ ((w5.setCell ⟨wr.heap.size, 1, none⟩ (.string (str el))).alloc (.cells #[.string nm, .string (str el)] 128)).heap.size := by have := hbelA.size; omega
              clear hownX hbelX hfd
              go_wp2_with (at_builtin; refine wpList_appF rfl _ _ rfl (w1.heap.size + 1) _ acc rfl hownA ⟨w5.heap.size, 0, none⟩ 1 1 [(nm, (str el))] rfl rfl hnew (by omega) hzA ?_; intro v7 w7 hown7 hb7)
              have hbel7 := hbelA.trans hb7
              rw [HT.out] at hown7
              obtain ⟨a7, c7, hv7, -, -⟩ := hown7.form
              rw [htl7] at hv7
              subst hv7
              clear hownA hnew hbelA hb7 HT
              go_wp2
              go_roundw
              case rel => exact ⟨j + 1, by omega, by go_num, HFn.out, by rw [hacc7]; exact hown7, hbel7⟩
              case measure => simp [intOf]; omega
          · have hec' : (ec != 0) = true := by simpa using hec
            have hq : q = (ec, []) := HQ.out.trans (if_pos hec)
            subst hq
            have HR : Hid (r = (ec, [])) := by
              have e : lgC l = ec := HF2.out.trans (if_neg hec)
              show _ = _
              rw [HM.out]; unfold lgF; rw [e]; exact if_pos hec
            obtain ⟨a0, a1, z0, z1⟩ := HRES.out _ hbel5
            obtain ⟨k0, k1⟩ := res_at a0 a1 (.int .i64 ec) (.slice none 0 0)
            have HE : Hid (_) := BytEnd.at_ (c := ec) (l := []) (HBW.out _ hbel5) (R := w.heap.size) (Nat.le_refl _) (Own.nil _ _) (.int .i64 ec) (.slice none 0 0)
            clear HQ HF2 HT0 HM
            go_wp2
            refine bodyPost_ret (v := .agg #[.int .i64 ec, .slice none 0 0]) (by simp [results, Tryz.results61, go_sem, k0, k1]) rfl ?_
            rw [HR.out]
            exact HE.out
      · have hji : ¬ (j : Int) < (N : Int) := by omega
        obtain rfl : j = N := by omega
        have HC0 : lgC l = 0 := by rw [HF.out, List.drop_of_length_le (by omega)]; rfl
        rw [List.take_of_length_le (by omega)] at hown
        have hfm := lg_fault hf HC0
        have hml : (l.map lgN).length = j := by rw [List.length_map]; exact hN
        obtain ⟨av, cv, hv, -, -⟩ := hown.form
        rw [hml] at hv
        subst hv
        have hpf := pkH_fit hfm
        have hbwr := HBW.out wr hbel
        have HPK := l4Pack_any av j cv (l.map lgN) wr.drew hml (hown.below (Below.refl _ _).drew (Nat.le_refl _)).rd.2 (by omega) (by omega)
        have HMr : Hid (r = if 400 < (lgT l (d.drop k)).length then (2, []) else (0, lgT l (d.drop k))) := by
          show _ = _
          rw [HM.out]; unfold lgF; rw [HC0, if_neg (by simp)]
        have hLT : lgT l (d.drop k) = (pkH (l.map lgN) ++ [10]) ++ d.drop k := rfl
        have hpl : (pkH (l.map lgN) ++ [10]).length ≤ 2000 := by rw [List.length_append, List.length_singleton]; omega
        obtain ⟨o', hoi, hdc⟩ : ∃ o', (if m = k then (some ⟨b, 0, none⟩ : Option Addr) else some ⟨b, k, none⟩) = some ⟨b, o', none⟩ ∧ ∀ wx, Below w.heap.size w wx → ∀ i, i < m - k → wx.cell? ((⟨b, o', none⟩ : Addr).add i) = some (.int .u8 (nth (d.drop k) i : Int)) := by
          by_cases h : m = k
          · exact ⟨0, if_pos h, fun _ _ i hi => absurd hi (by omega)⟩
          · refine ⟨k, if_neg h, fun wx hb i hi => ?_⟩
            have h' := (hr.below hb).drop k
            rw [Nat.zero_add] at h'
            obtain ⟨b', off', e, -, hc⟩ := h'.at_ (by rw [List.length_drop]; omega)
            cases e
            rw [Go.WideShapes.add_plain]
            exact hc i (by rw [List.length_drop]; omega)
        have hdl : (d.drop k).length = m - k := by rw [List.length_drop, hl]
        have hi1 : (k : Int) ≤ (m : Int) := by omega
        clear HM hall HF HHC hrdV hown hfm hml HC0 hf hpf
        generalize hPT : pkH (l.map lgN) ++ [10] = pt at *
        generalize lgT l (d.drop k) = lt at *
        generalize d.drop k = dk at *
        clear hPT
        go_wp2_with fail
        refine wp_region_held_drew (S := (fun w' => w'.cell? ⟨w1.heap.size, 1, none⟩ = some (.int .i64 (k : Int)))) (by kernel_rfl) ?hS2 (fun hHeld => ?_)
        case hS2 => exact hh1
        refine wpAnyH_take (i := 0) (v := ?_) rfl (by kernel_rfl) (by kernel_rfl) (by kernel_rfl) (fun _ _ _ h => h) (Or.inl ⟨by rfl, ?hy1⟩) (by assumption) ?ty1
        case hy1 => (intro w hSw; (try dsimp only at hSw); go_simp; all_goals with_reducible rfl)
        simp only [Act.put, List.getElem_toArray, List.getElem_cons_zero, List.setIfInBounds_toArray, List.set_cons_zero, List.set_cons_succ]
        refine wpAnyH_take (i := 2) (v := ?_) rfl (by kernel_rfl) (by kernel_rfl) (by kernel_rfl) (fun _ _ _ h => h) (Or.inl ⟨by rfl, ?hy2⟩) (by assumption) ?ty2
        case hy2 => (intro w hSw; (try dsimp only at hSw); go_simp; all_goals with_reducible rfl)
        simp only [Act.put, List.getElem_toArray, List.getElem_cons_zero, List.getElem_cons_succ, List.setIfInBounds_toArray, List.set_cons_zero, List.set_cons_succ]
        refine wpAnyH_take (i := 3) (v := ?_) rfl (by kernel_rfl) (by kernel_rfl) (by kernel_rfl) (fun _ _ _ h => h) (Or.inl ⟨by rfl, ?hy3⟩) (by assumption) ?ty3
        case hy3 => (intro w hSw; (try dsimp only at hSw); go_simp; all_goals with_reducible rfl)
        simp only [Act.put, List.getElem_toArray, List.getElem_cons_zero, List.getElem_cons_succ, List.setIfInBounds_toArray, List.set_cons_zero, List.set_cons_succ]
        refine wpAnyH_take (i := 4) (v := ?_) rfl (by kernel_rfl) (by kernel_rfl) (by kernel_rfl) (fun _ _ _ h => h) (Or.inl ⟨by rfl, ?hy4⟩) (by assumption) ?ty4
        case hy4 => (intro w hSw; (try dsimp only at hSw); go_simp; all_goals with_reducible rfl)
        simp only [Act.put, List.getElem_toArray, List.getElem_cons_zero, List.getElem_cons_succ, List.setIfInBounds_toArray, List.set_cons_zero, List.set_cons_succ]
        refine wpAnyH_take (i := 5) (v := (.slice (if m = k then (some ⟨b, 0, none⟩ : Option Addr) else some ⟨b, k, none⟩) (m - k) (m - k))) rfl (by kernel_rfl) (by kernel_rfl) (by kernel_rfl) (fun _ _ _ h => h) (Or.inl ⟨by rfl, ?hy5⟩) (by assumption) ?ty5
        case hy5 => (intro w hSw; (try dsimp only at hSw); go_simp; (first | (simp; done) | (all_goals with_reducible rfl)))
        simp only [Act.put, List.getElem_toArray, List.getElem_cons_zero, List.getElem_cons_succ, List.setIfInBounds_toArray, List.set_cons_zero, List.set_cons_succ]
        rw [hoi]
        refine wpAnyH_ready (rs := [1]) (by kernel_rfl) (by simp) ?_
        refine AllReadyH.cons rfl (fun K hK => ?_) AllReadyH.nil
        go_simp
        refine HPK.mono ?_
        rintro e w3 ⟨v3, rfl, ho3, hb3⟩
        have hb3' : Below wr.heap.size wr w3 := (Below.refl _ _).drew.trans hb3
        have hz3 : wr.heap.size ≤ w3.heap.size := hb3'.size
        have u1 : w3.cell? ⟨w1.heap.size, 1, none⟩ = some (.int .i64 (k : Int)) := (hb3'.cell (p := ⟨w1.heap.size, 1, none⟩) (by show w1.heap.size < _; omega)).trans hh1
        have hbw3 := hbwr.trans (hb3'.mono hbwr.size)
        have hbel3 := hbel.trans (hb3'.mono hzr)
        have ho4 : Own w3 (w1.heap.size + 1) v3 pt := row_low ho3 (by show _ ≤ wr.heap.size; omega)
        obtain ⟨a3, c3, hv3, -, -⟩ := ho4.form
        subst hv3
        have hz4 : w1.heap.size + 1 ≤ w3.heap.size := by omega
        refine hK.out _ _ u1 (fun hHeld => ?_)
        clear hK K HPK hb3 hb3' ho3
        refine wpAnyH_ready (rs := [6]) (by kernel_rfl) (by simp) ?_
        refine AllReadyH.cons rfl (fun K hK => ?_) AllReadyH.nil
        refine step_app (by rfl) _ _ (by rfl) (w1.heap.size + 1) (.slice a3 pt.length c3) pt (by rfl) ho4 ⟨b, o', none⟩ (m - k) (m - k) dk (by rfl) hdl (hdc _ hbw3) (by omega) hz4 ?_
        intro v5 w5 ho5 hb5
        have u3 : w5.cell? ⟨w1.heap.size, 1, none⟩ = some (.int .i64 (k : Int)) := (hb5.cell (p := ⟨w1.heap.size, 1, none⟩) (by show w1.heap.size < _; omega)).trans u1
        have hbel5 := hbel3.trans hb5
        refine hK.out _ _ u3 (fun hHeld => ?_)
        clear hK K ho4 hdc
        refine wpAnyH_take (i := 7) (v := ?_) rfl (by kernel_rfl) (by kernel_rfl) (by kernel_rfl) (fun _ _ _ h => h) (Or.inl ⟨by rfl, ?hy6⟩) (by assumption) ?ty6
        case hy6 => (intro w hSw; (try dsimp only at hSw); go_simp; all_goals with_reducible rfl)
        simp only [Act.put, List.getElem_toArray, List.getElem_cons_zero, List.getElem_cons_succ, List.setIfInBounds_toArray, List.set_cons_zero, List.set_cons_succ]
        refine wpAnyH_done (by kernel_rfl) ?_ _
        have ho6 : Own w5 (w.heap.size + 1) v5 lt := by rw [hLT]; exact row_low ho5 (by omega)
        obtain ⟨a6, c6, hv6, -, -⟩ := ho6.form
        obtain ⟨L6, hL6⟩ : ∃ L6, lt.length = L6 := ⟨_, rfl⟩
        rw [hL6] at hv6
        subst hv6
        have HMl : Hid (r = if 400 < L6 then (2, []) else (0, lt)) := by show _ = _; rw [HMr.out, hL6]
        obtain ⟨a0, a1, z0, z1⟩ := HRES.out _ hbel5
        have hbw5 := HBW.out _ hbel5
        clear hHeld HMr ho5 hb5 hLT u1 u3 HRES HBW
        by_cases h4 : 400 < L6
        · have h4' : (400 : Int) < (L6 : Int) := by omega
          have HR : Hid (r = (2, [])) := HMl.out.trans (if_pos h4)
          obtain ⟨k0, k1⟩ := res_at a0 a1 (.int .i64 2) (.slice none 0 0)
          have HE : Hid (_) := BytEnd.at_ (c := 2) (l := []) hbw5 (R := w.heap.size) (Nat.le_refl _) (Own.nil _ _) (.int .i64 2) (.slice none 0 0)
          clear HMl
          go_wp2
          refine bodyPost_ret (v := .agg #[.int .i64 2, .slice none 0 0]) (by simp [results, Tryz.results61, go_sem, k0, k1]) rfl ?_
          rw [HR.out]
          exact HE.out
        · have h4' : ¬ (400 : Int) < (L6 : Int) := by omega
          have HR : Hid (r = (0, lt)) := HMl.out.trans (if_neg h4)
          obtain ⟨k0, k1⟩ := res_at a0 a1 (.int .i64 0) (.slice a6 L6 c6)
          have HE : Hid (_) := BytEnd.at_ (c := 0) hbw5 (R := w.heap.size) (Nat.le_refl _) ho6 (.int .i64 0) (.slice a6 L6 c6)
          clear HMl
          go_wp2
          refine bodyPost_ret (v := .agg #[.int .i64 0, .slice a6 L6 c6]) (by simp [results, Tryz.results61, go_sem, k0, k1]) rfl ?_
          rw [HR.out]
          exact HE.out
  · have hc' : (c != 0) = true := by simpa using hc
    have HR : Hid (r = (c, [])) := HZ.out hc
    have hbA : Below (w.heap.size + 1) (w.alloc (.cells #[.int .i64 0, .slice none 0 0] 46)) (w1.alloc (.cells #[.int .i64 c, .int .i64 (k : Int), .slice a N cp] 68)) := hb1.alloc hz1 _
    obtain ⟨a0, a1, z0, z1⟩ := res_block rfl hbA
    obtain ⟨k0, k1⟩ := res_at a0 a1 (.int .i64 c) (.slice none 0 0)
    have HE : Hid (_) := BytEnd.at_ (c := c) (l := []) (hb0.trans (hbA.mono (by omega))) (R := w.heap.size) (Nat.le_refl _) (Own.nil _ _) (.int .i64 c) (.slice none 0 0)
    clear HZ HV HOK ho hb1 hb0 hbw hbA
    go_wp2
    refine bodyPost_ret (v := .agg #[.int .i64 c, .slice none 0 0]) (by simp [results, Tryz.results61, go_sem, k0, k1]) rfl ?_
    rw [HR.out]
    exact HE.out

/-- LegacyOf, both sides. -/
theorem bothLegacy (w : World) (hT : TabC w) (hTB : TabB w) (hTH : TabH w) (hMI : MaxI w) (m : Nat) (s : List Nat) (hl : s.length = m) (hB : IsB s) (_hm : m ≤ 1048576) : ∃ (c : Int) (l : List Nat), l.length ≤ 400 ∧
    (∀ (b : Nat) (wx : World), Below w.heap.size w wx → b < wx.heap.size → Rd wx (some ⟨b, 0, none⟩) s → Calls Tryz.prog 61 #[.slice (some ⟨b, 0, none⟩) m m] wx fun e w' => ∃ v, e = .returned (.agg #[.int .i64 c, v]) ∧ Own w' wx.heap.size v l ∧ Below wx.heap.size wx w') ∧
    (∀ (b : Nat) (wx : World), Below w.heap.size w wx → b < wx.heap.size → Rd wx (some ⟨b, 0, none⟩) s → Calls Tryz.prog 60 #[.slice (some ⟨b, 0, none⟩) m m] wx fun e w' => ∃ v, e = .returned (.agg #[.int .i64 c, v]) ∧ Own w' wx.heap.size v l ∧ Below wx.heap.size wx w') :=
  ⟨(lgV s).1, (lgV s).2, lgV_len s, fun b wx _ hlt hr => specLegacyOf_any b m s wx hr hlt hB hl, fun b wx hb _ hr => legacyOf_any b m s wx hr (hT.below hb) (hTB.below hb) (hTH.below hb) (hMI.below hb) hB hl⟩
end Go.Proofs.YtkjnhcnbbojajaaGreatDoor
