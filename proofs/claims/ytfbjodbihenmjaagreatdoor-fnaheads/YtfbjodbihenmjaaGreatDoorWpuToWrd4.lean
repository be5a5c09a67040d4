/- The piece at the start of a text, the program's · A told word at a place, the model's: by a plain function. -/
import Derived.Test.YtfbjodbihenmjaaGreatDoorWpt
import Derived.Test.YtfbjodbihenmjaaGreatDoorWrd4aToWpq
namespace Go.Proofs.YtfbjodbihenmjaaGreatDoor
open Go.RowKit

/-- The piece at the start of a text: its kind, its size, its codes. -/
def pcV (t : List Nat) : Int × Nat × List Int := match wdV t with
  | some r => (2, r.2, r.1)
  | none => if gapB (nth t 0) = true then (1, runL gapB t 0, asI (t.take (runL gapB t 0))) else (0, (cuV t).2, [(cuV t).1])
theorem pcV_told {t : List Nat} {r : List Int × Nat} (h : wdV t = some r) : pcV t = (2, r.2, r.1) := by unfold pcV; rw [h]
theorem pcV_gap {t : List Nat} (h : wdV t = none) (hg : gapB (nth t 0) = true) : pcV t = (1, runL gapB t 0, asI (t.take (runL gapB t 0))) := by unfold pcV; rw [h]; exact if_pos hg
theorem pcV_char {t : List Nat} (h : wdV t = none) (hg : gapB (nth t 0) = false) : pcV t = (0, (cuV t).2, [(cuV t).1]) := by unfold pcV; rw [h]; exact if_neg (by rw [hg]; simp)

set_option maxHeartbeats 1600000 in
set_option maxRecDepth 100000 in
theorem beginsTold_any (t : List Nat) (n : Nat) (w : World) (hl : t.length = n) (hB : IsB t) (hn : n ≤ 400) (hc : TabC w) (hb : TabB w) (hh : TabH w) (hm : MaxI w) :
    Calls Tryz.prog 89 #[.string (str t)] w fun e w' => e = .returned (.bool (wdV t).isSome) ∧ Below w.heap.size w w' := by
  have HT := toldAt_any t n w hl hB hn hc hb hh hm
  rw [td_same] at HT
  cases hw : wdV t with
  | none =>
    rw [hw] at HT
    clear hw
    go_enter Tryz.func89, Tryz.ntmps89
    go_wp2_with fail
    refine HT.mono ?_
    rintro e w1 ⟨rfl, hb1⟩
    have hbA := fun ob => hb1.alloc hb1.size ob
    go_wp2
    go_ret
    exact ⟨rfl, hbA _⟩
  | some r =>
    rw [hw] at HT
    clear hw
    go_enter Tryz.func89, Tryz.ntmps89
    go_wp2_with fail
    refine HT.mono ?_
    rintro e w1 ⟨v, rfl, hown, hb1⟩
    obtain ⟨a, c, rfl, -, -⟩ := hown.form
    have hbA := fun ob => hb1.alloc hb1.size ob
    go_wp2
    go_ret
    exact ⟨rfl, hbA _⟩

set_option maxHeartbeats 1600000 in
set_option maxRecDepth 100000 in
theorem wordAt_any (t : List Nat) (n : Nat) (w : World) (hl : t.length = n) (hB : IsB t) (hn : n ≤ 400) (h0 : 0 < n) (hc : TabC w) (hb : TabB w) (hh : TabH w) (hm : MaxI w) :
    Calls Tryz.prog 88 #[.string (str t)] w fun e w' => PcEnd (pcV t) w e w' := by
  have hsz : (str t).size = n := by rw [str_size, hl]
  have hb0 : Below w.heap.size w (w.alloc (.cells #[.int .i64 0, .int .i64 0, .slice none 0 0] 121)) := (Below.refl _ _).alloc (Nat.le_refl _) _
  have HT := toldAt_any t n _ hl hB hn (hc.below hb0) (hb.below hb0) (hh.below hb0) (hm.below hb0)
  rw [td_same] at HT
  have hsW : (w.alloc (.cells #[.int .i64 0, .int .i64 0, .slice none 0 0] 121)).heap.size = w.heap.size + 1 := by simp
  cases hw : wdV t with
  | some r =>
    rw [pcV_told hw]
    rw [hw] at HT
    obtain ⟨u, k⟩ := r
    clear hw
    go_enter Tryz.func88, Tryz.ntmps88
    go_wp2_with fail
    refine HT.mono ?_
    rintro e w6 ⟨v, rfl, hown6, hb6⟩
    obtain ⟨a6, c6, rfl, -, -⟩ := hown6.form
    simp only at hown6 ⊢
    generalize hW : w.alloc (.cells #[.int .i64 0, .int .i64 0, .slice none 0 0] 121) = W at *
    rw [hsW] at hown6 hb6
    have hz6 := hb6.size
    have hbw6 := hb0.trans (hb6.mono (Nat.le_succ _))
    have hlt6 : w.heap.size < w6.heap.size := by omega
    obtain ⟨hc0, hc1, hc2, hf0, hf1, hf2⟩ := wblock hW hb6
    obtain ⟨hk0, hk1', hk2'⟩ := wcells hc0 hc1 hc2 (.int .i64 2) (.int .i64 (k : Int)) (.slice a6 u.length c6)
    have hq0 : ∀ ob, ((((w6.setCell ⟨w.heap.size, 0, none⟩ (.int .i64 2)).setCell ⟨w.heap.size, 1, none⟩ (.int .i64 (k : Int))).setCell ⟨w.heap.size, 2, none⟩ (.slice a6 u.length c6)).alloc ob).cell? ⟨w.heap.size, 0, none⟩ = some (.int .i64 2) := fun ob => by
      rw [World.cell?_alloc_old _ _ _ (by simp; omega)]
      simp [go_sem, hk0]
    have hq1 : ∀ ob, ((((w6.setCell ⟨w.heap.size, 0, none⟩ (.int .i64 2)).setCell ⟨w.heap.size, 1, none⟩ (.int .i64 (k : Int))).setCell ⟨w.heap.size, 2, none⟩ (.slice a6 u.length c6)).alloc ob).cell? ⟨w.heap.size, 1, none⟩ = some (.int .i64 (k : Int)) := fun ob => by
      rw [World.cell?_alloc_old _ _ _ (by simp; omega)]
      simp [go_sem, hk1']
    have hq2 : ∀ ob, ((((w6.setCell ⟨w.heap.size, 0, none⟩ (.int .i64 2)).setCell ⟨w.heap.size, 1, none⟩ (.int .i64 (k : Int))).setCell ⟨w.heap.size, 2, none⟩ (.slice a6 u.length c6)).alloc ob).cell? ⟨w.heap.size, 2, none⟩ = some (.slice a6 u.length c6) := fun ob => by
      rw [World.cell?_alloc_old _ _ _ (by simp; omega)]
      exact hk2'
    have hP := PcEnd.put (c := 2) (k := k) hbw6 hown6 (.int .i64 2) (.int .i64 (k : Int)) (.slice a6 u.length c6)
    have hbZ : ∀ ob, PcEnd (2, k, u) w (.returned (.agg #[.int .i64 2, .int .i64 (k : Int), .slice a6 u.length c6])) ((((w6.setCell ⟨w.heap.size, 0, none⟩ (.int .i64 2)).setCell ⟨w.heap.size, 1, none⟩ (.int .i64 (k : Int))).setCell ⟨w.heap.size, 2, none⟩ (.slice a6 u.length c6)).alloc ob) := fun ob => by
      obtain ⟨v, hv, ho, hbb⟩ := hP
      exact ⟨v, hv, ho.alloc _, hbb.alloc hbb.size _⟩
    clear HT hP
    go_wp2
    refine bodyPost_ret (v := .agg #[.int .i64 2, .int .i64 (k : Int), .slice a6 u.length c6]) (by simp [results, Tryz.results88, go_sem, hq0, hq1, hq2]) rfl ?_
    exact hbZ _
  | none =>
    rw [hw] at HT
    have hx := nth_lt hB 0
    have hget := str_get hB (i := 0) (by rw [hsz]; exact h0)
    have hki : (0 : Int) < (n : Int) := by omega
    have HC : ∀ w, Calls Tryz.prog 100 #[.int .u8 (nth t 0 : Int)] w fun e w' => e = .returned (.bool (gapB (nth t 0))) ∧ w = w' := fun w => isBlankOrTab_gap (nth t 0) w hx
    have HP : ∃ f, Hid (∀ w, Calls Tryz.prog f #[.string (str t)] w fun e w' => PcEnd (pcV t) w e w') ∧ (gapB (nth t 0) = true ∧ f = 101 ∨ gapB (nth t 0) = false ∧ f = 102) := by
      cases hg : gapB (nth t 0) with
      | true => exact ⟨_, fun w => by rw [pcV_gap hw hg]; exact blanksAt_any t n w hl hB (by omega), .inl ⟨rfl, rfl⟩⟩
      | false => exact ⟨_, fun w => by rw [pcV_char hw hg]; exact plainAt_any t n w hl hB (by omega) h0, .inr ⟨rfl, rfl⟩⟩
    generalize pcV t = r at *
    generalize gapB (nth t 0) = gp at *
    generalize nth t 0 = x at *
    clear hw
    obtain ⟨f, HP, hf⟩ := HP
    obtain ⟨rc, rk, ru⟩ := r
    rcases hf with ⟨rfl, rfl⟩ | ⟨rfl, rfl⟩
    all_goals
      go_enter Tryz.func88, Tryz.ntmps88
      go_wp2_with fail
      refine HT.mono ?_
      rintro e w1 ⟨rfl, hb1⟩
      generalize hW : w.alloc (.cells #[.int .i64 0, .int .i64 0, .slice none 0 0] 121) = W at *
      rw [hsW] at hb1
      have hz1 := hb1.size
      rw [hsW] at hz1
      go_wp2_with fail
      refine (HC _).mono ?_
      rintro e w2 ⟨rfl, rfl⟩
      have hbA : Below (w.heap.size + 1) W (w1.alloc (.cells #[.int .i64 0, .int .i64 0, .slice none 0 0] 121)) := hb1.alloc (by omega) _
      have hzA : (w1.alloc (.cells #[.int .i64 0, .int .i64 0, .slice none 0 0] 121)).heap.size = w1.heap.size + 1 := by simp
      go_wp2_with fail
      refine (HP.out _).mono ?_
      rintro e w3 ⟨v3, rfl, hown3, hb3⟩
      generalize w1.alloc (.cells #[.int .i64 0, .int .i64 0, .slice none 0 0] 121) = X at *
      have hbl : Below (w.heap.size + 1) W w3 := hbA.trans (hb3.mono (by omega))
      have hown : OwnI w3 (w.heap.size + 1) v3 ru := hown3.lower (by omega)
      have hbw := hb0.trans (hbl.mono (Nat.le_succ _))
      obtain ⟨a3, c3, rfl, -, -⟩ := hown.form
      simp only
      clear HT HP HC hown3 hb3 hbA hb1
      obtain ⟨hc0, hc1, hc2, hf0, hf1, hf2⟩ := wblock hW hbl
      obtain ⟨hk0, hk1', hk2'⟩ := wcells hc0 hc1 hc2 (.int .i64 rc) (.int .i64 (rk : Int)) (.slice a3 ru.length c3)
      have hq0 : (((w3.setCell ⟨w.heap.size, 0, none⟩ (.int .i64 rc)).setCell ⟨w.heap.size, 1, none⟩ (.int .i64 (rk : Int))).setCell ⟨w.heap.size, 2, none⟩ (.slice a3 ru.length c3)).cell? ⟨w.heap.size, 0, none⟩ = some (.int .i64 rc) := by simp [go_sem, hk0]
      have hq1 : (((w3.setCell ⟨w.heap.size, 0, none⟩ (.int .i64 rc)).setCell ⟨w.heap.size, 1, none⟩ (.int .i64 (rk : Int))).setCell ⟨w.heap.size, 2, none⟩ (.slice a3 ru.length c3)).cell? ⟨w.heap.size, 1, none⟩ = some (.int .i64 (rk : Int)) := by simp [go_sem, hk1']
      go_wp2
      refine bodyPost_ret (v := .agg #[.int .i64 rc, .int .i64 (rk : Int), .slice a3 ru.length c3]) (by simp [results, Tryz.results88, go_sem, hq0, hq1, hk2']) rfl ?_
      exact PcEnd.put hbw hown _ _ _
end Go.Proofs.YtfbjodbihenmjaaGreatDoor

namespace Go.Proofs.YtfbjodbihenmjaaGreatDoor
open Go.RowKit

set_option maxHeartbeats 4000000 in
set_option maxRecDepth 100000 in
theorem l4Word_any (t : List Nat) (n i : Nat) (w : World) (hl : t.length = n) (hB : IsB t) (hn : n ≤ 1048576) (hi : i ≤ n) :
    Calls Tryz.prog 106 #[.string (str t), .int .i64 (i : Int)] w fun e w' => WdEnd (wdV (t.drop i)) w e w' := by
  have hsz : (str t).size = n := by rw [str_size, hl]
  have HL : Hid (t.length = n) := hl
  have HF : Hid (wdF (t.drop i) ↔ nth t i = 61 ∧ nth t (i + 1) = 63 ∧ nth t (i + (wdA (t.drop i) + 2)) = 63 ∧ nth t (i + (wdZ (t.drop i) + 1)) = 61) := wdF_at t i
  have HNo : Hid (¬ wdF (t.drop i) → wdV (t.drop i) = none) := wdV_form
  by_cases h1 : i + 1 < n
  · have h1' : ¬ (n : Int) ≤ (i : Int) + 1 := by omega
    have h1i : (i : Int) + 1 < (n : Int) := by omega
    have hi0 : (i : Int) < (n : Int) := by omega
    have g0 := str_get hB (i := i) (by rw [hsz]; omega)
    have g1 := str_get hB (i := i + 1) (by rw [hsz]; omega)
    by_cases h61 : nth t i = 61
    · by_cases h63 : nth t (i + 1) = 63
      · rw [h61] at g0
        rw [h63] at g1
        have HM1 : Hid (mkV t (i + 2) = if i + wdA (t.drop i) < n then ((i + wdA (t.drop i) : Nat) : Int) else -1) := by
          show _ = _
          rw [mk_at, HL.out]; rfl
        have HM2 : Hid (mkV t (i + (wdA (t.drop i) + 3)) = if i + wdZ (t.drop i) < n then ((i + wdZ (t.drop i) : Nat) : Int) else -1) := by
          show _ = _
          rw [mk_at, HL.out]; rfl
        have ha2 : 2 ≤ wdA (t.drop i) := Nat.le_add_right _ _
        have hz3 : wdA (t.drop i) + 3 ≤ wdZ (t.drop i) := Nat.le_add_right _ _
        have HP1 : Hid ((str t).extract (i + 2) (i + wdA (t.drop i)) = str (((t.drop i).take (wdA (t.drop i))).drop 2)) := by
          show _ = _
          rw [str_piece, piece_drop]
        have HP3 : Hid ((str t).extract (i + (wdA (t.drop i) + 3)) (i + wdZ (t.drop i)) = str (((t.drop i).take (wdZ (t.drop i))).drop (wdA (t.drop i) + 3))) := by
          show _ = _
          rw [str_piece, piece_drop]
        have HC0 : Hid (wdC (t.drop i) = csI (str ((((t.drop i).take (wdA (t.drop i))).drop 2).map low))) := rfl
        have HB0 : Hid (wdB (t.drop i) = toldV (nth t (i + (wdA (t.drop i) + 1))) (((t.drop i).take (wdZ (t.drop i))).drop (wdA (t.drop i) + 3))) := by
          show _ = _
          unfold wdB; rw [nth_drop]
        have HV1 : Hid (wdC (t.drop i) = 0 → wdV (t.drop i) = none) := wdV_cs
        have HV2 : Hid (wdB (t.drop i) = none → wdV (t.drop i) = none) := wdV_by
        have HV3 : Hid (∀ bs, wdF (t.drop i) → wdC (t.drop i) ≠ 0 → wdB (t.drop i) = some bs → wdV (t.drop i) = (decL (wdC (t.drop i)) bs).map fun u => (u, wdZ (t.drop i) + 2)) := fun bs => wdV_dec
        have hBp1 : IsB (((t.drop i).take (wdA (t.drop i))).drop 2) := isB_drop (isB_take (isB_drop hB _) _) _
        have hBp3 : IsB (((t.drop i).take (wdZ (t.drop i))).drop (wdA (t.drop i) + 3)) := isB_drop (isB_take (isB_drop hB _) _) _
        have hlp1 : (((t.drop i).take (wdA (t.drop i))).drop 2).length ≤ n := by rw [List.length_drop, List.length_take, List.length_drop]; have := HL.out; omega
        have hlp3 : (((t.drop i).take (wdZ (t.drop i))).drop (wdA (t.drop i) + 3)).length ≤ n := by rw [List.length_drop, List.length_take, List.length_drop]; have := HL.out; omega
        generalize wdC (t.drop i) = cs at *
        generalize wdB (t.drop i) = ob at *
        generalize ((t.drop i).take (wdA (t.drop i))).drop 2 = p1 at *
        generalize ((t.drop i).take (wdZ (t.drop i))).drop (wdA (t.drop i) + 3) = p3 at *
        generalize hfd : wdF (t.drop i) = F at *
        clear hfd
        generalize wdV (t.drop i) = rv at *
        generalize wdA (t.drop i) = a at *
        generalize wdZ (t.drop i) = z at *
        obtain ⟨ia, hia⟩ : ∃ ia, i + a = ia := ⟨_, rfl⟩
        obtain ⟨iz, hiz⟩ : ∃ iz, i + z = iz := ⟨_, rfl⟩
        rw [show i + (a + 2) = ia + 2 by omega, show i + (z + 1) = iz + 1 by omega] at HF
        rw [show i + (a + 1) = ia + 1 by omega] at HB0
        rw [hia] at HM1 HP1
        rw [show i + (a + 3) = ia + 3 by omega, hiz] at HM2 HP3
        have ha2' : i + 2 ≤ ia := by omega
        have hz3' : ia + 3 ≤ iz := by omega
        have HZ : Hid (iz = i + z) := hiz.symm
        clear ha2 hz3 hia hiz
        have HK1 := fun w => l4Mark_any t n (i + 2) w HL.out hB hn (by omega)
        rw [HM1.out] at HK1
        have e2 : (((i + 2 : Nat)) : Int) = (i : Int) + 2 := by omega
        rw [e2] at HK1
        have hnF : ∀ k c, c ≠ 0 → n ≤ k → nth t k ≠ c := fun k c hc hk h => by
          have := nth_lt_len (l := t) (k := k) (by rw [h]; exact hc)
          have := HL.out
          omega
        by_cases q1 : ia < n
        · rw [if_pos q1] at HK1
          have q1' : ¬ (ia : Int) < 0 := by omega
          by_cases q2 : ia + 2 < n
          · have q2' : ¬ (n : Int) ≤ (ia : Int) + 2 := by omega
            have q2i : (ia : Int) + 2 < (n : Int) := by omega
            have g2 := str_get hB (i := ia + 2) (by rw [hsz]; omega)
            by_cases h632 : nth t (ia + 2) = 63
            · rw [h632] at g2
              have HK2 := fun w => l4Mark_any t n (ia + 3) w HL.out hB hn (by omega)
              rw [HM2.out] at HK2
              have e3 : ((ia + 3 : Nat) : Int) = (ia : Int) + 3 := by omega
              rw [e3] at HK2
              by_cases q3 : iz < n
              · rw [if_pos q3] at HK2
                have q3' : ¬ (iz : Int) < 0 := by omega
                by_cases q4 : iz + 1 < n
                · have q4' : ¬ (n : Int) ≤ (iz : Int) + 1 := by omega
                  have q4i : (iz : Int) + 1 < (n : Int) := by omega
                  have g3 := str_get hB (i := iz + 1) (by rw [hsz]; omega)
                  by_cases h613 : nth t (iz + 1) = 61
                  · rw [h613] at g3
                    have hFt : F := HF.out.2 ⟨h61, h63, h632, h613⟩
                    have HR : Hid (rv = resY cs ob z) := by
                      show _ = _
                      unfold resY
                      by_cases hc0 : cs = 0
                      · rw [if_pos hc0]; exact HV1.out hc0
                      · rw [if_neg hc0]
                        cases hob : ob with
                        | none => exact HV2.out hob
                        | some bs => exact HV3.out bs hFt hc0 hob
                    rw [HR.out, HC0.out, HB0.out]
                    exact l4Word_yes t n i ia iz z p1 p3 w HL.out hB hn g0 g1 h632 h613 (HM1.out.trans (if_pos q1)) (HM2.out.trans (if_pos q3)) ha2' hz3' q4 HZ.out HP1.out HP3.out hBp1 hBp3 hlp1 hlp3
                  · have HM : Hid (rv = none) := HNo.out (fun hf => h613 ((HF.out.1 hf).2.2.2))
                    have b3 : ((nth t (iz + 1) : Int) == 61) = false := beq_eq_false_iff_ne.2 (by omega)
                    have b3' : ¬ (nth t (iz + 1) : Int) = 61 := by omega
                    have b3n : ((nth t (iz + 1) : Int) != 61) = true := by rw [bne_iff_ne]; omega
                    generalize nth t (iz + 1) = x3 at *
                    clear HM1 HM2 HP1 HP3 HNo HF hnF HV1 HV2 HV3 HC0 HB0
                    go_enter Tryz.func106, Tryz.ntmps106
                    go_wp2_with fail
                    refine (HK1 _).mono ?_
                    rintro e u1 ⟨rfl, rfl⟩
                    go_wp2_with fail
                    refine (HK2 _).mono ?_
                    rintro e u1 ⟨rfl, rfl⟩
                    go_wp2
                    go_ret2
                    exact .no (Below.refl _ _) HM.out
                · have HM : Hid (rv = none) := HNo.out (fun hf => hnF _ 61 (by decide) (by omega) (HF.out.1 hf).2.2.2)
                  have q4' : (n : Int) ≤ (iz : Int) + 1 := by omega
                  clear HM1 HM2 HP1 HP3 HNo HF hnF HV1 HV2 HV3 HC0 HB0
                  go_enter Tryz.func106, Tryz.ntmps106
                  go_wp2_with fail
                  refine (HK1 _).mono ?_
                  rintro e u1 ⟨rfl, rfl⟩
                  go_wp2_with fail
                  refine (HK2 _).mono ?_
                  rintro e u1 ⟨rfl, rfl⟩
                  go_wp2
                  go_ret2
                  exact .no (Below.refl _ _) HM.out
              · rw [if_neg q3] at HK2
                have HM : Hid (rv = none) := HNo.out (fun hf => hnF _ 61 (by decide) (by omega) (HF.out.1 hf).2.2.2)
                clear HM1 HM2 HP1 HP3 HNo HF hnF HV1 HV2 HV3 HC0 HB0
                go_enter Tryz.func106, Tryz.ntmps106
                go_wp2_with fail
                refine (HK1 _).mono ?_
                rintro e u1 ⟨rfl, rfl⟩
                go_wp2_with fail
                refine (HK2 _).mono ?_
                rintro e u1 ⟨rfl, rfl⟩
                go_wp2
                go_ret2
                exact .no (Below.refl _ _) HM.out
            · have HM : Hid (rv = none) := HNo.out (fun hf => h632 ((HF.out.1 hf).2.2.1))
              have b2 : ((nth t (ia + 2) : Int) == 63) = false := beq_eq_false_iff_ne.2 (by omega)
              have b2' : ¬ (nth t (ia + 2) : Int) = 63 := by omega
              have b2n : ((nth t (ia + 2) : Int) != 63) = true := by rw [bne_iff_ne]; omega
              generalize nth t (ia + 2) = x2 at *
              clear HM1 HM2 HP1 HP3 HNo HF hnF HV1 HV2 HV3 HC0 HB0
              go_enter Tryz.func106, Tryz.ntmps106
              go_wp2_with fail
              refine (HK1 _).mono ?_
              rintro e u1 ⟨rfl, rfl⟩
              go_wp2
              go_ret2
              exact .no (Below.refl _ _) HM.out
          · have HM : Hid (rv = none) := HNo.out (fun hf => hnF _ 63 (by decide) (by omega) (HF.out.1 hf).2.2.1)
            have q2' : (n : Int) ≤ (ia : Int) + 2 := by omega
            clear HM1 HM2 HP1 HP3 HNo HF hnF HV1 HV2 HV3 HC0 HB0
            go_enter Tryz.func106, Tryz.ntmps106
            go_wp2_with fail
            refine (HK1 _).mono ?_
            rintro e u1 ⟨rfl, rfl⟩
            go_wp2
            go_ret2
            exact .no (Below.refl _ _) HM.out
        · rw [if_neg q1] at HK1
          have HM : Hid (rv = none) := HNo.out (fun hf => hnF _ 63 (by decide) (by omega) (HF.out.1 hf).2.2.1)
          clear HM1 HM2 HP1 HP3 HNo HF hnF HV1 HV2 HV3 HC0 HB0
          go_enter Tryz.func106, Tryz.ntmps106
          go_wp2_with fail
          refine (HK1 _).mono ?_
          rintro e u1 ⟨rfl, rfl⟩
          go_wp2
          go_ret2
          exact .no (Below.refl _ _) HM.out
      · have HM : Hid (wdV (t.drop i) = none) := HNo.out (fun hf => h63 (HF.out.1 hf).2.1)
        have b1 : ((nth t (i + 1) : Int) == 63) = false := beq_eq_false_iff_ne.2 (by omega)
        rw [h61] at g0
        generalize wdV (t.drop i) = rv at *
        generalize nth t (i + 1) = x1 at *
        clear HNo HF
        go_enter Tryz.func106, Tryz.ntmps106
        go_wp2
        go_ret2
        exact .no (Below.refl _ _) HM.out
    · have HM : Hid (wdV (t.drop i) = none) := HNo.out (fun hf => h61 (HF.out.1 hf).1)
      have b1 : ((nth t i : Int) == 61) = false := beq_eq_false_iff_ne.2 (by omega)
      generalize wdV (t.drop i) = rv at *
      generalize nth t i = x0 at *
      clear HNo HF g1
      go_enter Tryz.func106, Tryz.ntmps106
      go_wp2
      go_ret2
      exact .no (Below.refl _ _) HM.out
  · have h1' : (n : Int) ≤ (i : Int) + 1 := by omega
    have HM : Hid (wdV (t.drop i) = none) := HNo.out (fun hf => by
      have := nth_lt_len (l := t) (k := i + 1) (by rw [(HF.out.1 hf).2.1]; decide)
      have := HL.out
      omega)
    generalize wdV (t.drop i) = rv at *
    clear HNo HF
    go_enter Tryz.func106, Tryz.ntmps106
    go_wp2
    go_ret2
    exact .no (Below.refl _ _) HM.out
end Go.Proofs.YtfbjodbihenmjaaGreatDoor
