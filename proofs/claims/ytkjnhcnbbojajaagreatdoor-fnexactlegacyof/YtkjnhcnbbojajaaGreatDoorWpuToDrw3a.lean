/- The piece at the start of a text, the program's · A told word at a place, the model's: by a plain function · The model's draws: each ends with some number or bytes within small bounds, and turns nothing that was there; sources of at most 1048576 bytes · More of the model's draws: a source, a chance, a pick, some bytes; each ends within small bounds and turns nothing but its source · Bytes that the model draws: at most 401 of them, in memory of the draw's own; nothing that was there is turned; sources of at most 1048576 bytes. -/
import Derived.Test.YtkjnhcnbbojajaaGreatDoorWpt
import Derived.Test.YtkjnhcnbbojajaaGreatDoorWpEToWrd4a
import Derived.Test.YtkjnhcnbbojajaaGreatDoorMemToMrk0
import Derived.Handy
import Derived.WalkSpells
namespace Go.Proofs.YtkjnhcnbbojajaaGreatDoor
open Go.RowKit

/-- The piece at the start of a text: its kind, its size, its codes. -/
def pcV (t : List Nat) : Int × Nat × List Int := match wdV t with
  | some r => (2, r.2, r.1)
  | none => if gapB (nth t 0) = true then (1, runL gapB t 0, asI (t.take (runL gapB t 0))) else (0, (cuV t).2, [(cuV t).1])
theorem pcV_told {t : List Nat} {r : List Int × Nat} (h : wdV t = some r) : pcV t = (2, r.2, r.1) := by unfold pcV; rw [h]
theorem pcV_gap {t : List Nat} (h : wdV t = none) (hg : gapB (nth t 0) = true) : pcV t = (1, runL gapB t 0, asI (t.take (runL gapB t 0))) := by unfold pcV; rw [h]; exact if_pos hg
theorem pcV_char {t : List Nat} (h : wdV t = none) (hg : gapB (nth t 0) = false) : pcV t = (0, (cuV t).2, [(cuV t).1]) := by unfold pcV; rw [h]; exact if_neg (by rw [hg]; simp)

set_option maxHeartbeats 1600000 in
set_option maxRecDepth 100000 in
theorem beginsTold_any (t : List Nat) (n : Nat) (w : World) (hl : t.length = n) (hB : IsB t) (hn : n ≤ 400) (hc : TabC w) (hb : TabB w) (hh : TabH w) (hm : MaxI w) :
    Calls Tryz.prog 238 #[.string (str t)] w fun e w' => e = .returned (.bool (wdV t).isSome) ∧ Below w.heap.size w w' := by
  have HT := toldAt_any t n w hl hB hn hc hb hh hm
  rw [td_same] at HT
  cases hw : wdV t with
  | none =>
    rw [hw] at HT
    clear hw
    go_enter Tryz.func238, Tryz.ntmps238
    go_wp2_with fail
    refine HT.mono ?_
    rintro e w1 ⟨rfl, hb1⟩
    have hbA := fun ob => hb1.alloc hb1.size ob
    go_wp2
    go_ret
    exact ⟨rfl, hbA _⟩
  | some r =>
    rw [hw] at HT
    clear hw
    go_enter Tryz.func238, Tryz.ntmps238
    go_wp2_with fail
    refine HT.mono ?_
    rintro e w1 ⟨v, rfl, hown, hb1⟩
    obtain ⟨a, c, rfl, -, -⟩ := hown.form
    have hbA := fun ob => hb1.alloc hb1.size ob
    go_wp2
    go_ret
    exact ⟨rfl, hbA _⟩

set_option maxHeartbeats 1600000 in
set_option maxRecDepth 100000 in
theorem wordAt_any (t : List Nat) (n : Nat) (w : World) (hl : t.length = n) (hB : IsB t) (hn : n ≤ 400) (h0 : 0 < n) (hc : TabC w) (hb : TabB w) (hh : TabH w) (hm : MaxI w) :
    Calls Tryz.prog 237 #[.string (str t)] w fun e w' => PcEnd (pcV t) w e w' := by
  have hsz : (str t).size = n := by rw [str_size, hl]
  have hb0 : Below w.heap.size w (w.alloc (.cells #[.int .i64 0, .int .i64 0, .slice none 0 0] 238)) := (Below.refl _ _).alloc (Nat.le_refl _) _
  have HT := toldAt_any t n _ hl hB hn (hc.below hb0) (hb.below hb0) (hh.below hb0) (hm.below hb0)
  rw [td_same] at HT
  have hsW : (w.alloc (.cells #[.int .i64 0, .int .i64 0, .slice none 0 0] 238)).heap.size = w.heap.size + 1 := by simp
  cases hw : wdV t with
  | some r =>
    rw [pcV_told hw]
    rw [hw] at HT
    obtain ⟨u, k⟩ := r
    clear hw
    go_enter Tryz.func237, Tryz.ntmps237
    go_wp2_with fail
    refine HT.mono ?_
    rintro e w6 ⟨v, rfl, hown6, hb6⟩
    obtain ⟨a6, c6, rfl, -, -⟩ := hown6.form
    simp only at hown6 ⊢
    generalize hW : w.alloc (.cells #[.int .i64 0, .int .i64 0, .slice none 0 0] 238) = W at *
    rw [hsW] at hown6 hb6
    have hz6 := hb6.size
    have hbw6 := hb0.trans (hb6.mono (Nat.le_succ _))
    have hlt6 : w.heap.size < w6.heap.size := by omega
    obtain ⟨hc0, hc1, hc2, hf0, hf1, hf2⟩ := wblock hW hb6
    obtain ⟨hk0, hk1', hk2'⟩ := wcells hc0 hc1 hc2 (.int .i64 2) (.int .i64 (k : Int)) (.slice a6 u.length c6)
    have hq0 : ∀ ob, ((((w6.setCell ⟨w.heap.size, 0, none⟩ (.int .i64 2)).setCell ⟨w.heap.size, 1, none⟩ (.int .i64 (k : Int))).setCell ⟨w.heap.size, 2, none⟩ (.slice a6 u.length c6)).alloc ob).cell? ⟨w.heap.size, 0, none⟩ = some (.int .i64 2) := fun ob => by
      rw [World.cell?_alloc_old _ _ _ (by simp; omega)]
      simp [go_sem, hk0]
    have hq1 : ∀ ob, ((((w6.setCell ⟨w.heap.size, 0, none⟩ (.int .i64 2)).setCell ⟨w.heap.size, 1, none⟩ (.int .i64 (k : Int))).setCell ⟨w.heap.size, 2, none⟩ (.slice a6 u.length c6)).alloc ob).cell? ⟨w.heap.size, 1, none⟩ = some (.int .i64 (k : Int)) := fun ob => by
      rw [World.cell?_alloc_old _ _ _ (by simp; omega)]
      simp [go_sem, hk1']
    have hq2 : ∀ ob, ((((w6.setCell ⟨w.heap.size, 0, none⟩ (.int .i64 2)).setCell ⟨w.heap.size, 1, none⟩ (.int .i64 (k : Int))).setCell ⟨w.heap.size, 2, none⟩ (.slice a6 u.length c6)).alloc ob).cell? ⟨w.heap.size, 2, none⟩ = some (.slice a6 u.length c6) := fun ob => by
      rw [World.cell?_alloc_old _ _ _ (by simp; omega)]
      exact hk2'
    have hP := PcEnd.put (c := 2) (k := k) hbw6 hown6 (.int .i64 2) (.int .i64 (k : Int)) (.slice a6 u.length c6)
    have hbZ : ∀ ob, PcEnd (2, k, u) w (.returned (.agg #[.int .i64 2, .int .i64 (k : Int), .slice a6 u.length c6])) ((((w6.setCell ⟨w.heap.size, 0, none⟩ (.int .i64 2)).setCell ⟨w.heap.size, 1, none⟩ (.int .i64 (k : Int))).setCell ⟨w.heap.size, 2, none⟩ (.slice a6 u.length c6)).alloc ob) := fun ob => by
      obtain ⟨v, hv, ho, hbb⟩ := hP
      exact ⟨v, hv, ho.alloc _, hbb.alloc hbb.size _⟩
    clear HT hP
    go_wp2
    refine bodyPost_ret (v := .agg #[.int .i64 2, .int .i64 (k : Int), .slice a6 u.length c6]) (by simp [results, Tryz.results237, go_sem, hq0, hq1, hq2]) rfl ?_
    exact hbZ _
  | none =>
    rw [hw] at HT
    have hx := nth_lt hB 0
    have hget := str_get hB (i := 0) (by rw [hsz]; exact h0)
    have hki : (0 : Int) < (n : Int) := by omega
    have HC : ∀ w, Calls Tryz.prog 230 #[.int .u8 (nth t 0 : Int)] w fun e w' => e = .returned (.bool (gapB (nth t 0))) ∧ w = w' := fun w => isBlankOrTab_gap (nth t 0) w hx
    have HP : ∃ f, Hid (∀ w, Calls Tryz.prog f #[.string (str t)] w fun e w' => PcEnd (pcV t) w e w') ∧ (gapB (nth t 0) = true ∧ f = 268 ∨ gapB (nth t 0) = false ∧ f = 269) := by
      cases hg : gapB (nth t 0) with
      | true => exact ⟨_, fun w => by rw [pcV_gap hw hg]; exact blanksAt_any t n w hl hB (by omega), .inl ⟨rfl, rfl⟩⟩
      | false => exact ⟨_, fun w => by rw [pcV_char hw hg]; exact plainAt_any t n w hl hB (by omega) h0, .inr ⟨rfl, rfl⟩⟩
    generalize pcV t = r at *
    generalize gapB (nth t 0) = gp at *
    generalize nth t 0 = x at *
    clear hw
    obtain ⟨f, HP, hf⟩ := HP
    obtain ⟨rc, rk, ru⟩ := r
    rcases hf with ⟨rfl, rfl⟩ | ⟨rfl, rfl⟩
    all_goals
      go_enter Tryz.func237, Tryz.ntmps237
      go_wp2_with fail
      refine HT.mono ?_
      rintro e w1 ⟨rfl, hb1⟩
      generalize hW : w.alloc (.cells #[.int .i64 0, .int .i64 0, .slice none 0 0] 238) = W at *
      rw [hsW] at hb1
      have hz1 := hb1.size
      rw [hsW] at hz1
      go_wp2_with fail
      refine (HC _).mono ?_
      rintro e w2 ⟨rfl, rfl⟩
      have hbA : Below (w.heap.size + 1) W (w1.alloc (.cells #[.int .i64 0, .int .i64 0, .slice none 0 0] 238)) := hb1.alloc (by omega) _
      have hzA : (w1.alloc (.cells #[.int .i64 0, .int .i64 0, .slice none 0 0] 238)).heap.size = w1.heap.size + 1 := by simp
      go_wp2_with fail
      refine (HP.out _).mono ?_
      rintro e w3 ⟨v3, rfl, hown3, hb3⟩
      generalize w1.alloc (.cells #[.int .i64 0, .int .i64 0, .slice none 0 0] 238) = X at *
      have hbl : Below (w.heap.size + 1) W w3 := hbA.trans (hb3.mono (by omega))
      have hown : OwnI w3 (w.heap.size + 1) v3 ru := hown3.lower (by omega)
      have hbw := hb0.trans (hbl.mono (Nat.le_succ _))
      obtain ⟨a3, c3, rfl, -, -⟩ := hown.form
      simp only
      clear HT HP HC hown3 hb3 hbA hb1
      obtain ⟨hc0, hc1, hc2, hf0, hf1, hf2⟩ := wblock hW hbl
      obtain ⟨hk0, hk1', hk2'⟩ := wcells hc0 hc1 hc2 (.int .i64 rc) (.int .i64 (rk : Int)) (.slice a3 ru.length c3)
      have hq0 : (((w3.setCell ⟨w.heap.size, 0, none⟩ (.int .i64 rc)).setCell ⟨w.heap.size, 1, none⟩ (.int .i64 (rk : Int))).setCell ⟨w.heap.size, 2, none⟩ (.slice a3 ru.length c3)).cell? ⟨w.heap.size, 0, none⟩ = some (.int .i64 rc) := by simp [go_sem, hk0]
      have hq1 : (((w3.setCell ⟨w.heap.size, 0, none⟩ (.int .i64 rc)).setCell ⟨w.heap.size, 1, none⟩ (.int .i64 (rk : Int))).setCell ⟨w.heap.size, 2, none⟩ (.slice a3 ru.length c3)).cell? ⟨w.heap.size, 1, none⟩ = some (.int .i64 (rk : Int)) := by simp [go_sem, hk1']
      go_wp2
      refine bodyPost_ret (v := .agg #[.int .i64 rc, .int .i64 (rk : Int), .slice a3 ru.length c3]) (by simp [results, Tryz.results237, go_sem, hq0, hq1, hk2']) rfl ?_
      exact PcEnd.put hbw hown _ _ _
end Go.Proofs.YtkjnhcnbbojajaaGreatDoor

namespace Go.Proofs.YtkjnhcnbbojajaaGreatDoor
open Go.RowKit

set_option maxHeartbeats 4000000 in
set_option maxRecDepth 100000 in
theorem l4Word_any (t : List Nat) (n i : Nat) (w : World) (hl : t.length = n) (hB : IsB t) (hn : n ≤ 1048576) (hi : i ≤ n) :
    Calls Tryz.prog 181 #[.string (str t), .int .i64 (i : Int)] w fun e w' => WdEnd (wdV (t.drop i)) w e w' := by
  have hsz : (str t).size = n := by rw [str_size, hl]
  have HL : Hid (t.length = n) := hl
  have HF : Hid (wdF (t.drop i) ↔ nth t i = 61 ∧ nth t (i + 1) = 63 ∧ nth t (i + (wdA (t.drop i) + 2)) = 63 ∧ nth t (i + (wdZ (t.drop i) + 1)) = 61) := wdF_at t i
  have HNo : Hid (¬ wdF (t.drop i) → wdV (t.drop i) = none) := wdV_form
  by_cases h1 : i + 1 < n
  · have h1' : ¬ (n : Int) ≤ (i : Int) + 1 := by omega
    have h1i : (i : Int) + 1 < (n : Int) := by omega
    have hi0 : (i : Int) < (n : Int) := by omega
    have g0 := str_get hB (i := i) (by rw [hsz]; omega)
    have g1 := str_get hB (i := i + 1) (by rw [hsz]; omega)
    by_cases h61 : nth t i = 61
    · by_cases h63 : nth t (i + 1) = 63
      · rw [h61] at g0
        rw [h63] at g1
        have HM1 : Hid (mkV t (i + 2) = if i + wdA (t.drop i) < n then ((i + wdA (t.drop i) : Nat) : Int) else -1) := by
          show _ = _
          rw [mk_at, HL.out]; rfl
        have HM2 : Hid (mkV t (i + (wdA (t.drop i) + 3)) = if i + wdZ (t.drop i) < n then ((i + wdZ (t.drop i) : Nat) : Int) else -1) := by
          show _ = _
          rw [mk_at, HL.out]; rfl
        have ha2 : 2 ≤ wdA (t.drop i) := Nat.le_add_right _ _
        have hz3 : wdA (t.drop i) + 3 ≤ wdZ (t.drop i) := Nat.le_add_right _ _
        have HP1 : Hid ((str t).extract (i + 2) (i + wdA (t.drop i)) = str (((t.drop i).take (wdA (t.drop i))).drop 2)) := by
          show _ = _
          rw [str_piece, piece_drop]
        have HP3 : Hid ((str t).extract (i + (wdA (t.drop i) + 3)) (i + wdZ (t.drop i)) = str (((t.drop i).take (wdZ (t.drop i))).drop (wdA (t.drop i) + 3))) := by
          show _ = _
          rw [str_piece, piece_drop]
        have HC0 : Hid (wdC (t.drop i) = csI (str ((((t.drop i).take (wdA (t.drop i))).drop 2).map low))) := rfl
        have HB0 : Hid (wdB (t.drop i) = toldV (nth t (i + (wdA (t.drop i) + 1))) (((t.drop i).take (wdZ (t.drop i))).drop (wdA (t.drop i) + 3))) := by
          show _ = _
          unfold wdB; rw [nth_drop]
        have HV1 : Hid (wdC (t.drop i) = 0 → wdV (t.drop i) = none) := wdV_cs
        have HV2 : Hid (wdB (t.drop i) = none → wdV (t.drop i) = none) := wdV_by
        have HV3 : Hid (∀ bs, wdF (t.drop i) → wdC (t.drop i) ≠ 0 → wdB (t.drop i) = some bs → wdV (t.drop i) = (decL (wdC (t.drop i)) bs).map fun u => (u, wdZ (t.drop i) + 2)) := fun bs => wdV_dec
        have hBp1 : IsB (((t.drop i).take (wdA (t.drop i))).drop 2) := isB_drop (isB_take (isB_drop hB _) _) _
        have hBp3 : IsB (((t.drop i).take (wdZ (t.drop i))).drop (wdA (t.drop i) + 3)) := isB_drop (isB_take (isB_drop hB _) _) _
        have hlp1 : (((t.drop i).take (wdA (t.drop i))).drop 2).length ≤ n := by rw [List.length_drop, List.length_take, List.length_drop]; have := HL.out; omega
        have hlp3 : (((t.drop i).take (wdZ (t.drop i))).drop (wdA (t.drop i) + 3)).length ≤ n := by rw [List.length_drop, List.length_take, List.length_drop]; have := HL.out; omega
        generalize wdC (t.drop i) = cs at *
        generalize wdB (t.drop i) = ob at *
        generalize ((t.drop i).take (wdA (t.drop i))).drop 2 = p1 at *
        generalize ((t.drop i).take (wdZ (t.drop i))).drop (wdA (t.drop i) + 3) = p3 at *
        generalize hfd : wdF (t.drop i) = F at *
        clear hfd
        generalize wdV (t.drop i) = rv at *
        generalize wdA (t.drop i) = a at *
        generalize wdZ (t.drop i) = z at *
        obtain ⟨ia, hia⟩ : ∃ ia, i + a = ia := ⟨_, rfl⟩
        obtain ⟨iz, hiz⟩ : ∃ iz, i + z = iz := ⟨_, rfl⟩
        rw [show i + (a + 2) = ia + 2 by omega, show i + (z + 1) = iz + 1 by omega] at HF
        rw [show i + (a + 1) = ia + 1 by omega] at HB0
        rw [hia] at HM1 HP1
        rw [show i + (a + 3) = ia + 3 by omega, hiz] at HM2 HP3
        have ha2' : i + 2 ≤ ia := by omega
        have hz3' : ia + 3 ≤ iz := by omega
        have HZ : Hid (iz = i + z) := hiz.symm
        clear ha2 hz3 hia hiz
        have HK1 := fun w => l4Mark_any t n (i + 2) w HL.out hB hn (by omega)
        rw [HM1.out] at HK1
        have e2 : (((i + 2 : Nat)) : Int) = (i : Int) + 2 := by omega
        rw [e2] at HK1
        have hnF : ∀ k c, c ≠ 0 → n ≤ k → nth t k ≠ c := fun k c hc hk h => by
          have := nth_lt_len (l := t) (k := k) (by rw [h]; exact hc)
          have := HL.out
          omega
        by_cases q1 : ia < n
        · rw [if_pos q1] at HK1
          have q1' : ¬ (ia : Int) < 0 := by omega
          by_cases q2 : ia + 2 < n
          · have q2' : ¬ (n : Int) ≤ (ia : Int) + 2 := by omega
            have q2i : (ia : Int) + 2 < (n : Int) := by omega
            have g2 := str_get hB (i := ia + 2) (by rw [hsz]; omega)
            by_cases h632 : nth t (ia + 2) = 63
            · rw [h632] at g2
              have HK2 := fun w => l4Mark_any t n (ia + 3) w HL.out hB hn (by omega)
              rw [HM2.out] at HK2
              have e3 : ((ia + 3 : Nat) : Int) = (ia : Int) + 3 := by omega
              rw [e3] at HK2
              by_cases q3 : iz < n
              · rw [if_pos q3] at HK2
                have q3' : ¬ (iz : Int) < 0 := by omega
                by_cases q4 : iz + 1 < n
                · have q4' : ¬ (n : Int) ≤ (iz : Int) + 1 := by omega
                  have q4i : (iz : Int) + 1 < (n : Int) := by omega
                  have g3 := str_get hB (i := iz + 1) (by rw [hsz]; omega)
                  by_cases h613 : nth t (iz + 1) = 61
                  · rw [h613] at g3
                    have hFt : F := HF.out.2 ⟨h61, h63, h632, h613⟩
                    have HR : Hid (rv = resY cs ob z) := by
                      show _ = _
                      unfold resY
                      by_cases hc0 : cs = 0
                      · rw [if_pos hc0]; exact HV1.out hc0
                      · rw [if_neg hc0]
                        cases hob : ob with
                        | none => exact HV2.out hob
                        | some bs => exact HV3.out bs hFt hc0 hob
                    rw [HR.out, HC0.out, HB0.out]
                    exact l4Word_yes t n i ia iz z p1 p3 w HL.out hB hn g0 g1 h632 h613 (HM1.out.trans (if_pos q1)) (HM2.out.trans (if_pos q3)) ha2' hz3' q4 HZ.out HP1.out HP3.out hBp1 hBp3 hlp1 hlp3
                  · have HM : Hid (rv = none) := HNo.out (fun hf => h613 ((HF.out.1 hf).2.2.2))
                    have b3 : ((nth t (iz + 1) : Int) == 61) = false := beq_eq_false_iff_ne.2 (by omega)
                    have b3' : ¬ (nth t (iz + 1) : Int) = 61 := by omega
                    have b3n : ((nth t (iz + 1) : Int) != 61) = true := by rw [bne_iff_ne]; omega
                    generalize nth t (iz + 1) = x3 at *
                    clear HM1 HM2 HP1 HP3 HNo HF hnF HV1 HV2 HV3 HC0 HB0
                    go_enter Tryz.func181, Tryz.ntmps181
                    go_wp2_with fail
                    refine (HK1 _).mono ?_
                    rintro e u1 ⟨rfl, rfl⟩
                    go_wp2_with fail
                    refine (HK2 _).mono ?_
                    rintro e u1 ⟨rfl, rfl⟩
                    go_wp2
                    go_ret2
                    exact .no (Below.refl _ _) HM.out
                · have HM : Hid (rv = none) := HNo.out (fun hf => hnF _ 61 (by decide) (by omega) (HF.out.1 hf).2.2.2)
                  have q4' : (n : Int) ≤ (iz : Int) + 1 := by omega
                  clear HM1 HM2 HP1 HP3 HNo HF hnF HV1 HV2 HV3 HC0 HB0
                  go_enter Tryz.func181, Tryz.ntmps181
                  go_wp2_with fail
                  refine (HK1 _).mono ?_
                  rintro e u1 ⟨rfl, rfl⟩
                  go_wp2_with fail
                  refine (HK2 _).mono ?_
                  rintro e u1 ⟨rfl, rfl⟩
                  go_wp2
                  go_ret2
                  exact .no (Below.refl _ _) HM.out
              · rw [if_neg q3] at HK2
                have HM : Hid (rv = none) := HNo.out (fun hf => hnF _ 61 (by decide) (by omega) (HF.out.1 hf).2.2.2)
                clear HM1 HM2 HP1 HP3 HNo HF hnF HV1 HV2 HV3 HC0 HB0
                go_enter Tryz.func181, Tryz.ntmps181
                go_wp2_with fail
                refine (HK1 _).mono ?_
                rintro e u1 ⟨rfl, rfl⟩
                go_wp2_with fail
                refine (HK2 _).mono ?_
                rintro e u1 ⟨rfl, rfl⟩
                go_wp2
                go_ret2
                exact .no (Below.refl _ _) HM.out
            · have HM : Hid (rv = none) := HNo.out (fun hf => h632 ((HF.out.1 hf).2.2.1))
              have b2 : ((nth t (ia + 2) : Int) == 63) = false := beq_eq_false_iff_ne.2 (by omega)
              have b2' : ¬ (nth t (ia + 2) : Int) = 63 := by omega
              have b2n : ((nth t (ia + 2) : Int) != 63) = true := by rw [bne_iff_ne]; omega
              generalize nth t (ia + 2) = x2 at *
              clear HM1 HM2 HP1 HP3 HNo HF hnF HV1 HV2 HV3 HC0 HB0
              go_enter Tryz.func181, Tryz.ntmps181
              go_wp2_with fail
              refine (HK1 _).mono ?_
              rintro e u1 ⟨rfl, rfl⟩
              go_wp2
              go_ret2
              exact .no (Below.refl _ _) HM.out
          · have HM : Hid (rv = none) := HNo.out (fun hf => hnF _ 63 (by decide) (by omega) (HF.out.1 hf).2.2.1)
            have q2' : (n : Int) ≤ (ia : Int) + 2 := by omega
            clear HM1 HM2 HP1 HP3 HNo HF hnF HV1 HV2 HV3 HC0 HB0
            go_enter Tryz.func181, Tryz.ntmps181
            go_wp2_with fail
            refine (HK1 _).mono ?_
            rintro e u1 ⟨rfl, rfl⟩
            go_wp2
            go_ret2
            exact .no (Below.refl _ _) HM.out
        · rw [if_neg q1] at HK1
          have HM : Hid (rv = none) := HNo.out (fun hf => hnF _ 63 (by decide) (by omega) (HF.out.1 hf).2.2.1)
          clear HM1 HM2 HP1 HP3 HNo HF hnF HV1 HV2 HV3 HC0 HB0
          go_enter Tryz.func181, Tryz.ntmps181
          go_wp2_with fail
          refine (HK1 _).mono ?_
          rintro e u1 ⟨rfl, rfl⟩
          go_wp2
          go_ret2
          exact .no (Below.refl _ _) HM.out
      · have HM : Hid (wdV (t.drop i) = none) := HNo.out (fun hf => h63 (HF.out.1 hf).2.1)
        have b1 : ((nth t (i + 1) : Int) == 63) = false := beq_eq_false_iff_ne.2 (by omega)
        rw [h61] at g0
        generalize wdV (t.drop i) = rv at *
        generalize nth t (i + 1) = x1 at *
        clear HNo HF
        go_enter Tryz.func181, Tryz.ntmps181
        go_wp2
        go_ret2
        exact .no (Below.refl _ _) HM.out
    · have HM : Hid (wdV (t.drop i) = none) := HNo.out (fun hf => h61 (HF.out.1 hf).1)
      have b1 : ((nth t i : Int) == 61) = false := beq_eq_false_iff_ne.2 (by omega)
      generalize wdV (t.drop i) = rv at *
      generalize nth t i = x0 at *
      clear HNo HF g1
      go_enter Tryz.func181, Tryz.ntmps181
      go_wp2
      go_ret2
      exact .no (Below.refl _ _) HM.out
  · have h1' : (n : Int) ≤ (i : Int) + 1 := by omega
    have HM : Hid (wdV (t.drop i) = none) := HNo.out (fun hf => by
      have := nth_lt_len (l := t) (k := i + 1) (by rw [(HF.out.1 hf).2.1]; decide)
      have := HL.out
      omega)
    generalize wdV (t.drop i) = rv at *
    clear HNo HF
    go_enter Tryz.func181, Tryz.ntmps181
    go_wp2
    go_ret2
    exact .no (Below.refl _ _) HM.out
end Go.Proofs.YtkjnhcnbbojajaaGreatDoor

namespace Go.Proofs.YtkjnhcnbbojajaaGreatDoor
open Go.RowKit

/-- A source of draws, laid at block b: its bytes lie below B, and at most M have been drawn. -/
def Src (w : World) (B b M : Nat) : Prop := B ≤ b ∧ b < w.heap.size ∧ ∃ (a : Option Addr) (n cap at' : Nat) (l : List Nat),
  w.cell? ⟨b, 0, none⟩ = some (.slice a n cap) ∧ w.cell? ⟨b, 1, none⟩ = some (.int .i64 (at' : Int)) ∧ w.frozen? ⟨b, 1, none⟩ = false ∧ l.length = n ∧ n ≤ 1048576 ∧ IsB l ∧ at' ≤ M ∧
  (l = [] ∨ ∃ d off, a = some ⟨d, off, none⟩ ∧ d < B ∧ ∀ i, i < n → w.cell? ⟨d, off + i, none⟩ = some (.int .u8 (nth l i : Int)))
theorem Src.below {w w' : World} {B b M : Nat} (h : Src w B b M) (hb : Below (b + 1) w w') : Src w' B b M := by
  obtain ⟨h1, h2, a, n, cap, at', l, c0, c1, f1, hl, hn, hB, ha, hd⟩ := h
  refine ⟨h1, Nat.lt_of_lt_of_le h2 hb.size, a, n, cap, at', l, (hb.cell (p := ⟨b, 0, none⟩) (by simp)).trans c0, (hb.cell (p := ⟨b, 1, none⟩) (by simp)).trans c1, (hb.frozen (p := ⟨b, 1, none⟩) (by simp)).trans f1, hl, hn, hB, ha, ?_⟩
  rcases hd with hd | ⟨d, off, e, hlt, hc⟩
  · exact .inl hd
  · exact .inr ⟨d, off, e, hlt, fun i hi => (hb.cell (p := ⟨d, off + i, none⟩) (by simp; omega)).trans (hc i hi)⟩
theorem Src.more {w : World} {B b M M' : Nat} (h : Src w B b M) (hM : M ≤ M') : Src w B b M' := by
  obtain ⟨h1, h2, a, n, cap, at', l, c0, c1, f1, hl, hn, hB, ha, hd⟩ := h
  exact ⟨h1, h2, a, n, cap, at', l, c0, c1, f1, hl, hn, hB, by omega, hd⟩
theorem Own.keptG {w w' : World} {B b : Nat} {v : Value} {l : List Nat} (h : Own w B v l) (hg : w.grownBy w' (some b)) (hb : b < B) : Own w' B v l := by
  refine World.ownsRow.kept h hg ?_
  cases hv : v.ownBlock with
  | none => exact .inl rfl
  | some k => right; intro e; have := (h.lt k hv).1; simp at e; omega

set_option maxHeartbeats 3200000 in
set_option maxRecDepth 100000 in
theorem l1Next_any (B b M : Nat) (k : Int) (w : World) (hs : Src w B b M) (hM : M ≤ 1000) (h0 : 0 ≤ k) (hk : k ≤ 1000) :
    Calls Tryz.prog 76 #[.pointer (some ⟨b, 0, none⟩), .int .i64 k] w fun e w' =>
      ∃ r : Int, e = .returned (.int .i64 r) ∧ 0 ≤ r ∧ (1 ≤ k → r < k) ∧ r ≤ 1000 ∧ Src w' B b (M + 1) ∧ w.grownBy w' (some b) := by
  obtain ⟨hBb, hbw, a, n, cap, at', l, c0, c1, f1, hl, hn, hB, ha, hd⟩ := hs
  have d1 : (w.setCell ⟨b, 1, none⟩ (.int .i64 ((at' : Int) + 1))).cell? ⟨b, 1, none⟩ = some (.int .i64 ((at' : Int) + 1)) := World.cell?_setCell_same _ _ _ c1
  have d0 : (w.setCell ⟨b, 1, none⟩ (.int .i64 ((at' : Int) + 1))).cell? ⟨b, 0, none⟩ = some (.slice a n cap) := by simp [go_sem, c0]
  have hgr : w.grownBy (w.setCell ⟨b, 1, none⟩ (.int .i64 ((at' : Int) + 1))) (some b) := ⟨rfl, rfl, rfl, by simp, fun j _ hj => Below.heap_setCell w ⟨b, 1, none⟩ _ j (fun e => hj (by simp [e]))⟩
  have hS : Src (w.setCell ⟨b, 1, none⟩ (.int .i64 ((at' : Int) + 1))) B b (M + 1) := by
    refine ⟨hBb, by simpa using hbw, a, n, cap, at' + 1, l, d0, by rw [d1]; rfl, (World.frozen?_setCell _ _ _ _).trans f1, hl, hn, hB, by omega, ?_⟩
    rcases hd with hd | ⟨d, off, e, hlt, hc⟩
    · exact .inl hd
    · exact .inr ⟨d, off, e, hlt, fun i hi => (hgr.cell_far ⟨d, off + i, none⟩ (by simp; omega) (by simp; omega)).trans (hc i hi)⟩
  have HS : Hid (_) := hS
  have HG : Hid (_) := hgr
  have hfin : ∀ j, Src ((w.setCell ⟨b, 1, none⟩ (.int .i64 ((at' : Int) + 1))).drewN j) B b (M + 1) := fun j => hS
  have hfin2 : ∀ j, w.grownBy ((w.setCell ⟨b, 1, none⟩ (.int .i64 ((at' : Int) + 1))).drewN j) (some b) := fun j => ⟨hgr.os, hgr.tape, hgr.output, hgr.size, hgr.block⟩
  by_cases hk1 : k < 1
  · clear hfin hfin2 hS hgr hd
    go_enter Tryz.func76, Tryz.ntmps76
    go_wp2
    go_ret
    exact ⟨0, rfl, by omega, by omega, by omega, HS.out, HG.out⟩
  · by_cases hn0 : n = 0
    · subst hn0
      clear hfin hfin2 hS hgr hd
      go_enter Tryz.func76, Tryz.ntmps76
      go_wp2
      go_ret
      have r1 := Int.emod_nonneg ((at' : Int) * 7) (show k ≠ 0 by omega)
      have r2 := Int.emod_lt_of_pos ((at' : Int) * 7) (show 0 < k by omega)
      exact ⟨_, rfl, r1, r2, by omega, HS.out, HG.out⟩
    · obtain ⟨q1, hq1⟩ : ∃ q, q = at' % n := ⟨_, rfl⟩
      obtain ⟨q2, hq2⟩ : ∃ q, q = (at' + 1) % n := ⟨_, rfl⟩
      obtain ⟨p, hp⟩ : ∃ p, p = at' / n := ⟨_, rfl⟩
      have q1n : q1 < n := by rw [hq1]; exact Nat.mod_lt _ (by omega)
      have q2n : q2 < n := by rw [hq2]; exact Nat.mod_lt _ (by omega)
      have hp' : p ≤ 1000 := by have := Nat.div_le_self at' n; omega
      rcases hd with hd | ⟨d, off, rfl, hdB, hc⟩
      · rw [hd] at hl; simp at hl; omega
      have x1 : (w.setCell ⟨b, 1, none⟩ (.int .i64 ((at' : Int) + 1))).cell? ⟨d, off + q1, none⟩ = some (.int .u8 (nth l q1 : Int)) := (hgr.cell_far ⟨d, off + q1, none⟩ (by simp; omega) (by simp; omega)).trans (hc q1 q1n)
      have x2 : (w.setCell ⟨b, 1, none⟩ (.int .i64 ((at' : Int) + 1))).cell? ⟨d, off + q2, none⟩ = some (.int .u8 (nth l q2 : Int)) := (hgr.cell_far ⟨d, off + q2, none⟩ (by simp; omega) (by simp; omega)).trans (hc q2 q2n)
      have b1 := nth_lt hB q1
      have b2 := nth_lt hB q2
      generalize nth l q1 = y1 at *
      generalize nth l q2 = y2 at *
      have e1 : (at' : Int) % (n : Int) = (q1 : Int) := by rw [hq1]; exact (Int.natCast_emod _ _).symm
      have e2 : ((at' : Int) + 1) % (n : Int) = (q2 : Int) := by rw [hq2, Int.natCast_emod]; rfl
      have e3 : (at' : Int) / (n : Int) = (p : Int) := by rw [hp]; exact (Int.natCast_ediv _ _).symm
      have i1 : (q1 : Int) < (n : Int) := by omega
      have i2 : (q2 : Int) < (n : Int) := by omega
      have n0 : ((n : Int) == 0) = false := beq_eq_false_iff_ne.2 (by omega)
      have HF : Hid (_) := hfin
      have HF2 : Hid (_) := hfin2
      clear hc hq1 hq2 hp hS hgr hfin hfin2
      by_cases hk2 : 200 < k
      · go_enter Tryz.func76, Tryz.ntmps76
        go_wp2
        go_quiet (fail)
        go_wp2
        go_quiet (fail)
        go_wp2
        go_ret
        have r1 := Int.emod_nonneg (((y1 : Int) + (p : Int) * 37) * 251 + (y2 : Int) * 13 + (at' : Int)) (show k ≠ 0 by omega)
        have r2 := Int.emod_lt_of_pos (((y1 : Int) + (p : Int) * 37) * 251 + (y2 : Int) * 13 + (at' : Int)) (show 0 < k by omega)
        exact ⟨_, rfl, r1, fun _ => r2, by omega, HF.out _, HF2.out _⟩
      · go_enter Tryz.func76, Tryz.ntmps76
        go_wp2
        go_quiet (fail)
        go_wp2
        go_ret
        have r1 := Int.emod_nonneg ((y1 : Int) + (p : Int) * 37) (show k ≠ 0 by omega)
        have r2 := Int.emod_lt_of_pos ((y1 : Int) + (p : Int) * 37) (show 0 < k by omega)
        exact ⟨_, rfl, r1, fun _ => r2, by omega, HF.out _, HF2.out _⟩
end Go.Proofs.YtkjnhcnbbojajaaGreatDoor

namespace Go.Proofs.YtkjnhcnbbojajaaGreatDoor
open Go.RowKit

set_option maxHeartbeats 800000 in
set_option maxRecDepth 100000 in
theorem l1Source_any (a : Option Addr) (n cap : Nat) (l : List Nat) (w : World) (hl : l.length = n) (hr : Rd w a l) (hB : IsB l) (hn : n ≤ 1048576) :
    Calls Tryz.prog 70 #[.slice a n cap] w fun e w' => e = .returned (.pointer (some ⟨w.heap.size, 0, none⟩)) ∧ Src w' w.heap.size w.heap.size 0 ∧ Below w.heap.size w w' := by
  have hb : Below w.heap.size w (w.alloc (.cells #[.slice a n cap, .int .i64 0] 139)) := (Below.refl _ _).alloc (Nat.le_refl _) _
  have hS : Src (w.alloc (.cells #[.slice a n cap, .int .i64 0] 139)) w.heap.size w.heap.size 0 := by
    refine ⟨Nat.le_refl _, by simp, a, n, cap, 0, l, by simp, by simp, by simp, hl, hn, hB, Nat.le_refl _, ?_⟩
    rcases hr with h | ⟨d, off, e, hlt, hc⟩
    · exact .inl h
    · exact .inr ⟨d, off, e, hlt, fun i hi => (hb.cell (p := ⟨d, off + i, none⟩) hlt).trans (hc i (by omega))⟩
  have HS : Hid (_) := hS
  clear hS
  go_enter Tryz.func70, Tryz.ntmps70
  go_wp2
  go_ret
  exact ⟨rfl, HS.out, hb⟩

set_option maxHeartbeats 800000 in
set_option maxRecDepth 100000 in
theorem l1Chance_any (B b M : Nat) (k : Int) (w : World) (hs : Src w B b M) (hM : M ≤ 1000) (h0 : 0 ≤ k) (hk : k ≤ 1000) :
    Calls Tryz.prog 134 #[.pointer (some ⟨b, 0, none⟩), .int .i64 k] w fun e w' =>
      ∃ q : Bool, e = .returned (.bool q) ∧ Src w' B b (M + 1) ∧ w.grownBy w' (some b) := by
  go_enter Tryz.func134, Tryz.ntmps134
  go_wp2_with fail
  refine (l1Next_any B b M k _ hs hM h0 hk).mono ?_
  rintro e w1 ⟨r, rfl, _, _, _, h1, h2⟩
  have H1 : Hid (_) := h1
  have H2 : Hid (_) := h2
  clear h1 h2
  by_cases hr : r = 0
  · have e0 : (r == 0) = true := beq_iff_eq.2 hr
    go_wp2
    go_ret
    exact Exists.intro true ⟨rfl, H1.out, H2.out⟩
  · have e0 : (r == 0) = false := beq_eq_false_iff_ne.2 hr
    go_wp2
    go_ret
    exact Exists.intro false ⟨rfl, H1.out, H2.out⟩

/-- A row of whole numbers in a block of its own. -/
def Nums (w : World) (g : Nat) (vs : List Int) : Prop := ∀ i, i < vs.length → w.cell? ⟨g, i, none⟩ = some (.int .i64 (vs.getD i 0))

set_option maxHeartbeats 800000 in
set_option maxRecDepth 100000 in
theorem l1Pick_any (B b M g m cap : Nat) (vs : List Int) (w : World) (hs : Src w B b M) (hM : M ≤ 1000) (hm : vs.length = m) (h1 : 1 ≤ m) (h6 : m ≤ 100) (hv : Nums w g vs) (hg : b < g) :
    Calls Tryz.prog 115 #[.pointer (some ⟨b, 0, none⟩), .slice (some ⟨g, 0, none⟩) m cap] w fun e w' =>
      ∃ r : Int, e = .returned (.int .i64 r) ∧ r ∈ vs ∧ Src w' B b (M + 1) ∧ w.grownBy w' (some b) := by
  go_enter Tryz.func115, Tryz.ntmps115
  go_wp2_with fail
  refine (l1Next_any B b M (m : Int) _ hs hM (by omega) (by omega)).mono ?_
  rintro e w1 ⟨r, rfl, r0, r1, _, h1', h2⟩
  obtain ⟨j, rfl⟩ := Int.eq_ofNat_of_zero_le r0
  have hjm : j < m := by have := r1 (by omega); omega
  have hjm' : (j : Int) < (m : Int) := by omega
  have hlt : g < w.heap.size := World.block_lt_of_cell? w _ (hv 0 (by omega))
  have hc : w1.cell? ⟨g, j, none⟩ = some (.int .i64 (vs.getD j 0)) := (h2.cell_far ⟨g, j, none⟩ hlt (by simp; omega)).trans (hv j (by omega))
  have hmem : vs.getD j 0 ∈ vs := by rw [List.getD_eq_getElem?_getD, List.getElem?_eq_getElem (by omega)]; exact List.getElem_mem _
  generalize vs.getD j 0 = x at *
  have H1 : Hid (_) := h1'
  have H2 : Hid (_) := h2
  have H3 : Hid (_) := hmem
  clear h1' h2 hmem hv r1
  go_wp2
  go_ret
  exact ⟨x, rfl, H3.out, H1.out, H2.out⟩

theorem nums_new {w : World} {cs : Array Value} {vs : List Int} {t : TypeId} (h : cs.toList = vs.map (Value.int .i64)) : Nums (w.alloc (.cells cs t)) w.heap.size vs := by
  intro i hi
  rw [World.cell?_alloc_mark, ← Array.getElem?_toList, h]
  simp [hi]

set_option maxHeartbeats 1600000 in
set_option maxRecDepth 100000 in
theorem l1Some_any (B b M n : Nat) (w : World) (hs : Src w B b M) (hM : M + 2 * n ≤ 900) (hn : n ≤ 100) :
    Calls Tryz.prog 150 #[.pointer (some ⟨b, 0, none⟩), .int .i64 (n : Int)] w fun e w' =>
      ∃ (v : Value) (out : List Nat), e = .returned v ∧ Own w' (b + 1) v out ∧ IsB out ∧ out.length = n ∧ Src w' B b (M + 2 * n) ∧ Below b w w' := by
  obtain ⟨hBb, hbw, _⟩ := id hs
  go_enter Tryz.func150, Tryz.ntmps150
  go_wp2
  have hown0 : Own (w.alloc (.cells #[] 5)) (b + 1) (.slice (some ⟨w.heap.size, 0, none⟩) 0 0) [] := Own.lit w _ (by omega) #[] [] rfl (by decide)
  have hbel0 : Below b w (w.alloc (.cells #[] 5)) := (Below.refl _ _).alloc (by omega) _
  have hs0 : Src (w.alloc (.cells #[] 5)) B b M := hs.below ((Below.refl _ _).alloc (by omega) _)
  go_loopw [1, 5] (fun j v wr => ∃ (i : Nat) (out : List Nat), i ≤ n ∧ j = .int .i64 ((n - i : Nat) : Int) ∧ Own wr (b + 1) v out ∧ IsB out ∧ out.length = i ∧ Src wr B b (M + 2 * i) ∧ Below b w wr)
    (fun j _ _ => (intOf j).toNat)
  case atStart => exact ⟨0, [], by omega, rfl, hown0, fun x hx => by simp at hx, rfl, hs0, hbel0⟩
  case round =>
    obtain ⟨i, out, hi, rfl, hown, hBo, hol, hsr, hbel⟩ := hrel
    clear hown0 hbel0 hs0 hs
    have hz := hbel.size
    by_cases hin : i < n
    · have hj : (0 : Int) < ((n - i : Nat) : Int) := by omega
      obtain ⟨_, hbr, _⟩ := id hsr
      go_wp2_with fail
      refine (l1Next_any B b (M + 2 * i) 256 _ hsr (by omega) (by omega) (by omega)).mono ?_
      rintro e w1 ⟨r, rfl, r0, r1, _, hs1, hg1⟩
      have ho1 := hown.keptG hg1 (by omega)
      have hb1 : Below b w w1 := hbel.trans ((Below.refl _ _).grown hg1 (by omega) (by intro k hk; simp at hk; omega))
      have hz1 := hg1.size
      have hs1' : Src (w1.alloc (.cells #[.int .i64 r, .int .i64 97, .int .i64 32, .int .i64 10, .int .i64 61, .int .i64 122] 2)) B b (M + 2 * i + 1) := hs1.below ((Below.refl _ _).alloc (by omega) _)
      have hr256 : r < 256 := r1 (by omega)
      go_wp2_with fail
      refine (l1Pick_any B b (M + 2 * i + 1) _ 6 6 [r, 97, 32, 10, 61, 122] _ hs1' (by omega) rfl (by omega) (by omega) (nums_new rfl) (by omega)).mono ?_
      rintro e w2 ⟨x, rfl, hx, hs2, hg2⟩
      have hx' : 0 ≤ x ∧ x < 256 := by
        simp only [List.mem_cons, List.not_mem_nil, or_false] at hx
        omega
      obtain ⟨y, rfl⟩ := Int.eq_ofNat_of_zero_le hx'.1
      have hy : y < 256 := by omega
      have ho2 := (ho1.alloc (.cells #[.int .i64 r, .int .i64 97, .int .i64 32, .int .i64 10, .int .i64 61, .int .i64 122] 2)).keptG hg2 (by omega)
      have hb2 : Below b w w2 := (hb1.alloc (by omega) _).trans ((Below.refl _ _).grown hg2 (by simp; omega) (by intro k hk; simp at hk; omega))
      have hz2 : w1.heap.size + 1 ≤ w2.heap.size := by have := hg2.size; simpa using this
      have HS2 : Hid (Src w2 B b (M + 2 * i + 1 + 1)) := hs2
      clear hs1 hs1' hg1 hg2 ho1 hx hsr hown hs2 r1
      go_wp2_with (at_builtin; refine wpList_app_new rfl _ _ rfl (b + 1) _ out rfl ho2 1 1 [y] rfl rfl rfl (by omega) (by omega) ?_; intro v' w3 hown' hb')
      have hs3 : Hid (Src w3 B b (M + 2 * (i + 1))) := Src.below (w := w2) HS2.out hb'
      go_wp2
      go_roundw
      case rel => exact ⟨i + 1, out ++ [y], by omega, by go_num, hown', fun z hz => by rcases List.mem_append.1 hz with h | h; exact hBo z h; simp at h; omega, by simp; omega, hs3.out, hb2.trans (hb'.mono (by omega))⟩
      case measure => simp [intOf]; omega
    · have hii : i = n := by omega
      have hj : ¬ (0 : Int) < ((n - i : Nat) : Int) := by omega
      subst hii
      go_wp2
      go_ret
      exact ⟨_, rfl, out, hown, hBo, hol, hsr, hbel⟩
end Go.Proofs.YtkjnhcnbbojajaaGreatDoor

namespace Go.Proofs.YtkjnhcnbbojajaaGreatDoor
open Go.RowKit

/-- How a draw of bytes ends: a plain word, so that no walk opens it. -/
def LongEnd (b C : Nat) (w : World) (e : Ending) (w' : World) : Prop := ∃ (v : Value) (out : List Nat), e = .returned v ∧ Own w' C v out ∧ IsB out ∧ out.length ≤ 401 ∧ Below b w w'
theorem longEnd {b C : Nat} {w w' : World} {v : Value} {out : List Nat} (h1 : Own w' C v out) (h2 : IsB out) (h3 : out.length ≤ 401) (h4 : Below b w w') : LongEnd b C w (.returned v) w' := ⟨v, out, rfl, h1, h2, h3, h4⟩

set_option maxHeartbeats 1600000 in
set_option maxRecDepth 100000 in
theorem l1Long_any (B b M : Nat) (w : World) (hs : Src w B b M) (hM : M ≤ 800) :
    Calls Tryz.prog 90 #[.pointer (some ⟨b, 0, none⟩)] w fun e w' => LongEnd b (b + 1) w e w' := by
  obtain ⟨i0, hi, hz0, hz1, hz2⟩ := info_parts infoB
  obtain ⟨hBb, hbw, _⟩ := id hs
  go_enter Tryz.func90, Tryz.ntmps90
  go_wp2_with fail
  refine (l1Chance_any B b M 30 _ hs (by omega) (by omega) (by omega)).mono ?_
  rintro e w1 ⟨q, rfl, hs1, hg1⟩
  have hb1 : Below b w w1 := (Below.refl _ _).grown hg1 (by omega) (by intro k hk; simp at hk; omega)
  have hzz := hg1.size
  cases q with
  | true =>
    have hs1' : Src (w1.alloc (.cells #[.int .i64 400, .int .i64 401] 2)) B b (M + 1) := hs1.below ((Below.refl _ _).alloc (by omega) _)
    go_wp2_with fail
    refine (l1Pick_any B b (M + 1) _ 2 2 [400, 401] _ hs1' (by omega) rfl (by omega) (by omega) (nums_new rfl) (by omega)).mono ?_
    rintro e w2 ⟨x, rfl, hx, _, hg2⟩
    have hx' : 400 ≤ x ∧ x ≤ 401 := by
      simp only [List.mem_cons, List.not_mem_nil, or_false] at hx
      omega
    obtain ⟨y, rfl⟩ := Int.eq_ofNat_of_zero_le (show 0 ≤ x by omega)
    have hb2 : Below b w w2 := (hb1.alloc (by omega) _).trans ((Below.refl _ _).grown hg2 (by simp; omega) (by intro k hk; simp at hk; omega))
    have hz2' : w1.heap.size + 1 ≤ w2.heap.size := by have := hg2.size; simpa using this
    clear hx hs1 hs1' hg1 hg2 hs
    go_wp2_with (at_make; refine wpList_make_full _ rfl _ _ 22 rfl (b + 1) 5 i0 (.int .u8 0) 1 Tryz.underlying22 hi hz0 hz1 .i64 .i64 _ _ y rfl rfl rfl rfl (by rw [hz2]; omega) (by unfold maxLen; omega) (by omega) ?_; intro w3 hown3 hgrow3)
    rw [made_bytes] at hown3
    have ho : Own w3 (b + 1) (.slice (some ⟨w2.heap.size, 0, none⟩) y y) (List.replicate y 0) := by unfold Own; rw [List.length_replicate]; exact hown3
    have hb3 : Below b w w3 := hb2.grown hgrow3 (by omega) (by intro k hk; cases hk)
    go_ret
    exact longEnd ho (fun z hz => by rw [List.mem_replicate] at hz; omega) (by rw [List.length_replicate]; omega) hb3
  | false =>
    go_wp2_with fail
    refine (l1Next_any B b (M + 1) 14 _ hs1 (by omega) (by omega) (by omega)).mono ?_
    rintro e w2 ⟨r, rfl, r0, r1, _, hs2, hg2⟩
    obtain ⟨y, rfl⟩ := Int.eq_ofNat_of_zero_le r0
    have hy : y < 14 := by have := r1 (by omega); omega
    have hb2 : Below b w w2 := hb1.trans ((Below.refl _ _).grown hg2 (by omega) (by intro k hk; simp at hk; omega))
    clear hs hs1 hg1 hg2 r1
    go_wp2_with fail
    refine (l1Some_any B b (M + 1 + 1) y _ hs2 (by omega) (by omega)).mono ?_
    rintro e w3 ⟨v, out, rfl, ho, hBo, hol, _, hb3⟩
    go_wp2
    go_ret
    exact longEnd ho hBo (by omega) (hb2.trans hb3)

theorem lwBig_any (a : Option Addr) (n cap : Nat) (w : World) :
    Calls Tryz.prog 16 #[.slice a n cap] w fun e w' => e = .returned (.bool (decide ((1048576 : Int) < (n : Int)))) ∧ w = w' := by
  go_enter Tryz.func16, Tryz.ntmps16
  go_wp2
  go_ret
  exact ⟨rfl, rfl⟩

set_option maxHeartbeats 800000 in
set_option maxRecDepth 100000 in
theorem lwSame_any (a c : Option Addr) (n cap cap' : Nat) (l : List Nat) (w : World) (hl : l.length = n) (hr : Rd w a l) (hs : Rd w c l) :
    Calls Tryz.prog 43 #[.slice a n cap, .slice c n cap'] w fun e w' => e = .returned (.bool true) ∧ w = w' := by
  have h1 := fun x => run_str (cap := x) hl hr
  have h2 := fun x => run_str (cap := x) hl hs
  go_enter Tryz.func43, Tryz.ntmps43
  go_wp2
  go_ret
  exact ⟨rfl, rfl⟩
end Go.Proofs.YtkjnhcnbbojajaaGreatDoor
