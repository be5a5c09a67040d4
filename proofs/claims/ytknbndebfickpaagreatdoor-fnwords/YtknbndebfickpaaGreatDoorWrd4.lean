/- A told word at a place, the model's: by a plain function. -/
import Derived.Test.YtknbndebfickpaaGreatDoorWrd4a
namespace Go.Proofs.YtknbndebfickpaaGreatDoor
open Go.RowKit

set_option maxHeartbeats 4000000 in
set_option maxRecDepth 100000 in
theorem l4Word_any (t : List Nat) (n i : Nat) (w : World) (hl : t.length = n) (hB : IsB t) (hn : n ≤ 1048576) (hi : i ≤ n) :
    Calls Tryz.prog 37 #[.string (str t), .int .i64 (i : Int)] w fun e w' => WdEnd (wdV (t.drop i)) w e w' := by
  have hsz : (str t).size = n := by rw [str_size, hl]
  have HL : Hid (t.length = n) := hl
  have HF : Hid (wdF (t.drop i) ↔ nth t i = 61 ∧ nth t (i + 1) = 63 ∧ nth t (i + (wdA (t.drop i) + 2)) = 63 ∧ nth t (i + (wdZ (t.drop i) + 1)) = 61) := wdF_at t i
  have HNo : Hid (¬ wdF (t.drop i) → wdV (t.drop i) = none) := wdV_form
  by_cases h1 : i + 1 < n
  · have h1' : ¬ (n : Int) ≤ (i : Int) + 1 := by omega
    have h1i : (i : Int) + 1 < (n : Int) := by omega
    have hi0 : (i : Int) < (n : Int) := by omega
    have g0 := str_get hB (i := i) (by rw [hsz]; omega)
    have g1 := str_get hB (i := i + 1) (by rw [hsz]; omega)
    by_cases h61 : nth t i = 61
    · by_cases h63 : nth t (i + 1) = 63
      · rw [h61] at g0
        rw [h63] at g1
        have HM1 : Hid (mkV t (i + 2) = if i + wdA (t.drop i) < n then ((i + wdA (t.drop i) : Nat) : Int) else -1) := by
          show _ = _
          rw [mk_at, HL.out]; rfl
        have HM2 : Hid (mkV t (i + (wdA (t.drop i) + 3)) = if i + wdZ (t.drop i) < n then ((i + wdZ (t.drop i) : Nat) : Int) else -1) := by
          show _ = _
          rw [mk_at, HL.out]; rfl
        have ha2 : 2 ≤ wdA (t.drop i) := Nat.le_add_right _ _
        have hz3 : wdA (t.drop i) + 3 ≤ wdZ (t.drop i) := Nat.le_add_right _ _
        have HP1 : Hid ((str t).extract (i + 2) (i + wdA (t.drop i)) = str (((t.drop i).take (wdA (t.drop i))).drop 2)) := by
          show _ = _
          rw [str_piece, piece_drop]
        have HP3 : Hid ((str t).extract (i + (wdA (t.drop i) + 3)) (i + wdZ (t.drop i)) = str (((t.drop i).take (wdZ (t.drop i))).drop (wdA (t.drop i) + 3))) := by
          show _ = _
          rw [str_piece, piece_drop]
        have HC0 : Hid (wdC (t.drop i) = csI (str ((((t.drop i).take (wdA (t.drop i))).drop 2).map low))) := rfl
        have HB0 : Hid (wdB (t.drop i) = toldV (nth t (i + (wdA (t.drop i) + 1))) (((t.drop i).take (wdZ (t.drop i))).drop (wdA (t.drop i) + 3))) := by
          show _ = _
          unfold wdB; rw [nth_drop]
        have HV1 : Hid (wdC (t.drop i) = 0 → wdV (t.drop i) = none) := wdV_cs
        have HV2 : Hid (wdB (t.drop i) = none → wdV (t.drop i) = none) := wdV_by
        have HV3 : Hid (∀ bs, wdF (t.drop i) → wdC (t.drop i) ≠ 0 → wdB (t.drop i) = some bs → wdV (t.drop i) = (decL (wdC (t.drop i)) bs).map fun u => (u, wdZ (t.drop i) + 2)) := fun bs => wdV_dec
        have hBp1 : IsB (((t.drop i).take (wdA (t.drop i))).drop 2) := isB_drop (isB_take (isB_drop hB _) _) _
        have hBp3 : IsB (((t.drop i).take (wdZ (t.drop i))).drop (wdA (t.drop i) + 3)) := isB_drop (isB_take (isB_drop hB _) _) _
        have hlp1 : (((t.drop i).take (wdA (t.drop i))).drop 2).length ≤ n := by rw [List.length_drop, List.length_take, List.length_drop]; have := HL.out; omega
        have hlp3 : (((t.drop i).take (wdZ (t.drop i))).drop (wdA (t.drop i) + 3)).length ≤ n := by rw [List.length_drop, List.length_take, List.length_drop]; have := HL.out; omega
        generalize wdC (t.drop i) = cs at *
        generalize wdB (t.drop i) = ob at *
        generalize ((t.drop i).take (wdA (t.drop i))).drop 2 = p1 at *
        generalize ((t.drop i).take (wdZ (t.drop i))).drop (wdA (t.drop i) + 3) = p3 at *
        generalize hfd : wdF (t.drop i) = F at *
        clear hfd
        generalize wdV (t.drop i) = rv at *
        generalize wdA (t.drop i) = a at *
        generalize wdZ (t.drop i) = z at *
        obtain ⟨ia, hia⟩ : ∃ ia, i + a = ia := ⟨_, rfl⟩
        obtain ⟨iz, hiz⟩ : ∃ iz, i + z = iz := ⟨_, rfl⟩
        rw [show i + (a + 2) = ia + 2 by omega, show i + (z + 1) = iz + 1 by omega] at HF
        rw [show i + (a + 1) = ia + 1 by omega] at HB0
        rw [hia] at HM1 HP1
        rw [show i + (a + 3) = ia + 3 by omega, hiz] at HM2 HP3
        have ha2' : i + 2 ≤ ia := by omega
        have hz3' : ia + 3 ≤ iz := by omega
        have HZ : Hid (iz = i + z) := hiz.symm
        clear ha2 hz3 hia hiz
        have HK1 := fun w => l4Mark_any t n (i + 2) w HL.out hB hn (by omega)
        rw [HM1.out] at HK1
        have e2 : (((i + 2 : Nat)) : Int) = (i : Int) + 2 := by omega
        rw [e2] at HK1
        have hnF : ∀ k c, c ≠ 0 → n ≤ k → nth t k ≠ c := fun k c hc hk h => by
          have := nth_lt_len (l := t) (k := k) (by rw [h]; exact hc)
          have := HL.out
          omega
        by_cases q1 : ia < n
        · rw [if_pos q1] at HK1
          have q1' : ¬ (ia : Int) < 0 := by omega
          by_cases q2 : ia + 2 < n
          · have q2' : ¬ (n : Int) ≤ (ia : Int) + 2 := by omega
            have q2i : (ia : Int) + 2 < (n : Int) := by omega
            have g2 := str_get hB (i := ia + 2) (by rw [hsz]; omega)
            by_cases h632 : nth t (ia + 2) = 63
            · rw [h632] at g2
              have HK2 := fun w => l4Mark_any t n (ia + 3) w HL.out hB hn (by omega)
              rw [HM2.out] at HK2
              have e3 : ((ia + 3 : Nat) : Int) = (ia : Int) + 3 := by omega
              rw [e3] at HK2
              by_cases q3 : iz < n
              · rw [if_pos q3] at HK2
                have q3' : ¬ (iz : Int) < 0 := by omega
                by_cases q4 : iz + 1 < n
                · have q4' : ¬ (n : Int) ≤ (iz : Int) + 1 := by omega
                  have q4i : (iz : Int) + 1 < (n : Int) := by omega
                  have g3 := str_get hB (i := iz + 1) (by rw [hsz]; omega)
                  by_cases h613 : nth t (iz + 1) = 61
                  · rw [h613] at g3
                    have hFt : F := HF.out.2 ⟨h61, h63, h632, h613⟩
                    have HR : Hid (rv = resY cs ob z) := by
                      show _ = _
                      unfold resY
                      by_cases hc0 : cs = 0
                      · rw [if_pos hc0]; exact HV1.out hc0
                      · rw [if_neg hc0]
                        cases hob : ob with
                        | none => exact HV2.out hob
                        | some bs => exact HV3.out bs hFt hc0 hob
                    rw [HR.out, HC0.out, HB0.out]
                    exact l4Word_yes t n i ia iz z p1 p3 w HL.out hB hn g0 g1 h632 h613 (HM1.out.trans (if_pos q1)) (HM2.out.trans (if_pos q3)) ha2' hz3' q4 HZ.out HP1.out HP3.out hBp1 hBp3 hlp1 hlp3
                  · have HM : Hid (rv = none) := HNo.out (fun hf => h613 ((HF.out.1 hf).2.2.2))
                    have b3 : ((nth t (iz + 1) : Int) == 61) = false := beq_eq_false_iff_ne.2 (by omega)
                    have b3' : ¬ (nth t (iz + 1) : Int) = 61 := by omega
                    have b3n : ((nth t (iz + 1) : Int) != 61) = true := by rw [bne_iff_ne]; omega
                    generalize nth t (iz + 1) = x3 at *
                    clear HM1 HM2 HP1 HP3 HNo HF hnF HV1 HV2 HV3 HC0 HB0
                    go_enter Tryz.func37, Tryz.ntmps37
                    go_wp2_with fail
                    refine (HK1 _).mono ?_
                    rintro e u1 ⟨rfl, rfl⟩
                    go_wp2_with fail
                    refine (HK2 _).mono ?_
                    rintro e u1 ⟨rfl, rfl⟩
                    go_wp2
                    go_ret2
                    exact .no (Below.refl _ _) HM.out
                · have HM : Hid (rv = none) := HNo.out (fun hf => hnF _ 61 (by decide) (by omega) (HF.out.1 hf).2.2.2)
                  have q4' : (n : Int) ≤ (iz : Int) + 1 := by omega
                  clear HM1 HM2 HP1 HP3 HNo HF hnF HV1 HV2 HV3 HC0 HB0
                  go_enter Tryz.func37, Tryz.ntmps37
                  go_wp2_with fail
                  refine (HK1 _).mono ?_
                  rintro e u1 ⟨rfl, rfl⟩
                  go_wp2_with fail
                  refine (HK2 _).mono ?_
                  rintro e u1 ⟨rfl, rfl⟩
                  go_wp2
                  go_ret2
                  exact .no (Below.refl _ _) HM.out
              · rw [if_neg q3] at HK2
                have HM : Hid (rv = none) := HNo.out (fun hf => hnF _ 61 (by decide) (by omega) (HF.out.1 hf).2.2.2)
                clear HM1 HM2 HP1 HP3 HNo HF hnF HV1 HV2 HV3 HC0 HB0
                go_enter Tryz.func37, Tryz.ntmps37
                go_wp2_with fail
                refine (HK1 _).mono ?_
                rintro e u1 ⟨rfl, rfl⟩
                go_wp2_with fail
                refine (HK2 _).mono ?_
                rintro e u1 ⟨rfl, rfl⟩
                go_wp2
                go_ret2
                exact .no (Below.refl _ _) HM.out
            · have HM : Hid (rv = none) := HNo.out (fun hf => h632 ((HF.out.1 hf).2.2.1))
              have b2 : ((nth t (ia + 2) : Int) == 63) = false := beq_eq_false_iff_ne.2 (by omega)
              have b2' : ¬ (nth t (ia + 2) : Int) = 63 := by omega
              have b2n : ((nth t (ia + 2) : Int) != 63) = true := by rw [bne_iff_ne]; omega
              generalize nth t (ia + 2) = x2 at *
              clear HM1 HM2 HP1 HP3 HNo HF hnF HV1 HV2 HV3 HC0 HB0
              go_enter Tryz.func37, Tryz.ntmps37
              go_wp2_with fail
              refine (HK1 _).mono ?_
              rintro e u1 ⟨rfl, rfl⟩
              go_wp2
              go_ret2
              exact .no (Below.refl _ _) HM.out
          · have HM : Hid (rv = none) := HNo.out (fun hf => hnF _ 63 (by decide) (by omega) (HF.out.1 hf).2.2.1)
            have q2' : (n : Int) ≤ (ia : Int) + 2 := by omega
            clear HM1 HM2 HP1 HP3 HNo HF hnF HV1 HV2 HV3 HC0 HB0
            go_enter Tryz.func37, Tryz.ntmps37
            go_wp2_with fail
            refine (HK1 _).mono ?_
            rintro e u1 ⟨rfl, rfl⟩
            go_wp2
            go_ret2
            exact .no (Below.refl _ _) HM.out
        · rw [if_neg q1] at HK1
          have HM : Hid (rv = none) := HNo.out (fun hf => hnF _ 63 (by decide) (by omega) (HF.out.1 hf).2.2.1)
          clear HM1 HM2 HP1 HP3 HNo HF hnF HV1 HV2 HV3 HC0 HB0
          go_enter Tryz.func37, Tryz.ntmps37
          go_wp2_with fail
          refine (HK1 _).mono ?_
          rintro e u1 ⟨rfl, rfl⟩
          go_wp2
          go_ret2
          exact .no (Below.refl _ _) HM.out
      · have HM : Hid (wdV (t.drop i) = none) := HNo.out (fun hf => h63 (HF.out.1 hf).2.1)
        have b1 : ((nth t (i + 1) : Int) == 63) = false := beq_eq_false_iff_ne.2 (by omega)
        rw [h61] at g0
        generalize wdV (t.drop i) = rv at *
        generalize nth t (i + 1) = x1 at *
        clear HNo HF
        go_enter Tryz.func37, Tryz.ntmps37
        go_wp2
        go_ret2
        exact .no (Below.refl _ _) HM.out
    · have HM : Hid (wdV (t.drop i) = none) := HNo.out (fun hf => h61 (HF.out.1 hf).1)
      have b1 : ((nth t i : Int) == 61) = false := beq_eq_false_iff_ne.2 (by omega)
      generalize wdV (t.drop i) = rv at *
      generalize nth t i = x0 at *
      clear HNo HF g1
      go_enter Tryz.func37, Tryz.ntmps37
      go_wp2
      go_ret2
      exact .no (Below.refl _ _) HM.out
  · have h1' : (n : Int) ≤ (i : Int) + 1 := by omega
    have HM : Hid (wdV (t.drop i) = none) := HNo.out (fun hf => by
      have := nth_lt_len (l := t) (k := i + 1) (by rw [(HF.out.1 hf).2.1]; decide)
      have := HL.out
      omega)
    generalize wdV (t.drop i) = rv at *
    clear HNo HF
    go_enter Tryz.func37, Tryz.ntmps37
    go_wp2
    go_ret2
    exact .no (Below.refl _ _) HM.out
end Go.Proofs.YtknbndebfickpaaGreatDoor
