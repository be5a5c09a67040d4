/- The beginning of a text, the model's: l6Short. -/
import Derived.Test.YtkjnhcnbbojajaaGreatDoorSht
namespace Go.Proofs.YtkjnhcnbbojajaaGreatDoor
open Go.RowKit

theorem OwnI.cellLast {w : World} {B g n cap : Nat} {l : List Int} (h : OwnI w B (.slice (some ⟨g, 0, none⟩) n cap) l) {k : Nat} (hk : k < l.length) : w.cell? ⟨g, k, none⟩ = some (.int .i64 (nthI l k)) := by
  obtain ⟨b, off, e, -, hc⟩ := (OwnI.rd h).2.at_ (by omega)
  cases e
  have := hc k hk
  rw [Nat.zero_add] at this
  exact this

set_option maxHeartbeats 3200000 in
set_option maxRecDepth 100000 in
theorem l6Short_any (a : Option Addr) (n cap : Nat) (l : List Int) (w : World) (hl : l.length = n) (hr : RdI w a l) (hn : n ≤ 1048576) :
    Calls Tryz.prog 119 #[.slice a n cap] w fun e w' => ∃ v, e = .returned v ∧ OwnI w' w.heap.size v (shV l) ∧ Below w.heap.size w w' := by
  have hown0 : OwnI (w.alloc (.cells #[] 2)) w.heap.size (.slice (some ⟨w.heap.size, 0, none⟩) 0 0) [] := OwnI.lit w _ (Nat.le_refl _) #[] [] rfl (by decide)
  go_enter Tryz.func119, Tryz.ntmps119
  go_wp2
  go_loopw [3, 4, 5] (fun v q i wr => ∃ (k : Nat) (acc : List Int) (b : Bool), k ≤ n ∧ i = .int .i64 k ∧ q = .bool b ∧ OwnI wr w.heap.size v acc ∧ acc.length ≤ 20 ∧ Hid (shV l = shM (l.drop k) acc) ∧ Below w.heap.size w wr) (fun _ _ i _ => n - (intOf i).toNat)
  case atStart => exact ⟨0, [], false, Nat.zero_le _, rfl, rfl, hown0, by simp, shV_M l, (Below.refl _ _).alloc (Nat.le_refl _) _⟩
  case round =>
    obtain ⟨k, acc, b, hk, rfl, rfl, hown, hacc, HV, hbel⟩ := hrel
    clear hown0
    obtain ⟨av, cv, hv, -, -⟩ := hown.form
    obtain ⟨A, hA⟩ : ∃ A, acc.length = A := ⟨_, rfl⟩
    rw [hA] at hv
    subst hv
    have hz := hbel.size
    by_cases hkn : k < n
    · obtain ⟨g, off, rfl, hglt, hcell⟩ := hr.at_ (by omega)
      have hc : wr.cell? ⟨g, off + k, none⟩ = some (.int .i64 (nthI l k)) := (hbel.cell (p := ⟨g, off + k, none⟩) hglt).trans (hcell k (by omega))
      have hki : (k : Int) < (n : Int) := by omega
      have hdc : l.drop k = nthI l k :: l.drop (k + 1) := drop_consI l k (by omega)
      have HV2 : Hid (shV l = if 20 ≤ acc.length then acc else if nthI l k ≤ 32 then shM (l.drop (k + 1)) (if 0 < acc.length ∧ nthI acc (acc.length - 1) ≠ 32 then acc ++ [32] else acc) else shM (l.drop (k + 1)) (acc ++ [nthI l k])) := by
        show _ = _
        rw [HV.out, hdc]; rfl
      clear HV hdc hcell
      generalize nthI l k = c at *
      by_cases h20 : 20 ≤ A
      · have HM : Hid (shV l = acc) := by show _ = _; rw [HV2.out, if_pos (by omega)]
        have h20' : ¬ (A : Int) < 20 := by omega
        clear HV2
        go_wp2
        go_ret
        exact ⟨_, rfl, by rw [HM.out]; exact hown, hbel⟩
      · have h20' : (A : Int) < 20 := by omega
        by_cases hc32 : c ≤ 32
        · by_cases hA0 : A = 0
          · have HM : Hid (shV l = shM (l.drop (k + 1)) acc) := by show _ = _; rw [HV2.out, if_neg (by omega), if_pos hc32, if_neg (fun h => by omega)]
            have hA0' : ¬ (0 : Int) < (A : Int) := by omega
            clear HV2
            go_wp2
            go_roundw
            case rel => exact ⟨k + 1, acc, _, by omega, by go_num, rfl, hown, hacc, HM.out, hbel⟩
            case measure => simp [intOf]; omega
          · have hA0' : (0 : Int) < (A : Int) := by omega
            obtain ⟨ga, hga⟩ : ∃ ga, av = some ⟨ga, 0, none⟩ := by
              rcases hown.2 with ⟨h', h1⟩ | ⟨g', cap', cur, h', _⟩
              · omega
              · simp at h'; exact ⟨g', h'.1⟩
            subst hga
            obtain ⟨A1, hA1⟩ : ∃ A1, A = A1 + 1 := ⟨A - 1, by omega⟩
            have hlast : wr.cell? ⟨ga, A1, none⟩ = some (.int .i64 (nthI acc A1)) := hown.cellLast (by omega)
            have HN : Hid (nthI acc (acc.length - 1) = nthI acc A1) := by show _ = _; congr 1; omega
            subst hA1
            have hi1 : ((A1 + 1 : Nat) : Int) - 1 = (A1 : Int) := by omega
            by_cases hx : nthI acc A1 = 32
            · have HM : Hid (shV l = shM (l.drop (k + 1)) acc) := by show _ = _; rw [HV2.out, if_neg (by omega), if_pos hc32, if_neg (fun h => h.2 (HN.out.trans hx))]
              rw [hx] at hlast
              clear HV2 HN
              go_wp2
              go_roundw
              case rel => exact ⟨k + 1, acc, _, by omega, by go_num, rfl, hown, hacc, HM.out, hbel⟩
              case measure => simp [intOf]; omega
            · have HM : Hid (shV l = shM (l.drop (k + 1)) (acc ++ [32])) := by show _ = _; rw [HV2.out, if_neg (by omega), if_pos hc32, if_pos ⟨by omega, by rw [HN.out]; exact hx⟩]
              have hx' : (nthI acc A1 != 32) = true := by simpa using hx
              clear HV2 HN
              generalize nthI acc A1 = xl at *
              go_wp2_with (at_builtin; refine wpList_app_newI rfl _ _ rfl w.heap.size _ acc rfl hown 1 1 [32] rfl rfl rfl (by omega) hz ?_; intro v' w1 hown' hb')
              have hb2 := hbel.trans hb'
              go_wp2
              go_roundw
              case rel => exact ⟨k + 1, acc ++ [32], _, by omega, by go_num, rfl, hown', by simp; omega, HM.out, hb2⟩
              case measure => simp [intOf]; omega
        · have HM : Hid (shV l = shM (l.drop (k + 1)) (acc ++ [c])) := by show _ = _; rw [HV2.out, if_neg (by omega), if_neg hc32]
          clear HV2
          go_wp2_with (at_builtin; refine wpList_app_newI rfl _ _ rfl w.heap.size _ acc rfl hown 1 1 [c] rfl rfl rfl (by omega) hz ?_; intro v' w1 hown' hb')
          have hb2 := hbel.trans hb'
          go_roundw
          case rel => exact ⟨k + 1, acc ++ [c], _, by omega, by go_num, rfl, hown', by simp; omega, HM.out, hb2⟩
          case measure => simp [intOf]; omega
    · have hki : ¬ (k : Int) < (n : Int) := by omega
      have HM : Hid (shV l = acc) := by show _ = _; rw [HV.out, List.drop_of_length_le (by omega)]; rfl
      clear HV
      go_wp2
      go_ret
      exact ⟨_, rfl, by rw [HM.out]; exact hown, hbel⟩
end Go.Proofs.YtkjnhcnbbojajaaGreatDoor
