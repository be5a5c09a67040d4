/- The beginning of a text, with one blank for all that is white: both sides, by plain functions. -/
import Derived.Test.YtkjnhcnbbojajaaGreatDoorMemToMrk0
import Derived.Test.YtkjnhcnbbojajaaGreatDoorMemFToOpnF
namespace Go.Proofs.YtkjnhcnbbojajaaGreatDoor
open Go.RowKit

/-- The program's way. -/
def shP : List Int → List Int → Bool → List Int
  | [], acc, _ => acc
  | c :: r, acc, b => if acc.length = 20 then acc else if 32 < c then shP r (acc ++ [c]) true else shP r (if b then acc ++ [32] else acc) false
/-- The model's way. -/
def shM : List Int → List Int → List Int
  | [], acc => acc
  | c :: r, acc => if 20 ≤ acc.length then acc else if c ≤ 32 then shM r (if 0 < acc.length ∧ nthI acc (acc.length - 1) ≠ 32 then acc ++ [32] else acc) else shM r (acc ++ [c])
def shV (l : List Int) : List Int := shP l [] false
theorem nthI_last (a : List Int) (x : Int) : nthI (a ++ [x]) ((a ++ [x]).length - 1) = x := by
  unfold nthI
  rw [List.getD_eq_getElem?_getD, List.length_append, List.length_singleton, Nat.add_sub_cancel, List.getElem?_append_right (Nat.le_refl _), Nat.sub_self]; rfl
theorem sh_same : ∀ (r acc : List Int) (b : Bool), acc.length ≤ 20 → (b = true → 0 < acc.length ∧ 32 < nthI acc (acc.length - 1)) → (b = false → 0 < acc.length → nthI acc (acc.length - 1) = 32) → shP r acc b = shM r acc
  | [], _, _, _, _, _ => rfl
  | c :: r, acc, b, hl, h1, h2 => by
    simp only [shP, shM]
    by_cases h20 : acc.length = 20
    · rw [if_pos h20, if_pos (by omega)]
    · rw [if_neg h20, if_neg (show ¬ 20 ≤ acc.length by omega)]
      by_cases hc : 32 < c
      · rw [if_pos hc, if_neg (show ¬ c ≤ 32 by omega)]
        exact sh_same r (acc ++ [c]) true (by simp; omega) (fun _ => ⟨by simp, by rw [nthI_last]; exact hc⟩) (fun h => by cases h)
      · rw [if_neg hc, if_pos (show c ≤ 32 by omega)]
        cases b with
        | true =>
          obtain ⟨k1, k2⟩ := h1 rfl
          rw [if_pos rfl, if_pos ⟨k1, by omega⟩]
          exact sh_same r (acc ++ [32]) false (by simp; omega) (fun h => by cases h) (fun _ _ => nthI_last _ _)
        | false =>
          have e : ¬ (0 < acc.length ∧ nthI acc (acc.length - 1) ≠ 32) := fun h => h.2 (h2 rfl h.1)
          rw [if_neg (by simp), if_neg e]
          exact sh_same r acc false hl (fun h => by cases h) (fun h h' => h2 h h')
theorem shV_M (l : List Int) : shV l = shM l [] := sh_same l [] false (by simp) (fun h => by cases h) (fun _ h => by simp at h)
theorem shP_len : ∀ (r acc : List Int) (b : Bool), acc.length ≤ 20 → (shP r acc b).length ≤ 20
  | [], _, _, h => h
  | c :: r, acc, b, h => by
    simp only [shP]
    split
    · exact h
    · split
      · exact shP_len r _ _ (by simp; omega)
      · refine shP_len r _ _ ?_
        split
        · simp; omega
        · exact h
theorem shV_len (l : List Int) : (shV l).length ≤ 20 := shP_len l [] false (by simp)

set_option maxHeartbeats 1600000 in
set_option maxRecDepth 100000 in
theorem firstOf_any (a : Option Addr) (n cap : Nat) (l : List Int) (w : World) (hl : l.length = n) (hr : RdI w a l) (hn : n ≤ 1048576) :
    Calls Tryz.prog 173 #[.slice a n cap] w fun e w' => ∃ v, e = .returned v ∧ OwnI w' w.heap.size v (shV l) ∧ Below w.heap.size w w' := by
  go_enter Tryz.func173, Tryz.ntmps173
  go_wp2
  go_loopw [3, 4, 9] (fun v q i wr => ∃ (k : Nat) (acc : List Int) (b : Bool), k ≤ n ∧ i = .int .i64 k ∧ q = .bool b ∧ OwnI wr w.heap.size v acc ∧ acc.length ≤ 20 ∧ Hid (shV l = shP (l.drop k) acc b) ∧ Below w.heap.size w wr) (fun _ _ i _ => n - (intOf i).toNat)
  case atStart => exact ⟨0, [], false, Nat.zero_le _, rfl, rfl, OwnI.nil _ _, by simp, rfl, Below.refl _ _⟩
  case round =>
    obtain ⟨k, acc, b, hk, rfl, rfl, hown, hacc, HV, hbel⟩ := hrel
    obtain ⟨av, cv, hv, -, -⟩ := hown.form
    obtain ⟨A, hA⟩ : ∃ A, acc.length = A := ⟨_, rfl⟩
    by_cases hkn : k < n
    · obtain ⟨g, off, rfl, hglt, hcell⟩ := hr.at_ (by omega)
      have hc : wr.cell? ⟨g, off + k, none⟩ = some (.int .i64 (nthI l k)) := (hbel.cell (p := ⟨g, off + k, none⟩) hglt).trans (hcell k (by omega))
      have hki : (k : Int) < (n : Int) := by omega
      have hdc : l.drop k = nthI l k :: l.drop (k + 1) := drop_consI l k (by omega)
      have HV2 : Hid (shV l = if acc.length = 20 then acc else if 32 < nthI l k then shP (l.drop (k + 1)) (acc ++ [nthI l k]) true else shP (l.drop (k + 1)) (if b then acc ++ [32] else acc) false) := by
        show _ = _
        rw [HV.out, hdc]; rfl
      clear HV hdc hcell
      generalize nthI l k = c at *
      have hz := hbel.size
      by_cases h20 : acc.length = 20
      · have HM : Hid (shV l = acc) := by show _ = _; rw [HV2.out, if_pos h20]
        rw [h20] at hv
        subst hv
        clear HV2
        go_wp2
        go_ret
        exact ⟨_, rfl, by rw [HM.out]; exact hown, hbel⟩
      · have h20' : ((A : Int) == 20) = false := by simp; omega
        rw [hA] at hv
        subst hv
        by_cases hc32 : 32 < c
        · have HM : Hid (shV l = shP (l.drop (k + 1)) (acc ++ [c]) true) := by show _ = _; rw [HV2.out, if_neg h20, if_pos hc32]
          clear HV2
          go_wp2_with (at_builtin; refine wpList_app_newI rfl _ _ rfl w.heap.size _ acc rfl hown 1 1 [c] rfl rfl rfl (by omega) hz ?_; intro v' w1 hown' hb')
          have hb2 := hbel.trans hb'
          go_wp2
          go_roundw
          case rel => exact ⟨k + 1, acc ++ [c], true, by omega, by go_num, by simp, hown', by simp; omega, HM.out, hb2⟩
          case measure => simp [intOf]; omega
        · cases b with
          | true =>
            have HM : Hid (shV l = shP (l.drop (k + 1)) (acc ++ [32]) false) := by show _ = _; rw [HV2.out, if_neg h20, if_neg hc32, if_pos rfl]
            clear HV2
            go_wp2_with (at_builtin; refine wpList_app_newI rfl _ _ rfl w.heap.size _ acc rfl hown 1 1 [32] rfl rfl rfl (by omega) hz ?_; intro v' w1 hown' hb')
            have hb2 := hbel.trans hb'
            go_wp2
            go_roundw
            case rel => exact ⟨k + 1, acc ++ [32], false, by omega, by go_num, by simp, hown', by simp; omega, HM.out, hb2⟩
            case measure => simp [intOf]; omega
          | false =>
            have HM : Hid (shV l = shP (l.drop (k + 1)) acc false) := by show _ = _; rw [HV2.out, if_neg h20, if_neg hc32, if_neg (by simp)]
            clear HV2
            go_wp2
            go_roundw
            case rel => exact ⟨k + 1, acc, false, by omega, by go_num, by simp, hown, hacc, HM.out, hbel⟩
            case measure => simp [intOf]; omega
    · have hki : ¬ (k : Int) < (n : Int) := by omega
      have HM : Hid (shV l = acc) := by show _ = _; rw [HV.out, List.drop_of_length_le (by omega)]; rfl
      rw [hA] at hv
      subst hv
      clear HV
      go_wp2
      go_ret
      exact ⟨_, rfl, by rw [HM.out]; exact hown, hbel⟩
end Go.Proofs.YtkjnhcnbbojajaaGreatDoor
