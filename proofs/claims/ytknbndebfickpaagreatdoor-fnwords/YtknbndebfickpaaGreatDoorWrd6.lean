/- DecodeWords, the model's, at every text: by a plain function. -/
import Derived.Test.YtknbndebfickpaaGreatDoorWrd5
namespace Go.Proofs.YtknbndebfickpaaGreatDoor
open Go.RowKit

/-- What DecodeWords answers. -/
def dwV (t : List Nat) : Int × List Int := if 400 < t.length then (2, []) else (0, wdsM wdV cuV t.length false t)
theorem dwV_many {t : List Nat} (h : 400 < t.length) : dwV t = (2, []) := if_pos h
theorem dwV_ok {t : List Nat} (h : ¬ 400 < t.length) : dwV t = (0, wdsM wdV cuV t.length false t) := if_neg h
theorem words_few (t : List Nat) (hB : IsB t) (f : Nat) (b : Bool) : (wdsM wdV cuV f b t).length ≤ t.length := by
  suffices h : ∀ (f : Nat) (b : Bool) (v : List Nat), IsB v → (wdsM wdV cuV f b v).length ≤ v.length from h f b t hB
  intro f
  induction f with
  | zero => intro b v _; exact Nat.zero_le _
  | succ f ih =>
    intro b v hBv
    by_cases hv : v.length = 0
    · rw [wdsM_nil hv]; exact Nat.zero_le _
    · have hBs : IsB (skp wdV b v) := by
        unfold skp
        split
        · exact isB_drop hBv _
        · exact hBv
      have hs : (skp wdV b v).length ≤ v.length := by
        unfold skp
        split
        · rw [List.length_drop]; omega
        · exact Nat.le_refl _
      cases hw : wdV (skp wdV b v) with
      | some r =>
        have h1 := wdV_len hw hBs
        have h2 := ih true ((skp wdV b v).drop r.2) (isB_drop hBs _)
        rw [List.length_drop] at h2
        rw [wdsM_word hv hw, List.length_append]; omega
      | none =>
        have h0 : 0 < (skp wdV b v).length := by
          by_cases hc : b = true ∧ 0 < runL gapB v 0 ∧ (wdV (v.drop (runL gapB v 0))).isSome = true
          · rw [skp_yes hc] at hw
            rw [hw] at hc
            cases hc.2.2
          · rw [skp_no hc]; omega
        have h2 := ih false ((skp wdV b v).drop (cuV (skp wdV b v)).2) (isB_drop hBs _)
        have h3 := cuV_pos (skp wdV b v)
        rw [List.length_drop] at h2
        rw [wdsM_char hv hw, List.length_cons]; omega

set_option maxHeartbeats 1600000 in
set_option maxRecDepth 100000 in
theorem specDecodeWords_any (t : List Nat) (n : Nat) (w : World) (hl : t.length = n) (hB : IsB t) (hn : n ≤ 1048576) :
    Calls Tryz.prog 7 #[.string (str t)] w fun e w' => CodEnd (dwV t) w e w' := by
  have hsz : (str t).size = n := by rw [str_size, hl]
  by_cases h4 : 400 < n
  · have h4' : (400 : Int) < (n : Int) := by omega
    have HM : Hid (dwV t = (2, [])) := dwV_many (by omega)
    go_enter Tryz.func7, Tryz.ntmps7
    go_wp2
    go_returns
    rw [HM.out]
    exact ⟨_, rfl, OwnI.nil _ _, by go_grown⟩
  · have h4' : ¬ (400 : Int) < (n : Int) := by omega
    have hb0 : Below w.heap.size w (w.alloc (.cells #[.int .i64 0, .slice none 0 0] 27)) := (Below.refl _ _).alloc (Nat.le_refl _) _
    have hsW : (w.alloc (.cells #[.int .i64 0, .slice none 0 0] 27)).heap.size = w.heap.size + 1 := by simp
    have HO := fun w => l4Words_any t n w hl hB hn
    have HM : Hid (dwV t = (0, wdsM wdV cuV n false t)) := by
      show _ = _
      rw [dwV_ok (by omega), hl]
    have hle := words_few t hB n false
    rw [hl] at hle
    generalize wdsM wdV cuV n false t = u at *
    have hu : ¬ (400 : Int) < (u.length : Int) := by omega
    go_enter Tryz.func7, Tryz.ntmps7
    go_wp2_with fail
    refine (HO _).mono ?_
    rintro e w1 ⟨v, rfl, hown, hb1⟩
    have hbl : Below (w.heap.size + 1) (w.alloc (.cells #[.int .i64 0, .slice none 0 0] 27)) w1 := hb1.mono (by simp)
    rw [hsW] at hown
    clear hb1 HO
    generalize hW : w.alloc (.cells #[.int .i64 0, .slice none 0 0] 27) = W at *
    have hbw := hb0.trans (hbl.mono (by omega))
    obtain ⟨hcw, hcw1, hfw, hfw1⟩ := res_block hW hbl
    obtain ⟨ao, oc, rfl, -, -⟩ := hown.form
    obtain ⟨hk0, hk1⟩ := res_cells hcw hcw1 (.int .i64 0) (.slice ao u.length oc)
    go_wp2
    refine bodyPost_ret (v := .agg #[.int .i64 0, .slice ao u.length oc]) (by simp [results, Tryz.results7, go_sem, hk0, hk1]) rfl ?_
    rw [HM.out]
    exact CodEnd.some hbw hown _ _
end Go.Proofs.YtknbndebfickpaaGreatDoor
