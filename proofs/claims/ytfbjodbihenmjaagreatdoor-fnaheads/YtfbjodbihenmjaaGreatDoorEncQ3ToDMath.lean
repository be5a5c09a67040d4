/- The model's EncodeQuoted: of at most 400 bytes it answers their quoted text, of more the code 2; and so does the program's of more · DecodeQuoted, the model's, at every text: the bytes of its quoted text, or a code; texts of whatever length · Plain facts on groups of four base letters, with no program in them; letters are bytes. -/
import Derived.Test.YtfbjodbihenmjaaGreatDoorDecQToEncQ2
import Derived.Test.YtfbjodbihenmjaaGreatDoorMath
namespace Go.Proofs.YtfbjodbihenmjaaGreatDoor
open Go.RowKit

/-- A byte of the list, held against what the model asks of it. -/
theorem selfL_at {l : List Nat} {k : Nat} : nth (l.drop k) 0 = nth l k ∧ nth (l.drop k) 1 = nth l (k + 1) := by
  rw [nth_drop, nth_drop]; exact ⟨rfl, rfl⟩

theorem quoted_cases (l : List Nat) (k n x : Nat) (hl : l.length = n) (hk : k < n) (hx : nth l k = x) :
    (selfL (l.drop k) = true ∧ (x = 10 ∨ ((x = 32 ∨ x = 9) ∧ k + 1 < n ∧ nth l (k + 1) ≠ 10) ∨ (33 ≤ x ∧ x ≤ 126 ∧ x ≠ 61))) ∨
    (selfL (l.drop k) = false ∧ (((x = 32 ∨ x = 9) ∧ k + 1 < n ∧ nth l (k + 1) = 10) ∨ ((x = 32 ∨ x = 9) ∧ ¬ k + 1 < n) ∨ (x ≠ 10 ∧ x ≠ 32 ∧ x ≠ 9 ∧ x < 33) ∨ 126 < x ∨ x = 61)) := by
  obtain ⟨e0, e1⟩ := selfL_at (l := l) (k := k)
  have hlen : (l.drop k).length = n - k := by simp [hl]
  by_cases h10 : x = 10
  · exact .inl ⟨selfL_lf (by omega), .inl h10⟩
  · by_cases hb : x = 32 ∨ x = 9
    · by_cases hn : k + 1 < n
      · by_cases hc : nth l (k + 1) = 10
        · exact .inr ⟨selfL_bl_no (by omega) (by rw [e1]; omega), .inl ⟨hb, hn, hc⟩⟩
        · exact .inl ⟨selfL_bl (by omega) (by omega) (by rw [e1]; exact hc), .inr (.inl ⟨hb, hn, hc⟩)⟩
      · exact .inr ⟨selfL_bl_no (by omega) (by omega), .inr (.inl ⟨hb, hn⟩)⟩
    · have hs := selfL_other (l := l.drop k) (by omega) (by omega)
      rw [e0, hx] at hs
      by_cases h : 33 ≤ x ∧ x ≤ 126 ∧ x ≠ 61
      · exact .inl ⟨hs.trans (decide_eq_true h), .inr (.inr h)⟩
      · exact .inr ⟨hs.trans (decide_eq_false h), by omega⟩

set_option maxHeartbeats 4000000 in
set_option maxRecDepth 100000 in
theorem l1Quoted_any (a : Option Addr) (n cap : Nat) (l : List Nat) (w : World) (hl : l.length = n) (hr : Rd w a l) (hB : IsB l) (hn : n ≤ 1048576) :
    Calls Tryz.prog 58 #[.slice a n cap] w fun e w' => e = .returned (.string (str (Xq.quo l))) ∧ Below w.heap.size w w' := by
  go_enter Tryz.func58, Tryz.ntmps58
  go_wp2
  have hown0 : Own (w.alloc (.cells #[] 5)) w.heap.size (.slice (some ⟨w.heap.size, 0, none⟩) 0 0) [] := Own.lit w _ (Nat.le_refl _) #[] [] rfl (by decide)
  have hbel0 : Below w.heap.size w (w.alloc (.cells #[] 5)) := (Below.refl _ _).alloc (Nat.le_refl _) _
  go_loopw [3, 4] (fun v i wr => ∃ (k : Nat) (out : List Nat), k ≤ n ∧ i = .int .i64 k ∧ Own wr w.heap.size v out ∧ Below w.heap.size w wr ∧ Hid (Xq.quo l = out ++ Xq.quo (l.drop k)) ∧ out.length ≤ 3 * k)
    (fun _ i _ => n - (intOf i).toNat)
  case atStart => exact ⟨0, [], Nat.zero_le _, rfl, hown0, hbel0, rfl, Nat.le_refl _⟩
  case round =>
    obtain ⟨k, out, hk, rfl, hown, hbel, hq, hol⟩ := hrel
    clear hown0 hbel0
    by_cases hkn : k < n
    · obtain ⟨b, off, rfl, hblt, hcell⟩ := hr.at_ (by omega)
      have hc : wr.cell? ⟨b, off + k, none⟩ = some (.int .u8 (nth l k : Int)) := (hbel.cell (p := ⟨b, off + k, none⟩) hblt).trans (hcell k (by omega))
      have hc1 : k + 1 < n → wr.cell? ⟨b, off + (k + 1), none⟩ = some (.int .u8 (nth l (k + 1) : Int)) := fun h => (hbel.cell (p := ⟨b, off + (k + 1), none⟩) hblt).trans (hcell (k + 1) (by omega))
      have hz := hbel.size
      have hx := nth_lt hB k
      clear hcell hr
      obtain ⟨x, hxv⟩ : ∃ x, nth l k = x := ⟨_, rfl⟩
      rw [hxv] at hc hx
      rcases quoted_cases l k n x hl hkn hxv with ⟨hs, hcase⟩ | ⟨hs, hcase⟩
      · have hq' : Hid (Xq.quo l = (out ++ [x]) ++ Xq.quo (l.drop (k + 1))) := by
          show _ = _
          rw [hq.out, quo_step_self (by omega) hs, hxv]; simp
        have HX : Hid (nth l k = x) := hxv
        clear hs hq hxv
        rcases hcase with rfl | ⟨rfl | rfl, hn1, hne⟩ | ⟨h33, h126, h61⟩
        · clear hc1
          go_wp2_with (at_builtin; refine wpList_app_new rfl _ _ rfl (w.heap.size) _ out rfl hown 1 1 [10] rfl rfl rfl (by omega) hz ?_; intro v' w2 hown' hb')
          go_wp2
          go_roundw
          case rel => exact ⟨k + 1, out ++ [10], by omega, by go_num, hown', hbel.trans hb', hq', by simp; omega⟩
          case measure => simp [intOf]; omega
        · have hc1' := hc1 hn1
          have ec : (((nth l (k + 1) : Nat) : Int) == 10) = false := beq_eq_false_iff_ne.2 (by omega)
          have hn1' : (k : Int) + 1 < (n : Int) := by omega
          clear hc1
          go_wp2_with (at_builtin; refine wpList_app_new rfl _ _ rfl (w.heap.size) _ out rfl hown 1 1 [32] rfl rfl rfl (by omega) hz ?_; intro v' w2 hown' hb')
          go_wp2
          go_roundw
          case rel => exact ⟨k + 1, out ++ [32], by omega, by go_num, hown', hbel.trans hb', hq', by simp; omega⟩
          case measure => simp [intOf]; omega
        · have hc1' := hc1 hn1
          have ec : (((nth l (k + 1) : Nat) : Int) == 10) = false := beq_eq_false_iff_ne.2 (by omega)
          have hn1' : (k : Int) + 1 < (n : Int) := by omega
          clear hc1
          go_wp2_with (at_builtin; refine wpList_app_new rfl _ _ rfl (w.heap.size) _ out rfl hown 1 1 [9] rfl rfl rfl (by omega) hz ?_; intro v' w2 hown' hb')
          go_wp2
          go_roundw
          case rel => exact ⟨k + 1, out ++ [9], by omega, by go_num, hown', hbel.trans hb', hq', by simp; omega⟩
          case measure => simp [intOf]; omega
        · have e32 : ((x : Int) == 32) = false := beq_eq_false_iff_ne.2 (by omega)
          have e9 : ((x : Int) == 9) = false := beq_eq_false_iff_ne.2 (by omega)
          have e61 : ((x : Int) == 61) = false := beq_eq_false_iff_ne.2 (by omega)
          have h33' : (33 : Int) ≤ (x : Int) := by omega
          have h126' : (x : Int) ≤ 126 := by omega
          clear hc1
          go_wp2_with (at_builtin; refine wpList_app_new rfl _ _ rfl (w.heap.size) _ out rfl hown 1 1 [x] rfl rfl rfl (by omega) hz ?_; intro v' w2 hown' hb')
          go_wp2
          go_roundw
          case rel => exact ⟨k + 1, out ++ [x], by omega, by go_num, hown', hbel.trans hb', hq', by simp; omega⟩
          case measure => simp [intOf]; omega
      · obtain ⟨hi, hhi⟩ : ∃ hi, hi = x / 16 := ⟨_, rfl⟩
        obtain ⟨lo, hlo⟩ : ∃ lo, lo = x % 16 := ⟨_, rfl⟩
        have hq' : Hid (Xq.quo l = (out ++ [61, Xq.hex hi, Xq.hex lo]) ++ Xq.quo (l.drop (k + 1))) := by
          show _ = _
          rw [hq.out, quo_step_hex (by omega) hs, hxv, hhi, hlo]; simp
        have hi16 : hi < 16 := by omega
        have lo16 : lo < 16 := by omega
        have e1 : (x : Int) / 16 = (hi : Int) := by omega
        have e2 : (x : Int) % 16 = (lo : Int) := by omega
        clear hs hq hxv hhi hlo
        rcases hcase with ⟨h32 | h9, hn1, hc10⟩ | ⟨h32 | h9, hn1⟩ | ⟨h10, h32, h9, h33⟩ | h126 | h61
        · have e32 : ((x : Int) == 32) = true := beq_iff_eq.2 (by omega)
          have hc1' := hc1 hn1
          have ec : (((nth l (k + 1) : Nat) : Int) == 10) = true := beq_iff_eq.2 (by omega)
          have hn1' : (k : Int) + 1 < (n : Int) := by omega
          clear hc1
          have h33' : ¬ (33 : Int) ≤ (x : Int) := by omega
          have e10 : ((x : Int) == 10) = false := beq_eq_false_iff_ne.2 (by omega)
          clear h32 hc10
          go_wp2_with fail
          refine (l1Hex_any hi hi16 _).mono ?_
          rintro e w1 ⟨rfl, rfl⟩
          go_wp2_with fail
          refine (l1Hex_any lo lo16 _).mono ?_
          rintro e w2 ⟨rfl, rfl⟩
          go_wp2_with (at_builtin; refine wpList_app_new rfl _ _ rfl (w.heap.size) _ out rfl hown 3 3 [61, Xq.hex hi, Xq.hex lo] rfl rfl rfl (by omega) hz ?_; intro v' w3 hown' hb')
          go_wp2
          go_roundw
          case rel => exact ⟨k + 1, out ++ [61, Xq.hex hi, Xq.hex lo], by omega, by go_num, hown', hbel.trans hb', hq', by simp; omega⟩
          case measure => simp [intOf]; omega
        · have e32 : ((x : Int) == 32) = false := beq_eq_false_iff_ne.2 (by omega)
          have e9 : ((x : Int) == 9) = true := beq_iff_eq.2 (by omega)
          have hc1' := hc1 hn1
          have ec : (((nth l (k + 1) : Nat) : Int) == 10) = true := beq_iff_eq.2 (by omega)
          have hn1' : (k : Int) + 1 < (n : Int) := by omega
          clear hc1
          have h33' : ¬ (33 : Int) ≤ (x : Int) := by omega
          have e10 : ((x : Int) == 10) = false := beq_eq_false_iff_ne.2 (by omega)
          clear h9 hc10
          go_wp2_with fail
          refine (l1Hex_any hi hi16 _).mono ?_
          rintro e w1 ⟨rfl, rfl⟩
          go_wp2_with fail
          refine (l1Hex_any lo lo16 _).mono ?_
          rintro e w2 ⟨rfl, rfl⟩
          go_wp2_with (at_builtin; refine wpList_app_new rfl _ _ rfl (w.heap.size) _ out rfl hown 3 3 [61, Xq.hex hi, Xq.hex lo] rfl rfl rfl (by omega) hz ?_; intro v' w3 hown' hb')
          go_wp2
          go_roundw
          case rel => exact ⟨k + 1, out ++ [61, Xq.hex hi, Xq.hex lo], by omega, by go_num, hown', hbel.trans hb', hq', by simp; omega⟩
          case measure => simp [intOf]; omega
        · have e32 : ((x : Int) == 32) = true := beq_iff_eq.2 (by omega)
          have hn1' : ¬ (k : Int) + 1 < (n : Int) := by omega
          clear hc1
          have h33' : ¬ (33 : Int) ≤ (x : Int) := by omega
          have e10 : ((x : Int) == 10) = false := beq_eq_false_iff_ne.2 (by omega)
          clear h32
          go_wp2_with fail
          refine (l1Hex_any hi hi16 _).mono ?_
          rintro e w1 ⟨rfl, rfl⟩
          go_wp2_with fail
          refine (l1Hex_any lo lo16 _).mono ?_
          rintro e w2 ⟨rfl, rfl⟩
          go_wp2_with (at_builtin; refine wpList_app_new rfl _ _ rfl (w.heap.size) _ out rfl hown 3 3 [61, Xq.hex hi, Xq.hex lo] rfl rfl rfl (by omega) hz ?_; intro v' w3 hown' hb')
          go_wp2
          go_roundw
          case rel => exact ⟨k + 1, out ++ [61, Xq.hex hi, Xq.hex lo], by omega, by go_num, hown', hbel.trans hb', hq', by simp; omega⟩
          case measure => simp [intOf]; omega
        · have e32 : ((x : Int) == 32) = false := beq_eq_false_iff_ne.2 (by omega)
          have e9 : ((x : Int) == 9) = true := beq_iff_eq.2 (by omega)
          have hn1' : ¬ (k : Int) + 1 < (n : Int) := by omega
          clear hc1
          have h33' : ¬ (33 : Int) ≤ (x : Int) := by omega
          have e10 : ((x : Int) == 10) = false := beq_eq_false_iff_ne.2 (by omega)
          clear h9
          go_wp2_with fail
          refine (l1Hex_any hi hi16 _).mono ?_
          rintro e w1 ⟨rfl, rfl⟩
          go_wp2_with fail
          refine (l1Hex_any lo lo16 _).mono ?_
          rintro e w2 ⟨rfl, rfl⟩
          go_wp2_with (at_builtin; refine wpList_app_new rfl _ _ rfl (w.heap.size) _ out rfl hown 3 3 [61, Xq.hex hi, Xq.hex lo] rfl rfl rfl (by omega) hz ?_; intro v' w3 hown' hb')
          go_wp2
          go_roundw
          case rel => exact ⟨k + 1, out ++ [61, Xq.hex hi, Xq.hex lo], by omega, by go_num, hown', hbel.trans hb', hq', by simp; omega⟩
          case measure => simp [intOf]; omega
        · have e32 : ((x : Int) == 32) = false := beq_eq_false_iff_ne.2 (by omega)
          have e9 : ((x : Int) == 9) = false := beq_eq_false_iff_ne.2 (by omega)
          have h33' : ¬ (33 : Int) ≤ (x : Int) := by omega
          have e10 : ((x : Int) == 10) = false := beq_eq_false_iff_ne.2 (by omega)
          clear hc1
          go_wp2_with fail
          refine (l1Hex_any hi hi16 _).mono ?_
          rintro e w1 ⟨rfl, rfl⟩
          go_wp2_with fail
          refine (l1Hex_any lo lo16 _).mono ?_
          rintro e w2 ⟨rfl, rfl⟩
          go_wp2_with (at_builtin; refine wpList_app_new rfl _ _ rfl (w.heap.size) _ out rfl hown 3 3 [61, Xq.hex hi, Xq.hex lo] rfl rfl rfl (by omega) hz ?_; intro v' w3 hown' hb')
          go_wp2
          go_roundw
          case rel => exact ⟨k + 1, out ++ [61, Xq.hex hi, Xq.hex lo], by omega, by go_num, hown', hbel.trans hb', hq', by simp; omega⟩
          case measure => simp [intOf]; omega
        · have e32 : ((x : Int) == 32) = false := beq_eq_false_iff_ne.2 (by omega)
          have e9 : ((x : Int) == 9) = false := beq_eq_false_iff_ne.2 (by omega)
          have h33' : (33 : Int) ≤ (x : Int) := by omega
          have h126' : ¬ (x : Int) ≤ 126 := by omega
          have e10 : ((x : Int) == 10) = false := beq_eq_false_iff_ne.2 (by omega)
          clear hc1
          go_wp2_with fail
          refine (l1Hex_any hi hi16 _).mono ?_
          rintro e w1 ⟨rfl, rfl⟩
          go_wp2_with fail
          refine (l1Hex_any lo lo16 _).mono ?_
          rintro e w2 ⟨rfl, rfl⟩
          go_wp2_with (at_builtin; refine wpList_app_new rfl _ _ rfl (w.heap.size) _ out rfl hown 3 3 [61, Xq.hex hi, Xq.hex lo] rfl rfl rfl (by omega) hz ?_; intro v' w3 hown' hb')
          go_wp2
          go_roundw
          case rel => exact ⟨k + 1, out ++ [61, Xq.hex hi, Xq.hex lo], by omega, by go_num, hown', hbel.trans hb', hq', by simp; omega⟩
          case measure => simp [intOf]; omega
        · have e32 : ((x : Int) == 32) = false := beq_eq_false_iff_ne.2 (by omega)
          have e9 : ((x : Int) == 9) = false := beq_eq_false_iff_ne.2 (by omega)
          have h33' : (33 : Int) ≤ (x : Int) := by omega
          have h126' : (x : Int) ≤ 126 := by omega
          have e61 : ((x : Int) != 61) = false := by rw [bne_eq_false_iff_eq]; omega
          have e10 : ((x : Int) == 10) = false := beq_eq_false_iff_ne.2 (by omega)
          clear hc1 h61
          go_wp2_with fail
          refine (l1Hex_any hi hi16 _).mono ?_
          rintro e w1 ⟨rfl, rfl⟩
          go_wp2_with fail
          refine (l1Hex_any lo lo16 _).mono ?_
          rintro e w2 ⟨rfl, rfl⟩
          go_wp2_with (at_builtin; refine wpList_app_new rfl _ _ rfl (w.heap.size) _ out rfl hown 3 3 [61, Xq.hex hi, Xq.hex lo] rfl rfl rfl (by omega) hz ?_; intro v' w3 hown' hb')
          go_wp2
          go_roundw
          case rel => exact ⟨k + 1, out ++ [61, Xq.hex hi, Xq.hex lo], by omega, by go_num, hown', hbel.trans hb', hq', by simp; omega⟩
          case measure => simp [intOf]; omega
    · have hkk : k = n := by omega
      subst hkk
      have hq' : Hid (Xq.quo l = out) := by
        show _ = _
        rw [hq.out, ← hl, List.drop_length]; simp [Xq.quo]
      obtain ⟨ao, ocap, rfl, hoc⟩ := hown.form
      have hconv := fun c => run_str (cap := c) rfl (Own.rd hown).2
      go_wp2
      go_ret
      exact ⟨by rw [hq'.out]; rfl, hbel⟩

end Go.Proofs.YtfbjodbihenmjaaGreatDoor

namespace Go.Proofs.YtfbjodbihenmjaaGreatDoor
open Go.RowKit

/-- The value of a digit, or -1. -/
def hexI (c : Nat) : Int := if Xq.unhex c < 16 then (Xq.unhex c : Int) else -1
theorem hexI_in {c : Nat} (h : Xq.unhex c < 16) : hexI c = (Xq.unhex c : Int) := if_pos h
theorem hexI_out {c : Nat} (h : ¬ Xq.unhex c < 16) : hexI c = -1 := if_neg h

set_option maxHeartbeats 800000 in
set_option maxRecDepth 100000 in
theorem l1HexValue_any (c : Nat) (w : World) (hc : c < 256) : Calls Tryz.prog 153 #[.int .u8 (c : Int)] w fun e w' => e = .returned (.int .i64 (hexI c)) ∧ w = w' := by
  by_cases h1 : 48 ≤ c
  · have h1' : (48 : Int) ≤ (c : Int) := by omega
    by_cases h2 : c ≤ 57
    · have h2' : (c : Int) ≤ 57 := by omega
      have hu : Xq.unhex c = c - 48 := by unfold Xq.unhex; rw [if_pos ⟨h1, h2⟩]
      have H : Hid (hexI c = (c : Int) - 48) := by
        show _ = _
        rw [hexI_in (by omega), hu]; omega
      clear hu
      go_enter Tryz.func153, Tryz.ntmps153
      go_wp2
      go_ret
      exact ⟨by rw [H.out]; rfl, rfl⟩
    · have h2' : ¬ (c : Int) ≤ 57 := by omega
      by_cases h3 : 65 ≤ c
      · have h3' : (65 : Int) ≤ (c : Int) := by omega
        by_cases h4 : c ≤ 70
        · have h4' : (c : Int) ≤ 70 := by omega
          have hu : Xq.unhex c = c - 55 := by unfold Xq.unhex; rw [if_neg (by omega), if_pos ⟨h3, h4⟩]
          have H : Hid (hexI c = (c : Int) - 65 + 10) := by
            show _ = _
            rw [hexI_in (by omega), hu]; omega
          clear hu
          go_enter Tryz.func153, Tryz.ntmps153
          go_wp2
          go_ret
          exact ⟨by rw [H.out]; rfl, rfl⟩
        · have h4' : ¬ (c : Int) ≤ 70 := by omega
          have H : Hid (hexI c = -1) := hexI_out (by unfold Xq.unhex; rw [if_neg (by omega), if_neg (by omega)]; omega)
          go_enter Tryz.func153, Tryz.ntmps153
          go_wp2
          go_ret
          exact ⟨by rw [H.out]; rfl, rfl⟩
      · have h3' : ¬ (65 : Int) ≤ (c : Int) := by omega
        have H : Hid (hexI c = -1) := hexI_out (by unfold Xq.unhex; rw [if_neg (by omega), if_neg (by omega)]; omega)
        go_enter Tryz.func153, Tryz.ntmps153
        go_wp2
        go_ret
        exact ⟨by rw [H.out]; rfl, rfl⟩
  · have h1' : ¬ (48 : Int) ≤ (c : Int) := by omega
    have h3' : ¬ (65 : Int) ≤ (c : Int) := by omega
    have H : Hid (hexI c = -1) := hexI_out (by unfold Xq.unhex; rw [if_neg (by omega), if_neg (by omega)]; omega)
    go_enter Tryz.func153, Tryz.ntmps153
    go_wp2
    go_ret
    exact ⟨by rw [H.out]; rfl, rfl⟩

/-- May a blank stand at a place of a text? -/
def blk (t : List Nat) (i : Nat) : Bool := decide ((nth t i = 32 ∨ nth t i = 9) ∧ i + 1 < t.length ∧ nth t (i + 1) ≠ 10)

end Go.Proofs.YtfbjodbihenmjaaGreatDoor

namespace Go.Proofs.YtfbjodbihenmjaaGreatDoor
namespace Xf

/-- The bits of the first k letters of a group of which n are told. -/
def acc (n : Nat) (g : List Nat) : Nat → Nat
  | 0 => 0
  | k + 1 => acc n g k * 64 + at_ n k (nth g k)
/-- The first k letters are digits, or are not told. -/
def okTo (n : Nat) (g : List Nat) (k : Nat) : Prop := ∀ i, i < k → at_ n i (nth g i) < 64
theorem acc_lt {n : Nat} {g : List Nat} : ∀ {k : Nat}, okTo n g k → acc n g k < 64 ^ k
  | 0, _ => by simp [acc]
  | k + 1, h => by
    have ih := acc_lt (k := k) (fun i hi => h i (by omega))
    have h1 := h k (by omega)
    rw [acc, Nat.pow_succ]
    omega
theorem acc_lt4 {n : Nat} {g : List Nat} {k : Nat} (hk : k ≤ 4) (h : okTo n g k) : acc n g k < 16777216 := by
  have h1 := acc_lt h
  have h2 : (64 : Nat) ^ k ≤ 64 ^ 4 := Nat.pow_le_pow_right (by decide) hk
  have h3 : (64 : Nat) ^ 4 = 16777216 := by decide
  omega
theorem acc_lt3 {n : Nat} {g : List Nat} {k : Nat} (hk : k < 4) (h : okTo n g k) : acc n g k < 262144 := by
  have h1 := acc_lt h
  have h2 : (64 : Nat) ^ k ≤ 64 ^ 3 := Nat.pow_le_pow_right (by decide) (by omega)
  have h3 : (64 : Nat) ^ 3 = 262144 := by decide
  omega
theorem acc_four (n x0 x1 x2 x3 : Nat) : acc n [x0, x1, x2, x3] 4 = bitsOf n x0 x1 x2 x3 := by
  simp only [acc, bitsOf, nth, List.getD_cons_zero, List.getD_cons_succ]
  generalize at_ n 0 x0 = p0
  generalize at_ n 1 x1 = p1
  generalize at_ n 2 x2 = p2
  generalize at_ n 3 x3 = p3
  omega
theorem good_iff (n x0 x1 x2 x3 : Nat) : good n x0 x1 x2 x3 = true ↔ okTo n [x0, x1, x2, x3] 4 := by
  constructor
  · intro h i hi
    simp only [good, Bool.and_eq_true, decide_eq_true_eq] at h
    match i, hi with
    | 0, _ => simpa [nth] using h.1.1.1
    | 1, _ => simpa [nth] using h.1.1.2
    | 2, _ => simpa [nth] using h.1.2
    | 3, _ => simpa [nth] using h.2
  · intro h
    have h0 := h 0 (by decide)
    have h1 := h 1 (by decide)
    have h2 := h 2 (by decide)
    have h3 := h 3 (by decide)
    simp only [good, Bool.and_eq_true, decide_eq_true_eq]
    simp only [nth, List.getD_cons_zero, List.getD_cons_succ] at h0 h1 h2 h3
    exact ⟨⟨⟨h0, h1⟩, h2⟩, h3⟩
theorem good_bad {n x0 x1 x2 x3 i : Nat} (hi : i < 4) (h : ¬ at_ n i (nth [x0, x1, x2, x3] i) < 64) : good n x0 x1 x2 x3 = false := by
  cases hg : good n x0 x1 x2 x3 with
  | false => rfl
  | true => exact absurd ((good_iff n x0 x1 x2 x3).1 hg i hi) h

/-- Where the fill begins. -/
theorem cnt_spec (x0 x1 x2 x3 : Nat) : cnt x0 x1 x2 x3 ≤ 4 ∧ (∀ i, cnt x0 x1 x2 x3 ≤ i → i < 4 → nth [x0, x1, x2, x3] i = 61) ∧ (0 < cnt x0 x1 x2 x3 → nth [x0, x1, x2, x3] (cnt x0 x1 x2 x3 - 1) ≠ 61) := by
  unfold cnt
  by_cases h3 : x3 = 61
  · by_cases h2 : x2 = 61
    · by_cases h1 : x1 = 61
      · by_cases h0 : x0 = 61
        · subst h0 h1 h2 h3
          refine ⟨by decide, fun i _ hi => ?_, by decide⟩
          match i, hi with
          | 0, _ => rfl
          | 1, _ => rfl
          | 2, _ => rfl
          | 3, _ => rfl
        · subst h1 h2 h3
          simp only [ne_eq, not_true, if_false, h0, not_false_eq_true, if_true]
          refine ⟨by decide, fun i h hi => ?_, fun _ => by simpa [nth] using h0⟩
          match i, h, hi with
          | 1, _, _ => rfl
          | 2, _, _ => rfl
          | 3, _, _ => rfl
      · subst h2 h3
        simp only [ne_eq, not_true, if_false, h1, not_false_eq_true, if_true]
        refine ⟨by decide, fun i h hi => ?_, fun _ => by simpa [nth] using h1⟩
        match i, h, hi with
        | 2, _, _ => rfl
        | 3, _, _ => rfl
    · subst h3
      simp only [ne_eq, not_true, if_false, h2, not_false_eq_true, if_true]
      refine ⟨by decide, fun i h hi => ?_, fun _ => by simpa [nth] using h2⟩
      match i, h, hi with
      | 3, _, _ => rfl
  · simp only [ne_eq, h3, not_false_eq_true, if_true]
    exact ⟨by decide, fun i h hi => by omega, fun _ => by simpa [nth] using h3⟩

/-- The first c bytes of 24 bits, as the program takes them off. -/
def bts : Nat → Nat → List Nat
  | _, 0 => []
  | b, c + 1 => b / 65536 % 256 :: bts (b * 256 % 4294967296) c
theorem bts_len : ∀ (b c : Nat), (bts b c).length = c
  | _, 0 => rfl
  | b, c + 1 => by rw [bts, List.length_cons, bts_len]
theorem bs1 (b : Nat) (_h : b < 16777216) : b * 256 % 4294967296 / 65536 % 256 = b / 256 % 256 := by omega
theorem bs2 (b : Nat) (_h : b < 16777216) : b * 256 % 4294967296 * 256 % 4294967296 / 65536 % 256 = b % 256 := by omega
theorem bs0 (b : Nat) (_h : b < 16777216) : b / 65536 % 256 = b / 65536 := by omega
theorem bts_three (b c : Nat) (h : b < 16777216) (hc : c ≤ 3) : bts b c = three b c := by
  rcases (show c = 0 ∨ c = 1 ∨ c = 2 ∨ c = 3 by omega) with rfl | rfl | rfl | rfl
  · simp [bts, three]
  · simp only [bts, three, bs0 b h]; rfl
  · simp only [bts, three, bs0 b h, bs1 b h]; rfl
  · simp only [bts, three, bs0 b h, bs1 b h, bs2 b h]; rfl
theorem three_len (v m : Nat) (h : m ≤ 3) : (three v m).length = m := by simp [three]; omega

/-- What is left of the bits behind the bytes that are told, by a shift. -/
theorem left_shift (b n : Nat) (_hb : b < 16777216) (h2 : 2 ≤ n) (h4 : n ≤ 4) : b * 2 ^ min (8 + 8 * (n - 1)) 32 % 4294967296 = 0 ↔ left b (n - 1) = 0 := by
  rcases (show n = 2 ∨ n = 3 ∨ n = 4 by omega) with rfl | rfl | rfl
  · have : min (8 + 8 * (2 - 1)) 32 = 16 := by decide
    rw [this]; simp [left]; omega
  · have : min (8 + 8 * (3 - 1)) 32 = 24 := by decide
    rw [this]; simp [left]; omega
  · have : min (8 + 8 * (4 - 1)) 32 = 32 := by decide
    rw [this]; simp [left]

theorem dec_group {t : List Nat} {x0 x1 x2 x3 : Nat} {r : List Nat} (ht : t = x0 :: x1 :: x2 :: x3 :: r) : dec t = match grp x0 x1 x2 x3 with
    | none => none
    | some g => if g.length < 3 ∧ r ≠ [] then none else (dec r).map (g ++ ·) := by subst ht; rfl
theorem dec_odd : ∀ t : List Nat, t.length % 4 ≠ 0 → dec t = none
  | [], h => by simp at h
  | [_], _ => rfl
  | [_, _], _ => rfl
  | [_, _, _], _ => rfl
  | x0 :: x1 :: x2 :: x3 :: r, h => by
    have ih := dec_odd r (by simp at h; omega)
    rw [dec]
    cases grp x0 x1 x2 x3 with
    | none => rfl
    | some g => simp only; split <;> simp [ih]
theorem raw_odd : ∀ t : List Nat, t.length % 4 ≠ 0 → raw t = none
  | [], h => by simp at h
  | [_], _ => rfl
  | [_, _], _ => rfl
  | [_, _, _], _ => rfl
  | x0 :: x1 :: x2 :: x3 :: r, h => by
    have ih := raw_odd r (by simp at h; omega)
    rw [raw, ih]
    simp
/-- Four letters of a text, and the rest. -/
theorem drop_four (t : List Nat) (i : Nat) (h : i + 4 ≤ t.length) : t.drop i = nth t i :: nth t (i + 1) :: nth t (i + 2) :: nth t (i + 3) :: t.drop (i + 4) := by
  rw [drop_cons t i (by omega), drop_cons t (i + 1) (by omega), drop_cons t (i + 1 + 1) (by omega), drop_cons t (i + 1 + 1 + 1) (by omega)]
theorem take_four (t : List Nat) (i : Nat) (h : i + 4 ≤ t.length) : (t.drop i).take 4 = [nth t i, nth t (i + 1), nth t (i + 2), nth t (i + 3)] := by
  rw [drop_four t i h]; rfl
end Xf
end Go.Proofs.YtfbjodbihenmjaaGreatDoor
