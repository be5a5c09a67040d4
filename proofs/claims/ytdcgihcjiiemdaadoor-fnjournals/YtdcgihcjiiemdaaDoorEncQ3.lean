/- The model's EncodeQuoted: of at most 400 bytes it answers their quoted text, of more the code 2; and so does the program's of more. -/
import Derived.Test.YtdcgihcjiiemdaaDoorMemFToEncQ2
namespace Go.Proofs.YtdcgihcjiiemdaaDoor
open Go.RowKit
theorem selfL_at {l : List Nat} {k : Nat} : nth (l.drop k) 0 = nth l k ∧ nth (l.drop k) 1 = nth l (k + 1) := by
 rw [nth_drop, nth_drop]; exact ⟨rfl, rfl⟩
theorem quoted_cases (l : List Nat) (k n x : Nat) (hl : l.length = n) (hk : k < n) (hx : nth l k = x) :
  (selfL (l.drop k) = true ∧ (x = 10 ∨ ((x = 32 ∨ x = 9) ∧ k + 1 < n ∧ nth l (k + 1) ≠ 10) ∨ (33 ≤ x ∧ x ≤ 126 ∧ x ≠ 61))) ∨
  (selfL (l.drop k) = false ∧ (((x = 32 ∨ x = 9) ∧ k + 1 < n ∧ nth l (k + 1) = 10) ∨ ((x = 32 ∨ x = 9) ∧ ¬ k + 1 < n) ∨ (x ≠ 10 ∧ x ≠ 32 ∧ x ≠ 9 ∧ x < 33) ∨ 126 < x ∨ x = 61)) := by
 obtain ⟨e0, e1⟩ := selfL_at (l := l) (k := k)
 have hlen : (l.drop k).length = n - k := by simp [hl]
 by_cases h10 : x = 10
 ·exact .inl ⟨selfL_lf (by omega), .inl h10⟩
 ·by_cases hb : x = 32 ∨ x = 9
  ·by_cases hn : k + 1 < n
   ·by_cases hc : nth l (k + 1) = 10
    ·exact .inr ⟨selfL_bl_no (by omega) (by rw [e1]; omega), .inl ⟨hb, hn, hc⟩⟩
    ·exact .inl ⟨selfL_bl (by omega) (by omega) (by rw [e1]; exact hc), .inr (.inl ⟨hb, hn, hc⟩)⟩
   ·exact .inr ⟨selfL_bl_no (by omega) (by omega), .inr (.inl ⟨hb, hn⟩)⟩
  ·have hs := selfL_other (l := l.drop k) (by omega) (by omega)
   rw [e0, hx] at hs
   by_cases h : 33 ≤ x ∧ x ≤ 126 ∧ x ≠ 61
   ·exact .inl ⟨hs.trans (decide_eq_true h), .inr (.inr h)⟩
   ·exact .inr ⟨hs.trans (decide_eq_false h), by omega⟩
set_option maxHeartbeats 4000000 in
set_option maxRecDepth 100000 in
theorem l1Quoted_any (a : Option Addr) (n cap : Nat) (l : List Nat) (w : World) (hl : l.length = n) (hr : Rd w a l) (hB : IsB l) (hn : n ≤ 1048576) :
  Calls Tryd.prog 68 #[.slice a n cap] w fun e w' => e = .returned (.string (str (Xq.quo l))) ∧ Below w.heap.size w w' := by
 go_enter Tryd.func68, Tryd.ntmps68
 go_wp2
 have hown0 : Own (w.alloc (.cells #[] 5)) w.heap.size (.slice (some ⟨w.heap.size, 0, none⟩) 0 0) [] := Own.lit w _ (Nat.le_refl _) #[] [] rfl (by decide)
 have hbel0 : Below w.heap.size w (w.alloc (.cells #[] 5)) := (Below.refl _ _).alloc (Nat.le_refl _) _
 go_loopw [3, 4] (fun v i wr => ∃ (k : Nat) (out : List Nat), k ≤ n ∧ i = .int .i64 k ∧ Own wr w.heap.size v out ∧ Below w.heap.size w wr ∧ Hid (Xq.quo l = out ++ Xq.quo (l.drop k)) ∧ out.length ≤ 3 * k)
  (fun _ i _ => n - (intOf i).toNat)
 case atStart => exact ⟨0, [], Nat.zero_le _, rfl, hown0, hbel0, rfl, Nat.le_refl _⟩
 case round =>
  obtain ⟨k, out, hk, rfl, hown, hbel, hq, hol⟩ := hrel
  clear hown0 hbel0
  by_cases hkn : k < n
  ·obtain ⟨b, off, rfl, hblt, hcell⟩ := hr.at_ (by omega)
   have hc : wr.cell? ⟨b, off + k, none⟩ = some (.int .u8 (nth l k : Int)) := (hbel.cell (p := ⟨b, off + k, none⟩) hblt).trans (hcell k (by omega))
   have hc1 : k + 1 < n → wr.cell? ⟨b, off + (k + 1), none⟩ = some (.int .u8 (nth l (k + 1) : Int)) := fun h => (hbel.cell (p := ⟨b, off + (k + 1), none⟩) hblt).trans (hcell (k + 1) (by omega))
   have hz := hbel.size
   have hx := nth_lt hB k
   clear hcell hr
   obtain ⟨x, hxv⟩ : ∃ x, nth l k = x := ⟨_, rfl⟩
   rw [hxv] at hc hx
   rcases quoted_cases l k n x hl hkn hxv with ⟨hs, hcase⟩ | ⟨hs, hcase⟩
   ·have hq' : Hid (Xq.quo l = (out ++ [x]) ++ Xq.quo (l.drop (k + 1))) := by
     show _ = _
     rw [hq.out, quo_step_self (by omega) hs, hxv]; simp
    have HX : Hid (nth l k = x) := hxv
    clear hs hq hxv
    rcases hcase with rfl | ⟨rfl | rfl, hn1, hne⟩ | ⟨h33, h126, h61⟩
    ·clear hc1
     go_wp2_with (at_builtin; refine wpList_app_new rfl _ _ rfl (w.heap.size) _ out rfl hown 1 1 [10] rfl rfl rfl (by omega) hz ?_; intro v' w2 hown' hb')
     go_wp2
     go_roundw
     case rel => exact ⟨k + 1, out ++ [10], by omega, by go_num, hown', hbel.trans hb', hq', by simp; omega⟩
     case measure => simp [intOf]; omega
    ·have hc1' := hc1 hn1
     have ec : (((nth l (k + 1) : Nat) : Int) == 10) = false := beq_eq_false_iff_ne.2 (by omega)
     have hn1' : (k : Int) + 1 < (n : Int) := by omega
     clear hc1
     go_wp2_with (at_builtin; refine wpList_app_new rfl _ _ rfl (w.heap.size) _ out rfl hown 1 1 [32] rfl rfl rfl (by omega) hz ?_; intro v' w2 hown' hb')
     go_wp2
     go_roundw
     case rel => exact ⟨k + 1, out ++ [32], by omega, by go_num, hown', hbel.trans hb', hq', by simp; omega⟩
     case measure => simp [intOf]; omega
    ·have hc1' := hc1 hn1
     have ec : (((nth l (k + 1) : Nat) : Int) == 10) = false := beq_eq_false_iff_ne.2 (by omega)
     have hn1' : (k : Int) + 1 < (n : Int) := by omega
     clear hc1
     go_wp2_with (at_builtin; refine wpList_app_new rfl _ _ rfl (w.heap.size) _ out rfl hown 1 1 [9] rfl rfl rfl (by omega) hz ?_; intro v' w2 hown' hb')
     go_wp2
     go_roundw
     case rel => exact ⟨k + 1, out ++ [9], by omega, by go_num, hown', hbel.trans hb', hq', by simp; omega⟩
     case measure => simp [intOf]; omega
    ·have e32 : ((x : Int) == 32) = false := beq_eq_false_iff_ne.2 (by omega)
     have e9 : ((x : Int) == 9) = false := beq_eq_false_iff_ne.2 (by omega)
     have e61 : ((x : Int) == 61) = false := beq_eq_false_iff_ne.2 (by omega)
     have h33' : (33 : Int) ≤ (x : Int) := by omega
     have h126' : (x : Int) ≤ 126 := by omega
     clear hc1
     go_wp2_with (at_builtin; refine wpList_app_new rfl _ _ rfl (w.heap.size) _ out rfl hown 1 1 [x] rfl rfl rfl (by omega) hz ?_; intro v' w2 hown' hb')
     go_wp2
     go_roundw
     case rel => exact ⟨k + 1, out ++ [x], by omega, by go_num, hown', hbel.trans hb', hq', by simp; omega⟩
     case measure => simp [intOf]; omega
   ·obtain ⟨hi, hhi⟩ : ∃ hi, hi = x / 16 := ⟨_, rfl⟩
    obtain ⟨lo, hlo⟩ : ∃ lo, lo = x % 16 := ⟨_, rfl⟩
    have hq' : Hid (Xq.quo l = (out ++ [61, Xq.hex hi, Xq.hex lo]) ++ Xq.quo (l.drop (k + 1))) := by
     show _ = _
     rw [hq.out, quo_step_hex (by omega) hs, hxv, hhi, hlo]; simp
    have hi16 : hi < 16 := by omega
    have lo16 : lo < 16 := by omega
    have e1 : (x : Int) / 16 = (hi : Int) := by omega
    have e2 : (x : Int) % 16 = (lo : Int) := by omega
    clear hs hq hxv hhi hlo
    rcases hcase with ⟨h32 | h9, hn1, hc10⟩ | ⟨h32 | h9, hn1⟩ | ⟨h10, h32, h9, h33⟩ | h126 | h61
    ·have e32 : ((x : Int) == 32) = true := beq_iff_eq.2 (by omega)
     have hc1' := hc1 hn1
     have ec : (((nth l (k + 1) : Nat) : Int) == 10) = true := beq_iff_eq.2 (by omega)
     have hn1' : (k : Int) + 1 < (n : Int) := by omega
     clear hc1
     have h33' : ¬ (33 : Int) ≤ (x : Int) := by omega
     have e10 : ((x : Int) == 10) = false := beq_eq_false_iff_ne.2 (by omega)
     clear h32 hc10
     go_wp2_with fail
     refine (l1Hex_any hi hi16 _).mono ?_
     rintro e w1 ⟨rfl, rfl⟩
     go_wp2_with fail
     refine (l1Hex_any lo lo16 _).mono ?_
     rintro e w2 ⟨rfl, rfl⟩
     go_wp2_with (at_builtin; refine wpList_app_new rfl _ _ rfl (w.heap.size) _ out rfl hown 3 3 [61, Xq.hex hi, Xq.hex lo] rfl rfl rfl (by omega) hz ?_; intro v' w3 hown' hb')
     go_wp2
     go_roundw
     case rel => exact ⟨k + 1, out ++ [61, Xq.hex hi, Xq.hex lo], by omega, by go_num, hown', hbel.trans hb', hq', by simp; omega⟩
     case measure => simp [intOf]; omega
    ·have e32 : ((x : Int) == 32) = false := beq_eq_false_iff_ne.2 (by omega)
     have e9 : ((x : Int) == 9) = true := beq_iff_eq.2 (by omega)
     have hc1' := hc1 hn1
     have ec : (((nth l (k + 1) : Nat) : Int) == 10) = true := beq_iff_eq.2 (by omega)
     have hn1' : (k : Int) + 1 < (n : Int) := by omega
     clear hc1
     have h33' : ¬ (33 : Int) ≤ (x : Int) := by omega
     have e10 : ((x : Int) == 10) = false := beq_eq_false_iff_ne.2 (by omega)
     clear h9 hc10
     go_wp2_with fail
     refine (l1Hex_any hi hi16 _).mono ?_
     rintro e w1 ⟨rfl, rfl⟩
     go_wp2_with fail
     refine (l1Hex_any lo lo16 _).mono ?_
     rintro e w2 ⟨rfl, rfl⟩
     go_wp2_with (at_builtin; refine wpList_app_new rfl _ _ rfl (w.heap.size) _ out rfl hown 3 3 [61, Xq.hex hi, Xq.hex lo] rfl rfl rfl (by omega) hz ?_; intro v' w3 hown' hb')
     go_wp2
     go_roundw
     case rel => exact ⟨k + 1, out ++ [61, Xq.hex hi, Xq.hex lo], by omega, by go_num, hown', hbel.trans hb', hq', by simp; omega⟩
     case measure => simp [intOf]; omega
    ·have e32 : ((x : Int) == 32) = true := beq_iff_eq.2 (by omega)
     have hn1' : ¬ (k : Int) + 1 < (n : Int) := by omega
     clear hc1
     have h33' : ¬ (33 : Int) ≤ (x : Int) := by omega
     have e10 : ((x : Int) == 10) = false := beq_eq_false_iff_ne.2 (by omega)
     clear h32
     go_wp2_with fail
     refine (l1Hex_any hi hi16 _).mono ?_
     rintro e w1 ⟨rfl, rfl⟩
     go_wp2_with fail
     refine (l1Hex_any lo lo16 _).mono ?_
     rintro e w2 ⟨rfl, rfl⟩
     go_wp2_with (at_builtin; refine wpList_app_new rfl _ _ rfl (w.heap.size) _ out rfl hown 3 3 [61, Xq.hex hi, Xq.hex lo] rfl rfl rfl (by omega) hz ?_; intro v' w3 hown' hb')
     go_wp2
     go_roundw
     case rel => exact ⟨k + 1, out ++ [61, Xq.hex hi, Xq.hex lo], by omega, by go_num, hown', hbel.trans hb', hq', by simp; omega⟩
     case measure => simp [intOf]; omega
    ·have e32 : ((x : Int) == 32) = false := beq_eq_false_iff_ne.2 (by omega)
     have e9 : ((x : Int) == 9) = true := beq_iff_eq.2 (by omega)
     have hn1' : ¬ (k : Int) + 1 < (n : Int) := by omega
     clear hc1
     have h33' : ¬ (33 : Int) ≤ (x : Int) := by omega
     have e10 : ((x : Int) == 10) = false := beq_eq_false_iff_ne.2 (by omega)
     clear h9
     go_wp2_with fail
     refine (l1Hex_any hi hi16 _).mono ?_
     rintro e w1 ⟨rfl, rfl⟩
     go_wp2_with fail
     refine (l1Hex_any lo lo16 _).mono ?_
     rintro e w2 ⟨rfl, rfl⟩
     go_wp2_with (at_builtin; refine wpList_app_new rfl _ _ rfl (w.heap.size) _ out rfl hown 3 3 [61, Xq.hex hi, Xq.hex lo] rfl rfl rfl (by omega) hz ?_; intro v' w3 hown' hb')
     go_wp2
     go_roundw
     case rel => exact ⟨k + 1, out ++ [61, Xq.hex hi, Xq.hex lo], by omega, by go_num, hown', hbel.trans hb', hq', by simp; omega⟩
     case measure => simp [intOf]; omega
    ·have e32 : ((x : Int) == 32) = false := beq_eq_false_iff_ne.2 (by omega)
     have e9 : ((x : Int) == 9) = false := beq_eq_false_iff_ne.2 (by omega)
     have h33' : ¬ (33 : Int) ≤ (x : Int) := by omega
     have e10 : ((x : Int) == 10) = false := beq_eq_false_iff_ne.2 (by omega)
     clear hc1
     go_wp2_with fail
     refine (l1Hex_any hi hi16 _).mono ?_
     rintro e w1 ⟨rfl, rfl⟩
     go_wp2_with fail
     refine (l1Hex_any lo lo16 _).mono ?_
     rintro e w2 ⟨rfl, rfl⟩
     go_wp2_with (at_builtin; refine wpList_app_new rfl _ _ rfl (w.heap.size) _ out rfl hown 3 3 [61, Xq.hex hi, Xq.hex lo] rfl rfl rfl (by omega) hz ?_; intro v' w3 hown' hb')
     go_wp2
     go_roundw
     case rel => exact ⟨k + 1, out ++ [61, Xq.hex hi, Xq.hex lo], by omega, by go_num, hown', hbel.trans hb', hq', by simp; omega⟩
     case measure => simp [intOf]; omega
    ·have e32 : ((x : Int) == 32) = false := beq_eq_false_iff_ne.2 (by omega)
     have e9 : ((x : Int) == 9) = false := beq_eq_false_iff_ne.2 (by omega)
     have h33' : (33 : Int) ≤ (x : Int) := by omega
     have h126' : ¬ (x : Int) ≤ 126 := by omega
     have e10 : ((x : Int) == 10) = false := beq_eq_false_iff_ne.2 (by omega)
     clear hc1
     go_wp2_with fail
     refine (l1Hex_any hi hi16 _).mono ?_
     rintro e w1 ⟨rfl, rfl⟩
     go_wp2_with fail
     refine (l1Hex_any lo lo16 _).mono ?_
     rintro e w2 ⟨rfl, rfl⟩
     go_wp2_with (at_builtin; refine wpList_app_new rfl _ _ rfl (w.heap.size) _ out rfl hown 3 3 [61, Xq.hex hi, Xq.hex lo] rfl rfl rfl (by omega) hz ?_; intro v' w3 hown' hb')
     go_wp2
     go_roundw
     case rel => exact ⟨k + 1, out ++ [61, Xq.hex hi, Xq.hex lo], by omega, by go_num, hown', hbel.trans hb', hq', by simp; omega⟩
     case measure => simp [intOf]; omega
    ·have e32 : ((x : Int) == 32) = false := beq_eq_false_iff_ne.2 (by omega)
     have e9 : ((x : Int) == 9) = false := beq_eq_false_iff_ne.2 (by omega)
     have h33' : (33 : Int) ≤ (x : Int) := by omega
     have h126' : (x : Int) ≤ 126 := by omega
     have e61 : ((x : Int) != 61) = false := by rw [bne_eq_false_iff_eq]; omega
     have e10 : ((x : Int) == 10) = false := beq_eq_false_iff_ne.2 (by omega)
     clear hc1 h61
     go_wp2_with fail
     refine (l1Hex_any hi hi16 _).mono ?_
     rintro e w1 ⟨rfl, rfl⟩
     go_wp2_with fail
     refine (l1Hex_any lo lo16 _).mono ?_
     rintro e w2 ⟨rfl, rfl⟩
     go_wp2_with (at_builtin; refine wpList_app_new rfl _ _ rfl (w.heap.size) _ out rfl hown 3 3 [61, Xq.hex hi, Xq.hex lo] rfl rfl rfl (by omega) hz ?_; intro v' w3 hown' hb')
     go_wp2
     go_roundw
     case rel => exact ⟨k + 1, out ++ [61, Xq.hex hi, Xq.hex lo], by omega, by go_num, hown', hbel.trans hb', hq', by simp; omega⟩
     case measure => simp [intOf]; omega
  ·have hkk : k = n := by omega
   subst hkk
   have hq' : Hid (Xq.quo l = out) := by
    show _ = _
    rw [hq.out, ← hl, List.drop_length]; simp [Xq.quo]
   obtain ⟨ao, ocap, rfl, hoc⟩ := hown.form
   have hconv := fun c => run_str (cap := c) rfl (Own.rd hown).2
   go_wp2
   go_ret
   exact ⟨by rw [hq'.out]; rfl, hbel⟩
end Go.Proofs.YtdcgihcjiiemdaaDoor
