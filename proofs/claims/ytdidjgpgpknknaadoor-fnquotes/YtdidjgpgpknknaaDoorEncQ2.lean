/- The program's EncodeQuoted: of at most 400 bytes it answers their quoted text, of more the code 2. -/
import Derived.Test.YtdidjgpgpknknaaDoorEncQ
import Derived.Deep.RegionHeld3
import Derived.WalkLawsBesides
namespace Go.Proofs.YtdidjgpgpknknaaDoor
open Go.RowKit

set_option maxHeartbeats 1600000 in
set_option maxRecDepth 100000 in
theorem implEncodeQuoted_few (a : Option Addr) (n cap : Nat) (l : List Nat) (w : World) (hl : l.length = n) (hr : Rd w a l) (hB : IsB l) (hcap : n ≤ cap) (hn : n ≤ 400) (ht : TabH w) :
    Calls Tryd.prog 26 #[.slice a n cap] w fun e w' => e = .returned (.agg #[.int .i64 0, .string (str (Xq.quo l))]) ∧ Below w.heap.size w w' := by
  have hn' : ¬ (400 : Int) < (n : Int) := by omega
  go_enter Tryd.func26, Tryd.ntmps26
  go_wp2
  have hb0 : Below w.heap.size w (w.alloc (.cells #[.int .i64 0, .string ⟨#[]⟩] 29)) := (Below.refl _ _).alloc (Nat.le_refl _) _
  have hr0 := hr.below hb0
  have ht0 := ht.below hb0
  have hWs : (w.alloc (.cells #[.int .i64 0, .string ⟨#[]⟩] 29)).heap.size = w.heap.size + 1 := by simp
  generalize hW : w.alloc (.cells #[.int .i64 0, .string ⟨#[]⟩] 29) = W at *
  go_loopw [3, 12] (fun v i wr => ∃ (k : Nat) (out : List Nat), k ≤ n ∧ i = .int .i64 k ∧ Own wr (w.heap.size + 1) v out ∧ Below (w.heap.size + 1) W wr ∧ Hid (Xq.quo l = out ++ Xq.quo (l.drop k)) ∧ out.length ≤ 3 * k)
    (fun _ i _ => n - (intOf i).toNat)
  case atStart => exact ⟨0, [], Nat.zero_le _, rfl, Own.nil _ _, Below.refl _ _, rfl, Nat.le_refl _⟩
  case round =>
    obtain ⟨k, out, hk, rfl, hown, hbel, hq, hol⟩ := hrel
    by_cases hkn : k < n
    · obtain ⟨b, off, rfl, hblt, hcell⟩ := hr0.at_ (by omega)
      have hc : wr.cell? ⟨b, off + k, none⟩ = some (.int .u8 (nth l k : Int)) := (hbel.cell (p := ⟨b, off + k, none⟩) (by simp; omega)).trans (hcell k (by omega))
      have hrk : Rd wr (some ⟨b, off + k, none⟩) (l.drop k) := Rd.drop (.inr ⟨b, off, rfl, by have := hbel.size; omega, fun i hi => (hbel.cell (p := ⟨b, off + i, none⟩) (by simp; omega)).trans (hcell i hi)⟩) k
      have hlk : (l.drop k).length = n - k := by rw [List.length_drop, hl]
      clear hcell hr hr0 hb0
      have hz : w.heap.size + 1 ≤ wr.heap.size := by have := hbel.size; omega
      have hx := nth_lt hB k
      have htr : TabH wr := ht0.below (by rw [hWs]; exact hbel)
      have hTl := htr.lt
      go_wp2_with fail
      refine (stands_any _ (n - k) (cap - k) (l.drop k) _ hlk hrk (by omega)).mono ?_
      rintro e w1 ⟨rfl, rfl⟩
      cases hs : selfL (l.drop k) with
      | true =>
        have hq' : Hid (Xq.quo l = (out ++ [nth l k]) ++ Xq.quo (l.drop (k + 1))) := by
          show _ = _
          rw [hq.out, quo_step_self (by omega) hs]; simp
        clear hs hq hrk hlk
        go_wp2_with (at_builtin; refine wpList_app_new rfl _ _ rfl (w.heap.size + 1) _ out rfl hown 1 1 [nth l k] rfl rfl rfl (by omega) hz ?_; intro v' w2 hown' hb')
        go_wp2
        go_roundw
        case rel => exact ⟨k + 1, out ++ [nth l k], by omega, by go_num, hown', hbel.trans hb', hq', by simp; omega⟩
        case measure => simp [intOf]; omega
      | false =>
        obtain ⟨hi, hhi⟩ : ∃ hi, hi = nth l k / 16 := ⟨_, rfl⟩
        obtain ⟨lo, hlo⟩ : ∃ lo, lo = nth l k % 16 := ⟨_, rfl⟩
        have hq' : Hid (Xq.quo l = (out ++ [61, Xq.hex hi, Xq.hex lo]) ++ Xq.quo (l.drop (k + 1))) := by
          show _ = _
          rw [hq.out, quo_step_hex (by omega) hs, hhi, hlo]; simp
        have hT1 := htr hi (by omega)
        have hT2 := htr lo (by omega)
        have e1 : ((nth l k : Nat) : Int) / 16 = (hi : Int) := by omega
        have e2 : ((nth l k : Nat) : Int) % 16 = (lo : Int) := by omega
        have e3 := u8_and15 ((nth l k : Nat) : Int) (by omega) (by omega)
        rw [e2] at e3
        have q2 : (hi : Int) < 16 := by omega
        have q4 : (lo : Int) < 16 := by omega
        have h1B : 1 < w.heap.size + 1 := by have := ht0.lt; omega
        clear hs hq hrk hlk htr hhi hlo
        go_wp2_with fail
        go_region_held3 (fun w' => w'.cell? ⟨1, hi, none⟩ = some (.int .u8 (Xq.hex hi : Int)) ∧ w'.cell? ⟨1, lo, none⟩ = some (.int .u8 (Xq.hex lo : Int)))
          (first
            | go_keep
            | (go_split_ands
               refine ⟨?_, ?_⟩
               · (rw [hb'.cell (by exact h1B)]; assumption)
               · (rw [hb'.cell (by exact h1B)]; assumption)))
          ((refine step_app (by rfl) _ _ (by rfl) (w.heap.size + 1) u3 out (by rfl) ((hown.alloc _).drew) ⟨w1.heap.size, 0, none⟩ 3 3 [61, Xq.hex hi, Xq.hex lo] (by rfl) (by rfl)
              (new_cells (cs := #[.int .u8 61, .int .u8 (Xq.hex hi : Int), .int .u8 (Xq.hex lo : Int)]) (by rfl) 3 (by rfl)) (by omega) (by simp; omega) ?_; intro v' w2 hown' hb'))
        go_wp2
        go_roundw
        case rel => exact ⟨k + 1, out ++ [61, Xq.hex hi, Xq.hex lo], by omega, by go_num, hown', hbel.trans ((((Below.refl _ _).alloc hz _).drew).trans hb'), hq', by simp; omega⟩
        case measure => simp [intOf]; omega
    · have hkk : k = n := by omega
      subst hkk
      have hq' : Hid (Xq.quo l = out) := by
        show _ = _
        rw [hq.out, ← hl, List.drop_length]; simp [Xq.quo]
      obtain ⟨ao, ocap, rfl, hoc⟩ := hown.form
      have hconv := fun c => run_str (cap := c) rfl (Own.rd hown).2
      obtain ⟨hcw, hcw1, hfw, hfw1⟩ := res_block hW hbel
      obtain ⟨hk0, hk1⟩ := res_cells hcw hcw1 (.int .i64 0) (.string (str out))
      go_wp2
      refine bodyPost_ret (v := .agg #[.int .i64 0, .string (str out)]) (by simp [results, Tryd.results26, go_sem, hk0, hk1]) rfl ?_
      exact ⟨by rw [hq'.out], ((hb0.trans (hbel.mono (by omega))).setCell (by simp) _).setCell (by simp) _⟩
end Go.Proofs.YtdidjgpgpknknaaDoor
