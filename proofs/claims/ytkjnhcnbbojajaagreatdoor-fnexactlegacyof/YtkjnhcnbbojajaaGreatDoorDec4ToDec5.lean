/- DecodeText, the program's, at every charset and at every slice of bytes, by a plain function · The model's DecodeText, at every charset and at every slice of at most 1048576 bytes, by the same plain function. -/
import Derived.Test.YtkjnhcnbbojajaaGreatDoorDec3ToDecL
namespace Go.Proofs.YtkjnhcnbbojajaaGreatDoor
open Go.RowKit

/-- A slice's length. -/
def slLen : Value → Nat
  | .slice _ n _ => n
  | _ => 0


set_option maxHeartbeats 1600000 in
set_option maxRecDepth 100000 in
theorem decodeText_1 (a : Option Addr) (n cap : Nat) (l : List Nat) (w : World) (hl : l.length = n) (hr : Rd w a l) (hB : IsB l) (hcap : n ≤ cap) (hn : n ≤ 400) :
    Calls Tryz.prog 51 #[.int .i64 1, .slice a n cap] w fun e w' => CodEnd (decT 1 l) w e w' := by
  have hn' : ¬ (400 : Int) < (n : Int) := by omega
  have hb0 : Below w.heap.size w (w.alloc (.cells #[.int .i64 0, .slice none 0 0] 59)) := (Below.refl _ _).alloc (Nat.le_refl _) _
  have hr0 := hr.below hb0
  have hWs : (w.alloc (.cells #[.int .i64 0, .slice none 0 0] 59)).heap.size = w.heap.size + 1 := by simp
  go_enter Tryz.func51, Tryz.ntmps51
  go_wp2_with (first | (go_at_call 113; refine (charsetAt_any _ _).mono ?_; rintro e w' ⟨rfl, rfl⟩; rw [csV1]))
  generalize hW : w.alloc (.cells #[.int .i64 0, .slice none 0 0] 59) = W at *
  go_loopw [7, 8] (fun v r wr => ∃ (k m c : Nat) (out : List Int) (a' : Option Addr), k + m = n ∧ m ≤ c ∧ r = .slice a' m c ∧ Rd W a' (l.drop k) ∧ OwnI wr (w.heap.size + 1) v out ∧ Below (w.heap.size + 1) W wr ∧ Hid (decL 1 l = (decL 1 (l.drop k)).map (out ++ ·)) ∧ out.length ≤ k)
    (fun _ r _ => slLen r)
  case atStart => exact ⟨0, n, cap, [], _, by omega, hcap, rfl, hr0, OwnI.nil _ _, Below.refl _ _, by show _ = _; rw [List.drop_zero]; cases decL 1 l <;> simp, Nat.le_refl _⟩
  case round =>
    obtain ⟨k, m, c, out, a', hk, hmc, rfl, hrk, hown, hbel, hq, hol⟩ := hrel
    have hz : w.heap.size + 1 ≤ wr.heap.size := by have := hbel.size; omega
    have hlk : (l.drop k).length = m := by rw [List.length_drop, hl]; omega
    have hrw : Rd wr a' (l.drop k) := hrk.below (by rw [hWs]; exact hbel)
    have hBk := isB_drop hB k
    by_cases hm : 0 < m
    · have hm' : (0 : Int) < (m : Int) := by omega
      obtain ⟨b, off, rfl, hblt, hcell⟩ := hrk.at_ (by omega)
      clear hcell
      have HR1 : Hid (Calls Tryz.prog 114 #[.iface 170 (.agg #[.int .i64 127]), .slice (some ⟨b, off, none⟩) m c] wr fun e w' => TwoEnd (rdC 1 (l.drop k)) wr e w') := readChar_1 _ m c (l.drop k) wr hlk hrw hBk hm hmc
      have hrle := rdC_le 1 (l.drop k) (by omega)
      generalize hrd : rdC 1 (l.drop k) = r at *
      obtain ⟨g, s⟩ := r
      simp only at hrle
      rw [hlk] at hrle
      by_cases hs : s = 0
      · subst hs
        have HE : Hid (decT 1 l = (8, [])) := decT_no (by omega) (by omega) (by rw [hq.out, decL_none (by omega) (by rw [hrd])]; rfl)
        clear hq hrd
        go_wp2_with fail
        refine Calls.mono HR1.out ?_
        rintro e w1 ⟨rfl, hb1⟩
        have hbl : Below (w.heap.size + 1) W w1 := hbel.trans (hb1.mono hz)
        obtain ⟨hcw, hcw1, hfw, hfw1⟩ := res_block hW hbl
        have hbE : Below w.heap.size w w1 := hb0.trans (hbl.mono (by omega))
        obtain ⟨hk0, hk1⟩ := res_cells hcw hcw1 (.int .i64 8) (.slice none 0 0)
        go_wp2
        refine bodyPost_ret (v := .agg #[.int .i64 8, .slice none 0 0]) (by simp [results, Tryz.results51, go_sem, hk0, hk1]) rfl ?_
        rw [HE.out]
        exact CodEnd.code hbE _ _
      · have hs' : ((s : Int) == 0) = false := by simp; omega
        have HQ : Hid (decL 1 l = (decL 1 (l.drop (k + s))).map ((out ++ [(g : Int)]) ++ ·)) := by
          show _ = _
          rw [hq.out, decL_step (by omega) hs hrd, List.drop_drop, omap_app]
        have HR : Hid (Rd W (if c = s then some ⟨b, off, none⟩ else some ⟨b, off + s, none⟩) (l.drop (k + s))) := (by
          have h := hrk.drop s
          rw [List.drop_drop] at h
          exact h.cut (fun hh => List.drop_of_length_le (by omega)))
        have i1 : (s : Int) ≤ (m : Int) := by omega
        clear hq hrw hlk hrd hrk
        go_wp2_with fail
        refine Calls.mono HR1.out ?_
        rintro e w1 ⟨rfl, hb1⟩
        have hown1 : OwnI w1 (w.heap.size + 1) _ out := hown.below hb1 (Nat.le_refl _)
        have hbl : Below (w.heap.size + 1) W w1 := hbel.trans (hb1.mono hz)
        have hz1 : w.heap.size + 1 ≤ w1.heap.size := by have := hb1.size; omega
        clear hown hb1 HR1
        go_wp2_with (at_builtin; refine wpList_app_newI rfl _ _ rfl (w.heap.size + 1) _ out rfl hown1 1 1 [(g : Int)] rfl rfl rfl (by omega) hz1 ?_; intro v' w2 hown' hb')
        go_wp2
        go_roundw
        case rel => exact ⟨k + s, m - s, c - s, out ++ [(g : Int)], _, by omega, by omega, rfl, HR.out, hown', hbl.trans hb', HQ, by simp; omega⟩
        case measure => simp [slLen]; omega
    · have hm0 : m = 0 := by omega
      subst hm0
      have HE : Hid (decT 1 l = (0, out)) := decT_ok (by omega) (by omega) (by rw [hq.out, decL_nil hlk]; simp)
      obtain ⟨hcw, hcw1, hfw, hfw1⟩ := res_block hW hbel
      have hbE : Below w.heap.size w wr := hb0.trans (hbel.mono (by omega))
      obtain ⟨ao, ocap, hv, -, -⟩ := hown.form
      rw [hv] at hown ⊢
      clear hv
      have HO : Hid (OwnI wr (w.heap.size + 1) (.slice ao out.length ocap) out) := hown
      clear hown
      generalize hN : out.length = N at *
      clear hN hq
      obtain ⟨hk0, hk1⟩ := res_cells hcw hcw1 (.int .i64 0) (.slice ao N ocap)
      go_wp2
      refine bodyPost_ret (v := .agg #[.int .i64 0, .slice ao N ocap]) (by simp [results, Tryz.results51, go_sem, hk0, hk1]) rfl ?_
      rw [HE.out]
      exact CodEnd.some hbE HO.out _ _

set_option maxHeartbeats 1600000 in
set_option maxRecDepth 100000 in
theorem decodeText_2 (a : Option Addr) (n cap : Nat) (l : List Nat) (w : World) (hl : l.length = n) (hr : Rd w a l) (hB : IsB l) (hcap : n ≤ cap) (hn : n ≤ 400) :
    Calls Tryz.prog 51 #[.int .i64 2, .slice a n cap] w fun e w' => CodEnd (decT 2 l) w e w' := by
  have hn' : ¬ (400 : Int) < (n : Int) := by omega
  have hb0 : Below w.heap.size w (w.alloc (.cells #[.int .i64 0, .slice none 0 0] 59)) := (Below.refl _ _).alloc (Nat.le_refl _) _
  have hr0 := hr.below hb0
  have hWs : (w.alloc (.cells #[.int .i64 0, .slice none 0 0] 59)).heap.size = w.heap.size + 1 := by simp
  go_enter Tryz.func51, Tryz.ntmps51
  go_wp2_with (first | (go_at_call 113; refine (charsetAt_any _ _).mono ?_; rintro e w' ⟨rfl, rfl⟩; rw [csV2]))
  generalize hW : w.alloc (.cells #[.int .i64 0, .slice none 0 0] 59) = W at *
  go_loopw [7, 8] (fun v r wr => ∃ (k m c : Nat) (out : List Int) (a' : Option Addr), k + m = n ∧ m ≤ c ∧ r = .slice a' m c ∧ Rd W a' (l.drop k) ∧ OwnI wr (w.heap.size + 1) v out ∧ Below (w.heap.size + 1) W wr ∧ Hid (decL 2 l = (decL 2 (l.drop k)).map (out ++ ·)) ∧ out.length ≤ k)
    (fun _ r _ => slLen r)
  case atStart => exact ⟨0, n, cap, [], _, by omega, hcap, rfl, hr0, OwnI.nil _ _, Below.refl _ _, by show _ = _; rw [List.drop_zero]; cases decL 2 l <;> simp, Nat.le_refl _⟩
  case round =>
    obtain ⟨k, m, c, out, a', hk, hmc, rfl, hrk, hown, hbel, hq, hol⟩ := hrel
    have hz : w.heap.size + 1 ≤ wr.heap.size := by have := hbel.size; omega
    have hlk : (l.drop k).length = m := by rw [List.length_drop, hl]; omega
    have hrw : Rd wr a' (l.drop k) := hrk.below (by rw [hWs]; exact hbel)
    have hBk := isB_drop hB k
    by_cases hm : 0 < m
    · have hm' : (0 : Int) < (m : Int) := by omega
      obtain ⟨b, off, rfl, hblt, hcell⟩ := hrk.at_ (by omega)
      clear hcell
      have HR1 : Hid (Calls Tryz.prog 114 #[.iface 170 (.agg #[.int .i64 255]), .slice (some ⟨b, off, none⟩) m c] wr fun e w' => TwoEnd (rdC 2 (l.drop k)) wr e w') := readChar_2 _ m c (l.drop k) wr hlk hrw hBk hm hmc
      have hrle := rdC_le 2 (l.drop k) (by omega)
      generalize hrd : rdC 2 (l.drop k) = r at *
      obtain ⟨g, s⟩ := r
      simp only at hrle
      rw [hlk] at hrle
      by_cases hs : s = 0
      · subst hs
        have HE : Hid (decT 2 l = (8, [])) := decT_no (by omega) (by omega) (by rw [hq.out, decL_none (by omega) (by rw [hrd])]; rfl)
        clear hq hrd
        go_wp2_with fail
        refine Calls.mono HR1.out ?_
        rintro e w1 ⟨rfl, hb1⟩
        have hbl : Below (w.heap.size + 1) W w1 := hbel.trans (hb1.mono hz)
        obtain ⟨hcw, hcw1, hfw, hfw1⟩ := res_block hW hbl
        have hbE : Below w.heap.size w w1 := hb0.trans (hbl.mono (by omega))
        obtain ⟨hk0, hk1⟩ := res_cells hcw hcw1 (.int .i64 8) (.slice none 0 0)
        go_wp2
        refine bodyPost_ret (v := .agg #[.int .i64 8, .slice none 0 0]) (by simp [results, Tryz.results51, go_sem, hk0, hk1]) rfl ?_
        rw [HE.out]
        exact CodEnd.code hbE _ _
      · have hs' : ((s : Int) == 0) = false := by simp; omega
        have HQ : Hid (decL 2 l = (decL 2 (l.drop (k + s))).map ((out ++ [(g : Int)]) ++ ·)) := by
          show _ = _
          rw [hq.out, decL_step (by omega) hs hrd, List.drop_drop, omap_app]
        have HR : Hid (Rd W (if c = s then some ⟨b, off, none⟩ else some ⟨b, off + s, none⟩) (l.drop (k + s))) := (by
          have h := hrk.drop s
          rw [List.drop_drop] at h
          exact h.cut (fun hh => List.drop_of_length_le (by omega)))
        have i1 : (s : Int) ≤ (m : Int) := by omega
        clear hq hrw hlk hrd hrk
        go_wp2_with fail
        refine Calls.mono HR1.out ?_
        rintro e w1 ⟨rfl, hb1⟩
        have hown1 : OwnI w1 (w.heap.size + 1) _ out := hown.below hb1 (Nat.le_refl _)
        have hbl : Below (w.heap.size + 1) W w1 := hbel.trans (hb1.mono hz)
        have hz1 : w.heap.size + 1 ≤ w1.heap.size := by have := hb1.size; omega
        clear hown hb1 HR1
        go_wp2_with (at_builtin; refine wpList_app_newI rfl _ _ rfl (w.heap.size + 1) _ out rfl hown1 1 1 [(g : Int)] rfl rfl rfl (by omega) hz1 ?_; intro v' w2 hown' hb')
        go_wp2
        go_roundw
        case rel => exact ⟨k + s, m - s, c - s, out ++ [(g : Int)], _, by omega, by omega, rfl, HR.out, hown', hbl.trans hb', HQ, by simp; omega⟩
        case measure => simp [slLen]; omega
    · have hm0 : m = 0 := by omega
      subst hm0
      have HE : Hid (decT 2 l = (0, out)) := decT_ok (by omega) (by omega) (by rw [hq.out, decL_nil hlk]; simp)
      obtain ⟨hcw, hcw1, hfw, hfw1⟩ := res_block hW hbel
      have hbE : Below w.heap.size w wr := hb0.trans (hbel.mono (by omega))
      obtain ⟨ao, ocap, hv, -, -⟩ := hown.form
      rw [hv] at hown ⊢
      clear hv
      have HO : Hid (OwnI wr (w.heap.size + 1) (.slice ao out.length ocap) out) := hown
      clear hown
      generalize hN : out.length = N at *
      clear hN hq
      obtain ⟨hk0, hk1⟩ := res_cells hcw hcw1 (.int .i64 0) (.slice ao N ocap)
      go_wp2
      refine bodyPost_ret (v := .agg #[.int .i64 0, .slice ao N ocap]) (by simp [results, Tryz.results51, go_sem, hk0, hk1]) rfl ?_
      rw [HE.out]
      exact CodEnd.some hbE HO.out _ _

set_option maxHeartbeats 1600000 in
set_option maxRecDepth 100000 in
theorem decodeText_3 (a : Option Addr) (n cap : Nat) (l : List Nat) (w : World) (hl : l.length = n) (hr : Rd w a l) (hB : IsB l) (hcap : n ≤ cap) (hn : n ≤ 400) :
    Calls Tryz.prog 51 #[.int .i64 3, .slice a n cap] w fun e w' => CodEnd (decT 3 l) w e w' := by
  have hn' : ¬ (400 : Int) < (n : Int) := by omega
  have hb0 : Below w.heap.size w (w.alloc (.cells #[.int .i64 0, .slice none 0 0] 59)) := (Below.refl _ _).alloc (Nat.le_refl _) _
  have hr0 := hr.below hb0
  have hWs : (w.alloc (.cells #[.int .i64 0, .slice none 0 0] 59)).heap.size = w.heap.size + 1 := by simp
  go_enter Tryz.func51, Tryz.ntmps51
  go_wp2_with (first | (go_at_call 113; refine (charsetAt_any _ _).mono ?_; rintro e w' ⟨rfl, rfl⟩; rw [csV3]))
  generalize hW : w.alloc (.cells #[.int .i64 0, .slice none 0 0] 59) = W at *
  go_loopw [7, 8] (fun v r wr => ∃ (k m c : Nat) (out : List Int) (a' : Option Addr), k + m = n ∧ m ≤ c ∧ r = .slice a' m c ∧ Rd W a' (l.drop k) ∧ OwnI wr (w.heap.size + 1) v out ∧ Below (w.heap.size + 1) W wr ∧ Hid (decL 3 l = (decL 3 (l.drop k)).map (out ++ ·)) ∧ out.length ≤ k)
    (fun _ r _ => slLen r)
  case atStart => exact ⟨0, n, cap, [], _, by omega, hcap, rfl, hr0, OwnI.nil _ _, Below.refl _ _, by show _ = _; rw [List.drop_zero]; cases decL 3 l <;> simp, Nat.le_refl _⟩
  case round =>
    obtain ⟨k, m, c, out, a', hk, hmc, rfl, hrk, hown, hbel, hq, hol⟩ := hrel
    have hz : w.heap.size + 1 ≤ wr.heap.size := by have := hbel.size; omega
    have hlk : (l.drop k).length = m := by rw [List.length_drop, hl]; omega
    have hrw : Rd wr a' (l.drop k) := hrk.below (by rw [hWs]; exact hbel)
    have hBk := isB_drop hB k
    by_cases hm : 0 < m
    · have hm' : (0 : Int) < (m : Int) := by omega
      obtain ⟨b, off, rfl, hblt, hcell⟩ := hrk.at_ (by omega)
      clear hcell
      have HR1 : Hid (Calls Tryz.prog 114 #[.iface 172 (.agg #[]), .slice (some ⟨b, off, none⟩) m c] wr fun e w' => TwoEnd (rdC 3 (l.drop k)) wr e w') := readChar_3 _ m c (l.drop k) wr hlk hrw hBk hm hmc
      have hrle := rdC_le 3 (l.drop k) (by omega)
      generalize hrd : rdC 3 (l.drop k) = r at *
      obtain ⟨g, s⟩ := r
      simp only at hrle
      rw [hlk] at hrle
      by_cases hs : s = 0
      · subst hs
        have HE : Hid (decT 3 l = (8, [])) := decT_no (by omega) (by omega) (by rw [hq.out, decL_none (by omega) (by rw [hrd])]; rfl)
        clear hq hrd
        go_wp2_with fail
        refine Calls.mono HR1.out ?_
        rintro e w1 ⟨rfl, hb1⟩
        have hbl : Below (w.heap.size + 1) W w1 := hbel.trans (hb1.mono hz)
        obtain ⟨hcw, hcw1, hfw, hfw1⟩ := res_block hW hbl
        have hbE : Below w.heap.size w w1 := hb0.trans (hbl.mono (by omega))
        obtain ⟨hk0, hk1⟩ := res_cells hcw hcw1 (.int .i64 8) (.slice none 0 0)
        go_wp2
        refine bodyPost_ret (v := .agg #[.int .i64 8, .slice none 0 0]) (by simp [results, Tryz.results51, go_sem, hk0, hk1]) rfl ?_
        rw [HE.out]
        exact CodEnd.code hbE _ _
      · have hs' : ((s : Int) == 0) = false := by simp; omega
        have HQ : Hid (decL 3 l = (decL 3 (l.drop (k + s))).map ((out ++ [(g : Int)]) ++ ·)) := by
          show _ = _
          rw [hq.out, decL_step (by omega) hs hrd, List.drop_drop, omap_app]
        have HR : Hid (Rd W (if c = s then some ⟨b, off, none⟩ else some ⟨b, off + s, none⟩) (l.drop (k + s))) := (by
          have h := hrk.drop s
          rw [List.drop_drop] at h
          exact h.cut (fun hh => List.drop_of_length_le (by omega)))
        have i1 : (s : Int) ≤ (m : Int) := by omega
        clear hq hrw hlk hrd hrk
        go_wp2_with fail
        refine Calls.mono HR1.out ?_
        rintro e w1 ⟨rfl, hb1⟩
        have hown1 : OwnI w1 (w.heap.size + 1) _ out := hown.below hb1 (Nat.le_refl _)
        have hbl : Below (w.heap.size + 1) W w1 := hbel.trans (hb1.mono hz)
        have hz1 : w.heap.size + 1 ≤ w1.heap.size := by have := hb1.size; omega
        clear hown hb1 HR1
        go_wp2_with (at_builtin; refine wpList_app_newI rfl _ _ rfl (w.heap.size + 1) _ out rfl hown1 1 1 [(g : Int)] rfl rfl rfl (by omega) hz1 ?_; intro v' w2 hown' hb')
        go_wp2
        go_roundw
        case rel => exact ⟨k + s, m - s, c - s, out ++ [(g : Int)], _, by omega, by omega, rfl, HR.out, hown', hbl.trans hb', HQ, by simp; omega⟩
        case measure => simp [slLen]; omega
    · have hm0 : m = 0 := by omega
      subst hm0
      have HE : Hid (decT 3 l = (0, out)) := decT_ok (by omega) (by omega) (by rw [hq.out, decL_nil hlk]; simp)
      obtain ⟨hcw, hcw1, hfw, hfw1⟩ := res_block hW hbel
      have hbE : Below w.heap.size w wr := hb0.trans (hbel.mono (by omega))
      obtain ⟨ao, ocap, hv, -, -⟩ := hown.form
      rw [hv] at hown ⊢
      clear hv
      have HO : Hid (OwnI wr (w.heap.size + 1) (.slice ao out.length ocap) out) := hown
      clear hown
      generalize hN : out.length = N at *
      clear hN hq
      obtain ⟨hk0, hk1⟩ := res_cells hcw hcw1 (.int .i64 0) (.slice ao N ocap)
      go_wp2
      refine bodyPost_ret (v := .agg #[.int .i64 0, .slice ao N ocap]) (by simp [results, Tryz.results51, go_sem, hk0, hk1]) rfl ?_
      rw [HE.out]
      exact CodEnd.some hbE HO.out _ _

set_option maxHeartbeats 1600000 in
set_option maxRecDepth 100000 in
theorem decodeText_4 (a : Option Addr) (n cap : Nat) (l : List Nat) (w : World) (hl : l.length = n) (hr : Rd w a l) (hB : IsB l) (hcap : n ≤ cap) (hn : n ≤ 400) :
    Calls Tryz.prog 51 #[.int .i64 4, .slice a n cap] w fun e w' => CodEnd (decT 4 l) w e w' := by
  have hn' : ¬ (400 : Int) < (n : Int) := by omega
  have hb0 : Below w.heap.size w (w.alloc (.cells #[.int .i64 0, .slice none 0 0] 59)) := (Below.refl _ _).alloc (Nat.le_refl _) _
  have hr0 := hr.below hb0
  have hWs : (w.alloc (.cells #[.int .i64 0, .slice none 0 0] 59)).heap.size = w.heap.size + 1 := by simp
  go_enter Tryz.func51, Tryz.ntmps51
  go_wp2_with (first | (go_at_call 113; refine (charsetAt_any _ _).mono ?_; rintro e w' ⟨rfl, rfl⟩; rw [csV4]))
  generalize hW : w.alloc (.cells #[.int .i64 0, .slice none 0 0] 59) = W at *
  go_loopw [7, 8] (fun v r wr => ∃ (k m c : Nat) (out : List Int) (a' : Option Addr), k + m = n ∧ m ≤ c ∧ r = .slice a' m c ∧ Rd W a' (l.drop k) ∧ OwnI wr (w.heap.size + 1) v out ∧ Below (w.heap.size + 1) W wr ∧ Hid (decL 4 l = (decL 4 (l.drop k)).map (out ++ ·)) ∧ out.length ≤ k)
    (fun _ r _ => slLen r)
  case atStart => exact ⟨0, n, cap, [], _, by omega, hcap, rfl, hr0, OwnI.nil _ _, Below.refl _ _, by show _ = _; rw [List.drop_zero]; cases decL 4 l <;> simp, Nat.le_refl _⟩
  case round =>
    obtain ⟨k, m, c, out, a', hk, hmc, rfl, hrk, hown, hbel, hq, hol⟩ := hrel
    have hz : w.heap.size + 1 ≤ wr.heap.size := by have := hbel.size; omega
    have hlk : (l.drop k).length = m := by rw [List.length_drop, hl]; omega
    have hrw : Rd wr a' (l.drop k) := hrk.below (by rw [hWs]; exact hbel)
    have hBk := isB_drop hB k
    by_cases hm : 0 < m
    · have hm' : (0 : Int) < (m : Int) := by omega
      obtain ⟨b, off, rfl, hblt, hcell⟩ := hrk.at_ (by omega)
      clear hcell
      have HR1 : Hid (Calls Tryz.prog 114 #[.iface 173 (.agg #[]), .slice (some ⟨b, off, none⟩) m c] wr fun e w' => TwoEnd (rdC 4 (l.drop k)) wr e w') := readChar_4 _ m c (l.drop k) wr hlk hrw hBk hm hmc
      have hrle := rdC_le 4 (l.drop k) (by omega)
      generalize hrd : rdC 4 (l.drop k) = r at *
      obtain ⟨g, s⟩ := r
      simp only at hrle
      rw [hlk] at hrle
      by_cases hs : s = 0
      · subst hs
        have HE : Hid (decT 4 l = (8, [])) := decT_no (by omega) (by omega) (by rw [hq.out, decL_none (by omega) (by rw [hrd])]; rfl)
        clear hq hrd
        go_wp2_with fail
        refine Calls.mono HR1.out ?_
        rintro e w1 ⟨rfl, hb1⟩
        have hbl : Below (w.heap.size + 1) W w1 := hbel.trans (hb1.mono hz)
        obtain ⟨hcw, hcw1, hfw, hfw1⟩ := res_block hW hbl
        have hbE : Below w.heap.size w w1 := hb0.trans (hbl.mono (by omega))
        obtain ⟨hk0, hk1⟩ := res_cells hcw hcw1 (.int .i64 8) (.slice none 0 0)
        go_wp2
        refine bodyPost_ret (v := .agg #[.int .i64 8, .slice none 0 0]) (by simp [results, Tryz.results51, go_sem, hk0, hk1]) rfl ?_
        rw [HE.out]
        exact CodEnd.code hbE _ _
      · have hs' : ((s : Int) == 0) = false := by simp; omega
        have HQ : Hid (decL 4 l = (decL 4 (l.drop (k + s))).map ((out ++ [(g : Int)]) ++ ·)) := by
          show _ = _
          rw [hq.out, decL_step (by omega) hs hrd, List.drop_drop, omap_app]
        have HR : Hid (Rd W (if c = s then some ⟨b, off, none⟩ else some ⟨b, off + s, none⟩) (l.drop (k + s))) := (by
          have h := hrk.drop s
          rw [List.drop_drop] at h
          exact h.cut (fun hh => List.drop_of_length_le (by omega)))
        have i1 : (s : Int) ≤ (m : Int) := by omega
        clear hq hrw hlk hrd hrk
        go_wp2_with fail
        refine Calls.mono HR1.out ?_
        rintro e w1 ⟨rfl, hb1⟩
        have hown1 : OwnI w1 (w.heap.size + 1) _ out := hown.below hb1 (Nat.le_refl _)
        have hbl : Below (w.heap.size + 1) W w1 := hbel.trans (hb1.mono hz)
        have hz1 : w.heap.size + 1 ≤ w1.heap.size := by have := hb1.size; omega
        clear hown hb1 HR1
        go_wp2_with (at_builtin; refine wpList_app_newI rfl _ _ rfl (w.heap.size + 1) _ out rfl hown1 1 1 [(g : Int)] rfl rfl rfl (by omega) hz1 ?_; intro v' w2 hown' hb')
        go_wp2
        go_roundw
        case rel => exact ⟨k + s, m - s, c - s, out ++ [(g : Int)], _, by omega, by omega, rfl, HR.out, hown', hbl.trans hb', HQ, by simp; omega⟩
        case measure => simp [slLen]; omega
    · have hm0 : m = 0 := by omega
      subst hm0
      have HE : Hid (decT 4 l = (0, out)) := decT_ok (by omega) (by omega) (by rw [hq.out, decL_nil hlk]; simp)
      obtain ⟨hcw, hcw1, hfw, hfw1⟩ := res_block hW hbel
      have hbE : Below w.heap.size w wr := hb0.trans (hbel.mono (by omega))
      obtain ⟨ao, ocap, hv, -, -⟩ := hown.form
      rw [hv] at hown ⊢
      clear hv
      have HO : Hid (OwnI wr (w.heap.size + 1) (.slice ao out.length ocap) out) := hown
      clear hown
      generalize hN : out.length = N at *
      clear hN hq
      obtain ⟨hk0, hk1⟩ := res_cells hcw hcw1 (.int .i64 0) (.slice ao N ocap)
      go_wp2
      refine bodyPost_ret (v := .agg #[.int .i64 0, .slice ao N ocap]) (by simp [results, Tryz.results51, go_sem, hk0, hk1]) rfl ?_
      rw [HE.out]
      exact CodEnd.some hbE HO.out _ _

set_option maxHeartbeats 1600000 in
set_option maxRecDepth 100000 in
theorem decodeText_5 (a : Option Addr) (n cap : Nat) (l : List Nat) (w : World) (hl : l.length = n) (hr : Rd w a l) (hB : IsB l) (hcap : n ≤ cap) (hn : n ≤ 400) :
    Calls Tryz.prog 51 #[.int .i64 5, .slice a n cap] w fun e w' => CodEnd (decT 5 l) w e w' := by
  have hn' : ¬ (400 : Int) < (n : Int) := by omega
  have hb0 : Below w.heap.size w (w.alloc (.cells #[.int .i64 0, .slice none 0 0] 59)) := (Below.refl _ _).alloc (Nat.le_refl _) _
  have hr0 := hr.below hb0
  have hWs : (w.alloc (.cells #[.int .i64 0, .slice none 0 0] 59)).heap.size = w.heap.size + 1 := by simp
  go_enter Tryz.func51, Tryz.ntmps51
  go_wp2_with (first | (go_at_call 113; refine (charsetAt_any _ _).mono ?_; rintro e w' ⟨rfl, rfl⟩; rw [csV5]))
  generalize hW : w.alloc (.cells #[.int .i64 0, .slice none 0 0] 59) = W at *
  go_loopw [7, 8] (fun v r wr => ∃ (k m c : Nat) (out : List Int) (a' : Option Addr), k + m = n ∧ m ≤ c ∧ r = .slice a' m c ∧ Rd W a' (l.drop k) ∧ OwnI wr (w.heap.size + 1) v out ∧ Below (w.heap.size + 1) W wr ∧ Hid (decL 5 l = (decL 5 (l.drop k)).map (out ++ ·)) ∧ out.length ≤ k)
    (fun _ r _ => slLen r)
  case atStart => exact ⟨0, n, cap, [], _, by omega, hcap, rfl, hr0, OwnI.nil _ _, Below.refl _ _, by show _ = _; rw [List.drop_zero]; cases decL 5 l <;> simp, Nat.le_refl _⟩
  case round =>
    obtain ⟨k, m, c, out, a', hk, hmc, rfl, hrk, hown, hbel, hq, hol⟩ := hrel
    have hz : w.heap.size + 1 ≤ wr.heap.size := by have := hbel.size; omega
    have hlk : (l.drop k).length = m := by rw [List.length_drop, hl]; omega
    have hrw : Rd wr a' (l.drop k) := hrk.below (by rw [hWs]; exact hbel)
    have hBk := isB_drop hB k
    by_cases hm : 0 < m
    · have hm' : (0 : Int) < (m : Int) := by omega
      obtain ⟨b, off, rfl, hblt, hcell⟩ := hrk.at_ (by omega)
      clear hcell
      have HR1 : Hid (Calls Tryz.prog 114 #[.iface 174 (.agg #[]), .slice (some ⟨b, off, none⟩) m c] wr fun e w' => TwoEnd (rdC 5 (l.drop k)) wr e w') := readChar_5 _ m c (l.drop k) wr hlk hrw hBk hm hmc
      have hrle := rdC_le 5 (l.drop k) (by omega)
      generalize hrd : rdC 5 (l.drop k) = r at *
      obtain ⟨g, s⟩ := r
      simp only at hrle
      rw [hlk] at hrle
      by_cases hs : s = 0
      · subst hs
        have HE : Hid (decT 5 l = (8, [])) := decT_no (by omega) (by omega) (by rw [hq.out, decL_none (by omega) (by rw [hrd])]; rfl)
        clear hq hrd
        go_wp2_with fail
        refine Calls.mono HR1.out ?_
        rintro e w1 ⟨rfl, hb1⟩
        have hbl : Below (w.heap.size + 1) W w1 := hbel.trans (hb1.mono hz)
        obtain ⟨hcw, hcw1, hfw, hfw1⟩ := res_block hW hbl
        have hbE : Below w.heap.size w w1 := hb0.trans (hbl.mono (by omega))
        obtain ⟨hk0, hk1⟩ := res_cells hcw hcw1 (.int .i64 8) (.slice none 0 0)
        go_wp2
        refine bodyPost_ret (v := .agg #[.int .i64 8, .slice none 0 0]) (by simp [results, Tryz.results51, go_sem, hk0, hk1]) rfl ?_
        rw [HE.out]
        exact CodEnd.code hbE _ _
      · have hs' : ((s : Int) == 0) = false := by simp; omega
        have HQ : Hid (decL 5 l = (decL 5 (l.drop (k + s))).map ((out ++ [(g : Int)]) ++ ·)) := by
          show _ = _
          rw [hq.out, decL_step (by omega) hs hrd, List.drop_drop, omap_app]
        have HR : Hid (Rd W (if c = s then some ⟨b, off, none⟩ else some ⟨b, off + s, none⟩) (l.drop (k + s))) := (by
          have h := hrk.drop s
          rw [List.drop_drop] at h
          exact h.cut (fun hh => List.drop_of_length_le (by omega)))
        have i1 : (s : Int) ≤ (m : Int) := by omega
        clear hq hrw hlk hrd hrk
        go_wp2_with fail
        refine Calls.mono HR1.out ?_
        rintro e w1 ⟨rfl, hb1⟩
        have hown1 : OwnI w1 (w.heap.size + 1) _ out := hown.below hb1 (Nat.le_refl _)
        have hbl : Below (w.heap.size + 1) W w1 := hbel.trans (hb1.mono hz)
        have hz1 : w.heap.size + 1 ≤ w1.heap.size := by have := hb1.size; omega
        clear hown hb1 HR1
        go_wp2_with (at_builtin; refine wpList_app_newI rfl _ _ rfl (w.heap.size + 1) _ out rfl hown1 1 1 [(g : Int)] rfl rfl rfl (by omega) hz1 ?_; intro v' w2 hown' hb')
        go_wp2
        go_roundw
        case rel => exact ⟨k + s, m - s, c - s, out ++ [(g : Int)], _, by omega, by omega, rfl, HR.out, hown', hbl.trans hb', HQ, by simp; omega⟩
        case measure => simp [slLen]; omega
    · have hm0 : m = 0 := by omega
      subst hm0
      have HE : Hid (decT 5 l = (0, out)) := decT_ok (by omega) (by omega) (by rw [hq.out, decL_nil hlk]; simp)
      obtain ⟨hcw, hcw1, hfw, hfw1⟩ := res_block hW hbel
      have hbE : Below w.heap.size w wr := hb0.trans (hbel.mono (by omega))
      obtain ⟨ao, ocap, hv, -, -⟩ := hown.form
      rw [hv] at hown ⊢
      clear hv
      have HO : Hid (OwnI wr (w.heap.size + 1) (.slice ao out.length ocap) out) := hown
      clear hown
      generalize hN : out.length = N at *
      clear hN hq
      obtain ⟨hk0, hk1⟩ := res_cells hcw hcw1 (.int .i64 0) (.slice ao N ocap)
      go_wp2
      refine bodyPost_ret (v := .agg #[.int .i64 0, .slice ao N ocap]) (by simp [results, Tryz.results51, go_sem, hk0, hk1]) rfl ?_
      rw [HE.out]
      exact CodEnd.some hbE HO.out _ _

set_option maxHeartbeats 1600000 in
set_option maxRecDepth 100000 in
theorem decodeText_any (cs : Int) (a : Option Addr) (n cap : Nat) (l : List Nat) (w : World) (hl : l.length = n) (hr : Rd w a l) (hB : IsB l) (hcap : n ≤ cap) :
    Calls Tryz.prog 51 #[.int .i64 cs, .slice a n cap] w fun e w' => CodEnd (decT cs l) w e w' := by
  by_cases hcs : 1 ≤ cs ∧ cs ≤ 5
  · by_cases hn : 400 < n
    · have H : Hid (decT cs l = (2, [])) := decT_many hcs (by omega)
      have hn' : (400 : Int) < (n : Int) := by omega
      go_enter Tryz.func51, Tryz.ntmps51
      go_wp2_with (first | (go_at_call 113; refine (charsetAt_any _ _).mono ?_; rintro e w' ⟨rfl, rfl⟩; rw [decide_eq_true hcs]))
      go_returns
      exact ⟨.slice none 0 0, by rw [H.out], by rw [H.out]; exact OwnI.nil _ _, by go_grown⟩
    · rcases cs_cases hcs with rfl | rfl | rfl | rfl | rfl
      · exact decodeText_1 a n cap l w hl hr hB hcap (by omega)
      · exact decodeText_2 a n cap l w hl hr hB hcap (by omega)
      · exact decodeText_3 a n cap l w hl hr hB hcap (by omega)
      · exact decodeText_4 a n cap l w hl hr hB hcap (by omega)
      · exact decodeText_5 a n cap l w hl hr hB hcap (by omega)
  · have H : Hid (decT cs l = (4, [])) := decT_cs hcs
    go_enter Tryz.func51, Tryz.ntmps51
    go_wp2_with (first | (go_at_call 113; refine (charsetAt_any _ _).mono ?_; rintro e w' ⟨rfl, rfl⟩; rw [decide_eq_false hcs]))
    go_returns
    exact ⟨.slice none 0 0, by rw [H.out], by rw [H.out]; exact OwnI.nil _ _, by go_grown⟩
end Go.Proofs.YtkjnhcnbbojajaaGreatDoor

namespace Go.Proofs.YtkjnhcnbbojajaaGreatDoor
open Go.RowKit

/-- What a byte that goes on a character tells; -1: it is none. -/
def mre (l : List Nat) (i : Nat) : Int := if i < l.length ∧ 128 ≤ nth l i ∧ nth l i ≤ 191 then (nth l i : Int) - 128 else -1
theorem mre_yes {l : List Nat} {i : Nat} (h : i < l.length ∧ 128 ≤ nth l i ∧ nth l i ≤ 191) : mre l i = (nth l i : Int) - 128 := if_pos h
theorem mre_no {l : List Nat} {i : Nat} (h : ¬ (i < l.length ∧ 128 ≤ nth l i ∧ nth l i ≤ 191)) : mre l i = -1 := if_neg h

set_option maxHeartbeats 1600000 in
set_option maxRecDepth 100000 in
theorem l2More_any (a : Option Addr) (n cap i : Nat) (l : List Nat) (w : World) (hl : l.length = n) (hr : Rd w a l) (hB : IsB l) :
    Calls Tryz.prog 228 #[.slice a n cap, .int .i64 (i : Int)] w fun e w' => e = .returned (.int .i64 (mre l i)) ∧ w = w' := by
  by_cases h1 : i < n
  · obtain ⟨b, off, rfl, hlt, hc⟩ := hr.at_ (by omega)
    have h0 := hc i (by omega)
    have hx := nth_lt hB i
    have h1' : ¬ (n : Int) ≤ (i : Int) := by omega
    by_cases h2 : 128 ≤ nth l i
    · by_cases h3 : nth l i ≤ 191
      · rw [mre_yes ⟨by omega, h2, h3⟩]
        clear hc hr hB
        generalize nth l i = x at *
        have h2' : ¬ (x : Int) < 128 := by omega
        have h3' : ¬ (191 : Int) < (x : Int) := by omega
        go_enter Tryz.func228, Tryz.ntmps228
        go_wp2
        go_ret
        exact ret_int rfl
      · rw [mre_no (by omega)]
        clear hc hr hB
        generalize nth l i = x at *
        have h2' : ¬ (x : Int) < 128 := by omega
        have h3' : (191 : Int) < (x : Int) := by omega
        go_enter Tryz.func228, Tryz.ntmps228
        go_wp2
        go_ret
        exact ret_int rfl
    · rw [mre_no (by omega)]
      clear hc hr hB
      generalize nth l i = x at *
      have h2' : (x : Int) < 128 := by omega
      go_enter Tryz.func228, Tryz.ntmps228
      go_wp2
      go_ret
      exact ret_int rfl
  · rw [mre_no (by omega)]
    have h1' : (n : Int) ≤ (i : Int) := by omega
    go_enter Tryz.func228, Tryz.ntmps228
    go_wp2
    go_ret
    exact ret_int rfl

theorem ret_two {a a' b b' : Int} {w : World} (h : a = a') (h' : b = b') : Ending.returned (Value.tuple #[.int .i64 a, .int .i64 b]) = .returned (.tuple #[.int .i64 a', .int .i64 b']) ∧ w = w := ⟨by rw [h, h'], rfl⟩

set_option maxHeartbeats 12800000 in
set_option maxRecDepth 100000 in
theorem l2Utf8_any (a : Option Addr) (n cap i : Nat) (l : List Nat) (w : World) (hl : l.length = n) (hr : Rd w a l) (hB : IsB l) (hi : i < n) (hn : n ≤ 1048576) :
    Calls Tryz.prog 182 #[.slice a n cap, .int .i64 (i : Int)] w fun e w' => e = .returned (.tuple #[.int .i64 ((rdC 4 (l.drop i)).1 : Int), .int .i64 ((rdC 4 (l.drop i)).2 : Int)]) ∧ w = w' := by
  have hM1 : Hid (Calls Tryz.prog 228 #[.slice a n cap, .int .i64 ((i : Int) + 1)] w fun e w' => e = .returned (.int .i64 (mre l (i + 1))) ∧ w = w') := l2More_any a n cap (i + 1) l w hl hr hB
  have hM2 : Hid (Calls Tryz.prog 228 #[.slice a n cap, .int .i64 ((i : Int) + 2)] w fun e w' => e = .returned (.int .i64 (mre l (i + 2))) ∧ w = w') := l2More_any a n cap (i + 2) l w hl hr hB
  obtain ⟨b, off, rfl, hlt, hc⟩ := hr.at_ (by omega)
  have h0 := hc i (by omega)
  clear hc hr
  have hBd := isB_drop hB i
  have hxb := nth_lt hB i
  have n0 : nth (l.drop i) 0 = nth l i := by rw [nth_drop]; rfl
  have n1 : nth (l.drop i) 1 = nth l (i + 1) := nth_drop _ _ _
  have n2 : nth (l.drop i) 2 = nth l (i + 2) := nth_drop _ _ _
  have hL : (l.drop i).length = n - i := by rw [List.length_drop, hl]
  have hyes1 : Hid (i + 1 < n ∧ 128 ≤ nth l (i + 1) ∧ nth l (i + 1) ≤ 191 → mre l (i + 1) = (nth l (i + 1) : Int) - 128) := fun h => mre_yes ⟨by omega, h.2⟩
  have hno1 : Hid (¬ (i + 1 < n ∧ 128 ≤ nth l (i + 1) ∧ nth l (i + 1) ≤ 191) → mre l (i + 1) = -1) := fun h => mre_no (by rw [hl]; exact h)
  have hyes2 : Hid (i + 2 < n ∧ 128 ≤ nth l (i + 2) ∧ nth l (i + 2) ≤ 191 → mre l (i + 2) = (nth l (i + 2) : Int) - 128) := fun h => mre_yes ⟨by omega, h.2⟩
  have hno2 : Hid (¬ (i + 2 < n ∧ 128 ≤ nth l (i + 2) ∧ nth l (i + 2) ≤ 191) → mre l (i + 2) = -1) := fun h => mre_no (by rw [hl]; exact h)
  have R1 := @rdC_4_one (l.drop i)
  have R2 := @rdC_4_two (l.drop i)
  have R3 := @rdC_4_three (l.drop i)
  have R0 := @rdC_4_no (l.drop i) hBd
  rw [hL, n0] at R1
  rw [hL, n0, n1] at R2
  rw [hL, n0, n1, n2] at R3
  rw [hL, n0, n1, n2] at R0
  have q1 := nth_lt hB (i + 1)
  have q2 := nth_lt hB (i + 2)
  clear hB hBd n0 n1 n2 hL
  generalize mre l (i + 1) = X at *
  generalize mre l (i + 2) = Y at *
  generalize nth l i = x at *
  generalize nth l (i + 1) = y at *
  generalize nth l (i + 2) = z at *
  generalize rdC 4 (l.drop i) = r at *
  have hin : (i : Int) < (n : Int) := by omega
  by_cases h1 : x < 128
  · obtain rfl := R1 (by omega) h1
    have h1' : (x : Int) < 128 := by omega
    clear hM1 hM2 R2 R3 R0
    go_enter Tryz.func182, Tryz.ntmps182
    go_wp2
    go_ret2
    exact ret_two rfl rfl
  · have h1' : ¬ (x : Int) < 128 := by omega
    clear R1
    by_cases hX : i + 1 < n ∧ 128 ≤ y ∧ y ≤ 191
    · obtain rfl := hyes1.out hX
      obtain ⟨p, hp⟩ : ∃ p, p = y - 128 := ⟨_, rfl⟩
      have hpe : (y : Int) - 128 = (p : Int) := by omega
      have hp' : p < 64 := by omega
      rw [hpe] at hM1
      by_cases h2 : 194 ≤ x ∧ x < 224
      · obtain rfl := R2 (by omega) h2 hX.2
        have a1 : (194 : Int) ≤ (x : Int) := by omega
        have a2 : (x : Int) < 224 := by omega
        have e1 : (((x - 192) * 64 + (y - 128) : Nat) : Int) = ((x : Int) - 192) * 64 + (p : Int) := by omega
        rw [e1]
        clear hM2 R3 R0 hyes1 hno1 hyes2 hno2 e1 hp hpe
        go_enter Tryz.func182, Tryz.ntmps182
        go_wp2_with fail
        refine Calls.mono hM1.out ?_
        rintro e w' ⟨rfl, rfl⟩
        go_wp2
        go_ret2
        exact ret_two rfl rfl
      · by_cases h3 : 224 ≤ x ∧ x < 240
        · have b1 : (194 : Int) ≤ (x : Int) := by omega
          have b2 : ¬ (x : Int) < 224 := by omega
          have b3 : (224 : Int) ≤ (x : Int) := by omega
          have b4 : (x : Int) < 240 := by omega
          by_cases hY : i + 2 < n ∧ 128 ≤ z ∧ z ≤ 191
          · obtain rfl := hyes2.out hY
            obtain ⟨q, hq⟩ : ∃ q, q = z - 128 := ⟨_, rfl⟩
            have hqe : (z : Int) - 128 = (q : Int) := by omega
            have hq' : q < 64 := by omega
            rw [hqe] at hM2
            obtain ⟨C, hC⟩ : ∃ C, C = (x - 224) * 4096 + (y - 128) * 64 + (z - 128) := ⟨_, rfl⟩
            have hCe : ((x : Int) - 224) * 4096 + (p : Int) * 64 + (q : Int) = (C : Int) := by omega
            have hCl : C < 65536 := by omega
            rw [← hC] at R3 R0
            by_cases h5 : 2048 ≤ C ∧ chr (C : Int) = true
            · obtain rfl := R3 (by omega) h3 hX.2 hY.2 h5.1 h5.2
              have c1 : (2048 : Int) ≤ (C : Int) := by omega
              have c2 := h5.2
              clear R0 R2 hyes1 hno1 hyes2 hno2 h5 hp hq hC
              go_enter Tryz.func182, Tryz.ntmps182
              go_wp2_with fail
              refine Calls.mono hM1.out ?_
              rintro e w' ⟨rfl, rfl⟩
              go_wp2_with fail
              refine Calls.mono hM2.out ?_
              rintro e w' ⟨rfl, rfl⟩
              go_wp2_with fail
              refine (l2Char_any _ _).mono ?_
              rintro e w' ⟨rfl, rfl⟩
              rw [c2]
              go_wp2
              go_ret2
              exact ret_two rfl rfl
            · obtain rfl := R0 (by omega) (by omega) (fun h => h5 ⟨h.2.2.2.2.2.2.2.1, h.2.2.2.2.2.2.2.2⟩)
              by_cases c1 : 2048 ≤ C
              · have c1' : (2048 : Int) ≤ (C : Int) := by omega
                have c2 : chr (C : Int) = false := by
                  cases hc : chr (C : Int)
                  · rfl
                  · exact absurd ⟨c1, hc⟩ h5
                clear R3 R2 hyes1 hno1 hyes2 hno2 h5 hp hq hC
                go_enter Tryz.func182, Tryz.ntmps182
                go_wp2_with fail
                refine Calls.mono hM1.out ?_
                rintro e w' ⟨rfl, rfl⟩
                go_wp2_with fail
                refine Calls.mono hM2.out ?_
                rintro e w' ⟨rfl, rfl⟩
                go_wp2_with fail
                refine (l2Char_any _ _).mono ?_
                rintro e w' ⟨rfl, rfl⟩
                rw [c2]
                go_wp2
                go_ret2
                exact ret_two rfl rfl
              · have c1' : ¬ (2048 : Int) ≤ (C : Int) := by omega
                clear R3 R2 hyes1 hno1 hyes2 hno2 h5 hp hq hC
                go_enter Tryz.func182, Tryz.ntmps182
                go_wp2_with fail
                refine Calls.mono hM1.out ?_
                rintro e w' ⟨rfl, rfl⟩
                go_wp2_with fail
                refine Calls.mono hM2.out ?_
                rintro e w' ⟨rfl, rfl⟩
                go_wp2
                go_ret2
                exact ret_two rfl rfl
          · obtain rfl := hno2.out hY
            obtain rfl := R0 (by omega) (by omega) (fun h => hY ⟨by omega, h.2.2.2.2.2.1, h.2.2.2.2.2.2.1⟩)
            clear R3 R2 hyes1 hno1 hyes2 hno2
            go_enter Tryz.func182, Tryz.ntmps182
            go_wp2_with fail
            refine Calls.mono hM1.out ?_
            rintro e w' ⟨rfl, rfl⟩
            go_wp2_with fail
            refine Calls.mono hM2.out ?_
            rintro e w' ⟨rfl, rfl⟩
            go_wp2
            go_ret2
            exact ret_two rfl rfl
        · obtain rfl := R0 (by omega) (by omega) (fun h => h3 ⟨h.2.1, h.2.2.1⟩)
          clear R3 R2 hyes1 hno1 hyes2 hno2
          by_cases d1 : x < 194
          · have d1' : ¬ (194 : Int) ≤ (x : Int) := by omega
            have d2' : ¬ (224 : Int) ≤ (x : Int) := by omega
            go_enter Tryz.func182, Tryz.ntmps182
            go_wp2_with fail
            refine Calls.mono hM1.out ?_
            rintro e w' ⟨rfl, rfl⟩
            go_wp2_with fail
            refine Calls.mono hM2.out ?_
            rintro e w' ⟨rfl, rfl⟩
            go_wp2
            go_ret2
            exact ret_two rfl rfl
          · have d1' : (194 : Int) ≤ (x : Int) := by omega
            have d2' : ¬ (x : Int) < 224 := by omega
            have d3' : (224 : Int) ≤ (x : Int) := by omega
            have d4' : ¬ (x : Int) < 240 := by omega
            go_enter Tryz.func182, Tryz.ntmps182
            go_wp2_with fail
            refine Calls.mono hM1.out ?_
            rintro e w' ⟨rfl, rfl⟩
            go_wp2_with fail
            refine Calls.mono hM2.out ?_
            rintro e w' ⟨rfl, rfl⟩
            go_wp2
            go_ret2
            exact ret_two rfl rfl
    · obtain rfl := hno1.out hX
      obtain rfl := R0 (by omega) (fun h => hX ⟨by omega, h.2.2.2⟩) (fun h => hX ⟨by omega, h.2.2.2.1, h.2.2.2.2.1⟩)
      clear R3 R2 hyes1 hno1 hyes2 hno2
      by_cases d1 : x < 194
      · have d1' : ¬ (194 : Int) ≤ (x : Int) := by omega
        have d2' : ¬ (224 : Int) ≤ (x : Int) := by omega
        go_enter Tryz.func182, Tryz.ntmps182
        go_wp2_with fail
        refine Calls.mono hM1.out ?_
        rintro e w' ⟨rfl, rfl⟩
        go_wp2_with fail
        refine Calls.mono hM2.out ?_
        rintro e w' ⟨rfl, rfl⟩
        go_wp2
        go_ret2
        exact ret_two rfl rfl
      · have d1' : (194 : Int) ≤ (x : Int) := by omega
        by_cases d2 : x < 224
        · have d2' : (x : Int) < 224 := by omega
          have d3' : ¬ (224 : Int) ≤ (x : Int) := by omega
          go_enter Tryz.func182, Tryz.ntmps182
          go_wp2_with fail
          refine Calls.mono hM1.out ?_
          rintro e w' ⟨rfl, rfl⟩
          go_wp2_with fail
          refine Calls.mono hM2.out ?_
          rintro e w' ⟨rfl, rfl⟩
          go_wp2
          go_ret2
          exact ret_two rfl rfl
        · have d2' : ¬ (x : Int) < 224 := by omega
          have d3' : (224 : Int) ≤ (x : Int) := by omega
          by_cases d4 : x < 240
          · have d4' : (x : Int) < 240 := by omega
            go_enter Tryz.func182, Tryz.ntmps182
            go_wp2_with fail
            refine Calls.mono hM1.out ?_
            rintro e w' ⟨rfl, rfl⟩
            go_wp2_with fail
            refine Calls.mono hM2.out ?_
            rintro e w' ⟨rfl, rfl⟩
            go_wp2
            go_ret2
            exact ret_two rfl rfl
          · have d4' : ¬ (x : Int) < 240 := by omega
            go_enter Tryz.func182, Tryz.ntmps182
            go_wp2_with fail
            refine Calls.mono hM1.out ?_
            rintro e w' ⟨rfl, rfl⟩
            go_wp2_with fail
            refine Calls.mono hM2.out ?_
            rintro e w' ⟨rfl, rfl⟩
            go_wp2
            go_ret2
            exact ret_two rfl rfl
end Go.Proofs.YtkjnhcnbbojajaaGreatDoor
