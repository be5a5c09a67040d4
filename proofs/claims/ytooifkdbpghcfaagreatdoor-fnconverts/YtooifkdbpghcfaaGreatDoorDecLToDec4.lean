/- The characters that some bytes tell: plain functions, with no program in them, and how an answer with numbers ends · DecodeText, the program's, at every charset and at every slice of bytes, by a plain function. -/
import Derived.Test.YtooifkdbpghcfaaGreatDoorEncTToDec2
import Derived.Test.YtooifkdbpghcfaaGreatDoorDec3
namespace Go.Proofs.YtooifkdbpghcfaaGreatDoor
open Go.RowKit

/-- The characters of some bytes, if they tell any. -/
def decL (cs : Int) (l : List Nat) : Option (List Int) :=
  if _h : 1 ≤ l.length ∧ (rdC cs l).2 ≠ 0 then (decL cs (l.drop (rdC cs l).2)).map (((rdC cs l).1 : Int) :: ·) else if l.length = 0 then some [] else none
termination_by l.length
decreasing_by
  rw [List.length_drop]
  omega
theorem decL_nil {cs : Int} {l : List Nat} (h : l.length = 0) : decL cs l = some [] := by
  rw [decL, dif_neg (by omega), if_pos h]
theorem decL_none {cs : Int} {l : List Nat} (h : 1 ≤ l.length) (h0 : (rdC cs l).2 = 0) : decL cs l = none := by
  rw [decL, dif_neg (by intro h'; exact h'.2 h0), if_neg (by omega)]
theorem decL_step {cs : Int} {l : List Nat} {c s : Nat} (h : 1 ≤ l.length) (hs : s ≠ 0) (hr : rdC cs l = (c, s)) : decL cs l = (decL cs (l.drop s)).map ((c : Int) :: ·) := by
  rw [decL, dif_pos ⟨h, by rw [hr]; exact hs⟩, hr]
/-- What DecodeText answers. -/
def decT (cs : Int) (l : List Nat) : Int × List Int := if 1 ≤ cs ∧ cs ≤ 5 then (if 400 < l.length then (2, []) else match decL cs l with | some u => (0, u) | none => (8, [])) else (4, [])
theorem decT_cs {cs : Int} {l : List Nat} (h : ¬ (1 ≤ cs ∧ cs ≤ 5)) : decT cs l = (4, []) := if_neg h
theorem decT_many {cs : Int} {l : List Nat} (h : 1 ≤ cs ∧ cs ≤ 5) (h4 : 400 < l.length) : decT cs l = (2, []) := by unfold decT; rw [if_pos h, if_pos h4]
theorem decT_no {cs : Int} {l : List Nat} (h : 1 ≤ cs ∧ cs ≤ 5) (h4 : ¬ 400 < l.length) (hd : decL cs l = none) : decT cs l = (8, []) := by unfold decT; rw [if_pos h, if_neg h4, hd]
theorem decT_ok {cs : Int} {l : List Nat} {u : List Int} (h : 1 ≤ cs ∧ cs ≤ 5) (h4 : ¬ 400 < l.length) (hd : decL cs l = some u) : decT cs l = (0, u) := by unfold decT; rw [if_pos h, if_neg h4, hd]
theorem omap_app {o : Option (List Int)} {a : List Int} {c : Int} : (o.map (c :: ·)).map (a ++ ·) = o.map ((a ++ [c]) ++ ·) := by cases o <;> simp

/-- An answer with numbers. -/
def CodEnd (r : Int × List Int) (w : World) (e : Ending) (w' : World) : Prop := ∃ v, e = .returned (.agg #[.int .i64 r.1, v]) ∧ OwnI w' w.heap.size v r.2 ∧ Below w.heap.size w w'
theorem CodEnd.code {c : Int} {w w1 : World} (hbel : Below w.heap.size w w1) (x y : Value) : CodEnd (c, []) w (.returned (.agg #[.int .i64 c, .slice none 0 0])) ((w1.setCell ⟨w.heap.size, 0, none⟩ x).setCell ⟨w.heap.size, 1, none⟩ y) :=
  ⟨_, rfl, OwnI.nil _ _, (hbel.setCell (by simp) _).setCell (by simp) _⟩
theorem CodEnd.some {c : Int} {w w1 : World} {v : Value} {l : List Int} (hbel : Below w.heap.size w w1) (hown : OwnI w1 (w.heap.size + 1) v l) (x y : Value) : CodEnd (c, l) w (.returned (.agg #[.int .i64 c, v])) ((w1.setCell ⟨w.heap.size, 0, none⟩ x).setCell ⟨w.heap.size, 1, none⟩ y) :=
  ⟨_, rfl, ((hown.kept _ (by simp) _).kept _ (by simp) _).lower (by omega), (hbel.setCell (by simp) _).setCell (by simp) _⟩

end Go.Proofs.YtooifkdbpghcfaaGreatDoor

namespace Go.Proofs.YtooifkdbpghcfaaGreatDoor
open Go.RowKit

/-- A slice's length. -/
def slLen : Value → Nat
  | .slice _ n _ => n
  | _ => 0


set_option maxHeartbeats 1600000 in
set_option maxRecDepth 100000 in
theorem decodeText_1 (a : Option Addr) (n cap : Nat) (l : List Nat) (w : World) (hl : l.length = n) (hr : Rd w a l) (hB : IsB l) (hcap : n ≤ cap) (hn : n ≤ 400) :
    Calls Tryz.prog 20 #[.int .i64 1, .slice a n cap] w fun e w' => CodEnd (decT 1 l) w e w' := by
  have hn' : ¬ (400 : Int) < (n : Int) := by omega
  have hb0 : Below w.heap.size w (w.alloc (.cells #[.int .i64 0, .slice none 0 0] 33)) := (Below.refl _ _).alloc (Nat.le_refl _) _
  have hr0 := hr.below hb0
  have hWs : (w.alloc (.cells #[.int .i64 0, .slice none 0 0] 33)).heap.size = w.heap.size + 1 := by simp
  go_enter Tryz.func20, Tryz.ntmps20
  go_wp2_with (first | (go_at_call 51; refine (charsetAt_any _ _).mono ?_; rintro e w' ⟨rfl, rfl⟩; rw [csV1]))
  generalize hW : w.alloc (.cells #[.int .i64 0, .slice none 0 0] 33) = W at *
  go_loopw [7, 8] (fun v r wr => ∃ (k m c : Nat) (out : List Int) (a' : Option Addr), k + m = n ∧ m ≤ c ∧ r = .slice a' m c ∧ Rd W a' (l.drop k) ∧ OwnI wr (w.heap.size + 1) v out ∧ Below (w.heap.size + 1) W wr ∧ Hid (decL 1 l = (decL 1 (l.drop k)).map (out ++ ·)) ∧ out.length ≤ k)
    (fun _ r _ => slLen r)
  case atStart => exact ⟨0, n, cap, [], _, by omega, hcap, rfl, hr0, OwnI.nil _ _, Below.refl _ _, by show _ = _; rw [List.drop_zero]; cases decL 1 l <;> simp, Nat.le_refl _⟩
  case round =>
    obtain ⟨k, m, c, out, a', hk, hmc, rfl, hrk, hown, hbel, hq, hol⟩ := hrel
    have hz : w.heap.size + 1 ≤ wr.heap.size := by have := hbel.size; omega
    have hlk : (l.drop k).length = m := by rw [List.length_drop, hl]; omega
    have hrw : Rd wr a' (l.drop k) := hrk.below (by rw [hWs]; exact hbel)
    have hBk := isB_drop hB k
    by_cases hm : 0 < m
    · have hm' : (0 : Int) < (m : Int) := by omega
      obtain ⟨b, off, rfl, hblt, hcell⟩ := hrk.at_ (by omega)
      clear hcell
      have HR1 : Hid (Calls Tryz.prog 52 #[.iface 106 (.agg #[.int .i64 127]), .slice (some ⟨b, off, none⟩) m c] wr fun e w' => TwoEnd (rdC 1 (l.drop k)) wr e w') := readChar_1 _ m c (l.drop k) wr hlk hrw hBk hm hmc
      have hrle := rdC_le 1 (l.drop k) (by omega)
      generalize hrd : rdC 1 (l.drop k) = r at *
      obtain ⟨g, s⟩ := r
      simp only at hrle
      rw [hlk] at hrle
      by_cases hs : s = 0
      · subst hs
        have HE : Hid (decT 1 l = (8, [])) := decT_no (by omega) (by omega) (by rw [hq.out, decL_none (by omega) (by rw [hrd])]; rfl)
        clear hq hrd
        go_wp2_with fail
        refine Calls.mono HR1.out ?_
        rintro e w1 ⟨rfl, hb1⟩
        have hbl : Below (w.heap.size + 1) W w1 := hbel.trans (hb1.mono hz)
        obtain ⟨hcw, hcw1, hfw, hfw1⟩ := res_block hW hbl
        have hbE : Below w.heap.size w w1 := hb0.trans (hbl.mono (by omega))
        obtain ⟨hk0, hk1⟩ := res_cells hcw hcw1 (.int .i64 8) (.slice none 0 0)
        go_wp2
        refine bodyPost_ret (v := .agg #[.int .i64 8, .slice none 0 0]) (by simp [results, Tryz.results20, go_sem, hk0, hk1]) rfl ?_
        rw [HE.out]
        exact CodEnd.code hbE _ _
      · have hs' : ((s : Int) == 0) = false := by simp; omega
        have HQ : Hid (decL 1 l = (decL 1 (l.drop (k + s))).map ((out ++ [(g : Int)]) ++ ·)) := by
          show _ = _
          rw [hq.out, decL_step (by omega) hs hrd, List.drop_drop, omap_app]
        have HR : Hid (Rd W (if c = s then some ⟨b, off, none⟩ else some ⟨b, off + s, none⟩) (l.drop (k + s))) := (by
          have h := hrk.drop s
          rw [List.drop_drop] at h
          exact h.cut (fun hh => List.drop_of_length_le (by omega)))
        have i1 : (s : Int) ≤ (m : Int) := by omega
        clear hq hrw hlk hrd hrk
        go_wp2_with fail
        refine Calls.mono HR1.out ?_
        rintro e w1 ⟨rfl, hb1⟩
        have hown1 : OwnI w1 (w.heap.size + 1) _ out := hown.below hb1 (Nat.le_refl _)
        have hbl : Below (w.heap.size + 1) W w1 := hbel.trans (hb1.mono hz)
        have hz1 : w.heap.size + 1 ≤ w1.heap.size := by have := hb1.size; omega
        clear hown hb1 HR1
        go_wp2_with (at_builtin; refine wpList_app_newI rfl _ _ rfl (w.heap.size + 1) _ out rfl hown1 1 1 [(g : Int)] rfl rfl rfl (by omega) hz1 ?_; intro v' w2 hown' hb')
        go_wp2
        go_roundw
        case rel => exact ⟨k + s, m - s, c - s, out ++ [(g : Int)], _, by omega, by omega, rfl, HR.out, hown', hbl.trans hb', HQ, by simp; omega⟩
        case measure => simp [slLen]; omega
    · have hm0 : m = 0 := by omega
      subst hm0
      have HE : Hid (decT 1 l = (0, out)) := decT_ok (by omega) (by omega) (by rw [hq.out, decL_nil hlk]; simp)
      obtain ⟨hcw, hcw1, hfw, hfw1⟩ := res_block hW hbel
      have hbE : Below w.heap.size w wr := hb0.trans (hbel.mono (by omega))
      obtain ⟨ao, ocap, hv, -, -⟩ := hown.form
      rw [hv] at hown ⊢
      clear hv
      have HO : Hid (OwnI wr (w.heap.size + 1) (.slice ao out.length ocap) out) := hown
      clear hown
      generalize hN : out.length = N at *
      clear hN hq
      obtain ⟨hk0, hk1⟩ := res_cells hcw hcw1 (.int .i64 0) (.slice ao N ocap)
      go_wp2
      refine bodyPost_ret (v := .agg #[.int .i64 0, .slice ao N ocap]) (by simp [results, Tryz.results20, go_sem, hk0, hk1]) rfl ?_
      rw [HE.out]
      exact CodEnd.some hbE HO.out _ _

set_option maxHeartbeats 1600000 in
set_option maxRecDepth 100000 in
theorem decodeText_2 (a : Option Addr) (n cap : Nat) (l : List Nat) (w : World) (hl : l.length = n) (hr : Rd w a l) (hB : IsB l) (hcap : n ≤ cap) (hn : n ≤ 400) :
    Calls Tryz.prog 20 #[.int .i64 2, .slice a n cap] w fun e w' => CodEnd (decT 2 l) w e w' := by
  have hn' : ¬ (400 : Int) < (n : Int) := by omega
  have hb0 : Below w.heap.size w (w.alloc (.cells #[.int .i64 0, .slice none 0 0] 33)) := (Below.refl _ _).alloc (Nat.le_refl _) _
  have hr0 := hr.below hb0
  have hWs : (w.alloc (.cells #[.int .i64 0, .slice none 0 0] 33)).heap.size = w.heap.size + 1 := by simp
  go_enter Tryz.func20, Tryz.ntmps20
  go_wp2_with (first | (go_at_call 51; refine (charsetAt_any _ _).mono ?_; rintro e w' ⟨rfl, rfl⟩; rw [csV2]))
  generalize hW : w.alloc (.cells #[.int .i64 0, .slice none 0 0] 33) = W at *
  go_loopw [7, 8] (fun v r wr => ∃ (k m c : Nat) (out : List Int) (a' : Option Addr), k + m = n ∧ m ≤ c ∧ r = .slice a' m c ∧ Rd W a' (l.drop k) ∧ OwnI wr (w.heap.size + 1) v out ∧ Below (w.heap.size + 1) W wr ∧ Hid (decL 2 l = (decL 2 (l.drop k)).map (out ++ ·)) ∧ out.length ≤ k)
    (fun _ r _ => slLen r)
  case atStart => exact ⟨0, n, cap, [], _, by omega, hcap, rfl, hr0, OwnI.nil _ _, Below.refl _ _, by show _ = _; rw [List.drop_zero]; cases decL 2 l <;> simp, Nat.le_refl _⟩
  case round =>
    obtain ⟨k, m, c, out, a', hk, hmc, rfl, hrk, hown, hbel, hq, hol⟩ := hrel
    have hz : w.heap.size + 1 ≤ wr.heap.size := by have := hbel.size; omega
    have hlk : (l.drop k).length = m := by rw [List.length_drop, hl]; omega
    have hrw : Rd wr a' (l.drop k) := hrk.below (by rw [hWs]; exact hbel)
    have hBk := isB_drop hB k
    by_cases hm : 0 < m
    · have hm' : (0 : Int) < (m : Int) := by omega
      obtain ⟨b, off, rfl, hblt, hcell⟩ := hrk.at_ (by omega)
      clear hcell
      have HR1 : Hid (Calls Tryz.prog 52 #[.iface 106 (.agg #[.int .i64 255]), .slice (some ⟨b, off, none⟩) m c] wr fun e w' => TwoEnd (rdC 2 (l.drop k)) wr e w') := readChar_2 _ m c (l.drop k) wr hlk hrw hBk hm hmc
      have hrle := rdC_le 2 (l.drop k) (by omega)
      generalize hrd : rdC 2 (l.drop k) = r at *
      obtain ⟨g, s⟩ := r
      simp only at hrle
      rw [hlk] at hrle
      by_cases hs : s = 0
      · subst hs
        have HE : Hid (decT 2 l = (8, [])) := decT_no (by omega) (by omega) (by rw [hq.out, decL_none (by omega) (by rw [hrd])]; rfl)
        clear hq hrd
        go_wp2_with fail
        refine Calls.mono HR1.out ?_
        rintro e w1 ⟨rfl, hb1⟩
        have hbl : Below (w.heap.size + 1) W w1 := hbel.trans (hb1.mono hz)
        obtain ⟨hcw, hcw1, hfw, hfw1⟩ := res_block hW hbl
        have hbE : Below w.heap.size w w1 := hb0.trans (hbl.mono (by omega))
        obtain ⟨hk0, hk1⟩ := res_cells hcw hcw1 (.int .i64 8) (.slice none 0 0)
        go_wp2
        refine bodyPost_ret (v := .agg #[.int .i64 8, .slice none 0 0]) (by simp [results, Tryz.results20, go_sem, hk0, hk1]) rfl ?_
        rw [HE.out]
        exact CodEnd.code hbE _ _
      · have hs' : ((s : Int) == 0) = false := by simp; omega
        have HQ : Hid (decL 2 l = (decL 2 (l.drop (k + s))).map ((out ++ [(g : Int)]) ++ ·)) := by
          show _ = _
          rw [hq.out, decL_step (by omega) hs hrd, List.drop_drop, omap_app]
        have HR : Hid (Rd W (if c = s then some ⟨b, off, none⟩ else some ⟨b, off + s, none⟩) (l.drop (k + s))) := (by
          have h := hrk.drop s
          rw [List.drop_drop] at h
          exact h.cut (fun hh => List.drop_of_length_le (by omega)))
        have i1 : (s : Int) ≤ (m : Int) := by omega
        clear hq hrw hlk hrd hrk
        go_wp2_with fail
        refine Calls.mono HR1.out ?_
        rintro e w1 ⟨rfl, hb1⟩
        have hown1 : OwnI w1 (w.heap.size + 1) _ out := hown.below hb1 (Nat.le_refl _)
        have hbl : Below (w.heap.size + 1) W w1 := hbel.trans (hb1.mono hz)
        have hz1 : w.heap.size + 1 ≤ w1.heap.size := by have := hb1.size; omega
        clear hown hb1 HR1
        go_wp2_with (at_builtin; refine wpList_app_newI rfl _ _ rfl (w.heap.size + 1) _ out rfl hown1 1 1 [(g : Int)] rfl rfl rfl (by omega) hz1 ?_; intro v' w2 hown' hb')
        go_wp2
        go_roundw
        case rel => exact ⟨k + s, m - s, c - s, out ++ [(g : Int)], _, by omega, by omega, rfl, HR.out, hown', hbl.trans hb', HQ, by simp; omega⟩
        case measure => simp [slLen]; omega
    · have hm0 : m = 0 := by omega
      subst hm0
      have HE : Hid (decT 2 l = (0, out)) := decT_ok (by omega) (by omega) (by rw [hq.out, decL_nil hlk]; simp)
      obtain ⟨hcw, hcw1, hfw, hfw1⟩ := res_block hW hbel
      have hbE : Below w.heap.size w wr := hb0.trans (hbel.mono (by omega))
      obtain ⟨ao, ocap, hv, -, -⟩ := hown.form
      rw [hv] at hown ⊢
      clear hv
      have HO : Hid (OwnI wr (w.heap.size + 1) (.slice ao out.length ocap) out) := hown
      clear hown
      generalize hN : out.length = N at *
      clear hN hq
      obtain ⟨hk0, hk1⟩ := res_cells hcw hcw1 (.int .i64 0) (.slice ao N ocap)
      go_wp2
      refine bodyPost_ret (v := .agg #[.int .i64 0, .slice ao N ocap]) (by simp [results, Tryz.results20, go_sem, hk0, hk1]) rfl ?_
      rw [HE.out]
      exact CodEnd.some hbE HO.out _ _

set_option maxHeartbeats 1600000 in
set_option maxRecDepth 100000 in
theorem decodeText_3 (a : Option Addr) (n cap : Nat) (l : List Nat) (w : World) (hl : l.length = n) (hr : Rd w a l) (hB : IsB l) (hcap : n ≤ cap) (hn : n ≤ 400) :
    Calls Tryz.prog 20 #[.int .i64 3, .slice a n cap] w fun e w' => CodEnd (decT 3 l) w e w' := by
  have hn' : ¬ (400 : Int) < (n : Int) := by omega
  have hb0 : Below w.heap.size w (w.alloc (.cells #[.int .i64 0, .slice none 0 0] 33)) := (Below.refl _ _).alloc (Nat.le_refl _) _
  have hr0 := hr.below hb0
  have hWs : (w.alloc (.cells #[.int .i64 0, .slice none 0 0] 33)).heap.size = w.heap.size + 1 := by simp
  go_enter Tryz.func20, Tryz.ntmps20
  go_wp2_with (first | (go_at_call 51; refine (charsetAt_any _ _).mono ?_; rintro e w' ⟨rfl, rfl⟩; rw [csV3]))
  generalize hW : w.alloc (.cells #[.int .i64 0, .slice none 0 0] 33) = W at *
  go_loopw [7, 8] (fun v r wr => ∃ (k m c : Nat) (out : List Int) (a' : Option Addr), k + m = n ∧ m ≤ c ∧ r = .slice a' m c ∧ Rd W a' (l.drop k) ∧ OwnI wr (w.heap.size + 1) v out ∧ Below (w.heap.size + 1) W wr ∧ Hid (decL 3 l = (decL 3 (l.drop k)).map (out ++ ·)) ∧ out.length ≤ k)
    (fun _ r _ => slLen r)
  case atStart => exact ⟨0, n, cap, [], _, by omega, hcap, rfl, hr0, OwnI.nil _ _, Below.refl _ _, by show _ = _; rw [List.drop_zero]; cases decL 3 l <;> simp, Nat.le_refl _⟩
  case round =>
    obtain ⟨k, m, c, out, a', hk, hmc, rfl, hrk, hown, hbel, hq, hol⟩ := hrel
    have hz : w.heap.size + 1 ≤ wr.heap.size := by have := hbel.size; omega
    have hlk : (l.drop k).length = m := by rw [List.length_drop, hl]; omega
    have hrw : Rd wr a' (l.drop k) := hrk.below (by rw [hWs]; exact hbel)
    have hBk := isB_drop hB k
    by_cases hm : 0 < m
    · have hm' : (0 : Int) < (m : Int) := by omega
      obtain ⟨b, off, rfl, hblt, hcell⟩ := hrk.at_ (by omega)
      clear hcell
      have HR1 : Hid (Calls Tryz.prog 52 #[.iface 108 (.agg #[]), .slice (some ⟨b, off, none⟩) m c] wr fun e w' => TwoEnd (rdC 3 (l.drop k)) wr e w') := readChar_3 _ m c (l.drop k) wr hlk hrw hBk hm hmc
      have hrle := rdC_le 3 (l.drop k) (by omega)
      generalize hrd : rdC 3 (l.drop k) = r at *
      obtain ⟨g, s⟩ := r
      simp only at hrle
      rw [hlk] at hrle
      by_cases hs : s = 0
      · subst hs
        have HE : Hid (decT 3 l = (8, [])) := decT_no (by omega) (by omega) (by rw [hq.out, decL_none (by omega) (by rw [hrd])]; rfl)
        clear hq hrd
        go_wp2_with fail
        refine Calls.mono HR1.out ?_
        rintro e w1 ⟨rfl, hb1⟩
        have hbl : Below (w.heap.size + 1) W w1 := hbel.trans (hb1.mono hz)
        obtain ⟨hcw, hcw1, hfw, hfw1⟩ := res_block hW hbl
        have hbE : Below w.heap.size w w1 := hb0.trans (hbl.mono (by omega))
        obtain ⟨hk0, hk1⟩ := res_cells hcw hcw1 (.int .i64 8) (.slice none 0 0)
        go_wp2
        refine bodyPost_ret (v := .agg #[.int .i64 8, .slice none 0 0]) (by simp [results, Tryz.results20, go_sem, hk0, hk1]) rfl ?_
        rw [HE.out]
        exact CodEnd.code hbE _ _
      · have hs' : ((s : Int) == 0) = false := by simp; omega
        have HQ : Hid (decL 3 l = (decL 3 (l.drop (k + s))).map ((out ++ [(g : Int)]) ++ ·)) := by
          show _ = _
          rw [hq.out, decL_step (by omega) hs hrd, List.drop_drop, omap_app]
        have HR : Hid (Rd W (if c = s then some ⟨b, off, none⟩ else some ⟨b, off + s, none⟩) (l.drop (k + s))) := (by
          have h := hrk.drop s
          rw [List.drop_drop] at h
          exact h.cut (fun hh => List.drop_of_length_le (by omega)))
        have i1 : (s : Int) ≤ (m : Int) := by omega
        clear hq hrw hlk hrd hrk
        go_wp2_with fail
        refine Calls.mono HR1.out ?_
        rintro e w1 ⟨rfl, hb1⟩
        have hown1 : OwnI w1 (w.heap.size + 1) _ out := hown.below hb1 (Nat.le_refl _)
        have hbl : Below (w.heap.size + 1) W w1 := hbel.trans (hb1.mono hz)
        have hz1 : w.heap.size + 1 ≤ w1.heap.size := by have := hb1.size; omega
        clear hown hb1 HR1
        go_wp2_with (at_builtin; refine wpList_app_newI rfl _ _ rfl (w.heap.size + 1) _ out rfl hown1 1 1 [(g : Int)] rfl rfl rfl (by omega) hz1 ?_; intro v' w2 hown' hb')
        go_wp2
        go_roundw
        case rel => exact ⟨k + s, m - s, c - s, out ++ [(g : Int)], _, by omega, by omega, rfl, HR.out, hown', hbl.trans hb', HQ, by simp; omega⟩
        case measure => simp [slLen]; omega
    · have hm0 : m = 0 := by omega
      subst hm0
      have HE : Hid (decT 3 l = (0, out)) := decT_ok (by omega) (by omega) (by rw [hq.out, decL_nil hlk]; simp)
      obtain ⟨hcw, hcw1, hfw, hfw1⟩ := res_block hW hbel
      have hbE : Below w.heap.size w wr := hb0.trans (hbel.mono (by omega))
      obtain ⟨ao, ocap, hv, -, -⟩ := hown.form
      rw [hv] at hown ⊢
      clear hv
      have HO : Hid (OwnI wr (w.heap.size + 1) (.slice ao out.length ocap) out) := hown
      clear hown
      generalize hN : out.length = N at *
      clear hN hq
      obtain ⟨hk0, hk1⟩ := res_cells hcw hcw1 (.int .i64 0) (.slice ao N ocap)
      go_wp2
      refine bodyPost_ret (v := .agg #[.int .i64 0, .slice ao N ocap]) (by simp [results, Tryz.results20, go_sem, hk0, hk1]) rfl ?_
      rw [HE.out]
      exact CodEnd.some hbE HO.out _ _

set_option maxHeartbeats 1600000 in
set_option maxRecDepth 100000 in
theorem decodeText_4 (a : Option Addr) (n cap : Nat) (l : List Nat) (w : World) (hl : l.length = n) (hr : Rd w a l) (hB : IsB l) (hcap : n ≤ cap) (hn : n ≤ 400) :
    Calls Tryz.prog 20 #[.int .i64 4, .slice a n cap] w fun e w' => CodEnd (decT 4 l) w e w' := by
  have hn' : ¬ (400 : Int) < (n : Int) := by omega
  have hb0 : Below w.heap.size w (w.alloc (.cells #[.int .i64 0, .slice none 0 0] 33)) := (Below.refl _ _).alloc (Nat.le_refl _) _
  have hr0 := hr.below hb0
  have hWs : (w.alloc (.cells #[.int .i64 0, .slice none 0 0] 33)).heap.size = w.heap.size + 1 := by simp
  go_enter Tryz.func20, Tryz.ntmps20
  go_wp2_with (first | (go_at_call 51; refine (charsetAt_any _ _).mono ?_; rintro e w' ⟨rfl, rfl⟩; rw [csV4]))
  generalize hW : w.alloc (.cells #[.int .i64 0, .slice none 0 0] 33) = W at *
  go_loopw [7, 8] (fun v r wr => ∃ (k m c : Nat) (out : List Int) (a' : Option Addr), k + m = n ∧ m ≤ c ∧ r = .slice a' m c ∧ Rd W a' (l.drop k) ∧ OwnI wr (w.heap.size + 1) v out ∧ Below (w.heap.size + 1) W wr ∧ Hid (decL 4 l = (decL 4 (l.drop k)).map (out ++ ·)) ∧ out.length ≤ k)
    (fun _ r _ => slLen r)
  case atStart => exact ⟨0, n, cap, [], _, by omega, hcap, rfl, hr0, OwnI.nil _ _, Below.refl _ _, by show _ = _; rw [List.drop_zero]; cases decL 4 l <;> simp, Nat.le_refl _⟩
  case round =>
    obtain ⟨k, m, c, out, a', hk, hmc, rfl, hrk, hown, hbel, hq, hol⟩ := hrel
    have hz : w.heap.size + 1 ≤ wr.heap.size := by have := hbel.size; omega
    have hlk : (l.drop k).length = m := by rw [List.length_drop, hl]; omega
    have hrw : Rd wr a' (l.drop k) := hrk.below (by rw [hWs]; exact hbel)
    have hBk := isB_drop hB k
    by_cases hm : 0 < m
    · have hm' : (0 : Int) < (m : Int) := by omega
      obtain ⟨b, off, rfl, hblt, hcell⟩ := hrk.at_ (by omega)
      clear hcell
      have HR1 : Hid (Calls Tryz.prog 52 #[.iface 109 (.agg #[]), .slice (some ⟨b, off, none⟩) m c] wr fun e w' => TwoEnd (rdC 4 (l.drop k)) wr e w') := readChar_4 _ m c (l.drop k) wr hlk hrw hBk hm hmc
      have hrle := rdC_le 4 (l.drop k) (by omega)
      generalize hrd : rdC 4 (l.drop k) = r at *
      obtain ⟨g, s⟩ := r
      simp only at hrle
      rw [hlk] at hrle
      by_cases hs : s = 0
      · subst hs
        have HE : Hid (decT 4 l = (8, [])) := decT_no (by omega) (by omega) (by rw [hq.out, decL_none (by omega) (by rw [hrd])]; rfl)
        clear hq hrd
        go_wp2_with fail
        refine Calls.mono HR1.out ?_
        rintro e w1 ⟨rfl, hb1⟩
        have hbl : Below (w.heap.size + 1) W w1 := hbel.trans (hb1.mono hz)
        obtain ⟨hcw, hcw1, hfw, hfw1⟩ := res_block hW hbl
        have hbE : Below w.heap.size w w1 := hb0.trans (hbl.mono (by omega))
        obtain ⟨hk0, hk1⟩ := res_cells hcw hcw1 (.int .i64 8) (.slice none 0 0)
        go_wp2
        refine bodyPost_ret (v := .agg #[.int .i64 8, .slice none 0 0]) (by simp [results, Tryz.results20, go_sem, hk0, hk1]) rfl ?_
        rw [HE.out]
        exact CodEnd.code hbE _ _
      · have hs' : ((s : Int) == 0) = false := by simp; omega
        have HQ : Hid (decL 4 l = (decL 4 (l.drop (k + s))).map ((out ++ [(g : Int)]) ++ ·)) := by
          show _ = _
          rw [hq.out, decL_step (by omega) hs hrd, List.drop_drop, omap_app]
        have HR : Hid (Rd W (if c = s then some ⟨b, off, none⟩ else some ⟨b, off + s, none⟩) (l.drop (k + s))) := (by
          have h := hrk.drop s
          rw [List.drop_drop] at h
          exact h.cut (fun hh => List.drop_of_length_le (by omega)))
        have i1 : (s : Int) ≤ (m : Int) := by omega
        clear hq hrw hlk hrd hrk
        go_wp2_with fail
        refine Calls.mono HR1.out ?_
        rintro e w1 ⟨rfl, hb1⟩
        have hown1 : OwnI w1 (w.heap.size + 1) _ out := hown.below hb1 (Nat.le_refl _)
        have hbl : Below (w.heap.size + 1) W w1 := hbel.trans (hb1.mono hz)
        have hz1 : w.heap.size + 1 ≤ w1.heap.size := by have := hb1.size; omega
        clear hown hb1 HR1
        go_wp2_with (at_builtin; refine wpList_app_newI rfl _ _ rfl (w.heap.size + 1) _ out rfl hown1 1 1 [(g : Int)] rfl rfl rfl (by omega) hz1 ?_; intro v' w2 hown' hb')
        go_wp2
        go_roundw
        case rel => exact ⟨k + s, m - s, c - s, out ++ [(g : Int)], _, by omega, by omega, rfl, HR.out, hown', hbl.trans hb', HQ, by simp; omega⟩
        case measure => simp [slLen]; omega
    · have hm0 : m = 0 := by omega
      subst hm0
      have HE : Hid (decT 4 l = (0, out)) := decT_ok (by omega) (by omega) (by rw [hq.out, decL_nil hlk]; simp)
      obtain ⟨hcw, hcw1, hfw, hfw1⟩ := res_block hW hbel
      have hbE : Below w.heap.size w wr := hb0.trans (hbel.mono (by omega))
      obtain ⟨ao, ocap, hv, -, -⟩ := hown.form
      rw [hv] at hown ⊢
      clear hv
      have HO : Hid (OwnI wr (w.heap.size + 1) (.slice ao out.length ocap) out) := hown
      clear hown
      generalize hN : out.length = N at *
      clear hN hq
      obtain ⟨hk0, hk1⟩ := res_cells hcw hcw1 (.int .i64 0) (.slice ao N ocap)
      go_wp2
      refine bodyPost_ret (v := .agg #[.int .i64 0, .slice ao N ocap]) (by simp [results, Tryz.results20, go_sem, hk0, hk1]) rfl ?_
      rw [HE.out]
      exact CodEnd.some hbE HO.out _ _

set_option maxHeartbeats 1600000 in
set_option maxRecDepth 100000 in
theorem decodeText_5 (a : Option Addr) (n cap : Nat) (l : List Nat) (w : World) (hl : l.length = n) (hr : Rd w a l) (hB : IsB l) (hcap : n ≤ cap) (hn : n ≤ 400) :
    Calls Tryz.prog 20 #[.int .i64 5, .slice a n cap] w fun e w' => CodEnd (decT 5 l) w e w' := by
  have hn' : ¬ (400 : Int) < (n : Int) := by omega
  have hb0 : Below w.heap.size w (w.alloc (.cells #[.int .i64 0, .slice none 0 0] 33)) := (Below.refl _ _).alloc (Nat.le_refl _) _
  have hr0 := hr.below hb0
  have hWs : (w.alloc (.cells #[.int .i64 0, .slice none 0 0] 33)).heap.size = w.heap.size + 1 := by simp
  go_enter Tryz.func20, Tryz.ntmps20
  go_wp2_with (first | (go_at_call 51; refine (charsetAt_any _ _).mono ?_; rintro e w' ⟨rfl, rfl⟩; rw [csV5]))
  generalize hW : w.alloc (.cells #[.int .i64 0, .slice none 0 0] 33) = W at *
  go_loopw [7, 8] (fun v r wr => ∃ (k m c : Nat) (out : List Int) (a' : Option Addr), k + m = n ∧ m ≤ c ∧ r = .slice a' m c ∧ Rd W a' (l.drop k) ∧ OwnI wr (w.heap.size + 1) v out ∧ Below (w.heap.size + 1) W wr ∧ Hid (decL 5 l = (decL 5 (l.drop k)).map (out ++ ·)) ∧ out.length ≤ k)
    (fun _ r _ => slLen r)
  case atStart => exact ⟨0, n, cap, [], _, by omega, hcap, rfl, hr0, OwnI.nil _ _, Below.refl _ _, by show _ = _; rw [List.drop_zero]; cases decL 5 l <;> simp, Nat.le_refl _⟩
  case round =>
    obtain ⟨k, m, c, out, a', hk, hmc, rfl, hrk, hown, hbel, hq, hol⟩ := hrel
    have hz : w.heap.size + 1 ≤ wr.heap.size := by have := hbel.size; omega
    have hlk : (l.drop k).length = m := by rw [List.length_drop, hl]; omega
    have hrw : Rd wr a' (l.drop k) := hrk.below (by rw [hWs]; exact hbel)
    have hBk := isB_drop hB k
    by_cases hm : 0 < m
    · have hm' : (0 : Int) < (m : Int) := by omega
      obtain ⟨b, off, rfl, hblt, hcell⟩ := hrk.at_ (by omega)
      clear hcell
      have HR1 : Hid (Calls Tryz.prog 52 #[.iface 110 (.agg #[]), .slice (some ⟨b, off, none⟩) m c] wr fun e w' => TwoEnd (rdC 5 (l.drop k)) wr e w') := readChar_5 _ m c (l.drop k) wr hlk hrw hBk hm hmc
      have hrle := rdC_le 5 (l.drop k) (by omega)
      generalize hrd : rdC 5 (l.drop k) = r at *
      obtain ⟨g, s⟩ := r
      simp only at hrle
      rw [hlk] at hrle
      by_cases hs : s = 0
      · subst hs
        have HE : Hid (decT 5 l = (8, [])) := decT_no (by omega) (by omega) (by rw [hq.out, decL_none (by omega) (by rw [hrd])]; rfl)
        clear hq hrd
        go_wp2_with fail
        refine Calls.mono HR1.out ?_
        rintro e w1 ⟨rfl, hb1⟩
        have hbl : Below (w.heap.size + 1) W w1 := hbel.trans (hb1.mono hz)
        obtain ⟨hcw, hcw1, hfw, hfw1⟩ := res_block hW hbl
        have hbE : Below w.heap.size w w1 := hb0.trans (hbl.mono (by omega))
        obtain ⟨hk0, hk1⟩ := res_cells hcw hcw1 (.int .i64 8) (.slice none 0 0)
        go_wp2
        refine bodyPost_ret (v := .agg #[.int .i64 8, .slice none 0 0]) (by simp [results, Tryz.results20, go_sem, hk0, hk1]) rfl ?_
        rw [HE.out]
        exact CodEnd.code hbE _ _
      · have hs' : ((s : Int) == 0) = false := by simp; omega
        have HQ : Hid (decL 5 l = (decL 5 (l.drop (k + s))).map ((out ++ [(g : Int)]) ++ ·)) := by
          show _ = _
          rw [hq.out, decL_step (by omega) hs hrd, List.drop_drop, omap_app]
        have HR : Hid (Rd W (if c = s then some ⟨b, off, none⟩ else some ⟨b, off + s, none⟩) (l.drop (k + s))) := (by
          have h := hrk.drop s
          rw [List.drop_drop] at h
          exact h.cut (fun hh => List.drop_of_length_le (by omega)))
        have i1 : (s : Int) ≤ (m : Int) := by omega
        clear hq hrw hlk hrd hrk
        go_wp2_with fail
        refine Calls.mono HR1.out ?_
        rintro e w1 ⟨rfl, hb1⟩
        have hown1 : OwnI w1 (w.heap.size + 1) _ out := hown.below hb1 (Nat.le_refl _)
        have hbl : Below (w.heap.size + 1) W w1 := hbel.trans (hb1.mono hz)
        have hz1 : w.heap.size + 1 ≤ w1.heap.size := by have := hb1.size; omega
        clear hown hb1 HR1
        go_wp2_with (at_builtin; refine wpList_app_newI rfl _ _ rfl (w.heap.size + 1) _ out rfl hown1 1 1 [(g : Int)] rfl rfl rfl (by omega) hz1 ?_; intro v' w2 hown' hb')
        go_wp2
        go_roundw
        case rel => exact ⟨k + s, m - s, c - s, out ++ [(g : Int)], _, by omega, by omega, rfl, HR.out, hown', hbl.trans hb', HQ, by simp; omega⟩
        case measure => simp [slLen]; omega
    · have hm0 : m = 0 := by omega
      subst hm0
      have HE : Hid (decT 5 l = (0, out)) := decT_ok (by omega) (by omega) (by rw [hq.out, decL_nil hlk]; simp)
      obtain ⟨hcw, hcw1, hfw, hfw1⟩ := res_block hW hbel
      have hbE : Below w.heap.size w wr := hb0.trans (hbel.mono (by omega))
      obtain ⟨ao, ocap, hv, -, -⟩ := hown.form
      rw [hv] at hown ⊢
      clear hv
      have HO : Hid (OwnI wr (w.heap.size + 1) (.slice ao out.length ocap) out) := hown
      clear hown
      generalize hN : out.length = N at *
      clear hN hq
      obtain ⟨hk0, hk1⟩ := res_cells hcw hcw1 (.int .i64 0) (.slice ao N ocap)
      go_wp2
      refine bodyPost_ret (v := .agg #[.int .i64 0, .slice ao N ocap]) (by simp [results, Tryz.results20, go_sem, hk0, hk1]) rfl ?_
      rw [HE.out]
      exact CodEnd.some hbE HO.out _ _

set_option maxHeartbeats 1600000 in
set_option maxRecDepth 100000 in
theorem decodeText_any (cs : Int) (a : Option Addr) (n cap : Nat) (l : List Nat) (w : World) (hl : l.length = n) (hr : Rd w a l) (hB : IsB l) (hcap : n ≤ cap) :
    Calls Tryz.prog 20 #[.int .i64 cs, .slice a n cap] w fun e w' => CodEnd (decT cs l) w e w' := by
  by_cases hcs : 1 ≤ cs ∧ cs ≤ 5
  · by_cases hn : 400 < n
    · have H : Hid (decT cs l = (2, [])) := decT_many hcs (by omega)
      have hn' : (400 : Int) < (n : Int) := by omega
      go_enter Tryz.func20, Tryz.ntmps20
      go_wp2_with (first | (go_at_call 51; refine (charsetAt_any _ _).mono ?_; rintro e w' ⟨rfl, rfl⟩; rw [decide_eq_true hcs]))
      go_returns
      exact ⟨.slice none 0 0, by rw [H.out], by rw [H.out]; exact OwnI.nil _ _, by go_grown⟩
    · rcases cs_cases hcs with rfl | rfl | rfl | rfl | rfl
      · exact decodeText_1 a n cap l w hl hr hB hcap (by omega)
      · exact decodeText_2 a n cap l w hl hr hB hcap (by omega)
      · exact decodeText_3 a n cap l w hl hr hB hcap (by omega)
      · exact decodeText_4 a n cap l w hl hr hB hcap (by omega)
      · exact decodeText_5 a n cap l w hl hr hB hcap (by omega)
  · have H : Hid (decT cs l = (4, [])) := decT_cs hcs
    go_enter Tryz.func20, Tryz.ntmps20
    go_wp2_with (first | (go_at_call 51; refine (charsetAt_any _ _).mono ?_; rintro e w' ⟨rfl, rfl⟩; rw [decide_eq_false hcs]))
    go_returns
    exact ⟨.slice none 0 0, by rw [H.out], by rw [H.out]; exact OwnI.nil _ _, by go_grown⟩
end Go.Proofs.YtooifkdbpghcfaaGreatDoor
