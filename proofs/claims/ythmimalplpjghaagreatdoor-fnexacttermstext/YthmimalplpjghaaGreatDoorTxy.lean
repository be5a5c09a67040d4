/- The text of terms, the program's TermsText: at every terms; no conditions beyond those that each fact names. -/
import Derived.Test.YthmimalplpjghaaGreatDoorTxq
import Derived.Test.YthmimalplpjghaaGreatDoorTph
namespace Go.Proofs.YthmimalplpjghaaGreatDoor
open Go.RowKit
set_option linter.unusedVariables false

theorem growV_at {o : TmR} {p : SlT} {cs : List Value} : (o.k = 2 → growV o p cs = .iface 161 (.agg #[.int .i64 o.n])) ∧ (o.k = 3 → growV o p cs = .iface 164 (.agg #[.int .i64 o.n])) ∧ (o.k = 4 → growV o p cs = .iface 166 (.agg #[.int .i64 o.n]))
    ∧ (o.k = 5 → growV o p cs = .iface 168 (.agg #[.int .i64 o.n])) ∧ (o.k = 6 → growV o p cs = .iface 170 (.agg #[slW p.1])) ∧ (o.k = 7 → growV o p cs = .iface 172 (.agg #[slW p.1])) ∧ (o.k = 8 → growV o p cs = .iface 174 (.agg #[slW p.2]))
    ∧ (o.k = 9 → growV o p cs = .iface 177 (.agg #[cs.getD 0 .nilIface])) ∧ (o.k = 10 → growV o p cs = .iface 179 (.agg #[cs.getD 0 .nilIface, cs.getD 1 .nilIface])) ∧ (o.k = 11 → growV o p cs = .iface 180 (.agg #[cs.getD 0 .nilIface, cs.getD 1 .nilIface]))
    ∧ (o.k = 1 → growV o p cs = .iface 191 (.agg #[])) := by
  unfold growV
  refine ⟨fun h => ?_, fun h => ?_, fun h => ?_, fun h => ?_, fun h => ?_, fun h => ?_, fun h => ?_, fun h => ?_, fun h => ?_, fun h => ?_, fun h => ?_⟩ <;> (rw [h]; rfl)
theorem TrT.if_ {l : List TmR} {ps : Nat → SlT} {f i : Nat} {v : Value} (h : TrT l ps f i v) : i < l.length ∧ ∃ t u, v = .iface t u := by
  cases f with
  | zero => exact h.elim
  | succ f =>
    obtain ⟨hi, cs, rfl, -⟩ := h
    exact ⟨hi, growV_if _ _ _⟩
theorem twK_k {k : Int} (h : k = 10 ∨ k = 11) : twK k = true := by rcases h with rfl | rfl <;> rfl

theorem tx_leaf {l : List TmR} {f i : Nat} (h : 2 ≤ (nthTm l i).k ∧ (nthTm l i).k ≤ 8) : txT l (f + 1) i = twN (nthTm l i).k.toNat ++ [32] ++ leT (nthTm l i) := by
  have h2 : twK (nthTm l i).k = false := by unfold twK; simp; omega
  unfold txT
  rw [if_neg (by omega), if_neg (by omega), h2]
  simp
theorem tx_all {l : List TmR} {f i : Nat} (h : (nthTm l i).k = 1) : txT l (f + 1) i = twN 1 := by
  unfold txT
  rw [if_pos h, h]
  simp
theorem tx_not {l : List TmR} {f i : Nat} (h : (nthTm l i).k = 9) : txT l (f + 1) i = twN 9 ++ [32] ++ txT l f (nthTm l i).l.toNat := by
  have hx : txT l (f + 1) i = twN (nthTm l i).k.toNat ++ (if (nthTm l i).k = 1 then [] else if (nthTm l i).k = 9 then [32] ++ txT l f (nthTm l i).l.toNat else if twK (nthTm l i).k then [32] ++ txT l f (nthTm l i).l.toNat ++ [32] ++ txT l f (nthTm l i).r.toNat else [32] ++ leT (nthTm l i)) := rfl
  rw [hx, if_neg (by omega), if_pos h, h]
  simp
theorem tx_two {l : List TmR} {f i : Nat} (h : twK (nthTm l i).k = true) : txT l (f + 1) i = twN (nthTm l i).k.toNat ++ [32] ++ txT l f (nthTm l i).l.toNat ++ [32] ++ txT l f (nthTm l i).r.toNat := by
  have hk : (nthTm l i).k = 10 ∨ (nthTm l i).k = 11 := by unfold twK at h; simpa using h
  have hx : txT l (f + 1) i = twN (nthTm l i).k.toNat ++ (if (nthTm l i).k = 1 then [] else if (nthTm l i).k = 9 then [32] ++ txT l f (nthTm l i).l.toNat else if twK (nthTm l i).k then [32] ++ txT l f (nthTm l i).l.toNat ++ [32] ++ txT l f (nthTm l i).r.toNat else [32] ++ leT (nthTm l i)) := rfl
  rw [hx, if_neg (by omega), if_neg (by omega), if_pos h]
  simp

set_option maxRecDepth 100000 in
theorem treeText_any (l : List TmR) (ps : Nat → SlT) {lo : Nat} (w : World) (hps : ∀ i, i < l.length → IsTm lo w (ps i) (nthTm l i)) (hG : ∀ j, j < l.length → GoodT l j) (hT : TabT w) (hF : TabF w) (hW : TabW w) :
    ∀ f, f ≤ 12 → ∀ i v, TrT l ps f i v → ∀ W, Below w.heap.size w W → Calls Tryz.prog 57 #[v] W fun e w' => e = .returned (.string (str (txT l f i))) ∧ Below W.heap.size W w' := by
  intro f
  induction f with
  | zero => intro _ i v h; exact h.elim
  | succ f ih =>
    intro hf i v h W hb
    have ih := ih (by omega)
    obtain ⟨hi, cs, rfl, h9, h2⟩ := h
    obtain ⟨g1, g2, g3⟩ := hG i hi
    obtain ⟨hk, hy8, hbd⟩ := ow_bd g1
    have hI := (hps i hi).below hb
    obtain ⟨v2, v3, v4, v5, v6, v7, v8, v9, v10, v11, v1⟩ := @growV_at (nthTm l i) (ps i) cs
    have hTW := hT.below hb
    have hFW := hF.below hb
    have hWW := hW.below hb
    have hle : leT (nthTm l i) = if (nthTm l i).k = 2 then fxL (nthTm l i).n.toNat else if (nthTm l i).k = 6 ∨ (nthTm l i).k = 7 then (encT 4 (nthTm l i).c).2 else if (nthTm l i).k = 8 then txY (nthTm l i).y else dgF 3 (nthTm l i).n.toNat := rfl
    by_cases k2 : (nthTm l i).k = 2
    · obtain ⟨j, hj, e⟩ := bdT_2 g1 k2
      rw [v2 k2, tx_leaf (by omega), hle, if_pos k2, k2, e, Int.toNat_natCast]
      exact treeText_2 j hj W hTW hFW
    by_cases k3 : (nthTm l i).k = 3
    · obtain ⟨j, hj, e⟩ := bdT_345 g1 (by omega)
      rw [v3 k3, tx_leaf (by omega), hle, if_neg (by omega), if_neg (by omega), if_neg (by omega), k3, e, Int.toNat_natCast]
      exact treeText_3 j hj W hTW hWW
    by_cases k4 : (nthTm l i).k = 4
    · obtain ⟨j, hj, e⟩ := bdT_345 g1 (by omega)
      rw [v4 k4, tx_leaf (by omega), hle, if_neg (by omega), if_neg (by omega), if_neg (by omega), k4, e, Int.toNat_natCast]
      exact treeText_4 j hj W hTW hWW
    by_cases k5 : (nthTm l i).k = 5
    · obtain ⟨j, hj, e⟩ := bdT_345 g1 (by omega)
      rw [v5 k5, tx_leaf (by omega), hle, if_neg (by omega), if_neg (by omega), if_neg (by omega), k5, e, Int.toNat_natCast]
      exact treeText_5 j hj W hTW hWW
    by_cases k6 : (nthTm l i).k = 6
    · have hc := (bdT_67 g1 (by omega)).1
      have hx := hI.1
      rw [v6 k6, tx_leaf (by omega), hle, if_neg (by omega), if_pos (by omega), k6]
      generalize (ps i).1 = q at *
      obtain ⟨a, n, c⟩ := q
      exact treeText_6 a n c _ hx.1 (by have := hx.1; dsimp only at this; omega) W hTW hx.2.2.2.1
    by_cases k7 : (nthTm l i).k = 7
    · have hc := (bdT_67 g1 (by omega)).1
      have hx := hI.1
      rw [v7 k7, tx_leaf (by omega), hle, if_neg (by omega), if_pos (by omega), k7]
      generalize (ps i).1 = q at *
      obtain ⟨a, n, c⟩ := q
      exact treeText_7 a n c _ hx.1 (by have := hx.1; dsimp only at this; omega) W hTW hx.2.2.2.1
    by_cases k8 : (nthTm l i).k = 8
    · have hc := rfV_A (hy8 k8)
      have hx := hI.2
      rw [v8 k8, tx_leaf (by omega), hle, if_neg (by omega), if_neg (by omega), if_pos k8, k8]
      generalize (ps i).2 = q at *
      obtain ⟨a, n, c⟩ := q
      exact treeText_8 a n c _ hx.1 (by have := hx.1; dsimp only at this; omega) (hy8 k8) W hTW hx.2.2.2.1 hWW
    by_cases k9 : (nthTm l i).k = 9
    · obtain ⟨c, rfl, hc⟩ := h9 k9
      obtain ⟨hci, t, u, rfl⟩ := hc.if_
      rw [v9 k9, tx_not k9]
      exact treeText_9 t u _ (txT_lt hG (by omega) hci) W hTW (show Hid _ from fun W' h' => ih _ _ hc W' (hb.trans (h'.mono hb.size)))
    by_cases k10 : (nthTm l i).k = 10
    · obtain ⟨c, d, rfl, hc, hd⟩ := h2 (twK_k (by omega))
      obtain ⟨hci, t, u, rfl⟩ := hc.if_
      obtain ⟨hdi, t2, u2, rfl⟩ := hd.if_
      rw [v10 k10, tx_two (twK_k (by omega)), k10]
      exact treeText_10 t t2 u u2 _ _ (txT_lt hG (by omega) hci) (txT_lt hG (by omega) hdi) W hTW (show Hid _ from fun W' h' => ih _ _ hc W' (hb.trans (h'.mono hb.size))) (show Hid _ from fun W' h' => ih _ _ hd W' (hb.trans (h'.mono hb.size)))
    by_cases k11 : (nthTm l i).k = 11
    · obtain ⟨c, d, rfl, hc, hd⟩ := h2 (twK_k (by omega))
      obtain ⟨hci, t, u, rfl⟩ := hc.if_
      obtain ⟨hdi, t2, u2, rfl⟩ := hd.if_
      rw [v11 k11, tx_two (twK_k (by omega)), k11]
      exact treeText_11 t t2 u u2 _ _ (txT_lt hG (by omega) hci) (txT_lt hG (by omega) hdi) W hTW (show Hid _ from fun W' h' => ih _ _ hc W' (hb.trans (h'.mono hb.size))) (show Hid _ from fun W' h' => ih _ _ hd W' (hb.trans (h'.mono hb.size)))
    have k1 : (nthTm l i).k = 1 := by omega
    rw [v1 k1, tx_all k1]
    exact treeText_1 W hTW

/-- The fault of terms, and their text. -/
def ttV (l : List TmR) : Int × List Nat := if tmV l = 0 then (0, txT l l.length (l.length - 1)) else (tmV l, [])
theorem ps_tm {lo : Nat} {w : World} {a : Option Addr} {l : List TmR} {ps : Nat → SlT} (h : PsT lo w a l ps) : ∀ i, i < l.length → IsTm lo w (ps i) (nthTm l i) := fun i hi => by
  rcases h with rfl | ⟨b, off, -, -, hc⟩
  · cases hi
  · exact (hc i hi).2
set_option maxHeartbeats 1600000 in
set_option maxRecDepth 100000 in
theorem termsText_any (s : SlQ) (l : List TmR) {lo : Nat} (w : World) (hs : IsTs lo w s l) (hf : FtUs l) (hT : TabT w) (hF : TabF w) (hW : TabW w) :
    Calls Tryz.prog 14 #[slW s] w fun e w' => e = .returned (.agg #[.int .i64 (ttV l).1, .string (str (ttV l).2)]) ∧ Below w.heap.size w w' := by
  have hb0 : Below w.heap.size w (w.alloc (.cells #[.int .i64 0, .string ⟨#[]⟩] 30)) := (Below.refl _ _).alloc (Nat.le_refl _) _
  have hWs : (w.alloc (.cells #[.int .i64 0, .string ⟨#[]⟩] 30)).heap.size = w.heap.size + 1 := by simp
  obtain ⟨ps, hps⟩ := (hs.below hb0).2.2.2.ps
  have HC := treeOf_any s l ps _ (hs.below hb0) hf hps
  have HX : Hid (∀ W, (trV l ps).2 = 0 → Below (w.heap.size + 1) (w.alloc (.cells #[.int .i64 0, .string ⟨#[]⟩] 30)) W → Calls Tryz.prog 57 #[(trV l ps).1] W fun e w' => e = .returned (.string (str (txT l l.length (l.length - 1)))) ∧ Below W.heap.size W w') := fun W h hb => by
    obtain ⟨hn, hG, hTr⟩ := trV_tr h
    rw [← hWs] at hb
    exact treeText_any l ps _ (ps_tm hps) hG (hT.below hb0) (hF.below hb0) (hW.below hb0) l.length hn.2 _ _ hTr W hb
  have hv : ttV l = if (trV l ps).2 = 0 then (0, txT l l.length (l.length - 1)) else ((trV l ps).2, []) := by unfold ttV; rw [trV_tm]
  obtain ⟨sa, sn, sc⟩ := s
  dsimp only [slW] at *
  generalize trV l ps = rv at *
  obtain ⟨v, c⟩ := rv
  dsimp only at *
  generalize ttV l = r at *
  generalize txT l l.length (l.length - 1) = x at *
  clear hps hs hf hT hF hW
  by_cases h0 : c = 0
  · subst h0
    rw [if_pos rfl] at hv
    subst hv
    go_enter Tryz.func14, Tryz.ntmps14
    go_wp2_with fail
    refine HC.mono ?_
    rintro e w1 ⟨rfl, hb1⟩
    rw [hWs] at hb1
    have hbel : Below w.heap.size w w1 := hb0.trans (hb1.mono (by omega))
    go_wp2_with fail
    refine (HX.out w1 (by first | rfl | trivial) hb1).mono ?_
    rintro e w2 ⟨rfl, hb2⟩
    have hbl : Below (w.heap.size + 1) (w.alloc (.cells #[.int .i64 0, .string ⟨#[]⟩] 30)) w2 := hb1.trans (hb2.mono (by have := hb1.size; omega))
    have hbel2 : Below w.heap.size w w2 := hbel.trans (hb2.mono hbel.size)
    obtain ⟨hcw, hcw1, hfw, hfw1⟩ := res_block rfl hbl
    obtain ⟨hk0, hk1⟩ := res_cells hcw hcw1 (.int .i64 0) (.string (str x))
    clear hb1 hb2 hbl HC HX
    go_wp2
    refine bodyPost_ret (v := .agg #[.int .i64 0, .string (str x)]) (by simp [results, Tryz.results14, go_sem, hk0, hk1]) rfl ?_
    exact ⟨rfl, (hbel2.setCell (Nat.le_refl _) _).setCell (Nat.le_refl _) _⟩
  · rw [if_neg h0] at hv
    subst hv
    have HS : Hid (str [] = ⟨#[]⟩) := rfl
    go_enter Tryz.func14, Tryz.ntmps14
    go_wp2_with fail
    refine HC.mono ?_
    rintro e w1 ⟨rfl, hb1⟩
    rw [hWs] at hb1
    have hbel : Below w.heap.size w w1 := hb0.trans (hb1.mono (by omega))
    obtain ⟨hcw, hcw1, hfw, hfw1⟩ := res_block rfl hb1
    obtain ⟨hk0, hk1⟩ := res_cells hcw hcw1 (.int .i64 c) (.string ⟨#[]⟩)
    clear hb1 HC HX
    go_wp2
    refine bodyPost_ret (v := .agg #[.int .i64 c, .string ⟨#[]⟩]) (by simp [results, Tryz.results14, go_sem, hk0, hk1]) rfl ?_
    exact ⟨by rw [HS.out], (hbel.setCell (Nat.le_refl _) _).setCell (Nat.le_refl _) _⟩
end Go.Proofs.YthmimalplpjghaaGreatDoor
