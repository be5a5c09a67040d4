/- The text of terms, the model's TermsText: at every terms; no conditions beyond those that each fact names · A change's row over what is listed, with the world's own shape kept: a wrap; no conditions beyond those that it names. -/
import Derived.Test.YthmimalplpjghaaGreatDoorTxn
import Derived.Test.YthmimalplpjghaaGreatDoorTxy
import Derived.Test.YthmimalplpjghaaGreatDoorProg
import Derived.Handed
import Derived.HandedShaped
import Derived.Shelf.Vars
namespace Go.Proofs.YthmimalplpjghaaGreatDoor
open Go.RowKit
set_option linter.unusedVariables false

set_option maxHeartbeats 1600000 in
set_option maxRecDepth 100000 in
theorem l12Text_step (b off n cap i : Nat) (k : Int) (hk : 1 ≤ k ∧ k ≤ 11) (x : List Nat) (hx : x.length ≤ 99990000) (w : World) (hbw : b < w.heap.size) (hi : i < n) (c0 : w.cell? ⟨b, off + i * 6, none⟩ = some (.int .i64 k))
    (HT : ∀ W, Below w.heap.size w W → Calls Tryz.prog 95 #[.slice (some ⟨b, off, none⟩) n cap, .int .i64 (i : Int)] W fun e w' => e = .returned (.string (str x)) ∧ Below W.heap.size W w') :
    Calls Tryz.prog 49 #[.slice (some ⟨b, off, none⟩) n cap, .int .i64 (i : Int)] w fun e w' => e = .returned (.string (str (twN k.toNat ++ x))) ∧ Below w.heap.size w w' := by
  have hki : (i : Int) < (n : Int) := by omega
  have HW := l12Word_any k w hk
  have HP : Hid (str (twN k.toNat) ++ str x = str (twN k.toNat ++ x)) := str_plusY _ _
  have hs : (str (twN k.toNat)).size ≤ 7 := by rw [str_size]; exact twN_len _
  have hs2 : (str x).size ≤ 99990000 := by rw [str_size]; exact hx
  have hz : ¬ 9223372036854775807 < (str (twN k.toNat)).size + (str x).size := by omega
  have HT : Hid _ := HT
  generalize str (twN k.toNat ++ x) = y at *
  generalize str (twN k.toNat) = u at *
  generalize str x = v at *
  clear hk hx
  go_enter Tryz.func49, Tryz.ntmps49
  go_wp2_with fail
  refine HW.mono ?_
  rintro e w1 ⟨rfl, hb1⟩
  go_wp2_with fail
  refine (HT.out w1 hb1).mono ?_
  rintro e w2 ⟨rfl, hb2⟩
  have hB2 := hb1.trans (hb2.mono hb1.size)
  clear HW HT
  go_wp2
  go_ret
  exact ⟨by rw [← HP.out]; rfl, hB2⟩

theorem tl_len {l : List TmR} (hG : ∀ j, j < l.length → GoodT l j) {f i : Nat} (hf : f + 1 ≤ 12) (hi : i < l.length) {x : List Nat} (h : txT l (f + 1) i = twN (nthTm l i).k.toNat ++ x) : x.length ≤ 99990000 := by
  have := txT_lt hG hf hi
  rw [h, List.length_append] at this
  omega
set_option maxRecDepth 100000 in
theorem l12Text_any (b off n cap : Nat) (l : List TmR) (ps : Nat → SlT) {lo : Nat} (w : World) (hl : l.length = n) (hbw : b < w.heap.size) (hc : ∀ i, i < l.length → Tc6 w b (off + i * 6) (ps i) (nthTm l i) ∧ IsTm lo w (ps i) (nthTm l i)) (hG : ∀ j, j < l.length → GoodT l j) :
    ∀ f, f ≤ 12 → ∀ i, i < f → i < l.length → ∀ W, Below w.heap.size w W → Calls Tryz.prog 49 #[.slice (some ⟨b, off, none⟩) n cap, .int .i64 (i : Int)] W fun e w' => e = .returned (.string (str (txT l f i))) ∧ Below W.heap.size W w' := by
  intro f
  induction f with
  | zero => intro _ i h; omega
  | succ f ih =>
    intro hf i hif hi W hb
    have ih := ih (by omega)
    obtain ⟨g1, g2, g3⟩ := hG i hi
    obtain ⟨hk, hy8, hbd⟩ := ow_bd g1
    obtain ⟨⟨c0, c1, c2, c3, c4, c5⟩, hI⟩ := hc i hi
    have hin : i < n := by omega
    have hbW : b < W.heap.size := Nat.lt_of_lt_of_le hbw hb.size
    have hle : leT (nthTm l i) = if (nthTm l i).k = 2 then fxL (nthTm l i).n.toNat else if (nthTm l i).k = 6 ∨ (nthTm l i).k = 7 then (encT 4 (nthTm l i).c).2 else if (nthTm l i).k = 8 then txY (nthTm l i).y else dgF 3 (nthTm l i).n.toNat := rfl
    have hcel : ∀ (o : Nat) (v : Value), w.cell? ⟨b, o, none⟩ = some v → ∀ W', Below W.heap.size W W' → W'.cell? ⟨b, o, none⟩ = some v := fun o v h W' h' => ((hb.trans (h'.mono hb.size)).cell (p := ⟨b, o, none⟩) hbw).trans h
    have key : ∀ x : List Nat, txT l (f + 1) i = twN (nthTm l i).k.toNat ++ x → (∀ W', Below W.heap.size W W' → Calls Tryz.prog 95 #[.slice (some ⟨b, off, none⟩) n cap, .int .i64 (i : Int)] W' fun e w' => e = .returned (.string (str x)) ∧ Below W'.heap.size W' w') →
        Calls Tryz.prog 49 #[.slice (some ⟨b, off, none⟩) n cap, .int .i64 (i : Int)] W fun e w' => e = .returned (.string (str (txT l (f + 1) i))) ∧ Below W.heap.size W w' := fun x hx HT => by
      rw [hx]
      exact l12Text_step b off n cap i (nthTm l i).k hk x (tl_len hG hf hi hx) W hbW hin (hcel _ _ c0 W (Below.refl _ _)) HT
    by_cases k1 : (nthTm l i).k = 1
    · rw [k1] at c0
      exact key [] (by rw [tx_all k1, k1]; simp) fun W' h' => tail_1 b off n cap i W' hin (hcel _ _ c0 W' h')
    by_cases k2 : (nthTm l i).k = 2
    · obtain ⟨j, hj, e⟩ := bdT_2 g1 k2
      rw [k2] at c0
      rw [e] at c1
      exact key ([32] ++ fxL j) (by rw [tx_leaf (by omega), hle, if_pos k2, e, Int.toNat_natCast, List.append_assoc]) fun W' h' => tail_2 b off n cap i W' hin j hj (hcel _ _ c0 W' h') (hcel _ _ c1 W' h')
    by_cases k3 : (nthTm l i).k = 3 ∨ (nthTm l i).k = 4 ∨ (nthTm l i).k = 5
    · obtain ⟨j, hj, e⟩ := bdT_345 g1 k3
      rw [e] at c1
      exact key ([32] ++ dgF 3 j) (by rw [tx_leaf (by omega), hle, if_neg (by omega), if_neg (by omega), if_neg (by omega), e, Int.toNat_natCast, List.append_assoc]) fun W' h' => tail_345 b off n cap i W' hin _ k3 j hj (hcel _ _ c0 W' h') (hcel _ _ c1 W' h')
    by_cases k6 : (nthTm l i).k = 6 ∨ (nthTm l i).k = 7
    · obtain ⟨hc20, hch⟩ := bdT_67 g1 k6
      have hx := hI.1
      generalize (ps i).1 = q at *
      obtain ⟨a, m, cc⟩ := q
      exact key ([32] ++ (encT 4 (nthTm l i).c).2) (by rw [tx_leaf (by omega), hle, if_neg (by omega), if_pos k6, List.append_assoc]) fun W' h' => tail_67 b off n cap i W' hin _ k6 a m cc _ hx.1 (by have := hx.1; dsimp only at this; omega) hch ((hx.below (hb.trans (h'.mono hb.size))).2.2.2.1) (hcel _ _ c0 W' h') (hcel _ _ c2 W' h')
    by_cases k8 : (nthTm l i).k = 8
    · have hx := hI.2
      rw [k8] at c0
      generalize (ps i).2 = q at *
      obtain ⟨a, m, cc⟩ := q
      exact key ([32] ++ txY (nthTm l i).y) (by rw [tx_leaf (by omega), hle, if_neg (by omega), if_neg (by omega), if_pos k8, List.append_assoc]) fun W' h' => tail_8 b off n cap i W' hin a m cc _ hx.1 (hy8 k8) ((hx.below (hb.trans (h'.mono hb.size))).2.2.2.1) (hcel _ _ c0 W' h') (hcel _ _ c3 W' h')
    by_cases k9 : (nthTm l i).k = 9
    · obtain ⟨j, hj, e⟩ := g2 k9
      rw [k9] at c0
      rw [e] at c4
      exact key ([32] ++ txT l f j) (by rw [tx_not k9, k9, e, Int.toNat_natCast, List.append_assoc]; rfl) fun W' h' => tail_9 b off n cap i W' hin j _ (txT_lt hG (by omega) (by omega)) (show Hid _ from fun W2 h2 => ih j (by omega) (by omega) W2 ((hb.trans (h'.mono hb.size)).trans (h2.mono (hb.trans (h'.mono hb.size)).size))) (hcel _ _ c0 W' h') (hcel _ _ c4 W' h')
    have k10 : (nthTm l i).k = 10 ∨ (nthTm l i).k = 11 := by omega
    obtain ⟨j, j', hj, hj', e, e'⟩ := g3 (twK_k k10)
    rw [e] at c4
    rw [e'] at c5
    exact key ([32] ++ txT l f j ++ [32] ++ txT l f j') (by rw [tx_two (twK_k k10), e, e', Int.toNat_natCast, Int.toNat_natCast]; simp) fun W' h' => tail_two b off n cap i W' hin _ k10 j j' _ _ (txT_lt hG (by omega) (by omega)) (txT_lt hG (by omega) (by omega)) (Nat.lt_of_lt_of_le hbW h'.size) (show Hid _ from fun W2 h2 => ih j (by omega) (by omega) W2 ((hb.trans (h'.mono hb.size)).trans (h2.mono (hb.trans (h'.mono hb.size)).size))) (show Hid _ from fun W2 h2 => ih j' (by omega) (by omega) W2 ((hb.trans (h'.mono hb.size)).trans (h2.mono (hb.trans (h'.mono hb.size)).size))) (hcel _ _ c0 W' h') (hcel _ _ c4 W' h') (hcel _ _ c5 W' h')

set_option maxHeartbeats 1600000 in
set_option maxRecDepth 100000 in
theorem specTermsText_any (s : SlQ) (l : List TmR) {lo : Nat} (w : World) (hs : IsTs lo w s l) (hf : FtUs l) :
    Calls Tryz.prog 16 #[slW s] w fun e w' => e = .returned (.agg #[.int .i64 (ttV l).1, .string (str (ttV l).2)]) ∧ Below w.heap.size w w' := by
  have hb0 : Below w.heap.size w (w.alloc (.cells #[.int .i64 0, .string ⟨#[]⟩] 30)) := (Below.refl _ _).alloc (Nat.le_refl _) _
  have hWs : (w.alloc (.cells #[.int .i64 0, .string ⟨#[]⟩] 30)).heap.size = w.heap.size + 1 := by simp
  have HC := l12Fault_any s l _ (hs.below hb0) hf
  have hsl := hs.1
  by_cases h0 : tmV l = 0
  · obtain ⟨ps, hps⟩ := (hs.below hb0).2.2.2.ps
    have h0' : (trV l ps).2 = 0 := by rw [trV_tm]; exact h0
    obtain ⟨hn, hG, -⟩ := trV_tr h0'
    have hv : ttV l = (0, txT l l.length (l.length - 1)) := if_pos h0
    rw [h0] at HC
    rcases hps with rfl | ⟨b, off, hsa, hblt, hc⟩
    · simp at hn
    obtain ⟨sa, sn, sc⟩ := s
    dsimp only at hsa hsl
    subst hsa
    have HX : Hid (∀ W, Below (w.heap.size + 1) (w.alloc (.cells #[.int .i64 0, .string ⟨#[]⟩] 30)) W → Calls Tryz.prog 49 #[.slice (some ⟨b, off, none⟩) sn sc, .int .i64 ((sn : Int) - 1)] W fun e w' => e = .returned (.string (str (txT l l.length (l.length - 1)))) ∧ Below W.heap.size W w') := fun W hb => by
      rw [← hWs] at hb
      rw [show (sn : Int) - 1 = ((l.length - 1 : Nat) : Int) by omega]
      exact l12Text_any b off sn sc l ps _ hsl hblt hc hG l.length hn.2 (l.length - 1) (by omega) (by omega) W hb
    rw [hv]
    dsimp only [slW] at *
    have hsn : sn ≤ 12 := by omega
    have hsn1 : 1 ≤ sn := by omega
    generalize txT l l.length (l.length - 1) = x at *
    clear hs hf hc hv hG h0' h0 hn hsl
    go_enter Tryz.func16, Tryz.ntmps16
    go_wp2_with fail
    refine HC.mono ?_
    rintro e w1 ⟨rfl, hb1⟩
    rw [hWs] at hb1
    have hbel : Below w.heap.size w w1 := hb0.trans (hb1.mono (by omega))
    go_wp2_with fail
    refine (HX.out w1 hb1).mono ?_
    rintro e w2 ⟨rfl, hb2⟩
    have hbl : Below (w.heap.size + 1) (w.alloc (.cells #[.int .i64 0, .string ⟨#[]⟩] 30)) w2 := hb1.trans (hb2.mono (by have := hb1.size; omega))
    have hbel2 : Below w.heap.size w w2 := hbel.trans (hb2.mono hbel.size)
    obtain ⟨hcw, hcw1, hfw, hfw1⟩ := res_block rfl hbl
    obtain ⟨hk0, hk1⟩ := res_cells hcw hcw1 (.int .i64 0) (.string (str x))
    clear hb1 hb2 hbl HC HX
    go_wp2
    refine bodyPost_ret (v := .agg #[.int .i64 0, .string (str x)]) (by simp [results, Tryz.results16, go_sem, hk0, hk1]) rfl ?_
    exact ⟨rfl, (hbel2.setCell (Nat.le_refl _) _).setCell (Nat.le_refl _) _⟩
  · have hv : ttV l = (tmV l, []) := if_neg h0
    rw [hv]
    obtain ⟨sa, sn, sc⟩ := s
    dsimp only [slW] at *
    generalize tmV l = c at *
    have HS : Hid (str [] = ⟨#[]⟩) := rfl
    clear hs hf hv hsl
    go_enter Tryz.func16, Tryz.ntmps16
    go_wp2_with fail
    refine HC.mono ?_
    rintro e w1 ⟨rfl, hb1⟩
    rw [hWs] at hb1
    have hbel : Below w.heap.size w w1 := hb0.trans (hb1.mono (by omega))
    obtain ⟨hcw, hcw1, hfw, hfw1⟩ := res_block rfl hb1
    obtain ⟨hk0, hk1⟩ := res_cells hcw hcw1 (.int .i64 c) (.string ⟨#[]⟩)
    clear hb1 HC
    go_wp2
    refine bodyPost_ret (v := .agg #[.int .i64 c, .string ⟨#[]⟩]) (by simp [results, Tryz.results16, go_sem, hk0, hk1]) rfl ?_
    exact ⟨by rw [HS.out], (hbel.setCell (Nat.le_refl _) _).setCell (Nat.le_refl _) _⟩
end Go.Proofs.YthmimalplpjghaaGreatDoor

namespace Go.Proofs.YthmimalplpjghaaGreatDoor

theorem handed_and_shaped {H : Type} {enc : TypeId × Value → H} {a : Assume} {C : Checked} {os : Os} {f : FuncId} {fn : Func} {s : ChangeSpec} {conds : List PathCond} {apart fresh handsOn again : Bool} {X : World → Array Value → Prop}
    (hX : ∀ (w w' : World) (args : Array Value), w.heap = w'.heap → X w args → X w' args)
    (own : ownKnob C.prog.godebug = none) (started : os.Started) (noInit : C.prog.inits.idxOf? f = none) (hfn : C.prog.funcs[f]? = some fn)
    (witness : ∃ (w : World) (tape : Tape) (i : Input), w.os = os ∧ (w.forCall tape i).Shaped C.prog ∧ i.vars = [] ∧ Input.okWide C.prog (w.forCall tape i) .any w.heap.size f i ∧
      ((s.pre enc C.prog fn conds apart (w.forCall tape i).memory i.args ∧ X (w.forCall tape i).memory i.args) ∧ sizedMet enc C.prog fn (OpenSpec.ofChange s) apart (w.forCall tape i).memory i.args) ∧ a.holds C.prog (lone (Frame.enter C.prog f i.args .normal) [] (w.forCall tape i)))
    (contract : ∀ (W : World) (base : Nat) (args : Array Value) (ds gs : List (DataW H)) (before : List MemPlace),
      (∀ (j : Nat) t v, fn.params[j]? = some t → args[j]? = some v → Value.okWide C.prog W .any base t v) →
      DataW.Whole enc C.prog fn.params.toList s.vars apart W args.toList ds gs before → X W args → W.ShapedOpen C.prog →
      Calls C.prog f args W fun e W' => ∃ v, e = .returned v ∧ s.post enc C.prog fn apart fresh handsOn again W args v W') :
    ReturnsInHanded a C os f .any (fun w args => (s.pre enc C.prog fn conds apart w args ∧ X w args) ∧ sizedMet enc C.prog fn (OpenSpec.ofChange s) apart w args) (s.post enc C.prog fn apart fresh handsOn again) := by
  refine returnsInHanded_of_calls own started noInit witness ?_
  intro w tape i _ hsh _ hok hpre _
  obtain ⟨_, _, _, fn', hfn', _, _, _, _, hval⟩ := hok
  obtain rfl : fn' = fn := Option.some.inj (hfn'.symm.trans hfn)
  obtain ⟨⟨⟨ds, gs, before, hw, _⟩, hx⟩, _⟩ := hpre
  refine (contract (w.forCall tape i) w.heap.size i.args ds gs before hval (DataW.Whole.of_heap (w' := w.forCall tape i) (by rfl) hw) (hX _ _ _ (by rfl) hx) hsh).mono fun e W' ⟨v, he, hp⟩ => ?_
  subst he
  exact ChangeSpec.post_blind hp
end Go.Proofs.YthmimalplpjghaaGreatDoor
