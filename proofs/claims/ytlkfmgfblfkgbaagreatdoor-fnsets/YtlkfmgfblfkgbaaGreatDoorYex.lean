/- All numbers of a set, on both sides: at every set and every greatest number; no conditions beyond those that each fact names. -/
import Derived.Test.YtlkfmgfblfkgbaaGreatDoorYis
import Derived.Test.YtlkfmgfblfkgbaaGreatDoorAppI
namespace Go.Proofs.YtlkfmgfblfkgbaaGreatDoor
open Go.RowKit

/-- The numbers 1 to k that are in a set. -/
def xsY (l : List YgP) (most : Int) : Nat → List Int
  | 0 => []
  | k + 1 => if inY l ((k : Int) + 1) most then xsY l most k ++ [(k : Int) + 1] else xsY l most k
theorem xsY_len (l : List YgP) (most : Int) : ∀ k, (xsY l most k).length ≤ k
  | 0 => Nat.le_refl _
  | k + 1 => by
    unfold xsY
    have := xsY_len l most k
    split
    · rw [List.length_append]; simp; omega
    · omega
theorem xsY_yes {l : List YgP} {most : Int} {k : Nat} (h : inY l ((k : Int) + 1) most = true) : xsY l most (k + 1) = xsY l most k ++ [(k : Int) + 1] := by
  rw [xsY, if_pos h]
theorem xsY_no {l : List YgP} {most : Int} {k : Nat} (h : inY l ((k : Int) + 1) most = false) : xsY l most (k + 1) = xsY l most k := by
  rw [xsY, h]; rfl
/-- What ExpandSet tells. -/
def exV (l : List YgP) (most : Int) : Int × List Int := if rfV l = 0 then (if bty most 0 999 = true then (0, xsY l most most.toNat) else (3, [])) else (rfV l, [])
/-- How an answer of numbers lies there. -/
def NumEndY (r : Int × List Int) (w : World) (e : Ending) (w' : World) : Prop := ∃ v, e = .returned (.agg #[.int .i64 r.1, v]) ∧ OwnI w' w.heap.size v r.2 ∧ Below w.heap.size w w'
theorem OwnI.lowY {w : World} {B C : Nat} {v : Value} {l : List Int} (h : OwnI w B v l) (hC : C ≤ B) : OwnI w C v l := by
  refine ⟨h.1, ?_⟩
  rcases h.2 with h' | ⟨g, cap, cur, h1, h2, h3⟩
  · exact .inl h'
  · exact .inr ⟨g, cap, cur, h1, Nat.le_trans hC h2, h3⟩
theorem OwnI.keptY {w : World} {B : Nat} {v : Value} {l : List Int} (h : OwnI w B v l) (p : Addr) (hp : p.block < B) (u : Value) : OwnI (w.setCell p u) B v l := ownsRow_setCell_below h hp u
theorem NumEndY.code {c : Int} {w w1 : World} (hbel : Below w.heap.size w w1) (x y : Value) : NumEndY (c, []) w (.returned (.agg #[.int .i64 c, .slice none 0 0])) ((w1.setCell ⟨w.heap.size, 0, none⟩ x).setCell ⟨w.heap.size, 1, none⟩ y) :=
  ⟨_, rfl, OwnI.nil _ _, (hbel.setCell (Nat.le_refl _) _).setCell (Nat.le_refl _) _⟩
theorem NumEndY.some {c : Int} {w w1 : World} {v : Value} {l : List Int} (hbel : Below w.heap.size w w1) (hown : OwnI w1 (w.heap.size + 1) v l) (x y : Value) : NumEndY (c, l) w (.returned (.agg #[.int .i64 c, v])) ((w1.setCell ⟨w.heap.size, 0, none⟩ x).setCell ⟨w.heap.size, 1, none⟩ y) :=
  ⟨_, rfl, ((hown.keptY _ (Nat.lt_succ_self _) _).keptY _ (Nat.lt_succ_self _) _).lowY (Nat.le_succ _), (hbel.setCell (Nat.le_refl _) _).setCell (Nat.le_refl _) _⟩

set_option maxHeartbeats 1600000 in
set_option maxRecDepth 100000 in
theorem expandSet_any (most : Int) (a : Option Addr) (m cap : Nat) (l : List YgP) (w : World) (hl : l.length = m) (hr : RdY w a l) (hn : m ≤ 1048576) :
    Calls Tryz.prog 13 #[.slice a m cap, .int .i64 most] w fun e w' => NumEndY (exV l most) w e w' := by
  have HF := fun w hr => rangesFault_any a m cap l w hl hr hn
  have hb0 : Below w.heap.size w (w.alloc (.cells #[.int .i64 0, .slice none 0 0] 37)) := (Below.refl _ _).alloc (Nat.le_refl _) _
  have hr0 := hr.below hb0
  have hWs : (w.alloc (.cells #[.int .i64 0, .slice none 0 0] 37)).heap.size = w.heap.size + 1 := by simp
  by_cases h0 : rfV l = 0
  · obtain ⟨hA, hm1, hm8⟩ := rfV_A h0
    go_enter Tryz.func13, Tryz.ntmps13
    go_wp2_with fail
    refine (HF _ hr0).mono ?_
    rintro e w1 ⟨rfl, hb1⟩
    rw [h0]
    have hbl1 : Below (w.heap.size + 1) (w.alloc (.cells #[.int .i64 0, .slice none 0 0] 37)) w1 := by rw [← hWs]; exact hb1
    have hr1 := hr0.below hb1
    generalize hW : w.alloc (.cells #[.int .i64 0, .slice none 0 0] 37) = W at *
    clear hb1
    go_wp2_with fail
    refine (isBetween_y most 0 999 _).mono ?_
    rintro e w2 ⟨rfl, rfl⟩
    cases hmo : bty most 0 999 with
    | false =>
      have H : Hid (exV l most = (3, [])) := by
        show exV l most = _
        rw [exV, if_pos h0, hmo]; rfl
      obtain ⟨hcw, hcw1, hfw, hfw1⟩ := res_block hW hbl1
      have hbel : Below w.heap.size w w1 := hb0.trans (hbl1.mono (by omega))
      obtain ⟨hk0, hk1⟩ := res_cells hcw hcw1 (.int .i64 3) (.slice none 0 0)
      clear hbl1 hr hr0 hr1
      go_wp2
      refine bodyPost_ret (v := .agg #[.int .i64 3, .slice none 0 0]) (by simp [results, Tryz.results13, go_sem, hk0, hk1]) rfl ?_
      rw [H.out]
      exact NumEndY.code hbel _ _
    | true =>
      have hmb := of_decide_eq_true hmo
      have H : Hid (exV l most = (0, xsY l most most.toNat)) := by
        show exV l most = _
        rw [exV, if_pos h0, hmo]; rfl
      go_wp2_with fail
      refine (reachesOf_any a m cap l _ hl hr1 hn).mono ?_
      rintro e w2 ⟨v, rfl, hown2, hb2⟩
      obtain ⟨av, cv, ev, _, _⟩ := hown2.form
      rw [hl] at ev
      subst ev
      have hrz := hown2.rd.2
      have hz1 : w.heap.size + 1 ≤ w1.heap.size := by have := hbl1.size; omega
      have hbl2 : Below (w.heap.size + 1) W w2 := hbl1.trans (hb2.mono hz1)
      have hz2 : w.heap.size + 1 ≤ w2.heap.size := by have := hbl2.size; omega
      clear hown2 hb2 hbl1 hr1
      obtain ⟨M, hM⟩ : ∃ M : Nat, most = (M : Int) := ⟨most.toNat, by omega⟩
      subst hM
      have hM9 : M ≤ 999 := by omega
      go_wp2
      go_loopw [7, 8] (fun v i wr => ∃ k : Nat, k ≤ M ∧ i = .int .i64 ((k : Int) + 1) ∧ OwnI wr w2.heap.size v (xsY l (M : Int) k) ∧ Below w2.heap.size w2 wr)
        (fun _ i _ => M + 1 - (intOf i).toNat)
      case atStart => exact ⟨0, Nat.zero_le _, rfl, OwnI.nil _ _, Below.refl _ _⟩
      case round =>
        obtain ⟨k, hk, rfl, hown, hbel⟩ := hrel
        by_cases hkn : k < M
        · have hki : (k : Int) + 1 ≤ (M : Int) := by omega
          have hrz' := hrz.below hbel
          have HYES : Hid (inY l ((k : Int) + 1) (M : Int) = true → xsY l (M : Int) (k + 1) = xsY l (M : Int) k ++ [(k : Int) + 1]) := fun h => xsY_yes h
          have HNO : Hid (inY l ((k : Int) + 1) (M : Int) = false → xsY l (M : Int) (k + 1) = xsY l (M : Int) k) := fun h => xsY_no h
          have hlen := xsY_len l (M : Int) k
          go_wp2_with fail
          refine (isInOne_any ((k : Int) + 1) (M : Int) av m cv l _ hl hrz' hn hA).mono ?_
          rintro e w3 ⟨rfl, hb3⟩
          have hbel3 := hbel.trans (hb3.mono hbel.size)
          have hown3 := hown.below hb3 (Nat.le_refl _)
          clear hown hbel hb3 hrz'
          cases hx : inY l ((k : Int) + 1) (M : Int) with
          | false =>
            have HV := HNO.out hx
            rw [← HV] at hown3
            have HO : Hid (_) := hown3
            clear HYES HNO hown3 HV
            go_wp2
            go_roundw
            case rel => exact ⟨k + 1, by omega, by go_num, HO.out, hbel3⟩
            case measure => simp [intOf]; omega
          | true =>
            have HV : Hid (_) := HYES.out hx
            clear HYES HNO
            generalize xsY l (M : Int) k = out at *
            go_wp2_with (at_builtin; refine wpList_app_newI rfl _ _ rfl w2.heap.size _ out rfl hown3 1 1 [(k : Int) + 1] rfl rfl rfl (by omega) hbel3.size ?_; intro v' w4 hown' hb')
            go_roundw
            case rel => exact ⟨k + 1, by omega, by go_num, by rw [HV.out]; exact hown', hbel3.trans hb'⟩
            case measure => simp [intOf]; omega
        · have hkk : k = M := by omega
          subst hkk
          have hki : ¬ (k : Int) + 1 ≤ (k : Int) := by omega
          have hblE : Below (w.heap.size + 1) W wr := hbl2.trans (hbel.mono hz2)
          obtain ⟨hcw, hcw1, hfw, hfw1⟩ := res_block hW hblE
          have hbE : Below w.heap.size w wr := hb0.trans (hblE.mono (by omega))
          have hown' := hown.lowY hz2
          clear hown
          rw [show ((k : Int)).toNat = k by omega] at H
          generalize xsY l (k : Int) k = out at *
          obtain ⟨ao, ocap, hv, -, -⟩ := hown'.form
          rw [hv] at hown' ⊢
          clear hv
          have HO : Hid (OwnI wr (w.heap.size + 1) (.slice ao out.length ocap) out) := hown'
          clear hown'
          generalize out.length = N at *
          obtain ⟨hk0, hk1⟩ := res_cells hcw hcw1 (.int .i64 0) (.slice ao N ocap)
          go_wp2
          refine bodyPost_ret (v := .agg #[.int .i64 0, .slice ao N ocap]) (by simp [results, Tryz.results13, go_sem, hk0, hk1]) rfl ?_
          rw [H.out]
          exact NumEndY.some hbE HO.out _ _
  · have H : Hid (exV l most = (rfV l, [])) := if_neg h0
    have h3 := rfV_three l
    generalize rfV l = c at *
    have hc : c = 2 ∨ c = 3 := by omega
    rcases hc with rfl | rfl
    all_goals
      go_enter Tryz.func13, Tryz.ntmps13
      go_wp2_with fail
      refine (HF _ hr0).mono ?_
      rintro e w1 ⟨rfl, hb1⟩
      have hbl : Below (w.heap.size + 1) (w.alloc (.cells #[.int .i64 0, .slice none 0 0] 37)) w1 := hb1.mono (by simp)
      obtain ⟨hcw, hcw1, hfw, hfw1⟩ := res_block rfl hbl
      have hbel : Below w.heap.size w w1 := hb0.trans (hbl.mono (by omega))
      clear hb1 hbl hr hr0 HF
    · obtain ⟨hk0, hk1⟩ := res_cells hcw hcw1 (.int .i64 2) (.slice none 0 0)
      go_wp2
      refine bodyPost_ret (v := .agg #[.int .i64 2, .slice none 0 0]) (by simp [results, Tryz.results13, go_sem, hk0, hk1]) rfl ?_
      rw [H.out]
      exact NumEndY.code hbel _ _
    · obtain ⟨hk0, hk1⟩ := res_cells hcw hcw1 (.int .i64 3) (.slice none 0 0)
      go_wp2
      refine bodyPost_ret (v := .agg #[.int .i64 3, .slice none 0 0]) (by simp [results, Tryz.results13, go_sem, hk0, hk1]) rfl ?_
      rw [H.out]
      exact NumEndY.code hbel _ _

theorem exV_few (l : List YgP) (most : Int) : (exV l most).2.length ≤ 999 := by
  unfold exV
  split
  · split
    · have := of_decide_eq_true (show decide (0 ≤ most ∧ most ≤ 999) = true by assumption)
      have h2 := xsY_len l most most.toNat
      show (xsY l most most.toNat).length ≤ 999
      omega
    · exact Nat.zero_le _
  · exact Nat.zero_le _
end Go.Proofs.YtlkfmgfblfkgbaaGreatDoor
