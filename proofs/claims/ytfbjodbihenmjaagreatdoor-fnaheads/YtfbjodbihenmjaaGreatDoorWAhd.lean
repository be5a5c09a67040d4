/- The walk of the law FnAheads: it returns true, whatever the input. -/
import Derived.Test.YtfbjodbihenmjaaGreatDoorCakToKzz
import Derived.Test.YtfbjodbihenmjaaGreatDoorDr7ToDca
import Derived.Test.YtfbjodbihenmjaaGreatDoorDsl
import Derived.Test.YtfbjodbihenmjaaGreatDoorLslToDrl5
import Derived.Laws.AppendOwnNone
namespace Go.Proofs.YtfbjodbihenmjaaGreatDoor
open Go.RowKit
set_option linter.unusedVariables false

theorem cmp1_back (x y : Int) : cmp1 y x = - cmp1 x y := by
  unfold cmp1
  split <;> split <;> try split
  all_goals omega
theorem ahV_back (k key : Int) (m n : Msg) : ahV k key n m = - ahV k key m n := by
  unfold ahV
  split
  · exact cmp1_back _ _
  · split
    · exact cmp1_back _ _
    · split
      · exact cmpL_back _ _
      · exact cmp1_back _ _
theorem caV_both {k key : Int} {m n : Msg} (h : caV k key m n = true) : caV k key n m = false := by
  have h1 := of_decide_eq_true h
  refine decide_eq_false fun h2 => ?_
  have h3 := h1.2.2.2.2
  have h4 := h2.2.2.2.2
  rw [ahV_back] at h4
  omega
theorem caV_self (k key : Int) (m : Msg) : caV k key m m = false := by
  cases h : caV k key m m with
  | false => rfl
  | true => rw [caV_both h] at h; exact absurd h (by simp)
theorem lsV_turn (d : List Int) (f n : Int) : lsV d n f = lsV d f n := by
  unfold lsV
  rw [Int.max_comm, Int.min_comm]
  split
  · rfl
  · by_cases h : (1 ≤ f ∧ f ≤ 999) ∧ (1 ≤ n ∧ n ≤ 999)
    · rw [if_pos h, if_pos ⟨h.2, h.1⟩]
    · rw [if_neg h, if_neg (fun c => h ⟨c.2, c.1⟩)]
theorem lsV_few {d : List Int} {f n : Int} (h : (lsV d f n).1 = 0) : d.length ≤ 60 ∧ (lsV d f n).2.length ≤ d.length := by
  unfold lsV at h ⊢
  split at h
  · simp at h
  · rename_i h6
    rw [if_neg h6]
    refine ⟨by omega, ?_⟩
    split
    · rw [List.length_drop, List.length_take]; omega
    · simp
theorem lsV_one {d : List Int} (hd : d.length ≤ 60) {c : Int} (h1 : 1 ≤ c) (h2 : c ≤ 998) : lsV d 1 c = (0, d.take c.toNat) ∧ lsV d (c + 1) 999 = (0, d.drop c.toNat) := by
  constructor
  · unfold lsV
    rw [if_neg (by omega), if_pos ⟨⟨by omega, by omega⟩, by omega, by omega⟩, show max (1 : Int) c = c by omega, show min (1 : Int) c = 1 by omega]
    rfl
  · unfold lsV
    rw [if_neg (by omega), if_pos ⟨⟨by omega, by omega⟩, by omega, by omega⟩, show max (c + 1) (999 : Int) = 999 by omega, show min (c + 1) (999 : Int) = c + 1 by omega, List.take_of_length_le (by omega), show (c + 1).toNat - 1 = c.toNat by omega]

theorem fldN0 (x y : Value) (w : World) : (Instr.field 33 (.agg #[x, y]) 0).run Tryz.prog w = .ok x w := by
  simp [Instr.field, asAgg, go_sem]
theorem fldN1 (x y : Value) (w : World) : (Instr.field 33 (.agg #[x, y]) 1).run Tryz.prog w = .ok y w := by
  simp [Instr.field, asAgg, go_sem]
/-- An append of numbers that some call owns, at a step of a region that draws its order. -/
theorem step_appA {w : World} {ops : Array Oper} {o : Oper} {a : Act} {K : Act → World → Prop} {Q : Exit → Act → World → Prop} {E : Prop} (hgd : o.guard = none) (s x : Operand)
    (ho : o.op = .call { callee := .builtin .append, args := #[s, x], argTypes := #[29, 29] })
    (B : Nat) (v v2 : Value) (l : List Int) (hs : a.eval s = v) (hown : OwnI w B v l) (B2 : Nat) (new : List Int) (hx : a.eval x = v2) (hown2 : OwnI w B2 v2 new) (hsz : l.length + new.length ≤ 1073741824) (hB : B ≤ w.heap.size)
    (h : ∀ v' w1, OwnI w1 B v' (l ++ new) → Below B w w1 → K (a.put o.dst v') w1) : if Region.wanted o (yielded ops a.tmps) = true then Oper.wp Tryz.prog o a w K Q else E := by
  have hh := hown2
  rcases hown2.2 with ⟨h', h0⟩ | ⟨g, cap, cur, h', _⟩
  · subst h'
    obtain rfl : new = [] := List.length_eq_zero_iff.1 h0
    obtain ⟨i0, hi, hz0, hz1, hz2⟩ := info_parts infoBI
    have hw : Region.wanted o (yielded ops a.tmps) = true := by simp [Region.wanted, hgd]
    rw [if_pos hw]
    have hrun := run_append_owned_none (P := Tryz.prog) (w := w) B 29 o.type 2 i0 1 Tryz.underlying29 hi v l.length (ic l) hown
    unfold Oper.wp
    simp [execOp, ho, resolve, invoke, builtin, hs, hx, hrun, Result.andThen]
    exact h v w (by rw [List.append_nil]; exact hown) (Below.refl _ _)
  · subst h'
    obtain ⟨hl2, hr2⟩ := OwnI.rd hh
    refine step_appI hgd s x ho B v l hs hown ⟨g, 0, none⟩ new.length cap new hx rfl ?_ hsz hB h
    intro j hj
    obtain ⟨b', off', e, -, hc⟩ := hr2.at_ (by omega)
    cases e
    rw [Go.WideShapes.add_plain]
    exact hc j hj

set_option maxHeartbeats 12800000 in
set_option maxRecDepth 100000 in
theorem walkAheads (a0 : Option Addr) (len0 cap0 : Nat) (l : List Nat) (w : World) (hl : l.length = len0) (hr : Rd w a0 l) (hBl : IsB l) (htC : TabC w) (htB : TabB w) (htH : TabH w) (hmx : MaxI w) :
    Calls Tryz.prog 3 #[.slice a0 len0 cap0] w fun e w' => e = .returned (.bool true) ∧ Below w.heap.size w w' := by
  by_cases hbig : 1048576 < len0
  · have hb' : (1048576 : Int) < (len0 : Int) := by omega
    go_enter Tryz.func3, Tryz.ntmps3
    go_wp2_with fail
    refine (lwBig_any a0 len0 cap0 _).mono ?_
    rintro e w1 ⟨rfl, rfl⟩
    rw [decide_eq_true (show (1048576 : Int) < (len0 : Int) by omega)]
    go_wp2
    go_ret
    exact ⟨rfl, Below.refl _ _⟩
  have hn : len0 ≤ 1048576 := by omega
  have hb' : ¬ (1048576 : Int) < (len0 : Int) := by omega
  go_enter Tryz.func3, Tryz.ntmps3
  go_wp2_with fail
  refine (lwBig_any a0 len0 cap0 _).mono ?_
  rintro e w1 ⟨rfl, rfl⟩
  rw [decide_eq_false (show ¬ (1048576 : Int) < (len0 : Int) by omega)]
  go_wp2_with fail
  refine (drawComesAhead_any a0 len0 cap0 l w hl hr hBl hn).mono ?_
  rintro e w2 ⟨m1, m2, ⟨sa, sn, c1⟩, ⟨ta, tn, c2⟩, k, key, rfl, d1, d2, -, hb2⟩
  obtain ⟨g1, ea⟩ := d1.2.2.2.2.1.1
  obtain ⟨g2, eb⟩ := d2.2.2.2.2.1.1
  have en := d1.1
  have em := d2.1
  dsimp only at ea eb en em
  subst ea
  subst eb
  subst en
  subst em
  have i1 := d1.sl
  have i2 := d2.sl
  have HT : Hid (∀ W, Below w2.heap.size w2 W → TabC W ∧ TabB W ∧ TabH W ∧ MaxI W) := fun W hW => ⟨(htC.below hb2).below hW, (htB.below hb2).below hW, (htH.below hb2).below hW, (hmx.below hb2).below hW⟩
  clear d1 d2
  obtain ⟨W3, hW3⟩ : ∃ W, (w2.alloc (.cells #[.int .i64 m1.u, .int .i64 m1.f, .int .i64 m1.d, .slice (some ⟨g1, 0, none⟩) m1.b.length c1] 25)).alloc (.cells #[.int .i64 m2.u, .int .i64 m2.f, .int .i64 m2.d, .slice (some ⟨g2, 0, none⟩) m2.b.length c2] 25) = W := ⟨_, rfl⟩
  have hb3 : Below w2.heap.size w2 W3 := by rw [← hW3]; exact ((Below.refl _ _).alloc (Nat.le_refl _) _).alloc (by simp) _
  have hQA : Qc W3 w2.heap.size (msQ m1 (some ⟨g1, 0, none⟩, m1.b.length, c1)) := by
    rw [← hW3]
    exact (Qc.new w2 (.int .i64 m1.u) (.int .i64 m1.f) (.int .i64 m1.d) (.slice (some ⟨g1, 0, none⟩) m1.b.length c1) 25).below ((Below.refl (w2.heap.size + 1) _).alloc (by simp) _) (by omega)
  have hQB : Qc W3 (w2.heap.size + 1) (msQ m2 (some ⟨g2, 0, none⟩, m2.b.length, c2)) := by
    rw [← hW3]
    have q := Qc.new (w2.alloc (.cells #[.int .i64 m1.u, .int .i64 m1.f, .int .i64 m1.d, .slice (some ⟨g1, 0, none⟩) m1.b.length c1] 25)) (.int .i64 m2.u) (.int .i64 m2.f) (.int .i64 m2.d) (.slice (some ⟨g2, 0, none⟩) m2.b.length c2) 25
    simpa using q
  have HSK : Hid (∀ W', Below W3.heap.size W3 W' → Qc W' w2.heap.size (msQ m1 (some ⟨g1, 0, none⟩, m1.b.length, c1)) ∧ Qc W' (w2.heap.size + 1) (msQ m2 (some ⟨g2, 0, none⟩, m2.b.length, c2))) := fun W' hb => ⟨hQA.below hb hQA.lt, hQB.below hb hQB.lt⟩
  have HC : ∀ (W : World), Below W3.heap.size W3 W → Below w2.heap.size w2 W := fun W hb => hb3.trans (hb.mono hb3.size)
  have HAB : Hid (∀ W, Below W3.heap.size W3 W → Calls Tryz.prog 7 #[msX m1 (some ⟨g1, 0, none⟩, m1.b.length, c1), msX m2 (some ⟨g2, 0, none⟩, m2.b.length, c2), .int .i64 k, .int .i64 key] W fun e w' => e = .returned (.bool (caV k key m1 m2)) ∧ Below W.heap.size W w') := fun W hb => by
    obtain ⟨t1, t2, t3, t4⟩ := HT.out W (HC W hb)
    exact comesAhead_any k key m1 m2 g1 g2 W c1 c2 (i1.below (HC W hb)) (i2.below (HC W hb)) t1 t2 t3 t4
  have HBA : Hid (∀ W, Below W3.heap.size W3 W → Calls Tryz.prog 7 #[msX m2 (some ⟨g2, 0, none⟩, m2.b.length, c2), msX m1 (some ⟨g1, 0, none⟩, m1.b.length, c1), .int .i64 k, .int .i64 key] W fun e w' => e = .returned (.bool (caV k key m2 m1)) ∧ Below W.heap.size W w') := fun W hb => by
    obtain ⟨t1, t2, t3, t4⟩ := HT.out W (HC W hb)
    exact comesAhead_any k key m2 m1 g2 g1 W c2 c1 (i2.below (HC W hb)) (i1.below (HC W hb)) t1 t2 t3 t4
  have HAA : Hid (∀ W, Below W3.heap.size W3 W → Calls Tryz.prog 7 #[msX m1 (some ⟨g1, 0, none⟩, m1.b.length, c1), msX m1 (some ⟨g1, 0, none⟩, m1.b.length, c1), .int .i64 k, .int .i64 key] W fun e w' => e = .returned (.bool false) ∧ Below W.heap.size W w') := fun W hb => by
    obtain ⟨t1, t2, t3, t4⟩ := HT.out W (HC W hb)
    have h := comesAhead_any k key m1 m1 g1 g1 W c1 c1 (i1.below (HC W hb)) (i1.below (HC W hb)) t1 t2 t3 t4
    rw [caV_self] at h
    exact h
  have HSP : Hid (∀ W, Below W3.heap.size W3 W → Calls Tryz.prog 8 #[msX m1 (some ⟨g1, 0, none⟩, m1.b.length, c1), msX m2 (some ⟨g2, 0, none⟩, m2.b.length, c2), .int .i64 k, .int .i64 key] W fun e w' => e = .returned (.bool (caV k key m1 m2)) ∧ Below W.heap.size W w') := fun W hb => specComesAhead_any k key m1 m2 g1 g2 W c1 (i1.below (HC W hb)) c2 (i2.below (HC W hb))
  have HNB : Hid (caV k key m1 m2 = true → caV k key m2 m1 = false) := fun h => caV_both h
  have hB3 : Below w.heap.size w W3 := hb2.trans (hb3.mono hb2.size)
  generalize caV k key m1 m2 = CA at *
  generalize caV k key m2 m1 = CB at *
  have HW : Hid (_ = W3) := hW3
  clear hW3 i1 i2 hQA hQB HC hb2 hb3 htC htB htH hmx HT
  go_wp2_with (rw [HW.out])
  clear HW
  obtain ⟨A, hA⟩ : ∃ A, w2.heap.size = A := ⟨_, rfl⟩
  obtain ⟨B, hB⟩ : ∃ B, A + 1 = B := ⟨_, rfl⟩
  rw [hA, hB] at HSK
  rw [hA, hB]
  cases CA with
  | true =>
    have hcb := HNB.out rfl
    subst hcb
    refine wp_region_held_drew (S := fun w' => Qc w' A (msQ m1 (some ⟨g1, 0, none⟩, m1.b.length, c1)) ∧ Qc w' B (msQ m2 (some ⟨g2, 0, none⟩, m2.b.length, c2))) (by kernel_rfl) ?hS42 (fun hHeld => ?_)
    case hS42 => exact HSK.out _ (Below.refl _ _).drew
    refine wpAnyH_take (i := 0) (v := ?_) rfl (by kernel_rfl) (by kernel_rfl) (by kernel_rfl) (fun _ _ _ h => h) (Or.inl ⟨by rfl, ?hy43⟩) (by assumption) ?ty43
    case hy43 => (intro w5 hSw; obtain ⟨⟨e0, e1, e2, e3⟩, -⟩ := hSw; (try dsimp only at e0 e1 e2 e3); go_simp; all_goals with_reducible rfl)
    simp only [Act.put, List.getElem_toArray, List.getElem_cons_zero, List.setIfInBounds_toArray, List.set_cons_zero, List.set_cons_succ]
    refine wpAnyH_take (i := 1) (v := ?_) rfl (by kernel_rfl) (by kernel_rfl) (by kernel_rfl) (fun _ _ _ h => h) (Or.inl ⟨by rfl, ?hy44⟩) (by assumption) ?ty44
    case hy44 => (intro w5 hSw; obtain ⟨-, ⟨e0, e1, e2, e3⟩⟩ := hSw; (try dsimp only at e0 e1 e2 e3); go_simp; all_goals with_reducible rfl)
    simp only [Act.put, List.getElem_toArray, List.getElem_cons_zero, List.getElem_cons_succ, List.setIfInBounds_toArray, List.set_cons_zero, List.set_cons_succ]
    refine wpAnyH_take (i := 2) (v := ?_) rfl (by kernel_rfl) (by kernel_rfl) (by kernel_rfl) (fun _ _ _ h => h) (Or.inl ⟨by rfl, ?hy45⟩) (by assumption) ?ty45
    case hy45 => (intro w5 hSw; obtain ⟨-, -⟩ := hSw; (try dsimp only at e0 e1 e2 e3); go_simp; all_goals with_reducible rfl)
    simp only [Act.put, List.getElem_toArray, List.getElem_cons_zero, List.getElem_cons_succ, List.setIfInBounds_toArray, List.set_cons_zero, List.set_cons_succ]
    refine wpAnyH_take (i := 3) (v := ?_) rfl (by kernel_rfl) (by kernel_rfl) (by kernel_rfl) (fun _ _ _ h => h) (Or.inl ⟨by rfl, ?hy46⟩) (by assumption) ?ty46
    case hy46 => (intro w5 hSw; obtain ⟨-, -⟩ := hSw; (try dsimp only at e0 e1 e2 e3); go_simp; all_goals with_reducible rfl)
    simp only [Act.put, List.getElem_toArray, List.getElem_cons_zero, List.getElem_cons_succ, List.setIfInBounds_toArray, List.set_cons_zero, List.set_cons_succ]
    have hby0 : Below W3.heap.size W3 W3.drew := (Below.refl _ _).drew
    generalize W3.drew = y0 at *
    refine wpAnyH_ready (rs := [4]) (by kernel_rfl) (by simp) ?_
    refine AllReadyH.cons rfl (fun K hK => ?_) AllReadyH.nil
    go_simp
    refine (HAB.out _ hby0).mono ?_
    rintro e y1 ⟨rfl, hcy1⟩
    have hby1 := hby0.trans (hcy1.mono hby0.size)
    refine hK.out _ _ (HSK.out _ hby1) (fun hHeld => ?_)
    clear hK K hcy1
    refine wpAnyH_take (i := 5) (v := ?_) rfl (by kernel_rfl) (by kernel_rfl) (by kernel_rfl) (fun _ _ _ h => h) (Or.inl ⟨by rfl, ?hy47⟩) (by assumption) ?ty47
    case hy47 => (intro w5 hSw; obtain ⟨-, -⟩ := hSw; (try dsimp only at e0 e1 e2 e3); go_simp; all_goals with_reducible rfl)
    simp only [Act.put, List.getElem_toArray, List.getElem_cons_zero, List.getElem_cons_succ, List.setIfInBounds_toArray, List.set_cons_zero, List.set_cons_succ]
    refine wpAnyH_take (i := 6) (v := ?_) rfl (by kernel_rfl) (by kernel_rfl) (by kernel_rfl) (fun _ _ _ h => h) (Or.inl ⟨by rfl, ?hy48⟩) (by assumption) ?ty48
    case hy48 => (intro w5 hSw; obtain ⟨-, ⟨e0, e1, e2, e3⟩⟩ := hSw; (try dsimp only at e0 e1 e2 e3); go_simp; all_goals with_reducible rfl)
    simp only [Act.put, List.getElem_toArray, List.getElem_cons_zero, List.getElem_cons_succ, List.setIfInBounds_toArray, List.set_cons_zero, List.set_cons_succ]
    refine wpAnyH_take (i := 7) (v := ?_) rfl (by kernel_rfl) (by kernel_rfl) (by kernel_rfl) (fun _ _ _ h => h) (Or.inl ⟨by rfl, ?hy49⟩) (by assumption) ?ty49
    case hy49 => (intro w5 hSw; obtain ⟨⟨e0, e1, e2, e3⟩, -⟩ := hSw; (try dsimp only at e0 e1 e2 e3); go_simp; all_goals with_reducible rfl)
    simp only [Act.put, List.getElem_toArray, List.getElem_cons_zero, List.getElem_cons_succ, List.setIfInBounds_toArray, List.set_cons_zero, List.set_cons_succ]
    refine wpAnyH_take (i := 8) (v := ?_) rfl (by kernel_rfl) (by kernel_rfl) (by kernel_rfl) (fun _ _ _ h => h) (Or.inl ⟨by rfl, ?hy50⟩) (by assumption) ?ty50
    case hy50 => (intro w5 hSw; obtain ⟨-, -⟩ := hSw; (try dsimp only at e0 e1 e2 e3); go_simp; all_goals with_reducible rfl)
    simp only [Act.put, List.getElem_toArray, List.getElem_cons_zero, List.getElem_cons_succ, List.setIfInBounds_toArray, List.set_cons_zero, List.set_cons_succ]
    refine wpAnyH_take (i := 9) (v := ?_) rfl (by kernel_rfl) (by kernel_rfl) (by kernel_rfl) (fun _ _ _ h => h) (Or.inl ⟨by rfl, ?hy51⟩) (by assumption) ?ty51
    case hy51 => (intro w5 hSw; obtain ⟨-, -⟩ := hSw; (try dsimp only at e0 e1 e2 e3); go_simp; all_goals with_reducible rfl)
    simp only [Act.put, List.getElem_toArray, List.getElem_cons_zero, List.getElem_cons_succ, List.setIfInBounds_toArray, List.set_cons_zero, List.set_cons_succ]
    refine wpAnyH_ready (rs := [10]) (by kernel_rfl) (by simp) ?_
    refine AllReadyH.cons rfl (fun K hK => ?_) AllReadyH.nil
    go_simp
    refine (HBA.out _ hby1).mono ?_
    rintro e y2 ⟨rfl, hcy2⟩
    have hby2 := hby1.trans (hcy2.mono hby1.size)
    refine hK.out _ _ (HSK.out _ hby2) (fun hHeld => ?_)
    clear hK K hcy2
    refine wpAnyH_take (i := 11) (v := ?_) rfl (by kernel_rfl) (by kernel_rfl) (by kernel_rfl) (fun _ _ _ h => h) (Or.inl ⟨by rfl, ?hy52⟩) (by assumption) ?ty52
    case hy52 => (intro w5 hSw; obtain ⟨-, -⟩ := hSw; (try dsimp only at e0 e1 e2 e3); go_simp; all_goals with_reducible rfl)
    simp only [Act.put, List.getElem_toArray, List.getElem_cons_zero, List.getElem_cons_succ, List.setIfInBounds_toArray, List.set_cons_zero, List.set_cons_succ]
    refine wpAnyH_take (i := 12) (v := ?_) rfl (by kernel_rfl) (by kernel_rfl) (by kernel_rfl) (fun _ _ _ h => h) (Or.inl ⟨by rfl, ?hy53⟩) (by assumption) ?ty53
    case hy53 => (intro w5 hSw; obtain ⟨-, -⟩ := hSw; (try dsimp only at e0 e1 e2 e3); go_simp; all_goals with_reducible rfl)
    simp only [Act.put, List.getElem_toArray, List.getElem_cons_zero, List.getElem_cons_succ, List.setIfInBounds_toArray, List.set_cons_zero, List.set_cons_succ]
    refine wpAnyH_take (i := 13) (v := ?_) rfl (by kernel_rfl) (by kernel_rfl) (by kernel_rfl) (fun _ _ _ h => h) (Or.inl ⟨by rfl, ?hy54⟩) (by assumption) ?ty54
    case hy54 => (intro w5 hSw; obtain ⟨⟨e0, e1, e2, e3⟩, -⟩ := hSw; (try dsimp only at e0 e1 e2 e3); go_simp; all_goals with_reducible rfl)
    simp only [Act.put, List.getElem_toArray, List.getElem_cons_zero, List.getElem_cons_succ, List.setIfInBounds_toArray, List.set_cons_zero, List.set_cons_succ]
    refine wpAnyH_take (i := 14) (v := ?_) rfl (by kernel_rfl) (by kernel_rfl) (by kernel_rfl) (fun _ _ _ h => h) (Or.inl ⟨by rfl, ?hy55⟩) (by assumption) ?ty55
    case hy55 => (intro w5 hSw; obtain ⟨⟨e0, e1, e2, e3⟩, -⟩ := hSw; (try dsimp only at e0 e1 e2 e3); go_simp; all_goals with_reducible rfl)
    simp only [Act.put, List.getElem_toArray, List.getElem_cons_zero, List.getElem_cons_succ, List.setIfInBounds_toArray, List.set_cons_zero, List.set_cons_succ]
    refine wpAnyH_take (i := 15) (v := ?_) rfl (by kernel_rfl) (by kernel_rfl) (by kernel_rfl) (fun _ _ _ h => h) (Or.inl ⟨by rfl, ?hy56⟩) (by assumption) ?ty56
    case hy56 => (intro w5 hSw; obtain ⟨-, -⟩ := hSw; (try dsimp only at e0 e1 e2 e3); go_simp; all_goals with_reducible rfl)
    simp only [Act.put, List.getElem_toArray, List.getElem_cons_zero, List.getElem_cons_succ, List.setIfInBounds_toArray, List.set_cons_zero, List.set_cons_succ]
    refine wpAnyH_take (i := 16) (v := ?_) rfl (by kernel_rfl) (by kernel_rfl) (by kernel_rfl) (fun _ _ _ h => h) (Or.inl ⟨by rfl, ?hy57⟩) (by assumption) ?ty57
    case hy57 => (intro w5 hSw; obtain ⟨-, -⟩ := hSw; (try dsimp only at e0 e1 e2 e3); go_simp; all_goals with_reducible rfl)
    simp only [Act.put, List.getElem_toArray, List.getElem_cons_zero, List.getElem_cons_succ, List.setIfInBounds_toArray, List.set_cons_zero, List.set_cons_succ]
    refine wpAnyH_ready (rs := [17]) (by kernel_rfl) (by simp) ?_
    refine AllReadyH.cons rfl (fun K hK => ?_) AllReadyH.nil
    go_simp
    refine (HAA.out _ hby2).mono ?_
    rintro e y3 ⟨rfl, hcy3⟩
    have hby3 := hby2.trans (hcy3.mono hby2.size)
    refine hK.out _ _ (HSK.out _ hby3) (fun hHeld => ?_)
    clear hK K hcy3
    refine wpAnyH_take (i := 18) (v := ?_) rfl (by kernel_rfl) (by kernel_rfl) (by kernel_rfl) (fun _ _ _ h => h) (Or.inl ⟨by rfl, ?hy58⟩) (by assumption) ?ty58
    case hy58 => (intro w5 hSw; obtain ⟨-, -⟩ := hSw; (try dsimp only at e0 e1 e2 e3); go_simp; all_goals with_reducible rfl)
    simp only [Act.put, List.getElem_toArray, List.getElem_cons_zero, List.getElem_cons_succ, List.setIfInBounds_toArray, List.set_cons_zero, List.set_cons_succ]
    refine wpAnyH_take (i := 19) (v := ?_) rfl (by kernel_rfl) (by kernel_rfl) (by kernel_rfl) (fun _ _ _ h => h) (Or.inl ⟨by rfl, ?hy59⟩) (by assumption) ?ty59
    case hy59 => (intro w5 hSw; obtain ⟨-, -⟩ := hSw; (try dsimp only at e0 e1 e2 e3); go_simp; all_goals with_reducible rfl)
    simp only [Act.put, List.getElem_toArray, List.getElem_cons_zero, List.getElem_cons_succ, List.setIfInBounds_toArray, List.set_cons_zero, List.set_cons_succ]
    refine wpAnyH_take (i := 20) (v := ?_) rfl (by kernel_rfl) (by kernel_rfl) (by kernel_rfl) (fun _ _ _ h => h) (Or.inl ⟨by rfl, ?hy60⟩) (by assumption) ?ty60
    case hy60 => (intro w5 hSw; obtain ⟨⟨e0, e1, e2, e3⟩, -⟩ := hSw; (try dsimp only at e0 e1 e2 e3); go_simp; all_goals with_reducible rfl)
    simp only [Act.put, List.getElem_toArray, List.getElem_cons_zero, List.getElem_cons_succ, List.setIfInBounds_toArray, List.set_cons_zero, List.set_cons_succ]
    refine wpAnyH_take (i := 21) (v := ?_) rfl (by kernel_rfl) (by kernel_rfl) (by kernel_rfl) (fun _ _ _ h => h) (Or.inl ⟨by rfl, ?hy61⟩) (by assumption) ?ty61
    case hy61 => (intro w5 hSw; obtain ⟨-, ⟨e0, e1, e2, e3⟩⟩ := hSw; (try dsimp only at e0 e1 e2 e3); go_simp; all_goals with_reducible rfl)
    simp only [Act.put, List.getElem_toArray, List.getElem_cons_zero, List.getElem_cons_succ, List.setIfInBounds_toArray, List.set_cons_zero, List.set_cons_succ]
    refine wpAnyH_take (i := 22) (v := ?_) rfl (by kernel_rfl) (by kernel_rfl) (by kernel_rfl) (fun _ _ _ h => h) (Or.inl ⟨by rfl, ?hy62⟩) (by assumption) ?ty62
    case hy62 => (intro w5 hSw; obtain ⟨-, -⟩ := hSw; (try dsimp only at e0 e1 e2 e3); go_simp; all_goals with_reducible rfl)
    simp only [Act.put, List.getElem_toArray, List.getElem_cons_zero, List.getElem_cons_succ, List.setIfInBounds_toArray, List.set_cons_zero, List.set_cons_succ]
    refine wpAnyH_take (i := 23) (v := ?_) rfl (by kernel_rfl) (by kernel_rfl) (by kernel_rfl) (fun _ _ _ h => h) (Or.inl ⟨by rfl, ?hy63⟩) (by assumption) ?ty63
    case hy63 => (intro w5 hSw; obtain ⟨-, -⟩ := hSw; (try dsimp only at e0 e1 e2 e3); go_simp; all_goals with_reducible rfl)
    simp only [Act.put, List.getElem_toArray, List.getElem_cons_zero, List.getElem_cons_succ, List.setIfInBounds_toArray, List.set_cons_zero, List.set_cons_succ]
    refine wpAnyH_take (i := 25) (v := ?_) rfl (by kernel_rfl) (by kernel_rfl) (by kernel_rfl) (fun _ _ _ h => h) (Or.inl ⟨by rfl, ?hy64⟩) (by assumption) ?ty64
    case hy64 => (intro w5 hSw; obtain ⟨⟨e0, e1, e2, e3⟩, -⟩ := hSw; (try dsimp only at e0 e1 e2 e3); go_simp; all_goals with_reducible rfl)
    simp only [Act.put, List.getElem_toArray, List.getElem_cons_zero, List.getElem_cons_succ, List.setIfInBounds_toArray, List.set_cons_zero, List.set_cons_succ]
    refine wpAnyH_take (i := 26) (v := ?_) rfl (by kernel_rfl) (by kernel_rfl) (by kernel_rfl) (fun _ _ _ h => h) (Or.inl ⟨by rfl, ?hy65⟩) (by assumption) ?ty65
    case hy65 => (intro w5 hSw; obtain ⟨-, ⟨e0, e1, e2, e3⟩⟩ := hSw; (try dsimp only at e0 e1 e2 e3); go_simp; all_goals with_reducible rfl)
    simp only [Act.put, List.getElem_toArray, List.getElem_cons_zero, List.getElem_cons_succ, List.setIfInBounds_toArray, List.set_cons_zero, List.set_cons_succ]
    refine wpAnyH_take (i := 27) (v := ?_) rfl (by kernel_rfl) (by kernel_rfl) (by kernel_rfl) (fun _ _ _ h => h) (Or.inl ⟨by rfl, ?hy66⟩) (by assumption) ?ty66
    case hy66 => (intro w5 hSw; obtain ⟨-, -⟩ := hSw; (try dsimp only at e0 e1 e2 e3); go_simp; all_goals with_reducible rfl)
    simp only [Act.put, List.getElem_toArray, List.getElem_cons_zero, List.getElem_cons_succ, List.setIfInBounds_toArray, List.set_cons_zero, List.set_cons_succ]
    refine wpAnyH_take (i := 28) (v := ?_) rfl (by kernel_rfl) (by kernel_rfl) (by kernel_rfl) (fun _ _ _ h => h) (Or.inl ⟨by rfl, ?hy67⟩) (by assumption) ?ty67
    case hy67 => (intro w5 hSw; obtain ⟨-, -⟩ := hSw; (try dsimp only at e0 e1 e2 e3); go_simp; all_goals with_reducible rfl)
    simp only [Act.put, List.getElem_toArray, List.getElem_cons_zero, List.getElem_cons_succ, List.setIfInBounds_toArray, List.set_cons_zero, List.set_cons_succ]
    refine wpAnyH_ready (rs := [24]) (by kernel_rfl) (by simp) ?_
    refine AllReadyH.cons rfl (fun K hK => ?_) AllReadyH.nil
    go_simp
    refine (HAB.out _ hby3).mono ?_
    rintro e y4 ⟨rfl, hcy4⟩
    have hby4 := hby3.trans (hcy4.mono hby3.size)
    refine hK.out _ _ (HSK.out _ hby4) (fun hHeld => ?_)
    clear hK K hcy4
    refine wpAnyH_ready (rs := [29]) (by kernel_rfl) (by simp) ?_
    refine AllReadyH.cons rfl (fun K hK => ?_) AllReadyH.nil
    go_simp
    refine (HSP.out _ hby4).mono ?_
    rintro e y5 ⟨rfl, hcy5⟩
    have hby5 := hby4.trans (hcy5.mono hby4.size)
    refine hK.out _ _ (HSK.out _ hby5) (fun hHeld => ?_)
    clear hK K hcy5
    refine wpAnyH_take (i := 30) (v := ?_) rfl (by kernel_rfl) (by kernel_rfl) (by kernel_rfl) (fun _ _ _ h => h) (Or.inl ⟨by rfl, ?hy68⟩) (by assumption) ?ty68
    case hy68 => (intro w5 hSw; obtain ⟨-, -⟩ := hSw; (try dsimp only at e0 e1 e2 e3); go_simp; all_goals with_reducible rfl)
    simp only [Act.put, List.getElem_toArray, List.getElem_cons_zero, List.getElem_cons_succ, List.setIfInBounds_toArray, List.set_cons_zero, List.set_cons_succ]
    refine wpAnyH_take (i := 31) (v := ?_) rfl (by kernel_rfl) (by kernel_rfl) (by kernel_rfl) (fun _ _ _ h => h) (Or.inl ⟨by rfl, ?hy69⟩) (by assumption) ?ty69
    case hy69 => (intro w5 hSw; obtain ⟨-, -⟩ := hSw; (try dsimp only at e0 e1 e2 e3); go_simp; all_goals with_reducible rfl)
    simp only [Act.put, List.getElem_toArray, List.getElem_cons_zero, List.getElem_cons_succ, List.setIfInBounds_toArray, List.set_cons_zero, List.set_cons_succ]
    refine wpAnyH_done (by kernel_rfl) ?_ _
    clear hHeld
    have hBy : Below w.heap.size w y5 := hB3.trans (hby5.mono hB3.size)
    clear hby0 hby1 hby2 hby3 hby4 hby5 HAB HBA HAA HSP HSK hA hB HNB hB3
    have HIN : Hid (∀ W, Below y5.heap.size y5 W → Rd W a0 l) := fun W hb => (hr.below hBy).below hb
    go_wp2_with fail
    refine (drawSliceList_any a0 len0 cap0 l y5 hl (hr.below hBy) hBl hn).mono ?_
    rintro e z1 ⟨ol, g, cp, f, t, rfl, ho, hcp, h61, hbz1⟩
    have hB1 : Below w.heap.size w z1 := hBy.trans (hbz1.mono hBy.size)
    have ri := (OwnI.rd ho).2
    obtain ⟨N, hN⟩ : ∃ N, ol.length = N := ⟨_, rfl⟩
    rw [hN] at ho hcp h61
    have HSL : Hid (∀ (W : World) (f t : Int), Below z1.heap.size z1 W → Calls Tryz.prog 10 #[.slice (some ⟨g, 0, none⟩) N cp, .int .i64 f, .int .i64 t] W fun e w' => NumEndL (lsV ol f t) W e w') := fun W f t hb => sliceList_any g N ol f t W (ri.below hb) hN hcp
    have HSS : Hid (∀ (W : World) (f t : Int), Below z1.heap.size z1 W → Calls Tryz.prog 11 #[.slice (some ⟨g, 0, none⟩) N cp, .int .i64 f, .int .i64 t] W fun e w' => NumEndL (lsV ol f t) W e w') := fun W f t hb => specSliceList_any g N ol f t W (ri.below hb) hN hcp
    have HRI0 : Hid (∀ W, Below z1.heap.size z1 W → RdI W (some ⟨g, 0, none⟩) ol) := fun W hb => ri.below hb
    have HFW : Hid ((lsV ol f t).1 = 0 → N ≤ 60 ∧ (lsV ol f t).2.length ≤ N) := fun h => by have := lsV_few h; rw [hN] at this; exact this
    clear ho
    rw [hN]
    go_wp2_with fail
    refine (HSL.out z1 f t (Below.refl _ _)).mono ?_
    rintro e z2 ⟨v2, rfl, ho2, hb2⟩
    obtain ⟨K2, hK2⟩ : ∃ K, (lsV ol f t).2.length = K := ⟨_, rfl⟩
    obtain ⟨a2, cp2, hv2, -, -⟩ := ho2.form
    rw [hK2] at hv2
    subst hv2
    rw [hK2] at HFW
    obtain ⟨c, hc⟩ : ∃ c, (lsV ol f t).1 = c := ⟨_, rfl⟩
    rw [hc] at HFW ⊢
    obtain ⟨Z3, hZ3⟩ : ∃ W, z2.alloc (.cells #[.int .i64 c, .slice a2 K2 cp2] 33) = W := ⟨_, rfl⟩
    have hb23 : Below z2.heap.size z2 Z3 := by rw [← hZ3]; exact (Below.refl _ _).alloc (Nat.le_refl _) _
    have hG0 : Z3.cell? ⟨z2.heap.size, 0, none⟩ = some (.int .i64 c) := by rw [← hZ3]; simp
    have hG1 : Z3.cell? ⟨z2.heap.size, 1, none⟩ = some (.slice a2 K2 cp2) := by rw [← hZ3]; simp
    have hb13 : Below z1.heap.size z1 Z3 := hb2.trans (hb23.mono hb2.size)
    have hB3' : Below w.heap.size w Z3 := hB1.trans (hb13.mono hB1.size)
    have HO20 : Hid (∀ W, Below Z3.heap.size Z3 W → RdI W a2 (lsV ol f t).2) := fun W hb => ((OwnI.rd ho2).2.below hb23).below hb
    have HZ3 : Hid (_ = Z3) := hZ3
    clear hZ3 ho2 hb2 hb23 ri
    by_cases hc0 : c = 0
    case neg =>
      clear HFW HRI0 HSL HO20
      go_wp2_with (rw [HZ3.out])
      obtain ⟨G, hG⟩ : ∃ G, z2.heap.size = G := ⟨_, rfl⟩
      rw [hG] at hG0
      rw [hG]
      have hGlt : G < Z3.heap.size := World.block_lt_of_cell? Z3 ⟨G, 0, none⟩ hG0
      have hG0d : Z3.drew.cell? ⟨G, 0, none⟩ = some (.int .i64 c) := hG0
      have hBd : Below w.heap.size w Z3.drew := hB3'.drew
      have fN0 := fldN0
      clear hG0 hG1 HZ3
      refine wp_region_held_drew (S := fun w' => w'.cell? ⟨G, 0, none⟩ = some (.int .i64 c) ∧ True) (by kernel_rfl) ?hS2 (fun hHeld => ?_)
      case hS2 => exact ⟨hG0d, trivial⟩
      refine wpAnyH_take (i := 0) (v := ?_) rfl (by kernel_rfl) (by kernel_rfl) (by kernel_rfl) (fun _ _ _ h => h) (Or.inl ⟨by rfl, ?hy3⟩) (by assumption) ?ty3
      case hy3 => (intro w5 hSw; obtain ⟨e0, -⟩ := hSw; go_simp; all_goals with_reducible rfl)
      simp only [Act.put, List.getElem_toArray, List.getElem_cons_zero, List.setIfInBounds_toArray, List.set_cons_zero, List.set_cons_succ]
      refine wpAnyH_take (i := 1) (v := ?_) rfl (by kernel_rfl) (by kernel_rfl) (by kernel_rfl) (fun _ _ _ h => h) (Or.inl ⟨by rfl, ?hy4⟩) (by assumption) ?ty4
      case hy4 => (intro w5 hSw; obtain ⟨e0, -⟩ := hSw; go_simp; all_goals with_reducible rfl)
      simp only [Act.put, List.getElem_toArray, List.getElem_cons_zero, List.getElem_cons_succ, List.setIfInBounds_toArray, List.set_cons_zero, List.set_cons_succ]
      refine wpAnyH_take (i := 2) (v := ?_) rfl (by kernel_rfl) (by kernel_rfl) (by kernel_rfl) (fun _ _ _ h => h) (Or.inl ⟨by rfl, ?hy5⟩) (by assumption) ?ty5
      case hy5 => (intro w5 hSw; obtain ⟨e0, -⟩ := hSw; go_simp; all_goals with_reducible rfl)
      simp only [Act.put, List.getElem_toArray, List.getElem_cons_zero, List.getElem_cons_succ, List.setIfInBounds_toArray, List.set_cons_zero, List.set_cons_succ]
      refine wpAnyH_take (i := 5) (v := ?_) rfl (by kernel_rfl) (by kernel_rfl) (by kernel_rfl) (fun _ _ _ h => h) (Or.inl ⟨by rfl, ?hy6⟩) (by assumption) ?ty6
      case hy6 => (intro w5 hSw; obtain ⟨e0, -⟩ := hSw; go_simp; all_goals with_reducible rfl)
      simp only [Act.put, List.getElem_toArray, List.getElem_cons_zero, List.getElem_cons_succ, List.setIfInBounds_toArray, List.set_cons_zero, List.set_cons_succ]
      refine wpAnyH_take (i := 6) (v := ?_) rfl (by kernel_rfl) (by kernel_rfl) (by kernel_rfl) (fun _ _ _ h => h) (Or.inl ⟨by rfl, ?hy7⟩) (by assumption) ?ty7
      case hy7 => (intro w5 hSw; obtain ⟨e0, -⟩ := hSw; go_simp; all_goals with_reducible rfl)
      simp only [Act.put, List.getElem_toArray, List.getElem_cons_zero, List.getElem_cons_succ, List.setIfInBounds_toArray, List.set_cons_zero, List.set_cons_succ]
      have hbq : Below z1.heap.size z1 Z3.drew := hb13.drew
      have HG9 : Hid (∀ W, Below Z3.heap.size Z3.drew W → W.cell? ⟨G, 0, none⟩ = some (.int .i64 c) ∧ True) := fun W hb => ⟨(hb.cell (p := ⟨G, 0, none⟩) hGlt).trans hG0d, trivial⟩
      have hszd : Z3.heap.size ≤ Z3.drew.heap.size := Nat.le_refl _
      generalize hZd : Z3.drew = zd at *
      refine wpAnyH_ready (rs := [3]) (by kernel_rfl) (by simp) ?_
      refine AllReadyH.cons rfl (fun K hK => ?_) AllReadyH.nil
      go_simp
      refine (HSS.out zd f t hbq).mono ?_
      rintro e ze ⟨vE, rfl, hoE, hbE⟩
      obtain ⟨aE, cE, hvE, -, -⟩ := hoE.form
      subst hvE
      refine hK.out _ _ (HG9.out _ (hbE.mono (by omega))) (fun hHeld => ?_)
      clear hK K
      refine wpAnyH_take (i := 4) (v := ?_) rfl (by kernel_rfl) (by kernel_rfl) (by kernel_rfl) (fun _ _ _ h => h) (Or.inl ⟨by rfl, ?hy8⟩) (by assumption) ?ty8
      case hy8 => (intro w5 hSw; obtain ⟨e0, -⟩ := hSw; go_simp; all_goals with_reducible rfl)
      simp only [Act.put, List.getElem_toArray, List.getElem_cons_zero, List.getElem_cons_succ, List.setIfInBounds_toArray, List.set_cons_zero, List.set_cons_succ]
      refine wpAnyH_take (i := 7) (v := ?_) rfl (by kernel_rfl) (by kernel_rfl) (by kernel_rfl) (fun _ _ _ h => h) (Or.inl ⟨by rfl, ?hy9⟩) (by assumption) ?ty9
      case hy9 => (intro w5 hSw; obtain ⟨e0, -⟩ := hSw; go_simp; all_goals with_reducible rfl)
      simp only [Act.put, List.getElem_toArray, List.getElem_cons_zero, List.getElem_cons_succ, List.setIfInBounds_toArray, List.set_cons_zero, List.set_cons_succ]
      refine wpAnyH_take (i := 8) (v := ?_) rfl (by kernel_rfl) (by kernel_rfl) (by kernel_rfl) (fun _ _ _ h => h) (Or.inl ⟨by rfl, ?hy10⟩) (by assumption) ?ty10
      case hy10 => (intro w5 hSw; obtain ⟨e0, -⟩ := hSw; go_simp; all_goals with_reducible rfl)
      simp only [Act.put, List.getElem_toArray, List.getElem_cons_zero, List.getElem_cons_succ, List.setIfInBounds_toArray, List.set_cons_zero, List.set_cons_succ]
      refine wpAnyH_done (by kernel_rfl) ?_ _
      have hBe := hBd.trans (hbE.mono hBd.size)
      clear hHeld
      go_wp2
      go_ret
      exact ⟨rfl, hBe⟩
    have hc0' := hc0
    subst hc0'
    obtain ⟨hN60, hKN⟩ := HFW.out (by trivial)
    have hKN' : (K2 : Int) ≤ (N : Int) := by omega
    clear HFW
    go_wp2_with (rw [HZ3.out])
    clear HZ3
    refine (lwAt_any a0 len0 cap0 3 8 l Z3 hl (hr.below hB3') hBl hn (by omega) (by omega) (by omega)).mono ?_
    rintro e z4 ⟨r, rfl, hr0, hr8, hb4⟩
    obtain ⟨cut, hcut⟩ : ∃ cut, 1 + r = cut := ⟨_, rfl⟩
    have hcut1 : 1 ≤ cut := by omega
    have hcut8 : cut ≤ 8 := by omega
    obtain ⟨hl1, hl2⟩ := lsV_one (d := ol) (by omega) hcut1 (by omega)
    have hb14 : Below z1.heap.size z1 z4 := hb13.trans (hb4.mono hb13.size)
    go_wp2_with fail
    refine (HSL.out z4 1 cut hb14).mono ?_
    rintro e z5 ⟨v5, rfl, ho5, hb5⟩
    rw [hl1] at ho5 ⊢
    dsimp only at ho5 ⊢
    obtain ⟨K5, hK5⟩ : ∃ K, (ol.take cut.toNat).length = K := ⟨_, rfl⟩
    obtain ⟨a5, cp5, hv5, -, -⟩ := ho5.form
    rw [hK5] at hv5
    subst hv5
    obtain ⟨Z6, hZ6⟩ : ∃ W, z5.alloc (.cells #[.int .i64 0, .slice a5 K5 cp5] 33) = W := ⟨_, rfl⟩
    have hb56 : Below z5.heap.size z5 Z6 := by rw [← hZ6]; exact (Below.refl _ _).alloc (Nat.le_refl _) _
    have hG51 : Z6.cell? ⟨z5.heap.size, 1, none⟩ = some (.slice a5 K5 cp5) := by rw [← hZ6]; simp
    have hb46 := hb5.trans (hb56.mono hb5.size)
    have hb16 : Below z1.heap.size z1 Z6 := hb14.trans (hb46.mono hb14.size)
    have ho6 := ho5.below hb56 (Nat.le_refl _)
    have HZ6 : Hid (_ = Z6) := hZ6
    clear hZ6 ho5 hb5 hb56
    go_wp2_with (rw [HZ6.out])
    clear HZ6
    refine (HSL.out Z6 (cut + 1) 999 hb16).mono ?_
    rintro e z7 ⟨v7, rfl, ho7, hb7⟩
    rw [hl2] at ho7 ⊢
    dsimp only at ho7 ⊢
    obtain ⟨K7, hK7⟩ : ∃ K, (ol.drop cut.toNat).length = K := ⟨_, rfl⟩
    obtain ⟨a7, cp7, hv7, -, -⟩ := ho7.form
    rw [hK7] at hv7
    subst hv7
    obtain ⟨Z8, hZ8⟩ : ∃ W, z7.alloc (.cells #[.int .i64 0, .slice a7 K7 cp7] 33) = W := ⟨_, rfl⟩
    have hb78 : Below z7.heap.size z7 Z8 := by rw [← hZ8]; exact (Below.refl _ _).alloc (Nat.le_refl _) _
    have hG71 : Z8.cell? ⟨z7.heap.size, 1, none⟩ = some (.slice a7 K7 cp7) := by rw [← hZ8]; simp
    have hb68 := hb7.trans (hb78.mono hb7.size)
    have hb18 : Below z1.heap.size z1 Z8 := hb16.trans (hb68.mono hb16.size)
    have hb38 : Below Z3.heap.size Z3 Z8 := (hb4.trans (hb46.mono hb4.size)).trans (hb68.mono (Nat.le_trans hb4.size hb46.size))
    have hB8 : Below w.heap.size w Z8 := hB1.trans (hb18.mono hB1.size)
    have HZ1 : Hid (∀ W, Below Z8.heap.size Z8 W → Below z1.heap.size z1 W) := fun W hb => hb18.trans (hb.mono hb18.size)
    have HRI : Hid (∀ W, Below Z8.heap.size Z8 W → RdI W (some ⟨g, 0, none⟩) ol) := fun W hb => HRI0.out W (HZ1.out W hb)
    have HO2 : Hid (∀ W, Below Z8.heap.size Z8 W → RdI W a2 (lsV ol f t).2) := fun W hb => HO20.out W (hb38.trans (hb.mono hb38.size))
    have HO5 : Hid (∀ W, Below Z8.heap.size Z8 W → OwnI W z4.heap.size (.slice a5 K5 cp5) (ol.take cut.toNat)) := fun W hb => (ho6.below hb68 (Nat.le_refl _)).below hb (Nat.le_refl _)
    have HO7 : Hid (∀ W, Below Z8.heap.size Z8 W → OwnI W Z6.heap.size (.slice a7 K7 cp7) (ol.drop cut.toNat)) := fun W hb => (ho7.below hb78 (Nat.le_refl _)).below hb (Nat.le_refl _)
    obtain ⟨G, hG⟩ : ∃ G, z2.heap.size = G := ⟨_, rfl⟩
    obtain ⟨G5, hG5⟩ : ∃ G, z5.heap.size = G := ⟨_, rfl⟩
    obtain ⟨G7, hG7⟩ : ∃ G, z7.heap.size = G := ⟨_, rfl⟩
    rw [hG] at hG1
    rw [hG5] at hG51
    rw [hG7] at hG71
    have HSX : Hid (∀ W, Below Z8.heap.size Z8 W → W.cell? ⟨G, 1, none⟩ = some (.slice a2 K2 cp2) ∧ W.cell? ⟨G5, 1, none⟩ = some (.slice a5 K5 cp5) ∧ W.cell? ⟨G7, 1, none⟩ = some (.slice a7 K7 cp7)) := fun W hb =>
      have h1 := (hb38.cell (p := ⟨G, 1, none⟩) (World.block_lt_of_cell? Z3 _ hG1)).trans hG1
      have h5 := (hb68.cell (p := ⟨G5, 1, none⟩) (World.block_lt_of_cell? Z6 _ hG51)).trans hG51
      ⟨(hb.cell (p := ⟨G, 1, none⟩) (World.block_lt_of_cell? Z8 _ h1)).trans h1, (hb.cell (p := ⟨G5, 1, none⟩) (World.block_lt_of_cell? Z8 _ h5)).trans h5, (hb.cell (p := ⟨G7, 1, none⟩) (World.block_lt_of_cell? Z8 _ hG71)).trans hG71⟩
    have hK5l : K5 ≤ N := by rw [← hK5, ← hN, List.length_take]; omega
    have hK7l : K7 ≤ N := by rw [← hK7, ← hN, List.length_drop]; omega
    have hKs : (ol.take cut.toNat).length + (ol.drop cut.toNat).length = N := by rw [← List.length_append, List.take_append_drop, hN]
    have HZ8 : Hid (_ = Z8) := hZ8
    have fN1 := fldN1
    clear hZ8 ho6 ho7 hb78 hb68 hb7 hb46 hb38 hb18 hb16 hb14 hb4 hG1 hG51 hG71 hl1 hl2 HRI0 HO20 hG0
    go_wp2_with (rw [HZ8.out])
    clear HZ8
    (try rw [hG])
    (try rw [hG5])
    (try rw [hG7])
    clear hG hG5 hG7
    obtain ⟨b5, hb5⟩ : ∃ b, z4.heap.size = b := ⟨_, rfl⟩
    obtain ⟨b7, hb7⟩ : ∃ b, Z6.heap.size = b := ⟨_, rfl⟩
    rw [hb5] at HO5
    rw [hb7] at HO7
    refine wp_region_held_drew (S := fun w' => w'.cell? ⟨G, 1, none⟩ = some (.slice a2 K2 cp2) ∧ w'.cell? ⟨G5, 1, none⟩ = some (.slice a5 K5 cp5) ∧ w'.cell? ⟨G7, 1, none⟩ = some (.slice a7 K7 cp7)) (by kernel_rfl) ?hS11 (fun hHeld => ?_)
    case hS11 => exact HSX.out _ (Below.refl _ _).drew
    refine wpAnyH_take (i := 1) (v := ?_) rfl (by kernel_rfl) (by kernel_rfl) (by kernel_rfl) (fun _ _ _ h => h) (Or.inl ⟨by rfl, ?hy12⟩) (by assumption) ?ty12
    case hy12 => (intro w5 hSw; obtain ⟨e0, e1, e2⟩ := hSw; go_simp; all_goals with_reducible rfl)
    simp only [Act.put, List.getElem_toArray, List.getElem_cons_zero, List.getElem_cons_succ, List.setIfInBounds_toArray, List.set_cons_zero, List.set_cons_succ]
    refine wpAnyH_take (i := 2) (v := ?_) rfl (by kernel_rfl) (by kernel_rfl) (by kernel_rfl) (fun _ _ _ h => h) (Or.inl ⟨by rfl, ?hy13⟩) (by assumption) ?ty13
    case hy13 => (intro w5 hSw; obtain ⟨e0, e1, e2⟩ := hSw; go_simp; all_goals with_reducible rfl)
    simp only [Act.put, List.getElem_toArray, List.getElem_cons_zero, List.getElem_cons_succ, List.setIfInBounds_toArray, List.set_cons_zero, List.set_cons_succ]
    refine wpAnyH_take (i := 4) (v := ?_) rfl (by kernel_rfl) (by kernel_rfl) (by kernel_rfl) (fun _ _ _ h => h) (Or.inl ⟨by rfl, ?hy14⟩) (by assumption) ?ty14
    case hy14 => (intro w5 hSw; obtain ⟨e0, e1, e2⟩ := hSw; go_simp; all_goals with_reducible rfl)
    simp only [Act.put, List.getElem_toArray, List.getElem_cons_zero, List.getElem_cons_succ, List.setIfInBounds_toArray, List.set_cons_zero, List.set_cons_succ]
    refine wpAnyH_take (i := 5) (v := ?_) rfl (by kernel_rfl) (by kernel_rfl) (by kernel_rfl) (fun _ _ _ h => h) (Or.inl ⟨by rfl, ?hy15⟩) (by assumption) ?ty15
    case hy15 => (intro w5 hSw; obtain ⟨e0, e1, e2⟩ := hSw; go_simp; all_goals with_reducible rfl)
    simp only [Act.put, List.getElem_toArray, List.getElem_cons_zero, List.getElem_cons_succ, List.setIfInBounds_toArray, List.set_cons_zero, List.set_cons_succ]
    refine wpAnyH_take (i := 7) (v := ?_) rfl (by kernel_rfl) (by kernel_rfl) (by kernel_rfl) (fun _ _ _ h => h) (Or.inl ⟨by rfl, ?hy16⟩) (by assumption) ?ty16
    case hy16 => (intro w5 hSw; obtain ⟨e0, e1, e2⟩ := hSw; go_simp; all_goals with_reducible rfl)
    simp only [Act.put, List.getElem_toArray, List.getElem_cons_zero, List.getElem_cons_succ, List.setIfInBounds_toArray, List.set_cons_zero, List.set_cons_succ]
    have hy0 : Below Z8.heap.size Z8 Z8.drew := (Below.refl _ _).drew
    have hsz0 : Z8.heap.size ≤ Z8.drew.heap.size := hy0.size
    generalize Z8.drew = x0 at *
    refine wpAnyH_ready (rs := [0]) (by kernel_rfl) (by simp) ?_
    refine AllReadyH.cons rfl (fun K hK => ?_) AllReadyH.nil
    obtain ⟨x1, he1⟩ : ∃ W, x0.alloc (.cells #[] 2) = W := ⟨_, rfl⟩
    have hyc : Below x0.heap.size x0 x1 := by rw [← he1]; exact (Below.refl _ _).alloc (Nat.le_refl _) _
    have hoN : OwnI x1 Z8.heap.size (.slice (some ⟨x0.heap.size, 0, none⟩) 0 0) [] := by rw [← he1]; exact OwnI.lit x0 _ hsz0 #[] [] rfl (by simp)
    have hy1 := hy0.trans (hyc.mono hsz0)
    have hsz1 : Z8.heap.size ≤ x1.heap.size := hy1.size
    go_simp
    refine hK.out _ _ (HSX.out _ hy1) (fun hHeld => ?_)
    clear hK K
    clear he1 hyc
    refine wpAnyH_ready (rs := [3]) (by kernel_rfl) (by simp) ?_
    refine AllReadyH.cons rfl (fun K hK => ?_) AllReadyH.nil
    refine step_appA rfl _ _ rfl Z8.heap.size _ _ [] rfl hoN b5 (ol.take cut.toNat) rfl (HO5.out _ hy1) (by simp only [List.length_nil]; omega) hsz1 ?_
    intro vA x2 hoA hcA
    rw [List.nil_append] at hoA
    have hy2 := hy1.trans hcA
    have hsz2 : Z8.heap.size ≤ x2.heap.size := hy2.size
    obtain ⟨aA, cA, hvA, -, -⟩ := hoA.form
    rw [hK5] at hvA
    subst hvA
    refine hK.out _ _ (HSX.out _ hy2) (fun hHeld => ?_)
    clear hK K
    refine wpAnyH_ready (rs := [6]) (by kernel_rfl) (by simp) ?_
    refine AllReadyH.cons rfl (fun K hK => ?_) AllReadyH.nil
    refine step_appA rfl _ _ rfl Z8.heap.size _ _ (ol.take cut.toNat) rfl hoA b7 (ol.drop cut.toNat) rfl (HO7.out _ hy2) (by omega) hsz2 ?_
    intro vB x3 hoB hcB
    rw [List.take_append_drop] at hoB
    have hy3 := hy2.trans hcB
    have hsz3 : Z8.heap.size ≤ x3.heap.size := hy3.size
    obtain ⟨aB, cB, hvB, -, -⟩ := hoB.form
    rw [hN] at hvB
    subst hvB
    refine hK.out _ _ (HSX.out _ hy3) (fun hHeld => ?_)
    clear hK K
    refine wpAnyH_ready (rs := [8]) (by kernel_rfl) (by simp) ?_
    refine AllReadyH.cons rfl (fun K hK => ?_) AllReadyH.nil
    go_simp
    refine (lwNums_any aB (some ⟨g, 0, none⟩) N N cB cp ol ol x3 hN hN (OwnI.rd hoB).2 (HRI.out _ hy3) (by omega) (by omega)).mono ?_
    rintro e x4 ⟨rfl, hcL⟩
    rw [decide_eq_true (rfl : ol = ol)]
    have hy4 := hy3.trans (hcL.mono (Nat.le_trans hy3.size (Nat.le_refl _)))
    refine hK.out _ _ (HSX.out _ hy4) (fun hHeld => ?_)
    clear hK K hcL
    refine wpAnyH_take (i := 9) (v := ?_) rfl (by kernel_rfl) (by kernel_rfl) (by kernel_rfl) (fun _ _ _ h => h) (Or.inl ⟨by rfl, ?hy17⟩) (by assumption) ?ty17
    case hy17 => (intro w5 hSw; obtain ⟨e0, e1, e2⟩ := hSw; go_simp; all_goals with_reducible rfl)
    simp only [Act.put, List.getElem_toArray, List.getElem_cons_zero, List.getElem_cons_succ, List.setIfInBounds_toArray, List.set_cons_zero, List.set_cons_succ]
    refine wpAnyH_take (i := 10) (v := ?_) rfl (by kernel_rfl) (by kernel_rfl) (by kernel_rfl) (fun _ _ _ h => h) (Or.inl ⟨by rfl, ?hy18⟩) (by assumption) ?ty18
    case hy18 => (intro w5 hSw; obtain ⟨e0, e1, e2⟩ := hSw; go_simp; all_goals with_reducible rfl)
    simp only [Act.put, List.getElem_toArray, List.getElem_cons_zero, List.getElem_cons_succ, List.setIfInBounds_toArray, List.set_cons_zero, List.set_cons_succ]
    refine wpAnyH_take (i := 11) (v := ?_) rfl (by kernel_rfl) (by kernel_rfl) (by kernel_rfl) (fun _ _ _ h => h) (Or.inl ⟨by rfl, ?hy19⟩) (by assumption) ?ty19
    case hy19 => (intro w5 hSw; obtain ⟨e0, e1, e2⟩ := hSw; go_simp; all_goals with_reducible rfl)
    simp only [Act.put, List.getElem_toArray, List.getElem_cons_zero, List.getElem_cons_succ, List.setIfInBounds_toArray, List.set_cons_zero, List.set_cons_succ]
    refine wpAnyH_take (i := 12) (v := ?_) rfl (by kernel_rfl) (by kernel_rfl) (by kernel_rfl) (fun _ _ _ h => h) (Or.inl ⟨by rfl, ?hy20⟩) (by assumption) ?ty20
    case hy20 => (intro w5 hSw; obtain ⟨e0, e1, e2⟩ := hSw; go_simp; all_goals with_reducible rfl)
    simp only [Act.put, List.getElem_toArray, List.getElem_cons_zero, List.getElem_cons_succ, List.setIfInBounds_toArray, List.set_cons_zero, List.set_cons_succ]
    refine wpAnyH_take (i := 13) (v := ?_) rfl (by kernel_rfl) (by kernel_rfl) (by kernel_rfl) (fun _ _ _ h => h) (Or.inl ⟨by rfl, ?hy21⟩) (by assumption) ?ty21
    case hy21 => (intro w5 hSw; obtain ⟨e0, e1, e2⟩ := hSw; go_simp; all_goals with_reducible rfl)
    simp only [Act.put, List.getElem_toArray, List.getElem_cons_zero, List.getElem_cons_succ, List.setIfInBounds_toArray, List.set_cons_zero, List.set_cons_succ]
    refine wpAnyH_take (i := 14) (v := ?_) rfl (by kernel_rfl) (by kernel_rfl) (by kernel_rfl) (fun _ _ _ h => h) (Or.inl ⟨by rfl, ?hy22⟩) (by assumption) ?ty22
    case hy22 => (intro w5 hSw; obtain ⟨e0, e1, e2⟩ := hSw; go_simp; all_goals with_reducible rfl)
    simp only [Act.put, List.getElem_toArray, List.getElem_cons_zero, List.getElem_cons_succ, List.setIfInBounds_toArray, List.set_cons_zero, List.set_cons_succ]
    refine wpAnyH_ready (rs := [15]) (by kernel_rfl) (by simp) ?_
    refine AllReadyH.cons rfl (fun K hK => ?_) AllReadyH.nil
    go_simp
    refine (HSL.out x4 t f (HZ1.out _ hy4)).mono ?_
    rintro e x5 ⟨vT, rfl, hoT, hcT⟩
    rw [lsV_turn] at hoT
    obtain ⟨aT, cT, hvT, -, -⟩ := hoT.form
    rw [hK2] at hvT
    subst hvT
    have hy5 := hy4.trans (hcT.mono hy4.size)
    refine hK.out _ _ (HSX.out _ hy5) (fun hHeld => ?_)
    clear hK K
    refine wpAnyH_take (i := 16) (v := ?_) rfl (by kernel_rfl) (by kernel_rfl) (by kernel_rfl) (fun _ _ _ h => h) (Or.inl ⟨by rfl, ?hy23⟩) (by assumption) ?ty23
    case hy23 => (intro w5 hSw; obtain ⟨e0, e1, e2⟩ := hSw; go_simp; all_goals with_reducible rfl)
    simp only [Act.put, List.getElem_toArray, List.getElem_cons_zero, List.getElem_cons_succ, List.setIfInBounds_toArray, List.set_cons_zero, List.set_cons_succ]
    refine wpAnyH_ready (rs := [17]) (by kernel_rfl) (by simp) ?_
    refine AllReadyH.cons rfl (fun K hK => ?_) AllReadyH.nil
    go_simp
    refine (lwNums_any a2 aT K2 K2 cp2 cT (lsV ol f t).2 (lsV ol f t).2 x5 hK2 hK2 (HO2.out _ hy5) (OwnI.rd hoT).2 (by omega) (by omega)).mono ?_
    rintro e x6 ⟨rfl, hcL⟩
    rw [decide_eq_true (rfl : (lsV ol f t).2 = (lsV ol f t).2)]
    have hy6 := hy5.trans (hcL.mono (Nat.le_trans hy5.size (Nat.le_refl _)))
    refine hK.out _ _ (HSX.out _ hy6) (fun hHeld => ?_)
    clear hK K hcL
    refine wpAnyH_take (i := 18) (v := ?_) rfl (by kernel_rfl) (by kernel_rfl) (by kernel_rfl) (fun _ _ _ h => h) (Or.inl ⟨by rfl, ?hy24⟩) (by assumption) ?ty24
    case hy24 => (intro w5 hSw; obtain ⟨e0, e1, e2⟩ := hSw; go_simp; all_goals with_reducible rfl)
    simp only [Act.put, List.getElem_toArray, List.getElem_cons_zero, List.getElem_cons_succ, List.setIfInBounds_toArray, List.set_cons_zero, List.set_cons_succ]
    refine wpAnyH_take (i := 19) (v := ?_) rfl (by kernel_rfl) (by kernel_rfl) (by kernel_rfl) (fun _ _ _ h => h) (Or.inl ⟨by rfl, ?hy25⟩) (by assumption) ?ty25
    case hy25 => (intro w5 hSw; obtain ⟨e0, e1, e2⟩ := hSw; go_simp; all_goals with_reducible rfl)
    simp only [Act.put, List.getElem_toArray, List.getElem_cons_zero, List.getElem_cons_succ, List.setIfInBounds_toArray, List.set_cons_zero, List.set_cons_succ]
    refine wpAnyH_take (i := 20) (v := ?_) rfl (by kernel_rfl) (by kernel_rfl) (by kernel_rfl) (fun _ _ _ h => h) (Or.inl ⟨by rfl, ?hy26⟩) (by assumption) ?ty26
    case hy26 => (intro w5 hSw; obtain ⟨e0, e1, e2⟩ := hSw; go_simp; all_goals with_reducible rfl)
    simp only [Act.put, List.getElem_toArray, List.getElem_cons_zero, List.getElem_cons_succ, List.setIfInBounds_toArray, List.set_cons_zero, List.set_cons_succ]
    refine wpAnyH_take (i := 21) (v := ?_) rfl (by kernel_rfl) (by kernel_rfl) (by kernel_rfl) (fun _ _ _ h => h) (Or.inl ⟨by rfl, ?hy27⟩) (by assumption) ?ty27
    case hy27 => (intro w5 hSw; obtain ⟨e0, e1, e2⟩ := hSw; go_simp; all_goals with_reducible rfl)
    simp only [Act.put, List.getElem_toArray, List.getElem_cons_zero, List.getElem_cons_succ, List.setIfInBounds_toArray, List.set_cons_zero, List.set_cons_succ]
    refine wpAnyH_take (i := 22) (v := ?_) rfl (by kernel_rfl) (by kernel_rfl) (by kernel_rfl) (fun _ _ _ h => h) (Or.inl ⟨by rfl, ?hy28⟩) (by assumption) ?ty28
    case hy28 => (intro w5 hSw; obtain ⟨e0, e1, e2⟩ := hSw; go_simp; all_goals with_reducible rfl)
    simp only [Act.put, List.getElem_toArray, List.getElem_cons_zero, List.getElem_cons_succ, List.setIfInBounds_toArray, List.set_cons_zero, List.set_cons_succ]
    refine wpAnyH_take (i := 23) (v := ?_) rfl (by kernel_rfl) (by kernel_rfl) (by kernel_rfl) (fun _ _ _ h => h) (Or.inl ⟨by rfl, ?hy29⟩) (by assumption) ?ty29
    case hy29 => (intro w5 hSw; obtain ⟨e0, e1, e2⟩ := hSw; go_simp; all_goals with_reducible rfl)
    simp only [Act.put, List.getElem_toArray, List.getElem_cons_zero, List.getElem_cons_succ, List.setIfInBounds_toArray, List.set_cons_zero, List.set_cons_succ]
    refine wpAnyH_take (i := 24) (v := ?_) rfl (by kernel_rfl) (by kernel_rfl) (by kernel_rfl) (fun _ _ _ h => h) (Or.inl ⟨by rfl, ?hy30⟩) (by assumption) ?ty30
    case hy30 => (intro w5 hSw; obtain ⟨e0, e1, e2⟩ := hSw; go_simp; all_goals with_reducible rfl)
    simp only [Act.put, List.getElem_toArray, List.getElem_cons_zero, List.getElem_cons_succ, List.setIfInBounds_toArray, List.set_cons_zero, List.set_cons_succ]
    refine wpAnyH_ready (rs := [25]) (by kernel_rfl) (by simp) ?_
    refine AllReadyH.cons rfl (fun K hK => ?_) AllReadyH.nil
    go_simp
    refine (HSS.out x6 f t (HZ1.out _ hy6)).mono ?_
    rintro e x7 ⟨vU, rfl, hoU, hcU⟩
    obtain ⟨aU, cU, hvU, -, -⟩ := hoU.form
    rw [hK2] at hvU
    subst hvU
    have hy7 := hy6.trans (hcU.mono hy6.size)
    refine hK.out _ _ (HSX.out _ hy7) (fun hHeld => ?_)
    clear hK K
    refine wpAnyH_take (i := 26) (v := ?_) rfl (by kernel_rfl) (by kernel_rfl) (by kernel_rfl) (fun _ _ _ h => h) (Or.inl ⟨by rfl, ?hy31⟩) (by assumption) ?ty31
    case hy31 => (intro w5 hSw; obtain ⟨e0, e1, e2⟩ := hSw; go_simp; all_goals with_reducible rfl)
    simp only [Act.put, List.getElem_toArray, List.getElem_cons_zero, List.getElem_cons_succ, List.setIfInBounds_toArray, List.set_cons_zero, List.set_cons_succ]
    refine wpAnyH_ready (rs := [27]) (by kernel_rfl) (by simp) ?_
    refine AllReadyH.cons rfl (fun K hK => ?_) AllReadyH.nil
    go_simp
    refine (lwNums_any a2 aU K2 K2 cp2 cU (lsV ol f t).2 (lsV ol f t).2 x7 hK2 hK2 (HO2.out _ hy7) (OwnI.rd hoU).2 (by omega) (by omega)).mono ?_
    rintro e x8 ⟨rfl, hcL⟩
    rw [decide_eq_true (rfl : (lsV ol f t).2 = (lsV ol f t).2)]
    have hy8 := hy7.trans (hcL.mono (Nat.le_trans hy7.size (Nat.le_refl _)))
    refine hK.out _ _ (HSX.out _ hy8) (fun hHeld => ?_)
    clear hK K hcL
    refine wpAnyH_take (i := 28) (v := ?_) rfl (by kernel_rfl) (by kernel_rfl) (by kernel_rfl) (fun _ _ _ h => h) (Or.inl ⟨by rfl, ?hy32⟩) (by assumption) ?ty32
    case hy32 => (intro w5 hSw; obtain ⟨e0, e1, e2⟩ := hSw; go_simp; all_goals with_reducible rfl)
    simp only [Act.put, List.getElem_toArray, List.getElem_cons_zero, List.getElem_cons_succ, List.setIfInBounds_toArray, List.set_cons_zero, List.set_cons_succ]
    refine wpAnyH_take (i := 29) (v := ?_) rfl (by kernel_rfl) (by kernel_rfl) (by kernel_rfl) (fun _ _ _ h => h) (Or.inl ⟨by rfl, ?hy33⟩) (by assumption) ?ty33
    case hy33 => (intro w5 hSw; obtain ⟨e0, e1, e2⟩ := hSw; go_simp; all_goals with_reducible rfl)
    simp only [Act.put, List.getElem_toArray, List.getElem_cons_zero, List.getElem_cons_succ, List.setIfInBounds_toArray, List.set_cons_zero, List.set_cons_succ]
    refine wpAnyH_take (i := 30) (v := ?_) rfl (by kernel_rfl) (by kernel_rfl) (by kernel_rfl) (fun _ _ _ h => h) (Or.inl ⟨by rfl, ?hy34⟩) (by assumption) ?ty34
    case hy34 => (intro w5 hSw; obtain ⟨e0, e1, e2⟩ := hSw; go_simp; all_goals with_reducible rfl)
    simp only [Act.put, List.getElem_toArray, List.getElem_cons_zero, List.getElem_cons_succ, List.setIfInBounds_toArray, List.set_cons_zero, List.set_cons_succ]
    refine wpAnyH_take (i := 31) (v := ?_) rfl (by kernel_rfl) (by kernel_rfl) (by kernel_rfl) (fun _ _ _ h => h) (Or.inl ⟨by rfl, ?hy35⟩) (by assumption) ?ty35
    case hy35 => (intro w5 hSw; obtain ⟨e0, e1, e2⟩ := hSw; go_simp; all_goals with_reducible rfl)
    simp only [Act.put, List.getElem_toArray, List.getElem_cons_zero, List.getElem_cons_succ, List.setIfInBounds_toArray, List.set_cons_zero, List.set_cons_succ]
    refine wpAnyH_take (i := 32) (v := ?_) rfl (by kernel_rfl) (by kernel_rfl) (by kernel_rfl) (fun _ _ _ h => h) (Or.inl ⟨by rfl, ?hy36⟩) (by assumption) ?ty36
    case hy36 => (intro w5 hSw; obtain ⟨e0, e1, e2⟩ := hSw; go_simp; all_goals with_reducible rfl)
    simp only [Act.put, List.getElem_toArray, List.getElem_cons_zero, List.getElem_cons_succ, List.setIfInBounds_toArray, List.set_cons_zero, List.set_cons_succ]
    refine wpAnyH_take (i := 33) (v := ?_) rfl (by kernel_rfl) (by kernel_rfl) (by kernel_rfl) (fun _ _ _ h => h) (Or.inl ⟨by rfl, ?hy37⟩) (by assumption) ?ty37
    case hy37 => (intro w5 hSw; obtain ⟨e0, e1, e2⟩ := hSw; go_simp; all_goals with_reducible rfl)
    simp only [Act.put, List.getElem_toArray, List.getElem_cons_zero, List.getElem_cons_succ, List.setIfInBounds_toArray, List.set_cons_zero, List.set_cons_succ]
    refine wpAnyH_take (i := 34) (v := ?_) rfl (by kernel_rfl) (by kernel_rfl) (by kernel_rfl) (fun _ _ _ h => h) (Or.inl ⟨by rfl, ?hy38⟩) (by assumption) ?ty38
    case hy38 => (intro w5 hSw; obtain ⟨e0, e1, e2⟩ := hSw; go_simp; all_goals with_reducible rfl)
    simp only [Act.put, List.getElem_toArray, List.getElem_cons_zero, List.getElem_cons_succ, List.setIfInBounds_toArray, List.set_cons_zero, List.set_cons_succ]
    refine wpAnyH_take (i := 35) (v := ?_) rfl (by kernel_rfl) (by kernel_rfl) (by kernel_rfl) (fun _ _ _ h => h) (Or.inl ⟨by rfl, ?hy39⟩) (by assumption) ?ty39
    case hy39 => (intro w5 hSw; obtain ⟨e0, e1, e2⟩ := hSw; go_simp; all_goals with_reducible rfl)
    simp only [Act.put, List.getElem_toArray, List.getElem_cons_zero, List.getElem_cons_succ, List.setIfInBounds_toArray, List.set_cons_zero, List.set_cons_succ]
    refine wpAnyH_take (i := 36) (v := ?_) rfl (by kernel_rfl) (by kernel_rfl) (by kernel_rfl) (fun _ _ _ h => h) (Or.inl ⟨by rfl, ?hy40⟩) (by assumption) ?ty40
    case hy40 => (intro w5 hSw; obtain ⟨e0, e1, e2⟩ := hSw; go_simp; all_goals with_reducible rfl)
    simp only [Act.put, List.getElem_toArray, List.getElem_cons_zero, List.getElem_cons_succ, List.setIfInBounds_toArray, List.set_cons_zero, List.set_cons_succ]
    refine wpAnyH_take (i := 37) (v := ?_) rfl (by kernel_rfl) (by kernel_rfl) (by kernel_rfl) (fun _ _ _ h => h) (Or.inl ⟨by rfl, ?hy41⟩) (by assumption) ?ty41
    case hy41 => (intro w5 hSw; obtain ⟨e0, e1, e2⟩ := hSw; go_simp; all_goals with_reducible rfl)
    simp only [Act.put, List.getElem_toArray, List.getElem_cons_zero, List.getElem_cons_succ, List.setIfInBounds_toArray, List.set_cons_zero, List.set_cons_succ]
    refine wpAnyH_done (by kernel_rfl) ?_ _
    have hBe := hB8.trans (hy8.mono hB8.size)
    clear hHeld
    go_wp2
    go_ret
    exact ⟨rfl, hBe⟩
  | false =>
    refine wp_region_held_drew (S := fun w' => Qc w' A (msQ m1 (some ⟨g1, 0, none⟩, m1.b.length, c1)) ∧ Qc w' B (msQ m2 (some ⟨g2, 0, none⟩, m2.b.length, c2))) (by kernel_rfl) ?hS5070 (fun hHeld => ?_)
    case hS5070 => exact HSK.out _ (Below.refl _ _).drew
    refine wpAnyH_take (i := 0) (v := ?_) rfl (by kernel_rfl) (by kernel_rfl) (by kernel_rfl) (fun _ _ _ h => h) (Or.inl ⟨by rfl, ?hy5071⟩) (by assumption) ?ty5071
    case hy5071 => (intro w5 hSw; obtain ⟨⟨e0, e1, e2, e3⟩, -⟩ := hSw; (try dsimp only at e0 e1 e2 e3); go_simp; all_goals with_reducible rfl)
    simp only [Act.put, List.getElem_toArray, List.getElem_cons_zero, List.setIfInBounds_toArray, List.set_cons_zero, List.set_cons_succ]
    refine wpAnyH_take (i := 1) (v := ?_) rfl (by kernel_rfl) (by kernel_rfl) (by kernel_rfl) (fun _ _ _ h => h) (Or.inl ⟨by rfl, ?hy5072⟩) (by assumption) ?ty5072
    case hy5072 => (intro w5 hSw; obtain ⟨-, ⟨e0, e1, e2, e3⟩⟩ := hSw; (try dsimp only at e0 e1 e2 e3); go_simp; all_goals with_reducible rfl)
    simp only [Act.put, List.getElem_toArray, List.getElem_cons_zero, List.getElem_cons_succ, List.setIfInBounds_toArray, List.set_cons_zero, List.set_cons_succ]
    refine wpAnyH_take (i := 2) (v := ?_) rfl (by kernel_rfl) (by kernel_rfl) (by kernel_rfl) (fun _ _ _ h => h) (Or.inl ⟨by rfl, ?hy5073⟩) (by assumption) ?ty5073
    case hy5073 => (intro w5 hSw; obtain ⟨-, -⟩ := hSw; (try dsimp only at e0 e1 e2 e3); go_simp; all_goals with_reducible rfl)
    simp only [Act.put, List.getElem_toArray, List.getElem_cons_zero, List.getElem_cons_succ, List.setIfInBounds_toArray, List.set_cons_zero, List.set_cons_succ]
    refine wpAnyH_take (i := 3) (v := ?_) rfl (by kernel_rfl) (by kernel_rfl) (by kernel_rfl) (fun _ _ _ h => h) (Or.inl ⟨by rfl, ?hy5074⟩) (by assumption) ?ty5074
    case hy5074 => (intro w5 hSw; obtain ⟨-, -⟩ := hSw; (try dsimp only at e0 e1 e2 e3); go_simp; all_goals with_reducible rfl)
    simp only [Act.put, List.getElem_toArray, List.getElem_cons_zero, List.getElem_cons_succ, List.setIfInBounds_toArray, List.set_cons_zero, List.set_cons_succ]
    have hby0 : Below W3.heap.size W3 W3.drew := (Below.refl _ _).drew
    generalize W3.drew = y0 at *
    refine wpAnyH_ready (rs := [4]) (by kernel_rfl) (by simp) ?_
    refine AllReadyH.cons rfl (fun K hK => ?_) AllReadyH.nil
    go_simp
    refine (HAB.out _ hby0).mono ?_
    rintro e y1 ⟨rfl, hcy1⟩
    have hby1 := hby0.trans (hcy1.mono hby0.size)
    refine hK.out _ _ (HSK.out _ hby1) (fun hHeld => ?_)
    clear hK K hcy1
    refine wpAnyH_take (i := 5) (v := ?_) rfl (by kernel_rfl) (by kernel_rfl) (by kernel_rfl) (fun _ _ _ h => h) (Or.inl ⟨by rfl, ?hy5075⟩) (by assumption) ?ty5075
    case hy5075 => (intro w5 hSw; obtain ⟨-, -⟩ := hSw; (try dsimp only at e0 e1 e2 e3); go_simp; all_goals with_reducible rfl)
    simp only [Act.put, List.getElem_toArray, List.getElem_cons_zero, List.getElem_cons_succ, List.setIfInBounds_toArray, List.set_cons_zero, List.set_cons_succ]
    refine wpAnyH_take (i := 6) (v := undef) rfl (by kernel_rfl) (by kernel_rfl) (by kernel_rfl) (fun _ _ _ h => h) (Or.inr ⟨by rfl, rfl⟩) (by assumption) ?_
    simp only [Act.put, List.getElem_toArray, List.getElem_cons_zero, List.getElem_cons_succ, List.setIfInBounds_toArray, List.set_cons_zero, List.set_cons_succ]
    refine wpAnyH_take (i := 7) (v := undef) rfl (by kernel_rfl) (by kernel_rfl) (by kernel_rfl) (fun _ _ _ h => h) (Or.inr ⟨by rfl, rfl⟩) (by assumption) ?_
    simp only [Act.put, List.getElem_toArray, List.getElem_cons_zero, List.getElem_cons_succ, List.setIfInBounds_toArray, List.set_cons_zero, List.set_cons_succ]
    refine wpAnyH_take (i := 8) (v := undef) rfl (by kernel_rfl) (by kernel_rfl) (by kernel_rfl) (fun _ _ _ h => h) (Or.inr ⟨by rfl, rfl⟩) (by assumption) ?_
    simp only [Act.put, List.getElem_toArray, List.getElem_cons_zero, List.getElem_cons_succ, List.setIfInBounds_toArray, List.set_cons_zero, List.set_cons_succ]
    refine wpAnyH_take (i := 9) (v := undef) rfl (by kernel_rfl) (by kernel_rfl) (by kernel_rfl) (fun _ _ _ h => h) (Or.inr ⟨by rfl, rfl⟩) (by assumption) ?_
    simp only [Act.put, List.getElem_toArray, List.getElem_cons_zero, List.getElem_cons_succ, List.setIfInBounds_toArray, List.set_cons_zero, List.set_cons_succ]
    refine wpAnyH_take (i := 10) (v := undef) rfl (by kernel_rfl) (by kernel_rfl) (by kernel_rfl) (fun _ _ _ h => h) (Or.inr ⟨by rfl, rfl⟩) (by assumption) ?_
    simp only [Act.put, List.getElem_toArray, List.getElem_cons_zero, List.getElem_cons_succ, List.setIfInBounds_toArray, List.set_cons_zero, List.set_cons_succ]
    refine wpAnyH_take (i := 11) (v := ?_) rfl (by kernel_rfl) (by kernel_rfl) (by kernel_rfl) (fun _ _ _ h => h) (Or.inl ⟨by rfl, ?hy5076⟩) (by assumption) ?ty5076
    case hy5076 => (intro w5 hSw; obtain ⟨-, -⟩ := hSw; (try dsimp only at e0 e1 e2 e3); go_simp; all_goals with_reducible rfl)
    simp only [Act.put, List.getElem_toArray, List.getElem_cons_zero, List.getElem_cons_succ, List.setIfInBounds_toArray, List.set_cons_zero, List.set_cons_succ]
    refine wpAnyH_take (i := 12) (v := ?_) rfl (by kernel_rfl) (by kernel_rfl) (by kernel_rfl) (fun _ _ _ h => h) (Or.inl ⟨by rfl, ?hy5077⟩) (by assumption) ?ty5077
    case hy5077 => (intro w5 hSw; obtain ⟨-, -⟩ := hSw; (try dsimp only at e0 e1 e2 e3); go_simp; all_goals with_reducible rfl)
    simp only [Act.put, List.getElem_toArray, List.getElem_cons_zero, List.getElem_cons_succ, List.setIfInBounds_toArray, List.set_cons_zero, List.set_cons_succ]
    refine wpAnyH_take (i := 13) (v := ?_) rfl (by kernel_rfl) (by kernel_rfl) (by kernel_rfl) (fun _ _ _ h => h) (Or.inl ⟨by rfl, ?hy5078⟩) (by assumption) ?ty5078
    case hy5078 => (intro w5 hSw; obtain ⟨⟨e0, e1, e2, e3⟩, -⟩ := hSw; (try dsimp only at e0 e1 e2 e3); go_simp; all_goals with_reducible rfl)
    simp only [Act.put, List.getElem_toArray, List.getElem_cons_zero, List.getElem_cons_succ, List.setIfInBounds_toArray, List.set_cons_zero, List.set_cons_succ]
    refine wpAnyH_take (i := 14) (v := ?_) rfl (by kernel_rfl) (by kernel_rfl) (by kernel_rfl) (fun _ _ _ h => h) (Or.inl ⟨by rfl, ?hy5079⟩) (by assumption) ?ty5079
    case hy5079 => (intro w5 hSw; obtain ⟨⟨e0, e1, e2, e3⟩, -⟩ := hSw; (try dsimp only at e0 e1 e2 e3); go_simp; all_goals with_reducible rfl)
    simp only [Act.put, List.getElem_toArray, List.getElem_cons_zero, List.getElem_cons_succ, List.setIfInBounds_toArray, List.set_cons_zero, List.set_cons_succ]
    refine wpAnyH_take (i := 15) (v := ?_) rfl (by kernel_rfl) (by kernel_rfl) (by kernel_rfl) (fun _ _ _ h => h) (Or.inl ⟨by rfl, ?hy5080⟩) (by assumption) ?ty5080
    case hy5080 => (intro w5 hSw; obtain ⟨-, -⟩ := hSw; (try dsimp only at e0 e1 e2 e3); go_simp; all_goals with_reducible rfl)
    simp only [Act.put, List.getElem_toArray, List.getElem_cons_zero, List.getElem_cons_succ, List.setIfInBounds_toArray, List.set_cons_zero, List.set_cons_succ]
    refine wpAnyH_take (i := 16) (v := ?_) rfl (by kernel_rfl) (by kernel_rfl) (by kernel_rfl) (fun _ _ _ h => h) (Or.inl ⟨by rfl, ?hy5081⟩) (by assumption) ?ty5081
    case hy5081 => (intro w5 hSw; obtain ⟨-, -⟩ := hSw; (try dsimp only at e0 e1 e2 e3); go_simp; all_goals with_reducible rfl)
    simp only [Act.put, List.getElem_toArray, List.getElem_cons_zero, List.getElem_cons_succ, List.setIfInBounds_toArray, List.set_cons_zero, List.set_cons_succ]
    refine wpAnyH_ready (rs := [17]) (by kernel_rfl) (by simp) ?_
    refine AllReadyH.cons rfl (fun K hK => ?_) AllReadyH.nil
    go_simp
    refine (HAA.out _ hby1).mono ?_
    rintro e y3 ⟨rfl, hcy3⟩
    have hby3 := hby1.trans (hcy3.mono hby1.size)
    refine hK.out _ _ (HSK.out _ hby3) (fun hHeld => ?_)
    clear hK K hcy3
    refine wpAnyH_take (i := 18) (v := ?_) rfl (by kernel_rfl) (by kernel_rfl) (by kernel_rfl) (fun _ _ _ h => h) (Or.inl ⟨by rfl, ?hy5082⟩) (by assumption) ?ty5082
    case hy5082 => (intro w5 hSw; obtain ⟨-, -⟩ := hSw; (try dsimp only at e0 e1 e2 e3); go_simp; all_goals with_reducible rfl)
    simp only [Act.put, List.getElem_toArray, List.getElem_cons_zero, List.getElem_cons_succ, List.setIfInBounds_toArray, List.set_cons_zero, List.set_cons_succ]
    refine wpAnyH_take (i := 19) (v := ?_) rfl (by kernel_rfl) (by kernel_rfl) (by kernel_rfl) (fun _ _ _ h => h) (Or.inl ⟨by rfl, ?hy5083⟩) (by assumption) ?ty5083
    case hy5083 => (intro w5 hSw; obtain ⟨-, -⟩ := hSw; (try dsimp only at e0 e1 e2 e3); go_simp; all_goals with_reducible rfl)
    simp only [Act.put, List.getElem_toArray, List.getElem_cons_zero, List.getElem_cons_succ, List.setIfInBounds_toArray, List.set_cons_zero, List.set_cons_succ]
    refine wpAnyH_take (i := 20) (v := ?_) rfl (by kernel_rfl) (by kernel_rfl) (by kernel_rfl) (fun _ _ _ h => h) (Or.inl ⟨by rfl, ?hy5084⟩) (by assumption) ?ty5084
    case hy5084 => (intro w5 hSw; obtain ⟨⟨e0, e1, e2, e3⟩, -⟩ := hSw; (try dsimp only at e0 e1 e2 e3); go_simp; all_goals with_reducible rfl)
    simp only [Act.put, List.getElem_toArray, List.getElem_cons_zero, List.getElem_cons_succ, List.setIfInBounds_toArray, List.set_cons_zero, List.set_cons_succ]
    refine wpAnyH_take (i := 21) (v := ?_) rfl (by kernel_rfl) (by kernel_rfl) (by kernel_rfl) (fun _ _ _ h => h) (Or.inl ⟨by rfl, ?hy5085⟩) (by assumption) ?ty5085
    case hy5085 => (intro w5 hSw; obtain ⟨-, ⟨e0, e1, e2, e3⟩⟩ := hSw; (try dsimp only at e0 e1 e2 e3); go_simp; all_goals with_reducible rfl)
    simp only [Act.put, List.getElem_toArray, List.getElem_cons_zero, List.getElem_cons_succ, List.setIfInBounds_toArray, List.set_cons_zero, List.set_cons_succ]
    refine wpAnyH_take (i := 22) (v := ?_) rfl (by kernel_rfl) (by kernel_rfl) (by kernel_rfl) (fun _ _ _ h => h) (Or.inl ⟨by rfl, ?hy5086⟩) (by assumption) ?ty5086
    case hy5086 => (intro w5 hSw; obtain ⟨-, -⟩ := hSw; (try dsimp only at e0 e1 e2 e3); go_simp; all_goals with_reducible rfl)
    simp only [Act.put, List.getElem_toArray, List.getElem_cons_zero, List.getElem_cons_succ, List.setIfInBounds_toArray, List.set_cons_zero, List.set_cons_succ]
    refine wpAnyH_take (i := 23) (v := ?_) rfl (by kernel_rfl) (by kernel_rfl) (by kernel_rfl) (fun _ _ _ h => h) (Or.inl ⟨by rfl, ?hy5087⟩) (by assumption) ?ty5087
    case hy5087 => (intro w5 hSw; obtain ⟨-, -⟩ := hSw; (try dsimp only at e0 e1 e2 e3); go_simp; all_goals with_reducible rfl)
    simp only [Act.put, List.getElem_toArray, List.getElem_cons_zero, List.getElem_cons_succ, List.setIfInBounds_toArray, List.set_cons_zero, List.set_cons_succ]
    refine wpAnyH_take (i := 25) (v := ?_) rfl (by kernel_rfl) (by kernel_rfl) (by kernel_rfl) (fun _ _ _ h => h) (Or.inl ⟨by rfl, ?hy5088⟩) (by assumption) ?ty5088
    case hy5088 => (intro w5 hSw; obtain ⟨⟨e0, e1, e2, e3⟩, -⟩ := hSw; (try dsimp only at e0 e1 e2 e3); go_simp; all_goals with_reducible rfl)
    simp only [Act.put, List.getElem_toArray, List.getElem_cons_zero, List.getElem_cons_succ, List.setIfInBounds_toArray, List.set_cons_zero, List.set_cons_succ]
    refine wpAnyH_take (i := 26) (v := ?_) rfl (by kernel_rfl) (by kernel_rfl) (by kernel_rfl) (fun _ _ _ h => h) (Or.inl ⟨by rfl, ?hy5089⟩) (by assumption) ?ty5089
    case hy5089 => (intro w5 hSw; obtain ⟨-, ⟨e0, e1, e2, e3⟩⟩ := hSw; (try dsimp only at e0 e1 e2 e3); go_simp; all_goals with_reducible rfl)
    simp only [Act.put, List.getElem_toArray, List.getElem_cons_zero, List.getElem_cons_succ, List.setIfInBounds_toArray, List.set_cons_zero, List.set_cons_succ]
    refine wpAnyH_take (i := 27) (v := ?_) rfl (by kernel_rfl) (by kernel_rfl) (by kernel_rfl) (fun _ _ _ h => h) (Or.inl ⟨by rfl, ?hy5090⟩) (by assumption) ?ty5090
    case hy5090 => (intro w5 hSw; obtain ⟨-, -⟩ := hSw; (try dsimp only at e0 e1 e2 e3); go_simp; all_goals with_reducible rfl)
    simp only [Act.put, List.getElem_toArray, List.getElem_cons_zero, List.getElem_cons_succ, List.setIfInBounds_toArray, List.set_cons_zero, List.set_cons_succ]
    refine wpAnyH_take (i := 28) (v := ?_) rfl (by kernel_rfl) (by kernel_rfl) (by kernel_rfl) (fun _ _ _ h => h) (Or.inl ⟨by rfl, ?hy5091⟩) (by assumption) ?ty5091
    case hy5091 => (intro w5 hSw; obtain ⟨-, -⟩ := hSw; (try dsimp only at e0 e1 e2 e3); go_simp; all_goals with_reducible rfl)
    simp only [Act.put, List.getElem_toArray, List.getElem_cons_zero, List.getElem_cons_succ, List.setIfInBounds_toArray, List.set_cons_zero, List.set_cons_succ]
    refine wpAnyH_ready (rs := [24]) (by kernel_rfl) (by simp) ?_
    refine AllReadyH.cons rfl (fun K hK => ?_) AllReadyH.nil
    go_simp
    refine (HAB.out _ hby3).mono ?_
    rintro e y4 ⟨rfl, hcy4⟩
    have hby4 := hby3.trans (hcy4.mono hby3.size)
    refine hK.out _ _ (HSK.out _ hby4) (fun hHeld => ?_)
    clear hK K hcy4
    refine wpAnyH_ready (rs := [29]) (by kernel_rfl) (by simp) ?_
    refine AllReadyH.cons rfl (fun K hK => ?_) AllReadyH.nil
    go_simp
    refine (HSP.out _ hby4).mono ?_
    rintro e y5 ⟨rfl, hcy5⟩
    have hby5 := hby4.trans (hcy5.mono hby4.size)
    refine hK.out _ _ (HSK.out _ hby5) (fun hHeld => ?_)
    clear hK K hcy5
    refine wpAnyH_take (i := 30) (v := ?_) rfl (by kernel_rfl) (by kernel_rfl) (by kernel_rfl) (fun _ _ _ h => h) (Or.inl ⟨by rfl, ?hy5092⟩) (by assumption) ?ty5092
    case hy5092 => (intro w5 hSw; obtain ⟨-, -⟩ := hSw; (try dsimp only at e0 e1 e2 e3); go_simp; all_goals with_reducible rfl)
    simp only [Act.put, List.getElem_toArray, List.getElem_cons_zero, List.getElem_cons_succ, List.setIfInBounds_toArray, List.set_cons_zero, List.set_cons_succ]
    refine wpAnyH_take (i := 31) (v := ?_) rfl (by kernel_rfl) (by kernel_rfl) (by kernel_rfl) (fun _ _ _ h => h) (Or.inl ⟨by rfl, ?hy5093⟩) (by assumption) ?ty5093
    case hy5093 => (intro w5 hSw; obtain ⟨-, -⟩ := hSw; (try dsimp only at e0 e1 e2 e3); go_simp; all_goals with_reducible rfl)
    simp only [Act.put, List.getElem_toArray, List.getElem_cons_zero, List.getElem_cons_succ, List.setIfInBounds_toArray, List.set_cons_zero, List.set_cons_succ]
    refine wpAnyH_done (by kernel_rfl) ?_ _
    clear hHeld
    have hBy : Below w.heap.size w y5 := hB3.trans (hby5.mono hB3.size)
    clear hby0 hby1 hby3 hby4 hby5 HAB HBA HAA HSP HSK hA hB HNB hB3
    have HIN : Hid (∀ W, Below y5.heap.size y5 W → Rd W a0 l) := fun W hb => (hr.below hBy).below hb
    go_wp2_with fail
    refine (drawSliceList_any a0 len0 cap0 l y5 hl (hr.below hBy) hBl hn).mono ?_
    rintro e z1 ⟨ol, g, cp, f, t, rfl, ho, hcp, h61, hbz1⟩
    have hB1 : Below w.heap.size w z1 := hBy.trans (hbz1.mono hBy.size)
    have ri := (OwnI.rd ho).2
    obtain ⟨N, hN⟩ : ∃ N, ol.length = N := ⟨_, rfl⟩
    rw [hN] at ho hcp h61
    have HSL : Hid (∀ (W : World) (f t : Int), Below z1.heap.size z1 W → Calls Tryz.prog 10 #[.slice (some ⟨g, 0, none⟩) N cp, .int .i64 f, .int .i64 t] W fun e w' => NumEndL (lsV ol f t) W e w') := fun W f t hb => sliceList_any g N ol f t W (ri.below hb) hN hcp
    have HSS : Hid (∀ (W : World) (f t : Int), Below z1.heap.size z1 W → Calls Tryz.prog 11 #[.slice (some ⟨g, 0, none⟩) N cp, .int .i64 f, .int .i64 t] W fun e w' => NumEndL (lsV ol f t) W e w') := fun W f t hb => specSliceList_any g N ol f t W (ri.below hb) hN hcp
    have HRI0 : Hid (∀ W, Below z1.heap.size z1 W → RdI W (some ⟨g, 0, none⟩) ol) := fun W hb => ri.below hb
    have HFW : Hid ((lsV ol f t).1 = 0 → N ≤ 60 ∧ (lsV ol f t).2.length ≤ N) := fun h => by have := lsV_few h; rw [hN] at this; exact this
    clear ho
    rw [hN]
    go_wp2_with fail
    refine (HSL.out z1 f t (Below.refl _ _)).mono ?_
    rintro e z2 ⟨v2, rfl, ho2, hb2⟩
    obtain ⟨K2, hK2⟩ : ∃ K, (lsV ol f t).2.length = K := ⟨_, rfl⟩
    obtain ⟨a2, cp2, hv2, -, -⟩ := ho2.form
    rw [hK2] at hv2
    subst hv2
    rw [hK2] at HFW
    obtain ⟨c, hc⟩ : ∃ c, (lsV ol f t).1 = c := ⟨_, rfl⟩
    rw [hc] at HFW ⊢
    obtain ⟨Z3, hZ3⟩ : ∃ W, z2.alloc (.cells #[.int .i64 c, .slice a2 K2 cp2] 33) = W := ⟨_, rfl⟩
    have hb23 : Below z2.heap.size z2 Z3 := by rw [← hZ3]; exact (Below.refl _ _).alloc (Nat.le_refl _) _
    have hG0 : Z3.cell? ⟨z2.heap.size, 0, none⟩ = some (.int .i64 c) := by rw [← hZ3]; simp
    have hG1 : Z3.cell? ⟨z2.heap.size, 1, none⟩ = some (.slice a2 K2 cp2) := by rw [← hZ3]; simp
    have hb13 : Below z1.heap.size z1 Z3 := hb2.trans (hb23.mono hb2.size)
    have hB3' : Below w.heap.size w Z3 := hB1.trans (hb13.mono hB1.size)
    have HO20 : Hid (∀ W, Below Z3.heap.size Z3 W → RdI W a2 (lsV ol f t).2) := fun W hb => ((OwnI.rd ho2).2.below hb23).below hb
    have HZ3 : Hid (_ = Z3) := hZ3
    clear hZ3 ho2 hb2 hb23 ri
    by_cases hc0 : c = 0
    case neg =>
      clear HFW HRI0 HSL HO20
      go_wp2_with (rw [HZ3.out])
      obtain ⟨G, hG⟩ : ∃ G, z2.heap.size = G := ⟨_, rfl⟩
      rw [hG] at hG0
      rw [hG]
      have hGlt : G < Z3.heap.size := World.block_lt_of_cell? Z3 ⟨G, 0, none⟩ hG0
      have hG0d : Z3.drew.cell? ⟨G, 0, none⟩ = some (.int .i64 c) := hG0
      have hBd : Below w.heap.size w Z3.drew := hB3'.drew
      have fN0 := fldN0
      clear hG0 hG1 HZ3
      refine wp_region_held_drew (S := fun w' => w'.cell? ⟨G, 0, none⟩ = some (.int .i64 c) ∧ True) (by kernel_rfl) ?hS5002 (fun hHeld => ?_)
      case hS5002 => exact ⟨hG0d, trivial⟩
      refine wpAnyH_take (i := 0) (v := ?_) rfl (by kernel_rfl) (by kernel_rfl) (by kernel_rfl) (fun _ _ _ h => h) (Or.inl ⟨by rfl, ?hy5003⟩) (by assumption) ?ty5003
      case hy5003 => (intro w5 hSw; obtain ⟨e0, -⟩ := hSw; go_simp; all_goals with_reducible rfl)
      simp only [Act.put, List.getElem_toArray, List.getElem_cons_zero, List.setIfInBounds_toArray, List.set_cons_zero, List.set_cons_succ]
      refine wpAnyH_take (i := 1) (v := ?_) rfl (by kernel_rfl) (by kernel_rfl) (by kernel_rfl) (fun _ _ _ h => h) (Or.inl ⟨by rfl, ?hy5004⟩) (by assumption) ?ty5004
      case hy5004 => (intro w5 hSw; obtain ⟨e0, -⟩ := hSw; go_simp; all_goals with_reducible rfl)
      simp only [Act.put, List.getElem_toArray, List.getElem_cons_zero, List.getElem_cons_succ, List.setIfInBounds_toArray, List.set_cons_zero, List.set_cons_succ]
      refine wpAnyH_take (i := 2) (v := ?_) rfl (by kernel_rfl) (by kernel_rfl) (by kernel_rfl) (fun _ _ _ h => h) (Or.inl ⟨by rfl, ?hy5005⟩) (by assumption) ?ty5005
      case hy5005 => (intro w5 hSw; obtain ⟨e0, -⟩ := hSw; go_simp; all_goals with_reducible rfl)
      simp only [Act.put, List.getElem_toArray, List.getElem_cons_zero, List.getElem_cons_succ, List.setIfInBounds_toArray, List.set_cons_zero, List.set_cons_succ]
      refine wpAnyH_take (i := 5) (v := ?_) rfl (by kernel_rfl) (by kernel_rfl) (by kernel_rfl) (fun _ _ _ h => h) (Or.inl ⟨by rfl, ?hy5006⟩) (by assumption) ?ty5006
      case hy5006 => (intro w5 hSw; obtain ⟨e0, -⟩ := hSw; go_simp; all_goals with_reducible rfl)
      simp only [Act.put, List.getElem_toArray, List.getElem_cons_zero, List.getElem_cons_succ, List.setIfInBounds_toArray, List.set_cons_zero, List.set_cons_succ]
      refine wpAnyH_take (i := 6) (v := ?_) rfl (by kernel_rfl) (by kernel_rfl) (by kernel_rfl) (fun _ _ _ h => h) (Or.inl ⟨by rfl, ?hy5007⟩) (by assumption) ?ty5007
      case hy5007 => (intro w5 hSw; obtain ⟨e0, -⟩ := hSw; go_simp; all_goals with_reducible rfl)
      simp only [Act.put, List.getElem_toArray, List.getElem_cons_zero, List.getElem_cons_succ, List.setIfInBounds_toArray, List.set_cons_zero, List.set_cons_succ]
      have hbq : Below z1.heap.size z1 Z3.drew := hb13.drew
      have HG9 : Hid (∀ W, Below Z3.heap.size Z3.drew W → W.cell? ⟨G, 0, none⟩ = some (.int .i64 c) ∧ True) := fun W hb => ⟨(hb.cell (p := ⟨G, 0, none⟩) hGlt).trans hG0d, trivial⟩
      have hszd : Z3.heap.size ≤ Z3.drew.heap.size := Nat.le_refl _
      generalize hZd : Z3.drew = zd at *
      refine wpAnyH_ready (rs := [3]) (by kernel_rfl) (by simp) ?_
      refine AllReadyH.cons rfl (fun K hK => ?_) AllReadyH.nil
      go_simp
      refine (HSS.out zd f t hbq).mono ?_
      rintro e ze ⟨vE, rfl, hoE, hbE⟩
      obtain ⟨aE, cE, hvE, -, -⟩ := hoE.form
      subst hvE
      refine hK.out _ _ (HG9.out _ (hbE.mono (by omega))) (fun hHeld => ?_)
      clear hK K
      refine wpAnyH_take (i := 4) (v := ?_) rfl (by kernel_rfl) (by kernel_rfl) (by kernel_rfl) (fun _ _ _ h => h) (Or.inl ⟨by rfl, ?hy5008⟩) (by assumption) ?ty5008
      case hy5008 => (intro w5 hSw; obtain ⟨e0, -⟩ := hSw; go_simp; all_goals with_reducible rfl)
      simp only [Act.put, List.getElem_toArray, List.getElem_cons_zero, List.getElem_cons_succ, List.setIfInBounds_toArray, List.set_cons_zero, List.set_cons_succ]
      refine wpAnyH_take (i := 7) (v := ?_) rfl (by kernel_rfl) (by kernel_rfl) (by kernel_rfl) (fun _ _ _ h => h) (Or.inl ⟨by rfl, ?hy5009⟩) (by assumption) ?ty5009
      case hy5009 => (intro w5 hSw; obtain ⟨e0, -⟩ := hSw; go_simp; all_goals with_reducible rfl)
      simp only [Act.put, List.getElem_toArray, List.getElem_cons_zero, List.getElem_cons_succ, List.setIfInBounds_toArray, List.set_cons_zero, List.set_cons_succ]
      refine wpAnyH_take (i := 8) (v := ?_) rfl (by kernel_rfl) (by kernel_rfl) (by kernel_rfl) (fun _ _ _ h => h) (Or.inl ⟨by rfl, ?hy5010⟩) (by assumption) ?ty5010
      case hy5010 => (intro w5 hSw; obtain ⟨e0, -⟩ := hSw; go_simp; all_goals with_reducible rfl)
      simp only [Act.put, List.getElem_toArray, List.getElem_cons_zero, List.getElem_cons_succ, List.setIfInBounds_toArray, List.set_cons_zero, List.set_cons_succ]
      refine wpAnyH_done (by kernel_rfl) ?_ _
      have hBe := hBd.trans (hbE.mono hBd.size)
      clear hHeld
      go_wp2
      go_ret
      exact ⟨rfl, hBe⟩
    have hc0' := hc0
    subst hc0'
    obtain ⟨hN60, hKN⟩ := HFW.out (by trivial)
    have hKN' : (K2 : Int) ≤ (N : Int) := by omega
    clear HFW
    go_wp2_with (rw [HZ3.out])
    clear HZ3
    refine (lwAt_any a0 len0 cap0 3 8 l Z3 hl (hr.below hB3') hBl hn (by omega) (by omega) (by omega)).mono ?_
    rintro e z4 ⟨r, rfl, hr0, hr8, hb4⟩
    obtain ⟨cut, hcut⟩ : ∃ cut, 1 + r = cut := ⟨_, rfl⟩
    have hcut1 : 1 ≤ cut := by omega
    have hcut8 : cut ≤ 8 := by omega
    obtain ⟨hl1, hl2⟩ := lsV_one (d := ol) (by omega) hcut1 (by omega)
    have hb14 : Below z1.heap.size z1 z4 := hb13.trans (hb4.mono hb13.size)
    go_wp2_with fail
    refine (HSL.out z4 1 cut hb14).mono ?_
    rintro e z5 ⟨v5, rfl, ho5, hb5⟩
    rw [hl1] at ho5 ⊢
    dsimp only at ho5 ⊢
    obtain ⟨K5, hK5⟩ : ∃ K, (ol.take cut.toNat).length = K := ⟨_, rfl⟩
    obtain ⟨a5, cp5, hv5, -, -⟩ := ho5.form
    rw [hK5] at hv5
    subst hv5
    obtain ⟨Z6, hZ6⟩ : ∃ W, z5.alloc (.cells #[.int .i64 0, .slice a5 K5 cp5] 33) = W := ⟨_, rfl⟩
    have hb56 : Below z5.heap.size z5 Z6 := by rw [← hZ6]; exact (Below.refl _ _).alloc (Nat.le_refl _) _
    have hG51 : Z6.cell? ⟨z5.heap.size, 1, none⟩ = some (.slice a5 K5 cp5) := by rw [← hZ6]; simp
    have hb46 := hb5.trans (hb56.mono hb5.size)
    have hb16 : Below z1.heap.size z1 Z6 := hb14.trans (hb46.mono hb14.size)
    have ho6 := ho5.below hb56 (Nat.le_refl _)
    have HZ6 : Hid (_ = Z6) := hZ6
    clear hZ6 ho5 hb5 hb56
    go_wp2_with (rw [HZ6.out])
    clear HZ6
    refine (HSL.out Z6 (cut + 1) 999 hb16).mono ?_
    rintro e z7 ⟨v7, rfl, ho7, hb7⟩
    rw [hl2] at ho7 ⊢
    dsimp only at ho7 ⊢
    obtain ⟨K7, hK7⟩ : ∃ K, (ol.drop cut.toNat).length = K := ⟨_, rfl⟩
    obtain ⟨a7, cp7, hv7, -, -⟩ := ho7.form
    rw [hK7] at hv7
    subst hv7
    obtain ⟨Z8, hZ8⟩ : ∃ W, z7.alloc (.cells #[.int .i64 0, .slice a7 K7 cp7] 33) = W := ⟨_, rfl⟩
    have hb78 : Below z7.heap.size z7 Z8 := by rw [← hZ8]; exact (Below.refl _ _).alloc (Nat.le_refl _) _
    have hG71 : Z8.cell? ⟨z7.heap.size, 1, none⟩ = some (.slice a7 K7 cp7) := by rw [← hZ8]; simp
    have hb68 := hb7.trans (hb78.mono hb7.size)
    have hb18 : Below z1.heap.size z1 Z8 := hb16.trans (hb68.mono hb16.size)
    have hb38 : Below Z3.heap.size Z3 Z8 := (hb4.trans (hb46.mono hb4.size)).trans (hb68.mono (Nat.le_trans hb4.size hb46.size))
    have hB8 : Below w.heap.size w Z8 := hB1.trans (hb18.mono hB1.size)
    have HZ1 : Hid (∀ W, Below Z8.heap.size Z8 W → Below z1.heap.size z1 W) := fun W hb => hb18.trans (hb.mono hb18.size)
    have HRI : Hid (∀ W, Below Z8.heap.size Z8 W → RdI W (some ⟨g, 0, none⟩) ol) := fun W hb => HRI0.out W (HZ1.out W hb)
    have HO2 : Hid (∀ W, Below Z8.heap.size Z8 W → RdI W a2 (lsV ol f t).2) := fun W hb => HO20.out W (hb38.trans (hb.mono hb38.size))
    have HO5 : Hid (∀ W, Below Z8.heap.size Z8 W → OwnI W z4.heap.size (.slice a5 K5 cp5) (ol.take cut.toNat)) := fun W hb => (ho6.below hb68 (Nat.le_refl _)).below hb (Nat.le_refl _)
    have HO7 : Hid (∀ W, Below Z8.heap.size Z8 W → OwnI W Z6.heap.size (.slice a7 K7 cp7) (ol.drop cut.toNat)) := fun W hb => (ho7.below hb78 (Nat.le_refl _)).below hb (Nat.le_refl _)
    obtain ⟨G, hG⟩ : ∃ G, z2.heap.size = G := ⟨_, rfl⟩
    obtain ⟨G5, hG5⟩ : ∃ G, z5.heap.size = G := ⟨_, rfl⟩
    obtain ⟨G7, hG7⟩ : ∃ G, z7.heap.size = G := ⟨_, rfl⟩
    rw [hG] at hG1
    rw [hG5] at hG51
    rw [hG7] at hG71
    have HSX : Hid (∀ W, Below Z8.heap.size Z8 W → W.cell? ⟨G, 1, none⟩ = some (.slice a2 K2 cp2) ∧ W.cell? ⟨G5, 1, none⟩ = some (.slice a5 K5 cp5) ∧ W.cell? ⟨G7, 1, none⟩ = some (.slice a7 K7 cp7)) := fun W hb =>
      have h1 := (hb38.cell (p := ⟨G, 1, none⟩) (World.block_lt_of_cell? Z3 _ hG1)).trans hG1
      have h5 := (hb68.cell (p := ⟨G5, 1, none⟩) (World.block_lt_of_cell? Z6 _ hG51)).trans hG51
      ⟨(hb.cell (p := ⟨G, 1, none⟩) (World.block_lt_of_cell? Z8 _ h1)).trans h1, (hb.cell (p := ⟨G5, 1, none⟩) (World.block_lt_of_cell? Z8 _ h5)).trans h5, (hb.cell (p := ⟨G7, 1, none⟩) (World.block_lt_of_cell? Z8 _ hG71)).trans hG71⟩
    have hK5l : K5 ≤ N := by rw [← hK5, ← hN, List.length_take]; omega
    have hK7l : K7 ≤ N := by rw [← hK7, ← hN, List.length_drop]; omega
    have hKs : (ol.take cut.toNat).length + (ol.drop cut.toNat).length = N := by rw [← List.length_append, List.take_append_drop, hN]
    have HZ8 : Hid (_ = Z8) := hZ8
    have fN1 := fldN1
    clear hZ8 ho6 ho7 hb78 hb68 hb7 hb46 hb38 hb18 hb16 hb14 hb4 hG1 hG51 hG71 hl1 hl2 HRI0 HO20 hG0
    go_wp2_with (rw [HZ8.out])
    clear HZ8
    (try rw [hG])
    (try rw [hG5])
    (try rw [hG7])
    clear hG hG5 hG7
    obtain ⟨b5, hb5⟩ : ∃ b, z4.heap.size = b := ⟨_, rfl⟩
    obtain ⟨b7, hb7⟩ : ∃ b, Z6.heap.size = b := ⟨_, rfl⟩
    rw [hb5] at HO5
    rw [hb7] at HO7
    refine wp_region_held_drew (S := fun w' => w'.cell? ⟨G, 1, none⟩ = some (.slice a2 K2 cp2) ∧ w'.cell? ⟨G5, 1, none⟩ = some (.slice a5 K5 cp5) ∧ w'.cell? ⟨G7, 1, none⟩ = some (.slice a7 K7 cp7)) (by kernel_rfl) ?hS5011 (fun hHeld => ?_)
    case hS5011 => exact HSX.out _ (Below.refl _ _).drew
    refine wpAnyH_take (i := 1) (v := ?_) rfl (by kernel_rfl) (by kernel_rfl) (by kernel_rfl) (fun _ _ _ h => h) (Or.inl ⟨by rfl, ?hy5012⟩) (by assumption) ?ty5012
    case hy5012 => (intro w5 hSw; obtain ⟨e0, e1, e2⟩ := hSw; go_simp; all_goals with_reducible rfl)
    simp only [Act.put, List.getElem_toArray, List.getElem_cons_zero, List.getElem_cons_succ, List.setIfInBounds_toArray, List.set_cons_zero, List.set_cons_succ]
    refine wpAnyH_take (i := 2) (v := ?_) rfl (by kernel_rfl) (by kernel_rfl) (by kernel_rfl) (fun _ _ _ h => h) (Or.inl ⟨by rfl, ?hy5013⟩) (by assumption) ?ty5013
    case hy5013 => (intro w5 hSw; obtain ⟨e0, e1, e2⟩ := hSw; go_simp; all_goals with_reducible rfl)
    simp only [Act.put, List.getElem_toArray, List.getElem_cons_zero, List.getElem_cons_succ, List.setIfInBounds_toArray, List.set_cons_zero, List.set_cons_succ]
    refine wpAnyH_take (i := 4) (v := ?_) rfl (by kernel_rfl) (by kernel_rfl) (by kernel_rfl) (fun _ _ _ h => h) (Or.inl ⟨by rfl, ?hy5014⟩) (by assumption) ?ty5014
    case hy5014 => (intro w5 hSw; obtain ⟨e0, e1, e2⟩ := hSw; go_simp; all_goals with_reducible rfl)
    simp only [Act.put, List.getElem_toArray, List.getElem_cons_zero, List.getElem_cons_succ, List.setIfInBounds_toArray, List.set_cons_zero, List.set_cons_succ]
    refine wpAnyH_take (i := 5) (v := ?_) rfl (by kernel_rfl) (by kernel_rfl) (by kernel_rfl) (fun _ _ _ h => h) (Or.inl ⟨by rfl, ?hy5015⟩) (by assumption) ?ty5015
    case hy5015 => (intro w5 hSw; obtain ⟨e0, e1, e2⟩ := hSw; go_simp; all_goals with_reducible rfl)
    simp only [Act.put, List.getElem_toArray, List.getElem_cons_zero, List.getElem_cons_succ, List.setIfInBounds_toArray, List.set_cons_zero, List.set_cons_succ]
    refine wpAnyH_take (i := 7) (v := ?_) rfl (by kernel_rfl) (by kernel_rfl) (by kernel_rfl) (fun _ _ _ h => h) (Or.inl ⟨by rfl, ?hy5016⟩) (by assumption) ?ty5016
    case hy5016 => (intro w5 hSw; obtain ⟨e0, e1, e2⟩ := hSw; go_simp; all_goals with_reducible rfl)
    simp only [Act.put, List.getElem_toArray, List.getElem_cons_zero, List.getElem_cons_succ, List.setIfInBounds_toArray, List.set_cons_zero, List.set_cons_succ]
    have hy5000 : Below Z8.heap.size Z8 Z8.drew := (Below.refl _ _).drew
    have hsz0 : Z8.heap.size ≤ Z8.drew.heap.size := hy5000.size
    generalize Z8.drew = x0 at *
    refine wpAnyH_ready (rs := [0]) (by kernel_rfl) (by simp) ?_
    refine AllReadyH.cons rfl (fun K hK => ?_) AllReadyH.nil
    obtain ⟨x1, he1⟩ : ∃ W, x0.alloc (.cells #[] 2) = W := ⟨_, rfl⟩
    have hyc : Below x0.heap.size x0 x1 := by rw [← he1]; exact (Below.refl _ _).alloc (Nat.le_refl _) _
    have hoN : OwnI x1 Z8.heap.size (.slice (some ⟨x0.heap.size, 0, none⟩) 0 0) [] := by rw [← he1]; exact OwnI.lit x0 _ hsz0 #[] [] rfl (by simp)
    have hy5001 := hy5000.trans (hyc.mono hsz0)
    have hsz1 : Z8.heap.size ≤ x1.heap.size := hy5001.size
    go_simp
    refine hK.out _ _ (HSX.out _ hy5001) (fun hHeld => ?_)
    clear hK K
    clear he1 hyc
    refine wpAnyH_ready (rs := [3]) (by kernel_rfl) (by simp) ?_
    refine AllReadyH.cons rfl (fun K hK => ?_) AllReadyH.nil
    refine step_appA rfl _ _ rfl Z8.heap.size _ _ [] rfl hoN b5 (ol.take cut.toNat) rfl (HO5.out _ hy5001) (by simp only [List.length_nil]; omega) hsz1 ?_
    intro vA x2 hoA hcA
    rw [List.nil_append] at hoA
    have hy5002 := hy5001.trans hcA
    have hsz2 : Z8.heap.size ≤ x2.heap.size := hy5002.size
    obtain ⟨aA, cA, hvA, -, -⟩ := hoA.form
    rw [hK5] at hvA
    subst hvA
    refine hK.out _ _ (HSX.out _ hy5002) (fun hHeld => ?_)
    clear hK K
    refine wpAnyH_ready (rs := [6]) (by kernel_rfl) (by simp) ?_
    refine AllReadyH.cons rfl (fun K hK => ?_) AllReadyH.nil
    refine step_appA rfl _ _ rfl Z8.heap.size _ _ (ol.take cut.toNat) rfl hoA b7 (ol.drop cut.toNat) rfl (HO7.out _ hy5002) (by omega) hsz2 ?_
    intro vB x3 hoB hcB
    rw [List.take_append_drop] at hoB
    have hy5003 := hy5002.trans hcB
    have hsz3 : Z8.heap.size ≤ x3.heap.size := hy5003.size
    obtain ⟨aB, cB, hvB, -, -⟩ := hoB.form
    rw [hN] at hvB
    subst hvB
    refine hK.out _ _ (HSX.out _ hy5003) (fun hHeld => ?_)
    clear hK K
    refine wpAnyH_ready (rs := [8]) (by kernel_rfl) (by simp) ?_
    refine AllReadyH.cons rfl (fun K hK => ?_) AllReadyH.nil
    go_simp
    refine (lwNums_any aB (some ⟨g, 0, none⟩) N N cB cp ol ol x3 hN hN (OwnI.rd hoB).2 (HRI.out _ hy5003) (by omega) (by omega)).mono ?_
    rintro e x4 ⟨rfl, hcL⟩
    rw [decide_eq_true (rfl : ol = ol)]
    have hy5004 := hy5003.trans (hcL.mono (Nat.le_trans hy5003.size (Nat.le_refl _)))
    refine hK.out _ _ (HSX.out _ hy5004) (fun hHeld => ?_)
    clear hK K hcL
    refine wpAnyH_take (i := 9) (v := ?_) rfl (by kernel_rfl) (by kernel_rfl) (by kernel_rfl) (fun _ _ _ h => h) (Or.inl ⟨by rfl, ?hy5017⟩) (by assumption) ?ty5017
    case hy5017 => (intro w5 hSw; obtain ⟨e0, e1, e2⟩ := hSw; go_simp; all_goals with_reducible rfl)
    simp only [Act.put, List.getElem_toArray, List.getElem_cons_zero, List.getElem_cons_succ, List.setIfInBounds_toArray, List.set_cons_zero, List.set_cons_succ]
    refine wpAnyH_take (i := 10) (v := ?_) rfl (by kernel_rfl) (by kernel_rfl) (by kernel_rfl) (fun _ _ _ h => h) (Or.inl ⟨by rfl, ?hy5018⟩) (by assumption) ?ty5018
    case hy5018 => (intro w5 hSw; obtain ⟨e0, e1, e2⟩ := hSw; go_simp; all_goals with_reducible rfl)
    simp only [Act.put, List.getElem_toArray, List.getElem_cons_zero, List.getElem_cons_succ, List.setIfInBounds_toArray, List.set_cons_zero, List.set_cons_succ]
    refine wpAnyH_take (i := 11) (v := ?_) rfl (by kernel_rfl) (by kernel_rfl) (by kernel_rfl) (fun _ _ _ h => h) (Or.inl ⟨by rfl, ?hy5019⟩) (by assumption) ?ty5019
    case hy5019 => (intro w5 hSw; obtain ⟨e0, e1, e2⟩ := hSw; go_simp; all_goals with_reducible rfl)
    simp only [Act.put, List.getElem_toArray, List.getElem_cons_zero, List.getElem_cons_succ, List.setIfInBounds_toArray, List.set_cons_zero, List.set_cons_succ]
    refine wpAnyH_take (i := 12) (v := ?_) rfl (by kernel_rfl) (by kernel_rfl) (by kernel_rfl) (fun _ _ _ h => h) (Or.inl ⟨by rfl, ?hy5020⟩) (by assumption) ?ty5020
    case hy5020 => (intro w5 hSw; obtain ⟨e0, e1, e2⟩ := hSw; go_simp; all_goals with_reducible rfl)
    simp only [Act.put, List.getElem_toArray, List.getElem_cons_zero, List.getElem_cons_succ, List.setIfInBounds_toArray, List.set_cons_zero, List.set_cons_succ]
    refine wpAnyH_take (i := 13) (v := ?_) rfl (by kernel_rfl) (by kernel_rfl) (by kernel_rfl) (fun _ _ _ h => h) (Or.inl ⟨by rfl, ?hy5021⟩) (by assumption) ?ty5021
    case hy5021 => (intro w5 hSw; obtain ⟨e0, e1, e2⟩ := hSw; go_simp; all_goals with_reducible rfl)
    simp only [Act.put, List.getElem_toArray, List.getElem_cons_zero, List.getElem_cons_succ, List.setIfInBounds_toArray, List.set_cons_zero, List.set_cons_succ]
    refine wpAnyH_take (i := 14) (v := ?_) rfl (by kernel_rfl) (by kernel_rfl) (by kernel_rfl) (fun _ _ _ h => h) (Or.inl ⟨by rfl, ?hy5022⟩) (by assumption) ?ty5022
    case hy5022 => (intro w5 hSw; obtain ⟨e0, e1, e2⟩ := hSw; go_simp; all_goals with_reducible rfl)
    simp only [Act.put, List.getElem_toArray, List.getElem_cons_zero, List.getElem_cons_succ, List.setIfInBounds_toArray, List.set_cons_zero, List.set_cons_succ]
    refine wpAnyH_ready (rs := [15]) (by kernel_rfl) (by simp) ?_
    refine AllReadyH.cons rfl (fun K hK => ?_) AllReadyH.nil
    go_simp
    refine (HSL.out x4 t f (HZ1.out _ hy5004)).mono ?_
    rintro e x5 ⟨vT, rfl, hoT, hcT⟩
    rw [lsV_turn] at hoT
    obtain ⟨aT, cT, hvT, -, -⟩ := hoT.form
    rw [hK2] at hvT
    subst hvT
    have hy5005 := hy5004.trans (hcT.mono hy5004.size)
    refine hK.out _ _ (HSX.out _ hy5005) (fun hHeld => ?_)
    clear hK K
    refine wpAnyH_take (i := 16) (v := ?_) rfl (by kernel_rfl) (by kernel_rfl) (by kernel_rfl) (fun _ _ _ h => h) (Or.inl ⟨by rfl, ?hy5023⟩) (by assumption) ?ty5023
    case hy5023 => (intro w5 hSw; obtain ⟨e0, e1, e2⟩ := hSw; go_simp; all_goals with_reducible rfl)
    simp only [Act.put, List.getElem_toArray, List.getElem_cons_zero, List.getElem_cons_succ, List.setIfInBounds_toArray, List.set_cons_zero, List.set_cons_succ]
    refine wpAnyH_ready (rs := [17]) (by kernel_rfl) (by simp) ?_
    refine AllReadyH.cons rfl (fun K hK => ?_) AllReadyH.nil
    go_simp
    refine (lwNums_any a2 aT K2 K2 cp2 cT (lsV ol f t).2 (lsV ol f t).2 x5 hK2 hK2 (HO2.out _ hy5005) (OwnI.rd hoT).2 (by omega) (by omega)).mono ?_
    rintro e x6 ⟨rfl, hcL⟩
    rw [decide_eq_true (rfl : (lsV ol f t).2 = (lsV ol f t).2)]
    have hy5006 := hy5005.trans (hcL.mono (Nat.le_trans hy5005.size (Nat.le_refl _)))
    refine hK.out _ _ (HSX.out _ hy5006) (fun hHeld => ?_)
    clear hK K hcL
    refine wpAnyH_take (i := 18) (v := ?_) rfl (by kernel_rfl) (by kernel_rfl) (by kernel_rfl) (fun _ _ _ h => h) (Or.inl ⟨by rfl, ?hy5024⟩) (by assumption) ?ty5024
    case hy5024 => (intro w5 hSw; obtain ⟨e0, e1, e2⟩ := hSw; go_simp; all_goals with_reducible rfl)
    simp only [Act.put, List.getElem_toArray, List.getElem_cons_zero, List.getElem_cons_succ, List.setIfInBounds_toArray, List.set_cons_zero, List.set_cons_succ]
    refine wpAnyH_take (i := 19) (v := ?_) rfl (by kernel_rfl) (by kernel_rfl) (by kernel_rfl) (fun _ _ _ h => h) (Or.inl ⟨by rfl, ?hy5025⟩) (by assumption) ?ty5025
    case hy5025 => (intro w5 hSw; obtain ⟨e0, e1, e2⟩ := hSw; go_simp; all_goals with_reducible rfl)
    simp only [Act.put, List.getElem_toArray, List.getElem_cons_zero, List.getElem_cons_succ, List.setIfInBounds_toArray, List.set_cons_zero, List.set_cons_succ]
    refine wpAnyH_take (i := 20) (v := ?_) rfl (by kernel_rfl) (by kernel_rfl) (by kernel_rfl) (fun _ _ _ h => h) (Or.inl ⟨by rfl, ?hy5026⟩) (by assumption) ?ty5026
    case hy5026 => (intro w5 hSw; obtain ⟨e0, e1, e2⟩ := hSw; go_simp; all_goals with_reducible rfl)
    simp only [Act.put, List.getElem_toArray, List.getElem_cons_zero, List.getElem_cons_succ, List.setIfInBounds_toArray, List.set_cons_zero, List.set_cons_succ]
    refine wpAnyH_take (i := 21) (v := ?_) rfl (by kernel_rfl) (by kernel_rfl) (by kernel_rfl) (fun _ _ _ h => h) (Or.inl ⟨by rfl, ?hy5027⟩) (by assumption) ?ty5027
    case hy5027 => (intro w5 hSw; obtain ⟨e0, e1, e2⟩ := hSw; go_simp; all_goals with_reducible rfl)
    simp only [Act.put, List.getElem_toArray, List.getElem_cons_zero, List.getElem_cons_succ, List.setIfInBounds_toArray, List.set_cons_zero, List.set_cons_succ]
    refine wpAnyH_take (i := 22) (v := ?_) rfl (by kernel_rfl) (by kernel_rfl) (by kernel_rfl) (fun _ _ _ h => h) (Or.inl ⟨by rfl, ?hy5028⟩) (by assumption) ?ty5028
    case hy5028 => (intro w5 hSw; obtain ⟨e0, e1, e2⟩ := hSw; go_simp; all_goals with_reducible rfl)
    simp only [Act.put, List.getElem_toArray, List.getElem_cons_zero, List.getElem_cons_succ, List.setIfInBounds_toArray, List.set_cons_zero, List.set_cons_succ]
    refine wpAnyH_take (i := 23) (v := ?_) rfl (by kernel_rfl) (by kernel_rfl) (by kernel_rfl) (fun _ _ _ h => h) (Or.inl ⟨by rfl, ?hy5029⟩) (by assumption) ?ty5029
    case hy5029 => (intro w5 hSw; obtain ⟨e0, e1, e2⟩ := hSw; go_simp; all_goals with_reducible rfl)
    simp only [Act.put, List.getElem_toArray, List.getElem_cons_zero, List.getElem_cons_succ, List.setIfInBounds_toArray, List.set_cons_zero, List.set_cons_succ]
    refine wpAnyH_take (i := 24) (v := ?_) rfl (by kernel_rfl) (by kernel_rfl) (by kernel_rfl) (fun _ _ _ h => h) (Or.inl ⟨by rfl, ?hy5030⟩) (by assumption) ?ty5030
    case hy5030 => (intro w5 hSw; obtain ⟨e0, e1, e2⟩ := hSw; go_simp; all_goals with_reducible rfl)
    simp only [Act.put, List.getElem_toArray, List.getElem_cons_zero, List.getElem_cons_succ, List.setIfInBounds_toArray, List.set_cons_zero, List.set_cons_succ]
    refine wpAnyH_ready (rs := [25]) (by kernel_rfl) (by simp) ?_
    refine AllReadyH.cons rfl (fun K hK => ?_) AllReadyH.nil
    go_simp
    refine (HSS.out x6 f t (HZ1.out _ hy5006)).mono ?_
    rintro e x7 ⟨vU, rfl, hoU, hcU⟩
    obtain ⟨aU, cU, hvU, -, -⟩ := hoU.form
    rw [hK2] at hvU
    subst hvU
    have hy5007 := hy5006.trans (hcU.mono hy5006.size)
    refine hK.out _ _ (HSX.out _ hy5007) (fun hHeld => ?_)
    clear hK K
    refine wpAnyH_take (i := 26) (v := ?_) rfl (by kernel_rfl) (by kernel_rfl) (by kernel_rfl) (fun _ _ _ h => h) (Or.inl ⟨by rfl, ?hy5031⟩) (by assumption) ?ty5031
    case hy5031 => (intro w5 hSw; obtain ⟨e0, e1, e2⟩ := hSw; go_simp; all_goals with_reducible rfl)
    simp only [Act.put, List.getElem_toArray, List.getElem_cons_zero, List.getElem_cons_succ, List.setIfInBounds_toArray, List.set_cons_zero, List.set_cons_succ]
    refine wpAnyH_ready (rs := [27]) (by kernel_rfl) (by simp) ?_
    refine AllReadyH.cons rfl (fun K hK => ?_) AllReadyH.nil
    go_simp
    refine (lwNums_any a2 aU K2 K2 cp2 cU (lsV ol f t).2 (lsV ol f t).2 x7 hK2 hK2 (HO2.out _ hy5007) (OwnI.rd hoU).2 (by omega) (by omega)).mono ?_
    rintro e x8 ⟨rfl, hcL⟩
    rw [decide_eq_true (rfl : (lsV ol f t).2 = (lsV ol f t).2)]
    have hy5008 := hy5007.trans (hcL.mono (Nat.le_trans hy5007.size (Nat.le_refl _)))
    refine hK.out _ _ (HSX.out _ hy5008) (fun hHeld => ?_)
    clear hK K hcL
    refine wpAnyH_take (i := 28) (v := ?_) rfl (by kernel_rfl) (by kernel_rfl) (by kernel_rfl) (fun _ _ _ h => h) (Or.inl ⟨by rfl, ?hy5032⟩) (by assumption) ?ty5032
    case hy5032 => (intro w5 hSw; obtain ⟨e0, e1, e2⟩ := hSw; go_simp; all_goals with_reducible rfl)
    simp only [Act.put, List.getElem_toArray, List.getElem_cons_zero, List.getElem_cons_succ, List.setIfInBounds_toArray, List.set_cons_zero, List.set_cons_succ]
    refine wpAnyH_take (i := 29) (v := ?_) rfl (by kernel_rfl) (by kernel_rfl) (by kernel_rfl) (fun _ _ _ h => h) (Or.inl ⟨by rfl, ?hy5033⟩) (by assumption) ?ty5033
    case hy5033 => (intro w5 hSw; obtain ⟨e0, e1, e2⟩ := hSw; go_simp; all_goals with_reducible rfl)
    simp only [Act.put, List.getElem_toArray, List.getElem_cons_zero, List.getElem_cons_succ, List.setIfInBounds_toArray, List.set_cons_zero, List.set_cons_succ]
    refine wpAnyH_take (i := 30) (v := ?_) rfl (by kernel_rfl) (by kernel_rfl) (by kernel_rfl) (fun _ _ _ h => h) (Or.inl ⟨by rfl, ?hy5034⟩) (by assumption) ?ty5034
    case hy5034 => (intro w5 hSw; obtain ⟨e0, e1, e2⟩ := hSw; go_simp; all_goals with_reducible rfl)
    simp only [Act.put, List.getElem_toArray, List.getElem_cons_zero, List.getElem_cons_succ, List.setIfInBounds_toArray, List.set_cons_zero, List.set_cons_succ]
    refine wpAnyH_take (i := 31) (v := ?_) rfl (by kernel_rfl) (by kernel_rfl) (by kernel_rfl) (fun _ _ _ h => h) (Or.inl ⟨by rfl, ?hy5035⟩) (by assumption) ?ty5035
    case hy5035 => (intro w5 hSw; obtain ⟨e0, e1, e2⟩ := hSw; go_simp; all_goals with_reducible rfl)
    simp only [Act.put, List.getElem_toArray, List.getElem_cons_zero, List.getElem_cons_succ, List.setIfInBounds_toArray, List.set_cons_zero, List.set_cons_succ]
    refine wpAnyH_take (i := 32) (v := ?_) rfl (by kernel_rfl) (by kernel_rfl) (by kernel_rfl) (fun _ _ _ h => h) (Or.inl ⟨by rfl, ?hy5036⟩) (by assumption) ?ty5036
    case hy5036 => (intro w5 hSw; obtain ⟨e0, e1, e2⟩ := hSw; go_simp; all_goals with_reducible rfl)
    simp only [Act.put, List.getElem_toArray, List.getElem_cons_zero, List.getElem_cons_succ, List.setIfInBounds_toArray, List.set_cons_zero, List.set_cons_succ]
    refine wpAnyH_take (i := 33) (v := ?_) rfl (by kernel_rfl) (by kernel_rfl) (by kernel_rfl) (fun _ _ _ h => h) (Or.inl ⟨by rfl, ?hy5037⟩) (by assumption) ?ty5037
    case hy5037 => (intro w5 hSw; obtain ⟨e0, e1, e2⟩ := hSw; go_simp; all_goals with_reducible rfl)
    simp only [Act.put, List.getElem_toArray, List.getElem_cons_zero, List.getElem_cons_succ, List.setIfInBounds_toArray, List.set_cons_zero, List.set_cons_succ]
    refine wpAnyH_take (i := 34) (v := ?_) rfl (by kernel_rfl) (by kernel_rfl) (by kernel_rfl) (fun _ _ _ h => h) (Or.inl ⟨by rfl, ?hy5038⟩) (by assumption) ?ty5038
    case hy5038 => (intro w5 hSw; obtain ⟨e0, e1, e2⟩ := hSw; go_simp; all_goals with_reducible rfl)
    simp only [Act.put, List.getElem_toArray, List.getElem_cons_zero, List.getElem_cons_succ, List.setIfInBounds_toArray, List.set_cons_zero, List.set_cons_succ]
    refine wpAnyH_take (i := 35) (v := ?_) rfl (by kernel_rfl) (by kernel_rfl) (by kernel_rfl) (fun _ _ _ h => h) (Or.inl ⟨by rfl, ?hy5039⟩) (by assumption) ?ty5039
    case hy5039 => (intro w5 hSw; obtain ⟨e0, e1, e2⟩ := hSw; go_simp; all_goals with_reducible rfl)
    simp only [Act.put, List.getElem_toArray, List.getElem_cons_zero, List.getElem_cons_succ, List.setIfInBounds_toArray, List.set_cons_zero, List.set_cons_succ]
    refine wpAnyH_take (i := 36) (v := ?_) rfl (by kernel_rfl) (by kernel_rfl) (by kernel_rfl) (fun _ _ _ h => h) (Or.inl ⟨by rfl, ?hy5040⟩) (by assumption) ?ty5040
    case hy5040 => (intro w5 hSw; obtain ⟨e0, e1, e2⟩ := hSw; go_simp; all_goals with_reducible rfl)
    simp only [Act.put, List.getElem_toArray, List.getElem_cons_zero, List.getElem_cons_succ, List.setIfInBounds_toArray, List.set_cons_zero, List.set_cons_succ]
    refine wpAnyH_take (i := 37) (v := ?_) rfl (by kernel_rfl) (by kernel_rfl) (by kernel_rfl) (fun _ _ _ h => h) (Or.inl ⟨by rfl, ?hy5041⟩) (by assumption) ?ty5041
    case hy5041 => (intro w5 hSw; obtain ⟨e0, e1, e2⟩ := hSw; go_simp; all_goals with_reducible rfl)
    simp only [Act.put, List.getElem_toArray, List.getElem_cons_zero, List.getElem_cons_succ, List.setIfInBounds_toArray, List.set_cons_zero, List.set_cons_succ]
    refine wpAnyH_done (by kernel_rfl) ?_ _
    have hBe := hB8.trans (hy5008.mono hB8.size)
    clear hHeld
    go_wp2
    go_ret
    exact ⟨rfl, hBe⟩
end Go.Proofs.YtfbjodbihenmjaaGreatDoor
