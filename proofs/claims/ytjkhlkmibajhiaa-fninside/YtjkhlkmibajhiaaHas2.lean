/- HasCodes, the program's and the model's, at every comparator and slices of at most 1048576 numbers: both by one plain function. -/
import Derived.Test.YtjkhlkmibajhiaaHas
namespace Go.Proofs.Ytjkhlkmibajhiaa
open Go.RowKit

/-- What HasCodes answers. -/
def hasT (k : Int) (l s : List Int) : Bool := decide (1 ≤ k ∧ k ≤ 3) && (flt l == 0) && (flt s == 0) && hasP (l.map (mapC k)) (s.map (mapC k))
theorem hasT_maps (k : Int) (l s : List Int) : hasT k l s = (((mapT k l).1 == 0) && ((mapT k s).1 == 0) && hasP (mapT k l).2 (mapT k s).2) := by
  unfold hasT
  by_cases hk : 1 ≤ k ∧ k ≤ 3
  · by_cases hf : flt l = 0
    · by_cases hg : flt s = 0
      · rw [mapT_ok hk hf, mapT_ok hk hg, hf, hg, decide_eq_true hk]; simp
      · rw [mapT_ok hk hf, mapT_fault hk hg, beq_eq_false_iff_ne.2 hg]; simp
    · rw [mapT_fault hk hf, beq_eq_false_iff_ne.2 hf]; simp
  · rw [mapT_none hk, decide_eq_false hk]; simp

set_option maxHeartbeats 3200000 in
set_option maxRecDepth 100000 in
theorem hasCodes_any (k : Int) (a c : Option Addr) (n m cap cap' : Nat) (l s : List Int) (w : World) (hl : l.length = n) (hs : s.length = m) (hr : RdI w a l) (hq : RdI w c s) (hn : n ≤ 1048576) (hm : m ≤ 1048576) :
    Calls Try.prog 31 #[.int .i64 k, .slice a n cap, .slice c m cap'] w fun e w' => e = .returned (.bool (hasT k l s)) ∧ Below w.heap.size w w' := by
  have HT : Hid (_) := hasT_maps k l s
  have hfew1 := mapT_few k l
  have hfew2 := mapT_few k s
  have HA : Hid (∀ w, RdI w a l → Calls Try.prog 28 #[.int .i64 k, .slice a n cap] w fun e w' => NumEnd (mapT k l) w e w') := fun w hr => mapCodes_any k a n cap l w hl hr hn
  have HB : Hid (∀ w, RdI w c s → Calls Try.prog 28 #[.int .i64 k, .slice c m cap'] w fun e w' => NumEnd (mapT k s) w e w') := fun w hr => mapCodes_any k c m cap' s w hs hr hm
  generalize mapT k l = r1 at *
  generalize mapT k s = r2 at *
  obtain ⟨c1, l1⟩ := r1
  obtain ⟨c2, l2⟩ := r2
  simp only at hfew1 hfew2
  go_enter Try.func31, Try.ntmps31
  go_wp2_with fail
  refine (HA.out _ hr).mono ?_
  rintro e w1 ⟨v, rfl, hown1, hb1⟩
  simp only at hown1 ⊢
  obtain ⟨a1, cp1, hv, hlc1, -⟩ := hown1.form
  rw [hv] at hown1 ⊢
  clear hv HA
  have hq1 := hq.below hb1
  obtain ⟨N1, hN1⟩ : ∃ N, l1.length = N := ⟨_, rfl⟩
  have HN1 : Hid (l1.length = N1) := hN1
  rw [hN1] at hown1 hlc1 ⊢
  clear hN1
  go_wp2_with fail
  refine (HB.out _ hq1).mono ?_
  rintro e w2 ⟨v, rfl, hown2, hb2⟩
  simp only at hown2 ⊢
  obtain ⟨a2, cp2, hv, -, -⟩ := hown2.form
  rw [hv] at hown2 ⊢
  clear hv HB hq1
  obtain ⟨N2, hN2⟩ : ∃ N, l2.length = N := ⟨_, rfl⟩
  have HN2 : Hid (l2.length = N2) := hN2
  rw [hN2] at hown2 ⊢
  clear hN2
  have hb12 : Below w.heap.size w w2 := hb1.trans (hb2.mono hb1.size)
  have hbE : Below w.heap.size w ((w2.alloc (.cells #[.int .i64 c1, .slice a1 N1 cp1] 28)).alloc (.cells #[.int .i64 c2, .slice a2 N2 cp2] 28)) := (hb12.alloc hb12.size _).alloc (by have := hb12.size; simp; omega) _
  by_cases hc1 : c1 = 0
  · subst hc1
    by_cases hc2 : c2 = 0
    · subst hc2
      have hbW : Below w2.heap.size w2 ((w2.alloc (.cells #[.int .i64 0, .slice a1 N1 cp1] 28)).alloc (.cells #[.int .i64 0, .slice a2 N2 cp2] 28)) := ((Below.refl _ _).alloc (Nat.le_refl _) _).alloc (by simp) _
      have hrA := (hown1.rd.2.below hb2).below hbW
      have hrB := hown2.rd.2.below hbW
      have HX : Hid (hasT k l s = hasP l1 l2) := by
        show _ = _
        rw [HT.out]; simp
      have HC : Hid (∀ w, RdI w a1 l1 → RdI w a2 l2 → Calls Try.prog 69 #[.slice a1 N1 cp1, .slice a2 N2 cp2] w fun e w' => e = .returned (.bool (hasP l1 l2)) ∧ Below w.heap.size w w') := fun w h1 h2 =>
        hasPiece_any a1 a2 N1 N2 cp1 cp2 l1 l2 w HN1.out HN2.out h1 h2 (by have := HN1.out; omega) (by have := HN2.out; omega) hlc1
      clear HT hb1 hb2 hown1 hown2 hbW
      generalize hasP l1 l2 = x at *
      go_wp2_with fail
      refine (HC.out _ hrA hrB).mono ?_
      rintro e w3 ⟨rfl, hb3⟩
      have hbF := hbE.trans (hb3.mono hbE.size)
      clear hb3 HC hrA hrB
      go_wp2
      go_ret
      exact ⟨by rw [HX.out]; simp, hbF⟩
    · have e2 : (c2 == 0) = false := by simp; omega
      have HX : Hid (hasT k l s = false) := by
        show _ = _
        rw [HT.out, e2]; simp
      clear HT hb1 hb2 hown1 hown2
      go_wp2
      go_ret
      exact ⟨by rw [HX.out]; rfl, hbE⟩
  · have e1 : (c1 == 0) = false := by simp; omega
    have HX : Hid (hasT k l s = false) := by
      show _ = _
      rw [HT.out, e1]; simp
    clear HT hb1 hb2 hown1 hown2
    go_wp2
    go_ret
    exact ⟨by rw [HX.out]; rfl, hbE⟩

set_option maxHeartbeats 3200000 in
set_option maxRecDepth 100000 in
theorem specHasCodes_any (k : Int) (a c : Option Addr) (n m cap cap' : Nat) (l s : List Int) (w : World) (hl : l.length = n) (hs : s.length = m) (hr : RdI w a l) (hq : RdI w c s) (hn : n ≤ 1048576) (hm : m ≤ 1048576) (hcap : n ≤ cap) :
    Calls Try.prog 35 #[.int .i64 k, .slice a n cap, .slice c m cap'] w fun e w' => e = .returned (.bool (hasT k l s)) ∧ Below w.heap.size w w' := by
  by_cases hk : 1 ≤ k ∧ k ≤ 3
  · have HA : Hid (∀ w, RdI w a l → Calls Try.prog 58 #[.slice a n cap] w fun e w' => e = .returned (.int .i64 (flt l)) ∧ Below w.heap.size w w') := fun w hr => l2Fault_any a n cap l w hl hr hn
    have HB : Hid (∀ w, RdI w c s → Calls Try.prog 58 #[.slice c m cap'] w fun e w' => e = .returned (.int .i64 (flt s)) ∧ Below w.heap.size w w') := fun w hr => l2Fault_any c m cap' s w hs hr hm
    have HT : Hid (hasT k l s = ((flt l == 0) && (flt s == 0) && hasP (l.map (mapC k)) (s.map (mapC k)))) := by
      show _ = _
      unfold hasT; rw [decide_eq_true hk]; simp
    generalize flt l = c1 at *
    generalize flt s = c2 at *
    go_enter Try.func35, Try.ntmps35
    go_wp2_with (first | (go_at_call 65; refine (l3Cmp_any _ _).mono ?_; rintro e w' ⟨rfl, rfl⟩; rw [decide_eq_true hk]))
    refine (HA.out _ hr).mono ?_
    rintro e w1 ⟨rfl, hb1⟩
    have hr1 := hr.below hb1
    have hq1 := hq.below hb1
    clear HA
    by_cases hc1 : c1 = 0
    · subst hc1
      go_wp2_with fail
      refine (HB.out _ hq1).mono ?_
      rintro e w2 ⟨rfl, hb2⟩
      have hr2 := hr1.below hb2
      have hq2 := hq1.below hb2
      have hb12 : Below w.heap.size w w2 := hb1.trans (hb2.mono hb1.size)
      clear HB hr1 hq1 hb1 hb2
      by_cases hc2 : c2 = 0
      · subst hc2
        have HX : Hid (hasT k l s = hasP (l.map (mapC k)) (s.map (mapC k))) := by
          show _ = _
          rw [HT.out]; simp
        have HC : Hid (∀ w, RdI w a l → RdI w c s → Calls Try.prog 73 #[.int .i64 k, .slice a n cap, .slice c m cap'] w fun e w' => e = .returned (.bool (hasP (l.map (mapC k)) (s.map (mapC k)))) ∧ Below w.heap.size w w') := fun w h1 h2 => l3Has_any k a c n m cap cap' l s w hk hl hs h1 h2 hn hm hcap
        clear HT
        generalize hasP (l.map (mapC k)) (s.map (mapC k)) = x at *
        go_wp2_with fail
        refine (HC.out _ hr2 hq2).mono ?_
        rintro e w3 ⟨rfl, hb3⟩
        have hbF := hb12.trans (hb3.mono hb12.size)
        clear HC hb3
        go_wp2
        go_ret
        exact ⟨by rw [HX.out]; simp, hbF⟩
      · have e2 : (c2 == 0) = false := by simp; omega
        have HX : Hid (hasT k l s = false) := by
          show _ = _
          rw [HT.out, e2]; simp
        clear HT
        go_wp2
        go_ret
        exact ⟨by rw [HX.out]; rfl, hb12⟩
    · have e1 : (c1 == 0) = false := by simp; omega
      have HX : Hid (hasT k l s = false) := by
        show _ = _
        rw [HT.out, e1]; simp
      clear HT HB
      go_wp2
      go_ret
      exact ⟨by rw [HX.out]; rfl, hb1⟩
  · have HX : Hid (hasT k l s = false) := by
      show _ = _
      unfold hasT; rw [decide_eq_false hk]; simp
    go_enter Try.func35, Try.ntmps35
    go_wp2_with (first | (go_at_call 65; refine (l3Cmp_any _ _).mono ?_; rintro e w' ⟨rfl, rfl⟩; rw [decide_eq_false hk]))
    go_ret
    exact ⟨by rw [HX.out]; rfl, Below.refl _ _⟩
end Go.Proofs.Ytjkhlkmibajhiaa
