/- The fault of an op: the model's, whole; no conditions beyond those that each fact names. -/
import Derived.Test.YtdcgihcjiiemdaaDoorOfu
namespace Go.Proofs.YtdcgihcjiiemdaaDoor
open Go.RowKit
set_option linter.unusedVariables false
theorem ofV_eq (o : OpR) : ofV o = if fmV o = true then (if (bnOk (txB o.x) && (!cpK o.k || bnOk (txB o.t))) = true then (if 6 < o.u.length then 2 else if (riU 0 o.u && (!decide (o.k = 4) || bt o.m 1 3) && bt o.f 0 15 && bt o.d 0 9999) = true then (if 400 < o.b.length then 2 else 0) else 3) else 5) else 1 := by
 unfold ofV
 have e : (bnOk (txB o.x) = true ∧ (cpK o.k = true → bnOk (txB o.t) = true)) ↔ (bnOk (txB o.x) && (!cpK o.k || bnOk (txB o.t))) = true := by
  cases bnOk (txB o.x) <;> cases cpK o.k <;> cases bnOk (txB o.t) <;> simp
 simp only [e]
 rfl
set_option maxHeartbeats 3200000 in
set_option maxRecDepth 100000 in
theorem l8Fault_any (o : OpR) (p : SlO) (g : Nat) {lo : Nat} (w : World) (hs : IsOp lo w p o) (hQ : Qo w g (opQ o p)) (hx : o.x.size ≤ 1048576) (ht : o.t.size ≤ 1048576) :
  Calls Tryd.prog 29 #[.pointer (some ⟨g, 0, none⟩)] w fun e w' => e = .returned (.int .i64 (ofV o)) ∧ Below w.heap.size w w' := by
 have hu := hs.1.1
 have hb := hs.2.1
 have hm1 : p.1.2.1 ≤ maxLen := Nat.le_trans hs.1.2.1 hs.1.2.2.1
 have hm2 : p.2.2.1 ≤ maxLen := Nat.le_trans hs.2.2.1 hs.2.2.2.1
 have HV : Hid (_) := ofV_eq o
 rw [hu, hb] at HV
 unfold maxLen at hm1 hm2
 obtain ⟨c0, c1, c2, c3, c4, c5, c6, c7⟩ := id hQ
 dsimp only at c0 c1 c2 c3 c4 c5 c6 c7
 have HF := l8Form_any o p g 0 w hs c0 c1 c2 c3 c4 c5 c6 c7
 have HX := fun w => l7Name_nm o.x w hx
 have HT := fun w => l7Name_nm o.t w ht
 have HCP := l8Copies_any o.k
 have HM := l1In_bt o.m 1 3
 have HFL := l1In_bt o.f 0 15
 have HD := l1In_bt o.d 0 9999
 have HU : Hid (∀ (lo : Nat) (w' : World) (_ : IsIl lo w' p.1 o.u), Calls Tryd.prog 56 #[slW p.1] w' fun e w'' => e = .returned (.bool (riU 0 o.u)) ∧ Below w'.heap.size w' w'') := fun lo w' h => l8Uids_any p.1 o.u w' h
 generalize ofV o = r at *
 generalize fmV o = fm at *
 generalize bnOk (txB o.x) = bx at *
 generalize bnOk (txB o.t) = btx at *
 generalize cpK o.k = cp at *
 generalize riU 0 o.u = ru at *
 generalize bt o.m 1 3 = bm at *
 generalize bt o.f 0 15 = bf at *
 generalize bt o.d 0 9999 = bd at *
 obtain ⟨⟨a, n, cap⟩, ⟨a', n', cap'⟩⟩ := p
 dsimp only [slW] at *
 cases fm with
 | false =>
  have HR : Hid (r = 1) := HV.out.trans (by simp)
  clear HV
  go_enter Tryd.func29, Tryd.ntmps29
  go_wp2_with fail
  refine HF.mono ?_
  rintro e w1 ⟨rfl, rfl⟩
  go_wp2
  go_ret
  exact ⟨by rw [HR.out]; rfl, Below.refl _ _⟩
 | true =>
  go_enter Tryd.func29, Tryd.ntmps29
  go_wp2_with fail
  refine HF.mono ?_
  rintro e w1 ⟨rfl, rfl⟩
  clear HF
  go_wp2_with fail
  refine (HX _).mono ?_
  rintro e w1 ⟨rfl, hb1⟩
  have hQ1 := hQ.below hb1 hQ.lt
  have hs1 := hs.below hb1
  clear c0 c1 c2 c3 c4 c5 c6 c7 hQ hs HX
  obtain ⟨c0, c1, c2, c3, c4, c5, c6, c7⟩ := id hQ1
  dsimp only at c0 c1 c2 c3 c4 c5 c6 c7
  cases bx with
  | false =>
   have HR : Hid (r = 5) := HV.out.trans (by simp)
   clear HV
   go_wp2
   go_ret
   exact ⟨by rw [HR.out]; rfl, hb1⟩
  | true =>
   go_wp2_with fail
   refine (HCP _).mono ?_
   rintro e w2 ⟨rfl, rfl⟩
   clear HCP
   cases cp with
   | true =>
    go_wp2_with fail
    refine (HT _).mono ?_
    rintro e w2 ⟨rfl, hb2⟩
    have hQ2 := hQ1.below hb2 hQ1.lt
    have hs2 := hs1.below hb2
    have hB2 := hb1.trans (hb2.mono hb1.size)
    clear c0 c1 c2 c3 c4 c5 c6 c7 hQ1 hs1 HT hb1 hb2
    obtain ⟨c0, c1, c2, c3, c4, c5, c6, c7⟩ := id hQ2
    dsimp only at c0 c1 c2 c3 c4 c5 c6 c7
    cases btx with
    | false =>
     have HR : Hid (r = 5) := HV.out.trans (by simp)
     clear HV
     go_wp2
     go_ret
     exact ⟨by rw [HR.out]; rfl, hB2⟩
    | true =>
     have HR : Hid (r = if 6 < n then 2 else if (ru && (!decide (o.k = 4) || bm) && bf && bd) = true then (if 400 < n' then 2 else 0) else 3) := HV.out.trans (by simp)
     clear HV
     by_cases hmany : 6 < n
     ·have hmi : (6 : Int) < (n : Int) := by omega
      have HR2 : Hid (r = 2) := HR.out.trans (if_pos hmany)
      clear HR
      go_wp2
      go_ret
      exact ⟨by rw [HR2.out]; rfl, hB2⟩
     have hmi : ¬ (6 : Int) < (n : Int) := by omega
     replace HR : Hid (r = if (ru && (!decide (o.k = 4) || bm) && bf && bd) = true then (if 400 < n' then 2 else 0) else 3) := HR.out.trans (if_neg hmany)
     go_wp2_with fail
     refine (HU.out lo _ hs2.1).mono ?_
     rintro e w3 ⟨rfl, hb3⟩
     have hQ3 := hQ2.below hb3 hQ2.lt
     have hB3 := hB2.trans (hb3.mono hB2.size)
     clear c0 c1 c2 c3 c4 c5 c6 c7 hQ2 hs2 hB2 hb3 HU
     obtain ⟨c0, c1, c2, c3, c4, c5, c6, c7⟩ := id hQ3
     dsimp only at c0 c1 c2 c3 c4 c5 c6 c7
     cases ru with
     | false =>
      have HR2 : Hid (r = 3) := HR.out.trans (by simp)
      clear HR
      go_wp2
      go_ret
      exact ⟨by rw [HR2.out]; rfl, hB3⟩
     | true =>
      by_cases hk : o.k = 4
      ·cases bm with
       | false =>
        have HR2 : Hid (r = 3) := HR.out.trans (by simp [hk])
        clear HR
        go_wp2_with fail
        refine (HM _).mono ?_
        rintro e w4 ⟨rfl, rfl⟩
        go_wp2
        go_ret
        exact ⟨by rw [HR2.out]; rfl, hB3⟩
       | true =>
        go_wp2_with fail
        refine (HM _).mono ?_
        rintro e w4 ⟨rfl, rfl⟩
        go_wp2_with fail
        refine (HFL _).mono ?_
        rintro e w4 ⟨rfl, rfl⟩
        cases bf with
        | false =>
         have HR2 : Hid (r = 3) := HR.out.trans (by simp [hk])
         clear HR
         go_wp2
         go_ret
         exact ⟨by rw [HR2.out]; rfl, hB3⟩
        | true =>
         go_wp2_with fail
         refine (HD _).mono ?_
         rintro e w4 ⟨rfl, rfl⟩
         cases bd with
         | false =>
          have HR2 : Hid (r = 3) := HR.out.trans (by simp [hk])
          clear HR
          go_wp2
          go_ret
          exact ⟨by rw [HR2.out]; rfl, hB3⟩
         | true =>
          by_cases h4 : 400 < n'
          ·have h4i : (400 : Int) < (n' : Int) := by omega
           have HR2 : Hid (r = 2) := HR.out.trans (by simp [hk, h4])
           clear HR
           go_wp2
           go_ret
           exact ⟨by rw [HR2.out]; rfl, hB3⟩
          ·have h4i : ¬ (400 : Int) < (n' : Int) := by omega
           have HR2 : Hid (r = 0) := HR.out.trans (by simp [hk, h4])
           clear HR
           go_wp2
           go_ret
           exact ⟨by rw [HR2.out]; rfl, hB3⟩
      ·skip
       go_wp2_with fail
       refine (HFL _).mono ?_
       rintro e w4 ⟨rfl, rfl⟩
       cases bf with
       | false =>
        have HR2 : Hid (r = 3) := HR.out.trans (by simp [hk])
        clear HR
        go_wp2
        go_ret
        exact ⟨by rw [HR2.out]; rfl, hB3⟩
       | true =>
        go_wp2_with fail
        refine (HD _).mono ?_
        rintro e w4 ⟨rfl, rfl⟩
        cases bd with
        | false =>
         have HR2 : Hid (r = 3) := HR.out.trans (by simp [hk])
         clear HR
         go_wp2
         go_ret
         exact ⟨by rw [HR2.out]; rfl, hB3⟩
        | true =>
         by_cases h4 : 400 < n'
         ·have h4i : (400 : Int) < (n' : Int) := by omega
          have HR2 : Hid (r = 2) := HR.out.trans (by simp [hk, h4])
          clear HR
          go_wp2
          go_ret
          exact ⟨by rw [HR2.out]; rfl, hB3⟩
         ·have h4i : ¬ (400 : Int) < (n' : Int) := by omega
          have HR2 : Hid (r = 0) := HR.out.trans (by simp [hk, h4])
          clear HR
          go_wp2
          go_ret
          exact ⟨by rw [HR2.out]; rfl, hB3⟩
   | false =>
    have hQ2 := hQ1
    have hs2 := hs1
    have hB2 := hb1
    have HR : Hid (r = if 6 < n then 2 else if (ru && (!decide (o.k = 4) || bm) && bf && bd) = true then (if 400 < n' then 2 else 0) else 3) := HV.out.trans (by simp)
    clear HV hQ1 hs1 hb1 HT
    by_cases hmany : 6 < n
    ·have hmi : (6 : Int) < (n : Int) := by omega
     have HR2 : Hid (r = 2) := HR.out.trans (if_pos hmany)
     clear HR
     go_wp2
     go_ret
     exact ⟨by rw [HR2.out]; rfl, hB2⟩
    have hmi : ¬ (6 : Int) < (n : Int) := by omega
    replace HR : Hid (r = if (ru && (!decide (o.k = 4) || bm) && bf && bd) = true then (if 400 < n' then 2 else 0) else 3) := HR.out.trans (if_neg hmany)
    go_wp2_with fail
    refine (HU.out lo _ hs2.1).mono ?_
    rintro e w3 ⟨rfl, hb3⟩
    have hQ3 := hQ2.below hb3 hQ2.lt
    have hB3 := hB2.trans (hb3.mono hB2.size)
    clear c0 c1 c2 c3 c4 c5 c6 c7 hQ2 hs2 hB2 hb3 HU
    obtain ⟨c0, c1, c2, c3, c4, c5, c6, c7⟩ := id hQ3
    dsimp only at c0 c1 c2 c3 c4 c5 c6 c7
    cases ru with
    | false =>
     have HR2 : Hid (r = 3) := HR.out.trans (by simp)
     clear HR
     go_wp2
     go_ret
     exact ⟨by rw [HR2.out]; rfl, hB3⟩
    | true =>
     by_cases hk : o.k = 4
     ·cases bm with
      | false =>
       have HR2 : Hid (r = 3) := HR.out.trans (by simp [hk])
       clear HR
       go_wp2_with fail
       refine (HM _).mono ?_
       rintro e w4 ⟨rfl, rfl⟩
       go_wp2
       go_ret
       exact ⟨by rw [HR2.out]; rfl, hB3⟩
      | true =>
       go_wp2_with fail
       refine (HM _).mono ?_
       rintro e w4 ⟨rfl, rfl⟩
       go_wp2_with fail
       refine (HFL _).mono ?_
       rintro e w4 ⟨rfl, rfl⟩
       cases bf with
       | false =>
        have HR2 : Hid (r = 3) := HR.out.trans (by simp [hk])
        clear HR
        go_wp2
        go_ret
        exact ⟨by rw [HR2.out]; rfl, hB3⟩
       | true =>
        go_wp2_with fail
        refine (HD _).mono ?_
        rintro e w4 ⟨rfl, rfl⟩
        cases bd with
        | false =>
         have HR2 : Hid (r = 3) := HR.out.trans (by simp [hk])
         clear HR
         go_wp2
         go_ret
         exact ⟨by rw [HR2.out]; rfl, hB3⟩
        | true =>
         by_cases h4 : 400 < n'
         ·have h4i : (400 : Int) < (n' : Int) := by omega
          have HR2 : Hid (r = 2) := HR.out.trans (by simp [hk, h4])
          clear HR
          go_wp2
          go_ret
          exact ⟨by rw [HR2.out]; rfl, hB3⟩
         ·have h4i : ¬ (400 : Int) < (n' : Int) := by omega
          have HR2 : Hid (r = 0) := HR.out.trans (by simp [hk, h4])
          clear HR
          go_wp2
          go_ret
          exact ⟨by rw [HR2.out]; rfl, hB3⟩
     ·skip
      go_wp2_with fail
      refine (HFL _).mono ?_
      rintro e w4 ⟨rfl, rfl⟩
      cases bf with
      | false =>
       have HR2 : Hid (r = 3) := HR.out.trans (by simp [hk])
       clear HR
       go_wp2
       go_ret
       exact ⟨by rw [HR2.out]; rfl, hB3⟩
      | true =>
       go_wp2_with fail
       refine (HD _).mono ?_
       rintro e w4 ⟨rfl, rfl⟩
       cases bd with
       | false =>
        have HR2 : Hid (r = 3) := HR.out.trans (by simp [hk])
        clear HR
        go_wp2
        go_ret
        exact ⟨by rw [HR2.out]; rfl, hB3⟩
       | true =>
        by_cases h4 : 400 < n'
        ·have h4i : (400 : Int) < (n' : Int) := by omega
         have HR2 : Hid (r = 2) := HR.out.trans (by simp [hk, h4])
         clear HR
         go_wp2
         go_ret
         exact ⟨by rw [HR2.out]; rfl, hB3⟩
        ·have h4i : ¬ (400 : Int) < (n' : Int) := by omega
         have HR2 : Hid (r = 0) := HR.out.trans (by simp [hk, h4])
         clear HR
         go_wp2
         go_ret
         exact ⟨by rw [HR2.out]; rfl, hB3⟩
end Go.Proofs.YtdcgihcjiiemdaaDoor
