/- What is packed is read back; with one byte another one, or without its last byte, it is no op; no program in it · The fault of an op that lies somewhere in a row: the model's; no conditions beyond those that each fact names. -/
import Derived.Test.YtdcgihcjiiemdaaDoorJpl
import Derived.Test.YtdcgihcjiiemdaaDoorOfv
namespace Go.Proofs.YtdcgihcjiiemdaaDoor
open Go.RowKit
theorem rpV_app {o : OpR} (h : ofV o = 0) (r : List Nat) : rpV (pkO o ++ r) = (0, (pkO o).length, o) := by
 unfold rpV
 rw [rdP_pk (okJ h), if_pos ⟨h, r, rfl⟩]
theorem rpV_no {d : List Nat} (h : ∀ o, ofV o = 0 → pkO o <+: d → False) : rpV d = (5, 0, opZ) := by
 unfold rpV
 rw [if_neg (fun h' => h _ h'.1 h'.2)]
theorem rpV_or (d : List Nat) : rpV d = (5, 0, opZ) ∨ (rpV d = (0, (pkO (rdP d)).length, rdP d) ∧ ofV (rdP d) = 0 ∧ pkO (rdP d) <+: d) := by
 unfold rpV
 by_cases h : ofV (rdP d) = 0 ∧ pkO (rdP d) <+: d
 ·rw [if_pos h]; exact .inr ⟨rfl, h⟩
 ·rw [if_neg h]; exact .inl rfl
theorem pre_self {o o' : OpR} (h : ofV o = 0) (h' : ofV o' = 0) (hp : pkO o' <+: pkO o) : o' = o := by
 obtain ⟨r, hr⟩ := hp
 have e1 := rdP_pk (okJ h') r
 have e2 := rdP_pk (okJ h) []
 rw [List.append_nil] at e2
 rw [hr] at e1
 exact e1.symm.trans e2
theorem rpV_cut {o : OpR} (h : ofV o = 0) {k : Nat} (hk : k < (pkO o).length) : rpV ((pkO o).take k) = (5, 0, opZ) := by
 refine rpV_no fun o' h' hp => ?_
 have e := pre_self h h' (hp.trans (List.take_prefix _ _))
 subst e
 have := hp.length_le
 rw [List.length_take] at this
 omega
end Go.Proofs.YtdcgihcjiiemdaaDoor
namespace Go.Proofs.YtdcgihcjiiemdaaDoor
open Go.RowKit
def Qp (w : World) (g off : Nat) (q : Oc) : Prop := w.cell? ⟨g, off, none⟩ = some q.c0 ∧ w.cell? ⟨g, off + 1, none⟩ = some q.c1 ∧ w.cell? ⟨g, off + 2, none⟩ = some q.c2 ∧ w.cell? ⟨g, off + 3, none⟩ = some q.c3 ∧ w.cell? ⟨g, off + 4, none⟩ = some q.c4 ∧ w.cell? ⟨g, off + 5, none⟩ = some q.c5 ∧ w.cell? ⟨g, off + 6, none⟩ = some q.c6 ∧ w.cell? ⟨g, off + 7, none⟩ = some q.c7
theorem Qp.below {C : Nat} {w w' : World} {g off : Nat} {q : Oc} (h : Qp w g off q) (hb : Below C w w') (hg : g < C) : Qp w' g off q := by
 obtain ⟨h0, h1, h2, h3, h4, h5, h6, h7⟩ := h
 exact ⟨(hb.cell (p := ⟨g, off, none⟩) hg).trans h0, (hb.cell (p := ⟨g, off + 1, none⟩) hg).trans h1, (hb.cell (p := ⟨g, off + 2, none⟩) hg).trans h2, (hb.cell (p := ⟨g, off + 3, none⟩) hg).trans h3, (hb.cell (p := ⟨g, off + 4, none⟩) hg).trans h4, (hb.cell (p := ⟨g, off + 5, none⟩) hg).trans h5, (hb.cell (p := ⟨g, off + 6, none⟩) hg).trans h6, (hb.cell (p := ⟨g, off + 7, none⟩) hg).trans h7⟩
theorem Qp.lt {w : World} {g off : Nat} {q : Oc} (h : Qp w g off q) : g < w.heap.size := World.block_lt_of_cell? w ⟨g, off, none⟩ h.1
set_option maxHeartbeats 3200000 in
set_option maxRecDepth 100000 in
theorem l8Fault_at (o : OpR) (p : SlO) (g off : Nat) {lo : Nat} (w : World) (hs : IsOp lo w p o) (hQ : Qp w g off (opQ o p)) (hx : o.x.size ≤ 1048576) (ht : o.t.size ≤ 1048576) :
  Calls Tryd.prog 29 #[.pointer (some ⟨g, off, none⟩)] w fun e w' => e = .returned (.int .i64 (ofV o)) ∧ Below w.heap.size w w' := by
 have hu := hs.1.1
 have hb := hs.2.1
 have hm1 : p.1.2.1 ≤ maxLen := Nat.le_trans hs.1.2.1 hs.1.2.2.1
 have hm2 : p.2.2.1 ≤ maxLen := Nat.le_trans hs.2.2.1 hs.2.2.2.1
 have HV : Hid (_) := ofV_eq o
 rw [hu, hb] at HV
 unfold maxLen at hm1 hm2
 obtain ⟨c0, c1, c2, c3, c4, c5, c6, c7⟩ := id hQ
 dsimp only at c0 c1 c2 c3 c4 c5 c6 c7
 have HF := l8Form_any o p g off w hs c0 c1 c2 c3 c4 c5 c6 c7
 have HX := fun w => l7Name_nm o.x w hx
 have HT := fun w => l7Name_nm o.t w ht
 have HCP := l8Copies_any o.k
 have HM := l1In_bt o.m 1 3
 have HFL := l1In_bt o.f 0 15
 have HD := l1In_bt o.d 0 9999
 have HU : Hid (∀ (lo : Nat) (w' : World) (_ : IsIl lo w' p.1 o.u), Calls Tryd.prog 56 #[slW p.1] w' fun e w'' => e = .returned (.bool (riU 0 o.u)) ∧ Below w'.heap.size w' w'') := fun lo w' h => l8Uids_any p.1 o.u w' h
 generalize ofV o = r at *
 generalize fmV o = fm at *
 generalize bnOk (txB o.x) = bx at *
 generalize bnOk (txB o.t) = btx at *
 generalize cpK o.k = cp at *
 generalize riU 0 o.u = ru at *
 generalize bt o.m 1 3 = bm at *
 generalize bt o.f 0 15 = bf at *
 generalize bt o.d 0 9999 = bd at *
 obtain ⟨⟨a, n, cap⟩, ⟨a', n', cap'⟩⟩ := p
 dsimp only [slW] at *
 cases fm with
 | false =>
  have HR : Hid (r = 1) := HV.out.trans (by simp)
  clear HV
  go_enter Tryd.func29, Tryd.ntmps29
  go_wp2_with fail
  refine HF.mono ?_
  rintro e w1 ⟨rfl, rfl⟩
  go_wp2
  go_ret
  exact ⟨by rw [HR.out]; rfl, Below.refl _ _⟩
 | true =>
  go_enter Tryd.func29, Tryd.ntmps29
  go_wp2_with fail
  refine HF.mono ?_
  rintro e w1 ⟨rfl, rfl⟩
  clear HF
  go_wp2_with fail
  refine (HX _).mono ?_
  rintro e w1 ⟨rfl, hb1⟩
  have hQ1 := hQ.below hb1 hQ.lt
  have hs1 := hs.below hb1
  clear c0 c1 c2 c3 c4 c5 c6 c7 hQ hs HX
  obtain ⟨c0, c1, c2, c3, c4, c5, c6, c7⟩ := id hQ1
  dsimp only at c0 c1 c2 c3 c4 c5 c6 c7
  cases bx with
  | false =>
   have HR : Hid (r = 5) := HV.out.trans (by simp)
   clear HV
   go_wp2
   go_ret
   exact ⟨by rw [HR.out]; rfl, hb1⟩
  | true =>
   go_wp2_with fail
   refine (HCP _).mono ?_
   rintro e w2 ⟨rfl, rfl⟩
   clear HCP
   cases cp with
   | true =>
    go_wp2_with fail
    refine (HT _).mono ?_
    rintro e w2 ⟨rfl, hb2⟩
    have hQ2 := hQ1.below hb2 hQ1.lt
    have hs2 := hs1.below hb2
    have hB2 := hb1.trans (hb2.mono hb1.size)
    clear c0 c1 c2 c3 c4 c5 c6 c7 hQ1 hs1 HT hb1 hb2
    obtain ⟨c0, c1, c2, c3, c4, c5, c6, c7⟩ := id hQ2
    dsimp only at c0 c1 c2 c3 c4 c5 c6 c7
    cases btx with
    | false =>
     have HR : Hid (r = 5) := HV.out.trans (by simp)
     clear HV
     go_wp2
     go_ret
     exact ⟨by rw [HR.out]; rfl, hB2⟩
    | true =>
     have HR : Hid (r = if 6 < n then 2 else if (ru && (!decide (o.k = 4) || bm) && bf && bd) = true then (if 400 < n' then 2 else 0) else 3) := HV.out.trans (by simp)
     clear HV
     by_cases hmany : 6 < n
     ·have hmi : (6 : Int) < (n : Int) := by omega
      have HR2 : Hid (r = 2) := HR.out.trans (if_pos hmany)
      clear HR
      go_wp2
      go_ret
      exact ⟨by rw [HR2.out]; rfl, hB2⟩
     have hmi : ¬ (6 : Int) < (n : Int) := by omega
     replace HR : Hid (r = if (ru && (!decide (o.k = 4) || bm) && bf && bd) = true then (if 400 < n' then 2 else 0) else 3) := HR.out.trans (if_neg hmany)
     go_wp2_with fail
     refine (HU.out lo _ hs2.1).mono ?_
     rintro e w3 ⟨rfl, hb3⟩
     have hQ3 := hQ2.below hb3 hQ2.lt
     have hB3 := hB2.trans (hb3.mono hB2.size)
     clear c0 c1 c2 c3 c4 c5 c6 c7 hQ2 hs2 hB2 hb3 HU
     obtain ⟨c0, c1, c2, c3, c4, c5, c6, c7⟩ := id hQ3
     dsimp only at c0 c1 c2 c3 c4 c5 c6 c7
     cases ru with
     | false =>
      have HR2 : Hid (r = 3) := HR.out.trans (by simp)
      clear HR
      go_wp2
      go_ret
      exact ⟨by rw [HR2.out]; rfl, hB3⟩
     | true =>
      by_cases hk : o.k = 4
      ·cases bm with
       | false =>
        have HR2 : Hid (r = 3) := HR.out.trans (by simp [hk])
        clear HR
        go_wp2_with fail
        refine (HM _).mono ?_
        rintro e w4 ⟨rfl, rfl⟩
        go_wp2
        go_ret
        exact ⟨by rw [HR2.out]; rfl, hB3⟩
       | true =>
        go_wp2_with fail
        refine (HM _).mono ?_
        rintro e w4 ⟨rfl, rfl⟩
        go_wp2_with fail
        refine (HFL _).mono ?_
        rintro e w4 ⟨rfl, rfl⟩
        cases bf with
        | false =>
         have HR2 : Hid (r = 3) := HR.out.trans (by simp [hk])
         clear HR
         go_wp2
         go_ret
         exact ⟨by rw [HR2.out]; rfl, hB3⟩
        | true =>
         go_wp2_with fail
         refine (HD _).mono ?_
         rintro e w4 ⟨rfl, rfl⟩
         cases bd with
         | false =>
          have HR2 : Hid (r = 3) := HR.out.trans (by simp [hk])
          clear HR
          go_wp2
          go_ret
          exact ⟨by rw [HR2.out]; rfl, hB3⟩
         | true =>
          by_cases h4 : 400 < n'
          ·have h4i : (400 : Int) < (n' : Int) := by omega
           have HR2 : Hid (r = 2) := HR.out.trans (by simp [hk, h4])
           clear HR
           go_wp2
           go_ret
           exact ⟨by rw [HR2.out]; rfl, hB3⟩
          ·have h4i : ¬ (400 : Int) < (n' : Int) := by omega
           have HR2 : Hid (r = 0) := HR.out.trans (by simp [hk, h4])
           clear HR
           go_wp2
           go_ret
           exact ⟨by rw [HR2.out]; rfl, hB3⟩
      ·skip
       go_wp2_with fail
       refine (HFL _).mono ?_
       rintro e w4 ⟨rfl, rfl⟩
       cases bf with
       | false =>
        have HR2 : Hid (r = 3) := HR.out.trans (by simp [hk])
        clear HR
        go_wp2
        go_ret
        exact ⟨by rw [HR2.out]; rfl, hB3⟩
       | true =>
        go_wp2_with fail
        refine (HD _).mono ?_
        rintro e w4 ⟨rfl, rfl⟩
        cases bd with
        | false =>
         have HR2 : Hid (r = 3) := HR.out.trans (by simp [hk])
         clear HR
         go_wp2
         go_ret
         exact ⟨by rw [HR2.out]; rfl, hB3⟩
        | true =>
         by_cases h4 : 400 < n'
         ·have h4i : (400 : Int) < (n' : Int) := by omega
          have HR2 : Hid (r = 2) := HR.out.trans (by simp [hk, h4])
          clear HR
          go_wp2
          go_ret
          exact ⟨by rw [HR2.out]; rfl, hB3⟩
         ·have h4i : ¬ (400 : Int) < (n' : Int) := by omega
          have HR2 : Hid (r = 0) := HR.out.trans (by simp [hk, h4])
          clear HR
          go_wp2
          go_ret
          exact ⟨by rw [HR2.out]; rfl, hB3⟩
   | false =>
    have hQ2 := hQ1
    have hs2 := hs1
    have hB2 := hb1
    have HR : Hid (r = if 6 < n then 2 else if (ru && (!decide (o.k = 4) || bm) && bf && bd) = true then (if 400 < n' then 2 else 0) else 3) := HV.out.trans (by simp)
    clear HV hQ1 hs1 hb1 HT
    by_cases hmany : 6 < n
    ·have hmi : (6 : Int) < (n : Int) := by omega
     have HR2 : Hid (r = 2) := HR.out.trans (if_pos hmany)
     clear HR
     go_wp2
     go_ret
     exact ⟨by rw [HR2.out]; rfl, hB2⟩
    have hmi : ¬ (6 : Int) < (n : Int) := by omega
    replace HR : Hid (r = if (ru && (!decide (o.k = 4) || bm) && bf && bd) = true then (if 400 < n' then 2 else 0) else 3) := HR.out.trans (if_neg hmany)
    go_wp2_with fail
    refine (HU.out lo _ hs2.1).mono ?_
    rintro e w3 ⟨rfl, hb3⟩
    have hQ3 := hQ2.below hb3 hQ2.lt
    have hB3 := hB2.trans (hb3.mono hB2.size)
    clear c0 c1 c2 c3 c4 c5 c6 c7 hQ2 hs2 hB2 hb3 HU
    obtain ⟨c0, c1, c2, c3, c4, c5, c6, c7⟩ := id hQ3
    dsimp only at c0 c1 c2 c3 c4 c5 c6 c7
    cases ru with
    | false =>
     have HR2 : Hid (r = 3) := HR.out.trans (by simp)
     clear HR
     go_wp2
     go_ret
     exact ⟨by rw [HR2.out]; rfl, hB3⟩
    | true =>
     by_cases hk : o.k = 4
     ·cases bm with
      | false =>
       have HR2 : Hid (r = 3) := HR.out.trans (by simp [hk])
       clear HR
       go_wp2_with fail
       refine (HM _).mono ?_
       rintro e w4 ⟨rfl, rfl⟩
       go_wp2
       go_ret
       exact ⟨by rw [HR2.out]; rfl, hB3⟩
      | true =>
       go_wp2_with fail
       refine (HM _).mono ?_
       rintro e w4 ⟨rfl, rfl⟩
       go_wp2_with fail
       refine (HFL _).mono ?_
       rintro e w4 ⟨rfl, rfl⟩
       cases bf with
       | false =>
        have HR2 : Hid (r = 3) := HR.out.trans (by simp [hk])
        clear HR
        go_wp2
        go_ret
        exact ⟨by rw [HR2.out]; rfl, hB3⟩
       | true =>
        go_wp2_with fail
        refine (HD _).mono ?_
        rintro e w4 ⟨rfl, rfl⟩
        cases bd with
        | false =>
         have HR2 : Hid (r = 3) := HR.out.trans (by simp [hk])
         clear HR
         go_wp2
         go_ret
         exact ⟨by rw [HR2.out]; rfl, hB3⟩
        | true =>
         by_cases h4 : 400 < n'
         ·have h4i : (400 : Int) < (n' : Int) := by omega
          have HR2 : Hid (r = 2) := HR.out.trans (by simp [hk, h4])
          clear HR
          go_wp2
          go_ret
          exact ⟨by rw [HR2.out]; rfl, hB3⟩
         ·have h4i : ¬ (400 : Int) < (n' : Int) := by omega
          have HR2 : Hid (r = 0) := HR.out.trans (by simp [hk, h4])
          clear HR
          go_wp2
          go_ret
          exact ⟨by rw [HR2.out]; rfl, hB3⟩
     ·skip
      go_wp2_with fail
      refine (HFL _).mono ?_
      rintro e w4 ⟨rfl, rfl⟩
      cases bf with
      | false =>
       have HR2 : Hid (r = 3) := HR.out.trans (by simp [hk])
       clear HR
       go_wp2
       go_ret
       exact ⟨by rw [HR2.out]; rfl, hB3⟩
      | true =>
       go_wp2_with fail
       refine (HD _).mono ?_
       rintro e w4 ⟨rfl, rfl⟩
       cases bd with
       | false =>
        have HR2 : Hid (r = 3) := HR.out.trans (by simp [hk])
        clear HR
        go_wp2
        go_ret
        exact ⟨by rw [HR2.out]; rfl, hB3⟩
       | true =>
        by_cases h4 : 400 < n'
        ·have h4i : (400 : Int) < (n' : Int) := by omega
         have HR2 : Hid (r = 2) := HR.out.trans (by simp [hk, h4])
         clear HR
         go_wp2
         go_ret
         exact ⟨by rw [HR2.out]; rfl, hB3⟩
        ·have h4i : ¬ (400 : Int) < (n' : Int) := by omega
         have HR2 : Hid (r = 0) := HR.out.trans (by simp [hk, h4])
         clear HR
         go_wp2
         go_ret
         exact ⟨by rw [HR2.out]; rfl, hB3⟩
end Go.Proofs.YtdcgihcjiiemdaaDoor
