/- The fault of an op: the program's side; no conditions beyond those that each fact names. -/
import Derived.Test.YtdcgihcjiiemdaaDoorSmnToOfm
import Derived.Test.YtdcgihcjiiemdaaDoorDotToOsb
namespace Go.Proofs.YtdcgihcjiiemdaaDoor
open Go.RowKit
theorem isEmp_size (t : ByteArray) : (!t.toList.isEmpty) = decide (t.size ≠ 0) := by
 rw [ByteArray.toList_eq]
 obtain ⟨⟨l⟩⟩ := t
 cases l
 ·rfl
 ·exact (decide_eq_true (Nat.succ_ne_zero _)).symm
theorem ixB (l : List Bool) (_ : l.length = 6) (j : Nat) (hj : j < 6) (w : World) : (Instr.index 101 (.agg #[.bool (l.getD 0 false), .bool (l.getD 1 false), .bool (l.getD 2 false), .bool (l.getD 3 false), .bool (l.getD 4 false), .bool (l.getD 5 false)]) (.int .i64 (j : Int))).run Tryd.prog w = .ok (.bool (l.getD j false)) w := by
 obtain rfl | rfl | rfl | rfl | rfl | rfl : j = 0 ∨ j = 1 ∨ j = 2 ∨ j = 3 ∨ j = 4 ∨ j = 5 := by omega
 all_goals simp [Instr.index, go_sem]
theorem bitUp_or : ∀ (p0 p1 p2 p3 p4 p5 : Bool) (j : Nat), j < 6 → [p0, p1, p2, p3, p4, p5].getD j false = true → Go.bits BinOp.or IntKind.i64 (bitUp [p0, p1, p2, p3, p4, p5] j) (wrap64 ((2 : Int) ^ j)) = bitUp [p0, p1, p2, p3, p4, p5] (j + 1) := by decide +kernel
theorem bitUp_no : ∀ (p0 p1 p2 p3 p4 p5 : Bool) (j : Nat), j < 6 → [p0, p1, p2, p3, p4, p5].getD j false = false → bitUp [p0, p1, p2, p3, p4, p5] j = bitUp [p0, p1, p2, p3, p4, p5] (j + 1) := by decide +kernel
set_option maxHeartbeats 1600000 in
set_option maxRecDepth 100000 in
theorem bitsOf_any (o : OpR) (p : SlO) {lo : Nat} (w : World) (hs : IsOp lo w p o) :
  Calls Tryd.prog 59 #[opX o p] w fun e w' => e = .returned (.int .i64 (bitZ (h0B o) (h1B o) (h2B o) (h3B o) (h4B o) (h5B o))) ∧ Below w.heap.size w w' := by
 have hu := hs.1.1
 have hb := hs.2.1
 rw [← bitUp_all]
 obtain ⟨⟨a, n, cap⟩, ⟨a', n', cap'⟩⟩ := p
 obtain ⟨ok0, ox0, ot0, ou0, om0, of0, od0, ob0⟩ := o
 dsimp only at hu hb
 have HE : Hid (((!ot0.toList.isEmpty) = h0B ⟨ok0, ox0, ot0, ou0, om0, of0, od0, ob0⟩ ∧ decide (0 < n) = h1B ⟨ok0, ox0, ot0, ou0, om0, of0, od0, ob0⟩ ∧ (om0 != 0) = h2B ⟨ok0, ox0, ot0, ou0, om0, of0, od0, ob0⟩) ∧ (of0 != 0) = h3B ⟨ok0, ox0, ot0, ou0, om0, of0, od0, ob0⟩ ∧ (od0 != 0) = h4B ⟨ok0, ox0, ot0, ou0, om0, of0, od0, ob0⟩ ∧ decide (0 < n') = h5B ⟨ok0, ox0, ot0, ou0, om0, of0, od0, ob0⟩) := by
  refine ⟨⟨?_, ?_, ?_⟩, ?_, ?_, ?_⟩
  ·unfold h0B; exact isEmp_size ot0
  ·unfold h1B; rw [hu]; simp [Nat.pos_iff_ne_zero]
  ·unfold h2B; simp [bne, BEq.beq]
  ·unfold h3B; simp [bne, BEq.beq]
  ·unfold h4B; simp [bne, BEq.beq]
  ·unfold h5B; rw [hb]; simp [Nat.pos_iff_ne_zero]
 generalize h0B ⟨ok0, ox0, ot0, ou0, om0, of0, od0, ob0⟩ = p0 at *
 generalize h1B ⟨ok0, ox0, ot0, ou0, om0, of0, od0, ob0⟩ = p1 at *
 generalize h2B ⟨ok0, ox0, ot0, ou0, om0, of0, od0, ob0⟩ = p2 at *
 generalize h3B ⟨ok0, ox0, ot0, ou0, om0, of0, od0, ob0⟩ = p3 at *
 generalize h4B ⟨ok0, ox0, ot0, ou0, om0, of0, od0, ob0⟩ = p4 at *
 generalize h5B ⟨ok0, ox0, ot0, ou0, om0, of0, od0, ob0⟩ = p5 at *
 have HO : Hid (∀ j : Nat, j < 6 → [p0, p1, p2, p3, p4, p5].getD j false = true → Go.bits BinOp.or IntKind.i64 (bitUp [p0, p1, p2, p3, p4, p5] j) (wrap64 ((2 : Int) ^ j)) = bitUp [p0, p1, p2, p3, p4, p5] (j + 1)) := bitUp_or p0 p1 p2 p3 p4 p5
 have HN : Hid (∀ j : Nat, j < 6 → [p0, p1, p2, p3, p4, p5].getD j false = false → bitUp [p0, p1, p2, p3, p4, p5] j = bitUp [p0, p1, p2, p3, p4, p5] (j + 1)) := bitUp_no p0 p1 p2 p3 p4 p5
 have HX : Hid (∀ j : Nat, j < 6 → ∀ w : World, (Instr.index 101 (.agg #[.bool p0, .bool p1, .bool p2, .bool p3, .bool p4, .bool p5]) (.int .i64 (j : Int))).run Tryd.prog w = .ok (.bool ([p0, p1, p2, p3, p4, p5].getD j false)) w) := fun j hj w => ixB [p0, p1, p2, p3, p4, p5] rfl j hj w
 have HZ : Hid (bitUp [p0, p1, p2, p3, p4, p5] 0 = 0) := rfl
 generalize [p0, p1, p2, p3, p4, p5] = pl at *
 have hb0 : Below w.heap.size w (w.alloc (.cells #[.int .i64 ok0, .string ox0, .string ot0, slW (a, n, cap), .int .i64 om0, .int .i64 of0, .int .i64 od0, slW (a', n', cap')] 27)) := (Below.refl _ _).alloc (Nat.le_refl _) _
 generalize hR : bitUp pl 6 = r at *
 go_enter Tryd.func59, Tryd.ntmps59
 go_wp2
 obtain ⟨⟨E0, E1, E2⟩, E3, E4, E5⟩ := HE.out
 rw [E0, E1, E2, E3, E4, E5]
 clear E0 E1 E2 E3 E4 E5 HE hs hu hb
 generalize (w.alloc (.cells #[.int .i64 ok0, .string ox0, .string ot0, slW (a, n, cap), .int .i64 om0, .int .i64 of0, .int .i64 od0, slW (a', n', cap')] 27)) = W at *
 go_loopw [3, 27, 4, 5] (fun q i _ _ wr => ∃ k : Nat, k ≤ 6 ∧ i = .int .i64 k ∧ q = .int .i64 (bitUp pl k) ∧ Below w.heap.size w wr) (fun _ i _ _ _ => 6 - (intOf i).toNat)
 case atStart => exact ⟨0, Nat.zero_le _, rfl, by rw [HZ.out], hb0⟩
 case round =>
  obtain ⟨k, hk, rfl, rfl, hbel⟩ := hrel
  by_cases hk6 : k < 6
  ·have hki : (k : Int) < 6 := by omega
   have hIx := HX.out k hk6 wr
   have h1 := HO.out k hk6
   have h2 := HN.out k hk6
   clear HX HO HN HZ
   generalize pl.getD k false = b at *
   cases b with
   | true =>
    have h1 := h1 rfl
    clear h2
    generalize hq : bitUp pl k = q at *
    generalize hq' : bitUp pl (k + 1) = q' at *
    have HQ : Hid (bitUp pl (k + 1) = q') := hq'
    clear hq hq'
    go_wp2
    go_roundw
    case rel => exact ⟨k + 1, by omega, by go_num, by rw [HQ.out], hbel⟩
    case measure => simp [intOf]; omega
   | false =>
    have HQ : Hid (bitUp pl k = bitUp pl (k + 1)) := h2 rfl
    clear h1 h2
    go_wp2
    go_roundw
    case rel => exact ⟨k + 1, by omega, by go_num, by rw [HQ.out], hbel⟩
    case measure => simp [intOf]; omega
  ·obtain rfl : k = 6 := by omega
   have HQ : Hid (bitUp pl 6 = r) := hR
   clear hR
   go_wp2
   go_ret
   exact ⟨by rw [HQ.out]; rfl, hbel⟩
theorem riU_cons (a x : Int) (l : List Int) : riU a (x :: l) = (bt x (a + 1) 999 && riU x l) := rfl
theorem riU_bad {a x : Int} {l : List Int} (h : bt x (a + 1) 999 = false) : riU a (x :: l) = false := by rw [riU_cons, h]; rfl
theorem riU_ok {a x : Int} {l : List Int} (h : bt x (a + 1) 999 = true) : riU a (x :: l) = riU x l := by rw [riU_cons, h]; rfl
set_option maxHeartbeats 1600000 in
set_option maxRecDepth 100000 in
theorem doRise_u (s : SlQ) (l : List Int) {lo : Nat} (w : World) (hs : IsIl lo w s l) :
  Calls Tryd.prog 82 #[slW s, .int .i64 999] w fun e w' => e = .returned (.bool (riU 0 l)) ∧ w = w' := by
 obtain ⟨a, n, cap⟩ := s
 obtain ⟨hl, hnc, hcm, hr, -⟩ := hs
 dsimp only [slW] at *
 unfold maxLen at hcm
 have HL : Hid (l.length = n) := hl
 have HD : Hid (riU 0 (l.drop 0) = riU 0 l) := by show _ = _; rw [List.drop_zero]
 generalize riU 0 l = r at *
 clear hl
 go_enter Tryd.func82, Tryd.ntmps82
 go_wp2
 go_loop [5, 10, 7] (fun q v _ => ∃ (k : Nat) (x : Int), k ≤ n ∧ v = .int .i64 k ∧ q = .int .i64 x ∧ 0 ≤ x ∧ x ≤ 999 ∧ riU x (l.drop k) = r) (fun _ v _ => n - (intOf v).toNat)
 case atStart => exact ⟨0, 0, Nat.zero_le _, rfl, rfl, by omega, by omega, HD.out⟩
 case round =>
  obtain ⟨k, x, hk, rfl, rfl, hx0, hx1, hR⟩ := hrel
  by_cases hkn : k < n
  ·have hki : (k : Int) < (n : Int) := by omega
   have hkl : k < l.length := by have := HL.out; omega
   obtain ⟨b, off, rfl, -, hcell⟩ := hr.at_ (by omega)
   have hc := hcell k hkl
   rw [drop_consI l k hkl] at hR
   have HR : Hid (riU x (nthI l k :: l.drop (k + 1)) = r) := hR
   clear hR hcell hr
   generalize nthI l k = y at *
   have HC := isBetween_bt y (x + 1) 999
   cases hb : bt y (x + 1) 999 with
   | false =>
    have HM : Hid (r = false) := HR.out.symm.trans (riU_bad hb)
    rw [hb] at HC
    clear HR hb
    go_wp2_with fail
    refine (HC _).mono ?_
    rintro e w' ⟨rfl, rfl⟩
    go_wp2
    go_ret
    exact ⟨by rw [HM.out]; rfl, rfl⟩
   | true =>
    have HM : Hid (riU y (l.drop (k + 1)) = r ∧ 0 ≤ y ∧ y ≤ 999) := ⟨(riU_ok hb).symm.trans HR.out, by have := of_decide_eq_true hb; omega, by have := of_decide_eq_true hb; omega⟩
    rw [hb] at HC
    clear HR hb
    go_wp2_with fail
    refine (HC _).mono ?_
    rintro e w' ⟨rfl, rfl⟩
    go_wp2
    go_round
    case rel => exact ⟨k + 1, y, by omega, by go_num, by trivial, HM.out.2.1, HM.out.2.2, HM.out.1⟩
    case measure => simp [intOf]; omega
  ·have hki : ¬ (k : Int) < (n : Int) := by omega
   have HM : Hid (r = true) := by
    have h := hR
    rw [List.drop_eq_nil_of_le (by have := HL.out; omega)] at h
    exact h.symm
   clear hR
   go_wp2
   go_ret
   exact ⟨by rw [HM.out]; rfl, rfl⟩
theorem areUids_any (s : SlQ) (l : List Int) {lo : Nat} (w : World) (hs : IsIl lo w s l) :
  Calls Tryd.prog 74 #[slW s] w fun e w' => e = .returned (.bool (riU 0 l)) ∧ w = w' := by
 have H : Hid (_) := doRise_u s l w hs
 obtain ⟨a, n, cap⟩ := s
 dsimp only [slW] at *
 go_enter Tryd.func74, Tryd.ntmps74
 go_wp2_with fail
 refine Calls.mono H.out ?_
 rintro e w1 ⟨rfl, rfl⟩
 go_wp2
 go_ret
 exact ⟨rfl, rfl⟩
set_option maxHeartbeats 1600000 in
set_option maxRecDepth 100000 in
theorem hasBounds_any (o : OpR) (p : SlO) {lo : Nat} (w : World) (hs : IsOp lo w p o) :
  Calls Tryd.prog 61 #[opX o p] w fun e w' => e = .returned (.bool (rgV o)) ∧ Below w.heap.size w w' := by
 have hb0 : Below w.heap.size w (w.alloc (.cells #[.int .i64 o.k, .string o.x, .string o.t, slW p.1, .int .i64 o.m, .int .i64 o.f, .int .i64 o.d, slW p.2] 27)) := (Below.refl _ _).alloc (Nat.le_refl _) _
 have HU := areUids_any p.1 o.u _ (hs.1.below hb0)
 have HM := isBetween_bt o.m 1 3
 have HD := isBetween_bt o.d 0 9999
 have HF := areFlags_bt o.f
 have HV : Hid (rgV o = (riU 0 o.u && (!decide (o.k = 4) || bt o.m 1 3) && bt o.f 0 15 && bt o.d 0 9999)) := rfl
 generalize rgV o = r at *
 generalize riU 0 o.u = bu at *
 generalize bt o.m 1 3 = bm at *
 generalize bt o.f 0 15 = bf at *
 generalize bt o.d 0 9999 = bd at *
 clear hs
 by_cases hk : o.k = 4
 ·rw [hk] at hb0 HU
  cases bm with
  | false =>
   have HR : Hid (r = false) := HV.out.trans (by simp [hk])
   clear HV
   go_enter Tryd.func61, Tryd.ntmps61
   go_wp2_with fail
   refine (HM _).mono ?_
   rintro e w' ⟨rfl, rfl⟩
   go_wp2
   go_ret
   exact ⟨by rw [HR.out]; rfl, hb0⟩
  | true =>
   have HR : Hid (r = (bu && bf && bd)) := HV.out.trans (by simp [hk])
   clear HV
   go_enter Tryd.func61, Tryd.ntmps61
   go_wp2_with fail
   refine (HM _).mono ?_
   rintro e w' ⟨rfl, rfl⟩
   go_wp2_with fail
   refine HU.mono ?_
   rintro e w' ⟨rfl, rfl⟩
   cases bu with
   | false =>
    go_wp2
    go_ret
    exact ⟨by rw [HR.out]; rfl, hb0⟩
   | true =>
    cases bf with
    | false =>
     go_wp2_with fail
     refine (HF _).mono ?_
     rintro e w' ⟨rfl, rfl⟩
     go_wp2
     go_ret
     exact ⟨by rw [HR.out]; rfl, hb0⟩
    | true =>
     go_wp2_with fail
     refine (HF _).mono ?_
     rintro e w' ⟨rfl, rfl⟩
     go_wp2_with fail
     refine (HD _).mono ?_
     rintro e w' ⟨rfl, rfl⟩
     go_wp2
     go_ret
     exact ⟨by rw [HR.out]; cases bd <;> rfl, hb0⟩
 ·have HR : Hid (r = (bu && bf && bd)) := HV.out.trans (by simp [hk])
  clear HV
  go_enter Tryd.func61, Tryd.ntmps61
  go_wp2_with fail
  refine HU.mono ?_
  rintro e w' ⟨rfl, rfl⟩
  cases bu with
  | false =>
   go_wp2
   go_ret
   exact ⟨by rw [HR.out]; rfl, hb0⟩
  | true =>
   cases bf with
   | false =>
    go_wp2_with fail
    refine (HF _).mono ?_
    rintro e w' ⟨rfl, rfl⟩
    go_wp2
    go_ret
    exact ⟨by rw [HR.out]; rfl, hb0⟩
   | true =>
    go_wp2_with fail
    refine (HF _).mono ?_
    rintro e w' ⟨rfl, rfl⟩
    go_wp2_with fail
    refine (HD _).mono ?_
    rintro e w' ⟨rfl, rfl⟩
    go_wp2
    go_ret
    exact ⟨by rw [HR.out]; cases bd <;> rfl, hb0⟩
end Go.Proofs.YtdcgihcjiiemdaaDoor
