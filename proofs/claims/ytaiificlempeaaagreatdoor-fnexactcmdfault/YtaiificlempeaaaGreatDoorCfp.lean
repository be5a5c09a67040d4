/- What a command has and what its kind may have: the program's toldIn and mayBeTold; no conditions beyond those that each fact names. -/
import Derived.Test.YtaiificlempeaaaGreatDoorCmuToCfo
namespace Go.Proofs.YtaiificlempeaaaGreatDoor
open Go.RowKit

def t0B (o : CmR) : Bool := decide (o.n.size ≠ 0)
def t1B (o : CmR) : Bool := decide (o.y.length ≠ 0)
def t2B (o : CmR) : Bool := decide (o.m ≠ 0)
def t3B (o : CmR) : Bool := decide (o.f ≠ 0)
def t4B (o : CmR) : Bool := decide (o.d ≠ 0)
def t5B (o : CmR) : Bool := decide (o.b.length ≠ 0)
def t6B (o : CmR) : Bool := decide (o.h ≠ 0)
def t7B (o : CmR) : Bool := decide (o.p.length ≠ 0)
def t8B (o : CmR) : Bool := decide (o.e ≠ 0)
def t9B (o : CmR) : Bool := o.r
def t10B (o : CmR) : Bool := decide (o.u.length ≠ 0)
def t11B (o : CmR) : Bool := decide (o.c ≠ 0)
/-- What a command has, a bit each. -/
def tbC (o : CmR) : List Bool := [t0B o, t1B o, t2B o, t3B o, t4B o, t5B o, t6B o, t7B o, t8B o, t9B o, t10B o, t11B o]
theorem isEmpC (t : ByteArray) : (!t.toList.isEmpty) = decide (t.size ≠ 0) := by
  rw [ByteArray.toList_eq]
  obtain ⟨⟨l⟩⟩ := t
  cases l
  · rfl
  · exact (decide_eq_true (Nat.succ_ne_zero _)).symm
theorem ixC (l : List Bool) (j : Nat) (hj : j < 12) (w : World) : (Instr.index 100 (.agg #[.bool (l.getD 0 false), .bool (l.getD 1 false), .bool (l.getD 2 false), .bool (l.getD 3 false), .bool (l.getD 4 false), .bool (l.getD 5 false), .bool (l.getD 6 false), .bool (l.getD 7 false), .bool (l.getD 8 false), .bool (l.getD 9 false), .bool (l.getD 10 false), .bool (l.getD 11 false)]) (.int .i64 (j : Int))).run Tryz.prog w = .ok (.bool (l.getD j false)) w := by
  obtain rfl | rfl | rfl | rfl | rfl | rfl | rfl | rfl | rfl | rfl | rfl | rfl : j = 0 ∨ j = 1 ∨ j = 2 ∨ j = 3 ∨ j = 4 ∨ j = 5 ∨ j = 6 ∨ j = 7 ∨ j = 8 ∨ j = 9 ∨ j = 10 ∨ j = 11 := by omega
  all_goals simp [Instr.index, go_sem]

set_option maxHeartbeats 1600000 in
set_option maxRecDepth 100000 in
theorem toldIn_any (o : CmR) (p : SlC) {lo : Nat} (w : World) (hs : IsCm lo w p o) :
    Calls Tryz.prog 39 #[cmX o p] w fun e w' => e = .returned (.int .i64 (bUp (tbC o) 12 : Int)) ∧ Below w.heap.size w w' := by
  have hl1 := hs.1.1
  have hl2 := hs.2.1.1
  have hl3 := hs.2.2.1.1
  have hl4 := hs.2.2.2.1
  clear hs
  obtain ⟨⟨a1, n1, c1⟩, ⟨a2, n2, c2⟩, ⟨a3, n3, c3⟩, ⟨a4, n4, c4⟩⟩ := p
  obtain ⟨xt, xk, xn, xy, xm, xf, xd, xb, xh, xp, xe, xr, xu, xc⟩ := o
  dsimp only at hl1 hl2 hl3 hl4
  have HE : Hid ((!xn.toList.isEmpty) = t0B ⟨xt, xk, xn, xy, xm, xf, xd, xb, xh, xp, xe, xr, xu, xc⟩ ∧ decide (0 < n1) = t1B ⟨xt, xk, xn, xy, xm, xf, xd, xb, xh, xp, xe, xr, xu, xc⟩ ∧ (xm != 0) = t2B ⟨xt, xk, xn, xy, xm, xf, xd, xb, xh, xp, xe, xr, xu, xc⟩ ∧ (xf != 0) = t3B ⟨xt, xk, xn, xy, xm, xf, xd, xb, xh, xp, xe, xr, xu, xc⟩ ∧ (xd != 0) = t4B ⟨xt, xk, xn, xy, xm, xf, xd, xb, xh, xp, xe, xr, xu, xc⟩ ∧ decide (0 < n2) = t5B ⟨xt, xk, xn, xy, xm, xf, xd, xb, xh, xp, xe, xr, xu, xc⟩ ∧ (xh != 0) = t6B ⟨xt, xk, xn, xy, xm, xf, xd, xb, xh, xp, xe, xr, xu, xc⟩ ∧ decide (0 < n3) = t7B ⟨xt, xk, xn, xy, xm, xf, xd, xb, xh, xp, xe, xr, xu, xc⟩ ∧ (xe != 0) = t8B ⟨xt, xk, xn, xy, xm, xf, xd, xb, xh, xp, xe, xr, xu, xc⟩ ∧ decide (0 < n4) = t10B ⟨xt, xk, xn, xy, xm, xf, xd, xb, xh, xp, xe, xr, xu, xc⟩ ∧ (xc != 0) = t11B ⟨xt, xk, xn, xy, xm, xf, xd, xb, xh, xp, xe, xr, xu, xc⟩) := ⟨(by unfold t0B; exact isEmpC xn), (by unfold t1B; rw [hl1]; simp [Nat.pos_iff_ne_zero]), (by unfold t2B; simp [bne, BEq.beq]), (by unfold t3B; simp [bne, BEq.beq]), (by unfold t4B; simp [bne, BEq.beq]), (by unfold t5B; rw [hl2]; simp [Nat.pos_iff_ne_zero]), (by unfold t6B; simp [bne, BEq.beq]), (by unfold t7B; rw [hl3]; simp [Nat.pos_iff_ne_zero]), (by unfold t8B; simp [bne, BEq.beq]), (by unfold t10B; rw [hl4]; simp [Nat.pos_iff_ne_zero]), (by unfold t11B; simp [bne, BEq.beq])⟩
  have H9 : t9B ⟨xt, xk, xn, xy, xm, xf, xd, xb, xh, xp, xe, xr, xu, xc⟩ = xr := rfl
  unfold tbC
  generalize t0B ⟨xt, xk, xn, xy, xm, xf, xd, xb, xh, xp, xe, xr, xu, xc⟩ = p0 at *
  generalize t1B ⟨xt, xk, xn, xy, xm, xf, xd, xb, xh, xp, xe, xr, xu, xc⟩ = p1 at *
  generalize t2B ⟨xt, xk, xn, xy, xm, xf, xd, xb, xh, xp, xe, xr, xu, xc⟩ = p2 at *
  generalize t3B ⟨xt, xk, xn, xy, xm, xf, xd, xb, xh, xp, xe, xr, xu, xc⟩ = p3 at *
  generalize t4B ⟨xt, xk, xn, xy, xm, xf, xd, xb, xh, xp, xe, xr, xu, xc⟩ = p4 at *
  generalize t5B ⟨xt, xk, xn, xy, xm, xf, xd, xb, xh, xp, xe, xr, xu, xc⟩ = p5 at *
  generalize t6B ⟨xt, xk, xn, xy, xm, xf, xd, xb, xh, xp, xe, xr, xu, xc⟩ = p6 at *
  generalize t7B ⟨xt, xk, xn, xy, xm, xf, xd, xb, xh, xp, xe, xr, xu, xc⟩ = p7 at *
  generalize t8B ⟨xt, xk, xn, xy, xm, xf, xd, xb, xh, xp, xe, xr, xu, xc⟩ = p8 at *
  rw [H9]
  generalize t10B ⟨xt, xk, xn, xy, xm, xf, xd, xb, xh, xp, xe, xr, xu, xc⟩ = p10 at *
  generalize t11B ⟨xt, xk, xn, xy, xm, xf, xd, xb, xh, xp, xe, xr, xu, xc⟩ = p11 at *
  have HO : Hid (∀ j : Nat, j < 12 → ([p0, p1, p2, p3, p4, p5, p6, p7, p8, xr, p10, p11]).getD j false = true → Go.bits BinOp.or IntKind.i64 (bUp [p0, p1, p2, p3, p4, p5, p6, p7, p8, xr, p10, p11] j : Int) (wrap64 ((2 : Int) ^ j)) = ((bUp [p0, p1, p2, p3, p4, p5, p6, p7, p8, xr, p10, p11] (j + 1) : Nat) : Int)) := fun j hj h => bUp_or _ j hj h
  have HN : Hid (∀ j : Nat, j < 12 → ([p0, p1, p2, p3, p4, p5, p6, p7, p8, xr, p10, p11]).getD j false = false → bUp [p0, p1, p2, p3, p4, p5, p6, p7, p8, xr, p10, p11] j = bUp [p0, p1, p2, p3, p4, p5, p6, p7, p8, xr, p10, p11] (j + 1)) := fun j _ h => bUp_no _ j h
  have HX : Hid (∀ j : Nat, j < 12 → ∀ w : World, (Instr.index 100 (.agg #[.bool p0, .bool p1, .bool p2, .bool p3, .bool p4, .bool p5, .bool p6, .bool p7, .bool p8, .bool xr, .bool p10, .bool p11]) (.int .i64 (j : Int))).run Tryz.prog w = .ok (.bool (([p0, p1, p2, p3, p4, p5, p6, p7, p8, xr, p10, p11]).getD j false)) w) := fun j hj w => ixC [p0, p1, p2, p3, p4, p5, p6, p7, p8, xr, p10, p11] j hj w
  have HZ : Hid (bUp [p0, p1, p2, p3, p4, p5, p6, p7, p8, xr, p10, p11] 0 = 0) := rfl
  generalize [p0, p1, p2, p3, p4, p5, p6, p7, p8, xr, p10, p11] = pl at *
  have hb0 : Below w.heap.size w (w.alloc (.cells #[.string xt, .int .i64 xk, .string xn, slW (a1, n1, c1), .int .i64 xm, .int .i64 xf, .int .i64 xd, slW (a2, n2, c2), .int .i64 xh, slW (a3, n3, c3), .int .i64 xe, .bool xr, slW (a4, n4, c4), .int .i64 xc] 33)) := (Below.refl _ _).alloc (Nat.le_refl _) _
  generalize hR : bUp pl 12 = r at *
  clear H9
  go_enter Tryz.func39, Tryz.ntmps39
  go_wp2
  obtain ⟨E0, E1, E2, E3, E4, E5, E6, E7, E8, E10, E11⟩ := HE.out
  rw [E0, E1, E2, E3, E4, E5, E6, E7, E8, E10, E11]
  clear E0 E1 E2 E3 E4 E5 E6 E7 E8 E10 E11 HE hl1 hl2 hl3 hl4
  generalize (w.alloc (.cells #[.string xt, .int .i64 xk, .string xn, slW (a1, n1, c1), .int .i64 xm, .int .i64 xf, .int .i64 xd, slW (a2, n2, c2), .int .i64 xh, slW (a3, n3, c3), .int .i64 xe, .bool xr, slW (a4, n4, c4), .int .i64 xc] 33)) = W at *
  go_loopw [3, 46, 4, 5] (fun q i _ _ wr => ∃ k : Nat, k ≤ 12 ∧ i = .int .i64 k ∧ q = .int .i64 (bUp pl k : Int) ∧ Below w.heap.size w wr) (fun _ i _ _ _ => 12 - (intOf i).toNat)
  case atStart => exact ⟨0, Nat.zero_le _, rfl, by rw [HZ.out]; rfl, hb0⟩
  case round =>
    obtain ⟨k, hk, rfl, rfl, hbel⟩ := hrel
    by_cases hk6 : k < 12
    · have hki : (k : Int) < 12 := by omega
      have hIx := HX.out k hk6 wr
      have h1 := HO.out k hk6
      have h2 := HN.out k hk6
      clear HX HO HN HZ
      generalize pl.getD k false = b at *
      cases b with
      | true =>
        have h1 := h1 rfl
        clear h2
        generalize hq : (bUp pl k : Int) = q at *
        generalize hq' : ((bUp pl (k + 1) : Nat) : Int) = q' at *
        have HQ : Hid (((bUp pl (k + 1) : Nat) : Int) = q') := hq'
        clear hq hq'
        go_wp2
        go_roundw
        case rel => exact ⟨k + 1, by omega, by go_num, by rw [HQ.out], hbel⟩
        case measure => simp [intOf]; omega
      | false =>
        have HQ : Hid (bUp pl k = bUp pl (k + 1)) := h2 rfl
        clear h1 h2
        go_wp2
        go_roundw
        case rel => exact ⟨k + 1, by omega, by go_num, by rw [HQ.out], hbel⟩
        case measure => simp [intOf]; omega
    · obtain rfl : k = 12 := by omega
      have HQ : Hid (bUp pl 12 = r) := hR
      clear hR
      go_wp2
      go_ret
      exact ⟨by rw [HQ.out]; rfl, hbel⟩

/-- NOTHING IS TOLD that the kind has not, and the kind is one. -/
def ptK (h : Int) : Bool := bt h 3 5
def fmC (o : CmR) : Bool := (bt o.k 1 14 && ((nmK o.k || !decide (o.n.size ≠ 0)) && (rgK o.k || !decide (o.y.length ≠ 0))) && ((decide (o.k = 7) || (!decide (o.m ≠ 0) && (decide (o.k = 6) || !decide (o.f ≠ 0)))) && (((decide (o.k = 6) || (!decide (o.d ≠ 0) && !decide (o.b.length ≠ 0))) && (decide (o.k = 11) || !decide (o.h ≠ 0))) && (((ptK o.h || !decide (o.p.length ≠ 0)) && (decide (o.k = 13) || (!decide (o.e ≠ 0) && !o.r))) && ((tmK o.k || !decide (o.u.length ≠ 0)) && (decide (o.k = 14) || !decide (o.c ≠ 0)))))))

/-- THE TABLE LIES IN ITS VARIABLE. -/
def TabN (w : World) : Prop := ∀ v, v < 15 → w.cell? ⟨0, v, none⟩ = some (.int .i64 (ktK v))
theorem TabN.below {w w' : World} (h : TabN w) (hb : Below w.heap.size w w') : TabN w' := fun v hv =>
  (hb.cell (p := ⟨0, v, none⟩) (World.block_lt_of_cell? w ⟨0, 0, none⟩ (h 0 (by decide)))).trans (h v hv)

set_option maxHeartbeats 1600000 in
set_option maxRecDepth 100000 in
theorem hasPath_any (h : Int) (w : World) : Calls Tryz.prog 62 #[.int .i64 h] w fun e w' => e = .returned (.bool (ptK h)) ∧ w = w' := by
  go_enter Tryz.func62, Tryz.ntmps62
  go_wp2_with fail
  refine (isBetween_bt _ _ _ _).mono ?_
  rintro e w1 ⟨rfl, rfl⟩
  go_wp2
  go_ret
  exact ⟨rfl, rfl⟩

set_option maxHeartbeats 1600000 in
set_option maxRecDepth 100000 in
theorem mayBeTold_any (o : CmR) (p : SlC) (k : Nat) (w : World) (hk : o.k = (k : Int)) (hk0 : k < 15) (hT : TabN w) :
    Calls Tryz.prog 40 #[cmX o p] w fun e w' => e = .returned (.int .i64 (myK k (ptK o.h))) ∧ Below w.heap.size w w' := by
  obtain ⟨xt, xk, xn, xy, xm, xf, xd, xb, xh, xp, xe, xr, xu, xc⟩ := o
  dsimp only at hk
  subst hk
  have hb0 : Below w.heap.size w (w.alloc (.cells #[.string xt, .int .i64 (k : Int), .string xn, slW p.1, .int .i64 xm, .int .i64 xf, .int .i64 xd, slW p.2.1, .int .i64 xh, slW p.2.2.1, .int .i64 xe, .bool xr, slW p.2.2.2, .int .i64 xc] 33)) := (Below.refl _ _).alloc (Nat.le_refl _) _
  have hc := (hT.below hb0) k hk0
  have h128 := or_128
  clear hT
  by_cases h11 : k = 11
  · subst h11
    rw [show ((11 : Nat) : Int) = 11 from rfl] at *
    have HV : Hid (myK 11 (ptK xh) = if ptK xh then 194 else 66) := if_pos rfl
    have HC := hasPath_any xh (w.alloc (.cells #[.string xt, .int .i64 11, .string xn, slW p.1, .int .i64 xm, .int .i64 xf, .int .i64 xd, slW p.2.1, .int .i64 xh, slW p.2.2.1, .int .i64 xe, .bool xr, slW p.2.2.2, .int .i64 xc] 33))
    generalize ptK xh = b at *
    have h66 : ktK 11 = 66 := rfl
    generalize ktK 11 = t11 at *
    go_enter Tryz.func40, Tryz.ntmps40
    go_wp2_with fail
    refine HC.mono ?_
    rintro e w1 ⟨rfl, rfl⟩
    cases b with
    | true =>
      rw [if_pos rfl] at HV
      clear h66
      go_wp2
      go_ret
      exact ⟨by rw [HV.out]; rfl, hb0⟩
    | false =>
      rw [if_neg (by simp)] at HV
      go_wp2
      go_ret
      exact ⟨by rw [HV.out]; rw [← h66]; rfl, hb0⟩
  · have HV : Hid (myK k (ptK xh) = ktK k) := if_neg h11
    have h11' : ¬ (k : Int) = 11 := by omega
    have hki : (k : Int) < 15 := by omega
    clear h128
    generalize ktK k = t at *
    go_enter Tryz.func40, Tryz.ntmps40
    go_wp2
    go_ret
    exact ⟨by rw [HV.out]; rfl, hb0⟩
end Go.Proofs.YtaiificlempeaaaGreatDoor
