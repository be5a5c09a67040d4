/- Whether two commands are the same: the program's side, a part of it; no conditions beyond those that each fact names. -/
import Derived.Test.YtaiificlempeaaaCmc
namespace Go.Proofs.Ytaiificlempeaaa
open Go.RowKit
set_option linter.unusedVariables false

set_option maxHeartbeats 3200000 in
set_option maxRecDepth 100000 in
theorem sameCmds_4 (xt zt : ByteArray) (xk zk : Int) (xn zn : ByteArray) (xy zy : List YgP) (xm zm : Int) (xf zf : Int) (xd zd : Int) (xb zb : List Nat) (xh zh : Int) (xp zp : List Int) (xe ze : Int) (xr zr : Bool) (xu zu : List TmR) (xc zc : Int) (p p' : SlC) {lo lo' : Nat} (w : World) (hs : IsCm lo w p ⟨xt, xk, xn, xy, xm, xf, xd, xb, xh, xp, xe, xr, xu, xc⟩) (hs' : IsCm lo' w p' ⟨zt, zk, zn, zy, zm, zf, zd, zb, zh, zp, ze, zr, zu, zc⟩) (kt : xt = zt) (kk : xk = zk) (kn : xn = zn) (ky : smY xy zy = true) (km : xm = zm) (kf : xf = zf) (kd : xd = zd) (kb : decide (str xb = str zb) = true) (kh : xh = zh) (kp : smU xp zp = true) :
    Calls Try.prog 8 #[cmX ⟨xt, xk, xn, xy, xm, xf, xd, xb, xh, xp, xe, xr, xu, xc⟩ p, cmX ⟨zt, zk, zn, zy, zm, zf, zd, zb, zh, zp, ze, zr, zu, zc⟩ p'] w fun e w' => e = .returned (.bool (smC ⟨xt, xk, xn, xy, xm, xf, xd, xb, xh, xp, xe, xr, xu, xc⟩ ⟨zt, zk, zn, zy, zm, zf, zd, zb, zh, zp, ze, zr, zu, zc⟩)) ∧ Below w.heap.size w w' := by
  have HV : Hid (smC ⟨xt, xk, xn, xy, xm, xf, xd, xb, xh, xp, xe, xr, xu, xc⟩ ⟨zt, zk, zn, zy, zm, zf, zd, zb, zh, zp, ze, zr, zu, zc⟩ = (decide (xt = zt) && (decide (xk = zk) && (decide (xn = zn) && (smY xy zy && (decide (xm = zm) && (decide (xf = zf) && (decide (xd = zd) && (decide (str xb = str zb) && (decide (xh = zh) && (smU xp zp && (decide (xe = ze) && (decide (xr = zr) && (smTs xu zu && decide (xc = zc))))))))))))))) := rfl
  generalize smC ⟨xt, xk, xn, xy, xm, xf, xd, xb, xh, xp, xe, xr, xu, xc⟩ ⟨zt, zk, zn, zy, zm, zf, zd, zb, zh, zp, ze, zr, zu, zc⟩ = r at *
  have hbW : Below w.heap.size w ((w.alloc (.cells #[.string xt, .int .i64 xk, .string xn, slW p.1, .int .i64 xm, .int .i64 xf, .int .i64 xd, slW p.2.1, .int .i64 xh, slW p.2.2.1, .int .i64 xe, .bool xr, slW p.2.2.2, .int .i64 xc] 33)).alloc (.cells #[.string zt, .int .i64 zk, .string zn, slW p'.1, .int .i64 zm, .int .i64 zf, .int .i64 zd, slW p'.2.1, .int .i64 zh, slW p'.2.2.1, .int .i64 ze, .bool zr, slW p'.2.2.2, .int .i64 zc] 33)) := ((Below.refl _ _).alloc (Nat.le_refl _) _).alloc (by simp) _
  have hQ := (Qm.new w (.string xt) (.int .i64 xk) (.string xn) (slW p.1) (.int .i64 xm) (.int .i64 xf) (.int .i64 xd) (slW p.2.1) (.int .i64 xh) (slW p.2.2.1) (.int .i64 xe) (.bool xr) (slW p.2.2.2) (.int .i64 xc) 33).below ((Below.refl _ _).alloc (Nat.le_refl _) (.cells #[.string zt, .int .i64 zk, .string zn, slW p'.1, .int .i64 zm, .int .i64 zf, .int .i64 zd, slW p'.2.1, .int .i64 zh, slW p'.2.2.1, .int .i64 ze, .bool zr, slW p'.2.2.2, .int .i64 zc] 33)) (by simp)
  have hQ' : Qm ((w.alloc (.cells #[.string xt, .int .i64 xk, .string xn, slW p.1, .int .i64 xm, .int .i64 xf, .int .i64 xd, slW p.2.1, .int .i64 xh, slW p.2.2.1, .int .i64 xe, .bool xr, slW p.2.2.2, .int .i64 xc] 33)).alloc (.cells #[.string zt, .int .i64 zk, .string zn, slW p'.1, .int .i64 zm, .int .i64 zf, .int .i64 zd, slW p'.2.1, .int .i64 zh, slW p'.2.2.1, .int .i64 ze, .bool zr, slW p'.2.2.2, .int .i64 zc] 33)) (w.heap.size + 1) ⟨.string zt, .int .i64 zk, .string zn, slW p'.1, .int .i64 zm, .int .i64 zf, .int .i64 zd, slW p'.2.1, .int .i64 zh, slW p'.2.2.1, .int .i64 ze, .bool zr, slW p'.2.2.2, .int .i64 zc⟩ := by
    have h := Qm.new (w.alloc (.cells #[.string xt, .int .i64 xk, .string xn, slW p.1, .int .i64 xm, .int .i64 xf, .int .i64 xd, slW p.2.1, .int .i64 xh, slW p.2.2.1, .int .i64 xe, .bool xr, slW p.2.2.2, .int .i64 xc] 33)) (.string zt) (.int .i64 zk) (.string zn) (slW p'.1) (.int .i64 zm) (.int .i64 zf) (.int .i64 zd) (slW p'.2.1) (.int .i64 zh) (slW p'.2.2.1) (.int .i64 ze) (.bool zr) (slW p'.2.2.2) (.int .i64 zc) 33
    simpa using h
  have hS : Hid (IsCm lo _ p _ ∧ IsCm lo' _ p' _) := ⟨hs.below hbW, hs'.below hbW⟩
  have hK : Hid (Qm _ _ _) := hQ
  have hK' : Hid (Qm _ _ _) := hQ'
  clear hs hs' hQ hQ'
  subst kt
  subst kk
  subst kn
  subst km
  subst kf
  subst kd
  subst kh
  go_enter Try.func8, Try.ntmps8
  have HC := equalY_any p.1 p'.1 xy zy _ hS.out.1.1 hS.out.2.1
  rw [ky] at HC
  go_wp2_with fail
  refine HC.mono ?_
  rintro e w1 ⟨rfl, hb⟩
  have hB1 := hbW.trans (hb.mono hbW.size)
  replace hS : Hid (IsCm lo _ p _ ∧ IsCm lo' _ p' _) := ⟨hS.out.1.below hb, hS.out.2.below hb⟩
  have hQ1 := hK.out.below hb hK.out.lt
  have hQ1' := hK'.out.below hb hK'.out.lt
  clear HC hK hK' hb hbW 
  have hK : Hid (Qm _ _ _) := hQ1
  have hK' : Hid (Qm _ _ _) := hQ1'
  obtain ⟨-, -, -, -, c4, c5, c6, c7, -, -, -, -, -, -⟩ := hQ1
  obtain ⟨-, -, -, -, d4, d5, d6, d7, -, -, -, -, -, -⟩ := hQ1'
  dsimp only at c4 d4 c5 d5 c6 d6 c7 d7
  have HC := bytesEqual_any p.2.1 p'.2.1 xb zb _ hS.out.1.2.1 hS.out.2.2.1
  rw [kb] at HC
  go_wp2_with fail
  refine HC.mono ?_
  rintro e w2 ⟨rfl, hb⟩
  have hB2 := hB1.trans (hb.mono hB1.size)
  replace hS : Hid (IsCm lo _ p _ ∧ IsCm lo' _ p' _) := ⟨hS.out.1.below hb, hS.out.2.below hb⟩
  have hQ1 := hK.out.below hb hK.out.lt
  have hQ1' := hK'.out.below hb hK'.out.lt
  clear HC hK hK' hb hB1 c4 d4 c5 d5 c6 d6 c7 d7
  have hK : Hid (Qm _ _ _) := hQ1
  have hK' : Hid (Qm _ _ _) := hQ1'
  obtain ⟨-, -, -, -, -, -, -, -, c8, c9, -, -, -, -⟩ := hQ1
  obtain ⟨-, -, -, -, -, -, -, -, d8, d9, -, -, -, -⟩ := hQ1'
  dsimp only at c8 d8 c9 d9
  have HC := equalI_any p.2.2.1 p'.2.2.1 xp zp _ hS.out.1.2.2.1 hS.out.2.2.2.1
  rw [kp] at HC
  go_wp2_with fail
  refine HC.mono ?_
  rintro e w3 ⟨rfl, hb⟩
  have hB3 := hB2.trans (hb.mono hB2.size)
  replace hS : Hid (IsCm lo _ p _ ∧ IsCm lo' _ p' _) := ⟨hS.out.1.below hb, hS.out.2.below hb⟩
  have hQ1 := hK.out.below hb hK.out.lt
  have hQ1' := hK'.out.below hb hK'.out.lt
  clear HC hK hK' hb hB2 c8 d8 c9 d9
  have hK : Hid (Qm _ _ _) := hQ1
  have hK' : Hid (Qm _ _ _) := hQ1'
  obtain ⟨-, -, -, -, -, -, -, -, -, -, c10, c11, c12, -⟩ := hQ1
  obtain ⟨-, -, -, -, -, -, -, -, -, -, d10, d11, d12, -⟩ := hQ1'
  dsimp only at c10 d10 c11 d11 c12 d12
  by_cases he : xe = ze
  rotate_left
  · have HR : Hid (r = false) := HV.out.trans (by simp [he, ky, kb, kp])
    have e1 : (xe == ze) = false := by simpa using he
    clear HV hS hK hK'
    go_wp2
    go_ret
    exact ⟨by rw [HR.out]; first | rfl | simp | simp [e1], hB3⟩
  subst he
  by_cases hr : xr = zr
  rotate_left
  · have HR : Hid (r = false) := HV.out.trans (by simp [hr, ky, kb, kp])
    have e1 : (xr == zr) = false := by simpa using hr
    clear HV hS hK hK'
    go_wp2
    go_ret
    exact ⟨by rw [HR.out]; first | rfl | simp | simp [e1], hB3⟩
  subst hr
  have HC := sameTerms_any xu zu p.2.2.2 p'.2.2.2 _ hS.out.1.2.2.2 hS.out.2.2.2.2
  generalize smTs xu zu = svu at *
  go_wp2_with fail
  refine HC.mono ?_
  rintro e w4 ⟨rfl, hb⟩
  have hB4 := hB3.trans (hb.mono hB3.size)
  replace hS : Hid (IsCm lo _ p _ ∧ IsCm lo' _ p' _) := ⟨hS.out.1.below hb, hS.out.2.below hb⟩
  have hQ1 := hK.out.below hb hK.out.lt
  have hQ1' := hK'.out.below hb hK'.out.lt
  clear HC hK hK' hb hB3 c10 d10 c11 d11 c12 d12
  have hK : Hid (Qm _ _ _) := hQ1
  have hK' : Hid (Qm _ _ _) := hQ1'
  obtain ⟨-, -, -, -, -, -, -, -, -, -, -, -, -, c13⟩ := hQ1
  obtain ⟨-, -, -, -, -, -, -, -, -, -, -, -, -, d13⟩ := hQ1'
  dsimp only at c13 d13
  cases svu with
  | false =>
    have HR : Hid (r = false) := HV.out.trans (by simp)
    clear HV hK hK' hS c13 d13
    go_wp2
    go_ret
    exact ⟨by rw [HR.out]; first | rfl | simp, hB4⟩
  | true =>
    by_cases hc : xc = zc
    rotate_left
    · have HR : Hid (r = false) := HV.out.trans (by simp [hc, ky, kb, kp])
      have e1 : (xc == zc) = false := by simpa using hc
      clear HV hS hK hK'
      go_wp2
      go_ret
      exact ⟨by rw [HR.out]; first | rfl | simp | simp [e1], hB4⟩
    subst hc
    have HR : Hid (r = true) := HV.out.trans (by simp [ky, kb, kp])
    clear HV hK hK' hS
    go_wp2
    go_ret
    exact ⟨by rw [HR.out]; first | rfl | simp, hB4⟩
end Go.Proofs.Ytaiificlempeaaa
