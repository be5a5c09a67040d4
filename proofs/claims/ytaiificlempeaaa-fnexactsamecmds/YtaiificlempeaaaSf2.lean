/- Whether two commands are the same: the model's side, a part of it; no conditions beyond those that each fact names. -/
import Derived.Test.YtaiificlempeaaaCmc
namespace Go.Proofs.Ytaiificlempeaaa
open Go.RowKit
set_option linter.unusedVariables false

set_option maxHeartbeats 3200000 in
set_option maxRecDepth 100000 in
theorem specSameCmds_2 (xt zt : ByteArray) (xk zk : Int) (xn zn : ByteArray) (xy zy : List YgP) (xm zm : Int) (xf zf : Int) (xd zd : Int) (xb zb : List Nat) (xh zh : Int) (xp zp : List Int) (xe ze : Int) (xr zr : Bool) (xu zu : List TmR) (xc zc : Int) (p p' : SlC) {lo lo' : Nat} (w : World) (hs : IsCm lo w p ⟨xt, xk, xn, xy, xm, xf, xd, xb, xh, xp, xe, xr, xu, xc⟩) (hs' : IsCm lo' w p' ⟨zt, zk, zn, zy, zm, zf, zd, zb, zh, zp, ze, zr, zu, zc⟩) (kt : xt = zt) (kk : xk = zk) (kn : xn = zn) (km : xm = zm) (hp : ¬ (xf = zf ∧ xd = zd ∧ xh = zh)) :
    Calls Try.prog 6 #[cmX ⟨xt, xk, xn, xy, xm, xf, xd, xb, xh, xp, xe, xr, xu, xc⟩ p, cmX ⟨zt, zk, zn, zy, zm, zf, zd, zb, zh, zp, ze, zr, zu, zc⟩ p'] w fun e w' => e = .returned (.bool (smC ⟨xt, xk, xn, xy, xm, xf, xd, xb, xh, xp, xe, xr, xu, xc⟩ ⟨zt, zk, zn, zy, zm, zf, zd, zb, zh, zp, ze, zr, zu, zc⟩)) ∧ Below w.heap.size w w' := by
  have HV : Hid (smC ⟨xt, xk, xn, xy, xm, xf, xd, xb, xh, xp, xe, xr, xu, xc⟩ ⟨zt, zk, zn, zy, zm, zf, zd, zb, zh, zp, ze, zr, zu, zc⟩ = (decide (xt = zt) && (decide (xk = zk) && (decide (xn = zn) && (smY xy zy && (decide (xm = zm) && (decide (xf = zf) && (decide (xd = zd) && (decide (str xb = str zb) && (decide (xh = zh) && (smU xp zp && (decide (xe = ze) && (decide (xr = zr) && (smTs xu zu && decide (xc = zc))))))))))))))) := rfl
  generalize smC ⟨xt, xk, xn, xy, xm, xf, xd, xb, xh, xp, xe, xr, xu, xc⟩ ⟨zt, zk, zn, zy, zm, zf, zd, zb, zh, zp, ze, zr, zu, zc⟩ = r at *
  have hbW : Below w.heap.size w ((w.alloc (.cells #[.string xt, .int .i64 xk, .string xn, slW p.1, .int .i64 xm, .int .i64 xf, .int .i64 xd, slW p.2.1, .int .i64 xh, slW p.2.2.1, .int .i64 xe, .bool xr, slW p.2.2.2, .int .i64 xc] 33)).alloc (.cells #[.string zt, .int .i64 zk, .string zn, slW p'.1, .int .i64 zm, .int .i64 zf, .int .i64 zd, slW p'.2.1, .int .i64 zh, slW p'.2.2.1, .int .i64 ze, .bool zr, slW p'.2.2.2, .int .i64 zc] 33)) := ((Below.refl _ _).alloc (Nat.le_refl _) _).alloc (by simp) _
  have hQ := (Qm.new w (.string xt) (.int .i64 xk) (.string xn) (slW p.1) (.int .i64 xm) (.int .i64 xf) (.int .i64 xd) (slW p.2.1) (.int .i64 xh) (slW p.2.2.1) (.int .i64 xe) (.bool xr) (slW p.2.2.2) (.int .i64 xc) 33).below ((Below.refl _ _).alloc (Nat.le_refl _) (.cells #[.string zt, .int .i64 zk, .string zn, slW p'.1, .int .i64 zm, .int .i64 zf, .int .i64 zd, slW p'.2.1, .int .i64 zh, slW p'.2.2.1, .int .i64 ze, .bool zr, slW p'.2.2.2, .int .i64 zc] 33)) (by simp)
  have hQ' : Qm ((w.alloc (.cells #[.string xt, .int .i64 xk, .string xn, slW p.1, .int .i64 xm, .int .i64 xf, .int .i64 xd, slW p.2.1, .int .i64 xh, slW p.2.2.1, .int .i64 xe, .bool xr, slW p.2.2.2, .int .i64 xc] 33)).alloc (.cells #[.string zt, .int .i64 zk, .string zn, slW p'.1, .int .i64 zm, .int .i64 zf, .int .i64 zd, slW p'.2.1, .int .i64 zh, slW p'.2.2.1, .int .i64 ze, .bool zr, slW p'.2.2.2, .int .i64 zc] 33)) (w.heap.size + 1) ⟨.string zt, .int .i64 zk, .string zn, slW p'.1, .int .i64 zm, .int .i64 zf, .int .i64 zd, slW p'.2.1, .int .i64 zh, slW p'.2.2.1, .int .i64 ze, .bool zr, slW p'.2.2.2, .int .i64 zc⟩ := by
    have h := Qm.new (w.alloc (.cells #[.string xt, .int .i64 xk, .string xn, slW p.1, .int .i64 xm, .int .i64 xf, .int .i64 xd, slW p.2.1, .int .i64 xh, slW p.2.2.1, .int .i64 xe, .bool xr, slW p.2.2.2, .int .i64 xc] 33)) (.string zt) (.int .i64 zk) (.string zn) (slW p'.1) (.int .i64 zm) (.int .i64 zf) (.int .i64 zd) (slW p'.2.1) (.int .i64 zh) (slW p'.2.2.1) (.int .i64 ze) (.bool zr) (slW p'.2.2.2) (.int .i64 zc) 33
    simpa using h
  have hS : Hid (IsCm lo _ p _ ∧ IsCm lo' _ p' _) := ⟨hs.below hbW, hs'.below hbW⟩
  have hK : Hid (Qm _ _ _) := hQ
  have hK' : Hid (Qm _ _ _) := hQ'
  clear hs hs' hQ hQ'
  subst kt
  subst kk
  subst kn
  subst km
  by_cases hf : xf = zf
  rotate_left
  · have HR : Hid (r = false) := HV.out.trans (by simp [hf])
    have e1 : (xf == zf) = false := by simpa using hf
    clear HV hS hK hK'
    go_enter Try.func6, Try.ntmps6
    go_wp2
    go_ret
    exact ⟨by rw [HR.out]; first | rfl | simp | simp [e1], hbW⟩
  subst hf
  by_cases hd : xd = zd
  rotate_left
  · have HR : Hid (r = false) := HV.out.trans (by simp [hd])
    have e1 : (xd == zd) = false := by simpa using hd
    clear HV hS hK hK'
    go_enter Try.func6, Try.ntmps6
    go_wp2
    go_ret
    exact ⟨by rw [HR.out]; first | rfl | simp | simp [e1], hbW⟩
  subst hd
  by_cases hh : xh = zh
  rotate_left
  · have HR : Hid (r = false) := HV.out.trans (by simp [hh])
    have e1 : (xh == zh) = false := by simpa using hh
    clear HV hS hK hK'
    go_enter Try.func6, Try.ntmps6
    go_wp2
    go_ret
    exact ⟨by rw [HR.out]; first | rfl | simp | simp [e1], hbW⟩
  subst hh
  exact absurd (by simp) hp
end Go.Proofs.Ytaiificlempeaaa
