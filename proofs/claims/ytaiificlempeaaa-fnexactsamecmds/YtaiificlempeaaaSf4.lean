/- Whether two commands are the same: the model's side, a part of it; no conditions beyond those that each fact names. -/
import Derived.Test.YtaiificlempeaaaCmc
import Derived.Test.YtaiificlempeaaaCme
import Derived.Test.YtaiificlempeaaaTmg
namespace Go.Proofs.Ytaiificlempeaaa
open Go.RowKit
set_option linter.unusedVariables false

set_option maxHeartbeats 3200000 in
set_option maxRecDepth 100000 in
theorem specSameCmds_4 (xt zt : ByteArray) (xk zk : Int) (xn zn : ByteArray) (xy zy : List YgP) (xm zm : Int) (xf zf : Int) (xd zd : Int) (xb zb : List Nat) (xh zh : Int) (xp zp : List Int) (xe ze : Int) (xr zr : Bool) (xu zu : List TmR) (xc zc : Int) (p p' : SlC) {lo lo' : Nat} (w : World) (hs : IsCm lo w p ⟨xt, xk, xn, xy, xm, xf, xd, xb, xh, xp, xe, xr, xu, xc⟩) (hs' : IsCm lo' w p' ⟨zt, zk, zn, zy, zm, zf, zd, zb, zh, zp, ze, zr, zu, zc⟩) (kt : xt = zt) (kk : xk = zk) (kn : xn = zn) (km : xm = zm) (kf : xf = zf) (kd : xd = zd) (kh : xh = zh) (ke : xe = ze) (kr : xr = zr) (kc : xc = zc) :
    Calls Try.prog 6 #[cmX ⟨xt, xk, xn, xy, xm, xf, xd, xb, xh, xp, xe, xr, xu, xc⟩ p, cmX ⟨zt, zk, zn, zy, zm, zf, zd, zb, zh, zp, ze, zr, zu, zc⟩ p'] w fun e w' => e = .returned (.bool (smC ⟨xt, xk, xn, xy, xm, xf, xd, xb, xh, xp, xe, xr, xu, xc⟩ ⟨zt, zk, zn, zy, zm, zf, zd, zb, zh, zp, ze, zr, zu, zc⟩)) ∧ Below w.heap.size w w' := by
  have HV : Hid (smC ⟨xt, xk, xn, xy, xm, xf, xd, xb, xh, xp, xe, xr, xu, xc⟩ ⟨zt, zk, zn, zy, zm, zf, zd, zb, zh, zp, ze, zr, zu, zc⟩ = (decide (xt = zt) && (decide (xk = zk) && (decide (xn = zn) && (smY xy zy && (decide (xm = zm) && (decide (xf = zf) && (decide (xd = zd) && (decide (str xb = str zb) && (decide (xh = zh) && (smU xp zp && (decide (xe = ze) && (decide (xr = zr) && (smTs xu zu && decide (xc = zc))))))))))))))) := rfl
  generalize smC ⟨xt, xk, xn, xy, xm, xf, xd, xb, xh, xp, xe, xr, xu, xc⟩ ⟨zt, zk, zn, zy, zm, zf, zd, zb, zh, zp, ze, zr, zu, zc⟩ = r at *
  have hbW : Below w.heap.size w ((w.alloc (.cells #[.string xt, .int .i64 xk, .string xn, slW p.1, .int .i64 xm, .int .i64 xf, .int .i64 xd, slW p.2.1, .int .i64 xh, slW p.2.2.1, .int .i64 xe, .bool xr, slW p.2.2.2, .int .i64 xc] 33)).alloc (.cells #[.string zt, .int .i64 zk, .string zn, slW p'.1, .int .i64 zm, .int .i64 zf, .int .i64 zd, slW p'.2.1, .int .i64 zh, slW p'.2.2.1, .int .i64 ze, .bool zr, slW p'.2.2.2, .int .i64 zc] 33)) := ((Below.refl _ _).alloc (Nat.le_refl _) _).alloc (by simp) _
  have hQ := (Qm.new w (.string xt) (.int .i64 xk) (.string xn) (slW p.1) (.int .i64 xm) (.int .i64 xf) (.int .i64 xd) (slW p.2.1) (.int .i64 xh) (slW p.2.2.1) (.int .i64 xe) (.bool xr) (slW p.2.2.2) (.int .i64 xc) 33).below ((Below.refl _ _).alloc (Nat.le_refl _) (.cells #[.string zt, .int .i64 zk, .string zn, slW p'.1, .int .i64 zm, .int .i64 zf, .int .i64 zd, slW p'.2.1, .int .i64 zh, slW p'.2.2.1, .int .i64 ze, .bool zr, slW p'.2.2.2, .int .i64 zc] 33)) (by simp)
  have hQ' : Qm ((w.alloc (.cells #[.string xt, .int .i64 xk, .string xn, slW p.1, .int .i64 xm, .int .i64 xf, .int .i64 xd, slW p.2.1, .int .i64 xh, slW p.2.2.1, .int .i64 xe, .bool xr, slW p.2.2.2, .int .i64 xc] 33)).alloc (.cells #[.string zt, .int .i64 zk, .string zn, slW p'.1, .int .i64 zm, .int .i64 zf, .int .i64 zd, slW p'.2.1, .int .i64 zh, slW p'.2.2.1, .int .i64 ze, .bool zr, slW p'.2.2.2, .int .i64 zc] 33)) (w.heap.size + 1) ⟨.string zt, .int .i64 zk, .string zn, slW p'.1, .int .i64 zm, .int .i64 zf, .int .i64 zd, slW p'.2.1, .int .i64 zh, slW p'.2.2.1, .int .i64 ze, .bool zr, slW p'.2.2.2, .int .i64 zc⟩ := by
    have h := Qm.new (w.alloc (.cells #[.string xt, .int .i64 xk, .string xn, slW p.1, .int .i64 xm, .int .i64 xf, .int .i64 xd, slW p.2.1, .int .i64 xh, slW p.2.2.1, .int .i64 xe, .bool xr, slW p.2.2.2, .int .i64 xc] 33)) (.string zt) (.int .i64 zk) (.string zn) (slW p'.1) (.int .i64 zm) (.int .i64 zf) (.int .i64 zd) (slW p'.2.1) (.int .i64 zh) (slW p'.2.2.1) (.int .i64 ze) (.bool zr) (slW p'.2.2.2) (.int .i64 zc) 33
    simpa using h
  have hS : Hid (IsCm lo _ p _ ∧ IsCm lo' _ p' _) := ⟨hs.below hbW, hs'.below hbW⟩
  have hK : Hid (Qm _ _ _) := hQ
  have hK' : Hid (Qm _ _ _) := hQ'
  clear hs hs' hQ hQ'
  subst kt
  subst kk
  subst kn
  subst km
  subst kf
  subst kd
  subst kh
  subst ke
  subst kr
  subst kc
  go_enter Try.func6, Try.ntmps6
  have HC := l14Ranges_any p.1 p'.1 xy zy _ hS.out.1.1 hS.out.2.1
  generalize smY xy zy = svy at *
  go_wp2_with fail
  refine HC.mono ?_
  rintro e w1 ⟨rfl, hb⟩
  have hB1 := hbW.trans (hb.mono hbW.size)
  replace hS : Hid (IsCm lo _ p _ ∧ IsCm lo' _ p' _) := ⟨hS.out.1.below hb, hS.out.2.below hb⟩
  have hQ1 := hK.out.below hb hK.out.lt
  have hQ1' := hK'.out.below hb hK'.out.lt
  clear HC hK hK' hb hbW 
  have hK : Hid (Qm _ _ _) := hQ1
  have hK' : Hid (Qm _ _ _) := hQ1'
  obtain ⟨-, -, -, -, -, -, -, c7, -, c9, -, -, -, -⟩ := hQ1
  obtain ⟨-, -, -, -, -, -, -, d7, -, d9, -, -, -, -⟩ := hQ1'
  dsimp only at c7 d7 c9 d9
  cases svy with
  | false =>
    have HR : Hid (r = false) := HV.out.trans (by simp)
    clear HV hK hK' hS c7 d7 c9 d9
    go_wp2
    go_ret
    exact ⟨by rw [HR.out]; first | rfl | simp, hB1⟩
  | true =>
    have hrun : (convert 23 9 (slW p.2.1)).run Try.prog w1 = .ok (.string (str xb)) w1 := run_str hS.out.1.2.1.1 hS.out.1.2.1.2.2.2.2.1
    have hrun' : (convert 23 9 (slW p'.2.1)).run Try.prog w1 = .ok (.string (str zb)) w1 := run_str hS.out.2.2.1.1 hS.out.2.2.1.2.2.2.2.1
    by_cases kb0 : str xb = str zb
    rotate_left
    · have HR : Hid (r = false) := HV.out.trans (by simp [kb0])
      have e1 := toListO_ne kb0
      generalize str xb = sx at *
      generalize str zb = sz at *
      clear HV hS hK hK' kb0
      go_wp2
      go_ret
      exact ⟨by rw [HR.out]; first | rfl | simp | simp [e1], hB1⟩
    rw [← kb0] at hrun'
    have kb : decide (str xb = str zb) = true := decide_eq_true kb0
    have HKB : Hid (_) := And.intro kb0 kb
    clear kb0 kb
    have HC := l14Ints_any p.2.2.1 p'.2.2.1 xp zp _ hS.out.1.2.2.1 hS.out.2.2.2.1
    generalize smU xp zp = svp at *
    go_wp2_with fail
    refine HC.mono ?_
    rintro e w2 ⟨rfl, hb⟩
    have hB2 := hB1.trans (hb.mono hB1.size)
    replace hS : Hid (IsCm lo _ p _ ∧ IsCm lo' _ p' _) := ⟨hS.out.1.below hb, hS.out.2.below hb⟩
    have hQ1 := hK.out.below hb hK.out.lt
    have hQ1' := hK'.out.below hb hK'.out.lt
    clear HC hK hK' hb hB1 c7 d7 c9 d9
    have hK : Hid (Qm _ _ _) := hQ1
    have hK' : Hid (Qm _ _ _) := hQ1'
    obtain ⟨-, -, -, -, -, -, -, -, -, -, -, -, c12, -⟩ := hQ1
    obtain ⟨-, -, -, -, -, -, -, -, -, -, -, -, d12, -⟩ := hQ1'
    dsimp only at c12 d12
    cases svp with
    | false =>
      have HR : Hid (r = false) := HV.out.trans (by simp [HKB.out.1])
      clear HV hK hK' hS c12 d12
      go_wp2
      go_ret
      exact ⟨by rw [HR.out]; first | rfl | simp, hB2⟩
    | true =>
      have HC := specSameTerms_any xu zu p.2.2.2 p'.2.2.2 _ hS.out.1.2.2.2 hS.out.2.2.2.2
      generalize smTs xu zu = svu at *
      go_wp2_with fail
      refine HC.mono ?_
      rintro e w3 ⟨rfl, hb⟩
      have hB3 := hB2.trans (hb.mono hB2.size)
      replace hS : Hid (IsCm lo _ p _ ∧ IsCm lo' _ p' _) := ⟨hS.out.1.below hb, hS.out.2.below hb⟩
      have hQ1 := hK.out.below hb hK.out.lt
      have hQ1' := hK'.out.below hb hK'.out.lt
      clear HC hK hK' hb hB2 c12 d12
      have HR : Hid (r = svu) := HV.out.trans (by simp [HKB.out.1])
      clear hQ1 hQ1' HV hS
      go_wp2
      go_ret
      exact ⟨by rw [HR.out]; first | rfl | simp, hB3⟩
end Go.Proofs.Ytaiificlempeaaa
