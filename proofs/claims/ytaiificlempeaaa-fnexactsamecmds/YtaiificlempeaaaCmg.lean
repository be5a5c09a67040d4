/- Whether two commands are the same: both sides, by one plain function; no conditions beyond those that each fact names. -/
import Derived.Test.YtaiificlempeaaaCf1
import Derived.Test.YtaiificlempeaaaCf2
import Derived.Test.YtaiificlempeaaaCf3
import Derived.Test.YtaiificlempeaaaCf4
import Derived.Test.YtaiificlempeaaaSf1
import Derived.Test.YtaiificlempeaaaSf2
import Derived.Test.YtaiificlempeaaaSf3
import Derived.Test.YtaiificlempeaaaSf4
namespace Go.Proofs.Ytaiificlempeaaa
open Go.RowKit
set_option linter.unusedVariables false

set_option maxHeartbeats 3200000 in
set_option maxRecDepth 100000 in
theorem sameCmds_any (a b : CmR) (p p' : SlC) {lo lo' : Nat} (w : World) (hs : IsCm lo w p a) (hs' : IsCm lo' w p' b) :
    Calls Try.prog 8 #[cmX a p, cmX b p'] w fun e w' => e = .returned (.bool (smC a b)) ∧ Below w.heap.size w w' := by
  obtain ⟨xt, xk, xn, xy, xm, xf, xd, xb, xh, xp, xe, xr, xu, xc⟩ := a
  obtain ⟨zt, zk, zn, zy, zm, zf, zd, zb, zh, zp, ze, zr, zu, zc⟩ := b
  by_cases hp : xt = zt ∧ xk = zk ∧ xn = zn
  rotate_left
  · exact sameCmds_1 _ _ _ _ _ _ _ _ _ _ _ _ _ _ _ _ _ _ _ _ _ _ _ _ _ _ _ _ p p' w hs hs'  hp
  obtain ⟨kt, kk, kn⟩ := hp
  by_cases hp : smY xy zy = true ∧ xm = zm ∧ xf = zf ∧ xd = zd
  rotate_left
  · exact sameCmds_2 _ _ _ _ _ _ _ _ _ _ _ _ _ _ _ _ _ _ _ _ _ _ _ _ _ _ _ _ p p' w hs hs' kt kk kn hp
  obtain ⟨ky, km, kf, kd⟩ := hp
  by_cases hp : decide (str xb = str zb) = true ∧ xh = zh ∧ smU xp zp = true
  rotate_left
  · exact sameCmds_3 _ _ _ _ _ _ _ _ _ _ _ _ _ _ _ _ _ _ _ _ _ _ _ _ _ _ _ _ p p' w hs hs' kt kk kn ky km kf kd hp
  obtain ⟨kb, kh, kp⟩ := hp
  exact sameCmds_4 _ _ _ _ _ _ _ _ _ _ _ _ _ _ _ _ _ _ _ _ _ _ _ _ _ _ _ _ p p' w hs hs' kt kk kn ky km kf kd kb kh kp

set_option maxHeartbeats 3200000 in
set_option maxRecDepth 100000 in
theorem specSameCmds_any (a b : CmR) (p p' : SlC) {lo lo' : Nat} (w : World) (hs : IsCm lo w p a) (hs' : IsCm lo' w p' b) :
    Calls Try.prog 6 #[cmX a p, cmX b p'] w fun e w' => e = .returned (.bool (smC a b)) ∧ Below w.heap.size w w' := by
  obtain ⟨xt, xk, xn, xy, xm, xf, xd, xb, xh, xp, xe, xr, xu, xc⟩ := a
  obtain ⟨zt, zk, zn, zy, zm, zf, zd, zb, zh, zp, ze, zr, zu, zc⟩ := b
  by_cases hp : xt = zt ∧ xk = zk ∧ xn = zn ∧ xm = zm
  rotate_left
  · exact specSameCmds_1 _ _ _ _ _ _ _ _ _ _ _ _ _ _ _ _ _ _ _ _ _ _ _ _ _ _ _ _ p p' w hs hs'  hp
  obtain ⟨kt, kk, kn, km⟩ := hp
  by_cases hp : xf = zf ∧ xd = zd ∧ xh = zh
  rotate_left
  · exact specSameCmds_2 _ _ _ _ _ _ _ _ _ _ _ _ _ _ _ _ _ _ _ _ _ _ _ _ _ _ _ _ p p' w hs hs' kt kk kn km hp
  obtain ⟨kf, kd, kh⟩ := hp
  by_cases hp : xe = ze ∧ xr = zr ∧ xc = zc
  rotate_left
  · exact specSameCmds_3 _ _ _ _ _ _ _ _ _ _ _ _ _ _ _ _ _ _ _ _ _ _ _ _ _ _ _ _ p p' w hs hs' kt kk kn km kf kd kh hp
  obtain ⟨ke, kr, kc⟩ := hp
  exact specSameCmds_4 _ _ _ _ _ _ _ _ _ _ _ _ _ _ _ _ _ _ _ _ _ _ _ _ _ _ _ _ p p' w hs hs' kt kk kn km kf kd kh ke kr kc
end Go.Proofs.Ytaiificlempeaaa
