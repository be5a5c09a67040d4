/- ReadOp on both sides, as its law takes them; no conditions beyond those that each fact names. -/
import Derived.Test.YtlmbieclgkpofaaDoorOrl
import Derived.Test.YtlmbieclgkpofaaDoorRmc
import Derived.Test.YtlmbieclgkpofaaDoorRmd
namespace Go.Proofs.YtlmbieclgkpofaaDoor
open Go.RowKit
theorem HL9_any : Hid (∀ (a : Option Addr) (n cap : Nat) (d : List Nat) (w : World), d.length = n → 2 ≤ n → n ≤ 1048576 → Rd w a d → IsB d → Calls Tryd.prog 54 #[.slice a n cap] w fun e w' => RfEnd (rdM d) w e w') :=
  fun a n cap d w h1 h2 h3 h4 h5 => l9Read_any a n cap d w h1 h2 h3 h4 h5
theorem rpV_ft (l : List Nat) : FtO (rpV l).2.2 ∧ (rpV l).2.2.u.length ≤ 6 ∧ (rpV l).2.2.b.length ≤ 400 := by
  unfold rpV
  split
  · next h =>
    have hk := okJ h.1
    have h1 := hk.x; have h2 := hk.t; have h3 := hk.u; have h4 := hk.b
    dsimp only
    exact ⟨⟨by omega, by omega, by omega, by omega⟩, h3, h4⟩
  · exact ⟨⟨by show 0 ≤ _; omega, by show 0 ≤ _; omega, by show 0 ≤ _; omega, by show 0 ≤ _; omega⟩, by show 0 ≤ _; omega, by show 0 ≤ _; omega⟩
end Go.Proofs.YtlmbieclgkpofaaDoor
