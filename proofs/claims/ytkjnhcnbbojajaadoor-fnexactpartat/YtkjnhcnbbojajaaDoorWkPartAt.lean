/- The walk of the law PartAt: it returns true, whatever the input. -/
import Derived.Test.YtkjnhcnbbojajaaDoorPas
import Derived.Test.YtkjnhcnbbojajaaDoorMemFToOpnF
import Derived.Test.YtkjnhcnbbojajaaDoorMemToMrk0
import Derived.Test.YtkjnhcnbbojajaaDoorNamToJmp
import Derived.Test.YtkjnhcnbbojajaaDoorHdr7ToTbs
import Derived.WalkKit
import Derived.ProofKit
import Derived.OpenShut
import Derived.ShutString
import Derived.ChangeOld
import Derived.Below
import Derived.LaidMore
import Derived.OpenVars
import Derived.Stop.Joined
import Derived.Lib.LaidTab
import Derived.Stop.LaidErr
import Derived.Lay
import Derived.MakeChecks
namespace Go.Proofs.YtkjnhcnbbojajaaDoor.fnExactPartAt
open Go.ChangeShapes Go.WideShapes Go.ChangeAt Go.WideMaps Go.WideElems Go.RowKit
open Go.ChangeMaps (open_string shut_string)
set_option linter.unusedVariables false

/-! ### THE WALK -/
set_option maxHeartbeats 1600000 in
set_option maxRecDepth 100000 in
theorem walk (a0 : Option Addr) (len0 cap0 : Nat) (z0 : List Int) (a1 : Option Addr) (len1 cap1 : Nat) (z1 : List Int) (w : World) (w0 : IsRow .u8 w a0 len0 cap0 z0) (w1 : IsRow .i64 w a1 len1 cap1 z1) (htC : TabC w) :
    Calls Tryd.prog 5 #[.slice a0 len0 cap0, .slice a1 len1 cap1] w fun e w' => e = .returned (.bool true) ∧ Below w.heap.size w w' := by
  obtain ⟨l, hl, hBs, hr, hmax1⟩ := w0.rd
  obtain ⟨s, hs, hq, hmax2⟩ := w1.rdI
  clear w0 w1
  by_cases hbig : 1048576 < len0
  · have hb' : (1048576 : Int) < (len0 : Int) := by omega
    go_enter Tryd.func5, Tryd.ntmps5
    go_wp2
    go_ret
    exact ⟨rfl, Below.refl _ _⟩
  by_cases hbig2 : 1048576 < len1
  · have hb' : ¬ (1048576 : Int) < (len0 : Int) := by omega
    have hb2' : (1048576 : Int) < (len1 : Int) := by omega
    go_enter Tryd.func5, Tryd.ntmps5
    go_wp2
    go_ret
    exact ⟨rfl, Below.refl _ _⟩
  have hb' : ¬ (1048576 : Int) < (len0 : Int) := by omega
  have hb2' : ¬ (1048576 : Int) < (len1 : Int) := by omega
  have hn : len0 ≤ 1048576 := by omega
  have hm : len1 ≤ 1048576 := by omega
  have HS := fun (b : Nat) (c : Option Addr) (cap : Nat) (w' : World) (hb : b < w'.heap.size) (h1 : Rd w' (some ⟨b, 0, none⟩) l) (h2 : RdI w' c s) => specPartAt_any b len0 l c len1 cap s w' h1 hb hBs hl h2 hs hm
  have HI := fun (b : Nat) (c : Option Addr) (cap : Nat) (w' : World) (hb : Below w.heap.size w w') (h1 : Rd w' (some ⟨b, 0, none⟩) l) (h2 : RdI w' c s) => partAt_any b len0 l c len1 cap s w' h1 (htC.below hb) hBs hl h2 hs hm
  generalize paR l s = r at *
  obtain ⟨c, x⟩ := r
  dsimp only at HS HI
  go_enter Tryd.func5, Tryd.ntmps5
  go_wp2_with fail
  refine (toByteS_any a0 len0 cap0 l _ hl hr hn).mono ?_
  rintro e w1 ⟨rfl, hoA, hb1⟩
  have x1 := Rd.own hoA
  have hlt1 := (World.ownsRow.lt hoA _ rfl).2
  have hq1 := hq.below hb1
  clear hoA
  go_wp2_with fail
  refine (toInt64S_ex a1 len1 cap1 s _ hs hq1 hm).mono ?_
  rintro e w2 ⟨g2, rfl, x2, hb2⟩
  have hz1 := hb1.size
  have HB2 : Hid (Below w.heap.size w w2) := hb1.trans (hb2.mono hz1)
  have hz2 := HB2.out.size
  have y1 := x1.below hb2
  have hlt2 : w.heap.size < w2.heap.size := Nat.lt_of_lt_of_le hlt1 hb2.size
  clear x1 hb1 hb2 hq1 hlt1
  go_wp2_with fail
  refine (HS _ _ _ _ hlt2 y1 x2).mono ?_
  rintro e w3 ⟨rfl, hb3⟩
  have HB3 : Hid (Below w.heap.size w w3) := HB2.out.trans (hb3.mono hz2)
  clear y1 x2 HB2 hb3 hz1 hz2 hlt2
  have HV : Hid (Below w.heap.size w (w3.alloc (.cells #[.int .i64 c, .int .i64 x] 37))) := HB3.out.alloc HB3.out.size _
  have hV3 : (w3.alloc (.cells #[.int .i64 c, .int .i64 x] 37)).heap.size = w3.heap.size + 1 := by simp
  have HC3 := fun (wx : World) (hx : Below (w3.heap.size + 1) (w3.alloc (.cells #[.int .i64 c, .int .i64 x] 37)) wx) => res_block rfl hx
  go_wp2_with fail
  refine (toByteS_ex a0 len0 cap0 l _ hl (hr.below HV.out) hn).mono ?_
  rintro e w4 ⟨g4, rfl, x1, hb4⟩
  have hz4 := hb4.size
  have HB4 : Hid (Below w.heap.size w w4) := HV.out.trans (hb4.mono HV.out.size)
  go_wp2_with fail
  refine (toInt64S_ex a1 len1 cap1 s _ hs (hq.below HB4.out) hm).mono ?_
  rintro e w5 ⟨g5, rfl, x2, hb5⟩
  have hz5 := hb5.size
  have y1 := x1.below hb5
  have HB5 : Hid (Below w.heap.size w w5) := HB4.out.trans (hb5.mono HB4.out.size)
  have HW5 : Hid (Below (w3.heap.size + 1) (w3.alloc (.cells #[.int .i64 c, .int .i64 x] 37)) w5) := by
    rw [hV3] at hb4 hz4
    exact hb4.trans (hb5.mono hz4)
  clear x1
  go_wp2_with fail
  refine (HI _ _ _ _ HB5.out y1 x2).mono ?_
  rintro e w6 ⟨rfl, hb6⟩
  have hz6 := hb6.size
  have HB6 : Hid (Below w.heap.size w w6) := HB5.out.trans (hb6.mono HB5.out.size)
  have z1 := y1.below hb6
  have z2 := x2.below hb6
  have hz35 : w3.heap.size + 1 ≤ w5.heap.size := by rw [← hV3]; exact HW5.out.size
  obtain ⟨k0, k1, _, _⟩ := HC3 w6 (HW5.out.trans (hb6.mono hz35))
  have hlt : w3.heap.size < w6.heap.size := by omega
  clear HC3 HW5
  clear y1 x2 hb6
  go_wp2_with fail
  have hbA : Below w6.heap.size w6 (w6.alloc (.cells #[.int .i64 c, .int .i64 x] 37)) := (Below.refl _ _).alloc (Nat.le_refl _) _
  have z1' := z1.below hbA
  have z2' := z2.below hbA
  refine (eqIntResult_nam c x _).mono ?_
  rintro e w7 ⟨rfl, hb7⟩
  have v1 := z1'.below hb7
  have v2 := z2'.below hb7
  have HB7 : Hid (Below w.heap.size w w7) := (HB6.out.trans (hbA.mono HB6.out.size)).trans (hb7.mono (by have := HB6.out.size; simp; omega))
  clear z1' z2' hb7 z1 z2 hbA
  go_wp2_with fail
  refine (toByteS_ex a0 len0 cap0 l _ hl (hr.below HB7.out) hn).mono ?_
  rintro e w8 ⟨g8, rfl, x8, hb8⟩
  have u1 := v1.below hb8
  have u2 := v2.below hb8
  have HB8 : Hid (Below w.heap.size w w8) := HB7.out.trans (hb8.mono HB7.out.size)
  clear v1 v2 hb8
  go_wp2_with fail
  refine (eqByteS_same _ _ len0 len0 len0 l _ hl u1 x8 hn).mono ?_
  rintro e w9 ⟨rfl, hb9⟩
  have t2 := u2.below hb9
  have HB9 : Hid (Below w.heap.size w w9) := HB8.out.trans (hb9.mono HB8.out.size)
  clear u1 u2 hb9 x8
  go_wp2_with fail
  refine (toInt64S_ex a1 len1 cap1 s _ hs (hq.below HB9.out) hm).mono ?_
  rintro e w10 ⟨g10, rfl, x10, hb10⟩
  have u2 := t2.below hb10
  have HB10 : Hid (Below w.heap.size w w10) := HB9.out.trans (hb10.mono HB9.out.size)
  clear hb10
  go_wp2_with fail
  refine (eqInt64S_same _ _ len1 len1 len1 s _ hs u2 x10 hm).mono ?_
  rintro e w11 ⟨rfl, hb11⟩
  have HB11 : Hid (Below w.heap.size w w11) := HB10.out.trans (hb11.mono HB10.out.size)
  clear hb11
  go_wp2
  go_ret
  exact ⟨rfl, HB11.out⟩

end Go.Proofs.YtkjnhcnbbojajaaDoor.fnExactPartAt
