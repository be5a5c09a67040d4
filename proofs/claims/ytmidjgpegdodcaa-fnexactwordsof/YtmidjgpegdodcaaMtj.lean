/- The laws' mark of a text; numbers from 1 to 4194304. -/
import Derived.Test.YtmidjgpegdodcaaApp
import Derived.Handy
import Derived.Below
namespace Go.Proofs.Ytmidjgpegdodcaa
open Go.RowKit
set_option linter.unusedVariables false

theorem strL_plus (a b : List Nat) : str a ++ str b = str (a ++ b) := by
  apply ByteArray.ext
  rw [ByteArray.data_append]
  simp [str]
/-- The digits of a number ahead of a text. -/
def dgL (k : Nat) (out : List Nat) : List Nat := if _h : k = 0 then out else dgL (k / 10) ((48 + k % 10) :: out)
termination_by k
decreasing_by omega
theorem dgL_zero (out : List Nat) : dgL 0 out = out := by rw [dgL, dif_pos rfl]
theorem dgL_step {k : Nat} (h : k ≠ 0) (out : List Nat) : dgL k out = dgL (k / 10) ((48 + k % 10) :: out) := by rw [dgL, dif_neg h]
/-- The mark of a number from 1 on. -/
def mtL (k : Nat) : ByteArray := str (109 :: dgL k [])
set_option maxHeartbeats 800000 in
set_option maxRecDepth 100000 in
theorem markText_l (k : Nat) (w : World) (h1 : 1 ≤ k) (hk : k ≤ 4194304) : Calls Try.prog 16 #[.int .i64 (k : Int)] w fun e w' => e = .returned (.string (mtL k)) ∧ Below w.heap.size w w' := by
  have c1 : ¬ (k : Int) ≤ 0 := by omega
  go_enter Try.func16, Try.ntmps16
  go_wp2
  go_loopw [0, 3] (fun q v wr => ∃ (j : Nat) (out : List Nat), j + out.length ≤ k ∧ q = .int .i64 j ∧ v = .string (str out) ∧ dgL k [] = dgL j out ∧ Below w.heap.size w wr) (fun q _ _ => (intOf q).toNat)
  case atStart => exact ⟨k, [], Nat.le_refl _, rfl, rfl, rfl, Below.refl _ _⟩
  case round =>
    obtain ⟨j, out, hj, rfl, rfl, hd, hbel⟩ := hrel
    have hos : (str out).size = out.length := str_size out
    have hob : out.length ≤ 4194304 := by omega
    by_cases hj0 : j = 0
    · subst hj0
      rw [dgL_zero] at hd
      have HM : Hid (⟨#[109]⟩ ++ str out = mtL k) := by
        show _ = _
        unfold mtL; rw [hd]
        exact strL_plus [109] out
      clear hd
      generalize hL : out.length = L at *
      clear hL
      generalize str out = so at *
      go_wp2
      go_ret
      exact ⟨by rw [← HM.out]; rfl, hbel⟩
    · have hjp : (0 : Int) < (j : Int) := by omega
      obtain ⟨r, hr⟩ : ∃ r, r = j % 10 := ⟨_, rfl⟩
      obtain ⟨p, hp⟩ : ∃ p, p = j / 10 := ⟨_, rfl⟩
      have hr10 : r < 10 := by omega
      have hpj : p < j := by omega
      have HD : Hid (dgL k [] = dgL p ((48 + r) :: out)) := by
        show _ = _
        rw [hd, dgL_step hj0, ← hr, ← hp]
      have hst := fun (c : Nat) => run_str (w := wr.alloc (.cells #[.int .u8 ((48 + r : Nat) : Int)] 5)) (a := some ⟨wr.heap.size, 0, none⟩) (n := 1) (cap := c) (l := [48 + r]) rfl (.inr ⟨wr.heap.size, 0, rfl, by simp, fun i hi => by
        have : i = 0 := by simp at hi; omega
        subst this; simp [nth]⟩)
      rw [show ((48 + r : Nat) : Int) = 48 + (r : Int) by omega] at hst
      have e1 : (j : Int) % 10 = (r : Int) := by omega
      have e2 : (j : Int) / 10 = (p : Int) := by omega
      have HP : Hid (str [48 + r] ++ str out = str ((48 + r) :: out)) := strL_plus [48 + r] out
      have hsr : (str [48 + r]).size = 1 := str_size _
      have HL : Hid (p + ((48 + r) :: out).length ≤ k) := by
        show _ ≤ _
        rw [List.length_cons]; omega
      have hb2 : Below w.heap.size w (wr.alloc (.cells #[.int .u8 (48 + (r : Int))] 5)) := hbel.alloc hbel.size _
      clear hd hr hp
      go_wp2
      go_roundw
      case rel => exact ⟨p, (48 + r) :: out, HL.out, rfl, by rw [HP.out], HD.out, hb2⟩
      case measure => simp [intOf]; omega


end Go.Proofs.Ytmidjgpegdodcaa
