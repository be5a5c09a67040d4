/- A step of a region that draws its order: what is plain of it is found by itself; no conditions beyond those that each fact names · The text of a term, the model's: kind by kind; no conditions beyond those that each fact names. -/
import Derived.Test.YthmimalplpjghaaGreatDoorProg
import Derived.OrdersHeld
import Derived.WalkKit
import Derived.Test.YthmimalplpjghaaGreatDoorEncT2ToTxw
import Derived.Test.YthmimalplpjghaaGreatDoorYtv
import Derived.Test.YthmimalplpjghaaGreatDoorTfdToOss
namespace Go.Proofs.YthmimalplpjghaaGreatDoor
open Go.RowKit

/-- An operation that reads is taken. -/
theorem tk {P : Program} {md : _} {ops : Array Oper} {Q : Exit → Act → World → Prop} {S : World → Prop} {i : Nat} {oi : Oper} {v : Value} {fuel : Nat} {listed : Array Bool} {a : Act} {w : World} (hi : ops[i]? = some oi)
    (hy : YieldsIf P ops S oi v a) (h : wpAnyH P md ops Q S fuel (listed.setIfInBounds i true) (a.put oi.dst v) w)
    (hs : Region.noSelect ops = true := by kernel_rfl) (hf : Region.free md ops listed i = true := by kernel_rfl) (hr : (Region.ready md ops listed).contains i = true := by kernel_rfl)
    (hQ : ∀ c a w, Q (.panic c) (a.put oi.dst v) w → Q (.panic c) a w := by exact fun _ _ _ h => h) (hS : S w := by assumption) : wpAnyH P md ops Q S (fuel + 1) listed a w :=
  wpAnyH_take hi hs hf hr hQ hy hS h
theorem J1 {α : Type} {l : List α} {i : Nat} (h : i < l.toArray.size) : l.toArray[i] = l[i]'h := rfl
theorem J2 {α : Type} {a : α} {l : List α} (h : 0 < (a :: l).length) : (a :: l)[0]'h = a := rfl
theorem J3 {α : Type} {a : α} {l : List α} {i : Nat} (h : i + 1 < (a :: l).length) : (a :: l)[i + 1]'h = l[i]'(Nat.lt_of_succ_lt_succ h) := rfl
theorem J4 {α : Type} {l : List α} {i : Nat} {a : α} : l.toArray.setIfInBounds i a = (l.set i a).toArray := List.setIfInBounds_toArray ..
theorem J5 {α : Type} {a b : α} {l : List α} : (a :: l).set 0 b = b :: l := rfl
theorem J6 {α : Type} {a b : α} {l : List α} {n : Nat} : (a :: l).set (n + 1) b = a :: l.set n b := rfl
end Go.Proofs.YthmimalplpjghaaGreatDoor

namespace Go.Proofs.YthmimalplpjghaaGreatDoor
open Go.RowKit
set_option linter.unusedVariables false

theorem sp_str (x : List Nat) : (⟨#[32]⟩ : ByteArray) ++ str x = str ([32] ++ x) := str_plusY [32] x

set_option maxHeartbeats 1600000 in
set_option maxRecDepth 100000 in
theorem l12Word_any (k : Int) (w : World) (h : 1 ≤ k ∧ k ≤ 11) : Calls Tryz.prog 94 #[.int .i64 k] w fun e w' => e = .returned (.string (str (twN k.toNat))) ∧ Below w.heap.size w w' := by
  have h' : k = 1 ∨ k = 2 ∨ k = 3 ∨ k = 4 ∨ k = 5 ∨ k = 6 ∨ k = 7 ∨ k = 8 ∨ k = 9 ∨ k = 10 ∨ k = 11 := by omega
  rcases h' with rfl | rfl | rfl | rfl | rfl | rfl | rfl | rfl | rfl | rfl | rfl
  all_goals
    go_enter Tryz.func94, Tryz.ntmps94
    go_wp2
    go_ret
    exact ⟨rfl, by go_grown⟩

set_option maxHeartbeats 1600000 in
set_option maxRecDepth 100000 in
theorem tail_1 (b off n cap i : Nat) (w : World) (hi : i < n)  (c0 : w.cell? ⟨b, off + i * 6, none⟩ = some (.int .i64 1)) :
    Calls Tryz.prog 95 #[.slice (some ⟨b, off, none⟩) n cap, .int .i64 (i : Int)] w fun e w' => e = .returned (.string (str ([]))) ∧ Below w.heap.size w w' := by
  have hki : (i : Int) < (n : Int) := by omega
  go_enter Tryz.func95, Tryz.ntmps95
  go_wp2
  go_ret
  exact ⟨rfl, Below.refl _ _⟩

set_option maxHeartbeats 1600000 in
set_option maxRecDepth 100000 in
theorem tail_2 (b off n cap i : Nat) (w : World) (hi : i < n) (j : Nat) (hj : j < 16) (c0 : w.cell? ⟨b, off + i * 6, none⟩ = some (.int .i64 2)) (c1 : w.cell? ⟨b, off + i * 6 + 1, none⟩ = some (.int .i64 (j : Int))) :
    Calls Tryz.prog 95 #[.slice (some ⟨b, off, none⟩) n cap, .int .i64 (i : Int)] w fun e w' => e = .returned (.string (str ([32] ++ fxL j))) ∧ Below w.heap.size w w' := by
  have hki : (i : Int) < (n : Int) := by omega
  have HC := l7Flags_any j w hj
  have HP := sp_str (fxL j)
  have hz : (str (fxL j)).size ≤ 10000000 := by rw [str_size]; exact Nat.le_trans (fxL_len hj) (by omega)
  have hz2 : ¬ 9223372036854775807 < 1 + (str (fxL j)).size := by omega
  generalize [32] ++ fxL j = r at *
  generalize str (fxL j) = x at *
  generalize str r = y at *
  go_enter Tryz.func95, Tryz.ntmps95
  go_wp2_with fail
  refine HC.mono ?_
  rintro e w1 ⟨rfl, hb1⟩
  clear HC
  go_wp2
  go_ret
  exact ⟨by rw [← HP]; rfl, hb1⟩

set_option maxHeartbeats 1600000 in
set_option maxRecDepth 100000 in
theorem tail_345 (b off n cap i : Nat) (w : World) (hi : i < n) (k : Int) (hk : k = 3 ∨ k = 4 ∨ k = 5) (j : Nat) (hj : j ≤ 9999) (c0 : w.cell? ⟨b, off + i * 6, none⟩ = some (.int .i64 k)) (c1 : w.cell? ⟨b, off + i * 6 + 1, none⟩ = some (.int .i64 (j : Int))) :
    Calls Tryz.prog 95 #[.slice (some ⟨b, off, none⟩) n cap, .int .i64 (i : Int)] w fun e w' => e = .returned (.string (str ([32] ++ dgF 3 j))) ∧ Below w.heap.size w w' := by
  have hki : (i : Int) < (n : Int) := by omega
  have HC := l1Digits_any 3 j w (by omega) (by omega)
  have HP := sp_str (dgF 3 j)
  have hz : (str (dgF 3 j)).size ≤ 10000000 := by rw [str_size]; exact Nat.le_trans (dgF_len 3 j) (by omega)
  have hz2 : ¬ 9223372036854775807 < 1 + (str (dgF 3 j)).size := by omega
  have q1 : ¬ k = 1 := by omega
  have q2 : ¬ k = 2 := by omega
  have q6 : ¬ k = 6 := by omega
  have q7 : ¬ k = 7 := by omega
  have q8 : ¬ k = 8 := by omega
  have q9 : ¬ k = 9 := by omega
  have q10 : ¬ k = 10 := by omega
  have q11 : ¬ k = 11 := by omega
  clear hk
  generalize [32] ++ dgF 3 j = r at *
  generalize str (dgF 3 j) = x at *
  generalize str r = y at *
  go_enter Tryz.func95, Tryz.ntmps95
  go_wp2_with fail
  refine HC.mono ?_
  rintro e w1 ⟨rfl, hb1⟩
  clear HC
  go_wp2
  go_ret
  exact ⟨by rw [← HP]; rfl, hb1⟩

set_option maxHeartbeats 1600000 in
set_option maxRecDepth 100000 in
theorem tail_67 (b off n cap i : Nat) (w : World) (hi : i < n) (k : Int) (hk : k = 6 ∨ k = 7) (a : Option Addr) (m c : Nat) (l : List Int) (hl : l.length = m) (hm : m ≤ 20) (hch : ∀ x ∈ l, chr x = true) (hr : RdI w a l) (c0 : w.cell? ⟨b, off + i * 6, none⟩ = some (.int .i64 k)) (c2 : w.cell? ⟨b, off + i * 6 + 2, none⟩ = some (.slice a m c)) :
    Calls Tryz.prog 95 #[.slice (some ⟨b, off, none⟩) n cap, .int .i64 (i : Int)] w fun e w' => e = .returned (.string (str ([32] ++ (encT 4 l).2))) ∧ Below w.heap.size w w' := by
  have hki : (i : Int) < (n : Int) := by omega
  have hf : flt l = 0 := flt_ok (by omega) (List.all_eq_true.2 hch)
  have HC := l2Encode_any 4 a m c l w (by omega) hl hr (by omega) hch
  have hV : encV 4 l = encT 4 l := (encT_ok (by omega) hf).symm
  have HP := sp_str ((encT 4 l).2)
  have hz : (str ((encT 4 l).2)).size ≤ 10000000 := by rw [str_size]; exact Nat.le_trans (encT_few 4 l) (by omega)
  have hz2 : ¬ 9223372036854775807 < 1 + (str ((encT 4 l).2)).size := by omega
  unfold EncEnd at HC
  rw [hV] at HC
  have q1 : ¬ k = 1 := by omega
  have q2 : ¬ k = 2 := by omega
  clear hf hV hl hr hm hch
  generalize (encT 4 l).2 = r0 at *
  generalize [32] ++ r0 = r at *
  generalize hr0 : str r0 = x at *
  generalize str r = y at *
  go_enter Tryz.func95, Tryz.ntmps95
  rcases hk with rfl | rfl
  all_goals
    go_wp2_with fail
    refine HC.mono ?_
    rintro e w1 ⟨v, rfl, hO, hb1⟩
    obtain ⟨av, cv, rfl, -, -⟩ := hO.form
    have hst := fun (c : Nat) => (run_str (w := w1) (a := av) (n := r0.length) (cap := c) rfl hO.rd.2).trans (by rw [hr0])
    clear HC hO
    go_wp2
    go_ret
    exact ⟨by rw [← HP]; rfl, hb1⟩

set_option maxHeartbeats 1600000 in
set_option maxRecDepth 100000 in
theorem tail_8 (b off n cap i : Nat) (w : World) (hi : i < n) (a : Option Addr) (m c : Nat) (l : List YgP) (hl : l.length = m) (hok : rfV l = 0) (hr : RdY w a l) (c0 : w.cell? ⟨b, off + i * 6, none⟩ = some (.int .i64 8)) (c3 : w.cell? ⟨b, off + i * 6 + 3, none⟩ = some (.slice a m c)) :
    Calls Tryz.prog 95 #[.slice (some ⟨b, off, none⟩) n cap, .int .i64 (i : Int)] w fun e w' => e = .returned (.string (str ([32] ++ txY l))) ∧ Below w.heap.size w w' := by
  have hki : (i : Int) < (n : Int) := by omega
  obtain ⟨hA, hm1, hm8⟩ := rfV_A hok
  have HC := l11Text_any a m c l w hl hr (by omega) hA
  have HP := sp_str (txY l)
  have hz : (str (txY l)).size ≤ 10000000 := by rw [str_size]; exact Nat.le_trans (txY_len l) (by omega)
  have hz2 : ¬ 9223372036854775807 < 1 + (str (txY l)).size := by omega
  clear hl hr hok hA
  generalize [32] ++ txY l = r at *
  generalize str (txY l) = x at *
  generalize str r = y at *
  go_enter Tryz.func95, Tryz.ntmps95
  go_wp2_with fail
  refine HC.mono ?_
  rintro e w1 ⟨rfl, hb1⟩
  clear HC
  go_wp2
  go_ret
  exact ⟨by rw [← HP]; rfl, hb1⟩

set_option maxHeartbeats 1600000 in
set_option maxRecDepth 100000 in
theorem tail_9 (b off n cap i : Nat) (w : World) (hi : i < n) (j : Nat) (x : List Nat) (hx : x.length ≤ 9999000) (HX : Hid (∀ W, Below w.heap.size w W → Calls Tryz.prog 49 #[.slice (some ⟨b, off, none⟩) n cap, .int .i64 (j : Int)] W fun e w' => e = .returned (.string (str x)) ∧ Below W.heap.size W w')) (c0 : w.cell? ⟨b, off + i * 6, none⟩ = some (.int .i64 9)) (c4 : w.cell? ⟨b, off + i * 6 + 4, none⟩ = some (.int .i64 (j : Int))) :
    Calls Tryz.prog 95 #[.slice (some ⟨b, off, none⟩) n cap, .int .i64 (i : Int)] w fun e w' => e = .returned (.string (str ([32] ++ x))) ∧ Below w.heap.size w w' := by
  have hki : (i : Int) < (n : Int) := by omega
  have HC := HX.out w (Below.refl _ _)
  have HP := sp_str (x)
  have hz : (str (x)).size ≤ 10000000 := by rw [str_size]; omega
  have hz2 : ¬ 9223372036854775807 < 1 + (str (x)).size := by omega
  clear HX
  generalize [32] ++ x = r at *
  generalize str x = x at *
  generalize str r = y at *
  go_enter Tryz.func95, Tryz.ntmps95
  go_wp2_with fail
  refine HC.mono ?_
  rintro e w1 ⟨rfl, hb1⟩
  clear HC
  go_wp2
  go_ret
  exact ⟨by rw [← HP]; rfl, hb1⟩
end Go.Proofs.YthmimalplpjghaaGreatDoor
