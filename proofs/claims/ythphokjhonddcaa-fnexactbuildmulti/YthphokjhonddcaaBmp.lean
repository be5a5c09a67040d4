/- slices.ContainsFunc over hasDashes; what BuildMulti tells, by plain functions. -/
import Derived.Test.YthphokjhonddcaaBmo
import Derived.Test.YthphokjhonddcaaMemB
namespace Go.Proofs.Ythphokjhonddcaa
open Go.RowKit

/-- Has one of some bodies a line that begins with two dashes? -/
def dsA (ls : List (List Nat)) : Bool := ls.any fun d => (lns d).any dsL
theorem dsA_yes {ls : List (List Nat)} {k : Nat} (h : k < ls.length) (hk : (lns (ls.getD k [])).any dsL = true) : dsA ls = true := by
  unfold dsA
  rw [List.any_eq_true]
  refine ⟨ls[k], List.getElem_mem h, ?_⟩
  rw [List.getD_eq_getElem?_getD, List.getElem?_eq_getElem h, Option.getD_some] at hk
  exact hk
theorem dsA_no {ls : List (List Nat)} (h : ∀ k, k < ls.length → (lns (ls.getD k [])).any dsL = false) : dsA ls = false := by
  unfold dsA
  rw [List.any_eq_false]
  intro x hx
  obtain ⟨k, hk, rfl⟩ := List.getElem_of_mem hx
  have := h k hk
  rw [List.getD_eq_getElem?_getD, List.getElem?_eq_getElem hk, Option.getD_some] at this
  rw [this]; simp
/-- All of some bodies are bytes, none of more than so many. -/
def FitB (ls : List (List Nat)) : Prop := ∀ k, k < ls.length → IsB (ls.getD k []) ∧ (ls.getD k []).length ≤ 1048576

set_option maxHeartbeats 1600000 in
set_option maxRecDepth 100000 in
theorem indexDashes_any (a : Option Addr) (n cap : Nat) (l : List SlP) (ls : List (List Nat)) (w : World) (hl : l.length = n) (hr : RdL w a l) (hrs : RdLs w l ls) (hf : FitB ls) (hn : n ≤ 1048576) :
    Calls Try.prog 26 #[.slice a n cap, .func (.func 21) #[] #[]] w fun e w' => ∃ r : Int, e = .returned (.int .i64 r) ∧ (dsA ls = true → 0 ≤ r) ∧ (dsA ls = false → r < 0) ∧ Below w.heap.size w w' := by
  have hG : ∀ (args : Array Value) (w : World), (callFunc 21 args).run Try.prog w = .ok (.enter 21 args) w := fun _ _ => by kernel_rfl
  have HI : Hid (∀ (k : Nat) (w' : World), k < n → Below w.heap.size w w' → Calls Try.prog 21 #[slV (nthL l k)] w' fun e w'' => e = .returned (.bool ((lns (ls.getD k [])).any dsL)) ∧ Below w'.heap.size w' w'') := fun k w' hk hb => by
    obtain ⟨h1, h2, h3⟩ := hrs.2 k (by omega)
    obtain ⟨h4, h5⟩ := hf k (by rw [← hrs.1]; omega)
    exact hasDashes_any _ _ _ _ w' h1.symm (h3.below hb) h4 (by omega) h2 (fun h => by
      obtain ⟨b, off, e, -⟩ := h3.at_ (by omega)
      exact ⟨b, off, e⟩)
  have HY : Hid (∀ k, k < n → (lns (ls.getD k [])).any dsL = true → dsA ls = true) := fun k hk h => dsA_yes (by rw [← hrs.1]; omega) h
  have HN : Hid ((∀ k, k < n → (lns (ls.getD k [])).any dsL = false) → dsA ls = false) := fun h => dsA_no (fun k hk => h k (by rw [← hl, hrs.1]; exact hk))
  unfold slV at HI
  generalize dsA ls = bb at *
  clear hrs hf
  go_enter Try.func26, Try.ntmps26
  go_wp2
  go_loopw [8] (fun i wr => ∃ k : Nat, k ≤ n ∧ i = .int .i64 k ∧ Hid (∀ j, j < k → (lns (ls.getD j [])).any dsL = false) ∧ Below w.heap.size w wr) (fun i _ => n - (intOf i).toNat)
  case atStart => exact ⟨0, Nat.zero_le _, rfl, fun j hj => absurd hj (Nat.not_lt_zero _), Below.refl _ _⟩
  case round =>
    obtain ⟨k, hk, rfl, HA, hbel⟩ := hrel
    by_cases hkn : k < n
    · have hki : (k : Int) < (n : Int) := by omega
      obtain ⟨g, off, rfl, hglt, hcell⟩ := (hr.below hbel).at_ (by omega)
      have x0 := hcell k (by omega)
      unfold slV at x0
      have HC := HI.out k wr hkn hbel
      have HY2 : Hid ((lns (ls.getD k [])).any dsL = true → bb = true) := HY.out k hkn
      have HN2 : Hid ((lns (ls.getD k [])).any dsL = false → ∀ j, j < k + 1 → (lns (ls.getD j [])).any dsL = false) := fun h j hj => by
        rcases Nat.lt_or_ge j k with h' | h'
        · exact HA.out j h'
        · obtain rfl : j = k := by omega
          exact h
      clear hcell HA
      generalize (lns (ls.getD k [])).any dsL = bv at *
      generalize nthL l k = p at *
      obtain ⟨p0, p1, p2⟩ := p
      dsimp only at x0 HC
      go_wp2_with fail
      refine HC.mono ?_
      rintro e w2 ⟨rfl, hb2⟩
      have hbel2 := hbel.trans (hb2.mono hbel.size)
      clear HC HI hG
      cases bv with
      | true =>
        have HM : Hid (bb = true) := HY2.out rfl
        clear HY HN HY2 HN2
        go_wp2
        go_ret
        rw [HM.out]
        exact ⟨k, rfl, (fun _ => by omega), (fun h => by cases h), hbel2⟩
      | false =>
        have HM : Hid (_) := HN2.out rfl
        clear HY2 HN2
        go_wp2
        go_roundw
        case rel => exact ⟨k + 1, by omega, by go_num, HM.out, hbel2⟩
        case measure => simp [intOf]; omega
    · have hki : ¬ (k : Int) < (n : Int) := by omega
      have HM : Hid (bb = false) := HN.out (fun i hi => HA.out i (by omega))
      clear HA HY HN
      go_wp2
      go_ret
      rw [HM.out]
      exact ⟨-1, rfl, (fun h => by cases h), (fun _ => by omega), hbel⟩

set_option maxHeartbeats 800000 in
set_option maxRecDepth 100000 in
theorem containsDashes_any (a : Option Addr) (n cap : Nat) (l : List SlP) (ls : List (List Nat)) (w : World) (hl : l.length = n) (hr : RdL w a l) (hrs : RdLs w l ls) (hf : FitB ls) (hn : n ≤ 1048576) :
    Calls Try.prog 20 #[.slice a n cap, .func (.func 21) #[] #[]] w fun e w' => e = .returned (.bool (dsA ls)) ∧ Below w.heap.size w w' := by
  have HC := indexDashes_any a n cap l ls w hl hr hrs hf hn
  generalize dsA ls = bb at *
  go_enter Try.func20, Try.ntmps20
  go_wp2_with fail
  refine HC.mono ?_
  rintro e w1 ⟨r, rfl, h1, h2, hb1⟩
  clear HC
  cases bb with
  | true =>
    have h0 := h1 rfl
    clear h1 h2
    go_wp2
    go_ret
    exact ⟨rfl, hb1⟩
  | false =>
    have h0 := h2 rfl
    have h0' : ¬ 0 ≤ r := by omega
    clear h1 h2
    go_wp2
    go_ret
    exact ⟨by show Ending.returned (.bool (decide (0 ≤ r))) = _; rw [decide_eq_false (by omega)], hb1⟩

/-- What is written ahead of the parts, ahead of each, behind all. -/
def bmH (mk : List Nat) : List Nat := bts ⟨#[67, 111, 110, 116, 101, 110, 116, 45, 84, 121, 112, 101, 58, 32, 109, 117, 108, 116, 105, 112, 97, 114, 116, 47, 109, 105, 120, 101, 100, 59, 32, 98, 111, 117, 110, 100, 97, 114, 121, 61]⟩ ++ mk ++ [10, 10]
def bmL (mk : List Nat) : List Nat := [45, 45] ++ mk ++ [10]
def bmE (mk : List Nat) : List Nat := [45, 45] ++ mk ++ [45, 45] ++ [10]
def bmB (mk : List Nat) (ls : List (List Nat)) : List Nat := ls.flatMap fun d => bmL mk ++ d ++ [10]
def bmA (mk : List Nat) (ls : List (List Nat)) : List Nat := bmH mk ++ bmB mk ls ++ bmE mk
/-- What BuildMulti answers. -/
def bmV (mk : List Nat) (ls : List (List Nat)) : Int × List Nat := if mkOk mk = false then (5, []) else if 6 < ls.length then (2, []) else if dsA ls = true then (1, []) else if 400 < (bmA mk ls).length then (2, []) else (0, bmA mk ls)
theorem bmB_snoc {mk : List Nat} {ls : List (List Nat)} {k : Nat} (h : k < ls.length) : bmB mk (ls.take (k + 1)) = bmB mk (ls.take k) ++ (bmL mk ++ ls.getD k [] ++ [10]) := by
  unfold bmB
  rw [List.take_succ_eq_append_getElem h, List.flatMap_append, List.getD_eq_getElem?_getD, List.getElem?_eq_getElem h]
  simp
end Go.Proofs.Ythphokjhonddcaa
