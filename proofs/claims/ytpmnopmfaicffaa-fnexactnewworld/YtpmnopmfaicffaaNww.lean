/- New sessions on both sides; one to three of them. -/
import Derived.Test.YtpmnopmfaicffaaCp4
import Derived.Test.YtpmnopmfaicffaaApp
import Derived.Laws.MakeOwn
import Derived.Handy
import Derived.Deep.RegionHeld3
import Derived.OrdersHeld
import Derived.Test.YtpmnopmfaicffaaTkw
import Derived.Below
namespace Go.Proofs.Ytpmnopmfaicffaa
open Go.RowKit
set_option linter.unusedVariables false

/-- The cells of so many new sessions. -/
def seC : Nat → List Value
  | 0 => []
  | k + 1 => .string ⟨#[]⟩ :: .int .i64 0 :: .slice none 0 0 :: .int .i64 1 :: seC k

/-- The cells of so many sessions that are nothing. -/
def zeC : Nat → List Value
  | 0 => []
  | k + 1 => .string ⟨#[]⟩ :: .int .i64 0 :: .slice none 0 0 :: .int .i64 0 :: zeC k

def NsEnd (k : Nat) (w : World) (e : Ending) (w' : World) : Prop := ∃ g, e = .returned (.slice (some ⟨g, 0, none⟩) k k) ∧ w.heap.size ≤ g ∧ w'.heap[g]? = some (.cells (seC k).toArray 44 (0, 0)) ∧ Below w.heap.size w w'

set_option maxHeartbeats 1600000 in
theorem mul_1 (w : World) : Calls Try.prog 32 #[.int .u64 1, .int .u64 1] w fun e w' => e = .returned (.tuple #[.int .u64 0, .int .u64 1]) ∧ w = w' := by
  go_enter Try.func32, Try.ntmps32
  go_wp2
  go_returns
  exact ⟨congrArg Ending.returned (by kernel_rfl), rfl⟩

set_option maxHeartbeats 1600000 in
theorem mul_2 (w : World) : Calls Try.prog 32 #[.int .u64 1, .int .u64 2] w fun e w' => e = .returned (.tuple #[.int .u64 0, .int .u64 2]) ∧ w = w' := by
  go_enter Try.func32, Try.ntmps32
  go_wp2
  go_returns
  exact ⟨congrArg Ending.returned (by kernel_rfl), rfl⟩

set_option maxHeartbeats 1600000 in
theorem mul_3 (w : World) : Calls Try.prog 32 #[.int .u64 1, .int .u64 3] w fun e w' => e = .returned (.tuple #[.int .u64 0, .int .u64 3]) ∧ w = w' := by
  go_enter Try.func32, Try.ntmps32
  go_wp2
  go_returns
  exact ⟨congrArg Ending.returned (by kernel_rfl), rfl⟩

theorem made_1 : madeCells #[.string ⟨#[]⟩, .int .i64 0, .slice none 0 0, .int .i64 0] (1 * 4) = #[.string ⟨#[]⟩, .int .i64 0, .slice none 0 0, .int .i64 0] := by kernel_rfl
theorem made_2 : madeCells #[.string ⟨#[]⟩, .int .i64 0, .slice none 0 0, .int .i64 0] (2 * 4) = #[.string ⟨#[]⟩, .int .i64 0, .slice none 0 0, .int .i64 0, .string ⟨#[]⟩, .int .i64 0, .slice none 0 0, .int .i64 0] := by kernel_rfl
theorem made_3 : madeCells #[.string ⟨#[]⟩, .int .i64 0, .slice none 0 0, .int .i64 0] (3 * 4) = #[.string ⟨#[]⟩, .int .i64 0, .slice none 0 0, .int .i64 0, .string ⟨#[]⟩, .int .i64 0, .slice none 0 0, .int .i64 0, .string ⟨#[]⟩, .int .i64 0, .slice none 0 0, .int .i64 0] := by kernel_rfl
theorem infoSe : (Try.prog.info? 44).map (fun i => (i.zero, i.size, i.bytes)) = some (some (.agg #[.string ⟨#[]⟩, .int .i64 0, .slice none 0 0, .int .i64 0]), 4, 56) := by kernel_rfl
theorem make_se (k : Nat) (hk : k ≤ 3) (w : World) : (Instr.makeSlice 29 (.int .i64 (k : Int)) (.int .i64 (k : Int))).run Try.prog w = .ok (.slice (some ⟨w.heap.size, 0, none⟩) k k) (w.alloc (.cells (madeCells #[.string ⟨#[]⟩, .int .i64 0, .slice none 0 0, .int .i64 0] (k * 4)) 44)) := by
  obtain ⟨i0, hi, hz0, hz1, hz2⟩ := info_parts infoSe
  have h := run_makeSlice (P := Try.prog) w 29 44 i0 (.agg #[.string ⟨#[]⟩, .int .i64 0, .slice none 0 0, .int .i64 0]) Try.underlying29 hi hz0 .i64 .i64 (k : Int) (k : Int) (by omega) (by omega) (by rw [hz1]; omega) (by rw [hz2]; omega) (by omega)
  rw [hz1] at h
  exact h

theorem seC_one (k : Nat) : ∀ v ∈ seC k, v.oneCell' = true := by
  induction k with
  | zero => intro v hv; cases hv
  | succ k ih =>
    intro v hv
    simp only [seC, List.mem_cons] at hv
    rcases hv with rfl | rfl | rfl | rfl | hv
    · rfl
    · rfl
    · rfl
    · rfl
    · exact ih v hv
theorem seC_src {W : World} {g : Nat} {L : List Value} (h : W.heap[g]? = some (.cells (seC 1 ++ L).toArray 44 (0, 0))) : ∀ (j : Nat) (v : Value), (seC 1)[j]? = some v → W.cell? ((⟨g, 0, none⟩ : Addr).add j) = some v := by
  intro j v hj
  rw [Go.WideShapes.add_plain, Nat.zero_add]
  have hjl : j < (seC 1).length := (List.getElem?_eq_some_iff.1 hj).1
  have : (seC 1 ++ L)[j]? = some v := by rw [List.getElem?_append_left hjl]; exact hj
  simp [World.cell?, h, this]

set_option maxHeartbeats 1600000 in
set_option maxRecDepth 100000 in
theorem fresh_1 (w : World) : Calls Try.prog 14 #[.int .i64 1] w (NsEnd 1 w) := by
  have hmk : ∀ W : World, (Instr.makeSlice 29 (.int .i64 1) (.int .i64 1)).run Try.prog W = .ok (.slice (some ⟨W.heap.size, 0, none⟩) 1 1) (W.alloc (.cells #[.string ⟨#[]⟩, .int .i64 0, .slice none 0 0, .int .i64 0] 44)) := fun W => by
    have h := make_se 1 (by omega) W
    rw [made_1] at h
    exact h
  have HM := mul_1
  have hg : Hid (((w.alloc (.cells #[.string ⟨#[]⟩, .int .i64 0, .slice none 0 0, .int .i64 1] 44)).alloc (.cells #[.string ⟨#[]⟩, .int .i64 0, .slice none 0 0, .int .i64 0] 44)).heap[w.heap.size + 1]? = some (.cells #[.string ⟨#[]⟩, .int .i64 0, .slice none 0 0, .int .i64 0] 44 (0, 0))) := by
    have h := heap_alloc_new (w.alloc (.cells #[.string ⟨#[]⟩, .int .i64 0, .slice none 0 0, .int .i64 1] 44)) (.cells #[.string ⟨#[]⟩, .int .i64 0, .slice none 0 0, .int .i64 0] 44)
    rw [World.size_alloc] at h
    exact h
  have h0 : ((w.alloc (.cells #[.string ⟨#[]⟩, .int .i64 0, .slice none 0 0, .int .i64 1] 44)).alloc (.cells #[.string ⟨#[]⟩, .int .i64 0, .slice none 0 0, .int .i64 0] 44)).heap[w.heap.size]? = some (.cells (seC 1 ++ []).toArray 44 (0, 0)) := (Below.heap_alloc _ _ _ (by simp)).trans (heap_alloc_new w _)
  have hsrc : Hid (∀ (j : Nat) (v : Value), (seC 1)[j]? = some v → ((w.alloc (.cells #[.string ⟨#[]⟩, .int .i64 0, .slice none 0 0, .int .i64 1] 44)).alloc (.cells #[.string ⟨#[]⟩, .int .i64 0, .slice none 0 0, .int .i64 0] 44)).cell? ((⟨w.heap.size, 0, none⟩ : Addr).add j) = some v) := seC_src h0
  have hb : Hid (Below w.heap.size w ((w.alloc (.cells #[.string ⟨#[]⟩, .int .i64 0, .slice none 0 0, .int .i64 1] 44)).alloc (.cells #[.string ⟨#[]⟩, .int .i64 0, .slice none 0 0, .int .i64 0] 44))) := ((Below.refl _ _).alloc (Nat.le_refl _) _).alloc (by simp) _
  clear h0
  go_enter Try.func14, Try.ntmps14
  go_wp2_with (first
    | (go_at_call 32; refine (HM _).mono ?_; rintro e w1 ⟨rfl, rfl⟩)
    | (refine wpList_copy_k rfl _ _ 29 29 rfl 44 4 1 (by kernel_rfl) (by kernel_rfl) (w.heap.size + 1) 0 1 1 ⟨w.heap.size, 0, none⟩ 1 1 rfl rfl _ 44 hg.out (seC 1) rfl rfl hsrc.out (by decide) (seC_one 1) ?_; intro w1 hg1 hb1 hz1)
    | go_in)
  have hb1' := hb1 w.heap.size w hb.out (by omega)
  have hg1' : w1.heap[w.heap.size + 1]? = some (.cells (seC 1 ++ []).toArray 44 (0, 0)) := hg1.out
  have hs1 := (show Hid _ from seC_src hg1')
  clear hg hsrc hb hg1 hb1
  refine wp_loop_rounds 1 ?_
  rw [rounds_succ]
  go_wp2
  go_ret
  exact ⟨_, rfl, by omega, hg1', hb1'⟩

set_option maxHeartbeats 1600000 in
set_option maxRecDepth 100000 in
theorem fresh_2 (w : World) : Calls Try.prog 14 #[.int .i64 2] w (NsEnd 2 w) := by
  have hmk : ∀ W : World, (Instr.makeSlice 29 (.int .i64 2) (.int .i64 2)).run Try.prog W = .ok (.slice (some ⟨W.heap.size, 0, none⟩) 2 2) (W.alloc (.cells #[.string ⟨#[]⟩, .int .i64 0, .slice none 0 0, .int .i64 0, .string ⟨#[]⟩, .int .i64 0, .slice none 0 0, .int .i64 0] 44)) := fun W => by
    have h := make_se 2 (by omega) W
    rw [made_2] at h
    exact h
  have HM := mul_2
  have hg : Hid (((w.alloc (.cells #[.string ⟨#[]⟩, .int .i64 0, .slice none 0 0, .int .i64 1] 44)).alloc (.cells #[.string ⟨#[]⟩, .int .i64 0, .slice none 0 0, .int .i64 0, .string ⟨#[]⟩, .int .i64 0, .slice none 0 0, .int .i64 0] 44)).heap[w.heap.size + 1]? = some (.cells #[.string ⟨#[]⟩, .int .i64 0, .slice none 0 0, .int .i64 0, .string ⟨#[]⟩, .int .i64 0, .slice none 0 0, .int .i64 0] 44 (0, 0))) := by
    have h := heap_alloc_new (w.alloc (.cells #[.string ⟨#[]⟩, .int .i64 0, .slice none 0 0, .int .i64 1] 44)) (.cells #[.string ⟨#[]⟩, .int .i64 0, .slice none 0 0, .int .i64 0, .string ⟨#[]⟩, .int .i64 0, .slice none 0 0, .int .i64 0] 44)
    rw [World.size_alloc] at h
    exact h
  have h0 : ((w.alloc (.cells #[.string ⟨#[]⟩, .int .i64 0, .slice none 0 0, .int .i64 1] 44)).alloc (.cells #[.string ⟨#[]⟩, .int .i64 0, .slice none 0 0, .int .i64 0, .string ⟨#[]⟩, .int .i64 0, .slice none 0 0, .int .i64 0] 44)).heap[w.heap.size]? = some (.cells (seC 1 ++ []).toArray 44 (0, 0)) := (Below.heap_alloc _ _ _ (by simp)).trans (heap_alloc_new w _)
  have hsrc : Hid (∀ (j : Nat) (v : Value), (seC 1)[j]? = some v → ((w.alloc (.cells #[.string ⟨#[]⟩, .int .i64 0, .slice none 0 0, .int .i64 1] 44)).alloc (.cells #[.string ⟨#[]⟩, .int .i64 0, .slice none 0 0, .int .i64 0, .string ⟨#[]⟩, .int .i64 0, .slice none 0 0, .int .i64 0] 44)).cell? ((⟨w.heap.size, 0, none⟩ : Addr).add j) = some v) := seC_src h0
  have hb : Hid (Below w.heap.size w ((w.alloc (.cells #[.string ⟨#[]⟩, .int .i64 0, .slice none 0 0, .int .i64 1] 44)).alloc (.cells #[.string ⟨#[]⟩, .int .i64 0, .slice none 0 0, .int .i64 0, .string ⟨#[]⟩, .int .i64 0, .slice none 0 0, .int .i64 0] 44))) := ((Below.refl _ _).alloc (Nat.le_refl _) _).alloc (by simp) _
  clear h0
  go_enter Try.func14, Try.ntmps14
  go_wp2_with (first
    | (go_at_call 32; refine (HM _).mono ?_; rintro e w1 ⟨rfl, rfl⟩)
    | (refine wpList_copy_k rfl _ _ 29 29 rfl 44 4 1 (by kernel_rfl) (by kernel_rfl) (w.heap.size + 1) 0 2 2 ⟨w.heap.size, 0, none⟩ 1 1 rfl rfl _ 44 hg.out (seC 1) rfl rfl hsrc.out (by decide) (seC_one 1) ?_; intro w1 hg1 hb1 hz1)
    | go_in)
  have hb1' := hb1 w.heap.size w hb.out (by omega)
  have hg1' : w1.heap[w.heap.size + 1]? = some (.cells (seC 1 ++ zeC 1).toArray 44 (0, 0)) := hg1.out
  have hs1 := (show Hid _ from seC_src hg1')
  clear hg hsrc hb hg1 hb1
  refine wp_loop_rounds 2 ?_
  rw [rounds_succ]
  go_wp2_with fail
  refine wp_region_held_drew (S := fun _ => True) (by kernel_rfl) trivial (fun hHeld => ?_)
  refine tk (i := 0) (v := ?_) rfl (Or.inl ⟨by rfl, ?hy20⟩) ?ty20 (hS := trivial)
  case hy20 => (intro w hSw; go_simp; all_goals with_reducible rfl)
  simp only [Act.put, J1, J2, J4, J5, J6]
  refine tk (i := 1) (v := ?_) rfl (Or.inl ⟨by rfl, ?hy21⟩) ?ty21 (hS := trivial)
  case hy21 => (intro w hSw; go_simp; all_goals with_reducible rfl)
  simp only [Act.put, J1, J2, J3, J4, J5, J6]
  refine tk (i := 2) (v := ?_) rfl (Or.inl ⟨by rfl, ?hy22⟩) ?ty22 (hS := trivial)
  case hy22 => (intro w hSw; go_simp; all_goals with_reducible rfl)
  simp only [Act.put, J1, J2, J3, J4, J5, J6]
  refine tk (i := 3) (v := ?_) rfl (Or.inl ⟨by rfl, ?hy23⟩) ?ty23 (hS := trivial)
  case hy23 => (intro w hSw; go_simp; all_goals with_reducible rfl)
  simp only [Act.put, J1, J2, J3, J4, J5, J6]
  refine tk (i := 4) (v := ?_) rfl (Or.inl ⟨by rfl, ?hy24⟩) ?ty24 (hS := trivial)
  case hy24 => (intro w hSw; go_simp; all_goals with_reducible rfl)
  simp only [Act.put, J1, J2, J3, J4, J5, J6]
  refine tk (i := 5) (v := ?_) rfl (Or.inl ⟨by rfl, ?hy25⟩) ?ty25 (hS := trivial)
  case hy25 => (intro w hSw; go_simp; all_goals with_reducible rfl)
  simp only [Act.put, J1, J2, J3, J4, J5, J6]
  refine tk (i := 6) (v := ?_) rfl (Or.inl ⟨by rfl, ?hy26⟩) ?ty26 (hS := trivial)
  case hy26 => (intro w hSw; go_simp; all_goals with_reducible rfl)
  simp only [Act.put, J1, J2, J3, J4, J5, J6]
  refine wpAnyH_ready (rs := [7]) (by kernel_rfl) (by simp) ?_
  refine AllReadyH.cons rfl (fun K hK => ?_) AllReadyH.nil
  refine step_copy_k rfl _ _ 29 29 rfl 44 4 1 (by kernel_rfl) (by kernel_rfl) (w.heap.size + 1) 4 1 1 ⟨w.heap.size + 1, 0, none⟩ 1 2 rfl rfl _ 44 hg1' (seC 1) rfl rfl hs1.out (by decide) (seC_one 1) ?_
  intro w2 hg2 hb2 hz2
  refine hK.out _ _ trivial (fun hHeld => ?_)
  clear hK K
  simp only [Act.put, J1, J2, J3, J4, J5, J6]
  refine tk (i := 8) (v := ?_) rfl (Or.inl ⟨by rfl, ?hy28⟩) ?ty28 (hS := trivial)
  case hy28 => (intro w hSw; go_simp; all_goals with_reducible rfl)
  simp only [Act.put, J1, J2, J3, J4, J5, J6]
  refine tk (i := 9) (v := ?_) rfl (Or.inl ⟨by rfl, ?hy29⟩) ?ty29 (hS := trivial)
  case hy29 => (intro w hSw; go_simp; all_goals with_reducible rfl)
  simp only [Act.put, J1, J2, J3, J4, J5, J6]
  refine wpAnyH_done (by kernel_rfl) ?_ _
  clear hHeld
  have hb2' := hb2 w.heap.size w hb1'.drew (by omega)
  have hg2' : w2.heap[w.heap.size + 1]? = some (.cells (seC 2).toArray 44 (0, 0)) := hg2.out
  go_wp2_with fail
  rw [rounds_succ]
  go_wp2
  go_ret
  exact ⟨_, rfl, by omega, hg2', hb2'⟩

set_option maxHeartbeats 1600000 in
set_option maxRecDepth 100000 in
theorem fresh_3 (w : World) : Calls Try.prog 14 #[.int .i64 3] w (NsEnd 3 w) := by
  have hmk : ∀ W : World, (Instr.makeSlice 29 (.int .i64 3) (.int .i64 3)).run Try.prog W = .ok (.slice (some ⟨W.heap.size, 0, none⟩) 3 3) (W.alloc (.cells #[.string ⟨#[]⟩, .int .i64 0, .slice none 0 0, .int .i64 0, .string ⟨#[]⟩, .int .i64 0, .slice none 0 0, .int .i64 0, .string ⟨#[]⟩, .int .i64 0, .slice none 0 0, .int .i64 0] 44)) := fun W => by
    have h := make_se 3 (by omega) W
    rw [made_3] at h
    exact h
  have HM := mul_3
  have hg : Hid (((w.alloc (.cells #[.string ⟨#[]⟩, .int .i64 0, .slice none 0 0, .int .i64 1] 44)).alloc (.cells #[.string ⟨#[]⟩, .int .i64 0, .slice none 0 0, .int .i64 0, .string ⟨#[]⟩, .int .i64 0, .slice none 0 0, .int .i64 0, .string ⟨#[]⟩, .int .i64 0, .slice none 0 0, .int .i64 0] 44)).heap[w.heap.size + 1]? = some (.cells #[.string ⟨#[]⟩, .int .i64 0, .slice none 0 0, .int .i64 0, .string ⟨#[]⟩, .int .i64 0, .slice none 0 0, .int .i64 0, .string ⟨#[]⟩, .int .i64 0, .slice none 0 0, .int .i64 0] 44 (0, 0))) := by
    have h := heap_alloc_new (w.alloc (.cells #[.string ⟨#[]⟩, .int .i64 0, .slice none 0 0, .int .i64 1] 44)) (.cells #[.string ⟨#[]⟩, .int .i64 0, .slice none 0 0, .int .i64 0, .string ⟨#[]⟩, .int .i64 0, .slice none 0 0, .int .i64 0, .string ⟨#[]⟩, .int .i64 0, .slice none 0 0, .int .i64 0] 44)
    rw [World.size_alloc] at h
    exact h
  have h0 : ((w.alloc (.cells #[.string ⟨#[]⟩, .int .i64 0, .slice none 0 0, .int .i64 1] 44)).alloc (.cells #[.string ⟨#[]⟩, .int .i64 0, .slice none 0 0, .int .i64 0, .string ⟨#[]⟩, .int .i64 0, .slice none 0 0, .int .i64 0, .string ⟨#[]⟩, .int .i64 0, .slice none 0 0, .int .i64 0] 44)).heap[w.heap.size]? = some (.cells (seC 1 ++ []).toArray 44 (0, 0)) := (Below.heap_alloc _ _ _ (by simp)).trans (heap_alloc_new w _)
  have hsrc : Hid (∀ (j : Nat) (v : Value), (seC 1)[j]? = some v → ((w.alloc (.cells #[.string ⟨#[]⟩, .int .i64 0, .slice none 0 0, .int .i64 1] 44)).alloc (.cells #[.string ⟨#[]⟩, .int .i64 0, .slice none 0 0, .int .i64 0, .string ⟨#[]⟩, .int .i64 0, .slice none 0 0, .int .i64 0, .string ⟨#[]⟩, .int .i64 0, .slice none 0 0, .int .i64 0] 44)).cell? ((⟨w.heap.size, 0, none⟩ : Addr).add j) = some v) := seC_src h0
  have hb : Hid (Below w.heap.size w ((w.alloc (.cells #[.string ⟨#[]⟩, .int .i64 0, .slice none 0 0, .int .i64 1] 44)).alloc (.cells #[.string ⟨#[]⟩, .int .i64 0, .slice none 0 0, .int .i64 0, .string ⟨#[]⟩, .int .i64 0, .slice none 0 0, .int .i64 0, .string ⟨#[]⟩, .int .i64 0, .slice none 0 0, .int .i64 0] 44))) := ((Below.refl _ _).alloc (Nat.le_refl _) _).alloc (by simp) _
  clear h0
  go_enter Try.func14, Try.ntmps14
  go_wp2_with (first
    | (go_at_call 32; refine (HM _).mono ?_; rintro e w1 ⟨rfl, rfl⟩)
    | (refine wpList_copy_k rfl _ _ 29 29 rfl 44 4 1 (by kernel_rfl) (by kernel_rfl) (w.heap.size + 1) 0 3 3 ⟨w.heap.size, 0, none⟩ 1 1 rfl rfl _ 44 hg.out (seC 1) rfl rfl hsrc.out (by decide) (seC_one 1) ?_; intro w1 hg1 hb1 hz1)
    | go_in)
  have hb1' := hb1 w.heap.size w hb.out (by omega)
  have hg1' : w1.heap[w.heap.size + 1]? = some (.cells (seC 1 ++ zeC 2).toArray 44 (0, 0)) := hg1.out
  have hs1 := (show Hid _ from seC_src hg1')
  clear hg hsrc hb hg1 hb1
  refine wp_loop_rounds 3 ?_
  rw [rounds_succ]
  go_wp2_with fail
  refine wp_region_held_drew (S := fun _ => True) (by kernel_rfl) trivial (fun hHeld => ?_)
  refine tk (i := 0) (v := ?_) rfl (Or.inl ⟨by rfl, ?hy20⟩) ?ty20 (hS := trivial)
  case hy20 => (intro w hSw; go_simp; all_goals with_reducible rfl)
  simp only [Act.put, J1, J2, J4, J5, J6]
  refine tk (i := 1) (v := ?_) rfl (Or.inl ⟨by rfl, ?hy21⟩) ?ty21 (hS := trivial)
  case hy21 => (intro w hSw; go_simp; all_goals with_reducible rfl)
  simp only [Act.put, J1, J2, J3, J4, J5, J6]
  refine tk (i := 2) (v := ?_) rfl (Or.inl ⟨by rfl, ?hy22⟩) ?ty22 (hS := trivial)
  case hy22 => (intro w hSw; go_simp; all_goals with_reducible rfl)
  simp only [Act.put, J1, J2, J3, J4, J5, J6]
  refine tk (i := 3) (v := ?_) rfl (Or.inl ⟨by rfl, ?hy23⟩) ?ty23 (hS := trivial)
  case hy23 => (intro w hSw; go_simp; all_goals with_reducible rfl)
  simp only [Act.put, J1, J2, J3, J4, J5, J6]
  refine tk (i := 4) (v := ?_) rfl (Or.inl ⟨by rfl, ?hy24⟩) ?ty24 (hS := trivial)
  case hy24 => (intro w hSw; go_simp; all_goals with_reducible rfl)
  simp only [Act.put, J1, J2, J3, J4, J5, J6]
  refine tk (i := 5) (v := ?_) rfl (Or.inl ⟨by rfl, ?hy25⟩) ?ty25 (hS := trivial)
  case hy25 => (intro w hSw; go_simp; all_goals with_reducible rfl)
  simp only [Act.put, J1, J2, J3, J4, J5, J6]
  refine tk (i := 6) (v := ?_) rfl (Or.inl ⟨by rfl, ?hy26⟩) ?ty26 (hS := trivial)
  case hy26 => (intro w hSw; go_simp; all_goals with_reducible rfl)
  simp only [Act.put, J1, J2, J3, J4, J5, J6]
  refine wpAnyH_ready (rs := [7]) (by kernel_rfl) (by simp) ?_
  refine AllReadyH.cons rfl (fun K hK => ?_) AllReadyH.nil
  refine step_copy_k rfl _ _ 29 29 rfl 44 4 1 (by kernel_rfl) (by kernel_rfl) (w.heap.size + 1) 4 2 2 ⟨w.heap.size + 1, 0, none⟩ 1 3 rfl rfl _ 44 hg1' (seC 1) rfl rfl hs1.out (by decide) (seC_one 1) ?_
  intro w2 hg2 hb2 hz2
  refine hK.out _ _ trivial (fun hHeld => ?_)
  clear hK K
  simp only [Act.put, J1, J2, J3, J4, J5, J6]
  refine tk (i := 8) (v := ?_) rfl (Or.inl ⟨by rfl, ?hy28⟩) ?ty28 (hS := trivial)
  case hy28 => (intro w hSw; go_simp; all_goals with_reducible rfl)
  simp only [Act.put, J1, J2, J3, J4, J5, J6]
  refine tk (i := 9) (v := ?_) rfl (Or.inl ⟨by rfl, ?hy29⟩) ?ty29 (hS := trivial)
  case hy29 => (intro w hSw; go_simp; all_goals with_reducible rfl)
  simp only [Act.put, J1, J2, J3, J4, J5, J6]
  refine wpAnyH_done (by kernel_rfl) ?_ _
  clear hHeld
  have hb2' := hb2 w.heap.size w hb1'.drew (by omega)
  have hg2' : w2.heap[w.heap.size + 1]? = some (.cells (seC 1 ++ (seC 1 ++ zeC 1)).toArray 44 (0, 0)) := hg2.out
  have hs2 := (show Hid _ from seC_src hg2')
  go_wp2_with fail
  rw [rounds_succ]
  go_wp2_with fail
  simp only [show IntKind.i64.wrap 2 = 2 from by kernel_rfl]
  refine wp_region_held_drew (S := fun _ => True) (by kernel_rfl) trivial (fun hHeld => ?_)
  refine tk (i := 0) (v := ?_) rfl (Or.inl ⟨by rfl, ?hy30⟩) ?ty30 (hS := trivial)
  case hy30 => (intro w hSw; go_simp; all_goals with_reducible rfl)
  simp only [Act.put, J1, J2, J4, J5, J6]
  refine tk (i := 1) (v := ?_) rfl (Or.inl ⟨by rfl, ?hy31⟩) ?ty31 (hS := trivial)
  case hy31 => (intro w hSw; go_simp; all_goals with_reducible rfl)
  simp only [Act.put, J1, J2, J3, J4, J5, J6]
  refine tk (i := 2) (v := ?_) rfl (Or.inl ⟨by rfl, ?hy32⟩) ?ty32 (hS := trivial)
  case hy32 => (intro w hSw; go_simp; all_goals with_reducible rfl)
  simp only [Act.put, J1, J2, J3, J4, J5, J6]
  refine tk (i := 3) (v := ?_) rfl (Or.inl ⟨by rfl, ?hy33⟩) ?ty33 (hS := trivial)
  case hy33 => (intro w hSw; go_simp; all_goals with_reducible rfl)
  simp only [Act.put, J1, J2, J3, J4, J5, J6]
  refine tk (i := 4) (v := ?_) rfl (Or.inl ⟨by rfl, ?hy34⟩) ?ty34 (hS := trivial)
  case hy34 => (intro w hSw; go_simp; all_goals with_reducible rfl)
  simp only [Act.put, J1, J2, J3, J4, J5, J6]
  refine tk (i := 5) (v := ?_) rfl (Or.inl ⟨by rfl, ?hy35⟩) ?ty35 (hS := trivial)
  case hy35 => (intro w hSw; go_simp; all_goals with_reducible rfl)
  simp only [Act.put, J1, J2, J3, J4, J5, J6]
  refine tk (i := 6) (v := ?_) rfl (Or.inl ⟨by rfl, ?hy36⟩) ?ty36 (hS := trivial)
  case hy36 => (intro w hSw; go_simp; all_goals with_reducible rfl)
  simp only [Act.put, J1, J2, J3, J4, J5, J6]
  refine wpAnyH_ready (rs := [7]) (by kernel_rfl) (by simp) ?_
  refine AllReadyH.cons rfl (fun K hK => ?_) AllReadyH.nil
  refine step_copy_k rfl _ _ 29 29 rfl 44 4 1 (by kernel_rfl) (by kernel_rfl) (w.heap.size + 1) 8 1 1 ⟨w.heap.size + 1, 0, none⟩ 2 3 rfl rfl _ 44 hg2' (seC 1) rfl rfl hs2.out (by decide) (seC_one 1) ?_
  intro w3 hg3 hb3 hz3
  refine hK.out _ _ trivial (fun hHeld => ?_)
  clear hK K
  simp only [Act.put, J1, J2, J3, J4, J5, J6]
  refine tk (i := 8) (v := ?_) rfl (Or.inl ⟨by rfl, ?hy38⟩) ?ty38 (hS := trivial)
  case hy38 => (intro w hSw; go_simp; all_goals with_reducible rfl)
  simp only [Act.put, J1, J2, J3, J4, J5, J6]
  refine tk (i := 9) (v := ?_) rfl (Or.inl ⟨by rfl, ?hy39⟩) ?ty39 (hS := trivial)
  case hy39 => (intro w hSw; go_simp; all_goals with_reducible rfl)
  simp only [Act.put, J1, J2, J3, J4, J5, J6]
  refine wpAnyH_done (by kernel_rfl) ?_ _
  clear hHeld
  have hb3' := hb3 w.heap.size w hb2'.drew (by omega)
  have hg3' : w3.heap[w.heap.size + 1]? = some (.cells (seC 3).toArray 44 (0, 0)) := hg3.out
  go_wp2_with fail
  rw [rounds_succ]
  go_wp2
  go_ret
  exact ⟨_, rfl, by omega, hg3', hb3'⟩

end Go.Proofs.Ytpmnopmfaicffaa
