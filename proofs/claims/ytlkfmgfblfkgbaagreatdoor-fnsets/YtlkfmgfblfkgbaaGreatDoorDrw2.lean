/- More of the model's draws: a source, a chance, a pick, some bytes; each ends within small bounds and turns nothing but its source. -/
import Derived.Test.YtlkfmgfblfkgbaaGreatDoorDrw
namespace Go.Proofs.YtlkfmgfblfkgbaaGreatDoor
open Go.RowKit

set_option maxHeartbeats 800000 in
set_option maxRecDepth 100000 in
theorem l1Source_any (a : Option Addr) (n cap : Nat) (l : List Nat) (w : World) (hl : l.length = n) (hr : Rd w a l) (hB : IsB l) (hn : n ≤ 1048576) :
    Calls Tryz.prog 17 #[.slice a n cap] w fun e w' => e = .returned (.pointer (some ⟨w.heap.size, 0, none⟩)) ∧ Src w' w.heap.size w.heap.size 0 ∧ Below w.heap.size w w' := by
  have hb : Below w.heap.size w (w.alloc (.cells #[.slice a n cap, .int .i64 0] 63)) := (Below.refl _ _).alloc (Nat.le_refl _) _
  have hS : Src (w.alloc (.cells #[.slice a n cap, .int .i64 0] 63)) w.heap.size w.heap.size 0 := by
    refine ⟨Nat.le_refl _, by simp, a, n, cap, 0, l, by simp, by simp, by simp, hl, hn, hB, Nat.le_refl _, ?_⟩
    rcases hr with h | ⟨d, off, e, hlt, hc⟩
    · exact .inl h
    · exact .inr ⟨d, off, e, hlt, fun i hi => (hb.cell (p := ⟨d, off + i, none⟩) hlt).trans (hc i (by omega))⟩
  have HS : Hid (_) := hS
  clear hS
  go_enter Tryz.func17, Tryz.ntmps17
  go_wp2
  go_ret
  exact ⟨rfl, HS.out, hb⟩

set_option maxHeartbeats 800000 in
set_option maxRecDepth 100000 in
theorem l1Chance_any (B b M : Nat) (k : Int) (w : World) (hs : Src w B b M) (hM : M ≤ 100000) (h0 : 0 ≤ k) (hk : k ≤ 1000) :
    Calls Tryz.prog 26 #[.pointer (some ⟨b, 0, none⟩), .int .i64 k] w fun e w' =>
      ∃ q : Bool, e = .returned (.bool q) ∧ Src w' B b (M + 1) ∧ w.grownBy w' (some b) := by
  go_enter Tryz.func26, Tryz.ntmps26
  go_wp2_with fail
  refine (l1Next_any B b M k _ hs hM h0 hk).mono ?_
  rintro e w1 ⟨r, rfl, _, _, _, h1, h2⟩
  have H1 : Hid (_) := h1
  have H2 : Hid (_) := h2
  clear h1 h2
  by_cases hr : r = 0
  · have e0 : (r == 0) = true := beq_iff_eq.2 hr
    go_wp2
    go_ret
    exact Exists.intro true ⟨rfl, H1.out, H2.out⟩
  · have e0 : (r == 0) = false := beq_eq_false_iff_ne.2 hr
    go_wp2
    go_ret
    exact Exists.intro false ⟨rfl, H1.out, H2.out⟩

/-- A row of whole numbers in a block of its own. -/
def Nums (w : World) (g : Nat) (vs : List Int) : Prop := ∀ i, i < vs.length → w.cell? ⟨g, i, none⟩ = some (.int .i64 (vs.getD i 0))

set_option maxHeartbeats 800000 in
set_option maxRecDepth 100000 in
theorem l1Pick_any (B b M g m cap : Nat) (vs : List Int) (w : World) (hs : Src w B b M) (hM : M ≤ 100000) (hm : vs.length = m) (h1 : 1 ≤ m) (h6 : m ≤ 100) (hv : Nums w g vs) (hg : b < g) :
    Calls Tryz.prog 21 #[.pointer (some ⟨b, 0, none⟩), .slice (some ⟨g, 0, none⟩) m cap] w fun e w' =>
      ∃ r : Int, e = .returned (.int .i64 r) ∧ r ∈ vs ∧ Src w' B b (M + 1) ∧ w.grownBy w' (some b) := by
  go_enter Tryz.func21, Tryz.ntmps21
  go_wp2_with fail
  refine (l1Next_any B b M (m : Int) _ hs hM (by omega) (by omega)).mono ?_
  rintro e w1 ⟨r, rfl, r0, r1, _, h1', h2⟩
  obtain ⟨j, rfl⟩ := Int.eq_ofNat_of_zero_le r0
  have hjm : j < m := by have := r1 (by omega); omega
  have hjm' : (j : Int) < (m : Int) := by omega
  have hlt : g < w.heap.size := World.block_lt_of_cell? w _ (hv 0 (by omega))
  have hc : w1.cell? ⟨g, j, none⟩ = some (.int .i64 (vs.getD j 0)) := (h2.cell_far ⟨g, j, none⟩ hlt (by simp; omega)).trans (hv j (by omega))
  have hmem : vs.getD j 0 ∈ vs := by rw [List.getD_eq_getElem?_getD, List.getElem?_eq_getElem (by omega)]; exact List.getElem_mem _
  generalize vs.getD j 0 = x at *
  have H1 : Hid (_) := h1'
  have H2 : Hid (_) := h2
  have H3 : Hid (_) := hmem
  clear h1' h2 hmem hv r1
  go_wp2
  go_ret
  exact ⟨x, rfl, H3.out, H1.out, H2.out⟩

theorem nums_new {w : World} {cs : Array Value} {vs : List Int} {t : TypeId} (h : cs.toList = vs.map (Value.int .i64)) : Nums (w.alloc (.cells cs t)) w.heap.size vs := by
  intro i hi
  rw [World.cell?_alloc_mark, ← Array.getElem?_toList, h]
  simp [hi]

end Go.Proofs.YtlkfmgfblfkgbaaGreatDoor
