/- The laws' marks in slices of ranges and in answers of ranges: what is marked is found again; two that are alike are held to be the same; at most 1048576 ranges. -/
import Derived.Test.YtlkfmgfblfkgbaaDoorRgS
import Derived.Test.YtlkfmgfblfkgbaaDoorMrk0
import Derived.Test.YtlkfmgfblfkgbaaDoorAppI
import Derived.Handy
namespace Go.Proofs.YtlkfmgfblfkgbaaDoor
open Go.RowKit

/-- The marks: two for each of n ranges, from k on. -/
def marksY (n k : Nat) : List YgP := (List.range n).map fun i => (((k + 2 * i : Nat) : Int), ((k + 2 * i : Nat) : Int) + 1)
theorem marksY_len (n k : Nat) : (marksY n k).length = n := by simp [marksY]
theorem marksY_nth {n k i : Nat} (h : i < n) : nthY (marksY n k) i = (((k + 2 * i : Nat) : Int), ((k + 2 * i : Nat) : Int) + 1) := by
  rw [nthY_get (by rw [marksY_len]; exact h)]; simp [marksY]
def mhalfY (l : List YgP) (k i : Nat) : List YgP := marksY i k ++ l.drop i
theorem mhalfY_zero (l : List YgP) (k : Nat) : mhalfY l k 0 = l := by simp [mhalfY, marksY]
theorem mhalfY_all (l : List YgP) (k : Nat) : mhalfY l k l.length = marksY l.length k := by simp [mhalfY]
theorem mhalfY_len (l : List YgP) (k i : Nat) (h : i ≤ l.length) : (mhalfY l k i).length = l.length := by simp [mhalfY, marksY_len]; omega
theorem mhalfY_set (l : List YgP) (k i : Nat) (h : i < l.length) : (mhalfY l k i).set i (((k + 2 * i : Nat) : Int), ((k + 2 * i : Nat) : Int) + 1) = mhalfY l k (i + 1) := by
  have e : marksY (i + 1) k = marksY i k ++ [(((k + 2 * i : Nat) : Int), ((k + 2 * i : Nat) : Int) + 1)] := by simp [marksY, List.range_succ]
  unfold mhalfY
  rw [e, List.set_append, marksY_len, if_neg (Nat.lt_irrefl i), Nat.sub_self, drop_consY l i h]
  simp

theorem grow_thenY {w w1 w2 : World} {row : Option Nat} (h : w.grownBy w1 row) (k : w1.grownBy w2 row) : w.grownBy w2 row :=
  ⟨k.os.trans h.os, k.tape.trans h.tape, k.output.trans h.output, Nat.le_trans h.size k.size, fun g hg hne => (k.block g (Nat.lt_of_lt_of_le hg h.size) hne).trans (h.block g hg hne)⟩

set_option maxHeartbeats 1600000 in
set_option maxRecDepth 100000 in
theorem markRangeS_any (a : Option Addr) (n cap k B : Nat) (l : List YgP) (w : World) (hown : OwnY w B (.slice a n cap) l) (hn : n ≤ 1048576) (hk : k ≤ 1048576) :
    Calls Tryd.prog 13 #[.slice a n cap, .int .i64 (k : Int)] w fun e w' =>
      e = .returned (.int .i64 ((k + 2 * n : Nat) : Int)) ∧ OwnY w' B (.slice a n cap) (marksY n k) ∧ w.grownBy w' (Value.slice a n cap).ownBlock := by
  obtain ⟨hl, hr⟩ := hown.rd
  go_enter Tryd.func13, Tryd.ntmps13
  go_wp2
  go_loopw [1, 5] (fun q i wr => ∃ j : Nat, j ≤ n ∧ i = .int .i64 j ∧ q = .int .i64 ((k + 2 * j : Nat) : Int) ∧ OwnY wr B (.slice a n cap) (mhalfY l k j) ∧ w.grownBy wr (Value.slice a n cap).ownBlock)
    (fun _ i _ => n - (intOf i).toNat)
  case atStart => exact ⟨0, Nat.zero_le _, rfl, rfl, by rw [mhalfY_zero]; exact hown, World.grownBy.refl _ _⟩
  case round =>
    obtain ⟨j, hj, rfl, rfl, hown', hgr⟩ := hrel
    clear hown
    by_cases hjn : j < n
    · obtain ⟨g, hg⟩ : ∃ g, a = some ⟨g, 0, none⟩ := by
        rcases hown'.2 with ⟨h0, h1⟩ | ⟨g', cap', cur, h', _⟩
        · rw [mhalfY_len _ _ _ (by omega)] at h1; omega
        · simp at h'; exact ⟨g', h'.1⟩
      subst hg
      have hlen : (mhalfY l k j).length = n := by rw [mhalfY_len _ _ _ (by omega)]; exact hl
      have o0 : wr.ownsRow B 41 2 (.slice (some ⟨g, 0, none⟩) n cap) n (yc (mhalfY l k j)) := by have := hown'; unfold OwnY at this; rw [hlen] at this; exact this
      have hji : (j : Int) < (n : Int) := by omega
      have hfc := yc_get (mhalfY l k j) j (by omega)
      have hFS := yc_set (mhalfY l k j) j (((k + 2 * j : Nat) : Int), ((k + 2 * j : Nat) : Int) + 1) (by omega)
      rw [mhalfY_set l k j (by omega)] at hFS
      have hgr' : w.grownBy wr (some g) := hgr
      have hb0 : ((k + 2 * j : Nat) : Int) ≤ 4194302 := by omega
      have hb1 : 0 ≤ ((k + 2 * j : Nat) : Int) := by omega
      have HK : Hid (((k + 2 * j : Nat) : Int) + 1 + 1 = ((k + 2 * (j + 1) : Nat) : Int)) := by
        show _ = _
        omega
      have c0 : wr.cell? ⟨g, j * 2, none⟩ = some (.int .i64 (nthY (mhalfY l k j) j).1) := by rw [o0.cellAt (j * 2) (by omega)]; exact hfc.1
      have c1 : wr.cell? ⟨g, j * 2 + 1, none⟩ = some (.int .i64 (nthY (mhalfY l k j) j).2) := by rw [o0.cellAt (j * 2 + 1) (by omega)]; exact hfc.2
      have z0 := o0.frozenAt (j * 2)
      have z1 := o0.frozenAt (j * 2 + 1)
      generalize hK0 : ((k + 2 * j : Nat) : Int) = kk at *
      clear hK0
      obtain ⟨o1, g1⟩ := o0.stored (j * 2) (.int .i64 kk)
      obtain ⟨o2, g2⟩ := o1.stored (j * 2 + 1) (.int .i64 (kk + 1))
      rw [hFS] at o2
      have G2 : Hid (w.grownBy ((wr.setCell ⟨g, j * 2, none⟩ (.int .i64 kk)).setCell ⟨g, j * 2 + 1, none⟩ (.int .i64 (kk + 1))) (some g)) := grow_thenY hgr' (grow_thenY g1 g2)
      have O2 : Hid (_) := o2
      clear o0 o1 o2 g1 g2 hgr' hfc hFS hown' hgr hr
      generalize (nthY (mhalfY l k j) j).1 = y0 at *
      generalize (nthY (mhalfY l k j) j).2 = y1 at *
      go_wp2
      go_roundw
      case rel => exact ⟨j + 1, by omega, by go_num, by rw [HK.out], by unfold OwnY; rw [mhalfY_len _ _ _ (by omega), hl]; exact O2.out, G2.out⟩
      case measure => simp [intOf]; omega
    · have hjj : j = n := by omega
      subst hjj
      rw [← hl, mhalfY_all, hl] at hown'
      have hji : ¬ (j : Int) < (j : Int) := by omega
      go_wp2
      go_ret
      exact ⟨rfl, hown', hgr⟩
set_option maxHeartbeats 800000 in
set_option maxRecDepth 100000 in
theorem heldRangeS_any (a : Option Addr) (n cap k : Nat) (w : World) (hr : RdY w a (marksY n k)) (hn : n ≤ 1048576) (hk : k ≤ 1048576) :
    Calls Tryd.prog 14 #[.slice a n cap, .int .i64 (k : Int)] w fun e w' => e = .returned (.int .i64 ((k + 2 * n : Nat) : Int)) ∧ w = w' := by
  go_enter Tryd.func14, Tryd.ntmps14
  go_wp2
  go_loop [1, 5] (fun q i => ∃ j : Nat, j ≤ n ∧ i = .int .i64 j ∧ q = .int .i64 ((k + 2 * j : Nat) : Int)) (fun _ i => n - (intOf i).toNat)
  case atStart => exact ⟨0, Nat.zero_le _, rfl, rfl⟩
  case round =>
    obtain ⟨j, hj, rfl, rfl⟩ := hrel
    by_cases hjn : j < n
    · obtain ⟨b, off, rfl, hblt, hcell⟩ := hr.at_ (by rw [marksY_len]; omega)
      obtain ⟨hc0, hc1⟩ := hcell j (by rw [marksY_len]; exact hjn)
      rw [marksY_nth hjn] at hc0 hc1
      simp only at hc0 hc1
      have hji : (j : Int) < (n : Int) := by omega
      have hb0 : ((k + 2 * j : Nat) : Int) ≤ 4194302 := by omega
      have hb1 : 0 ≤ ((k + 2 * j : Nat) : Int) := by omega
      have HK : Hid (((k + 2 * j : Nat) : Int) + 1 + 1 = ((k + 2 * (j + 1) : Nat) : Int)) := by
        show _ = _
        omega
      clear hcell hr
      generalize hK0 : ((k + 2 * j : Nat) : Int) = kk at *
      clear hK0
      go_wp2
      go_round
      case rel => exact ⟨j + 1, by omega, by go_num, by rw [HK.out]⟩
      case measure => simp [intOf]; omega
    · have hjj : j = n := by omega
      subst hjj
      go_wp2
      go_ret
      exact ⟨rfl, rfl⟩

set_option maxHeartbeats 800000 in
set_option maxRecDepth 100000 in
theorem markRangesResult_any (c : Int) (a : Option Addr) (n cap B : Nat) (l : List YgP) (w : World) (hown : OwnY w B (.slice a n cap) l) (hn : n ≤ 1048576) :
    Calls Tryd.prog 7 #[.agg #[.int .i64 c, .slice a n cap], .int .i64 1] w fun e w' =>
      e = .returned (.int .i64 ((1 + 2 * n : Nat) : Int)) ∧ OwnY w' B (.slice a n cap) (marksY n 1) ∧ w.grownBy w' (Value.slice a n cap).ownBlock := by
  go_enter Tryd.func7, Tryd.ntmps7
  go_wp2_with fail
  refine (markRangeS_any a n cap 1 B l _ (by exact hown.alloc _) hn (by omega)).mono ?_
  rintro e w1 ⟨rfl, h1, h2⟩
  have h3 := grown_alloc h2
  clear h2
  go_wp2
  go_ret
  exact ⟨rfl, h1, h3⟩

set_option maxHeartbeats 800000 in
set_option maxRecDepth 100000 in
theorem heldRangesResult_any (c : Int) (a : Option Addr) (n cap : Nat) (w : World) (hr : RdY w a (marksY n 1)) (hn : n ≤ 1048576) :
    Calls Tryd.prog 8 #[.agg #[.int .i64 c, .slice a n cap], .int .i64 1] w fun e w' =>
      e = .returned (.int .i64 ((1 + 2 * n : Nat) : Int)) ∧ Below w.heap.size w w' := by
  have hpos : ¬ (((1 + 2 * n : Nat) : Int)) < 0 := by omega
  go_enter Tryd.func8, Tryd.ntmps8
  go_wp2_with fail
  refine (heldRangeS_any a n cap 1 _ (by exact hr.below ((Below.refl _ _).alloc (Nat.le_refl _) _)) hn (by omega)).mono ?_
  rintro e w1 ⟨rfl, rfl⟩
  go_wp2
  go_ret
  exact ⟨rfl, by go_grown⟩

set_option maxHeartbeats 800000 in
set_option maxRecDepth 100000 in
theorem eqRangesResult_same (c : Int) (a b : Option Addr) (n cap cap' : Nat) (l : List YgP) (w : World) (hl : l.length = n) (hr : RdY w a l) (hs : RdY w b l) (hn : n ≤ 1048576) :
    Calls Tryd.prog 6 #[.agg #[.int .i64 c, .slice a n cap], .agg #[.int .i64 c, .slice b n cap']] w fun e w' => e = .returned (.bool true) ∧ Below w.heap.size w w' := by
  go_enter Tryd.func6, Tryd.ntmps6
  go_wp2_with fail
  have hb : Below w.heap.size w ((w.alloc (.cells #[.int .i64 c, .slice a n cap] 24)).alloc (.cells #[.int .i64 c, .slice b n cap'] 24)) := ((Below.refl _ _).alloc (Nat.le_refl _) _).alloc (by simp) _
  refine (eqRangeS_same a b n cap cap' l _ hl (by exact hr.below hb) (by exact hs.below hb) hn).mono ?_
  rintro e w1 ⟨rfl, hb1⟩
  go_wp2
  go_ret
  exact ⟨rfl, hb.trans (hb1.mono (by simp; omega))⟩
end Go.Proofs.YtlkfmgfblfkgbaaDoor
