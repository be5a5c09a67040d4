/- The fault of a mailbox: the model; no conditions beyond those that each fact names · The first place at which something holds; slices.IndexFunc over messages and mailboxes, by a closure that catches one variable; no conditions beyond those that each fact names · SequenceOf, on both sides; no conditions beyond those that each fact names · Stores: the laws' helpers: a store's size, a copy, whether two are the same; no conditions beyond those that each fact names · The size of a store that comes in, in all: messages, bytes and mailboxes together; no conditions beyond those that each fact names. -/
import Derived.Test.YtejbbnpgghpgaaaGreatDoorBxg
import Derived.Test.YtejbbnpgghpgaaaGreatDoorMqrToMemI
import Derived.Deep.RegionHeld3
namespace Go.Proofs.YtejbbnpgghpgaaaGreatDoor
open Go.RowKit

end Go.Proofs.YtejbbnpgghpgaaaGreatDoor

namespace Go.Proofs.YtejbbnpgghpgaaaGreatDoor
open Go.RowKit

/-- The first place below n at which p holds; -1: there is none. -/
def ixG (n : Nat) (p : Nat → Bool) : Int := match (List.range n).find? p with
  | some i => (i : Int)
  | none => -1
theorem ixG_at {n k : Nat} {p : Nat → Bool} (hk : k < n) (h : p k = true) (hall : ∀ j, j < k → p j = false) : ixG n p = (k : Int) := by
  have : (List.range n).find? p = some k := List.find?_range_eq_some.2 ⟨h, by simpa using hk, fun j hj => by rw [hall j hj]; rfl⟩
  unfold ixG; rw [this]
theorem ixG_no {n : Nat} {p : Nat → Bool} (h : ∀ i, i < n → p i = false) : ixG n p = -1 := by
  have : (List.range n).find? p = none := List.find?_range_eq_none.2 (fun i hi => by rw [h i hi]; rfl)
  unfold ixG; rw [this]
theorem ixG_cases (n : Nat) (p : Nat → Bool) : ixG n p = -1 ∧ (∀ i, i < n → p i = false) ∨ ∃ k, k < n ∧ ixG n p = (k : Int) ∧ p k = true ∧ ∀ j, j < k → p j = false := by
  cases h : (List.range n).find? p with
  | none =>
    left
    have h' := List.find?_range_eq_none.1 h
    exact ⟨by unfold ixG; rw [h], fun i hi => by have := h' i hi; simpa using this⟩
  | some k =>
    right
    obtain ⟨h1, h2, h3⟩ := List.find?_range_eq_some.1 h
    exact ⟨k, by simpa using h2, by unfold ixG; rw [h], h1, fun j hj => by have := h3 j hj; simpa using this⟩

set_option maxHeartbeats 1600000 in
set_option maxRecDepth 100000 in
theorem indexBox_any (G : Nat) (ct : Value) (s : SlQ) (l : List Bx) (p : Nat → Bool) {lo : Nat} (w : World) (hs : IsXs lo w s l)
    (hG : ∀ (args : Array Value) (w : World), (callFunc G args).run Tryz.prog w = .ok (.enter G args) w)
    (hI : ∀ k, k < l.length → ∀ (q : SlQ) (w' : World), Below w.heap.size w w' → Calls Tryz.prog G #[bxX (nthX l k) q, ct] w' fun e w'' => e = .returned (.bool (p k)) ∧ Below w'.heap.size w' w'') :
    Calls Tryz.prog 157 #[slW s, .func (.func G) #[] #[ct]] w fun e w' => e = .returned (.int .i64 (ixG l.length p)) ∧ Below w.heap.size w w' := by
  obtain ⟨a, n, cap⟩ := s
  obtain ⟨hl, hnc, hcm, hr⟩ := hs
  dsimp only [slW] at *
  unfold maxLen at hcm
  rw [hl] at hI ⊢
  have HI : Hid (∀ k, k < n → ∀ (q : SlQ) (w' : World), Below w.heap.size w w' → Calls Tryz.prog G #[bxX (nthX l k) q, ct] w' fun e w'' => e = .returned (.bool (p k)) ∧ Below w'.heap.size w' w'') := hI
  clear hI
  go_enter Tryz.func157, Tryz.ntmps157
  go_wp2
  go_loopw [8] (fun i wr => ∃ k : Nat, k ≤ n ∧ i = .int .i64 k ∧ (∀ j, j < k → p j = false) ∧ Below w.heap.size w wr) (fun i _ => n - (intOf i).toNat)
  case atStart => exact ⟨0, Nat.zero_le _, rfl, fun j hj => absurd hj (Nat.not_lt_zero _), Below.refl _ _⟩
  case round =>
    obtain ⟨k, hk, rfl, hall, hbel⟩ := hrel
    by_cases hkn : k < n
    · have hki : (k : Int) < (n : Int) := by omega
      obtain ⟨g, off, rfl, -, hglt, hcell⟩ := (hr.below hbel).at_ (by omega)
      obtain ⟨q, ⟨c0, c1, c2, c3⟩, -⟩ := hcell k (by omega)
      have HC := HI.out k hkn q wr hbel
      have HY : Hid (p k = true → ixG n p = (k : Int)) := fun h => ixG_at hkn h hall
      have HN : Hid (p k = false → ∀ j, j < k + 1 → p j = false) := fun h j hj => by
        rcases Nat.lt_or_ge j k with h' | h'
        · exact hall j h'
        · obtain rfl : j = k := by omega
          exact h
      clear hall hcell
      generalize p k = bv at *
      generalize nthX l k = y at *
      obtain ⟨zn, zv, zx, zm⟩ := y
      dsimp only at c0 c1 c2 HC
      go_wp2_with fail
      refine HC.mono ?_
      rintro e w2 ⟨rfl, hb2⟩
      have hbel2 := hbel.trans (hb2.mono hbel.size)
      clear HC HI hG
      cases bv with
      | true =>
        have HM : Hid (ixG n p = (k : Int)) := HY.out rfl
        clear HY HN
        go_wp2
        go_ret
        rw [HM.out]
        exact ⟨rfl, hbel2⟩
      | false =>
        have HM : Hid (_) := HN.out rfl
        clear HY HN
        go_wp2
        go_roundw
        case rel => exact ⟨k + 1, by omega, by go_num, HM.out, hbel2⟩
        case measure => simp [intOf]; omega
    · have hki : ¬ (k : Int) < (n : Int) := by omega
      have HM : Hid (ixG n p = -1) := ixG_no (fun i hi => hall i (by omega))
      clear hall
      go_wp2
      go_ret
      rw [HM.out]
      exact ⟨rfl, hbel⟩

end Go.Proofs.YtejbbnpgghpgaaaGreatDoor

namespace Go.Proofs.YtejbbnpgghpgaaaGreatDoor
open Go.RowKit

/-- Two cells of a block. -/
def Dc (w : World) (g : Nat) (q : Value × Value) : Prop := w.cell? ⟨g, 0, none⟩ = some q.1 ∧ w.cell? ⟨g, 1, none⟩ = some q.2
theorem Dc.below {C : Nat} {w w' : World} {g : Nat} {q : Value × Value} (h : Dc w g q) (hb : Below C w w') (hg : g < C) : Dc w' g q :=
  ⟨(hb.cell (p := ⟨g, 0, none⟩) hg).trans h.1, (hb.cell (p := ⟨g, 1, none⟩) hg).trans h.2⟩
theorem Dc.new (w : World) (c0 c1 : Value) (t : TypeId) : Dc (w.alloc (.cells #[c0, c1] t)) w.heap.size (c0, c1) := ⟨by simp, by simp⟩
theorem Dc.lt {w : World} {g : Nat} {q : Value × Value} (h : Dc w g q) : g < w.heap.size := World.block_lt_of_cell? w ⟨g, 0, none⟩ h.1

end Go.Proofs.YtejbbnpgghpgaaaGreatDoor

namespace Go.Proofs.YtejbbnpgghpgaaaGreatDoor
open Go.RowKit

/-- Two blocks of two cells that were laid one behind the other, far on. -/
theorem dc_blocks {w0 w wr : World} {c0 c1 z0 z1 : Value} {o : Obj} {t t' : TypeId} (h0 : w = w0.alloc o)
    (hb : Below (w0.heap.size + 3) ((w.alloc (.cells #[z0, z1] t)).alloc (.cells #[c0, c1] t')) wr) :
    (wr.cell? ⟨w0.heap.size + 1, 0, none⟩ = some z0 ∧ wr.cell? ⟨w0.heap.size + 1, 1, none⟩ = some z1 ∧ wr.frozen? ⟨w0.heap.size + 1, 0, none⟩ = false ∧ wr.frozen? ⟨w0.heap.size + 1, 1, none⟩ = false) ∧
    (wr.cell? ⟨w0.heap.size + 1 + 1, 0, none⟩ = some c0 ∧ wr.cell? ⟨w0.heap.size + 1 + 1, 1, none⟩ = some c1 ∧ wr.frozen? ⟨w0.heap.size + 1 + 1, 0, none⟩ = false ∧ wr.frozen? ⟨w0.heap.size + 1 + 1, 1, none⟩ = false) := by
  have e1 : w.heap.size = w0.heap.size + 1 := by rw [h0]; simp
  have e2 : (w.alloc (.cells #[z0, z1] t)).heap.size = w0.heap.size + 1 + 1 := by simp [e1]
  have hA : Below (w.heap.size + 1) (w.alloc (.cells #[z0, z1] t)) wr := ((Below.refl _ _).alloc (by simp) _).trans (hb.mono (by omega))
  have k1 := res_block rfl hA
  have k2 := res_block (w := w.alloc (.cells #[z0, z1] t)) rfl (hb.mono (by omega))
  rw [e1] at k1
  rw [e2] at k2
  exact ⟨k1, k2⟩

set_option maxHeartbeats 1600000 in
set_option maxRecDepth 100000 in
theorem eqStore_ft (v : Int) (s s' : SlQ) (l : List Bx) {lo lo' : Nat} (w : World) (hs : IsXs lo w s l) (hs' : IsXs lo' w s' l) (hf : FtXs l) :
    Calls Tryz.prog 19 #[.agg #[.int .i64 v, slW s], .agg #[.int .i64 v, slW s']] w fun e w' => e = .returned (.bool true) ∧ Below w.heap.size w w' := by
  have hbW : Below w.heap.size w (((w.alloc (.cells #[.int .i64 v, slW s] 33)).alloc (.cells #[.int .i64 v, slW s'] 33))) :=
    ((Below.refl _ _).alloc (Nat.le_refl _) _).alloc (by simp) _
  have HC := eqBoxS_ft s s' l _ (hs.below hbW) (hs'.below hbW) hf
  go_enter Tryz.func19, Tryz.ntmps19
  go_wp2_with fail
  refine HC.mono ?_
  rintro e w1 ⟨rfl, hb1⟩
  have hbw := hbW.trans (hb1.mono hbW.size)
  clear HC hb1 hbW
  go_wp2
  go_ret
  exact ⟨rfl, hbw⟩
end Go.Proofs.YtejbbnpgghpgaaaGreatDoor

namespace Go.Proofs.YtejbbnpgghpgaaaGreatDoor
open Go.RowKit
set_option linter.unusedVariables false

/-- How many messages and bytes, in all. -/
def wtMs (l : List Msg) : Nat := l.length + (l.map fun m => m.b.length).sum
/-- How many mailboxes, messages and bytes, in all. -/
def wtXs (l : List Bx) : Nat := l.length + (l.map fun b => wtMs b.m).sum
theorem mem_le_sum {x : Nat} : ∀ {l : List Nat}, x ∈ l → x ≤ l.sum
  | y :: l, h => by
    rw [List.sum_cons]
    rcases List.mem_cons.1 h with rfl | h'
    · omega
    · have := mem_le_sum h'
      omega
/-- How a size is told: what is left, with what it took. -/
def SzW (left : Int) (wt : Nat) (w : World) (e : Ending) (w' : World) : Prop := ∃ r : Int, e = .returned (.int .i64 r) ∧ (r = -1 ∨ 0 ≤ r ∧ r + (wt : Int) ≤ left) ∧ Below w.heap.size w w'
theorem sum_takeM {l : List Msg} {k : Nat} (h : k < l.length) : ((l.take (k + 1)).map fun m => m.b.length).sum = ((l.take k).map fun m => m.b.length).sum + (nthM l k).b.length := by
  rw [List.take_succ_eq_append_getElem h, List.map_append, List.sum_append, nthM_get h]; simp
theorem sum_takeX {l : List Bx} {k : Nat} (h : k < l.length) : ((l.take (k + 1)).map fun b => wtMs b.m).sum = ((l.take k).map fun b => wtMs b.m).sum + wtMs (nthX l k).m := by
  rw [List.take_succ_eq_append_getElem h, List.map_append, List.sum_append, nthX_get h]; simp

theorem szByteS_w (s : SlQ) (left : Int) (w : World) (h0 : 0 ≤ left) (h1 : left ≤ 1048576) (hn : s.2.1 ≤ maxLen) :
    Calls Tryz.prog 54 #[slW s, .int .i64 left] w fun e w' => SzW left s.2.1 w e w' := by
  obtain ⟨a, n, cap⟩ := s
  dsimp only at *
  unfold maxLen at hn
  by_cases c1 : left - (n : Int) < 0
  · go_enter Tryz.func54, Tryz.ntmps54
    go_wp2
    go_ret
    exact ⟨-1, rfl, .inl rfl, by go_grown⟩
  · go_enter Tryz.func54, Tryz.ntmps54
    go_wp2
    go_ret
    exact ⟨left - (n : Int), rfl, .inr ⟨by omega, by omega⟩, by go_grown⟩
set_option maxHeartbeats 800000 in
set_option maxRecDepth 100000 in
theorem szMessage_w (m : Msg) (s : SlQ) (left : Int) {lo : Nat} (w : World) (h0 : 0 ≤ left) (h1 : left ≤ 1048576) (hs : IsSl lo w s m.b) :
    Calls Tryz.prog 181 #[msX m s, .int .i64 left] w fun e w' => SzW left m.b.length w e w' := by
  have hb0 : Below w.heap.size w (w.alloc (.cells #[.int .i64 m.u, .int .i64 m.f, .int .i64 m.d, slW s] 199)) := (Below.refl _ _).alloc (Nat.le_refl _) _
  have HC := szByteS_w s left (w.alloc (.cells #[.int .i64 m.u, .int .i64 m.f, .int .i64 m.d, slW s] 199)) h0 h1 (Nat.le_trans hs.2.1 hs.2.2.1)
  rw [← hs.1] at HC
  go_enter Tryz.func181, Tryz.ntmps181
  go_wp2_with fail
  refine HC.mono ?_
  rintro e w1 ⟨r, rfl, hcase, hb1⟩
  have hbw := hb0.trans (hb1.mono hb0.size)
  clear HC hb0 hb1
  rcases hcase with rfl | ⟨q0, q1⟩
  · go_wp2
    go_ret
    exact ⟨-1, rfl, .inl rfl, hbw⟩
  · have hneg : ¬ r < 0 := by omega
    go_wp2
    go_ret
    exact ⟨r, rfl, .inr ⟨q0, q1⟩, hbw⟩

set_option maxHeartbeats 1600000 in
set_option maxRecDepth 100000 in
theorem szMessageS_w (s : SlQ) (l : List Msg) (left : Int) {lo : Nat} (w : World) (h0 : 0 ≤ left) (h1 : left ≤ 1048576) (hs : IsMs lo w s l) :
    Calls Tryz.prog 147 #[slW s, .int .i64 left] w fun e w' => SzW left (wtMs l) w e w' := by
  obtain ⟨a, n, cap⟩ := s
  obtain ⟨hl, hnc, hcm, hr⟩ := hs
  dsimp only [slW] at *
  unfold maxLen at hcm
  by_cases c1 : left - (n : Int) < 0
  · go_enter Tryz.func147, Tryz.ntmps147
    go_wp2
    go_ret
    exact ⟨-1, rfl, .inl rfl, Below.refl _ _⟩
  · go_enter Tryz.func147, Tryz.ntmps147
    go_wp2
    go_loopw [1, 5] (fun q i wr => ∃ (k : Nat) (r : Int), k ≤ n ∧ i = .int .i64 k ∧ q = .int .i64 r ∧ 0 ≤ r ∧ r + (n : Int) + (((l.take k).map fun m => m.b.length).sum : Nat) ≤ left ∧ Below w.heap.size w wr)
      (fun _ i _ => n - (intOf i).toNat)
    case atStart => exact ⟨0, _, Nat.zero_le _, rfl, rfl, by omega, by simp, Below.refl _ _⟩
    case round =>
      obtain ⟨k, r, hk, rfl, rfl, hr0, hr1, hbel⟩ := hrel
      by_cases hkn : k < n
      · obtain ⟨b, off, rfl, -, hblt, hcell⟩ := (hr.below hbel).at_ (by omega)
        obtain ⟨s, ⟨hc0, hc1, hc2, hc3⟩, hI⟩ := hcell k (by omega)
        have hki : (k : Int) < (n : Int) := by omega
        have HC := szMessage_w (nthM l k) s r wr hr0 (by omega) hI
        have hst := sum_takeM (l := l) (k := k) (by omega)
        have hq : ∀ r' : Int, 0 ≤ r' → r' + ((nthM l k).b.length : Int) ≤ r → r' + (n : Int) + (((l.take (k + 1)).map fun m => m.b.length).sum : Nat) ≤ left := fun r' _ h => by rw [hst]; push_cast; omega
        have HQ : Hid (_) := hq
        clear hq hst hr1
        clear hcell hI
        generalize nthM l k = p at *
        go_wp2_with fail
        refine HC.mono ?_
        rintro e w1 ⟨r', rfl, hcase, hb1⟩
        have hbel1 := hbel.trans (hb1.mono hbel.size)
        clear hb1 hbel HC
        rcases hcase with rfl | ⟨q0, q1⟩
        · go_wp2
          go_ret
          exact ⟨-1, rfl, .inl rfl, hbel1⟩
        · have hneg : ¬ r' < 0 := by omega
          have hr1' := HQ.out r' q0 q1
          clear HQ
          go_wp2
          go_roundw
          case rel => exact ⟨k + 1, r', by omega, by go_num, by trivial, q0, hr1', hbel1⟩
          case measure => simp [intOf]; omega
      · have hki : ¬ (k : Int) < (n : Int) := by omega
        have hw : r + ((wtMs l : Nat) : Int) ≤ left := by
          have hkk : k = l.length := by omega
          rw [hkk, List.take_length] at hr1
          unfold wtMs
          push_cast
          omega
        go_wp2
        go_ret
        exact ⟨r, rfl, .inr ⟨hr0, hw⟩, hbel⟩

set_option maxHeartbeats 1600000 in
set_option maxRecDepth 100000 in
theorem szBox_w (m : Bx) (s : SlQ) (left : Int) {lo : Nat} (w : World) (h0 : 0 ≤ left) (h1 : left ≤ 1048576) (hs : IsMs lo w s m.m) (hok : OkX m) :
    Calls Tryz.prog 107 #[bxX m s, .int .i64 left] w fun e w' => SzW left (m.n.size + wtMs m.m) w e w' := by
  have hb0 : Below w.heap.size w (w.alloc (.cells #[.string m.n, .int .i64 m.v, .int .i64 m.x, slW s] 123)) := (Below.refl _ _).alloc (Nat.le_refl _) _
  have hok' : m.n.size ≤ maxLen := hok
  unfold maxLen at hok'
  by_cases c1 : left - (m.n.size : Int) < 0
  · go_enter Tryz.func107, Tryz.ntmps107
    go_wp2
    go_ret
    exact ⟨-1, rfl, .inl rfl, hb0⟩
  · have HC := szMessageS_w s m.m (left - (m.n.size : Int)) (w.alloc (.cells #[.string m.n, .int .i64 m.v, .int .i64 m.x, slW s] 123)) (by omega) (by omega) (hs.below hb0)
    go_enter Tryz.func107, Tryz.ntmps107
    go_wp2_with fail
    refine HC.mono ?_
    rintro e w1 ⟨r, rfl, hcase, hb1⟩
    have hbw := hb0.trans (hb1.mono hb0.size)
    clear HC hb0 hb1
    rcases hcase with rfl | ⟨q0, q1⟩
    · go_wp2
      go_ret
      exact ⟨-1, rfl, .inl rfl, hbw⟩
    · have hneg : ¬ r < 0 := by omega
      have q1' : r + ((m.n.size + wtMs m.m : Nat) : Int) ≤ left := by omega
      clear q1
      go_wp2
      go_ret
      exact ⟨r, rfl, .inr ⟨q0, q1'⟩, hbw⟩

theorem wtMs_ft {l : List Msg} (h : wtMs l ≤ 1048576) : FtMs l := by
  unfold wtMs at h
  refine ⟨by omega, fun i hi => ?_⟩
  have hm : (nthM l i).b.length ∈ l.map (fun m => m.b.length) := List.mem_map.2 ⟨nthM l i, by rw [nthM_get hi]; exact List.getElem_mem hi, rfl⟩
  have := mem_le_sum hm
  show (nthM l i).b.length ≤ 1048576
  omega
theorem ftX_of {b : Bx} (h : b.n.size + wtMs b.m ≤ 1048576) : FtX b := ⟨by omega, wtMs_ft (by omega)⟩

set_option maxHeartbeats 1600000 in
set_option maxRecDepth 100000 in
theorem szBoxS_w (s : SlQ) (l : List Bx) (left : Int) {lo : Nat} (w : World) (h0 : 0 ≤ left) (h1 : left ≤ 1048576) (hs : IsXs lo w s l) (hok : ∀ i, i < l.length → OkX (nthX l i)) :
    Calls Tryz.prog 52 #[slW s, .int .i64 left] w fun e w' => ∃ r : Int, e = .returned (.int .i64 r) ∧ (r = -1 ∨ 0 ≤ r ∧ r + (wtXs l : Int) ≤ left ∧ FtXs l) ∧ Below w.heap.size w w' := by
  obtain ⟨a, n, cap⟩ := s
  obtain ⟨hl, hnc, hcm, hr⟩ := hs
  dsimp only [slW] at *
  unfold maxLen at hcm
  by_cases c1 : left - (n : Int) < 0
  · go_enter Tryz.func52, Tryz.ntmps52
    go_wp2
    go_ret
    exact ⟨-1, rfl, .inl rfl, Below.refl _ _⟩
  · go_enter Tryz.func52, Tryz.ntmps52
    go_wp2
    go_loopw [1, 5] (fun q i wr => ∃ (k : Nat) (r : Int), k ≤ n ∧ i = .int .i64 k ∧ q = .int .i64 r ∧ 0 ≤ r ∧ r + (n : Int) + (((l.take k).map fun b => wtMs b.m).sum : Nat) ≤ left ∧ (∀ j, j < k → FtX (nthX l j)) ∧ Below w.heap.size w wr)
      (fun _ i _ => n - (intOf i).toNat)
    case atStart => exact ⟨0, _, Nat.zero_le _, rfl, rfl, by omega, by simp, fun j hj => absurd hj (Nat.not_lt_zero _), Below.refl _ _⟩
    case round =>
      obtain ⟨k, r, hk, rfl, rfl, hr0, hr1, hall, hbel⟩ := hrel
      by_cases hkn : k < n
      · obtain ⟨b, off, rfl, -, hblt, hcell⟩ := (hr.below hbel).at_ (by omega)
        obtain ⟨s, ⟨hc0, hc1, hc2, hc3⟩, hI⟩ := hcell k (by omega)
        have hki : (k : Int) < (n : Int) := by omega
        have HC := szBox_w (nthX l k) s r wr hr0 (by omega) hI (hok k (by omega))
        have HA : Hid (FtX (nthX l k) → ∀ j, j < k + 1 → FtX (nthX l j)) := fun h j hj => by
          rcases Nat.lt_or_ge j k with h' | h'
          · exact hall j h'
          · obtain rfl : j = k := by omega
            exact h
        have hst := sum_takeX (l := l) (k := k) (by omega)
        have hq : ∀ r' : Int, 0 ≤ r' → r' + (((nthX l k).n.size + wtMs (nthX l k).m : Nat) : Int) ≤ r → r' + (n : Int) + (((l.take (k + 1)).map fun b => wtMs b.m).sum : Nat) ≤ left ∧ FtX (nthX l k) := fun r' _ h => by
          refine ⟨by rw [hst]; push_cast at h ⊢; omega, ?_⟩
          exact ftX_of (by push_cast at h; omega)
        have HQ : Hid (_) := hq
        clear hq hst hr1
        clear hcell hall hI
        generalize nthX l k = p at *
        go_wp2_with fail
        refine HC.mono ?_
        rintro e w1 ⟨r', rfl, hcase, hb1⟩
        have hbel1 := hbel.trans (hb1.mono hbel.size)
        clear hb1 hbel HC
        rcases hcase with rfl | ⟨q0, q1⟩
        · go_wp2
          go_ret
          exact ⟨-1, rfl, .inl rfl, hbel1⟩
        · have hneg : ¬ r' < 0 := by omega
          have hr1' := (HQ.out r' q0 q1).1
          have HM : Hid (_) := HA.out (HQ.out r' q0 q1).2
          clear HA HQ
          go_wp2
          go_roundw
          case rel => exact ⟨k + 1, r', by omega, by go_num, by trivial, q0, hr1', HM.out, hbel1⟩
          case measure => simp [intOf]; omega
      · have hki : ¬ (k : Int) < (n : Int) := by omega
        have hw : r + ((wtXs l : Nat) : Int) ≤ left := by
          have hkk : k = l.length := by omega
          rw [hkk, List.take_length] at hr1
          unfold wtXs
          push_cast
          omega
        have HM : Hid (FtXs l) := ⟨by omega, fun i hi => hall i (by omega)⟩
        clear hall
        go_wp2
        go_ret
        exact ⟨r, rfl, .inr ⟨hr0, hw, HM.out⟩, hbel⟩

set_option maxHeartbeats 800000 in
set_option maxRecDepth 100000 in
theorem szStore_w (v : Int) (s : SlQ) (l : List Bx) (left : Int) {lo : Nat} (w : World) (h0 : 0 ≤ left) (h1 : left ≤ 1048576) (hs : IsXs lo w s l) (hok : ∀ i, i < l.length → OkX (nthX l i)) :
    Calls Tryz.prog 12 #[.agg #[.int .i64 v, slW s], .int .i64 left] w fun e w' => ∃ r : Int, e = .returned (.int .i64 r) ∧ (r = -1 ∨ 0 ≤ r ∧ r + (wtXs l : Int) ≤ left ∧ FtXs l) ∧ Below w.heap.size w w' := by
  have hb0 : Below w.heap.size w (w.alloc (.cells #[.int .i64 v, slW s] 24)) := (Below.refl _ _).alloc (Nat.le_refl _) _
  have HC := szBoxS_w s l left (w.alloc (.cells #[.int .i64 v, slW s] 24)) h0 h1 (hs.below hb0) hok
  go_enter Tryz.func12, Tryz.ntmps12
  go_wp2_with fail
  refine HC.mono ?_
  rintro e w1 ⟨r, rfl, hcase, hb1⟩
  have hbw := hb0.trans (hb1.mono hb0.size)
  clear HC hb0 hb1
  rcases hcase with rfl | ⟨q0, q1, q2⟩
  · go_wp2
    go_ret
    exact ⟨-1, rfl, .inl rfl, hbw⟩
  · have hneg : ¬ r < 0 := by omega
    go_wp2
    go_ret
    exact ⟨r, rfl, .inr ⟨q0, q1, q2⟩, hbw⟩
end Go.Proofs.YtejbbnpgghpgaaaGreatDoor
