/- The fault of a mailbox: the model; no conditions beyond those that each fact names · The first place at which something holds; slices.IndexFunc over messages and mailboxes, by a closure that catches one variable; no conditions beyond those that each fact names · SequenceOf, on both sides; no conditions beyond those that each fact names · Stores: the laws' helpers: a store's size, a copy, whether two are the same; no conditions beyond those that each fact names · The fault of a store: the program's side; no conditions beyond those that each fact names · The fault of a store: StoreFault of the program; no conditions beyond those that each fact names. -/
import Derived.Test.YtejbbnpgghpgaaaGreatDoorBxg
import Derived.Test.YtejbbnpgghpgaaaGreatDoorMqrToMemI
import Derived.Deep.RegionHeld3
namespace Go.Proofs.YtejbbnpgghpgaaaGreatDoor
open Go.RowKit
end Go.Proofs.YtejbbnpgghpgaaaGreatDoor
namespace Go.Proofs.YtejbbnpgghpgaaaGreatDoor
open Go.RowKit
def ixG (n : Nat) (p : Nat → Bool) : Int := match (List.range n).find? p with
  | some i => (i : Int)
  | none => -1
theorem ixG_at {n k : Nat} {p : Nat → Bool} (hk : k < n) (h : p k = true) (hall : ∀ j, j < k → p j = false) : ixG n p = (k : Int) := by
  have : (List.range n).find? p = some k := List.find?_range_eq_some.2 ⟨h, by simpa using hk, fun j hj => by rw [hall j hj]; rfl⟩
  unfold ixG; rw [this]
theorem ixG_no {n : Nat} {p : Nat → Bool} (h : ∀ i, i < n → p i = false) : ixG n p = -1 := by
  have : (List.range n).find? p = none := List.find?_range_eq_none.2 (fun i hi => by rw [h i hi]; rfl)
  unfold ixG; rw [this]
theorem ixG_cases (n : Nat) (p : Nat → Bool) : ixG n p = -1 ∧ (∀ i, i < n → p i = false) ∨ ∃ k, k < n ∧ ixG n p = (k : Int) ∧ p k = true ∧ ∀ j, j < k → p j = false := by
  cases h : (List.range n).find? p with
  | none =>
    left
    have h' := List.find?_range_eq_none.1 h
    exact ⟨by unfold ixG; rw [h], fun i hi => by have := h' i hi; simpa using this⟩
  | some k =>
    right
    obtain ⟨h1, h2, h3⟩ := List.find?_range_eq_some.1 h
    exact ⟨k, by simpa using h2, by unfold ixG; rw [h], h1, fun j hj => by have := h3 j hj; simpa using this⟩
set_option maxHeartbeats 1600000 in
set_option maxRecDepth 100000 in
theorem indexBox_any (G : Nat) (ct : Value) (s : SlQ) (l : List Bx) (p : Nat → Bool) {lo : Nat} (w : World) (hs : IsXs lo w s l)
    (hG : ∀ (args : Array Value) (w : World), (callFunc G args).run Tryz.prog w = .ok (.enter G args) w)
    (hI : ∀ k, k < l.length → ∀ (q : SlQ) (w' : World), Below w.heap.size w w' → Calls Tryz.prog G #[bxX (nthX l k) q, ct] w' fun e w'' => e = .returned (.bool (p k)) ∧ Below w'.heap.size w' w'') :
    Calls Tryz.prog 157 #[slW s, .func (.func G) #[] #[ct]] w fun e w' => e = .returned (.int .i64 (ixG l.length p)) ∧ Below w.heap.size w w' := by
  obtain ⟨a, n, cap⟩ := s
  obtain ⟨hl, hnc, hcm, hr⟩ := hs
  dsimp only [slW] at *
  unfold maxLen at hcm
  rw [hl] at hI ⊢
  have HI : Hid (∀ k, k < n → ∀ (q : SlQ) (w' : World), Below w.heap.size w w' → Calls Tryz.prog G #[bxX (nthX l k) q, ct] w' fun e w'' => e = .returned (.bool (p k)) ∧ Below w'.heap.size w' w'') := hI
  clear hI
  go_enter Tryz.func157, Tryz.ntmps157
  go_wp2
  go_loopw [8] (fun i wr => ∃ k : Nat, k ≤ n ∧ i = .int .i64 k ∧ (∀ j, j < k → p j = false) ∧ Below w.heap.size w wr) (fun i _ => n - (intOf i).toNat)
  case atStart => exact ⟨0, Nat.zero_le _, rfl, fun j hj => absurd hj (Nat.not_lt_zero _), Below.refl _ _⟩
  case round =>
    obtain ⟨k, hk, rfl, hall, hbel⟩ := hrel
    by_cases hkn : k < n
    · have hki : (k : Int) < (n : Int) := by omega
      obtain ⟨g, off, rfl, -, hglt, hcell⟩ := (hr.below hbel).at_ (by omega)
      obtain ⟨q, ⟨c0, c1, c2, c3⟩, -⟩ := hcell k (by omega)
      have HC := HI.out k hkn q wr hbel
      have HY : Hid (p k = true → ixG n p = (k : Int)) := fun h => ixG_at hkn h hall
      have HN : Hid (p k = false → ∀ j, j < k + 1 → p j = false) := fun h j hj => by
        rcases Nat.lt_or_ge j k with h' | h'
        · exact hall j h'
        · obtain rfl : j = k := by omega
          exact h
      clear hall hcell
      generalize p k = bv at *
      generalize nthX l k = y at *
      obtain ⟨zn, zv, zx, zm⟩ := y
      dsimp only at c0 c1 c2 HC
      go_wp2_with fail
      refine HC.mono ?_
      rintro e w2 ⟨rfl, hb2⟩
      have hbel2 := hbel.trans (hb2.mono hbel.size)
      clear HC HI hG
      cases bv with
      | true =>
        have HM : Hid (ixG n p = (k : Int)) := HY.out rfl
        clear HY HN
        go_wp2
        go_ret
        rw [HM.out]
        exact ⟨rfl, hbel2⟩
      | false =>
        have HM : Hid (_) := HN.out rfl
        clear HY HN
        go_wp2
        go_roundw
        case rel => exact ⟨k + 1, by omega, by go_num, HM.out, hbel2⟩
        case measure => simp [intOf]; omega
    · have hki : ¬ (k : Int) < (n : Int) := by omega
      have HM : Hid (ixG n p = -1) := ixG_no (fun i hi => hall i (by omega))
      clear hall
      go_wp2
      go_ret
      rw [HM.out]
      exact ⟨rfl, hbel⟩
end Go.Proofs.YtejbbnpgghpgaaaGreatDoor
namespace Go.Proofs.YtejbbnpgghpgaaaGreatDoor
open Go.RowKit
def Dc (w : World) (g : Nat) (q : Value × Value) : Prop := w.cell? ⟨g, 0, none⟩ = some q.1 ∧ w.cell? ⟨g, 1, none⟩ = some q.2
theorem Dc.below {C : Nat} {w w' : World} {g : Nat} {q : Value × Value} (h : Dc w g q) (hb : Below C w w') (hg : g < C) : Dc w' g q :=
  ⟨(hb.cell (p := ⟨g, 0, none⟩) hg).trans h.1, (hb.cell (p := ⟨g, 1, none⟩) hg).trans h.2⟩
theorem Dc.new (w : World) (c0 c1 : Value) (t : TypeId) : Dc (w.alloc (.cells #[c0, c1] t)) w.heap.size (c0, c1) := ⟨by simp, by simp⟩
theorem Dc.lt {w : World} {g : Nat} {q : Value × Value} (h : Dc w g q) : g < w.heap.size := World.block_lt_of_cell? w ⟨g, 0, none⟩ h.1
end Go.Proofs.YtejbbnpgghpgaaaGreatDoor
namespace Go.Proofs.YtejbbnpgghpgaaaGreatDoor
open Go.RowKit
theorem dc_blocks {w0 w wr : World} {c0 c1 z0 z1 : Value} {o : Obj} {t t' : TypeId} (h0 : w = w0.alloc o)
    (hb : Below (w0.heap.size + 3) ((w.alloc (.cells #[z0, z1] t)).alloc (.cells #[c0, c1] t')) wr) :
    (wr.cell? ⟨w0.heap.size + 1, 0, none⟩ = some z0 ∧ wr.cell? ⟨w0.heap.size + 1, 1, none⟩ = some z1 ∧ wr.frozen? ⟨w0.heap.size + 1, 0, none⟩ = false ∧ wr.frozen? ⟨w0.heap.size + 1, 1, none⟩ = false) ∧
    (wr.cell? ⟨w0.heap.size + 1 + 1, 0, none⟩ = some c0 ∧ wr.cell? ⟨w0.heap.size + 1 + 1, 1, none⟩ = some c1 ∧ wr.frozen? ⟨w0.heap.size + 1 + 1, 0, none⟩ = false ∧ wr.frozen? ⟨w0.heap.size + 1 + 1, 1, none⟩ = false) := by
  have e1 : w.heap.size = w0.heap.size + 1 := by rw [h0]; simp
  have e2 : (w.alloc (.cells #[z0, z1] t)).heap.size = w0.heap.size + 1 + 1 := by simp [e1]
  have hA : Below (w.heap.size + 1) (w.alloc (.cells #[z0, z1] t)) wr := ((Below.refl _ _).alloc (by simp) _).trans (hb.mono (by omega))
  have k1 := res_block rfl hA
  have k2 := res_block (w := w.alloc (.cells #[z0, z1] t)) rfl (hb.mono (by omega))
  rw [e1] at k1
  rw [e2] at k2
  exact ⟨k1, k2⟩
set_option maxHeartbeats 1600000 in
set_option maxRecDepth 100000 in
theorem eqStore_ft (v : Int) (s s' : SlQ) (l : List Bx) {lo lo' : Nat} (w : World) (hs : IsXs lo w s l) (hs' : IsXs lo' w s' l) (hf : FtXs l) :
    Calls Tryz.prog 19 #[.agg #[.int .i64 v, slW s], .agg #[.int .i64 v, slW s']] w fun e w' => e = .returned (.bool true) ∧ Below w.heap.size w w' := by
  have hbW : Below w.heap.size w (((w.alloc (.cells #[.int .i64 v, slW s] 33)).alloc (.cells #[.int .i64 v, slW s'] 33))) :=
    ((Below.refl _ _).alloc (Nat.le_refl _) _).alloc (by simp) _
  have HC := eqBoxS_ft s s' l _ (hs.below hbW) (hs'.below hbW) hf
  go_enter Tryz.func19, Tryz.ntmps19
  go_wp2_with fail
  refine HC.mono ?_
  rintro e w1 ⟨rfl, hb1⟩
  have hbw := hbW.trans (hb1.mono hbW.size)
  clear HC hb1 hbW
  go_wp2
  go_ret
  exact ⟨rfl, hbw⟩
end Go.Proofs.YtejbbnpgghpgaaaGreatDoor
namespace Go.Proofs.YtejbbnpgghpgaaaGreatDoor
open Go.RowKit
def tkB (l : List Bx) (k j : Nat) : Bool := decide ((nthX l j).n = (nthX l k).n ∨ (nthX l j).v = (nthX l k).v)
def sbE (v : Int) (l : List Bx) (k : Nat) : Int := if bfV (nthX l k) = 0 then (if v ≤ (nthX l k).v then 9 else if 0 ≤ ixG k (tkB l k) then 6 else 0) else bfV (nthX l k)
def sxV (v : Int) (l : List Bx) : Nat → Nat → Int
  | 0, _ => 0
  | r + 1, k => if sbE v l k = 0 then sxV v l r (k + 1) else sbE v l k
def stV (v : Int) (l : List Bx) : Int := if bt v 1 1000 = true then (if 3 < l.length then 2 else sxV v l l.length 0) else 3
theorem sxV_step (v : Int) (l : List Bx) (n k : Nat) (h : k < n) : sxV v l (n - k) k = if sbE v l k = 0 then sxV v l (n - (k + 1)) (k + 1) else sbE v l k := by
  rw [show n - k = (n - (k + 1)) + 1 by omega]; rfl
theorem sxV_end (v : Int) (l : List Bx) (n k : Nat) (h : n ≤ k) : sxV v l (n - k) k = 0 := by
  rw [show n - k = 0 by omega]; rfl
theorem toList_ne {a b : ByteArray} (h : a ≠ b) : ¬ a.toList = b.toList := fun e => h (by
  rw [ByteArray.toList_eq, ByteArray.toList_eq] at e
  cases a; cases b; simp_all)
set_option maxHeartbeats 800000 in
set_option maxRecDepth 100000 in
theorem isSameName_any (U : Nat) (b : Bx) (sb : SlQ) (m : Bx) (q : SlQ) (w : World) (hU : Qc w U (bxQ b sb)) :
    Calls Tryz.prog 185 #[bxX m q, .pointer (some ⟨U, 0, none⟩)] w fun e w' => e = .returned (.bool (decide (m.n = b.n ∨ m.v = b.v))) ∧ Below w.heap.size w w' := by
  have hb0 : Below w.heap.size w (w.alloc (.cells #[.string m.n, .int .i64 m.v, .int .i64 m.x, slW q] 128)) := (Below.refl _ _).alloc (Nat.le_refl _) _
  obtain ⟨u0, u1, u2, u3⟩ := hU.below hb0 hU.lt
  obtain ⟨mn, mv, mx, mm⟩ := m
  obtain ⟨bn, bv, bx, bm⟩ := b
  dsimp only at *
  by_cases h : mn = bn
  · have HM : Hid (decide (mn = bn ∨ mv = bv) = true) := decide_eq_true (.inl h)
    generalize decide (mn = bn ∨ mv = bv) = r at *
    subst h
    go_enter Tryz.func185, Tryz.ntmps185
    go_wp2
    go_ret
    rw [HM.out]
    exact ⟨rfl, hb0⟩
  · have hl := toList_ne h
    have hl' : (mn.toList == bn.toList) = false := by simpa using hl
    by_cases h2 : mv = bv
    · have HM : Hid (decide (mn = bn ∨ mv = bv) = true) := decide_eq_true (.inr h2)
      generalize decide (mn = bn ∨ mv = bv) = r at *
      subst h2
      go_enter Tryz.func185, Tryz.ntmps185
      go_wp2
      go_ret
      rw [HM.out]
      exact ⟨rfl, hb0⟩
    · have HM : Hid (decide (mn = bn ∨ mv = bv) = false) := decide_eq_false (by simp [h, h2])
      have h2' : (mv == bv) = false := by simpa using h2
      generalize decide (mn = bn ∨ mv = bv) = r at *
      go_enter Tryz.func185, Tryz.ntmps185
      go_wp2
      go_ret
      rw [HM.out]
      exact ⟨rfl, hb0⟩
theorem nthX_take {l : List Bx} {k i : Nat} (h : i < k) : nthX (l.take k) i = nthX l i := by
  unfold nthX; rw [List.getD_eq_getElem?_getD, List.getD_eq_getElem?_getD, List.getElem?_take, if_pos h]
theorem IsXs.take {lo : Nat} {w : World} {a : Option Addr} {n cap : Nat} {l : List Bx} (h : IsXs lo w (a, n, cap) l) (k : Nat) (hk : k ≤ n) : IsXs lo w (a, k, cap) (l.take k) := by
  obtain ⟨h1, h2, h3, h4⟩ := h
  dsimp only at h1 h2 h3 h4
  refine ⟨by dsimp only; rw [List.length_take]; omega, by dsimp only; omega, h3, ?_⟩
  rcases h4 with h4 | ⟨b, off, e, hlo, hlt, hc⟩
  · left; rw [h4]; simp
  · right
    refine ⟨b, off, e, hlo, hlt, fun i hi => ?_⟩
    rw [List.length_take] at hi
    rw [nthX_take (by omega)]
    exact hc i (by omega)
theorem containsBox_any (G : Nat) (ct : Value) (s : SlQ) (l : List Bx) (p : Nat → Bool) {lo : Nat} (w : World) (hs : IsXs lo w s l)
    (hG : ∀ (args : Array Value) (w : World), (callFunc G args).run Tryz.prog w = .ok (.enter G args) w)
    (hI : ∀ k, k < l.length → ∀ (q : SlQ) (w' : World), Below w.heap.size w w' → Calls Tryz.prog G #[bxX (nthX l k) q, ct] w' fun e w'' => e = .returned (.bool (p k)) ∧ Below w'.heap.size w' w'') :
    Calls Tryz.prog 184 #[slW s, .func (.func G) #[] #[ct]] w fun e w' => e = .returned (.bool (decide (0 ≤ ixG l.length p))) ∧ Below w.heap.size w w' := by
  have HC := indexBox_any G ct s l p w hs hG hI
  clear hI hG
  generalize ixG l.length p = ix at *
  go_enter Tryz.func184, Tryz.ntmps184
  go_wp2_with fail
  refine HC.mono ?_
  rintro e w1 ⟨rfl, hb1⟩
  clear HC
  go_wp2
  go_ret
  exact ⟨rfl, hb1⟩
set_option maxHeartbeats 1600000 in
set_option maxRecDepth 100000 in
theorem isTaken_any (s : SlQ) (l : List Bx) (k : Nat) {lo : Nat} (w : World) (hs : IsXs lo w s l) (hk : k < l.length) :
    Calls Tryz.prog 153 #[slW s, .int .i64 (k : Int)] w fun e w' => e = .returned (.bool (decide (0 ≤ ixG k (tkB l k)))) ∧ Below w.heap.size w w' := by
  obtain ⟨a, n, cap⟩ := s
  have hl : l.length = n := hs.1
  have hnc : n ≤ cap := hs.2.1
  have hcm : cap ≤ maxLen := hs.2.2.1
  unfold maxLen at hcm
  obtain ⟨g, off, hga, -, hglt, hcell⟩ := hs.2.2.2.at_ (by omega)
  dsimp only at hga
  subst hga
  obtain ⟨q, ⟨c0, c1, c2, c3⟩, -⟩ := hcell k hk
  have hkn : k < n := by omega
  have hki : (k : Int) < (n : Int) := by omega
  have hkc : k ≤ cap := by omega
  have hkc' : (k : Int) ≤ (cap : Int) := by omega
  have hb0 : Below w.heap.size w (w.alloc (.cells #[.string (nthX l k).n, .int .i64 (nthX l k).v, .int .i64 (nthX l k).x, slW q] 128)) := (Below.refl _ _).alloc (Nat.le_refl _) _
  have hQ := Qc.new w (.string (nthX l k).n) (.int .i64 (nthX l k).v) (.int .i64 (nthX l k).x) (slW q) 128
  have hLT := hQ.lt
  have HC := containsBox_any 185 (.pointer (some ⟨w.heap.size, 0, none⟩)) (some ⟨g, off, none⟩, k, cap) (l.take k) (tkB l k) _ ((hs.take k (by omega)).below hb0) (fun _ _ => by kernel_rfl) (fun j hj q' w' hb' => by
    rw [List.length_take] at hj
    rw [nthX_take (by omega)]
    exact isSameName_any w.heap.size (nthX l k) q (nthX l j) q' w' (hQ.below hb' hLT))
  have hlk : (l.take k).length = k := by rw [List.length_take]; omega
  rw [hlk] at HC
  clear hs hcell hlk hQ
  generalize decide (0 ≤ ixG k (tkB l k)) = r at *
  generalize nthX l k = y at *
  obtain ⟨yn, yv, yx, ym⟩ := y
  dsimp only [slW] at *
  go_enter Tryz.func153, Tryz.ntmps153
  go_wp2_with fail
  refine HC.mono ?_
  rintro e w1 ⟨rfl, hb1⟩
  have hbw := hb0.trans (hb1.mono hb0.size)
  clear HC hb0 hb1
  go_wp2
  go_ret
  exact ⟨rfl, hbw⟩
set_option maxHeartbeats 3200000 in
set_option maxRecDepth 100000 in
theorem faultAt_any (v : Int) (s : SlQ) (l : List Bx) (k : Nat) {lo : Nat} (w : World) (hs : IsXs lo w s l) (hk : k < l.length) (hf : FtXs l) :
    Calls Tryz.prog 122 #[.agg #[.int .i64 v, slW s], .int .i64 (k : Int)] w fun e w' => e = .returned (.int .i64 (sbE v l k)) ∧ Below w.heap.size w w' := by
  have hf' := hf.2 k hk
  obtain ⟨a, n, cap⟩ := s
  have hl : l.length = n := hs.1
  have hcm : cap ≤ maxLen := hs.2.2.1
  have hnc : n ≤ cap := hs.2.1
  unfold maxLen at hcm
  obtain ⟨g, off, hga, -, hglt, hcell⟩ := hs.2.2.2.at_ (by omega)
  dsimp only at hga
  subst hga
  obtain ⟨q, ⟨c0, c1, c2, c3⟩, hIq⟩ := hcell k hk
  have hkn : k < n := by omega
  have hki : (k : Int) < (n : Int) := by omega
  have hbA : Below w.heap.size w (w.alloc (.cells #[.int .i64 v, .slice (some ⟨g, off, none⟩) n cap] 143)) := (Below.refl _ _).alloc (Nat.le_refl _) _
  have hDA := Dc.new w (.int .i64 v) (.slice (some ⟨g, off, none⟩) n cap) 143
  have e0 := (hbA.cell (p := ⟨g, off + k * 4, none⟩) hglt).trans c0
  have e1 := (hbA.cell (p := ⟨g, off + k * 4 + 1, none⟩) hglt).trans c1
  have e2 := (hbA.cell (p := ⟨g, off + k * 4 + 2, none⟩) hglt).trans c2
  have e3 := (hbA.cell (p := ⟨g, off + k * 4 + 3, none⟩) hglt).trans c3
  obtain ⟨WA, hWA⟩ : ∃ W, (w.alloc (.cells #[.int .i64 v, .slice (some ⟨g, off, none⟩) n cap] 143)) = W := ⟨_, rfl⟩
  rw [hWA] at hbA hDA e0 e1 e2 e3
  have hsA : WA.heap.size = w.heap.size + 1 := by rw [← hWA]; simp
  have hbB : Below WA.heap.size WA (WA.alloc (.cells #[.string (nthX l k).n, .int .i64 (nthX l k).v, .int .i64 (nthX l k).x, slW q] 128)) := (Below.refl _ _).alloc (Nat.le_refl _) _
  have hQB := Qc.new WA (.string (nthX l k).n) (.int .i64 (nthX l k).v) (.int .i64 (nthX l k).x) (slW q) 128
  have hDB := hDA.below hbB hDA.lt
  have hbWB : Below w.heap.size w _ := hbA.trans (hbB.mono hbA.size)
  have hsB : (WA.alloc (.cells #[.string (nthX l k).n, .int .i64 (nthX l k).v, .int .i64 (nthX l k).x, slW q] 128)).heap.size = w.heap.size + 1 + 1 := by simp [hsA]
  rw [hsA] at hQB
  have HCB := boxFault_any (nthX l k) q _ (hIq.below hbWB) hf'.1
  have HCT : Hid (∀ w1, Below w.heap.size w w1 → Calls Tryz.prog _ #[slW (some ⟨g, off, none⟩, n, cap), .int .i64 (k : Int)] w1 _) := fun w1 hb => isTaken_any (some ⟨g, off, none⟩, n, cap) l k w1 (hs.below hb) hk
  have HV : Hid (sbE v l k = if bfV (nthX l k) = 0 then (if v ≤ (nthX l k).v then 9 else if decide (0 ≤ ixG k (tkB l k)) = true then 6 else 0) else bfV (nthX l k)) := by
    show _ = _
    unfold sbE
    simp only [decide_eq_true_eq]
  clear hs hcell hIq hf hf' c0 c1 c2 c3
  generalize decide (0 ≤ ixG k (tkB l k)) = tk at *
  generalize sbE v l k = r at *
  generalize bfV (nthX l k) = c at *
  generalize nthX l k = y at *
  obtain ⟨yn, yv, yx, ym⟩ := y
  dsimp only [slW] at *
  go_enter Tryz.func122, Tryz.ntmps122
  obtain ⟨d0, d1⟩ := id hDA
  dsimp only at d0 d1
  go_wp2_with fail
  generalize (WA.alloc (.cells #[.string yn, .int .i64 yv, .int .i64 yx, .slice q.1 q.2.1 q.2.2] 128)) = WB at *
  clear d0 d1
  refine HCB.mono ?_
  rintro e w1 ⟨rfl, hb1⟩
  have hbw := hbWB.trans (hb1.mono hbWB.size)
  obtain ⟨q0, q1, q2, q3⟩ := hQB.below hb1 (by omega)
  obtain ⟨d0, d1⟩ := hDB.below hb1 (by omega)
  dsimp only at q0 q1 q2 q3 d0 d1
  clear HCB hb1 hbWB hQB hDB hbA hbB hDA e0 e1 e2 e3
  by_cases hc : c = 0
  · subst hc
    by_cases hv : v ≤ yv
    · have HM : Hid (r = 9) := HV.out.trans (by simp [hv])
      clear HV HCT
      go_wp2
      go_ret
      exact ⟨by rw [HM.out]; rfl, hbw⟩
    · have HM : Hid (r = if tk = true then 6 else 0) := HV.out.trans (by simp [hv])
      clear HV
      go_wp2_with fail
      refine (HCT.out w1 hbw).mono ?_
      rintro e w2 ⟨rfl, hb2⟩
      have hbw2 := hbw.trans (hb2.mono hbw.size)
      clear HCT
      cases tk with
      | true =>
        have HM : Hid (r = 6) := HM.out
        go_wp2
        go_ret
        exact ⟨by rw [HM.out]; rfl, hbw2⟩
      | false =>
        have HM : Hid (r = 0) := HM.out
        go_wp2
        go_ret
        exact ⟨by rw [HM.out]; rfl, hbw2⟩
  · have HM : Hid (r = c) := HV.out.trans (by simp [hc])
    clear HV HCT
    go_wp2
    go_ret
    exact ⟨by rw [HM.out]; rfl, hbw⟩
end Go.Proofs.YtejbbnpgghpgaaaGreatDoor
namespace Go.Proofs.YtejbbnpgghpgaaaGreatDoor
open Go.RowKit
set_option maxHeartbeats 800000 in
set_option maxRecDepth 100000 in
theorem shelfOf_any (v : Int) (s : SlQ) (w : World) :
    Calls Tryz.prog 121 #[.agg #[.int .i64 v, slW s]] w fun e w' => e = .returned (.agg #[.int .i64 v, slW s]) ∧ Below w.heap.size w w' := by
  go_enter Tryz.func121, Tryz.ntmps121
  go_wp2
  go_returns
  exact ⟨rfl, by go_grown⟩
set_option maxHeartbeats 3200000 in
set_option maxRecDepth 100000 in
theorem storeFault_any (v : Int) (s : SlQ) (l : List Bx) {lo : Nat} (w : World) (hs : IsXs lo w s l) (hf : FtXs l) :
    Calls Tryz.prog 62 #[.agg #[.int .i64 v, slW s]] w fun e w' => e = .returned (.int .i64 (stV v l)) ∧ Below w.heap.size w w' := by
  have hb0 : Below w.heap.size w (w.alloc (.cells #[.int .i64 v, slW s] 33)) := (Below.refl _ _).alloc (Nat.le_refl _) _
  have hD0 := Dc.new w (.int .i64 v) (slW s) 33
  have hs0 := hs.below hb0
  have HV : Hid (stV v l = if bt v 1 1000 = true then (if 3 < s.2.1 then 2 else sxV v l s.2.1 0) else 3) := by show _ = _; unfold stV; rw [hs.1]
  clear hs
  generalize stV v l = r at *
  go_enter Tryz.func62, Tryz.ntmps62
  obtain ⟨a, n, cap⟩ := s
  dsimp only [slW] at *
  obtain ⟨c0, c1⟩ := id hD0
  dsimp only at c0 c1
  cases h0 : bt v 1 1000 with
  | false =>
    have HM : Hid (r = 3) := HV.out.trans (by simp [h0])
    clear HV
    go_wp2_with (first | (go_at_call 120; refine (isBetween_bt _ _ _ _).mono ?_; rintro e w' ⟨rfl, rfl⟩))
    go_ret
    exact ⟨by rw [HM.out]; rfl, hb0⟩
  | true =>
    have hcm := hs0.2.2.1
    unfold maxLen at hcm
    have hnc := hs0.2.1
    dsimp only at hcm hnc
    by_cases h3 : 3 < n
    · have h3' : (3 : Int) < (n : Int) := by omega
      have HM : Hid (r = 2) := HV.out.trans (by simp [h0, h3])
      clear HV
      go_wp2_with (first | (go_at_call 120; refine (isBetween_bt _ _ _ _).mono ?_; rintro e w' ⟨rfl, rfl⟩))
      go_ret
      exact ⟨by rw [HM.out]; rfl, hb0⟩
    · have h3' : ¬ (3 : Int) < (n : Int) := by omega
      have HM : Hid (r = sxV v l (n - 0) 0) := HV.out.trans (by simp [h0, h3])
      clear HV
      go_wp2_with (first | (go_at_call 120; refine (isBetween_bt _ _ _ _).mono ?_; rintro e w' ⟨rfl, rfl⟩))
      generalize (w.alloc (.cells #[.int .i64 v, .slice a n cap] 33)) = W0 at *
      refine (shelfOf_any v (a, n, cap) W0).mono ?_
      rintro e w1 ⟨rfl, hb1⟩
      have hB1 := hb0.trans (hb1.mono hb0.size)
      have hs1 := hs0.below hb1
      have hbS : Below w1.heap.size w1 (w1.alloc (.cells #[.int .i64 v, .slice a n cap] 143)) := (Below.refl _ _).alloc (Nat.le_refl _) _
      have hDS := Dc.new w1 (.int .i64 v) (.slice a n cap) 143
      have hsS := hs1.below hbS
      have hBS : Below w.heap.size w _ := hB1.trans (hbS.mono hB1.size)
      obtain ⟨WS, hWS⟩ : ∃ W, (w1.alloc (.cells #[.int .i64 v, .slice a n cap] 143)) = W := ⟨_, rfl⟩
      rw [hWS] at hbS hDS hsS hBS
      clear hb0 hb1 hD0 c0 c1 hs0 hs1 hbS hB1
      obtain ⟨c0, c1⟩ := id hDS
      dsimp only at c0 c1
      go_wp2
      go_loopw [19] (fun i wr => ∃ k : Nat, k ≤ n ∧ i = .int .i64 k ∧ Hid (r = sxV v l (n - k) k) ∧ Below WS.heap.size WS wr) (fun i _ => n - (intOf i).toNat)
      case atStart => exact ⟨0, Nat.zero_le _, rfl, HM, Below.refl _ _⟩
      case round =>
        obtain ⟨k, hk, rfl, HR, hbel⟩ := hrel
        clear HM c0 c1
        have hB := hBS.trans (hbel.mono hBS.size)
        obtain ⟨c0, c1⟩ := hDS.below hbel hDS.lt
        dsimp only at c0 c1
        by_cases hkn : k < n
        · have hki : (k : Int) < (n : Int) := by omega
          have HCF := faultAt_any v (a, n, cap) l k wr (hsS.below hbel) (by rw [hsS.1]; exact hkn) hf
          have HST : Hid (r = if sbE v l k = 0 then sxV v l (n - (k + 1)) (k + 1) else sbE v l k) := HR.out.trans (sxV_step v l n k hkn)
          clear HR
          obtain ⟨rest, hrest⟩ : ∃ z, sxV v l (n - (k + 1)) (k + 1) = z := ⟨_, rfl⟩
          have HRR : Hid (r = rest → Hid (r = sxV v l (n - (k + 1)) (k + 1))) := fun h => h.trans hrest.symm
          rw [hrest] at HST
          clear hrest
          generalize sbE v l k = c at *
          go_wp2_with fail
          refine HCF.mono ?_
          rintro e w2 ⟨rfl, hb2⟩
          have hbel2 := hbel.trans (hb2.mono hbel.size)
          have hB2 := hBS.trans (hbel2.mono hBS.size)
          clear HCF hb2 c0 c1
          by_cases hc : c = 0
          · subst hc
            have HM : Hid (r = rest) := HST.out.trans (if_pos rfl)
            clear HST
            go_wp2
            go_roundw
            case rel => exact ⟨k + 1, by omega, by go_num, HRR.out HM.out, hbel2⟩
            case measure => simp [intOf]; omega
          · have HM : Hid (r = c) := HST.out.trans (if_neg hc)
            clear HST HRR
            go_wp2
            go_ret
            exact ⟨by rw [HM.out]; rfl, hB2⟩
        · have hki : ¬ (k : Int) < (n : Int) := by omega
          have HM : Hid (r = 0) := HR.out.trans (sxV_end v l n k (by omega))
          clear HR
          go_wp2
          go_ret
          exact ⟨by rw [HM.out]; rfl, hB⟩
end Go.Proofs.YtejbbnpgghpgaaaGreatDoor
