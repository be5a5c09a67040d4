/- The fault of a store: the program's side; no conditions beyond those that each fact names. -/
import Derived.Test.YtmidjgpegdodcaaDoorSta
namespace Go.Proofs.YtmidjgpegdodcaaDoor
open Go.RowKit

/-- The j-th mailbox has the k-th one's name, or its validity. -/
def tkB (l : List Bx) (k j : Nat) : Bool := decide ((nthX l j).n = (nthX l k).n ∨ (nthX l j).v = (nthX l k).v)
/-- What is the fault of the k-th mailbox in a store. -/
def sbE (v : Int) (l : List Bx) (k : Nat) : Int := if bfV (nthX l k) = 0 then (if v ≤ (nthX l k).v then 9 else if 0 ≤ ixG k (tkB l k) then 6 else 0) else bfV (nthX l k)
def sxV (v : Int) (l : List Bx) : Nat → Nat → Int
  | 0, _ => 0
  | r + 1, k => if sbE v l k = 0 then sxV v l r (k + 1) else sbE v l k
/-- THE FAULT OF A STORE. -/
def stV (v : Int) (l : List Bx) : Int := if bt v 1 1000 = true then (if 3 < l.length then 2 else sxV v l l.length 0) else 3
theorem sxV_step (v : Int) (l : List Bx) (n k : Nat) (h : k < n) : sxV v l (n - k) k = if sbE v l k = 0 then sxV v l (n - (k + 1)) (k + 1) else sbE v l k := by
  rw [show n - k = (n - (k + 1)) + 1 by omega]; rfl
theorem sxV_end (v : Int) (l : List Bx) (n k : Nat) (h : n ≤ k) : sxV v l (n - k) k = 0 := by
  rw [show n - k = 0 by omega]; rfl

theorem toList_ne {a b : ByteArray} (h : a ≠ b) : ¬ a.toList = b.toList := fun e => h (by
  rw [ByteArray.toList_eq, ByteArray.toList_eq] at e
  cases a; cases b; simp_all)

set_option maxHeartbeats 800000 in
set_option maxRecDepth 100000 in
theorem isSameName_any (U : Nat) (b : Bx) (sb : SlQ) (m : Bx) (q : SlQ) (w : World) (hU : Qc w U (bxQ b sb)) :
    Calls Tryd.prog 46 #[bxX m q, .pointer (some ⟨U, 0, none⟩)] w fun e w' => e = .returned (.bool (decide (m.n = b.n ∨ m.v = b.v))) ∧ Below w.heap.size w w' := by
  have hb0 : Below w.heap.size w (w.alloc (.cells #[.string m.n, .int .i64 m.v, .int .i64 m.x, slW q] 45)) := (Below.refl _ _).alloc (Nat.le_refl _) _
  obtain ⟨u0, u1, u2, u3⟩ := hU.below hb0 hU.lt
  obtain ⟨mn, mv, mx, mm⟩ := m
  obtain ⟨bn, bv, bx, bm⟩ := b
  dsimp only at *
  by_cases h : mn = bn
  · have HM : Hid (decide (mn = bn ∨ mv = bv) = true) := decide_eq_true (.inl h)
    generalize decide (mn = bn ∨ mv = bv) = r at *
    subst h
    go_enter Tryd.func46, Tryd.ntmps46
    go_wp2
    go_ret
    rw [HM.out]
    exact ⟨rfl, hb0⟩
  · have hl := toList_ne h
    have hl' : (mn.toList == bn.toList) = false := by simpa using hl
    by_cases h2 : mv = bv
    · have HM : Hid (decide (mn = bn ∨ mv = bv) = true) := decide_eq_true (.inr h2)
      generalize decide (mn = bn ∨ mv = bv) = r at *
      subst h2
      go_enter Tryd.func46, Tryd.ntmps46
      go_wp2
      go_ret
      rw [HM.out]
      exact ⟨rfl, hb0⟩
    · have HM : Hid (decide (mn = bn ∨ mv = bv) = false) := decide_eq_false (by simp [h, h2])
      have h2' : (mv == bv) = false := by simpa using h2
      generalize decide (mn = bn ∨ mv = bv) = r at *
      go_enter Tryd.func46, Tryd.ntmps46
      go_wp2
      go_ret
      rw [HM.out]
      exact ⟨rfl, hb0⟩

theorem nthX_take {l : List Bx} {k i : Nat} (h : i < k) : nthX (l.take k) i = nthX l i := by
  unfold nthX; rw [List.getD_eq_getElem?_getD, List.getD_eq_getElem?_getD, List.getElem?_take, if_pos h]
theorem IsXs.take {lo : Nat} {w : World} {a : Option Addr} {n cap : Nat} {l : List Bx} (h : IsXs lo w (a, n, cap) l) (k : Nat) (hk : k ≤ n) : IsXs lo w (a, k, cap) (l.take k) := by
  obtain ⟨h1, h2, h3, h4⟩ := h
  dsimp only at h1 h2 h3 h4
  refine ⟨by dsimp only; rw [List.length_take]; omega, by dsimp only; omega, h3, ?_⟩
  rcases h4 with h4 | ⟨b, off, e, hlo, hlt, hc⟩
  · left; rw [h4]; simp
  · right
    refine ⟨b, off, e, hlo, hlt, fun i hi => ?_⟩
    rw [List.length_take] at hi
    rw [nthX_take (by omega)]
    exact hc i (by omega)
theorem ixG_congr {n : Nat} {p q : Nat → Bool} (h : ∀ i, i < n → p i = q i) : ixG n p = ixG n q := by
  rcases ixG_cases n p with ⟨e, hp⟩ | ⟨k, hk, e, hp, hall⟩
  · rw [e, ixG_no (fun i hi => by rw [← h i hi]; exact hp i hi)]
  · rw [e, ixG_at hk (by rw [← h k hk]; exact hp) (fun j hj => by rw [← h j (by omega)]; exact hall j hj)]

theorem containsBox_any (G : Nat) (ct : Value) (s : SlQ) (l : List Bx) (p : Nat → Bool) {lo : Nat} (w : World) (hs : IsXs lo w s l)
    (hG : ∀ (args : Array Value) (w : World), (callFunc G args).run Tryd.prog w = .ok (.enter G args) w)
    (hI : ∀ k, k < l.length → ∀ (q : SlQ) (w' : World), Below w.heap.size w w' → Calls Tryd.prog G #[bxX (nthX l k) q, ct] w' fun e w'' => e = .returned (.bool (p k)) ∧ Below w'.heap.size w' w'') :
    Calls Tryd.prog 45 #[slW s, .func (.func G) #[] #[ct]] w fun e w' => e = .returned (.bool (decide (0 ≤ ixG l.length p))) ∧ Below w.heap.size w w' := by
  have HC := indexBox_any G ct s l p w hs hG hI
  clear hI hG
  generalize ixG l.length p = ix at *
  go_enter Tryd.func45, Tryd.ntmps45
  go_wp2_with fail
  refine HC.mono ?_
  rintro e w1 ⟨rfl, hb1⟩
  clear HC
  go_wp2
  go_ret
  exact ⟨rfl, hb1⟩

set_option maxHeartbeats 1600000 in
set_option maxRecDepth 100000 in
theorem isTaken_any (s : SlQ) (l : List Bx) (k : Nat) {lo : Nat} (w : World) (hs : IsXs lo w s l) (hk : k < l.length) :
    Calls Tryd.prog 35 #[slW s, .int .i64 (k : Int)] w fun e w' => e = .returned (.bool (decide (0 ≤ ixG k (tkB l k)))) ∧ Below w.heap.size w w' := by
  obtain ⟨a, n, cap⟩ := s
  have hl : l.length = n := hs.1
  have hnc : n ≤ cap := hs.2.1
  have hcm : cap ≤ maxLen := hs.2.2.1
  unfold maxLen at hcm
  obtain ⟨g, off, hga, -, hglt, hcell⟩ := hs.2.2.2.at_ (by omega)
  dsimp only at hga
  subst hga
  obtain ⟨q, ⟨c0, c1, c2, c3⟩, -⟩ := hcell k hk
  have hkn : k < n := by omega
  have hki : (k : Int) < (n : Int) := by omega
  have hkc : k ≤ cap := by omega
  have hkc' : (k : Int) ≤ (cap : Int) := by omega
  have hb0 : Below w.heap.size w (w.alloc (.cells #[.string (nthX l k).n, .int .i64 (nthX l k).v, .int .i64 (nthX l k).x, slW q] 45)) := (Below.refl _ _).alloc (Nat.le_refl _) _
  have hQ := Qc.new w (.string (nthX l k).n) (.int .i64 (nthX l k).v) (.int .i64 (nthX l k).x) (slW q) 45
  have hLT := hQ.lt
  have HC := containsBox_any 46 (.pointer (some ⟨w.heap.size, 0, none⟩)) (some ⟨g, off, none⟩, k, cap) (l.take k) (tkB l k) _ ((hs.take k (by omega)).below hb0) (fun _ _ => by kernel_rfl) (fun j hj q' w' hb' => by
    rw [List.length_take] at hj
    rw [nthX_take (by omega)]
    exact isSameName_any w.heap.size (nthX l k) q (nthX l j) q' w' (hQ.below hb' hLT))
  have hlk : (l.take k).length = k := by rw [List.length_take]; omega
  rw [hlk] at HC
  clear hs hcell hlk hQ
  generalize decide (0 ≤ ixG k (tkB l k)) = r at *
  generalize nthX l k = y at *
  obtain ⟨yn, yv, yx, ym⟩ := y
  dsimp only [slW] at *
  go_enter Tryd.func35, Tryd.ntmps35
  go_wp2_with fail
  refine HC.mono ?_
  rintro e w1 ⟨rfl, hb1⟩
  have hbw := hb0.trans (hb1.mono hb0.size)
  clear HC hb0 hb1
  go_wp2
  go_ret
  exact ⟨rfl, hbw⟩

set_option maxHeartbeats 3200000 in
set_option maxRecDepth 100000 in
theorem faultAt_any (v : Int) (s : SlQ) (l : List Bx) (k : Nat) {lo : Nat} (w : World) (hs : IsXs lo w s l) (hk : k < l.length) (hf : FtXs l) :
    Calls Tryd.prog 25 #[.agg #[.int .i64 v, slW s], .int .i64 (k : Int)] w fun e w' => e = .returned (.int .i64 (sbE v l k)) ∧ Below w.heap.size w w' := by
  have hf' := hf.2 k hk
  obtain ⟨a, n, cap⟩ := s
  have hl : l.length = n := hs.1
  have hcm : cap ≤ maxLen := hs.2.2.1
  have hnc : n ≤ cap := hs.2.1
  unfold maxLen at hcm
  obtain ⟨g, off, hga, -, hglt, hcell⟩ := hs.2.2.2.at_ (by omega)
  dsimp only at hga
  subst hga
  obtain ⟨q, ⟨c0, c1, c2, c3⟩, hIq⟩ := hcell k hk
  have hkn : k < n := by omega
  have hki : (k : Int) < (n : Int) := by omega
  have hbA : Below w.heap.size w (w.alloc (.cells #[.int .i64 v, .slice (some ⟨g, off, none⟩) n cap] 64)) := (Below.refl _ _).alloc (Nat.le_refl _) _
  have hDA := Dc.new w (.int .i64 v) (.slice (some ⟨g, off, none⟩) n cap) 64
  have e0 := (hbA.cell (p := ⟨g, off + k * 4, none⟩) hglt).trans c0
  have e1 := (hbA.cell (p := ⟨g, off + k * 4 + 1, none⟩) hglt).trans c1
  have e2 := (hbA.cell (p := ⟨g, off + k * 4 + 2, none⟩) hglt).trans c2
  have e3 := (hbA.cell (p := ⟨g, off + k * 4 + 3, none⟩) hglt).trans c3
  obtain ⟨WA, hWA⟩ : ∃ W, (w.alloc (.cells #[.int .i64 v, .slice (some ⟨g, off, none⟩) n cap] 64)) = W := ⟨_, rfl⟩
  rw [hWA] at hbA hDA e0 e1 e2 e3
  have hsA : WA.heap.size = w.heap.size + 1 := by rw [← hWA]; simp
  have hbB : Below WA.heap.size WA (WA.alloc (.cells #[.string (nthX l k).n, .int .i64 (nthX l k).v, .int .i64 (nthX l k).x, slW q] 45)) := (Below.refl _ _).alloc (Nat.le_refl _) _
  have hQB := Qc.new WA (.string (nthX l k).n) (.int .i64 (nthX l k).v) (.int .i64 (nthX l k).x) (slW q) 45
  have hDB := hDA.below hbB hDA.lt
  have hbWB : Below w.heap.size w _ := hbA.trans (hbB.mono hbA.size)
  have hsB : (WA.alloc (.cells #[.string (nthX l k).n, .int .i64 (nthX l k).v, .int .i64 (nthX l k).x, slW q] 45)).heap.size = w.heap.size + 1 + 1 := by simp [hsA]
  rw [hsA] at hQB
  have HCB := boxFault_any (nthX l k) q _ (hIq.below hbWB) hf'.1
  have HCT : Hid (∀ w1, Below w.heap.size w w1 → Calls Tryd.prog _ #[slW (some ⟨g, off, none⟩, n, cap), .int .i64 (k : Int)] w1 _) := fun w1 hb => isTaken_any (some ⟨g, off, none⟩, n, cap) l k w1 (hs.below hb) hk
  have HV : Hid (sbE v l k = if bfV (nthX l k) = 0 then (if v ≤ (nthX l k).v then 9 else if decide (0 ≤ ixG k (tkB l k)) = true then 6 else 0) else bfV (nthX l k)) := by
    show _ = _
    unfold sbE
    simp only [decide_eq_true_eq]
  clear hs hcell hIq hf hf' c0 c1 c2 c3
  generalize decide (0 ≤ ixG k (tkB l k)) = tk at *
  generalize sbE v l k = r at *
  generalize bfV (nthX l k) = c at *
  generalize nthX l k = y at *
  obtain ⟨yn, yv, yx, ym⟩ := y
  dsimp only [slW] at *
  go_enter Tryd.func25, Tryd.ntmps25
  obtain ⟨d0, d1⟩ := id hDA
  dsimp only at d0 d1
  go_wp2_with fail
  generalize (WA.alloc (.cells #[.string yn, .int .i64 yv, .int .i64 yx, .slice q.1 q.2.1 q.2.2] 45)) = WB at *
  clear d0 d1
  refine HCB.mono ?_
  rintro e w1 ⟨rfl, hb1⟩
  have hbw := hbWB.trans (hb1.mono hbWB.size)
  obtain ⟨q0, q1, q2, q3⟩ := hQB.below hb1 (by omega)
  obtain ⟨d0, d1⟩ := hDB.below hb1 (by omega)
  dsimp only at q0 q1 q2 q3 d0 d1
  clear HCB hb1 hbWB hQB hDB hbA hbB hDA e0 e1 e2 e3
  by_cases hc : c = 0
  · subst hc
    by_cases hv : v ≤ yv
    · have HM : Hid (r = 9) := HV.out.trans (by simp [hv])
      clear HV HCT
      go_wp2
      go_ret
      exact ⟨by rw [HM.out]; rfl, hbw⟩
    · have HM : Hid (r = if tk = true then 6 else 0) := HV.out.trans (by simp [hv])
      clear HV
      go_wp2_with fail
      refine (HCT.out w1 hbw).mono ?_
      rintro e w2 ⟨rfl, hb2⟩
      have hbw2 := hbw.trans (hb2.mono hbw.size)
      clear HCT
      cases tk with
      | true =>
        have HM : Hid (r = 6) := HM.out
        go_wp2
        go_ret
        exact ⟨by rw [HM.out]; rfl, hbw2⟩
      | false =>
        have HM : Hid (r = 0) := HM.out
        go_wp2
        go_ret
        exact ⟨by rw [HM.out]; rfl, hbw2⟩
  · have HM : Hid (r = c) := HV.out.trans (by simp [hc])
    clear HV HCT
    go_wp2
    go_ret
    exact ⟨by rw [HM.out]; rfl, hbw⟩
end Go.Proofs.YtmidjgpegdodcaaDoor
