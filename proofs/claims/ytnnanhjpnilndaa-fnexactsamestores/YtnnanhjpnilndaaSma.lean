/- Whether two messages, two mailboxes, two stores are the same: the program's side; no conditions beyond those that each fact names. -/
import Derived.Test.YtnnanhjpnilndaaSte
namespace Go.Proofs.Ytnnanhjpnilndaa
open Go.RowKit

/-- Two lists are as long as each other, and p holds place by place. -/
def eqG (n m : Nat) (p : Nat → Bool) : Bool := decide (n = m) && (List.range n).all p
theorem eqG_ne {n m : Nat} {p : Nat → Bool} (h : n ≠ m) : eqG n m p = false := by simp [eqG, h]
theorem eqG_bad {n m k : Nat} {p : Nat → Bool} (hk : k < n) (h : p k = false) : eqG n m p = false := by
  have : (List.range n).all p = false := List.all_eq_false.2 ⟨k, by simpa using hk, by simp [h]⟩
  simp [eqG, this]
theorem eqG_all {n m : Nat} {p : Nat → Bool} (h : n = m) (h' : ∀ k, k < n → p k = true) : eqG n m p = true := by
  have : (List.range n).all p = true := List.all_eq_true.2 (fun k hk => h' k (by simpa using hk))
  subst h
  unfold eqG
  rw [this]
  simp

/-- Two messages are the same. -/
def smM (a b : Msg) : Bool := decide (a.u = b.u) && (decide (a.f = b.f) && (decide (a.d = b.d) && decide (str a.b = str b.b)))
def smX (a b : Bx) : Bool := decide (a.n = b.n) && (decide (a.v = b.v) && (decide (a.x = b.x) && eqG a.m.length b.m.length (fun i => smM (nthM a.m i) (nthM b.m i))))
def smS (v v' : Int) (l l' : List Bx) : Bool := decide (v = v') && eqG l.length l'.length (fun i => smX (nthX l i) (nthX l' i))

set_option maxHeartbeats 1600000 in
set_option maxRecDepth 100000 in
theorem equalMsg_any (G : Nat) (s s' : SlQ) (l l' : List Msg) (p : Msg → Msg → Bool) {lo lo' : Nat} (w : World) (hs : IsMs lo w s l) (hs' : IsMs lo' w s' l')
    (hG : ∀ (args : Array Value) (w : World), (callFunc G args).run Try.prog w = .ok (.enter G args) w)
    (hI : ∀ (y z : Msg) (q q' : SlQ) (w' : World), IsSl lo w' q y.b → IsSl lo' w' q' z.b → Calls Try.prog G #[msX y q, msX z q'] w' fun e w'' => e = .returned (.bool (p y z)) ∧ Below w'.heap.size w' w'') :
    Calls Try.prog 64 #[slW s, slW s', .func (.func G) #[] #[]] w fun e w' => e = .returned (.bool (eqG l.length l'.length (fun i => p (nthM l i) (nthM l' i)))) ∧ Below w.heap.size w w' := by
  obtain ⟨a, n, cap⟩ := s
  obtain ⟨a', n', cap'⟩ := s'
  obtain ⟨hl, hnc, hcm, hr⟩ := hs
  obtain ⟨hl', hnc', hcm', hr'⟩ := hs'
  dsimp only [slW] at *
  unfold maxLen at hcm hcm'
  rw [hl, hl']
  have HI : Hid (∀ (y z : Msg) (q q' : SlQ) (w' : World), IsSl lo w' q y.b → IsSl lo' w' q' z.b → Calls Try.prog G #[msX y q, msX z q'] w' fun e w'' => e = .returned (.bool (p y z)) ∧ Below w'.heap.size w' w'') := hI
  clear hI
  have HB : Hid (∀ k, k < n → p (nthM l k) (nthM l' k) = false → eqG n n' (fun i => p (nthM l i) (nthM l' i)) = false) := fun k hk h => eqG_bad hk h
  have HE : Hid (n ≠ n' → eqG n n' (fun i => p (nthM l i) (nthM l' i)) = false) := fun h => eqG_ne h
  have HA : Hid (n = n' → (∀ k, k < n → p (nthM l k) (nthM l' k) = true) → eqG n n' (fun i => p (nthM l i) (nthM l' i)) = true) := fun h h' => eqG_all h h'
  generalize eqG n n' (fun i => p (nthM l i) (nthM l' i)) = r at *
  go_enter Try.func64, Try.ntmps64
  by_cases hnn : n = n'
  · subst hnn
    go_wp2
    go_loopw [17] (fun i wr => ∃ k : Nat, k ≤ n ∧ i = .int .i64 k ∧ (∀ j, j < k → p (nthM l j) (nthM l' j) = true) ∧ Below w.heap.size w wr) (fun i _ => n - (intOf i).toNat)
    case atStart => exact ⟨0, Nat.zero_le _, rfl, fun j hj => absurd hj (Nat.not_lt_zero _), Below.refl _ _⟩
    case round =>
      obtain ⟨k, hk, rfl, hall, hbel⟩ := hrel
      by_cases hkn : k < n
      · have hki : (k : Int) < (n : Int) := by omega
        obtain ⟨g, off, rfl, -, hglt, hcell⟩ := (hr.below hbel).at_ (by omega)
        obtain ⟨g', off', rfl, -, hglt', hcell'⟩ := (hr'.below hbel).at_ (by omega)
        obtain ⟨q, ⟨c0, c1, c2, c3⟩, hIq⟩ := hcell k (by omega)
        obtain ⟨q', ⟨d0, d1, d2, d3⟩, hIq'⟩ := hcell' k (by omega)
        have HY : Hid (p (nthM l k) (nthM l' k) = true → ∀ j, j < k + 1 → p (nthM l j) (nthM l' j) = true) := fun h j hj => by
          rcases Nat.lt_or_ge j k with h' | h'
          · exact hall j h'
          · obtain rfl : j = k := by omega
            exact h
        have HN : Hid (p (nthM l k) (nthM l' k) = false → r = false) := fun h => HB.out k hkn h
        have HC := HI.out (nthM l k) (nthM l' k) q q'
        clear hall hcell hcell'
        generalize nthM l k = y at *
        generalize nthM l' k = z at *
        generalize p y z = bv at *
        obtain ⟨yu, yf, yd, yb⟩ := y
        obtain ⟨zu, zf, zd, zb⟩ := z
        dsimp only at c0 c1 c2 d0 d1 d2 HC hIq hIq'
        have hbA : Below wr.heap.size wr (wr.alloc (.cells #[.int .i64 yu, .int .i64 yf, .int .i64 yd, slW q] 27)) := (Below.refl _ _).alloc (Nat.le_refl _) _
        have e0 := (hbA.cell (p := ⟨g', off' + k * 4, none⟩) hglt').trans d0
        have e1 := (hbA.cell (p := ⟨g', off' + k * 4 + 1, none⟩) hglt').trans d1
        have e2 := (hbA.cell (p := ⟨g', off' + k * 4 + 2, none⟩) hglt').trans d2
        have e3 := (hbA.cell (p := ⟨g', off' + k * 4 + 3, none⟩) hglt').trans d3
        obtain ⟨WA, hWA⟩ : ∃ W, wr.alloc (.cells #[.int .i64 yu, .int .i64 yf, .int .i64 yd, slW q] 27) = W := ⟨_, rfl⟩
        have hQA := Qc.new wr (.int .i64 yu) (.int .i64 yf) (.int .i64 yd) (slW q) 27
        rw [hWA] at hbA e0 e1 e2 e3 hQA
        have hsA : WA.heap.size = wr.heap.size + 1 := by rw [← hWA]; simp
        have hbB : Below WA.heap.size WA (WA.alloc (.cells #[.int .i64 zu, .int .i64 zf, .int .i64 zd, slW q'] 27)) := (Below.refl _ _).alloc (Nat.le_refl _) _
        have hQB := Qc.new WA (.int .i64 zu) (.int .i64 zf) (.int .i64 zd) (slW q') 27
        have hQAB := hQA.below hbB hQA.lt
        have hbAB := hbA.trans (hbB.mono hbA.size)
        have HC := HC _ (hIq.below hbAB) (hIq'.below hbAB)
        have hbel1 := hbel.trans (hbAB.mono hbel.size)
        obtain ⟨x0, x1, x2, x3⟩ := hQAB
        rw [hsA] at hQB
        obtain ⟨z0, z1, z2, z3⟩ := hQB
        dsimp only at x0 x1 x2 x3 z0 z1 z2 z3
        go_wp2_with fail
        refine HC.mono ?_
        rintro e w2 ⟨rfl, hb2⟩
        have hbel2 := hbel1.trans (hb2.mono hbel1.size)
        clear HC HI hG hb2 hbAB hbA hbB hbel1 c0 c1 c2 c3 d0 d1 d2 d3 e0 e1 e2 e3 x0 x1 x2 x3 z0 z1 z2 z3
        cases bv with
        | true =>
          have HM : Hid (_) := HY.out rfl
          clear HY HN
          go_wp2
          go_roundw
          case rel => exact ⟨k + 1, by omega, by go_num, HM.out, hbel2⟩
          case measure => simp [intOf]; omega
        | false =>
          have HM : Hid (r = false) := HN.out rfl
          clear HY HN
          go_wp2
          go_ret
          exact ⟨by rw [HM.out]; rfl, hbel2⟩
      · have hki : ¬ (k : Int) < (n : Int) := by omega
        have HM : Hid (r = true) := HA.out (by trivial) (fun j hj => hall j (by omega))
        clear hall
        go_wp2
        go_ret
        exact ⟨by rw [HM.out]; rfl, hbel⟩
  · have hnn' : ¬ (n : Int) = (n' : Int) := by omega
    have HM : Hid (r = false) := HE.out hnn
    go_wp2
    go_ret
    exact ⟨by rw [HM.out]; rfl, Below.refl _ _⟩

set_option maxHeartbeats 1600000 in
set_option maxRecDepth 100000 in
theorem equalBox_any (G : Nat) (s s' : SlQ) (l l' : List Bx) (p : Bx → Bx → Bool) {lo lo' : Nat} (w : World) (hs : IsXs lo w s l) (hs' : IsXs lo' w s' l')
    (hG : ∀ (args : Array Value) (w : World), (callFunc G args).run Try.prog w = .ok (.enter G args) w)
    (hI : ∀ (y z : Bx) (q q' : SlQ) (w' : World), IsMs lo w' q y.m → IsMs lo' w' q' z.m → Calls Try.prog G #[bxX y q, bxX z q'] w' fun e w'' => e = .returned (.bool (p y z)) ∧ Below w'.heap.size w' w'') :
    Calls Try.prog 54 #[slW s, slW s', .func (.func G) #[] #[]] w fun e w' => e = .returned (.bool (eqG l.length l'.length (fun i => p (nthX l i) (nthX l' i)))) ∧ Below w.heap.size w w' := by
  obtain ⟨a, n, cap⟩ := s
  obtain ⟨a', n', cap'⟩ := s'
  obtain ⟨hl, hnc, hcm, hr⟩ := hs
  obtain ⟨hl', hnc', hcm', hr'⟩ := hs'
  dsimp only [slW] at *
  unfold maxLen at hcm hcm'
  rw [hl, hl']
  have HI : Hid (∀ (y z : Bx) (q q' : SlQ) (w' : World), IsMs lo w' q y.m → IsMs lo' w' q' z.m → Calls Try.prog G #[bxX y q, bxX z q'] w' fun e w'' => e = .returned (.bool (p y z)) ∧ Below w'.heap.size w' w'') := hI
  clear hI
  have HB : Hid (∀ k, k < n → p (nthX l k) (nthX l' k) = false → eqG n n' (fun i => p (nthX l i) (nthX l' i)) = false) := fun k hk h => eqG_bad hk h
  have HE : Hid (n ≠ n' → eqG n n' (fun i => p (nthX l i) (nthX l' i)) = false) := fun h => eqG_ne h
  have HA : Hid (n = n' → (∀ k, k < n → p (nthX l k) (nthX l' k) = true) → eqG n n' (fun i => p (nthX l i) (nthX l' i)) = true) := fun h h' => eqG_all h h'
  generalize eqG n n' (fun i => p (nthX l i) (nthX l' i)) = r at *
  go_enter Try.func54, Try.ntmps54
  by_cases hnn : n = n'
  · subst hnn
    go_wp2
    go_loopw [17] (fun i wr => ∃ k : Nat, k ≤ n ∧ i = .int .i64 k ∧ (∀ j, j < k → p (nthX l j) (nthX l' j) = true) ∧ Below w.heap.size w wr) (fun i _ => n - (intOf i).toNat)
    case atStart => exact ⟨0, Nat.zero_le _, rfl, fun j hj => absurd hj (Nat.not_lt_zero _), Below.refl _ _⟩
    case round =>
      obtain ⟨k, hk, rfl, hall, hbel⟩ := hrel
      by_cases hkn : k < n
      · have hki : (k : Int) < (n : Int) := by omega
        obtain ⟨g, off, rfl, -, hglt, hcell⟩ := (hr.below hbel).at_ (by omega)
        obtain ⟨g', off', rfl, -, hglt', hcell'⟩ := (hr'.below hbel).at_ (by omega)
        obtain ⟨q, ⟨c0, c1, c2, c3⟩, hIq⟩ := hcell k (by omega)
        obtain ⟨q', ⟨d0, d1, d2, d3⟩, hIq'⟩ := hcell' k (by omega)
        have HY : Hid (p (nthX l k) (nthX l' k) = true → ∀ j, j < k + 1 → p (nthX l j) (nthX l' j) = true) := fun h j hj => by
          rcases Nat.lt_or_ge j k with h' | h'
          · exact hall j h'
          · obtain rfl : j = k := by omega
            exact h
        have HN : Hid (p (nthX l k) (nthX l' k) = false → r = false) := fun h => HB.out k hkn h
        have HC := HI.out (nthX l k) (nthX l' k) q q'
        clear hall hcell hcell'
        generalize nthX l k = y at *
        generalize nthX l' k = z at *
        generalize p y z = bv at *
        obtain ⟨yu, yf, yd, yb⟩ := y
        obtain ⟨zu, zf, zd, zb⟩ := z
        dsimp only at c0 c1 c2 d0 d1 d2 HC hIq hIq'
        have hbA : Below wr.heap.size wr (wr.alloc (.cells #[.string yu, .int .i64 yf, .int .i64 yd, slW q] 38)) := (Below.refl _ _).alloc (Nat.le_refl _) _
        have e0 := (hbA.cell (p := ⟨g', off' + k * 4, none⟩) hglt').trans d0
        have e1 := (hbA.cell (p := ⟨g', off' + k * 4 + 1, none⟩) hglt').trans d1
        have e2 := (hbA.cell (p := ⟨g', off' + k * 4 + 2, none⟩) hglt').trans d2
        have e3 := (hbA.cell (p := ⟨g', off' + k * 4 + 3, none⟩) hglt').trans d3
        obtain ⟨WA, hWA⟩ : ∃ W, wr.alloc (.cells #[.string yu, .int .i64 yf, .int .i64 yd, slW q] 38) = W := ⟨_, rfl⟩
        have hQA := Qc.new wr (.string yu) (.int .i64 yf) (.int .i64 yd) (slW q) 38
        rw [hWA] at hbA e0 e1 e2 e3 hQA
        have hsA : WA.heap.size = wr.heap.size + 1 := by rw [← hWA]; simp
        have hbB : Below WA.heap.size WA (WA.alloc (.cells #[.string zu, .int .i64 zf, .int .i64 zd, slW q'] 38)) := (Below.refl _ _).alloc (Nat.le_refl _) _
        have hQB := Qc.new WA (.string zu) (.int .i64 zf) (.int .i64 zd) (slW q') 38
        have hQAB := hQA.below hbB hQA.lt
        have hbAB := hbA.trans (hbB.mono hbA.size)
        have HC := HC _ (hIq.below hbAB) (hIq'.below hbAB)
        have hbel1 := hbel.trans (hbAB.mono hbel.size)
        obtain ⟨x0, x1, x2, x3⟩ := hQAB
        rw [hsA] at hQB
        obtain ⟨z0, z1, z2, z3⟩ := hQB
        dsimp only at x0 x1 x2 x3 z0 z1 z2 z3
        go_wp2_with fail
        refine HC.mono ?_
        rintro e w2 ⟨rfl, hb2⟩
        have hbel2 := hbel1.trans (hb2.mono hbel1.size)
        clear HC HI hG hb2 hbAB hbA hbB hbel1 c0 c1 c2 c3 d0 d1 d2 d3 e0 e1 e2 e3 x0 x1 x2 x3 z0 z1 z2 z3
        cases bv with
        | true =>
          have HM : Hid (_) := HY.out rfl
          clear HY HN
          go_wp2
          go_roundw
          case rel => exact ⟨k + 1, by omega, by go_num, HM.out, hbel2⟩
          case measure => simp [intOf]; omega
        | false =>
          have HM : Hid (r = false) := HN.out rfl
          clear HY HN
          go_wp2
          go_ret
          exact ⟨by rw [HM.out]; rfl, hbel2⟩
      · have hki : ¬ (k : Int) < (n : Int) := by omega
        have HM : Hid (r = true) := HA.out (by trivial) (fun j hj => hall j (by omega))
        clear hall
        go_wp2
        go_ret
        exact ⟨by rw [HM.out]; rfl, hbel⟩
  · have hnn' : ¬ (n : Int) = (n' : Int) := by omega
    have HM : Hid (r = false) := HE.out hnn
    go_wp2
    go_ret
    exact ⟨by rw [HM.out]; rfl, Below.refl _ _⟩

set_option maxHeartbeats 800000 in
set_option maxRecDepth 100000 in
theorem keptOf_any (m : Msg) (s : SlQ) {lo : Nat} (w : World) (hs : IsSl lo w s m.b) :
    Calls Try.prog 69 #[msX m s] w fun e w' => e = .returned (.agg #[.int .i64 m.u, .int .i64 m.f, .int .i64 m.d, .string (str m.b)]) ∧ Below w.heap.size w w' := by
  have hb0 : Below w.heap.size w ((w.alloc (.cells #[.int .i64 m.u, .int .i64 m.f, .int .i64 m.d, slW s] 27)).alloc (.cells #[.int .i64 0, .int .i64 0, .int .i64 0, .string ⟨#[]⟩] 101)) := ((Below.refl _ _).alloc (Nat.le_refl _) _).alloc (by simp) _
  have hrun := run_str (cap := s.2.2) hs.1 (hs.below hb0).2.2.2.2.1
  obtain ⟨a, n, cap⟩ := s
  dsimp only [slW, msX] at *
  go_enter Try.func69, Try.ntmps69
  go_wp2
  go_returns
  exact ⟨rfl, by go_grown⟩

set_option maxHeartbeats 1600000 in
set_option maxRecDepth 100000 in
theorem isSameMessage_any (a b : Msg) (s s' : SlQ) {lo lo' : Nat} (w : World) (hs : IsSl lo w s a.b) (hs' : IsSl lo' w s' b.b) :
    Calls Try.prog 65 #[msX a s, msX b s'] w fun e w' => e = .returned (.bool (smM a b)) ∧ Below w.heap.size w w' := by
  obtain ⟨W, hW⟩ : ∃ W, (w.alloc (.cells #[.int .i64 a.u, .int .i64 a.f, .int .i64 a.d, slW s] 27)).alloc (.cells #[.int .i64 b.u, .int .i64 b.f, .int .i64 b.d, slW s'] 27) = W := ⟨_, rfl⟩
  have hbA : Below w.heap.size w (w.alloc (.cells #[.int .i64 a.u, .int .i64 a.f, .int .i64 a.d, slW s] 27)) := (Below.refl _ _).alloc (Nat.le_refl _) _
  have hbB : Below (w.heap.size + 1) (w.alloc (.cells #[.int .i64 a.u, .int .i64 a.f, .int .i64 a.d, slW s] 27)) W := by rw [← hW]; exact (Below.refl _ _).alloc (by simp) _
  have hbW : Below w.heap.size w W := hbA.trans (hbB.mono (by omega))
  have hQ := (Qc.new w (.int .i64 a.u) (.int .i64 a.f) (.int .i64 a.d) (slW s) 27).below hbB (by omega)
  have hQ' : Qc W (w.heap.size + 1) (.int .i64 b.u, .int .i64 b.f, .int .i64 b.d, slW s') := by
    have := Qc.new (w.alloc (.cells #[.int .i64 a.u, .int .i64 a.f, .int .i64 a.d, slW s] 27)) (.int .i64 b.u) (.int .i64 b.f) (.int .i64 b.d) (slW s') 27
    rw [hW] at this
    simpa using this
  have hsz : W.heap.size = w.heap.size + 1 + 1 := by rw [← hW]; simp
  have hs2 := hs.below hbW
  have hs2' := hs'.below hbW
  have HV : Hid (smM a b = (decide (a.u = b.u) && (decide (a.f = b.f) && (decide (a.d = b.d) && decide (str a.b = str b.b))))) := rfl
  have HK : Hid (∀ w' : World, IsSl lo w' s a.b → Calls Try.prog _ #[.agg #[.int .i64 a.u, .int .i64 a.f, .int .i64 a.d, slW s]] w' fun e w'' => e = .returned (.agg #[.int .i64 a.u, .int .i64 a.f, .int .i64 a.d, .string (str a.b)]) ∧ Below w'.heap.size w' w'') := fun w' h => keptOf_any a s w' h
  have HK' : Hid (∀ w' : World, IsSl lo' w' s' b.b → Calls Try.prog _ #[.agg #[.int .i64 b.u, .int .i64 b.f, .int .i64 b.d, slW s']] w' fun e w'' => e = .returned (.agg #[.int .i64 b.u, .int .i64 b.f, .int .i64 b.d, .string (str b.b)]) ∧ Below w'.heap.size w' w'') := fun w' h => keptOf_any b s' w' h
  generalize smM a b = r at *
  obtain ⟨au, af, ad, ab⟩ := a
  obtain ⟨bu, bf, bd, bb⟩ := b
  dsimp only at *
  generalize str ab = ast at *
  generalize str bb = bst at *
  go_enter Try.func65, Try.ntmps65
  go_wp2_with fail
  refine wp_region_held_drew (S := fun w' => Qc w' w.heap.size (.int .i64 au, .int .i64 af, .int .i64 ad, slW s) ∧ Qc w' (w.heap.size + 1) (.int .i64 bu, .int .i64 bf, .int .i64 bd, slW s')) (by kernel_rfl) ?hS1 (fun hHeld => ?_)
  case hS1 => exact ⟨hQ, hQ'⟩
  refine wpAnyH_take (i := 0) (v := ?_) rfl (by kernel_rfl) (by kernel_rfl) (by kernel_rfl) (fun _ _ _ h => h) (Or.inl ⟨by rfl, ?hy2⟩) (by assumption) ?ty2
  case hy2 => (intro w hSw; (try dsimp only at hSw); obtain ⟨⟨e0, e1, e2, e3⟩, -⟩ := hSw; go_simp; all_goals with_reducible rfl)
  simp only [Act.put, List.getElem_toArray, List.getElem_cons_zero, List.setIfInBounds_toArray, List.set_cons_zero, List.set_cons_succ]
  refine wpAnyH_take (i := 2) (v := ?_) rfl (by kernel_rfl) (by kernel_rfl) (by kernel_rfl) (fun _ _ _ h => h) (Or.inl ⟨by rfl, ?hy3⟩) (by assumption) ?ty3
  case hy3 => (intro w hSw; (try dsimp only at hSw); obtain ⟨-, ⟨e0, e1, e2, e3⟩⟩ := hSw; go_simp; all_goals with_reducible rfl)
  simp only [Act.put, List.getElem_toArray, List.getElem_cons_zero, List.getElem_cons_succ, List.setIfInBounds_toArray, List.set_cons_zero, List.set_cons_succ]
  refine wpAnyH_ready (rs := [1]) (by kernel_rfl) (by simp) ?_
  refine AllReadyH.cons rfl (fun K hK => ?_) AllReadyH.nil
  go_simp
  refine (HK.out _ (hs2.below (Below.refl _ _).drew)).mono ?_
  rintro e w1 ⟨rfl, hb1⟩
  have hbW1 : Below W.heap.size W w1 := (Below.refl _ _).drew.trans hb1
  have hS1 := hQ.below hbW1 (by omega)
  have hS1' := hQ'.below hbW1 (by omega)
  refine hK.out _ _ ⟨hS1, hS1'⟩ (fun hHeld => ?_)
  clear hK K
  refine wpAnyH_ready (rs := [3]) (by kernel_rfl) (by simp) ?_
  refine AllReadyH.cons rfl (fun K hK => ?_) AllReadyH.nil
  go_simp
  refine (HK'.out _ (hs2'.below hbW1)).mono ?_
  rintro e w2 ⟨rfl, hb2⟩
  have hbW2 := hbW1.trans (hb2.mono hbW1.size)
  have hbw := hbW.trans (hbW2.mono hbW.size)
  refine hK.out _ _ ⟨hQ.below hbW2 (by omega), hQ'.below hbW2 (by omega)⟩ (fun hHeld => ?_)
  clear hK K
  refine wpAnyH_take (i := 4) (v := .bool r) rfl (by kernel_rfl) (by kernel_rfl) (by kernel_rfl) (fun _ _ _ h => h) (Or.inl ⟨by rfl, ?hyq⟩) (by assumption) ?tyq
  case hyq =>
    intro w hSw
    have hst : (ast.toList = bst.toList) = (ast = bst) := propext ⟨fun h => Decidable.byContradiction fun hn => toList_ne hn h, fun h => by rw [h]⟩
    go_simp
    rw [HV.out]
    by_cases h1 : au = bu <;> by_cases h2 : af = bf <;> by_cases h3 : ad = bd <;> by_cases h4 : ast = bst <;> simp [h1, h2, h3, h4]
  simp only [Act.put, List.getElem_toArray, List.getElem_cons_zero, List.getElem_cons_succ, List.setIfInBounds_toArray, List.set_cons_zero, List.set_cons_succ]
  refine wpAnyH_take (i := 5) (v := ?_) rfl (by kernel_rfl) (by kernel_rfl) (by kernel_rfl) (fun _ _ _ h => h) (Or.inl ⟨by rfl, ?hy4⟩) (by assumption) ?ty4
  case hy4 => (intro w hSw; (try dsimp only at hSw); obtain ⟨-, -⟩ := hSw; go_simp; all_goals with_reducible rfl)
  simp only [Act.put, List.getElem_toArray, List.getElem_cons_zero, List.getElem_cons_succ, List.setIfInBounds_toArray, List.set_cons_zero, List.set_cons_succ]
  refine wpAnyH_done (by kernel_rfl) ?_ _
  clear hHeld HV
  go_wp2
  go_ret
  exact ⟨rfl, hbw⟩

set_option maxHeartbeats 1600000 in
set_option maxRecDepth 100000 in
theorem isSameBox_any (a b : Bx) (s s' : SlQ) {lo lo' : Nat} (w : World) (hs : IsMs lo w s a.m) (hs' : IsMs lo' w s' b.m) :
    Calls Try.prog 55 #[bxX a s, bxX b s'] w fun e w' => e = .returned (.bool (smX a b)) ∧ Below w.heap.size w w' := by
  have hbW : Below w.heap.size w ((w.alloc (.cells #[.string a.n, .int .i64 a.v, .int .i64 a.x, slW s] 38)).alloc (.cells #[.string b.n, .int .i64 b.v, .int .i64 b.x, slW s'] 38)) := ((Below.refl _ _).alloc (Nat.le_refl _) _).alloc (by simp) _
  have HC := equalMsg_any 65 s s' a.m b.m smM _ (hs.below hbW) (hs'.below hbW) (fun _ _ => by kernel_rfl) (fun y z q q' w' h h' => isSameMessage_any y z q q' w' h h')
  have HV : Hid (smX a b = (decide (a.n = b.n) && (decide (a.v = b.v) && (decide (a.x = b.x) && eqG a.m.length b.m.length (fun i => smM (nthM a.m i) (nthM b.m i)))))) := rfl
  generalize eqG a.m.length b.m.length (fun i => smM (nthM a.m i) (nthM b.m i)) = eb at *
  generalize smX a b = r at *
  obtain ⟨an, av, ax, am⟩ := a
  obtain ⟨bn, bv, bx, bm⟩ := b
  dsimp only at *
  by_cases h1 : an = bn
  · subst h1
    by_cases h2 : av = bv
    · subst h2
      by_cases h3 : ax = bx
      · subst h3
        have HM : Hid (r = eb) := HV.out.trans (by simp)
        clear HV
        go_enter Try.func55, Try.ntmps55
        go_wp2_with fail
        refine HC.mono ?_
        rintro e w1 ⟨rfl, hb1⟩
        have hbw := hbW.trans (hb1.mono hbW.size)
        clear HC hb1 hbW
        go_wp2
        go_ret
        exact ⟨by rw [HM.out]; rfl, hbw⟩
      · have h3' : (ax == bx) = false := by simpa using h3
        have HM : Hid (r = false) := HV.out.trans (by simp [h3])
        clear HV HC
        go_enter Try.func55, Try.ntmps55
        go_wp2
        go_ret
        exact ⟨by rw [HM.out]; rfl, hbW⟩
    · have h2' : (av == bv) = false := by simpa using h2
      have HM : Hid (r = false) := HV.out.trans (by simp [h2])
      clear HV HC
      go_enter Try.func55, Try.ntmps55
      go_wp2
      go_ret
      exact ⟨by rw [HM.out]; rfl, hbW⟩
  · have h1' : (an.toList == bn.toList) = false := by simpa using toList_ne h1
    have HM : Hid (r = false) := HV.out.trans (by simp [h1])
    clear HV HC
    go_enter Try.func55, Try.ntmps55
    go_wp2
    go_ret
    exact ⟨by rw [HM.out]; rfl, hbW⟩

set_option maxHeartbeats 1600000 in
set_option maxRecDepth 100000 in
theorem sameStores_any (v v' : Int) (l l' : List Bx) (s s' : SlQ) {lo lo' : Nat} (w : World) (hs : IsXs lo w s l) (hs' : IsXs lo' w s' l') :
    Calls Try.prog 30 #[.agg #[.int .i64 v, slW s], .agg #[.int .i64 v', slW s']] w fun e w' => e = .returned (.bool (smS v v' l l')) ∧ Below w.heap.size w w' := by
  have hbW : Below w.heap.size w ((w.alloc (.cells #[.int .i64 v, slW s] 49)).alloc (.cells #[.int .i64 v', slW s'] 49)) := ((Below.refl _ _).alloc (Nat.le_refl _) _).alloc (by simp) _
  have HC := equalBox_any 55 s s' l l' smX _ (hs.below hbW) (hs'.below hbW) (fun _ _ => by kernel_rfl) (fun y z q q' w' h h' => isSameBox_any y z q q' w' h h')
  have HV : Hid (smS v v' l l' = (decide (v = v') && eqG l.length l'.length (fun i => smX (nthX l i) (nthX l' i)))) := rfl
  generalize eqG l.length l'.length (fun i => smX (nthX l i) (nthX l' i)) = eb at *
  generalize smS v v' l l' = r at *
  by_cases h2 : v = v'
  · subst h2
    have HM : Hid (r = eb) := HV.out.trans (by simp)
    clear HV
    go_enter Try.func30, Try.ntmps30
    go_wp2_with fail
    refine HC.mono ?_
    rintro e w1 ⟨rfl, hb1⟩
    have hbw := hbW.trans (hb1.mono hbW.size)
    clear HC hb1 hbW
    go_wp2
    go_ret
    exact ⟨by rw [HM.out]; rfl, hbw⟩
  · have h2' : (v == v') = false := by simpa using h2
    have HM : Hid (r = false) := HV.out.trans (by simp [h2])
    clear HV HC
    go_enter Try.func30, Try.ntmps30
    go_wp2
    go_ret
    exact ⟨by rw [HM.out]; rfl, hbW⟩
end Go.Proofs.Ytnnanhjpnilndaa
