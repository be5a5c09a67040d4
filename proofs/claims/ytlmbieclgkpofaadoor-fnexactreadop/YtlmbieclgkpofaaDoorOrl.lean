/- What ReadOp answers, as its law takes it: whether two are the same, marks; no conditions beyond those that each fact names. -/
import Derived.Test.YtlmbieclgkpofaaDoorRjc
namespace Go.Proofs.YtlmbieclgkpofaaDoor
open Go.RowKit
set_option linter.unusedVariables false

/-- Ten cells of a block: a code, how many bytes, an op. -/
def Tc (w : World) (g : Nat) (c : Int) (n : Nat) (o : OpR) (p : SlO) : Prop := w.cell? ⟨g, 0, none⟩ = some (.int .i64 c) ∧ w.cell? ⟨g, 1, none⟩ = some (.int .i64 (n : Int)) ∧ w.cell? ⟨g, 2, none⟩ = some (.int .i64 o.k) ∧ w.cell? ⟨g, 3, none⟩ = some (.string o.x) ∧ w.cell? ⟨g, 4, none⟩ = some (.string o.t) ∧ w.cell? ⟨g, 5, none⟩ = some (slW p.1) ∧ w.cell? ⟨g, 6, none⟩ = some (.int .i64 o.m) ∧ w.cell? ⟨g, 7, none⟩ = some (.int .i64 o.f) ∧ w.cell? ⟨g, 8, none⟩ = some (.int .i64 o.d) ∧ w.cell? ⟨g, 9, none⟩ = some (slW p.2)
theorem Tc.below {C : Nat} {w w' : World} {g n : Nat} {c : Int} {o : OpR} {p : SlO} (h : Tc w g c n o p) (hb : Below C w w') (hg : g < C) : Tc w' g c n o p := by
  obtain ⟨h0, h1, h2, h3, h4, h5, h6, h7, h8, h9⟩ := h
  exact ⟨(hb.cell (p := ⟨g, 0, none⟩) hg).trans h0, (hb.cell (p := ⟨g, 1, none⟩) hg).trans h1, (hb.cell (p := ⟨g, 2, none⟩) hg).trans h2, (hb.cell (p := ⟨g, 3, none⟩) hg).trans h3, (hb.cell (p := ⟨g, 4, none⟩) hg).trans h4, (hb.cell (p := ⟨g, 5, none⟩) hg).trans h5, (hb.cell (p := ⟨g, 6, none⟩) hg).trans h6, (hb.cell (p := ⟨g, 7, none⟩) hg).trans h7, (hb.cell (p := ⟨g, 8, none⟩) hg).trans h8, (hb.cell (p := ⟨g, 9, none⟩) hg).trans h9⟩
theorem Tc.same {w w' : World} {g n : Nat} {c : Int} {o : OpR} {p : SlO} (h : Tc w g c n o p) (he : ∀ i, w'.cell? ⟨g, i, none⟩ = w.cell? ⟨g, i, none⟩) : Tc w' g c n o p := by
  obtain ⟨h0, h1, h2, h3, h4, h5, h6, h7, h8, h9⟩ := h
  exact ⟨(he 0).trans h0, (he 1).trans h1, (he 2).trans h2, (he 3).trans h3, (he 4).trans h4, (he 5).trans h5, (he 6).trans h6, (he 7).trans h7, (he 8).trans h8, (he 9).trans h9⟩
theorem Tc.lt {w : World} {g n : Nat} {c : Int} {o : OpR} {p : SlO} (h : Tc w g c n o p) : g < w.heap.size := World.block_lt_of_cell? w ⟨g, 0, none⟩ h.1
theorem Tc.new (w : World) (c : Int) (n : Nat) (o : OpR) (p : SlO) (t : TypeId) : Tc (w.alloc (.cells #[.int .i64 c, .int .i64 (n : Int), .int .i64 o.k, .string o.x, .string o.t, slW p.1, .int .i64 o.m, .int .i64 o.f, .int .i64 o.d, slW p.2] t)) w.heap.size c n o p := ⟨by simp, by simp, by simp, by simp, by simp, by simp, by simp, by simp, by simp, by simp⟩

set_option maxHeartbeats 1600000 in
set_option maxRecDepth 100000 in
theorem eqOpResult_same (c : Int) (n : Nat) (o : OpR) (p q : SlO) {lo lo' : Nat} (w : World) (hs : IsOp lo w p o) (hs' : IsOp lo' w q o) (hf : FtO o) :
    Calls Tryd.prog 22 #[orV c n o p, orV c n o q] w fun e w' => e = .returned (.bool true) ∧ Below w.heap.size w w' := by
  obtain ⟨W1, hW1⟩ : ∃ W1, w.alloc (.cells #[.int .i64 c, .int .i64 (n : Int), .int .i64 o.k, .string o.x, .string o.t, slW p.1, .int .i64 o.m, .int .i64 o.f, .int .i64 o.d, slW p.2] 39) = W1 := ⟨_, rfl⟩
  have b1 : Below w.heap.size w W1 := by rw [← hW1]; exact (Below.refl _ _).alloc (Nat.le_refl _) _
  have s1 : W1.heap.size = w.heap.size + 1 := by rw [← hW1]; simp
  have t1 : Tc W1 w.heap.size c n o p := by rw [← hW1]; exact Tc.new _ _ _ _ _ _
  obtain ⟨W2, hW2⟩ : ∃ W2, W1.alloc (.cells #[.int .i64 c, .int .i64 (n : Int), .int .i64 o.k, .string o.x, .string o.t, slW q.1, .int .i64 o.m, .int .i64 o.f, .int .i64 o.d, slW q.2] 39) = W2 := ⟨_, rfl⟩
  have b2 : Below W1.heap.size W1 W2 := by rw [← hW2]; exact (Below.refl _ _).alloc (Nat.le_refl _) _
  have t2 : Tc W2 (w.heap.size + 1) c n o q := by rw [← hW2, ← s1]; exact Tc.new _ _ _ _ _ _
  have t1' := t1.below b2 (by omega)
  have hB2 : Below w.heap.size w W2 := b1.trans (b2.mono (by omega))
  have HC := eqOp_ft o p q W2 (hs.below hB2) (hs'.below hB2) hf
  obtain ⟨x0, x1, x2, x3, x4, x5, x6, x7, x8, x9⟩ := t1'
  obtain ⟨y0, y1, y2, y3, y4, y5, y6, y7, y8, y9⟩ := t2
  clear b1 b2 t1 hs hs'
  go_enter Tryd.func22, Tryd.ntmps22
  go_wp2_with fail
  refine HC.mono ?_
  rintro e w3 ⟨rfl, h3⟩
  have hB3 := hB2.trans (h3.mono hB2.size)
  clear HC
  go_wp2
  go_ret
  exact ⟨rfl, hB3⟩

set_option maxHeartbeats 800000 in
set_option maxRecDepth 100000 in
/-- The marks of an op whose two slices lie apart. -/
theorem markOp_hd (o : OpR) (p : SlO) (lo hi : Nat) (w : World) (h1 : WrH lo hi w p.1) (h2 : WrH lo hi w p.2) (hsp : ∀ x y, p.1.1 = some x → p.2.1 = some y → x.block ≠ y.block) (hlo : lo < hi) (hhi : hi ≤ w.heap.size) (n1 : p.1.2.1 ≤ 1048576) (n2 : p.2.2.1 ≤ 1048576) :
    Calls Tryd.prog 16 #[opX o p, .int .i64 1] w fun e w' => e = .returned (.int .i64 ((1 + p.1.2.1 + p.2.2.1 : Nat) : Int)) ∧ MkQ lo hi w w' ∧ RdI w' p.1.1 (marksI p.1.2.1 1) ∧ Rd w' p.2.1 (marks p.2.2.1 (1 + p.1.2.1)) := by
  obtain ⟨⟨ua, un, uc⟩, ⟨ba, bn, bc'⟩⟩ := p
  dsimp only [slW] at *
  obtain ⟨W, hW⟩ : ∃ W, w.alloc (.cells #[.int .i64 o.k, .string o.x, .string o.t, .slice ua un uc, .int .i64 o.m, .int .i64 o.f, .int .i64 o.d, .slice ba bn bc'] 28) = W := ⟨_, rfl⟩
  have hb0 : Below w.heap.size w W := by rw [← hW]; exact (Below.refl _ _).alloc (Nat.le_refl _) _
  have hsW : W.heap.size = w.heap.size + 1 := by rw [← hW]; simp
  have hQ : Qo W w.heap.size ⟨.int .i64 o.k, .string o.x, .string o.t, .slice ua un uc, .int .i64 o.m, .int .i64 o.f, .int .i64 o.d, .slice ba bn bc'⟩ := by rw [← hW]; exact Qo.new _ _ _ _ _ _ _ _ _ _
  obtain ⟨g1, a1, b1, c1, d1⟩ := (h1.below hb0).at_ hlo
  dsimp only at a1 d1
  obtain ⟨g2, a2, b2, c2, d2, e2⟩ : ∃ g, (bn = 0 ∨ ba = some ⟨g, 0, none⟩) ∧ lo ≤ g ∧ (g < hi ∨ g = w.heap.size) ∧ (∀ i, i < bn → (W.cell? ⟨g, i, none⟩).isSome = true ∧ W.frozen? ⟨g, i, none⟩ = false) ∧ (un = 0 ∨ g1 ≠ g) := by
    rcases h2.below hb0 with h | ⟨g, x1, x2, x3, x4, x5⟩
    · exact ⟨w.heap.size, .inl h, by omega, .inr rfl, fun i hi => by dsimp only at h; omega, .inr (by omega)⟩
    · refine ⟨g, .inr x1, x2, .inl x3, x5, ?_⟩
      rcases a1 with h | h
      · exact .inl h
      · exact .inr (hsp _ _ h x1)
  have HC := markInt64S_mj ua g1 un uc 1 g1 (g1 + 1) W a1 (Nat.le_refl _) (Nat.lt_succ_self _) d1 n1 (by omega)
  rw [show ((1 : Nat) : Int) = 1 from rfl] at HC
  obtain ⟨q0, q1, q2, q3, q4, q5, q6, q7⟩ := hQ
  dsimp only at q0 q1 q2 q3 q4 q5 q6 q7
  go_enter Tryd.func16, Tryd.ntmps16
  go_wp2_with fail
  refine HC.mono ?_
  rintro e w1 ⟨rfl, hm1, hk1⟩
  have x7 := (hm1.2.1 ⟨w.heap.size, 7, none⟩ (by show g1 + 1 ≤ w.heap.size; omega)).trans q7
  have HD := markByteS_mj ba g2 bn bc' (1 + un) g2 (g2 + 1) w1 a2 (Nat.le_refl _) (Nat.lt_succ_self _) (fun i hi => ⟨hm1.2.2.1 _ (d2 i hi).1, (hm1.2.2.2 _).trans (d2 i hi).2⟩) n2 (by omega)
  clear HC d1 d2 h1 h2 q0 q1 q2 q3 q4 q5 q6 q7
  obtain ⟨kk, hkk⟩ : ∃ kk, 1 + un = kk := ⟨_, rfl⟩
  have HKK : Hid (1 + un = kk) := hkk
  rw [hkk] at HD ⊢
  clear hkk
  go_wp2_with fail
  refine HD.mono ?_
  rintro e w2 ⟨rfl, hm2, hk2⟩
  have HFIN : Hid (MkQ lo hi w w2 ∧ RdI w2 ua (marksI un 1) ∧ Rd w2 ba (marks bn kk)) := by
    have hz1 : W.heap.size ≤ w1.heap.size := hm1.1.size
    have hz2 : w1.heap.size ≤ w2.heap.size := hm2.1.size
    refine ⟨⟨(hb0.mono (by omega)).trans ((hm1.1.mono b1).trans (hm2.1.mono b2)), fun x h1 h2 => ?_, fun x h1 h2 => hm2.2.2.1 x (hm1.2.2.1 x (by rw [hb0.cell h1]; exact h2)), fun x h1 => (hm2.2.2.2 x).trans ((hm1.2.2.2 x).trans (hb0.frozen h1))⟩, ?_, ?_⟩
    · have e1 : w1.cell? x = W.cell? x := hm1.2.1 x (by omega)
      have e3 : w2.cell? x = w1.cell? x := by
        rcases c2 with hc2 | hc2
        · exact hm2.2.1 x (by omega)
        · exact hm2.1.cell (by omega)
      exact e3.trans (e1.trans (hb0.cell h2))
    · rcases Nat.eq_zero_or_pos un with h0 | h0
      · left; subst h0; rfl
      · obtain rfl : ua = some ⟨g1, 0, none⟩ := a1.resolve_left (by omega)
        have hne : g1 ≠ g2 := e2.resolve_left (by omega)
        right
        refine ⟨g1, 0, rfl, by omega, fun i hi => ?_⟩
        rw [marksI_len] at hi
        rw [Nat.zero_add, marksI_nth hi]
        rcases Nat.lt_or_ge g1 g2 with h | h
        · exact (hm2.1.cell (p := ⟨g1, i, none⟩) h).trans (hk1 i hi)
        · exact (hm2.2.1 ⟨g1, i, none⟩ (by show g2 + 1 ≤ g1; omega)).trans (hk1 i hi)
    · rcases Nat.eq_zero_or_pos bn with h0 | h0
      · left; subst h0; rfl
      · obtain rfl : ba = some ⟨g2, 0, none⟩ := a2.resolve_left (by omega)
        right
        refine ⟨g2, 0, rfl, by omega, fun i hi => ?_⟩
        rw [marks_len] at hi
        rw [Nat.zero_add, marks_nth hi]
        exact hk2 i hi
  clear HD hm1 hm2 hk1 hk2
  obtain ⟨kr, hkr⟩ : ∃ kr, kk + bn = kr := ⟨_, rfl⟩
  have HKR : Hid (1 + un + bn = kr) := by show _ = _; rw [HKK.out, hkr]
  rw [hkr]
  clear hkr
  go_wp2
  go_ret
  rw [HKR.out, HKK.out]
  exact ⟨rfl, HFIN.out⟩

set_option maxHeartbeats 800000 in
set_option maxRecDepth 100000 in
theorem heldOp_any (o : OpR) (p : SlO) (w : World) (h1 : RdI w p.1.1 (marksI p.1.2.1 1)) (h2 : Rd w p.2.1 (marks p.2.2.1 (1 + p.1.2.1))) (n1 : p.1.2.1 ≤ 1000000) (n2 : p.2.2.1 ≤ 1000000) :
    Calls Tryd.prog 57 #[opX o p, .int .i64 1] w fun e w' => e = .returned (.int .i64 ((1 + p.1.2.1 + p.2.2.1 : Nat) : Int)) ∧ Below w.heap.size w w' := by
  obtain ⟨⟨ua, un, uc⟩, ⟨ba, bn, bc'⟩⟩ := p
  dsimp only [slW] at *
  obtain ⟨W, hW⟩ : ∃ W, w.alloc (.cells #[.int .i64 o.k, .string o.x, .string o.t, .slice ua un uc, .int .i64 o.m, .int .i64 o.f, .int .i64 o.d, .slice ba bn bc'] 28) = W := ⟨_, rfl⟩
  have hb0 : Below w.heap.size w W := by rw [← hW]; exact (Below.refl _ _).alloc (Nat.le_refl _) _
  have hQ : Qo W w.heap.size ⟨.int .i64 o.k, .string o.x, .string o.t, .slice ua un uc, .int .i64 o.m, .int .i64 o.f, .int .i64 o.d, .slice ba bn bc'⟩ := by rw [← hW]; exact Qo.new _ _ _ _ _ _ _ _ _ _
  have HC := heldInt64S_any ua un uc 1 W (h1.below hb0) (by omega) (by omega)
  rw [show ((1 : Nat) : Int) = 1 from rfl] at HC
  have HD := heldByteS_any ba bn bc' (1 + un) W (h2.below hb0) (by omega) (by omega)
  obtain ⟨q0, q1, q2, q3, q4, q5, q6, q7⟩ := hQ
  dsimp only at q0 q1 q2 q3 q4 q5 q6 q7
  clear h1 h2
  obtain ⟨kk, hkk⟩ : ∃ kk, 1 + un = kk := ⟨_, rfl⟩
  obtain ⟨kr, hkr⟩ : ∃ kr, kk + bn = kr := ⟨_, rfl⟩
  have HKR : Hid (1 + un + bn = kr) := by show _ = _; rw [hkk, hkr]
  rw [hkk] at HC HD
  rw [hkr] at HD
  have hp1 : ¬ (kk : Int) < 0 := by omega
  have hp2 : ¬ (kr : Int) < 0 := by omega
  clear hkk hkr
  go_enter Tryd.func57, Tryd.ntmps57
  go_wp2_with fail
  refine HC.mono ?_
  rintro e w1 ⟨rfl, rfl⟩
  go_wp2_with fail
  refine HD.mono ?_
  rintro e w1 ⟨rfl, rfl⟩
  clear HC HD
  go_wp2
  go_ret
  rw [HKR.out]
  exact ⟨rfl, hb0⟩

set_option maxHeartbeats 800000 in
set_option maxRecDepth 100000 in
theorem markOpResult_hd (c : Int) (n : Nat) (o : OpR) (p : SlO) (lo hi : Nat) (w : World) (h1 : WrH lo hi w p.1) (h2 : WrH lo hi w p.2) (hsp : ∀ x y, p.1.1 = some x → p.2.1 = some y → x.block ≠ y.block) (hlo : lo < hi) (hhi : hi ≤ w.heap.size) (n1 : p.1.2.1 ≤ 1048576) (n2 : p.2.2.1 ≤ 1048576) :
    Calls Tryd.prog 25 #[orV c n o p, .int .i64 1] w fun e w' => e = .returned (.int .i64 ((1 + p.1.2.1 + p.2.2.1 : Nat) : Int)) ∧ MkQ lo hi w w' ∧ RdI w' p.1.1 (marksI p.1.2.1 1) ∧ Rd w' p.2.1 (marks p.2.2.1 (1 + p.1.2.1)) := by
  obtain ⟨W, hW⟩ : ∃ W, w.alloc (.cells #[.int .i64 c, .int .i64 (n : Int), .int .i64 o.k, .string o.x, .string o.t, slW p.1, .int .i64 o.m, .int .i64 o.f, .int .i64 o.d, slW p.2] 39) = W := ⟨_, rfl⟩
  have b1 : Below w.heap.size w W := by rw [← hW]; exact (Below.refl _ _).alloc (Nat.le_refl _) _
  have t1 : Tc W w.heap.size c n o p := by rw [← hW]; exact Tc.new _ _ _ _ _ _
  have HC := markOp_hd o p lo hi W (h1.below b1) (h2.below b1) hsp hlo (Nat.le_trans hhi b1.size) n1 n2
  obtain ⟨x0, x1, x2, x3, x4, x5, x6, x7, x8, x9⟩ := t1
  generalize 1 + p.1.2.1 + p.2.2.1 = kr at *
  clear h1 h2
  go_enter Tryd.func25, Tryd.ntmps25
  go_wp2_with fail
  refine HC.mono ?_
  rintro e w1 ⟨rfl, hm, hr1, hr2⟩
  have HQ : Hid (MkQ lo hi w w1 ∧ RdI w1 p.1.1 (marksI p.1.2.1 1) ∧ Rd w1 p.2.1 (marks p.2.2.1 (1 + p.1.2.1))) := ⟨⟨(b1.mono (by omega)).trans hm.1, fun x h1 h2 => (hm.2.1 x h1 (Nat.lt_of_lt_of_le h2 b1.size)).trans (b1.cell h2), fun x h1 h2 => hm.2.2.1 x (Nat.lt_of_lt_of_le h1 b1.size) (by rw [b1.cell h1]; exact h2), fun x h1 => (hm.2.2.2 x (Nat.lt_of_lt_of_le h1 b1.size)).trans (b1.frozen h1)⟩, hr1, hr2⟩
  clear HC hm hr1 hr2
  go_wp2
  go_ret
  exact ⟨rfl, HQ.out⟩

set_option maxHeartbeats 800000 in
set_option maxRecDepth 100000 in
theorem heldOpResult_hd (c : Int) (n : Nat) (o : OpR) (p : SlO) (w : World) (h1 : RdI w p.1.1 (marksI p.1.2.1 1)) (h2 : Rd w p.2.1 (marks p.2.2.1 (1 + p.1.2.1))) (n1 : p.1.2.1 ≤ 1000000) (n2 : p.2.2.1 ≤ 1000000) :
    Calls Tryd.prog 26 #[orV c n o p, .int .i64 1] w fun e w' => e = .returned (.int .i64 ((1 + p.1.2.1 + p.2.2.1 : Nat) : Int)) ∧ Below w.heap.size w w' := by
  obtain ⟨W, hW⟩ : ∃ W, w.alloc (.cells #[.int .i64 c, .int .i64 (n : Int), .int .i64 o.k, .string o.x, .string o.t, slW p.1, .int .i64 o.m, .int .i64 o.f, .int .i64 o.d, slW p.2] 39) = W := ⟨_, rfl⟩
  have b1 : Below w.heap.size w W := by rw [← hW]; exact (Below.refl _ _).alloc (Nat.le_refl _) _
  have t1 : Tc W w.heap.size c n o p := by rw [← hW]; exact Tc.new _ _ _ _ _ _
  have HC := heldOp_any o p W (h1.below b1) (h2.below b1) n1 n2
  obtain ⟨x0, x1, x2, x3, x4, x5, x6, x7, x8, x9⟩ := t1
  generalize 1 + p.1.2.1 + p.2.2.1 = kr at *
  have hp2 : ¬ (kr : Int) < 0 := by omega
  clear h1 h2
  go_enter Tryd.func26, Tryd.ntmps26
  go_wp2_with fail
  refine HC.mono ?_
  rintro e w1 ⟨rfl, hb1⟩
  have hB1 := b1.trans (hb1.mono b1.size)
  clear HC
  go_wp2
  go_ret
  exact ⟨rfl, hB1⟩
end Go.Proofs.YtlmbieclgkpofaaDoor
