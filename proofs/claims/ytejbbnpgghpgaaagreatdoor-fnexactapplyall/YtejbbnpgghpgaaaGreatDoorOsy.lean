/- The marks of ops, told by blocks. -/
import Derived.Test.YtejbbnpgghpgaaaGreatDoorOswToOsz
import Derived.Test.YtejbbnpgghpgaaaGreatDoorStn
namespace Go.Proofs.YtejbbnpgghpgaaaGreatDoor
open Go.RowKit
set_option linter.unusedVariables false
def MkB (lo hi : Nat) (w w' : World) : Prop := Below lo w w' ∧ (∀ p : Addr, hi ≤ p.block → w'.heap[p.block]? = w.heap[p.block]?) ∧ (∀ p : Addr, (w.cell? p).isSome = true → (w'.cell? p).isSome = true) ∧ ∀ p : Addr, w'.frozen? p = w.frozen? p
theorem MkB.refl (lo hi : Nat) (w : World) : MkB lo hi w w := ⟨Below.refl _ _, fun _ _ => rfl, fun _ h => h, fun _ => rfl⟩
theorem MkB.trans {lo hi : Nat} {w w' w'' : World} (h : MkB lo hi w w') (h' : MkB lo hi w' w'') : MkB lo hi w w'' := ⟨h.1.trans h'.1, fun p hp => (h'.2.1 p hp).trans (h.2.1 p hp), fun p hp => h'.2.2.1 p (h.2.2.1 p hp), fun p => (h'.2.2.2 p).trans (h.2.2.2 p)⟩
theorem MkB.set {lo hi : Nat} {w w' : World} (h : MkB lo hi w w') {g j : Nat} (x : Value) (h1 : lo ≤ g) (h2 : g < hi) : MkB lo hi w (w'.setCell ⟨g, j, none⟩ x) := by
  refine h.trans ⟨(Below.refl _ _).setCell h1 _, fun p hp => Below.heap_setCell _ _ _ _ (show p.block ≠ g by omega), fun p hp => ?_, fun p => World.frozen?_setCell _ _ _ _⟩
  by_cases e : (⟨g, j, none⟩ : Addr) = p
  · subst e
    obtain ⟨u, hu⟩ := Option.isSome_iff_exists.1 hp
    rw [World.cell?_setCell_same _ _ _ hu]; rfl
  · rw [World.cell?_setCell_other _ _ _ _ e]; exact hp
def MkC (lo hi : Nat) (w w' : World) : Prop := Below lo w w' ∧ (∀ p : Addr, hi ≤ p.block → p.block < w.heap.size → w'.heap[p.block]? = w.heap[p.block]?) ∧ (∀ p : Addr, p.block < w.heap.size → (w.cell? p).isSome = true → (w'.cell? p).isSome = true) ∧ ∀ p : Addr, p.block < w.heap.size → w'.frozen? p = w.frozen? p
theorem MkC.refl (lo hi : Nat) (w : World) : MkC lo hi w w := ⟨Below.refl _ _, fun _ _ _ => rfl, fun _ _ h => h, fun _ _ => rfl⟩
theorem MkC.set {lo hi b i : Nat} {w x : World} (h : MkC lo hi w x) (v : Value) (h1 : lo ≤ b) (h2 : b < hi) : MkC lo hi w (x.setCell ⟨b, i, none⟩ v) :=
  ⟨h.1.setCell (p := ⟨b, i, none⟩) h1 v, fun p h3 h4 => (Below.heap_setCell _ _ _ _ (show p.block ≠ b by omega)).trans (h.2.1 p h3 h4), fun p h3 h4 => isSome_set _ _ _ _ (h.2.2.1 p h3 h4), fun p h3 => (World.frozen?_setCell _ _ _ _).trans (h.2.2.2 p h3)⟩
theorem MkC.grow {lo hi : Nat} {w x y : World} (h : MkC lo hi w x) (hb : Below x.heap.size x y) (hlo : lo ≤ w.heap.size) : MkC lo hi w y := by
  have hz := h.1.size
  exact ⟨h.1.trans (hb.mono (by omega)), fun p h1 h2 => (hb.block p.block (by omega)).trans (h.2.1 p h1 h2), fun p h1 h2 => by rw [hb.cell (show p.block < x.heap.size by omega)]; exact h.2.2.1 p h1 h2, fun p h1 => (hb.frozen (show p.block < x.heap.size by omega)).trans (h.2.2.2 p h1)⟩
theorem MkC.mkb {lo lo' hi : Nat} {w x y : World} (h : MkC lo hi w x) (hm : MkB lo' hi x y) (hl : lo ≤ lo') : MkC lo hi w y :=
  ⟨h.1.trans (hm.1.mono hl), fun p h1 h2 => (hm.2.1 p h1).trans (h.2.1 p h1 h2), fun p h1 h2 => hm.2.2.1 p (h.2.2.1 p h1 h2), fun p h1 => (hm.2.2.2 p).trans (h.2.2.2 p h1)⟩
theorem WrH.mkc {lo hi lo' hi' : Nat} {w w' : World} {s : SlQ} (h : WrH lo hi w s) (hm : MkC lo' hi' w w') : WrH lo hi w' s := by
  rcases h with h | ⟨g, h1, h2, h3, h4, h5⟩
  · exact .inl h
  · exact .inr ⟨g, h1, h2, h3, Nat.lt_of_lt_of_le h4 hm.1.size, fun i hi => ⟨hm.2.2.1 _ h4 (h5 i hi).1, (hm.2.2.2 _ h4).trans (h5 i hi).2⟩⟩
set_option maxHeartbeats 1600000 in
set_option maxRecDepth 100000 in
theorem markByteS_mb (a : Option Addr) (g n cap k lo hi : Nat) (w : World) (ha : n = 0 ∨ a = some ⟨g, 0, none⟩) (h1 : lo ≤ g) (h2 : g < hi) (hW : ∀ i, i < n → (w.cell? ⟨g, i, none⟩).isSome = true ∧ w.frozen? ⟨g, i, none⟩ = false) (hn : n ≤ 1048576) (hk : k ≤ 8796093022208) :
    Calls Tryz.prog 71 #[.slice a n cap, .int .i64 (k : Int)] w fun e w' =>
      e = .returned (.int .i64 ((k + n : Nat) : Int)) ∧ MkB lo hi w w' ∧ ∀ i, i < n → w'.cell? ⟨g, i, none⟩ = some (.int .u8 (((k + i) % 256 : Nat) : Int)) := by
  go_enter Tryz.func71, Tryz.ntmps71
  go_wp2
  go_loopw [1, 5] (fun q i wr => ∃ j : Nat, j ≤ n ∧ i = .int .i64 j ∧ q = .int .i64 ((k + j : Nat) : Int) ∧ MkB lo hi w wr ∧ ∀ i, i < j → wr.cell? ⟨g, i, none⟩ = some (.int .u8 (((k + i) % 256 : Nat) : Int)))
    (fun _ i _ => n - (intOf i).toNat)
  case atStart => exact ⟨0, Nat.zero_le _, rfl, rfl, MkB.refl _ _ _, fun i hi => absurd hi (Nat.not_lt_zero _)⟩
  case round =>
    obtain ⟨j, hj, rfl, rfl, hmk, hc⟩ := hrel
    by_cases hjn : j < n
    · obtain rfl : a = some ⟨g, 0, none⟩ := ha.resolve_left (by omega)
      have hji : (j : Int) < (n : Int) := by omega
      obtain ⟨u, hu⟩ := Option.isSome_iff_exists.1 (hmk.2.2.1 _ (hW j hjn).1)
      have hf : wr.frozen? ⟨g, j, none⟩ = false := (hmk.2.2.2 _).trans (hW j hjn).2
      have HO : Hid (MkB lo hi w (wr.setCell ⟨g, j, none⟩ (.int .u8 (((k + j) % 256 : Nat) : Int))) ∧ ∀ i, i < j + 1 → (wr.setCell ⟨g, j, none⟩ (.int .u8 (((k + j) % 256 : Nat) : Int))).cell? ⟨g, i, none⟩ = some (.int .u8 (((k + i) % 256 : Nat) : Int))) := by
        refine ⟨hmk.set _ h1 h2, fun i hi => ?_⟩
        by_cases e : j = i
        · subst e
          exact World.cell?_setCell_same _ _ _ hu
        · rw [World.cell?_setCell_other _ _ _ _ (fun h => e (by cases h; rfl))]
          exact hc i (by omega)
      obtain ⟨q, hq⟩ : ∃ q, q = (k + j) % 256 := ⟨_, rfl⟩
      rw [← hq] at HO
      have e1 : ((k : Int) + (j : Int)) % 256 = (q : Int) := by omega
      clear hq hc hW
      go_wp2
      go_roundw
      case rel => exact ⟨j + 1, by omega, by go_num, by go_num, HO.out⟩
      case measure => simp [intOf]; omega
    · have hjj : j = n := by omega
      subst hjj
      have hji : ¬ (j : Int) < (j : Int) := by omega
      have HO : Hid (_) := hc
      clear hc
      go_wp2
      go_ret
      exact ⟨rfl, hmk, HO.out⟩
set_option maxHeartbeats 1600000 in
set_option maxRecDepth 100000 in
theorem markInt64S_mb (a : Option Addr) (g n cap k lo hi : Nat) (w : World) (ha : n = 0 ∨ a = some ⟨g, 0, none⟩) (h1 : lo ≤ g) (h2 : g < hi) (hW : ∀ i, i < n → (w.cell? ⟨g, i, none⟩).isSome = true ∧ w.frozen? ⟨g, i, none⟩ = false) (hn : n ≤ 1048576) (hk : k ≤ 8796093022208) :
    Calls Tryz.prog 70 #[.slice a n cap, .int .i64 (k : Int)] w fun e w' =>
      e = .returned (.int .i64 ((k + n : Nat) : Int)) ∧ MkB lo hi w w' ∧ ∀ i, i < n → w'.cell? ⟨g, i, none⟩ = some (.int .i64 ((k + i : Nat) : Int)) := by
  go_enter Tryz.func70, Tryz.ntmps70
  go_wp2
  go_loopw [1, 5] (fun q i wr => ∃ j : Nat, j ≤ n ∧ i = .int .i64 j ∧ q = .int .i64 ((k + j : Nat) : Int) ∧ MkB lo hi w wr ∧ ∀ i, i < j → wr.cell? ⟨g, i, none⟩ = some (.int .i64 ((k + i : Nat) : Int)))
    (fun _ i _ => n - (intOf i).toNat)
  case atStart => exact ⟨0, Nat.zero_le _, rfl, rfl, MkB.refl _ _ _, fun i hi => absurd hi (Nat.not_lt_zero _)⟩
  case round =>
    obtain ⟨j, hj, rfl, rfl, hmk, hc⟩ := hrel
    by_cases hjn : j < n
    · obtain rfl : a = some ⟨g, 0, none⟩ := ha.resolve_left (by omega)
      have hji : (j : Int) < (n : Int) := by omega
      obtain ⟨u, hu⟩ := Option.isSome_iff_exists.1 (hmk.2.2.1 _ (hW j hjn).1)
      have hf : wr.frozen? ⟨g, j, none⟩ = false := (hmk.2.2.2 _).trans (hW j hjn).2
      have HO : Hid (MkB lo hi w (wr.setCell ⟨g, j, none⟩ (.int .i64 ((k + j : Nat) : Int))) ∧ ∀ i, i < j + 1 → (wr.setCell ⟨g, j, none⟩ (.int .i64 ((k + j : Nat) : Int))).cell? ⟨g, i, none⟩ = some (.int .i64 ((k + i : Nat) : Int))) := by
        refine ⟨hmk.set _ h1 h2, fun i hi => ?_⟩
        by_cases e : j = i
        · subst e
          exact World.cell?_setCell_same _ _ _ hu
        · rw [World.cell?_setCell_other _ _ _ _ (fun h => e (by cases h; rfl))]
          exact hc i (by omega)
      rw [Int.natCast_add] at HO
      clear hc hW
      go_wp2
      go_roundw
      case rel => exact ⟨j + 1, by omega, by go_num, by go_num, HO.out⟩
      case measure => simp [intOf]; omega
    · have hjj : j = n := by omega
      subst hjj
      have hji : ¬ (j : Int) < (j : Int) := by omega
      have HO : Hid (_) := hc
      clear hc
      go_wp2
      go_ret
      exact ⟨rfl, hmk, HO.out⟩
def MoB (b hi : Nat) (w : World) (e : Ending) (w' : World) : Prop := ∃ k : Nat, e = .returned (.int .i64 (k : Int)) ∧ MkC b hi w w'
set_option maxHeartbeats 1600000 in
set_option maxRecDepth 100000 in
theorem markOpS_mb (b n hi : Nat) (l : List OpR) (w : World) (hl : l.length = n) (h : OsH (b + 1) hi w b l) (hfz : ∀ i, w.frozen? ⟨b, i, none⟩ = false) (hlo' : 0 < n → b + 1 < hi) (hbh : b < hi) (hhi : hi ≤ w.heap.size) (hn : n ≤ 1048576) (hf : ∀ i, i < n → (nthO l i).u.length ≤ 1048576 ∧ (nthO l i).b.length ≤ 1048576) (k0 : Nat) (hk0 : 1 ≤ k0) (hk4 : k0 ≤ 8388608) :
    Calls Tryz.prog 30 #[.slice (some ⟨b, 0, none⟩) n n, .int .i64 (k0 : Int)] w fun e w' => MoB b hi w e w' := by
  have HL : Hid (l.length = n) := hl
  have HH : Hid (OsH (b + 1) hi w b l) := h
  have HF : Hid (∀ i, i < n → (nthO l i).u.length ≤ 1048576 ∧ (nthO l i).b.length ≤ 1048576) := hf
  have HZ : Hid (∀ i, w.frozen? ⟨b, i, none⟩ = false) := hfz
  have hbw : b < w.heap.size := by omega
  clear hl h hf hfz
  go_enter Tryz.func30, Tryz.ntmps30
  go_wp2
  go_loopw [1, 5] (fun q i wr => ∃ (j k : Nat), j ≤ n ∧ i = .int .i64 j ∧ q = .int .i64 (k : Int) ∧ 1 ≤ k ∧ k ≤ k0 + j * 3000000 ∧ MkC b hi w wr ∧ ∀ f, j * 8 ≤ f → wr.cell? ⟨b, f, none⟩ = w.cell? ⟨b, f, none⟩) (fun _ i _ => n - (intOf i).toNat)
  case atStart => exact ⟨0, k0, Nat.zero_le _, rfl, rfl, hk0, by omega, MkC.refl _ _ _, fun _ _ => rfl⟩
  case round =>
    obtain ⟨j, k, hj, rfl, rfl, hk1, hk2, hmk, hce⟩ := hrel
    have hk3 : k ≤ 4000000000000 := by
      have : j * 3000000 ≤ 1048576 * 3000000 := Nat.mul_le_mul_right _ (by omega)
      omega
    by_cases hjn : j < n
    · have hji : (j : Int) < (n : Int) := by omega
      have hlo : b + 1 < hi := hlo' (by omega)
      have hjl : j < l.length := by rw [HL.out]; exact hjn
      obtain ⟨p, hq, hlen, hw1, hw2⟩ := HH.out j hjl
      have hfj := HF.out j hjn
      obtain ⟨c0, c1, c2, c3, c4, c5, c6, c7⟩ := hq
      dsimp only at c0 c1 c2 c3 c4 c5 c6 c7
      have HSM : Hid (∀ x, MkC b hi w x → ∀ i, i < 8 → (x.cell? ⟨b, j * 8 + i, none⟩).isSome = true ∧ x.frozen? ⟨b, j * 8 + i, none⟩ = false) := fun x hx i hi => by
        refine ⟨hx.2.2.1 ⟨b, j * 8 + i, none⟩ hbw ?_, (hx.2.2.2 ⟨b, j * 8 + i, none⟩ hbw).trans (HZ.out _)⟩
        obtain rfl | rfl | rfl | rfl | rfl | rfl | rfl | rfl : i = 0 ∨ i = 1 ∨ i = 2 ∨ i = 3 ∨ i = 4 ∨ i = 5 ∨ i = 6 ∨ i = 7 := by omega
        · rw [Nat.add_zero, c0]; rfl
        · rw [c1]; rfl
        · rw [c2]; rfl
        · rw [c3]; rfl
        · rw [c4]; rfl
        · rw [c5]; rfl
        · rw [c6]; rfl
        · rw [c7]; rfl
      generalize nthO l j = o at *
      obtain ⟨⟨ua, un, uc⟩, ⟨ba, bn, bc'⟩⟩ := p
      dsimp only [slW] at c3 c7 hlen hw1 hw2
      have hun : un ≤ 1048576 := by omega
      have hbn : bn ≤ 1048576 := by omega
      clear hlen hfj
      have HCS : Hid (∀ f, f = j * 8 + 3 ∨ f = j * 8 + 7 ∨ (j + 1) * 8 ≤ f → wr.cell? ⟨b, f, none⟩ = w.cell? ⟨b, f, none⟩) := fun f hf => hce f (by omega)
      clear hce c0 c1 c2 c4 c5 c6
      obtain ⟨s0, f0⟩ := HSM.out wr hmk 0 (by omega)
      obtain ⟨u0, s0⟩ := Option.isSome_iff_exists.1 s0
      rw [Nat.add_zero] at s0 f0
      have m1 := hmk.set (i := j * 8) (.int .i64 (k : Int)) (Nat.le_refl b) (by omega)
      have HC1 : Hid (∀ f, f = j * 8 + 3 ∨ f = j * 8 + 7 ∨ (j + 1) * 8 ≤ f → (wr.setCell ⟨b, j * 8, none⟩ (.int .i64 (k : Int))).cell? ⟨b, f, none⟩ = w.cell? ⟨b, f, none⟩) := fun f hf => (World.cell?_setCell_other _ _ _ _ (fun e => by injection e; omega)).trans (HCS.out f hf)
      clear hmk HCS
      obtain ⟨k1, hk1e⟩ : ∃ k1, k1 = k + 1 := ⟨_, rfl⟩
      have T1 := markText_ex k1 (wr.setCell ⟨b, j * 8, none⟩ (.int .i64 (k : Int))) (by omega) (by omega)
      rw [show (k1 : Int) = (k : Int) + 1 by omega] at T1
      go_wp2_with fail
      generalize wr.setCell ⟨b, j * 8, none⟩ (.int .i64 (k : Int)) = x1 at *
      refine T1.mono ?_
      rintro e w1 ⟨t1, rfl, b1⟩
      have m2 := m1.grow b1 (by omega)
      have hx1 : b < x1.heap.size := Nat.lt_of_lt_of_le hbw m1.1.size
      have HC2 : Hid (∀ f, f = j * 8 + 3 ∨ f = j * 8 + 7 ∨ (j + 1) * 8 ≤ f → w1.cell? ⟨b, f, none⟩ = w.cell? ⟨b, f, none⟩) := fun f hf => (b1.cell (p := ⟨b, f, none⟩) hx1).trans (HC1.out f hf)
      clear T1 s0 f0 HC1 m1 b1
      obtain ⟨s1, f1⟩ := HSM.out w1 m2 1 (by omega)
      obtain ⟨u1, s1⟩ := Option.isSome_iff_exists.1 s1
      have m3 := m2.set (i := j * 8 + 1) (.string t1) (Nat.le_refl b) (by omega)
      have HC3 : Hid (∀ f, f = j * 8 + 3 ∨ f = j * 8 + 7 ∨ (j + 1) * 8 ≤ f → (w1.setCell ⟨b, j * 8 + 1, none⟩ (.string t1)).cell? ⟨b, f, none⟩ = w.cell? ⟨b, f, none⟩) := fun f hf => (World.cell?_setCell_other _ _ _ _ (fun e => by injection e; omega)).trans (HC2.out f hf)
      clear m2 HC2
      obtain ⟨k2, hk2e⟩ : ∃ k2, k2 = k + 2 := ⟨_, rfl⟩
      have T2 := markText_ex k2 (w1.setCell ⟨b, j * 8 + 1, none⟩ (.string t1)) (by omega) (by omega)
      rw [show (k2 : Int) = (k : Int) + 1 + 1 by omega] at T2
      go_wp2_with fail
      generalize w1.setCell ⟨b, j * 8 + 1, none⟩ (.string t1) = x3 at *
      refine T2.mono ?_
      rintro e w2 ⟨t2, rfl, b2⟩
      have m4 := m3.grow b2 (by omega)
      have hx3 : b < x3.heap.size := Nat.lt_of_lt_of_le hbw m3.1.size
      have HC4 : Hid (∀ f, f = j * 8 + 3 ∨ f = j * 8 + 7 ∨ (j + 1) * 8 ≤ f → w2.cell? ⟨b, f, none⟩ = w.cell? ⟨b, f, none⟩) := fun f hf => (b2.cell (p := ⟨b, f, none⟩) hx3).trans (HC3.out f hf)
      clear T2 s1 f1 HC3 m3 b2
      obtain ⟨s2, f2⟩ := HSM.out w2 m4 2 (by omega)
      obtain ⟨u2, s2⟩ := Option.isSome_iff_exists.1 s2
      have m5 := m4.set (i := j * 8 + 2) (.string t2) (Nat.le_refl b) (by omega)
      have HC5 : Hid (∀ f, f = j * 8 + 3 ∨ f = j * 8 + 7 ∨ (j + 1) * 8 ≤ f → (w2.setCell ⟨b, j * 8 + 2, none⟩ (.string t2)).cell? ⟨b, f, none⟩ = w.cell? ⟨b, f, none⟩) := fun f hf => (World.cell?_setCell_other _ _ _ _ (fun e => by injection e; omega)).trans (HC4.out f hf)
      have d3 := (HC5.out (j * 8 + 3) (.inl rfl)).trans c3
      clear m4 HC4
      obtain ⟨g1, a1, b1', c1', d1'⟩ := (hw1.mkc m5).at_ hlo
      dsimp only at a1 d1'
      obtain ⟨k3, hk3e⟩ : ∃ k3, k3 = k + 3 := ⟨_, rfl⟩
      have T3 := markInt64S_mb ua g1 un uc k3 (b + 1) hi _ a1 b1' c1' d1' hun (by omega)
      rw [show (k3 : Int) = (k : Int) + 1 + 1 + 1 by omega] at T3
      go_wp2_with fail
      generalize w2.setCell ⟨b, j * 8 + 2, none⟩ (.string t2) = x5 at *
      refine T3.mono ?_
      rintro e w3 ⟨rfl, mj3, -⟩
      have m6 := m5.mkb mj3 (by omega)
      have HC6 : Hid (∀ f, f = j * 8 + 3 ∨ f = j * 8 + 7 ∨ (j + 1) * 8 ≤ f → w3.cell? ⟨b, f, none⟩ = w.cell? ⟨b, f, none⟩) := fun f hf => (mj3.1.cell (p := ⟨b, f, none⟩) (Nat.lt_succ_self _)).trans (HC5.out f hf)
      clear T3 s2 f2 HC5 m5 mj3 d3 d1'
      obtain ⟨kq, hkq⟩ : ∃ kq, k3 + un = kq := ⟨_, rfl⟩
      rw [hkq]
      obtain ⟨s4, f4⟩ := HSM.out w3 m6 4 (by omega)
      obtain ⟨u4, s4⟩ := Option.isSome_iff_exists.1 s4
      obtain ⟨s5, f5⟩ := HSM.out w3 m6 5 (by omega)
      obtain ⟨u5, s5⟩ := Option.isSome_iff_exists.1 s5
      obtain ⟨s6, f6⟩ := HSM.out w3 m6 6 (by omega)
      obtain ⟨u6, s6⟩ := Option.isSome_iff_exists.1 s6
      have m7 := ((m6.set (i := j * 8 + 4) (.int .i64 (kq : Int)) (Nat.le_refl b) (by omega)).set (i := j * 8 + 5) (.int .i64 ((kq : Int) + 1)) (Nat.le_refl b) (by omega)).set (i := j * 8 + 6) (.int .i64 ((kq : Int) + 1 + 1)) (Nat.le_refl b) (by omega)
      have HC7 : Hid (∀ f, f = j * 8 + 3 ∨ f = j * 8 + 7 ∨ (j + 1) * 8 ≤ f → (((w3.setCell ⟨b, j * 8 + 4, none⟩ (.int .i64 (kq : Int))).setCell ⟨b, j * 8 + 5, none⟩ (.int .i64 ((kq : Int) + 1))).setCell ⟨b, j * 8 + 6, none⟩ (.int .i64 ((kq : Int) + 1 + 1))).cell? ⟨b, f, none⟩ = w.cell? ⟨b, f, none⟩) := fun f hf => (World.cell?_setCell_other _ _ _ _ (fun e => by injection e; omega)).trans ((World.cell?_setCell_other _ _ _ _ (fun e => by injection e; omega)).trans ((World.cell?_setCell_other _ _ _ _ (fun e => by injection e; omega)).trans (HC6.out f hf)))
      have d7 := (HC7.out (j * 8 + 7) (.inr (.inl rfl))).trans c7
      obtain ⟨g2, a2, b2', c2', d2'⟩ := (hw2.mkc m7).at_ hlo
      dsimp only at a2 d2'
      obtain ⟨kr, hkr⟩ : ∃ kr, kr = kq + 3 := ⟨_, rfl⟩
      have T4 := markByteS_mb ba g2 bn bc' kr (b + 1) hi _ a2 b2' c2' d2' hbn (by omega)
      rw [show (kr : Int) = (kq : Int) + 1 + 1 + 1 by omega] at T4
      clear m6 HC6
      go_wp2_with fail
      generalize ((w3.setCell ⟨b, j * 8 + 4, none⟩ (.int .i64 (kq : Int))).setCell ⟨b, j * 8 + 5, none⟩ (.int .i64 ((kq : Int) + 1))).setCell ⟨b, j * 8 + 6, none⟩ (.int .i64 ((kq : Int) + 1 + 1)) = x7 at *
      refine T4.mono ?_
      rintro e w4 ⟨rfl, mj4, -⟩
      have m8 := m7.mkb mj4 (by omega)
      have HC8 : Hid (∀ f, (j + 1) * 8 ≤ f → w4.cell? ⟨b, f, none⟩ = w.cell? ⟨b, f, none⟩) := fun f hf => (mj4.1.cell (p := ⟨b, f, none⟩) (Nat.lt_succ_self _)).trans (HC7.out f (.inr (.inr hf)))
      obtain ⟨ke, hke⟩ : ∃ ke, kr + bn = ke := ⟨_, rfl⟩
      rw [hke]
      have hke2 : 1 ≤ ke ∧ ke ≤ k0 + (j + 1) * 3000000 := by omega
      clear T4 s4 s5 s6 f4 f5 f6 HC7 m7 mj4 d7 d2' hke hkr hkq
      go_wp2
      go_roundw
      case rel => exact ⟨j + 1, ke, by omega, by go_num, rfl, hke2.1, hke2.2, m8, HC8.out⟩
      case measure => simp [intOf]; omega
    · have hji : ¬ (j : Int) < (n : Int) := by omega
      clear hce
      go_wp2
      go_ret
      exact ⟨k, rfl, hmk⟩
end Go.Proofs.YtejbbnpgghpgaaaGreatDoor
