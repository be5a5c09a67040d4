/- The laws' helpers over slices of slices of bytes: size, a copy, whether two are the same, marks; no conditions beyond those that each fact names. -/
import Derived.Test.YthphokjhonddcaaBmt
import Derived.Test.YthphokjhonddcaaMrk
import Derived.Deep.RegionHeld3
namespace Go.Proofs.Ythphokjhonddcaa
open Go.RowKit

/-- Marks were written into blocks from lo on and ahead of hi. -/
def Mk (lo hi : Nat) (w w' : World) : Prop := Below lo w w' ∧ (∀ p : Addr, hi ≤ p.block → w'.cell? p = w.cell? p) ∧ (∀ p : Addr, (w.cell? p).isSome = true → (w'.cell? p).isSome = true) ∧ ∀ p : Addr, w'.frozen? p = w.frozen? p
theorem Mk.refl (lo hi : Nat) (w : World) : Mk lo hi w w := ⟨Below.refl _ _, fun _ _ => rfl, fun _ h => h, fun _ => rfl⟩
theorem Mk.trans {lo hi : Nat} {w w' w'' : World} (h : Mk lo hi w w') (h' : Mk lo hi w' w'') : Mk lo hi w w'' := ⟨h.1.trans h'.1, fun p hp => (h'.2.1 p hp).trans (h.2.1 p hp), fun p hp => h'.2.2.1 p (h.2.2.1 p hp), fun p => (h'.2.2.2 p).trans (h.2.2.2 p)⟩
theorem Mk.set {lo hi : Nat} {w w' : World} (h : Mk lo hi w w') {g j : Nat} (x : Value) (h1 : lo ≤ g) (h2 : g < hi) : Mk lo hi w (w'.setCell ⟨g, j, none⟩ x) := by
  refine h.trans ⟨(Below.refl _ _).setCell h1 _, fun p hp => World.cell?_setCell_other _ _ _ _ (fun e => by subst e; exact absurd h2 (Nat.not_lt.2 hp)), fun p hp => ?_, fun p => World.frozen?_setCell _ _ _ _⟩
  by_cases e : (⟨g, j, none⟩ : Addr) = p
  · subst e
    obtain ⟨u, hu⟩ := Option.isSome_iff_exists.1 hp
    rw [World.cell?_setCell_same _ _ _ hu]; rfl
  · rw [World.cell?_setCell_other _ _ _ _ e]; exact hp

set_option maxHeartbeats 1600000 in
set_option maxRecDepth 100000 in
theorem markByteS_mk (a : Option Addr) (g n cap k lo hi : Nat) (w : World) (ha : n = 0 ∨ a = some ⟨g, 0, none⟩) (h1 : lo ≤ g) (h2 : g < hi) (hW : ∀ i, i < n → (w.cell? ⟨g, i, none⟩).isSome = true ∧ w.frozen? ⟨g, i, none⟩ = false) (hn : n ≤ 1048576) (hk : k ≤ 2097152) :
    Calls Try.prog 23 #[.slice a n cap, .int .i64 (k : Int)] w fun e w' =>
      e = .returned (.int .i64 ((k + n : Nat) : Int)) ∧ Mk lo hi w w' ∧ ∀ i, i < n → w'.cell? ⟨g, i, none⟩ = some (.int .u8 (((k + i) % 256 : Nat) : Int)) := by
  go_enter Try.func23, Try.ntmps23
  go_wp2
  go_loopw [1, 5] (fun q i wr => ∃ j : Nat, j ≤ n ∧ i = .int .i64 j ∧ q = .int .i64 ((k + j : Nat) : Int) ∧ Mk lo hi w wr ∧ ∀ i, i < j → wr.cell? ⟨g, i, none⟩ = some (.int .u8 (((k + i) % 256 : Nat) : Int)))
    (fun _ i _ => n - (intOf i).toNat)
  case atStart => exact ⟨0, Nat.zero_le _, rfl, rfl, Mk.refl _ _ _, fun i hi => absurd hi (Nat.not_lt_zero _)⟩
  case round =>
    obtain ⟨j, hj, rfl, rfl, hmk, hc⟩ := hrel
    by_cases hjn : j < n
    · obtain rfl : a = some ⟨g, 0, none⟩ := ha.resolve_left (by omega)
      have hji : (j : Int) < (n : Int) := by omega
      obtain ⟨u, hu⟩ := Option.isSome_iff_exists.1 (hmk.2.2.1 _ (hW j hjn).1)
      have hf : wr.frozen? ⟨g, j, none⟩ = false := (hmk.2.2.2 _).trans (hW j hjn).2
      have HO : Hid (Mk lo hi w (wr.setCell ⟨g, j, none⟩ (.int .u8 (((k + j) % 256 : Nat) : Int))) ∧ ∀ i, i < j + 1 → (wr.setCell ⟨g, j, none⟩ (.int .u8 (((k + j) % 256 : Nat) : Int))).cell? ⟨g, i, none⟩ = some (.int .u8 (((k + i) % 256 : Nat) : Int))) := by
        refine ⟨hmk.set _ h1 h2, fun i hi => ?_⟩
        by_cases e : j = i
        · subst e
          exact World.cell?_setCell_same _ _ _ hu
        · rw [World.cell?_setCell_other _ _ _ _ (fun h => e (by cases h; rfl))]
          exact hc i (by omega)
      obtain ⟨q, hq⟩ : ∃ q, q = (k + j) % 256 := ⟨_, rfl⟩
      rw [← hq] at HO
      have e1 : ((k : Int) + (j : Int)) % 256 = (q : Int) := by omega
      clear hq hc hW
      go_wp2
      go_roundw
      case rel => exact ⟨j + 1, by omega, by go_num, by go_num, HO.out⟩
      case measure => simp [intOf]; omega
    · have hjj : j = n := by omega
      subst hjj
      have hji : ¬ (j : Int) < (j : Int) := by omega
      have HO : Hid (_) := hc
      clear hc
      go_wp2
      go_ret
      exact ⟨rfl, hmk, HO.out⟩

/-- A slice that may be written, from the block lo on and ahead of hi. -/
def WrS (lo hi : Nat) (w : World) (s : SlP) : Prop := ∃ g, s.1 = some ⟨g, 0, none⟩ ∧ lo ≤ g ∧ g < hi ∧ g < w.heap.size ∧ ∀ i, i < s.2.1 → (w.cell? ⟨g, i, none⟩).isSome = true ∧ w.frozen? ⟨g, i, none⟩ = false
theorem WrS.mk {lo hi : Nat} {w w' : World} {s : SlP} (h : WrS lo hi w s) (hm : Mk lo hi w w') : WrS lo hi w' s := by
  obtain ⟨g, h1, h2, h3, h4, h5⟩ := h
  exact ⟨g, h1, h2, h3, Nat.lt_of_lt_of_le h4 hm.1.size, fun i hi => ⟨hm.2.2.1 _ (h5 i hi).1, (hm.2.2.2 _).trans (h5 i hi).2⟩⟩
theorem WrS.below {lo hi : Nat} {w w' : World} {s : SlP} (h : WrS lo hi w s) (hb : Below w.heap.size w w') : WrS lo hi w' s := by
  obtain ⟨g, h1, h2, h3, h4, h5⟩ := h
  exact ⟨g, h1, h2, h3, Nat.lt_of_lt_of_le h4 hb.size, fun i hi => ⟨by rw [hb.cell (p := ⟨g, i, none⟩) h4]; exact (h5 i hi).1, (hb.frozen (p := ⟨g, i, none⟩) h4).trans (h5 i hi).2⟩⟩

set_option maxHeartbeats 1600000 in
set_option maxRecDepth 100000 in
theorem markByteSS_mk (g n cap lo hi : Nat) (l : List SlP) (w : World) (hl : l.length = n) (hg : g < lo) (hr : RdL w (some ⟨g, 0, none⟩) l) (hW : ∀ i, i < n → WrS lo hi w (nthL l i) ∧ (nthL l i).2.1 ≤ 1048576) (hn : n ≤ 1048576)
    (hT : ∀ k, k ≤ n → (((l.take k).map fun s => s.2.1).sum) ≤ 1048576) :
    Calls Try.prog 10 #[.slice (some ⟨g, 0, none⟩) n cap, .int .i64 1] w fun e w' => ∃ k : Nat, e = .returned (.int .i64 (k : Int)) ∧ Mk lo hi w w' := by
  go_enter Try.func10, Try.ntmps10
  go_wp2
  go_loopw [1, 5] (fun q i wr => ∃ (j s : Nat), j ≤ n ∧ i = .int .i64 j ∧ q = .int .i64 ((1 + s : Nat) : Int) ∧ s = (((l.take j).map fun s => s.2.1).sum) ∧ Mk lo hi w wr)
    (fun _ i _ => n - (intOf i).toNat)
  case atStart => exact ⟨0, 0, Nat.zero_le _, rfl, rfl, rfl, Mk.refl _ _ _⟩
  case round =>
    obtain ⟨j, s, hj, rfl, rfl, hs, hmk⟩ := hrel
    have hs1 : s ≤ 1048576 := by rw [hs]; exact hT j hj
    by_cases hjn : j < n
    · have hji : (j : Int) < (n : Int) := by omega
      obtain ⟨b, off, e, hblt, hcell⟩ := hr.at_ (by omega)
      cases e
      have hc : wr.cell? ⟨g, 0 + j, none⟩ = some (slV (nthL l j)) := (hmk.1.cell (p := ⟨g, 0 + j, none⟩) hg).trans (hcell j (by omega))
      obtain ⟨g', e1, e2, e3, e4, e5⟩ := (hW j hjn).1.mk hmk
      have e6 := (hW j hjn).2
      have HS : Hid (s + (nthL l j).2.1 = (((l.take (j + 1)).map fun s => s.2.1).sum)) := by
        show _ = _
        rw [take_snocZ l j (by omega), List.map_append, List.sum_append, ← hs]; simp
      clear hcell hW hs hT
      rw [Nat.zero_add] at hc
      unfold slV at hc
      generalize nthL l j = sl at *
      obtain ⟨sa, sn, scp⟩ := sl
      dsimp only at hc e1 e5 e6 HS
      subst e1
      have HC := markByteS_mk (some ⟨g', 0, none⟩) g' sn scp (1 + s) lo hi wr (.inr rfl) e2 e3 e5 e6 (by omega)
      clear e5
      go_wp2_with fail
      refine HC.mono ?_
      rintro e w1 ⟨rfl, hm1, -⟩
      have hm2 := hmk.trans hm1
      clear HC
      go_wp2
      go_roundw
      case rel => exact ⟨j + 1, s + sn, by omega, by go_num, by go_num, HS.out, hm2⟩
      case measure => simp [intOf]; omega
    · have hji : ¬ (j : Int) < (n : Int) := by omega
      clear hs
      go_wp2
      go_ret
      exact ⟨⟨1 + s, by rw [Int.natCast_add]; rfl⟩, hmk⟩
end Go.Proofs.Ythphokjhonddcaa
