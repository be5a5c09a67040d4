/- Ops: a copy by the law's helper may be written; marks of an op, of bytes; no conditions beyond those that each fact names. -/
import Derived.Test.YtlmbieclgkpofaaDoorOsb
import Derived.Test.YtlmbieclgkpofaaDoorMrk
import Derived.Test.YtlmbieclgkpofaaDoorMrkI
namespace Go.Proofs.YtlmbieclgkpofaaDoor
open Go.RowKit
set_option linter.unusedVariables false

/-- A slice with elements lies at the beginning of a block from lo on, and they may be written. -/
def WrQ (lo : Nat) (w : World) (s : SlQ) : Prop := s.2.1 = 0 ∨ ∃ g, s.1 = some ⟨g, 0, none⟩ ∧ lo ≤ g ∧ g < w.heap.size ∧ ∀ i, i < s.2.1 → (w.cell? ⟨g, i, none⟩).isSome = true ∧ w.frozen? ⟨g, i, none⟩ = false
theorem isSome_set (w : World) (p q : Addr) (v : Value) (h : (w.cell? q).isSome = true) : ((w.setCell p v).cell? q).isSome = true := by
  by_cases e : p = q
  · subst e
    obtain ⟨u, hu⟩ := Option.isSome_iff_exists.1 h
    rw [World.cell?_setCell_same _ _ _ hu]; rfl
  · rw [World.cell?_setCell_other _ _ _ _ e]; exact h
theorem WrQ.set {lo : Nat} {w : World} {s : SlQ} (h : WrQ lo w s) (p : Addr) (v : Value) : WrQ lo (w.setCell p v) s := by
  rcases h with h | ⟨g, h1, h2, h3, h4⟩
  · exact .inl h
  · exact .inr ⟨g, h1, h2, by simpa using h3, fun i hi => ⟨isSome_set _ _ _ _ (h4 i hi).1, by rw [World.frozen?_setCell]; exact (h4 i hi).2⟩⟩
theorem WrQ.below {lo : Nat} {w w' : World} {s : SlQ} (h : WrQ lo w s) (hb : Below w.heap.size w w') : WrQ lo w' s := by
  rcases h with h | ⟨g, h1, h2, h3, h4⟩
  · exact .inl h
  · exact .inr ⟨g, h1, h2, Nat.lt_of_lt_of_le h3 hb.size, fun i hi => ⟨by rw [hb.cell (p := ⟨g, i, none⟩) h3]; exact (h4 i hi).1, (hb.frozen (p := ⟨g, i, none⟩) h3).trans (h4 i hi).2⟩⟩
theorem WrQ.low {lo lo' : Nat} {w : World} {s : SlQ} (h : WrQ lo w s) (hl : lo' ≤ lo) : WrQ lo' w s := by
  rcases h with h | ⟨g, h1, h2, h3, h4⟩
  · exact .inl h
  · exact .inr ⟨g, h1, Nat.le_trans hl h2, h3, h4⟩
theorem WrQ.own {w : World} {B e n : Nat} {cap : Nat} {g : Nat} {l : List Value} (h : w.ownsRow B e 1 (.slice (some ⟨g, 0, none⟩) n cap) n l) (hB : B ≤ g) : WrQ B w (some ⟨g, 0, none⟩, n, cap) := by
  rcases h.2 with ⟨_, h0⟩ | ⟨g', cap', cur, e', hB', hg, hc1, hc2, hcs, htake⟩
  · exact .inl h0
  · injection e' with e1 e2 e3
    cases e1
    have hlt : g < w.heap.size := by
      rcases Nat.lt_or_ge g w.heap.size with hlt | hge
      · exact hlt
      · simp [Array.getElem?_eq_none hge] at hg
    refine .inr ⟨g, rfl, hB, hlt, fun i hi => ?_⟩
    have hi' : i < n := hi
    have hsz : i < cur.size := by omega
    constructor
    · simp [World.cell?, hg, hsz]
    · simp [World.frozen?, hg]
theorem toIl_wr (s : SlQ) (l : List Int) {lo : Nat} (w : World) (hs : IsIl lo w s l) (hn : l.length ≤ 1048576) :
    Calls Tryd.prog 41 #[slW s] w fun e w' => ∃ s', e = .returned (slW s') ∧ IsIl w.heap.size w' s' l ∧ WrQ w.heap.size w' s' ∧ Below w.heap.size w w' :=
  (toInt64S_any s.1 s.2.1 s.2.2 l w hs.1 hs.2.2.2.1 (by rw [← hs.1]; exact hn)).mono fun _ _ ⟨he, ho, hb⟩ => ⟨(some ⟨w.heap.size, 0, none⟩, s.2.1, s.2.1), he, ⟨hs.1, Nat.le_refl _, by dsimp only; rw [← hs.1]; unfold maxLen; omega, RdI.own ho, fun x hx => by cases hx; exact Nat.le_refl _⟩, .own ho (Nat.le_refl _), hb⟩
theorem toSl_wr (s : SlQ) (l : List Nat) {lo : Nat} (w : World) (hs : IsSl lo w s l) (hn : l.length ≤ 1048576) :
    Calls Tryd.prog 20 #[slW s] w fun e w' => ∃ s', e = .returned (slW s') ∧ IsSl w.heap.size w' s' l ∧ WrQ w.heap.size w' s' ∧ Below w.heap.size w w' :=
  (toByteS_any s.1 s.2.1 s.2.2 l w hs.1 hs.2.2.2.2.1 (by rw [← hs.1]; exact hn)).mono fun _ _ ⟨he, ho, hb⟩ => ⟨(some ⟨w.heap.size, 0, none⟩, s.2.1, s.2.1), he, ⟨hs.1, Nat.le_refl _, by dsimp only; rw [← hs.1]; unfold maxLen; omega, hs.2.2.2.1, Rd.own ho, fun x hx => by cases hx; exact Nat.le_refl _⟩, .own ho (Nat.le_refl _), hb⟩

/-- Marks were written into blocks from lo on and ahead of hi. -/
def MkJ (lo hi : Nat) (w w' : World) : Prop := Below lo w w' ∧ (∀ p : Addr, hi ≤ p.block → w'.cell? p = w.cell? p) ∧ (∀ p : Addr, (w.cell? p).isSome = true → (w'.cell? p).isSome = true) ∧ ∀ p : Addr, w'.frozen? p = w.frozen? p
theorem MkJ.refl (lo hi : Nat) (w : World) : MkJ lo hi w w := ⟨Below.refl _ _, fun _ _ => rfl, fun _ h => h, fun _ => rfl⟩
theorem MkJ.trans {lo hi : Nat} {w w' w'' : World} (h : MkJ lo hi w w') (h' : MkJ lo hi w' w'') : MkJ lo hi w w'' := ⟨h.1.trans h'.1, fun p hp => (h'.2.1 p hp).trans (h.2.1 p hp), fun p hp => h'.2.2.1 p (h.2.2.1 p hp), fun p => (h'.2.2.2 p).trans (h.2.2.2 p)⟩
theorem MkJ.set {lo hi : Nat} {w w' : World} (h : MkJ lo hi w w') {g j : Nat} (x : Value) (h1 : lo ≤ g) (h2 : g < hi) : MkJ lo hi w (w'.setCell ⟨g, j, none⟩ x) := by
  refine h.trans ⟨(Below.refl _ _).setCell h1 _, fun p hp => World.cell?_setCell_other _ _ _ _ (fun e => by subst e; exact absurd h2 (Nat.not_lt.2 hp)), fun p hp => ?_, fun p => World.frozen?_setCell _ _ _ _⟩
  by_cases e : (⟨g, j, none⟩ : Addr) = p
  · subst e
    obtain ⟨u, hu⟩ := Option.isSome_iff_exists.1 hp
    rw [World.cell?_setCell_same _ _ _ hu]; rfl
  · rw [World.cell?_setCell_other _ _ _ _ e]; exact hp

set_option maxHeartbeats 1600000 in
set_option maxRecDepth 100000 in
theorem markByteS_mj (a : Option Addr) (g n cap k lo hi : Nat) (w : World) (ha : n = 0 ∨ a = some ⟨g, 0, none⟩) (h1 : lo ≤ g) (h2 : g < hi) (hW : ∀ i, i < n → (w.cell? ⟨g, i, none⟩).isSome = true ∧ w.frozen? ⟨g, i, none⟩ = false) (hn : n ≤ 1048576) (hk : k ≤ 2097152) :
    Calls Tryd.prog 24 #[.slice a n cap, .int .i64 (k : Int)] w fun e w' =>
      e = .returned (.int .i64 ((k + n : Nat) : Int)) ∧ MkJ lo hi w w' ∧ ∀ i, i < n → w'.cell? ⟨g, i, none⟩ = some (.int .u8 (((k + i) % 256 : Nat) : Int)) := by
  go_enter Tryd.func24, Tryd.ntmps24
  go_wp2
  go_loopw [1, 5] (fun q i wr => ∃ j : Nat, j ≤ n ∧ i = .int .i64 j ∧ q = .int .i64 ((k + j : Nat) : Int) ∧ MkJ lo hi w wr ∧ ∀ i, i < j → wr.cell? ⟨g, i, none⟩ = some (.int .u8 (((k + i) % 256 : Nat) : Int)))
    (fun _ i _ => n - (intOf i).toNat)
  case atStart => exact ⟨0, Nat.zero_le _, rfl, rfl, MkJ.refl _ _ _, fun i hi => absurd hi (Nat.not_lt_zero _)⟩
  case round =>
    obtain ⟨j, hj, rfl, rfl, hmk, hc⟩ := hrel
    by_cases hjn : j < n
    · obtain rfl : a = some ⟨g, 0, none⟩ := ha.resolve_left (by omega)
      have hji : (j : Int) < (n : Int) := by omega
      obtain ⟨u, hu⟩ := Option.isSome_iff_exists.1 (hmk.2.2.1 _ (hW j hjn).1)
      have hf : wr.frozen? ⟨g, j, none⟩ = false := (hmk.2.2.2 _).trans (hW j hjn).2
      have HO : Hid (MkJ lo hi w (wr.setCell ⟨g, j, none⟩ (.int .u8 (((k + j) % 256 : Nat) : Int))) ∧ ∀ i, i < j + 1 → (wr.setCell ⟨g, j, none⟩ (.int .u8 (((k + j) % 256 : Nat) : Int))).cell? ⟨g, i, none⟩ = some (.int .u8 (((k + i) % 256 : Nat) : Int))) := by
        refine ⟨hmk.set _ h1 h2, fun i hi => ?_⟩
        by_cases e : j = i
        · subst e
          exact World.cell?_setCell_same _ _ _ hu
        · rw [World.cell?_setCell_other _ _ _ _ (fun h => e (by cases h; rfl))]
          exact hc i (by omega)
      obtain ⟨q, hq⟩ : ∃ q, q = (k + j) % 256 := ⟨_, rfl⟩
      rw [← hq] at HO
      have e1 : ((k : Int) + (j : Int)) % 256 = (q : Int) := by omega
      clear hq hc hW
      go_wp2
      go_roundw
      case rel => exact ⟨j + 1, by omega, by go_num, by go_num, HO.out⟩
      case measure => simp [intOf]; omega
    · have hjj : j = n := by omega
      subst hjj
      have hji : ¬ (j : Int) < (j : Int) := by omega
      have HO : Hid (_) := hc
      clear hc
      go_wp2
      go_ret
      exact ⟨rfl, hmk, HO.out⟩

set_option maxHeartbeats 1600000 in
set_option maxRecDepth 100000 in
theorem markInt64S_mj (a : Option Addr) (g n cap k lo hi : Nat) (w : World) (ha : n = 0 ∨ a = some ⟨g, 0, none⟩) (h1 : lo ≤ g) (h2 : g < hi) (hW : ∀ i, i < n → (w.cell? ⟨g, i, none⟩).isSome = true ∧ w.frozen? ⟨g, i, none⟩ = false) (hn : n ≤ 1048576) (hk : k ≤ 2097152) :
    Calls Tryd.prog 52 #[.slice a n cap, .int .i64 (k : Int)] w fun e w' =>
      e = .returned (.int .i64 ((k + n : Nat) : Int)) ∧ MkJ lo hi w w' ∧ ∀ i, i < n → w'.cell? ⟨g, i, none⟩ = some (.int .i64 ((k + i : Nat) : Int)) := by
  go_enter Tryd.func52, Tryd.ntmps52
  go_wp2
  go_loopw [1, 5] (fun q i wr => ∃ j : Nat, j ≤ n ∧ i = .int .i64 j ∧ q = .int .i64 ((k + j : Nat) : Int) ∧ MkJ lo hi w wr ∧ ∀ i, i < j → wr.cell? ⟨g, i, none⟩ = some (.int .i64 ((k + i : Nat) : Int)))
    (fun _ i _ => n - (intOf i).toNat)
  case atStart => exact ⟨0, Nat.zero_le _, rfl, rfl, MkJ.refl _ _ _, fun i hi => absurd hi (Nat.not_lt_zero _)⟩
  case round =>
    obtain ⟨j, hj, rfl, rfl, hmk, hc⟩ := hrel
    by_cases hjn : j < n
    · obtain rfl : a = some ⟨g, 0, none⟩ := ha.resolve_left (by omega)
      have hji : (j : Int) < (n : Int) := by omega
      obtain ⟨u, hu⟩ := Option.isSome_iff_exists.1 (hmk.2.2.1 _ (hW j hjn).1)
      have hf : wr.frozen? ⟨g, j, none⟩ = false := (hmk.2.2.2 _).trans (hW j hjn).2
      have HO : Hid (MkJ lo hi w (wr.setCell ⟨g, j, none⟩ (.int .i64 ((k + j : Nat) : Int))) ∧ ∀ i, i < j + 1 → (wr.setCell ⟨g, j, none⟩ (.int .i64 ((k + j : Nat) : Int))).cell? ⟨g, i, none⟩ = some (.int .i64 ((k + i : Nat) : Int))) := by
        refine ⟨hmk.set _ h1 h2, fun i hi => ?_⟩
        by_cases e : j = i
        · subst e
          exact World.cell?_setCell_same _ _ _ hu
        · rw [World.cell?_setCell_other _ _ _ _ (fun h => e (by cases h; rfl))]
          exact hc i (by omega)
      rw [Int.natCast_add] at HO
      clear hc hW
      go_wp2
      go_roundw
      case rel => exact ⟨j + 1, by omega, by go_num, by go_num, HO.out⟩
      case measure => simp [intOf]; omega
    · have hjj : j = n := by omega
      subst hjj
      have hji : ¬ (j : Int) < (j : Int) := by omega
      have HO : Hid (_) := hc
      clear hc
      go_wp2
      go_ret
      exact ⟨rfl, hmk, HO.out⟩

set_option maxHeartbeats 800000 in
set_option maxRecDepth 100000 in
theorem markBytesResult_mj (c : Int) (a : Option Addr) (g n cap : Nat) (w : World) (ha : n = 0 ∨ a = some ⟨g, 0, none⟩) (hgl : g < w.heap.size) (hW : ∀ i, i < n → (w.cell? ⟨g, i, none⟩).isSome = true ∧ w.frozen? ⟨g, i, none⟩ = false) (hn : n ≤ 1048576) :
    Calls Tryd.prog 17 #[.agg #[.int .i64 c, .slice a n cap], .int .i64 1] w fun e w' =>
      e = .returned (.int .i64 ((1 + n : Nat) : Int)) ∧ Below g w w' ∧ (∀ p : Addr, p.block < w.heap.size → p.block ≠ g → w'.cell? p = w.cell? p) ∧ Rd w' a (marks n 1) := by
  obtain ⟨W, hWW⟩ : ∃ W, w.alloc (.cells #[.int .i64 c, .slice a n cap] 33) = W := ⟨_, rfl⟩
  have hb0 : Below w.heap.size w W := by rw [← hWW]; exact (Below.refl _ _).alloc (Nat.le_refl _) _
  have x1 : W.cell? ⟨w.heap.size, 1, none⟩ = some (.slice a n cap) := by rw [← hWW]; simp
  have HC := markByteS_mj a g n cap 1 g (g + 1) W ha (Nat.le_refl _) (by omega) (fun i hi => ⟨by rw [hb0.cell (p := ⟨g, i, none⟩) hgl]; exact (hW i hi).1, (hb0.frozen (p := ⟨g, i, none⟩) hgl).trans (hW i hi).2⟩) hn (by omega)
  go_enter Tryd.func17, Tryd.ntmps17
  go_wp2_with fail
  refine HC.mono ?_
  rintro e w1 ⟨rfl, hm, hc⟩
  have HQ : Hid (Below g w w1 ∧ (∀ p : Addr, p.block < w.heap.size → p.block ≠ g → w1.cell? p = w.cell? p) ∧ Rd w1 a (marks n 1)) := by
    refine ⟨(hb0.mono (by omega)).trans hm.1, fun p hp hne => ?_, ?_⟩
    · rcases Nat.lt_or_ge p.block g with h | h
      · exact (hm.1.cell h).trans (hb0.cell hp)
      · exact (hm.2.1 p (by omega)).trans (hb0.cell hp)
    · rcases Nat.eq_zero_or_pos n with h0 | h0
      · left; subst h0; rfl
      · obtain rfl : a = some ⟨g, 0, none⟩ := ha.resolve_left (by omega)
        right
        refine ⟨g, 0, rfl, ?_, fun i hi => ?_⟩
        · have := hm.1.size
          have := hb0.size
          omega
        · rw [marks_len] at hi
          rw [Nat.zero_add, marks_nth hi]
          exact hc i hi
  clear HC hm hc hb0 hW
  go_wp2
  go_ret
  exact ⟨rfl, HQ.out⟩
set_option maxHeartbeats 1600000 in
set_option maxRecDepth 100000 in
theorem toOp_wr (o : OpR) (p : SlO) {lo : Nat} (w : World) (hs : IsOp lo w p o) (hf : FtO o) :
    Calls Tryd.prog 10 #[opX o p] w fun e w' => ∃ p', e = .returned (opX o p') ∧ IsOp w.heap.size w' p' o ∧ (WrQ w.heap.size w' p'.1 ∧ WrQ w.heap.size w' p'.2) ∧ w.heap.size < w'.heap.size ∧ Below w.heap.size w w' := by
  have hbW : Below w.heap.size w (((w.alloc (.cells #[.int .i64 o.k, .string o.x, .string o.t, slW p.1, .int .i64 o.m, .int .i64 o.f, .int .i64 o.d, slW p.2] 25)).alloc (.cells #[.int .i64 0, .string ⟨#[]⟩, .string ⟨#[]⟩, .slice none 0 0, .int .i64 0, .int .i64 0, .int .i64 0, .slice none 0 0] 28)).alloc (.cells #[.int .i64 o.k, .string o.x, .string o.t, .slice none 0 0, .int .i64 0, .int .i64 0, .int .i64 0, .slice none 0 0] 28)) :=
    (((Below.refl _ _).alloc (Nat.le_refl _) _).alloc (by simp) _).alloc (by simp; omega) _
  have hsz : (((w.alloc (.cells #[.int .i64 o.k, .string o.x, .string o.t, slW p.1, .int .i64 o.m, .int .i64 o.f, .int .i64 o.d, slW p.2] 25)).alloc (.cells #[.int .i64 0, .string ⟨#[]⟩, .string ⟨#[]⟩, .slice none 0 0, .int .i64 0, .int .i64 0, .int .i64 0, .slice none 0 0] 28)).alloc (.cells #[.int .i64 o.k, .string o.x, .string o.t, .slice none 0 0, .int .i64 0, .int .i64 0, .int .i64 0, .slice none 0 0] 28)).heap.size = w.heap.size + 3 := by simp
  have hA : Qo (((w.alloc (.cells #[.int .i64 o.k, .string o.x, .string o.t, slW p.1, .int .i64 o.m, .int .i64 o.f, .int .i64 o.d, slW p.2] 25)).alloc (.cells #[.int .i64 0, .string ⟨#[]⟩, .string ⟨#[]⟩, .slice none 0 0, .int .i64 0, .int .i64 0, .int .i64 0, .slice none 0 0] 28)).alloc (.cells #[.int .i64 o.k, .string o.x, .string o.t, .slice none 0 0, .int .i64 0, .int .i64 0, .int .i64 0, .slice none 0 0] 28)) w.heap.size ⟨.int .i64 o.k, .string o.x, .string o.t, slW p.1, .int .i64 o.m, .int .i64 o.f, .int .i64 o.d, slW p.2⟩ := ((Qo.new w _ _ _ _ _ _ _ _ _).below ((Below.refl _ _).alloc (Nat.le_refl _) _) (by simp)).below ((Below.refl _ _).alloc (Nat.le_refl _) _) (by simp; omega)
  have hR : Qo (((w.alloc (.cells #[.int .i64 o.k, .string o.x, .string o.t, slW p.1, .int .i64 o.m, .int .i64 o.f, .int .i64 o.d, slW p.2] 25)).alloc (.cells #[.int .i64 0, .string ⟨#[]⟩, .string ⟨#[]⟩, .slice none 0 0, .int .i64 0, .int .i64 0, .int .i64 0, .slice none 0 0] 28)).alloc (.cells #[.int .i64 o.k, .string o.x, .string o.t, .slice none 0 0, .int .i64 0, .int .i64 0, .int .i64 0, .slice none 0 0] 28)) (w.heap.size + 1) ⟨.int .i64 0, .string ⟨#[]⟩, .string ⟨#[]⟩, .slice none 0 0, .int .i64 0, .int .i64 0, .int .i64 0, .slice none 0 0⟩ := by
    have h := (Qo.new (w.alloc (.cells #[.int .i64 o.k, .string o.x, .string o.t, slW p.1, .int .i64 o.m, .int .i64 o.f, .int .i64 o.d, slW p.2] 25)) (.int .i64 0) (.string ⟨#[]⟩) (.string ⟨#[]⟩) (.slice none 0 0) (.int .i64 0) (.int .i64 0) (.int .i64 0) (.slice none 0 0) 28).below ((Below.refl _ _).alloc (Nat.le_refl _) (.cells #[.int .i64 o.k, .string o.x, .string o.t, .slice none 0 0, .int .i64 0, .int .i64 0, .int .i64 0, .slice none 0 0] 28)) (by simp)
    simpa using h
  have hO : Qo (((w.alloc (.cells #[.int .i64 o.k, .string o.x, .string o.t, slW p.1, .int .i64 o.m, .int .i64 o.f, .int .i64 o.d, slW p.2] 25)).alloc (.cells #[.int .i64 0, .string ⟨#[]⟩, .string ⟨#[]⟩, .slice none 0 0, .int .i64 0, .int .i64 0, .int .i64 0, .slice none 0 0] 28)).alloc (.cells #[.int .i64 o.k, .string o.x, .string o.t, .slice none 0 0, .int .i64 0, .int .i64 0, .int .i64 0, .slice none 0 0] 28)) (w.heap.size + 1 + 1) ⟨.int .i64 o.k, .string o.x, .string o.t, .slice none 0 0, .int .i64 0, .int .i64 0, .int .i64 0, .slice none 0 0⟩ := by
    have h := (Qo.new ((w.alloc (.cells #[.int .i64 o.k, .string o.x, .string o.t, slW p.1, .int .i64 o.m, .int .i64 o.f, .int .i64 o.d, slW p.2] 25)).alloc (.cells #[.int .i64 0, .string ⟨#[]⟩, .string ⟨#[]⟩, .slice none 0 0, .int .i64 0, .int .i64 0, .int .i64 0, .slice none 0 0] 28)) (.int .i64 o.k) (.string o.x) (.string o.t) (.slice none 0 0) (.int .i64 0) (.int .i64 0) (.int .i64 0) (.slice none 0 0) 28)
    simpa using h
  have fR : Fo (((w.alloc (.cells #[.int .i64 o.k, .string o.x, .string o.t, slW p.1, .int .i64 o.m, .int .i64 o.f, .int .i64 o.d, slW p.2] 25)).alloc (.cells #[.int .i64 0, .string ⟨#[]⟩, .string ⟨#[]⟩, .slice none 0 0, .int .i64 0, .int .i64 0, .int .i64 0, .slice none 0 0] 28)).alloc (.cells #[.int .i64 o.k, .string o.x, .string o.t, .slice none 0 0, .int .i64 0, .int .i64 0, .int .i64 0, .slice none 0 0] 28)) (w.heap.size + 1) := by
    have h := (Fo.new (w.alloc (.cells #[.int .i64 o.k, .string o.x, .string o.t, slW p.1, .int .i64 o.m, .int .i64 o.f, .int .i64 o.d, slW p.2] 25)) (.int .i64 0) (.string ⟨#[]⟩) (.string ⟨#[]⟩) (.slice none 0 0) (.int .i64 0) (.int .i64 0) (.int .i64 0) (.slice none 0 0) 28).below ((Below.refl _ _).alloc (Nat.le_refl _) (.cells #[.int .i64 o.k, .string o.x, .string o.t, .slice none 0 0, .int .i64 0, .int .i64 0, .int .i64 0, .slice none 0 0] 28)) (by simp)
    simpa using h
  have fO : Fo (((w.alloc (.cells #[.int .i64 o.k, .string o.x, .string o.t, slW p.1, .int .i64 o.m, .int .i64 o.f, .int .i64 o.d, slW p.2] 25)).alloc (.cells #[.int .i64 0, .string ⟨#[]⟩, .string ⟨#[]⟩, .slice none 0 0, .int .i64 0, .int .i64 0, .int .i64 0, .slice none 0 0] 28)).alloc (.cells #[.int .i64 o.k, .string o.x, .string o.t, .slice none 0 0, .int .i64 0, .int .i64 0, .int .i64 0, .slice none 0 0] 28)) (w.heap.size + 1 + 1) := by
    have h := (Fo.new ((w.alloc (.cells #[.int .i64 o.k, .string o.x, .string o.t, slW p.1, .int .i64 o.m, .int .i64 o.f, .int .i64 o.d, slW p.2] 25)).alloc (.cells #[.int .i64 0, .string ⟨#[]⟩, .string ⟨#[]⟩, .slice none 0 0, .int .i64 0, .int .i64 0, .int .i64 0, .slice none 0 0] 28)) (.int .i64 o.k) (.string o.x) (.string o.t) (.slice none 0 0) (.int .i64 0) (.int .i64 0) (.int .i64 0) (.slice none 0 0) 28)
    simpa using h
  have HC := toIl_wr p.1 o.u _ (hs.1.below hbW) hf.2.2.1
  go_enter Tryd.func10, Tryd.ntmps10
  go_wp2_with fail
  generalize ((w.alloc (.cells #[.int .i64 o.k, .string o.x, .string o.t, slW p.1, .int .i64 o.m, .int .i64 o.f, .int .i64 o.d, slW p.2] 25)).alloc (.cells #[.int .i64 0, .string ⟨#[]⟩, .string ⟨#[]⟩, .slice none 0 0, .int .i64 0, .int .i64 0, .int .i64 0, .slice none 0 0] 28)).alloc (.cells #[.int .i64 o.k, .string o.x, .string o.t, .slice none 0 0, .int .i64 0, .int .i64 0, .int .i64 0, .slice none 0 0] 28) = W at *
  refine HC.mono ?_
  rintro e w1 ⟨s1, rfl, hI1, hV1, hb1⟩
  rw [hsz] at hI1 hV1
  have hA1 := hA.below hb1 (by omega)
  have hR1 := hR.below hb1 (by omega)
  have hO1 := hO.below hb1 (by omega)
  have fR1 := fR.below hb1 (by omega)
  have fO1 := fO.below hb1 (by omega)
  have hz1 : w.heap.size + 3 ≤ w1.heap.size := by rw [← hsz]; exact hb1.size
  have hB1 : Below w.heap.size w w1 := hbW.trans (hb1.mono (by omega))
  clear HC hA hR hO fR fO hb1 hsz hbW W
  have hO2 := (((hO1.put3 (slW s1)).put4 (.int .i64 o.m)).put5 (.int .i64 o.f)).put6 (.int .i64 o.d)
  have fO2 := (((fO1.set ⟨w.heap.size + 1 + 1, 3, none⟩ (slW s1)).set ⟨w.heap.size + 1 + 1, 4, none⟩ (.int .i64 o.m)).set ⟨w.heap.size + 1 + 1, 5, none⟩ (.int .i64 o.f)).set ⟨w.heap.size + 1 + 1, 6, none⟩ (.int .i64 o.d)
  have hR2 := (((hR1.far (w.heap.size + 1 + 1) 3 (slW s1) (by omega)).far (w.heap.size + 1 + 1) 4 (.int .i64 o.m) (by omega)).far (w.heap.size + 1 + 1) 5 (.int .i64 o.f) (by omega)).far (w.heap.size + 1 + 1) 6 (.int .i64 o.d) (by omega)
  have fR2 := (((fR1.set ⟨w.heap.size + 1 + 1, 3, none⟩ (slW s1)).set ⟨w.heap.size + 1 + 1, 4, none⟩ (.int .i64 o.m)).set ⟨w.heap.size + 1 + 1, 5, none⟩ (.int .i64 o.f)).set ⟨w.heap.size + 1 + 1, 6, none⟩ (.int .i64 o.d)
  have hB2 : Below w.heap.size w ((((w1.setCell ⟨w.heap.size + 1 + 1, 3, none⟩ (slW s1)).setCell ⟨w.heap.size + 1 + 1, 4, none⟩ (.int .i64 o.m)).setCell ⟨w.heap.size + 1 + 1, 5, none⟩ (.int .i64 o.f)).setCell ⟨w.heap.size + 1 + 1, 6, none⟩ (.int .i64 o.d)) := (((hB1.setCell (by simp; omega) _).setCell (by simp; omega) _).setCell (by simp; omega) _).setCell (by simp; omega) _
  have hI2 := hI1.near ((((Near.set (j := 3) (slW s1) (show w.heap.size + 1 + 1 < w.heap.size + 3 by omega)).trans (Near.set (g := w.heap.size + 1 + 1) (j := 4) (.int .i64 o.m) (by omega))).trans (Near.set (g := w.heap.size + 1 + 1) (j := 5) (.int .i64 o.f) (by omega))).trans (Near.set (g := w.heap.size + 1 + 1) (j := 6) (.int .i64 o.d) (by omega)))
  have hV2 := (((hV1.set ⟨w.heap.size + 1 + 1, 3, none⟩ (slW s1)).set ⟨w.heap.size + 1 + 1, 4, none⟩ (.int .i64 o.m)).set ⟨w.heap.size + 1 + 1, 5, none⟩ (.int .i64 o.f)).set ⟨w.heap.size + 1 + 1, 6, none⟩ (.int .i64 o.d)
  have hz2 : w.heap.size + 3 ≤ ((((w1.setCell ⟨w.heap.size + 1 + 1, 3, none⟩ (slW s1)).setCell ⟨w.heap.size + 1 + 1, 4, none⟩ (.int .i64 o.m)).setCell ⟨w.heap.size + 1 + 1, 5, none⟩ (.int .i64 o.f)).setCell ⟨w.heap.size + 1 + 1, 6, none⟩ (.int .i64 o.d)).heap.size := by simpa using hz1
  obtain ⟨a0, a1, a2, a3, a4, a5, a6, a7⟩ := hA1
  obtain ⟨o0, o1, o2, o3, o4, o5, o6, o7⟩ := hO1
  obtain ⟨f0, f1, f2, f3, f4, f5, f6, f7⟩ := fO1
  dsimp only at a0 a1 a2 a3 a4 a5 a6 a7 o0 o1 o2 o3 o4 o5 o6 o7
  clear hR1 fR1 hI1 hB1 hz1 hV1
  have HK : Hid (_) := And.intro hO2 (And.intro fO2 (And.intro hR2 (And.intro fR2 (And.intro hB2 (And.intro hI2 (And.intro hV2 hz2))))))
  clear hO2 fO2 hR2 fR2 hB2 hI2 hz2 hV2
  go_wp2_with fail
  obtain ⟨hO2, fO2, hR2, fR2, hB2, hI2, hV2, hz2⟩ := HK.out
  clear HK a0 a1 a2 a3 a4 a5 a6 a7 o0 o1 o2 o3 o4 o5 o6 o7 f0 f1 f2 f3 f4 f5 f6 f7
  generalize ((((w1.setCell ⟨w.heap.size + 1 + 1, 3, none⟩ (slW s1)).setCell ⟨w.heap.size + 1 + 1, 4, none⟩ (.int .i64 o.m)).setCell ⟨w.heap.size + 1 + 1, 5, none⟩ (.int .i64 o.f)).setCell ⟨w.heap.size + 1 + 1, 6, none⟩ (.int .i64 o.d)) = W2 at *
  refine (toSl_wr p.2 o.b W2 (hs.2.below hB2) hf.2.2.2).mono ?_
  rintro e w3 ⟨s3, rfl, hI3, hV3, hb3⟩
  have hz3 : w.heap.size + 3 ≤ w3.heap.size := Nat.le_trans hz2 hb3.size
  have hR3 := hR2.below hb3 hR2.lt
  have hO3 := hO2.below hb3 hO2.lt
  have fR3 := fR2.below hb3 hR2.lt
  have fO3 := fO2.below hb3 hO2.lt
  have hB3 : Below w.heap.size w w3 := hB2.trans (hb3.mono hB2.size)
  have hI3' := hI3.low (lo' := w.heap.size + 3) hz2
  have hI2' := hI2.below hb3
  have hV3' := hV3.low (lo' := w.heap.size + 3) hz2
  have hV2' := hV2.below hb3
  clear hI2 hI3 hV2 hV3 hb3 hz2 hR2 fR2 hB2 hO2 fO2 W2
  have hO4 := hO3.put7 (slW s3)
  have hR4 := hR3.far (w.heap.size + 1 + 1) 7 (slW s3) (by omega)
  have hR5 := (((((((hR4.put0 (.int .i64 o.k)).put1 (.string o.x)).put2 (.string o.t)).put3 (slW s1)).put4 (.int .i64 o.m)).put5 (.int .i64 o.f)).put6 (.int .i64 o.d)).put7 (slW s3)
  obtain ⟨q0, q1, q2, q3, q4, q5, q6, q7⟩ := hR5
  obtain ⟨o0, o1, o2, o3, o4, o5, o6, o7⟩ := hO3
  obtain ⟨f0, f1, f2, f3, f4, f5, f6, f7⟩ := fO3
  obtain ⟨r0, r1, r2, r3, r4, r5, r6, r7⟩ := hR3
  obtain ⟨y0, y1, y2, y3, y4, y5, y6, y7⟩ := fR3
  obtain ⟨k0, k1, k2, k3, k4, k5, k6, k7⟩ := hO4
  dsimp only at q0 q1 q2 q3 q4 q5 q6 q7 o0 o1 o2 o3 o4 o5 o6 o7 r0 r1 r2 r3 r4 r5 r6 r7 k0 k1 k2 k3 k4 k5 k6 k7
  have HS : Hid (IsIl (w.heap.size + 3) w3 s1 o.u ∧ IsSl (w.heap.size + 3) w3 s3 o.b ∧ WrQ (w.heap.size + 3) w3 s1 ∧ WrQ (w.heap.size + 3) w3 s3) := ⟨hI2', hI3', hV2', hV3'⟩
  have hg1 : w.heap.size + 1 + 1 ≠ w.heap.size + 1 := by omega
  clear hI2' hI3' hV2' hV3' hs hR4
  go_wp2
  refine bodyPost_ret (v := .agg #[.int .i64 o.k, .string o.x, .string o.t, slW s1, .int .i64 o.m, .int .i64 o.f, .int .i64 o.d, slW s3]) (by simp [results, Tryd.results10, go_sem, q0, q1, q2, q3, q4, q5, q6, q7]) rfl ?_
  have hN : Near (w.heap.size + 3) w3 (((((((((w3.setCell ⟨w.heap.size + 1 + 1, 7, none⟩ (slW s3)).setCell ⟨w.heap.size + 1, 0, none⟩ (.int .i64 o.k)).setCell ⟨w.heap.size + 1, 1, none⟩ (.string o.x)).setCell ⟨w.heap.size + 1, 2, none⟩ (.string o.t)).setCell ⟨w.heap.size + 1, 3, none⟩ (slW s1)).setCell ⟨w.heap.size + 1, 4, none⟩ (.int .i64 o.m)).setCell ⟨w.heap.size + 1, 5, none⟩ (.int .i64 o.f)).setCell ⟨w.heap.size + 1, 6, none⟩ (.int .i64 o.d)).setCell ⟨w.heap.size + 1, 7, none⟩ (slW s3)) :=
    ((((((((Near.set _ (by omega)).trans (Near.set _ (by omega))).trans (Near.set _ (by omega))).trans (Near.set _ (by omega))).trans (Near.set _ (by omega))).trans (Near.set _ (by omega))).trans (Near.set _ (by omega))).trans (Near.set _ (by omega))).trans (Near.set _ (by omega))
  refine ⟨(s1, s3), rfl, ⟨(HS.out.1.near hN).low (by omega), (HS.out.2.1.near hN).low (by omega)⟩, ⟨?w1, ?w2⟩, ?w3, ?_⟩
  case w3 => simp; omega
  case w1 => exact (((((((((HS.out.2.2.1.set _ _).set _ _).set _ _).set _ _).set _ _).set _ _).set _ _).set _ _).set _ _).low (by omega)
  case w2 => exact (((((((((HS.out.2.2.2.set _ _).set _ _).set _ _).set _ _).set _ _).set _ _).set _ _).set _ _).set _ _).low (by omega)
  exact ((((((((hB3.setCell (by simp; omega) _).setCell (by simp) _).setCell (by simp) _).setCell (by simp) _).setCell (by simp) _).setCell (by simp) _).setCell (by simp) _).setCell (by simp) _).setCell (by simp) _


theorem WrQ.mk {lo B H : Nat} {w w' : World} {s : SlQ} (h : WrQ lo w s) (hm : MkJ B H w w') : WrQ lo w' s := by
  rcases h with h | ⟨g, h1, h2, h3, h4⟩
  · exact .inl h
  · exact .inr ⟨g, h1, h2, Nat.lt_of_lt_of_le h3 hm.1.size, fun i hi => ⟨hm.2.2.1 _ (h4 i hi).1, (hm.2.2.2 _).trans (h4 i hi).2⟩⟩
/-- The same, ahead of the block hi. -/
def WrH (lo hi : Nat) (w : World) (s : SlQ) : Prop := s.2.1 = 0 ∨ ∃ g, s.1 = some ⟨g, 0, none⟩ ∧ lo ≤ g ∧ g < hi ∧ g < w.heap.size ∧ ∀ i, i < s.2.1 → (w.cell? ⟨g, i, none⟩).isSome = true ∧ w.frozen? ⟨g, i, none⟩ = false
theorem WrQ.hi {lo : Nat} {w : World} {s : SlQ} (h : WrQ lo w s) : WrH lo w.heap.size w s := by
  rcases h with h | ⟨g, h1, h2, h3, h4⟩
  · exact .inl h
  · exact .inr ⟨g, h1, h2, h3, h3, h4⟩
theorem WrH.below {lo hi : Nat} {w w' : World} {s : SlQ} (h : WrH lo hi w s) (hb : Below w.heap.size w w') : WrH lo hi w' s := by
  rcases h with h | ⟨g, h1, h2, h2', h3, h4⟩
  · exact .inl h
  · exact .inr ⟨g, h1, h2, h2', Nat.lt_of_lt_of_le h3 hb.size, fun i hi => ⟨by rw [hb.cell (p := ⟨g, i, none⟩) h3]; exact (h4 i hi).1, (hb.frozen (p := ⟨g, i, none⟩) h3).trans (h4 i hi).2⟩⟩
theorem WrH.at_ {lo hi : Nat} {w : World} {s : SlQ} (h : WrH lo hi w s) (hl : lo < hi) : ∃ g, (s.2.1 = 0 ∨ s.1 = some ⟨g, 0, none⟩) ∧ lo ≤ g ∧ g < hi ∧ ∀ i, i < s.2.1 → (w.cell? ⟨g, i, none⟩).isSome = true ∧ w.frozen? ⟨g, i, none⟩ = false := by
  rcases h with h | ⟨g, h1, h2, h2', h3, h4⟩
  · exact ⟨lo, .inl h, Nat.le_refl _, hl, fun i hi => by omega⟩
  · exact ⟨g, .inr h1, h2, h2', h4⟩
/-- Marks were written from the block lo on and ahead of hi; what is new besides is not told. -/
def MkQ (lo hi : Nat) (w w' : World) : Prop := Below lo w w' ∧ (∀ p : Addr, hi ≤ p.block → p.block < w.heap.size → w'.cell? p = w.cell? p) ∧ (∀ p : Addr, p.block < w.heap.size → (w.cell? p).isSome = true → (w'.cell? p).isSome = true) ∧ ∀ p : Addr, p.block < w.heap.size → w'.frozen? p = w.frozen? p

set_option maxHeartbeats 800000 in
set_option maxRecDepth 100000 in
/-- The marks of an op: written into its own two slices. -/
theorem markOp_mj (o : OpR) (p : SlO) (k lo hi : Nat) (w : World) (h1 : WrH lo hi w p.1) (h2 : WrH lo hi w p.2) (hlo : lo < hi) (hhi : hi ≤ w.heap.size) (n1 : p.1.2.1 ≤ 1048576) (n2 : p.2.2.1 ≤ 1048576) (hk : k ≤ 1048576) :
    Calls Tryd.prog 16 #[opX o p, .int .i64 (k : Int)] w fun e w' => e = .returned (.int .i64 ((k + p.1.2.1 + p.2.2.1 : Nat) : Int)) ∧ MkQ lo hi w w' := by
  obtain ⟨⟨ua, un, uc⟩, ⟨ba, bn, bc'⟩⟩ := p
  dsimp only [slW] at *
  obtain ⟨W, hW⟩ : ∃ W, w.alloc (.cells #[.int .i64 o.k, .string o.x, .string o.t, .slice ua un uc, .int .i64 o.m, .int .i64 o.f, .int .i64 o.d, .slice ba bn bc'] 28) = W := ⟨_, rfl⟩
  have hb0 : Below w.heap.size w W := by rw [← hW]; exact (Below.refl _ _).alloc (Nat.le_refl _) _
  have hQ : Qo W w.heap.size ⟨.int .i64 o.k, .string o.x, .string o.t, .slice ua un uc, .int .i64 o.m, .int .i64 o.f, .int .i64 o.d, .slice ba bn bc'⟩ := by rw [← hW]; exact Qo.new _ _ _ _ _ _ _ _ _ _
  obtain ⟨g1, a1, b1, c1, d1⟩ := (h1.below hb0).at_ hlo
  obtain ⟨g2, a2, b2, c2, d2⟩ := (h2.below hb0).at_ hlo
  dsimp only at a1 d1 a2 d2
  have HC := markInt64S_mj ua g1 un uc k lo hi W a1 b1 c1 d1 n1 (by omega)
  obtain ⟨q0, q1, q2, q3, q4, q5, q6, q7⟩ := hQ
  dsimp only at q0 q1 q2 q3 q4 q5 q6 q7
  go_enter Tryd.func16, Tryd.ntmps16
  go_wp2_with fail
  refine HC.mono ?_
  rintro e w1 ⟨rfl, hm1, -⟩
  have x7 := (hm1.2.1 ⟨w.heap.size, 7, none⟩ hhi).trans q7
  have HD := markByteS_mj ba g2 bn bc' (k + un) lo hi w1 a2 b2 c2 (fun i hi => ⟨hm1.2.2.1 _ (d2 i hi).1, (hm1.2.2.2 _).trans (d2 i hi).2⟩) n2 (by omega)
  clear HC d1 d2 h1 h2 q0 q1 q2 q3 q4 q5 q6 q7
  obtain ⟨kk, hkk⟩ : ∃ kk, k + un = kk := ⟨_, rfl⟩
  have HKK : Hid (k + un = kk) := hkk
  rw [hkk] at HD ⊢
  clear hkk
  go_wp2_with fail
  refine HD.mono ?_
  rintro e w2 ⟨rfl, hm2, -⟩
  have hm := hm1.trans hm2
  clear HD hm1 hm2
  obtain ⟨kr, hkr⟩ : ∃ kr, kk + bn = kr := ⟨_, rfl⟩
  have HKR : Hid (k + un + bn = kr) := by show _ = _; rw [HKK.out, hkr]
  rw [hkr]
  clear hkr
  go_wp2
  go_ret
  exact ⟨by rw [HKR.out]; rfl, (hb0.mono (by omega)).trans hm.1, fun q h1 h2 => (hm.2.1 q h1).trans (hb0.cell h2), fun q h1 h2 => hm.2.2.1 q (by rw [hb0.cell h1]; exact h2), fun q h1 => (hm.2.2.2 q).trans (hb0.frozen h1)⟩
end Go.Proofs.YtlmbieclgkpofaaDoor
