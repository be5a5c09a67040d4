/- Bytes copied into memory of the call's own: the program's; no conditions beyond those that each fact names · The laws' helpers that write marks into an answer's bytes, look for them again, and hold two answers with bytes against each other, do what their texts say; at most 1048576 bytes · The laws' helpers that write marks into an answer's numbers, look for them again, and hold two answers with numbers against each other, do what their texts say; at most 1048576 numbers · Ops: a copy by the law's helper may be written; marks of an op, of bytes; no conditions beyond those that each fact names. -/
import Derived.Test.YtdcgihcjiiemdaaDoorMemToApp
import Derived.Laws.CopyOwn
import Derived.Test.YtdcgihcjiiemdaaDoorMrk0ToDrw
import Derived.Test.YtdcgihcjiiemdaaDoorMathToEncB2
import Derived.Test.YtdcgihcjiiemdaaDoorDrw2ToAppI
import Derived.Handy
import Derived.Test.YtdcgihcjiiemdaaDoorDotToOsb
namespace Go.Proofs.YtdcgihcjiiemdaaDoor
open Go.RowKit

theorem rowJ {w : World} {B e g n : Nat} {xs : List Value} (h : w.ownsRow B e 1 (.slice (some ⟨g, 0, none⟩) n n) n xs) : ∃ cur : List Value, w.heap[g]? = some (.cells cur.toArray e (0, 0)) ∧ cur.length = n := by
  rcases h.2 with ⟨h', _⟩ | ⟨g', cap, cur, h1, _, h3, _, _, h6, _⟩
  · cases h'
  · injection h1 with h1 _ h2
    injection h1 with h1
    injection h1 with h1
    subst h1 h2
    exact ⟨cur.toList, by simpa using h3, by simpa using h6⟩

set_option maxHeartbeats 800000 in
set_option maxRecDepth 100000 in
theorem copiedJ (a : Option Addr) (n cap : Nat) (l : List Nat) (w : World) (hl : l.length = n) (hr : Rd w a l) (hn : n ≤ 1048576) :
    Calls Tryd.prog 49 #[.slice a n cap] w fun e w' => ∃ v, e = .returned v ∧ Own w' w.heap.size v l ∧ Below w.heap.size w w' := by
  obtain ⟨i0, hi, hz0, hz1, hz2⟩ := info_parts infoB
  have hsz1 : (Tryd.prog.info? 5).map (·.size) = some 1 := by rw [hi]; simp [hz1]
  have HP : Hid (∀ w0, Below w.heap.size w w0 → 0 < (bc l).length → ∃ ad, a = some ad ∧ ∀ j v, (bc l)[j]? = some v → w0.cell? (ad.add j) = some v) := fun w0 hb hp => by
    rw [bc_len] at hp
    obtain ⟨b, off, rfl, hlt, hc⟩ := hr.at_ hp
    refine ⟨_, rfl, fun j v hj => ?_⟩
    have hjl : j < l.length := by
      rcases Nat.lt_or_ge j l.length with hlt | hge
      · exact hlt
      · rw [List.getElem?_eq_none (by rw [bc_len]; exact hge)] at hj; cases hj
    rw [bc_get hjl] at hj
    cases hj
    rw [Go.WideShapes.add_plain]
    exact (hb.cell (p := ⟨b, off + j, none⟩) hlt).trans (hc j hjl)
  have HS : Hid (∀ cur : List Value, cur.length = n → splice cur 0 (bc l) = bc l) := fun cur hc => by
    unfold splice
    rw [List.drop_of_length_le (by rw [bc_len]; omega)]; simp
  have hbl : (bc l).length = n := by rw [bc_len, hl]
  go_enter Tryd.func49, Tryd.ntmps49
  go_wp2_with (first
    | (at_make; refine wpList_make_full _ rfl _ _ 22 rfl w.heap.size 5 i0 (.int .u8 0) 1 Tryd.underlying22 hi hz0 hz1 .i64 .i64 _ _ n rfl rfl rfl rfl (by rw [hz2]; omega) (by unfold maxLen; omega) (Nat.le_refl _) ?_; intro w0 hown0 hgrow0; obtain ⟨cur, hg, hcl⟩ := rowJ hown0; have hb0 : Below w.heap.size w w0 := (Below.refl _ _).grown hgrow0 (Nat.le_refl _) (by intro k hk; cases hk); clear hown0 hgrow0)
    | (refine wpList_copy_splice rfl _ _ 22 22 rfl 5 Tryd.underlying22 hsz1 (some ⟨w.heap.size, 0, none⟩) a n n n cap rfl rfl w.heap.size 0 cur 5 hg (bc l) (by rw [hbl]; exact (Nat.min_self n).symm) (fun hp => ⟨rfl, HP.out _ hb0 hp⟩) (by omega) (bc_one l) w.heap.size w hb0 (Nat.le_refl _) ?_; intro w1 hg1 hb1; have hg1' := hg1.out; rw [HS.out cur hcl] at hg1'; have HO : Hid (Own w1 w.heap.size (.slice (some ⟨w.heap.size, 0, none⟩) n n) l) := (by unfold Hid Own; rw [hl]; exact ⟨by rw [hbl]; simp, .inr ⟨w.heap.size, n, (bc l).toArray, rfl, Nat.le_refl _, hg1', Nat.le_refl _, by unfold maxLen; omega, by simp [hbl], by rw [List.take_of_length_le (by simp [hbl])]⟩⟩); clear hg1 hg1' hg HP HS))
  go_wp2
  go_ret
  exact ⟨_, rfl, HO.out, hb1⟩
end Go.Proofs.YtdcgihcjiiemdaaDoor

namespace Go.Proofs.YtdcgihcjiiemdaaDoor
open Go.RowKit

/-- The marks: n numbers from k on, what 256 leaves of them. -/
def marks (n k : Nat) : List Nat := (List.range n).map fun i => (k + i) % 256
end Go.Proofs.YtdcgihcjiiemdaaDoor

namespace Go.Proofs.YtdcgihcjiiemdaaDoor
open Go.RowKit

end Go.Proofs.YtdcgihcjiiemdaaDoor

namespace Go.Proofs.YtdcgihcjiiemdaaDoor
open Go.RowKit
set_option linter.unusedVariables false

/-- A slice with elements lies at the beginning of a block from lo on, and they may be written. -/
def WrQ (lo : Nat) (w : World) (s : SlQ) : Prop := s.2.1 = 0 ∨ ∃ g, s.1 = some ⟨g, 0, none⟩ ∧ lo ≤ g ∧ g < w.heap.size ∧ ∀ i, i < s.2.1 → (w.cell? ⟨g, i, none⟩).isSome = true ∧ w.frozen? ⟨g, i, none⟩ = false
theorem isSome_set (w : World) (p q : Addr) (v : Value) (h : (w.cell? q).isSome = true) : ((w.setCell p v).cell? q).isSome = true := by
  by_cases e : p = q
  · subst e
    obtain ⟨u, hu⟩ := Option.isSome_iff_exists.1 h
    rw [World.cell?_setCell_same _ _ _ hu]; rfl
  · rw [World.cell?_setCell_other _ _ _ _ e]; exact h
theorem WrQ.set {lo : Nat} {w : World} {s : SlQ} (h : WrQ lo w s) (p : Addr) (v : Value) : WrQ lo (w.setCell p v) s := by
  rcases h with h | ⟨g, h1, h2, h3, h4⟩
  · exact .inl h
  · exact .inr ⟨g, h1, h2, by simpa using h3, fun i hi => ⟨isSome_set _ _ _ _ (h4 i hi).1, by rw [World.frozen?_setCell]; exact (h4 i hi).2⟩⟩
theorem WrQ.below {lo : Nat} {w w' : World} {s : SlQ} (h : WrQ lo w s) (hb : Below w.heap.size w w') : WrQ lo w' s := by
  rcases h with h | ⟨g, h1, h2, h3, h4⟩
  · exact .inl h
  · exact .inr ⟨g, h1, h2, Nat.lt_of_lt_of_le h3 hb.size, fun i hi => ⟨by rw [hb.cell (p := ⟨g, i, none⟩) h3]; exact (h4 i hi).1, (hb.frozen (p := ⟨g, i, none⟩) h3).trans (h4 i hi).2⟩⟩
theorem WrQ.low {lo lo' : Nat} {w : World} {s : SlQ} (h : WrQ lo w s) (hl : lo' ≤ lo) : WrQ lo' w s := by
  rcases h with h | ⟨g, h1, h2, h3, h4⟩
  · exact .inl h
  · exact .inr ⟨g, h1, Nat.le_trans hl h2, h3, h4⟩
theorem WrQ.own {w : World} {B e n : Nat} {cap : Nat} {g : Nat} {l : List Value} (h : w.ownsRow B e 1 (.slice (some ⟨g, 0, none⟩) n cap) n l) (hB : B ≤ g) : WrQ B w (some ⟨g, 0, none⟩, n, cap) := by
  rcases h.2 with ⟨_, h0⟩ | ⟨g', cap', cur, e', hB', hg, hc1, hc2, hcs, htake⟩
  · exact .inl h0
  · injection e' with e1 e2 e3
    cases e1
    have hlt : g < w.heap.size := by
      rcases Nat.lt_or_ge g w.heap.size with hlt | hge
      · exact hlt
      · simp [Array.getElem?_eq_none hge] at hg
    refine .inr ⟨g, rfl, hB, hlt, fun i hi => ?_⟩
    have hi' : i < n := hi
    have hsz : i < cur.size := by omega
    constructor
    · simp [World.cell?, hg, hsz]
    · simp [World.frozen?, hg]
/-- Marks were written into blocks from lo on and ahead of hi. -/
def MkJ (lo hi : Nat) (w w' : World) : Prop := Below lo w w' ∧ (∀ p : Addr, hi ≤ p.block → w'.cell? p = w.cell? p) ∧ (∀ p : Addr, (w.cell? p).isSome = true → (w'.cell? p).isSome = true) ∧ ∀ p : Addr, w'.frozen? p = w.frozen? p
theorem MkJ.refl (lo hi : Nat) (w : World) : MkJ lo hi w w := ⟨Below.refl _ _, fun _ _ => rfl, fun _ h => h, fun _ => rfl⟩
theorem MkJ.trans {lo hi : Nat} {w w' w'' : World} (h : MkJ lo hi w w') (h' : MkJ lo hi w' w'') : MkJ lo hi w w'' := ⟨h.1.trans h'.1, fun p hp => (h'.2.1 p hp).trans (h.2.1 p hp), fun p hp => h'.2.2.1 p (h.2.2.1 p hp), fun p => (h'.2.2.2 p).trans (h.2.2.2 p)⟩
theorem MkJ.set {lo hi : Nat} {w w' : World} (h : MkJ lo hi w w') {g j : Nat} (x : Value) (h1 : lo ≤ g) (h2 : g < hi) : MkJ lo hi w (w'.setCell ⟨g, j, none⟩ x) := by
  refine h.trans ⟨(Below.refl _ _).setCell h1 _, fun p hp => World.cell?_setCell_other _ _ _ _ (fun e => by subst e; exact absurd h2 (Nat.not_lt.2 hp)), fun p hp => ?_, fun p => World.frozen?_setCell _ _ _ _⟩
  by_cases e : (⟨g, j, none⟩ : Addr) = p
  · subst e
    obtain ⟨u, hu⟩ := Option.isSome_iff_exists.1 hp
    rw [World.cell?_setCell_same _ _ _ hu]; rfl
  · rw [World.cell?_setCell_other _ _ _ _ e]; exact hp

theorem WrQ.mk {lo B H : Nat} {w w' : World} {s : SlQ} (h : WrQ lo w s) (hm : MkJ B H w w') : WrQ lo w' s := by
  rcases h with h | ⟨g, h1, h2, h3, h4⟩
  · exact .inl h
  · exact .inr ⟨g, h1, h2, Nat.lt_of_lt_of_le h3 hm.1.size, fun i hi => ⟨hm.2.2.1 _ (h4 i hi).1, (hm.2.2.2 _).trans (h4 i hi).2⟩⟩
/-- The same, ahead of the block hi. -/
def WrH (lo hi : Nat) (w : World) (s : SlQ) : Prop := s.2.1 = 0 ∨ ∃ g, s.1 = some ⟨g, 0, none⟩ ∧ lo ≤ g ∧ g < hi ∧ g < w.heap.size ∧ ∀ i, i < s.2.1 → (w.cell? ⟨g, i, none⟩).isSome = true ∧ w.frozen? ⟨g, i, none⟩ = false
theorem WrQ.hi {lo : Nat} {w : World} {s : SlQ} (h : WrQ lo w s) : WrH lo w.heap.size w s := by
  rcases h with h | ⟨g, h1, h2, h3, h4⟩
  · exact .inl h
  · exact .inr ⟨g, h1, h2, h3, h3, h4⟩
theorem WrH.below {lo hi : Nat} {w w' : World} {s : SlQ} (h : WrH lo hi w s) (hb : Below w.heap.size w w') : WrH lo hi w' s := by
  rcases h with h | ⟨g, h1, h2, h2', h3, h4⟩
  · exact .inl h
  · exact .inr ⟨g, h1, h2, h2', Nat.lt_of_lt_of_le h3 hb.size, fun i hi => ⟨by rw [hb.cell (p := ⟨g, i, none⟩) h3]; exact (h4 i hi).1, (hb.frozen (p := ⟨g, i, none⟩) h3).trans (h4 i hi).2⟩⟩
theorem WrH.at_ {lo hi : Nat} {w : World} {s : SlQ} (h : WrH lo hi w s) (hl : lo < hi) : ∃ g, (s.2.1 = 0 ∨ s.1 = some ⟨g, 0, none⟩) ∧ lo ≤ g ∧ g < hi ∧ ∀ i, i < s.2.1 → (w.cell? ⟨g, i, none⟩).isSome = true ∧ w.frozen? ⟨g, i, none⟩ = false := by
  rcases h with h | ⟨g, h1, h2, h2', h3, h4⟩
  · exact ⟨lo, .inl h, Nat.le_refl _, hl, fun i hi => by omega⟩
  · exact ⟨g, .inr h1, h2, h2', h4⟩
end Go.Proofs.YtdcgihcjiiemdaaDoor
