/- Ops: the laws' helpers: an op's size, a copy, whether two are the same; no conditions beyond those that each fact names. -/
import Derived.Test.YtaiificlempeaaaOpo
import Derived.Test.YtaiificlempeaaaMsb
import Derived.Test.YtaiificlempeaaaBytI
namespace Go.Proofs.Ytaiificlempeaaa
open Go.RowKit

/-- What the laws let through. -/
def FtO (o : OpR) : Prop := o.x.size ≤ 1048576 ∧ o.t.size ≤ 1048576 ∧ o.u.length ≤ 1048576 ∧ o.b.length ≤ 1048576
def OkO (o : OpR) : Prop := o.x.size ≤ maxLen ∧ o.t.size ≤ maxLen

theorem szInt64S_any (s : SlQ) (left : Int) (w : World) (h0 : 0 ≤ left) (h1 : left ≤ 1048576) (hn : s.2.1 ≤ maxLen) :
    Calls Try.prog 15 #[slW s, .int .i64 left] w fun e w' => SzQ left (s.2.1 ≤ 1048576) w e w' := by
  obtain ⟨a, n, cap⟩ := s
  dsimp only at *
  unfold maxLen at hn
  by_cases c1 : left - (n : Int) < 0
  · go_enter Try.func15, Try.ntmps15
    go_wp2
    go_ret
    exact ⟨-1, rfl, .inl rfl, by go_grown⟩
  · go_enter Try.func15, Try.ntmps15
    go_wp2
    go_ret
    exact ⟨left - (n : Int), rfl, .inr ⟨by omega, by omega, by omega⟩, by go_grown⟩

theorem toIl_any (s : SlQ) (l : List Int) {lo : Nat} (w : World) (hs : IsIl lo w s l) (hn : l.length ≤ 1048576) :
    Calls Try.prog 22 #[slW s] w fun e w' => ∃ s', e = .returned (slW s') ∧ IsIl w.heap.size w' s' l ∧ Below w.heap.size w w' :=
  (toInt64S_any s.1 s.2.1 s.2.2 l w hs.1 hs.2.2.2.1 (by rw [← hs.1]; exact hn)).mono fun _ _ ⟨he, ho, hb⟩ => ⟨(some ⟨w.heap.size, 0, none⟩, s.2.1, s.2.1), he, ⟨hs.1, Nat.le_refl _, by dsimp only; rw [← hs.1]; unfold maxLen; omega, RdI.own ho, fun x hx => by cases hx; exact Nat.le_refl _⟩, hb⟩
theorem toSl_any (s : SlQ) (l : List Nat) {lo : Nat} (w : World) (hs : IsSl lo w s l) (hn : l.length ≤ 1048576) :
    Calls Try.prog 21 #[slW s] w fun e w' => ∃ s', e = .returned (slW s') ∧ IsSl w.heap.size w' s' l ∧ Below w.heap.size w w' :=
  (toByteS_any s.1 s.2.1 s.2.2 l w hs.1 hs.2.2.2.2.1 (by rw [← hs.1]; exact hn)).mono fun _ _ ⟨he, ho, hb⟩ => ⟨(some ⟨w.heap.size, 0, none⟩, s.2.1, s.2.1), he, ⟨hs.1, Nat.le_refl _, by dsimp only; rw [← hs.1]; unfold maxLen; omega, hs.2.2.2.1, Rd.own ho, fun x hx => by cases hx; exact Nat.le_refl _⟩, hb⟩
theorem eqIl_same (s s' : SlQ) (l : List Int) {lo lo' : Nat} (w : World) (hs : IsIl lo w s l) (hs' : IsIl lo' w s' l) (hn : l.length ≤ 1048576) :
    Calls Try.prog 30 #[slW s, slW s'] w fun e w' => e = .returned (.bool true) ∧ Below w.heap.size w w' := by
  have he : s'.2.1 = s.2.1 := by rw [← hs.1, ← hs'.1]
  have := eqInt64S_same s.1 s'.1 s.2.1 s.2.2 s'.2.2 l w hs.1 hs.2.2.2.1 hs'.2.2.2.1 (by rw [← hs.1]; exact hn)
  unfold slW
  rw [he]
  exact this
theorem eqSl_same (s s' : SlQ) (l : List Nat) {lo lo' : Nat} (w : World) (hs : IsSl lo w s l) (hs' : IsSl lo' w s' l) (hn : l.length ≤ 1048576) :
    Calls Try.prog 29 #[slW s, slW s'] w fun e w' => e = .returned (.bool true) ∧ Below w.heap.size w w' := by
  have he : s'.2.1 = s.2.1 := by rw [← hs.1, ← hs'.1]
  have := eqByteS_same s.1 s'.1 s.2.1 s.2.2 s'.2.2 l w hs.1 hs.2.2.2.2.1 hs'.2.2.2.2.1 (by rw [← hs.1]; exact hn)
  unfold slW
  rw [he]
  exact this

end Go.Proofs.Ytaiificlempeaaa
