/- Each helper of the laws over slices of bytes does what its text says: it copies one, and holds two against each other; slices of at most 1048576 bytes · Messages: their size, a copy, whether two are the same, and their fault, on both sides; no conditions beyond those that each fact names · Messages: the laws' helpers: a message's size, a copy, whether two are the same; no conditions beyond those that each fact names · Each helper of the laws over slices of whole numbers does what its text says: it copies one, and holds two against each other; slices of at most 1048576 numbers · Ops: the laws' helpers: an op's size, a copy, whether two are the same; no conditions beyond those that each fact names · A slice of ranges that came in: what the row tells of it gives its cells; no program in it. -/
import Derived.Test.YthmimalplpjghaaGreatDoorJfzToInf
import Derived.Test.YthmimalplpjghaaGreatDoorMqr
import Derived.Deep.RegionHeld3
import Derived.Test.YthmimalplpjghaaGreatDoorMemI
import Derived.Test.YthmimalplpjghaaGreatDoorProg
import Derived.BigQuiet
import Derived.Deep.QuietTactic
import Derived.KernelRfl
import Derived.Test.YthmimalplpjghaaGreatDoorOpo
import Derived.Test.YthmimalplpjghaaGreatDoorMemY
import Derived.ChangeArms
import Derived.DataReads
namespace Go.Proofs.YthmimalplpjghaaGreatDoor
open Go.RowKit

end Go.Proofs.YthmimalplpjghaaGreatDoor

namespace Go.Proofs.YthmimalplpjghaaGreatDoor
open Go.RowKit

end Go.Proofs.YthmimalplpjghaaGreatDoor

namespace Go.Proofs.YthmimalplpjghaaGreatDoor
open Go.RowKit

/-- How the reckoning of a size ends. -/
def SzQ (left : Int) (C : Prop) (w : World) (e : Ending) (w' : World) : Prop := ∃ r : Int, e = .returned (.int .i64 r) ∧ (r = -1 ∨ 0 ≤ r ∧ r ≤ left ∧ C) ∧ Below w.heap.size w w'

/-- Four cells of a block. -/
def Qc (w : World) (g : Nat) (q : Qd) : Prop := w.cell? ⟨g, 0, none⟩ = some q.1 ∧ w.cell? ⟨g, 1, none⟩ = some q.2.1 ∧ w.cell? ⟨g, 2, none⟩ = some q.2.2.1 ∧ w.cell? ⟨g, 3, none⟩ = some q.2.2.2
theorem Qc.below {C : Nat} {w w' : World} {g : Nat} {q : Qd} (h : Qc w g q) (hb : Below C w w') (hg : g < C) : Qc w' g q :=
  ⟨(hb.cell (p := ⟨g, 0, none⟩) hg).trans h.1, (hb.cell (p := ⟨g, 1, none⟩) hg).trans h.2.1, (hb.cell (p := ⟨g, 2, none⟩) hg).trans h.2.2.1, (hb.cell (p := ⟨g, 3, none⟩) hg).trans h.2.2.2⟩
theorem Qc.new (w : World) (c0 c1 c2 c3 : Value) (t : TypeId) : Qc (w.alloc (.cells #[c0, c1, c2, c3] t)) w.heap.size (c0, c1, c2, c3) := ⟨by simp, by simp, by simp, by simp⟩
theorem Qc.lt {w : World} {g : Nat} {q : Qd} (h : Qc w g q) : g < w.heap.size := World.block_lt_of_cell? w ⟨g, 0, none⟩ h.1

end Go.Proofs.YthmimalplpjghaaGreatDoor

namespace Go.Proofs.YthmimalplpjghaaGreatDoor
open Go.RowKit

theorem infoBI : (Tryz.prog.info? 2).map (fun i => (i.zero, i.size, i.bytes)) = some (some (.int .i64 0), 1, 8) := by kernel_rfl

set_option maxHeartbeats 800000 in
set_option maxRecDepth 100000 in
theorem toInt64S_any (a : Option Addr) (n cap : Nat) (l : List Int) (w : World) (hl : l.length = n) (hr : RdI w a l) (hn : n ≤ 1048576) :
    Calls Tryz.prog 137 #[.slice a n cap] w fun e w' =>
      e = .returned (.slice (some ⟨w.heap.size, 0, none⟩) n n) ∧ w'.ownsRow w.heap.size 2 1 (.slice (some ⟨w.heap.size, 0, none⟩) n n) n (ic l) ∧ Below w.heap.size w w' := by
  obtain ⟨i0, hi, hz0, hz1, hz2⟩ := info_parts infoBI
  go_enter Tryz.func137, Tryz.ntmps137
  go_wp2_with (at_make; refine wpList_make_full _ rfl _ _ 44 rfl w.heap.size 2 i0 (.int .i64 0) 1 Tryz.underlying44 hi hz0 hz1 .i64 .i64 _ _ n rfl rfl rfl rfl (by rw [hz2]; omega) (by unfold maxLen; omega) (Nat.le_refl _) ?_; intro w0 hown0 hgrow0)
  rw [made_bytesI, ← hl, ← halfI_zero l, hl] at hown0
  have hbel0 : Below w.heap.size w w0 := (Below.refl _ _).grown hgrow0 (Nat.le_refl _) (by intro k hk; cases hk)
  clear hgrow0
  go_loopw [4] (fun i wr => ∃ k : Nat, k ≤ n ∧ i = .int .i64 k ∧ wr.ownsRow w.heap.size 2 1 (.slice (some ⟨w.heap.size, 0, none⟩) n n) n (ic (halfI l k)) ∧ Below w.heap.size w wr)
    (fun i _ => n - (intOf i).toNat)
  case atStart => exact ⟨0, Nat.zero_le _, rfl, hown0, hbel0⟩
  case round =>
    obtain ⟨k, hk, rfl, hown, hbel⟩ := hrel
    clear hown0 hbel0
    by_cases hkn : k < n
    · obtain ⟨b, off, rfl, hblt, hcell⟩ := hr.at_ (by omega)
      have hc : wr.cell? ⟨b, off + k, none⟩ = some (.int .i64 (nthI l k)) := (hbel.cell (p := ⟨b, off + k, none⟩) hblt).trans (hcell k (by omega))
      have hk' : k < (halfI l k).length := by rw [halfI_len l k (by omega)]; omega
      have hg : wr.cell? ⟨w.heap.size, k, none⟩ = some (.int .i64 (nthI (halfI l k) k)) := by rw [hown.cellAt k (by omega)]; exact ic_get hk'
      have hf := hown.frozenAt k
      obtain ⟨hst, hgr⟩ := hown.stored k (.int .i64 (nthI l k))
      rw [halfI_set l k (by omega)] at hst
      have hbel' : Below w.heap.size w (wr.setCell ⟨w.heap.size, k, none⟩ (.int .i64 (nthI l k))) := hbel.grown hgr hbel.size (by intro j hj; simp at hj; omega)
      clear hgr hcell hown
      go_wp2
      go_roundw
      case rel => exact ⟨k + 1, by omega, by go_num, hst, hbel'⟩
      case measure => simp [intOf]; omega
    · have hkk : k = n := by omega
      subst hkk
      rw [← hl, halfI_all, hl] at hown
      go_wp2
      go_ret
      exact ⟨rfl, hown, hbel⟩

set_option maxHeartbeats 800000 in
set_option maxRecDepth 100000 in
theorem eqInt64S_same (a c : Option Addr) (n cap cap' : Nat) (l : List Int) (w : World) (hl : l.length = n) (hr : RdI w a l) (hs : RdI w c l) (hn : n ≤ 1048576) :
    Calls Tryz.prog 87 #[.slice a n cap, .slice c n cap'] w fun e w' => e = .returned (.bool true) ∧ Below w.heap.size w w' := by
  go_enter Tryz.func87, Tryz.ntmps87
  go_wp2
  go_loopw [5] (fun i wr => ∃ k : Nat, k ≤ n ∧ i = .int .i64 k ∧ Below w.heap.size w wr) (fun i _ => n - (intOf i).toNat)
  case atStart => exact ⟨0, Nat.zero_le _, rfl, Below.refl _ _⟩
  case round =>
    obtain ⟨k, hk, rfl, hbel⟩ := hrel
    by_cases hkn : k < n
    · obtain ⟨b, off, rfl, hblt, hcell⟩ := hr.at_ (by omega)
      obtain ⟨d, off', rfl, hdlt, hdell⟩ := hs.at_ (by omega)
      have hc : wr.cell? ⟨b, off + k, none⟩ = some (.int .i64 (nthI l k)) := (hbel.cell (p := ⟨b, off + k, none⟩) hblt).trans (hcell k (by omega))
      have hd : wr.cell? ⟨d, off' + k, none⟩ = some (.int .i64 (nthI l k)) := (hbel.cell (p := ⟨d, off' + k, none⟩) hdlt).trans (hdell k (by omega))
      have hki : (k : Int) < (n : Int) := by omega
      clear hcell hdell hr hs
      go_wp2
      go_quiet (fail)
      go_wp2
      go_roundw
      case rel => exact ⟨k + 1, by omega, by go_num, below_drewN hbel _⟩
      case measure => simp [intOf]; omega
    · go_wp2
      go_ret
      exact ⟨rfl, hbel⟩
end Go.Proofs.YthmimalplpjghaaGreatDoor

namespace Go.Proofs.YthmimalplpjghaaGreatDoor
open Go.RowKit

theorem szInt64S_any (s : SlQ) (left : Int) (w : World) (h0 : 0 ≤ left) (h1 : left ≤ 1048576) (hn : s.2.1 ≤ maxLen) :
    Calls Tryz.prog 135 #[slW s, .int .i64 left] w fun e w' => SzQ left (s.2.1 ≤ 1048576) w e w' := by
  obtain ⟨a, n, cap⟩ := s
  dsimp only at *
  unfold maxLen at hn
  by_cases c1 : left - (n : Int) < 0
  · go_enter Tryz.func135, Tryz.ntmps135
    go_wp2
    go_ret
    exact ⟨-1, rfl, .inl rfl, by go_grown⟩
  · go_enter Tryz.func135, Tryz.ntmps135
    go_wp2
    go_ret
    exact ⟨left - (n : Int), rfl, .inr ⟨by omega, by omega, by omega⟩, by go_grown⟩

theorem toIl_any (s : SlQ) (l : List Int) {lo : Nat} (w : World) (hs : IsIl lo w s l) (hn : l.length ≤ 1048576) :
    Calls Tryz.prog 137 #[slW s] w fun e w' => ∃ s', e = .returned (slW s') ∧ IsIl w.heap.size w' s' l ∧ Below w.heap.size w w' :=
  (toInt64S_any s.1 s.2.1 s.2.2 l w hs.1 hs.2.2.2.1 (by rw [← hs.1]; exact hn)).mono fun _ _ ⟨he, ho, hb⟩ => ⟨(some ⟨w.heap.size, 0, none⟩, s.2.1, s.2.1), he, ⟨hs.1, Nat.le_refl _, by dsimp only; rw [← hs.1]; unfold maxLen; omega, RdI.own ho, fun x hx => by cases hx; exact Nat.le_refl _⟩, hb⟩
theorem eqIl_same (s s' : SlQ) (l : List Int) {lo lo' : Nat} (w : World) (hs : IsIl lo w s l) (hs' : IsIl lo' w s' l) (hn : l.length ≤ 1048576) :
    Calls Tryz.prog 87 #[slW s, slW s'] w fun e w' => e = .returned (.bool true) ∧ Below w.heap.size w w' := by
  have he : s'.2.1 = s.2.1 := by rw [← hs.1, ← hs'.1]
  have := eqInt64S_same s.1 s'.1 s.2.1 s.2.2 s'.2.2 l w hs.1 hs.2.2.2.1 hs'.2.2.2.1 (by rw [← hs.1]; exact hn)
  unfold slW
  rw [he]
  exact this
end Go.Proofs.YthmimalplpjghaaGreatDoor

namespace Go.Proofs.YthmimalplpjghaaGreatDoor
open Go.RowKit

/-- A slice of ranges, as it came in. -/
def IsYs (w : World) (a : Option Addr) (len cap : Nat) (l : List YgP) : Prop := l.length = len ∧ len ≤ cap ∧ cap ≤ maxLen ∧ RdY w a l

theorem add_zeroY (a : Addr) : a.add 0 = a := by cases a; simp [Addr.add]
theorem add_addY (a : Addr) (i j : Nat) : (a.add i).add j = a.add (i + j) := by
  unfold Addr.add
  by_cases hi : i = 0 <;> by_cases hj : j = 0 <;> simp [hi, hj, Nat.add_assoc]
theorem open_ys {H : Type} {enc : TypeId × Value → H} {P : Program} {w : World} {base : Nat} {sp : Nat → Bool} {held : Bool} {fuel : Nat} {t e s : TypeId} {f0 f1 : Field} {a0 : Option Addr} {len0 cap0 : Nat} {x : DataW H × List MemPlace}
    (ht : P.underlying t = some (.slice e)) (he : P.underlying e = some (.struct #[f0, f1])) (hs : P.underlying s = some (.int .i64)) (h0 : f0.type = s) (h1 : f1.type = s) (o0 : f0.offset = 0) (o1 : f1.offset = 1) (cs1 : P.cellsOf s = 1) (ce : P.cellsOf e = 2)
    (h : DataW.trod enc P w base sp held fuel t [.slice a0 len0 cap0] = some x) : ∃ l, IsYs w a0 len0 cap0 l := by
  rcases DataW.trod_slice ht h with ⟨hcs, _⟩ | ⟨a, len, cap, elems, rest, n, _, hcs, _, _, hl, hm, hlen, hel, _, _⟩
  · simp at hcs
    obtain ⟨rfl, rfl, rfl⟩ := hcs
    exact ⟨[], rfl, by omega, by decide, .inl rfl⟩
  · simp at hcs
    obtain ⟨rfl, rfl, rfl⟩ := hcs
    have each : ∀ i, i < len0 → ∃ p : YgP, w.cell? (a.add (i * 2)) = some (.int .i64 p.1) ∧ w.cell? (a.add (i * 2 + 1)) = some (.int .i64 p.2) := by
      intro i hi
      have hb := hel i hi
      rw [List.getElem?_eq_getElem (by omega), Option.bind_eq_some_iff] at hb
      obtain ⟨cs', hc, hy⟩ := hb
      rw [ce] at hc
      obtain ⟨xs, n', _, _, hcl, _, hfs⟩ := DataW.trod_struct he hy
      obtain ⟨-, hcl2, hcell⟩ := World.cells?_some hc
      have hxl : xs.length = 2 := by assumption
      have g0 := hfs 0 f0 rfl
      have g1 := hfs 1 f1 rfl
      rw [h0, o0, cs1, List.getElem?_eq_getElem (by omega)] at g0
      rw [h1, o1, cs1, List.getElem?_eq_getElem (by omega)] at g1
      obtain ⟨s0, e0, -, -⟩ := DataW.trod_int hs g0
      obtain ⟨s1, e1, -, -⟩ := DataW.trod_int hs g1
      have c0 : cs'[0]? = some (.int .i64 s0) := by
        have := congrArg (·[0]?) e0
        simpa using this
      have c1 : cs'[1]? = some (.int .i64 s1) := by
        have := congrArg (·[0]?) e1
        simpa [List.getElem?_drop] using this
      refine ⟨(s0, s1), ?_, ?_⟩
      · have := hcell 0 (by omega)
        rw [c0, add_zeroY] at this
        exact this
      · have := hcell 1 (by omega)
        rw [c1, add_addY] at this
        exact this
    have hsz : ∀ i (h : i < len0), _ := fun i h => Classical.choose_spec (each i h)
    refine ⟨(List.range len0).map fun i => if h : i < len0 then Classical.choose (each i h) else (0, 0), by simp, hl, hm, ?_⟩
    · by_cases hz : len0 = 0
      · left; subst hz; rfl
      · right
        obtain ⟨b, off, spot⟩ := a
        have hspot : spot = none := by
          have := World.cell?_spot (hsz 0 (by omega)).1
          simpa [Addr.add] using this
        subst hspot
        refine ⟨b, off, rfl, World.block_lt_of_cell? w _ (hsz 0 (by omega)).1, fun i hi => ?_⟩
        have hi' : i < len0 := by simpa using hi
        have hn : nthY ((List.range len0).map fun i => if h : i < len0 then Classical.choose (each i h) else (0, 0)) i = Classical.choose (each i hi') := by
          rw [nthY_get hi]; simp [hi']
        rw [hn]
        have := hsz i hi'
        generalize Classical.choose (each i hi') = q at this ⊢
        rw [Go.WideShapes.add_plain, Go.WideShapes.add_plain] at this
        exact this
end Go.Proofs.YthmimalplpjghaaGreatDoor
