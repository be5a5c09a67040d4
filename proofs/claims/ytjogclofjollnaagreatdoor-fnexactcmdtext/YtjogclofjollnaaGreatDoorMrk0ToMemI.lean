/- Words on rows of memory, and on texts: no program in them · Words on memory, with no program in them: where a row of elements of four cells is read (messages: three numbers and bytes; mailboxes: a text, two numbers and messages), and what a copy in the making holds · Words on memory, with no program in them: where a slice of whole numbers is read, what a row of the call's own holds; no conditions beyond those that each fact names. -/
import Derived.Test.YtjogclofjollnaaGreatDoorJfzToApp
import Derived.Handy
import Derived.OpenShut
namespace Go.Proofs.YtjogclofjollnaaGreatDoor
open Go.RowKit
theorem str_surj (s : ByteArray) : ∃ t, s = str t ∧ IsB t := by
 refine ⟨s.data.toList.map UInt8.toNat, ?_, ?_⟩
 ·obtain ⟨d⟩ := s
  unfold str
  congr 1
  rw [List.map_map]
  have : (UInt8.ofNat ∘ UInt8.toNat) = id := by funext b; simp
  rw [this]
  simp
 ·intro b hb
  simp only [List.mem_map] at hb
  obtain ⟨u, _, rfl⟩ := hb
  exact u.toNat_lt
end Go.Proofs.YtjogclofjollnaaGreatDoor
namespace Go.Proofs.YtjogclofjollnaaGreatDoor
open Go.RowKit
abbrev SlQ := Option Addr × Nat × Nat
abbrev slW (p : SlQ) : Value := .slice p.1 p.2.1 p.2.2
abbrev Qd := Value × Value × Value × Value
structure Msg where
 u : Int
 f : Int
 d : Int
 b : List Nat
def nthM (l : List Msg) (i : Nat) : Msg := l.getD i ⟨0, 0, 0, []⟩
def Near (lo : Nat) (w w' : World) : Prop := w.heap.size ≤ w'.heap.size ∧ ∀ p : Addr, lo ≤ p.block → p.block < w.heap.size → w'.cell? p = w.cell? p
theorem Near.refl (lo : Nat) (w : World) : Near lo w w := ⟨Nat.le_refl _, fun _ _ _ => rfl⟩
theorem Near.of_below {lo : Nat} {w w' : World} (hb : Below w.heap.size w w') : Near lo w w' := ⟨hb.size, fun _ _ hlt => hb.cell hlt⟩
theorem Near.trans {lo : Nat} {w w' w'' : World} (h : Near lo w w') (h' : Near lo w' w'') : Near lo w w'' := ⟨Nat.le_trans h.1 h'.1, fun p hp hlt => (h'.2 p hp (Nat.lt_of_lt_of_le hlt h.1)).trans (h.2 p hp hlt)⟩
theorem Near.mono {lo lo' : Nat} {w w' : World} (h : Near lo w w') (hl : lo ≤ lo') : Near lo' w w' := ⟨h.1, fun p hp hlt => h.2 p (Nat.le_trans hl hp) hlt⟩
theorem Near.set {lo : Nat} {w : World} {g j : Nat} (v : Value) (hg : g < lo) : Near lo w (w.setCell ⟨g, j, none⟩ v) :=
 ⟨by simp, fun p hp _ => World.cell?_setCell_other _ _ _ _ (fun h => by subst h; exact absurd hg (Nat.not_lt.2 hp))⟩
theorem Rd.near {lo : Nat} {w w' : World} {a : Option Addr} {l : List Nat} (h : Rd w a l) (hlo : ∀ x, a = some x → lo ≤ x.block) (hb : Near lo w w') : Rd w' a l := by
 rcases h with h | ⟨b, off, e, hlt, hc⟩
 ·exact .inl h
 ·have := hlo _ e
  exact .inr ⟨b, off, e, Nat.lt_of_lt_of_le hlt hb.1, fun i hi => (hb.2 ⟨b, off + i, none⟩ this hlt).trans (hc i hi)⟩
def IsSl (lo : Nat) (w : World) (s : SlQ) (d : List Nat) : Prop := d.length = s.2.1 ∧ s.2.1 ≤ s.2.2 ∧ s.2.2 ≤ maxLen ∧ IsB d ∧ Rd w s.1 d ∧ ∀ x, s.1 = some x → lo ≤ x.block
theorem IsSl.near {lo : Nat} {w w' : World} {s : SlQ} {d : List Nat} (h : IsSl lo w s d) (hb : Near lo w w') : IsSl lo w' s d := ⟨h.1, h.2.1, h.2.2.1, h.2.2.2.1, h.2.2.2.2.1.near h.2.2.2.2.2 hb, h.2.2.2.2.2⟩
theorem IsSl.below {lo : Nat} {w w' : World} {s : SlQ} {d : List Nat} (h : IsSl lo w s d) (hb : Below w.heap.size w w') : IsSl lo w' s d := h.near (.of_below hb)
theorem IsSl.low {lo lo' : Nat} {w : World} {s : SlQ} {d : List Nat} (h : IsSl lo w s d) (hl : lo' ≤ lo) : IsSl lo' w s d := ⟨h.1, h.2.1, h.2.2.1, h.2.2.2.1, h.2.2.2.2.1, fun x hx => Nat.le_trans hl (h.2.2.2.2.2 x hx)⟩
def RdM (lo : Nat) (w : World) (a : Option Addr) (l : List Msg) : Prop :=
 l = [] ∨ ∃ b off, a = some ⟨b, off, none⟩ ∧ lo ≤ b ∧ b < w.heap.size ∧ ∀ i, i < l.length → ∃ s, (w.cell? ⟨b, off + i * 4, none⟩ = some (.int .i64 (nthM l i).u) ∧ w.cell? ⟨b, off + i * 4 + 1, none⟩ = some (.int .i64 (nthM l i).f) ∧ w.cell? ⟨b, off + i * 4 + 2, none⟩ = some (.int .i64 (nthM l i).d) ∧ w.cell? ⟨b, off + i * 4 + 3, none⟩ = some (slW s)) ∧ IsSl lo w s (nthM l i).b
theorem RdM.near {lo : Nat} {w w' : World} {a : Option Addr} {l : List Msg} (h : RdM lo w a l) (hb : Near lo w w') : RdM lo w' a l := by
 rcases h with h | ⟨b, off, e, hlo, hlt, hc⟩
 ·exact .inl h
 ·refine .inr ⟨b, off, e, hlo, Nat.lt_of_lt_of_le hlt hb.1, fun i hi => ?_⟩
  obtain ⟨s, ⟨c0, c1, c2, c3⟩, hs⟩ := hc i hi
  exact ⟨s, ⟨(hb.2 ⟨b, off + i * 4, none⟩ hlo hlt).trans c0, (hb.2 ⟨b, off + i * 4 + 1, none⟩ hlo hlt).trans c1, (hb.2 ⟨b, off + i * 4 + 2, none⟩ hlo hlt).trans c2, (hb.2 ⟨b, off + i * 4 + 3, none⟩ hlo hlt).trans c3⟩, hs.near hb⟩
theorem RdM.below {lo : Nat} {w w' : World} {a : Option Addr} {l : List Msg} (h : RdM lo w a l) (hb : Below w.heap.size w w') : RdM lo w' a l := h.near (.of_below hb)
theorem RdM.low {lo lo' : Nat} {w : World} {a : Option Addr} {l : List Msg} (h : RdM lo w a l) (hl : lo' ≤ lo) : RdM lo' w a l := by
 rcases h with h | ⟨b, off, e, hlo, hlt, hc⟩
 ·exact .inl h
 ·refine .inr ⟨b, off, e, Nat.le_trans hl hlo, hlt, fun i hi => ?_⟩
  obtain ⟨s, c, hs⟩ := hc i hi
  exact ⟨s, c, hs.low hl⟩
theorem RdM.at_ {lo : Nat} {w : World} {a : Option Addr} {l : List Msg} (h : RdM lo w a l) (hp : 0 < l.length) :
  ∃ b off, a = some ⟨b, off, none⟩ ∧ lo ≤ b ∧ b < w.heap.size ∧ ∀ i, i < l.length → ∃ s, (w.cell? ⟨b, off + i * 4, none⟩ = some (.int .i64 (nthM l i).u) ∧ w.cell? ⟨b, off + i * 4 + 1, none⟩ = some (.int .i64 (nthM l i).f) ∧ w.cell? ⟨b, off + i * 4 + 2, none⟩ = some (.int .i64 (nthM l i).d) ∧ w.cell? ⟨b, off + i * 4 + 3, none⟩ = some (slW s)) ∧ IsSl lo w s (nthM l i).b := by
 rcases h with h | h
 ·rw [h] at hp; simp at hp
 ·exact h
def IsMs (lo : Nat) (w : World) (s : SlQ) (l : List Msg) : Prop := l.length = s.2.1 ∧ s.2.1 ≤ s.2.2 ∧ s.2.2 ≤ maxLen ∧ RdM lo w s.1 l
theorem IsMs.near {lo : Nat} {w w' : World} {s : SlQ} {l : List Msg} (h : IsMs lo w s l) (hb : Near lo w w') : IsMs lo w' s l := ⟨h.1, h.2.1, h.2.2.1, h.2.2.2.near hb⟩
theorem IsMs.below {lo : Nat} {w w' : World} {s : SlQ} {l : List Msg} (h : IsMs lo w s l) (hb : Below w.heap.size w w') : IsMs lo w' s l := h.near (.of_below hb)
theorem IsMs.low {lo lo' : Nat} {w : World} {s : SlQ} {l : List Msg} (h : IsMs lo w s l) (hl : lo' ≤ lo) : IsMs lo' w s l := ⟨h.1, h.2.1, h.2.2.1, h.2.2.2.low hl⟩
structure Bx where
 n : ByteArray
 v : Int
 x : Int
 m : List Msg
def nthX (l : List Bx) (i : Nat) : Bx := l.getD i ⟨ByteArray.empty, 0, 0, []⟩
def RdX (lo : Nat) (w : World) (a : Option Addr) (l : List Bx) : Prop :=
 l = [] ∨ ∃ b off, a = some ⟨b, off, none⟩ ∧ lo ≤ b ∧ b < w.heap.size ∧ ∀ i, i < l.length → ∃ s, (w.cell? ⟨b, off + i * 4, none⟩ = some (.string (nthX l i).n) ∧ w.cell? ⟨b, off + i * 4 + 1, none⟩ = some (.int .i64 (nthX l i).v) ∧ w.cell? ⟨b, off + i * 4 + 2, none⟩ = some (.int .i64 (nthX l i).x) ∧ w.cell? ⟨b, off + i * 4 + 3, none⟩ = some (slW s)) ∧ IsMs lo w s (nthX l i).m
theorem RdX.near {lo : Nat} {w w' : World} {a : Option Addr} {l : List Bx} (h : RdX lo w a l) (hb : Near lo w w') : RdX lo w' a l := by
 rcases h with h | ⟨b, off, e, hlo, hlt, hc⟩
 ·exact .inl h
 ·refine .inr ⟨b, off, e, hlo, Nat.lt_of_lt_of_le hlt hb.1, fun i hi => ?_⟩
  obtain ⟨s, ⟨c0, c1, c2, c3⟩, hs⟩ := hc i hi
  exact ⟨s, ⟨(hb.2 ⟨b, off + i * 4, none⟩ hlo hlt).trans c0, (hb.2 ⟨b, off + i * 4 + 1, none⟩ hlo hlt).trans c1, (hb.2 ⟨b, off + i * 4 + 2, none⟩ hlo hlt).trans c2, (hb.2 ⟨b, off + i * 4 + 3, none⟩ hlo hlt).trans c3⟩, hs.near hb⟩
theorem RdX.below {lo : Nat} {w w' : World} {a : Option Addr} {l : List Bx} (h : RdX lo w a l) (hb : Below w.heap.size w w') : RdX lo w' a l := h.near (.of_below hb)
theorem RdX.low {lo lo' : Nat} {w : World} {a : Option Addr} {l : List Bx} (h : RdX lo w a l) (hl : lo' ≤ lo) : RdX lo' w a l := by
 rcases h with h | ⟨b, off, e, hlo, hlt, hc⟩
 ·exact .inl h
 ·refine .inr ⟨b, off, e, Nat.le_trans hl hlo, hlt, fun i hi => ?_⟩
  obtain ⟨s, c, hs⟩ := hc i hi
  exact ⟨s, c, hs.low hl⟩
theorem RdX.at_ {lo : Nat} {w : World} {a : Option Addr} {l : List Bx} (h : RdX lo w a l) (hp : 0 < l.length) :
  ∃ b off, a = some ⟨b, off, none⟩ ∧ lo ≤ b ∧ b < w.heap.size ∧ ∀ i, i < l.length → ∃ s, (w.cell? ⟨b, off + i * 4, none⟩ = some (.string (nthX l i).n) ∧ w.cell? ⟨b, off + i * 4 + 1, none⟩ = some (.int .i64 (nthX l i).v) ∧ w.cell? ⟨b, off + i * 4 + 2, none⟩ = some (.int .i64 (nthX l i).x) ∧ w.cell? ⟨b, off + i * 4 + 3, none⟩ = some (slW s)) ∧ IsMs lo w s (nthX l i).m := by
 rcases h with h | h
 ·rw [h] at hp; simp at hp
 ·exact h
def IsXs (lo : Nat) (w : World) (s : SlQ) (l : List Bx) : Prop := l.length = s.2.1 ∧ s.2.1 ≤ s.2.2 ∧ s.2.2 ≤ maxLen ∧ RdX lo w s.1 l
theorem IsXs.near {lo : Nat} {w w' : World} {s : SlQ} {l : List Bx} (h : IsXs lo w s l) (hb : Near lo w w') : IsXs lo w' s l := ⟨h.1, h.2.1, h.2.2.1, h.2.2.2.near hb⟩
theorem IsXs.below {lo : Nat} {w w' : World} {s : SlQ} {l : List Bx} (h : IsXs lo w s l) (hb : Below w.heap.size w w') : IsXs lo w' s l := h.near (.of_below hb)
theorem IsXs.low {lo lo' : Nat} {w : World} {s : SlQ} {l : List Bx} (h : IsXs lo w s l) (hl : lo' ≤ lo) : IsXs lo' w s l := ⟨h.1, h.2.1, h.2.2.1, h.2.2.2.low hl⟩
end Go.Proofs.YtjogclofjollnaaGreatDoor
namespace Go.Proofs.YtjogclofjollnaaGreatDoor
open Go.RowKit
def nthI (l : List Int) (i : Nat) : Int := l.getD i 0
def ic (l : List Int) : List Value := l.map fun (b : Int) => Value.int .i64 b
theorem nthI_get {l : List Int} {i : Nat} (h : i < l.length) : nthI l i = l[i] := by
 unfold nthI; rw [List.getD_eq_getElem?_getD, List.getElem?_eq_getElem h]; rfl
theorem ic_len (l : List Int) : (ic l).length = l.length := by simp [ic]
theorem ic_app (a b : List Int) : ic (a ++ b) = ic a ++ ic b := by simp [ic]
theorem ic_get {l : List Int} {i : Nat} (h : i < l.length) : (ic l)[i]? = some (.int .i64 (nthI l i)) := by
 rw [nthI_get h]; simp [ic, h]
theorem nthI_drop (l : List Int) (k i : Nat) : nthI (l.drop k) i = nthI l (k + i) := by
 simp [nthI, List.getD_eq_getElem?_getD, List.getElem?_drop]
theorem take_snocI (l : List Int) (k : Nat) (h : k < l.length) : l.take (k + 1) = l.take k ++ [nthI l k] := by
 rw [List.take_succ_eq_append_getElem h, nthI_get h]
def RdI (w : World) (a : Option Addr) (l : List Int) : Prop :=
 l = [] ∨ ∃ b off, a = some ⟨b, off, none⟩ ∧ b < w.heap.size ∧ ∀ i, i < l.length → w.cell? ⟨b, off + i, none⟩ = some (.int .i64 (nthI l i))
theorem RdI.below {w w' : World} {a : Option Addr} {l : List Int} (h : RdI w a l) (hb : Below w.heap.size w w') : RdI w' a l := by
 rcases h with h | ⟨b, off, e, hlt, hc⟩
 ·exact .inl h
 ·exact .inr ⟨b, off, e, Nat.lt_of_lt_of_le hlt hb.size, fun i hi => (hb.cell (p := ⟨b, off + i, none⟩) hlt).trans (hc i hi)⟩
theorem RdI.at_ {w : World} {a : Option Addr} {l : List Int} (h : RdI w a l) (hp : 0 < l.length) :
  ∃ b off, a = some ⟨b, off, none⟩ ∧ b < w.heap.size ∧ ∀ i, i < l.length → w.cell? ⟨b, off + i, none⟩ = some (.int .i64 (nthI l i)) := by
 rcases h with h | h
 ·rw [h] at hp; simp at hp
 ·exact h
theorem RdI.drop {w : World} {b off : Nat} {l : List Int} (h : RdI w (some ⟨b, off, none⟩) l) (k : Nat) : RdI w (some ⟨b, off + k, none⟩) (l.drop k) := by
 rcases h with h | ⟨b', off', e, hlt, hc⟩
 ·left; simp [h]
 ·obtain ⟨rfl, rfl⟩ : b = b' ∧ off = off' := by simpa using e
  right
  refine ⟨b, off + k, rfl, hlt, fun i hi => ?_⟩
  rw [List.length_drop] at hi
  rw [nthI_drop, Nat.add_assoc]
  exact hc (k + i) (by omega)
theorem RdI.own {w : World} {base e n cap : Nat} {a : Option Addr} {l : List Int} (h : w.ownsRow base e 1 (.slice a n cap) n (ic l)) : RdI w a l := by
 have hl : l.length = n := by simpa [ic_len] using h.1
 rcases h.2 with ⟨_, h0⟩ | ⟨g, cap', cur, h', _, hg, _, _, _, htake⟩
 ·left; exact List.length_eq_zero_iff.1 (by omega)
 ·simp only [Value.slice.injEq] at h'
  obtain ⟨rfl, _, rfl⟩ := h'
  right
  refine ⟨g, 0, rfl, ?_, fun i hi => ?_⟩
  ·rcases Nat.lt_or_ge g w.heap.size with hlt | hge
   ·exact hlt
   ·simp [Array.getElem?_eq_none hge] at hg
  ·rw [cell_of_row w g (0 + i) cur e (0, 0) hg, ← ic_get hi, ← htake, List.getElem?_take, if_pos (by omega)]
   simp
theorem made_bytesI (n : Nat) : (madeCells (Value.int .i64 0).cells (n * 1)).toList = ic (List.replicate n 0) := by
 rw [Nat.mul_one]
 show (madeCells #[Value.int .i64 0] n).toList = _
 rw [toList_madeCells_one]
 simp [ic]
def halfI (l : List Int) (k : Nat) : List Int := l.take k ++ List.replicate (l.length - k) 0
theorem halfI_zero (l : List Int) : halfI l 0 = List.replicate l.length 0 := by simp [halfI]
theorem halfI_all (l : List Int) : halfI l l.length = l := by simp [halfI]
theorem halfI_len (l : List Int) (k : Nat) (h : k ≤ l.length) : (halfI l k).length = l.length := by simp [halfI]; omega
theorem halfI_set (l : List Int) (k : Nat) (h : k < l.length) : (ic (halfI l k)).set k (.int .i64 (nthI l k)) = ic (halfI l (k + 1)) := by
 have e : l.length - k = (l.length - (k + 1)) + 1 := by omega
 unfold halfI
 have hk : (ic (l.take k)).length = k := by simp [ic]; omega
 rw [take_snocI l k h, ic_app, List.set_append, hk, if_neg (Nat.lt_irrefl k), e, List.replicate_succ, Nat.sub_self]
 simp [ic]
theorem IsRow.rdI {w : World} {a : Option Addr} {len cap : Nat} {zs : List Int} (h : IsRow .i64 w a len cap zs) : ∃ l : List Int, l.length = len ∧ RdI w a l ∧ len ≤ maxLen := by
 rcases h with ⟨_, rfl, _, rfl⟩ | ⟨x, rfl, hl, hm, hz, hcell, hwz⟩
 ·exact ⟨[], rfl, .inl rfl, by decide⟩
 ·refine ⟨zs.take len, by simp; omega, ?_, by omega⟩
  by_cases h0 : zs.length = 0
  ·left
   have : zs = [] := List.length_eq_zero_iff.1 h0
   subst this; simp
  ·obtain ⟨b, off, rfl, hc⟩ := ints_at hcell (by omega)
   right
   refine ⟨b, off, rfl, World.block_lt_of_cell? w _ (hc 0 (by omega)), fun i hi => ?_⟩
   have hi' : i < len := by simp at hi; omega
   have hiz : i < zs.length := by omega
   rw [hc i hiz, nthI_get hi]
   simp [hiz]
end Go.Proofs.YtjogclofjollnaaGreatDoor
